/- TreeWhole. -/
import Derived.Test.YtgldjjmpjaegfaaSzb
import Derived.Test.YtgldjjmpjaegfaaSyu
import Derived.Test.YtgldjjmpjaegfaaFew
import Derived.Test.YtgldjjmpjaegfaaYr
import Derived.Test.YtgldjjmpjaegfaaLx
namespace Go.Proofs.Ytgldjjmpjaegfaa
open Go.RowKit Go.Maps
set_option linter.unusedVariables false
set_option linter.unusedSimpArgs false
set_option maxRecDepth 100000

/-- Who was had, and where each stands, behind the first i of an order. -/
structure WhI (n : Nat) (O : List Nat) (i : Nat) (H : List Bool) (T : List Nat) : Prop where
  lH : H.length = n
  lT : T.length = n
  had : ∀ x, x < n → H[x]? = some (decide (x ∈ O.take i))
  at_ : ∀ j x : Nat, j < i → O[j]? = some x → T[x]? = some j
theorem WhI.start (n : Nat) (O : List Nat) : WhI n O 0 (List.replicate n false) (List.replicate n 0) := ⟨by simp, by simp, fun x hx => by rw [List.getElem?_replicate, if_pos hx]; simp, fun j x h => by omega⟩
theorem WhI.new {n i x : Nat} {O T : List Nat} {H : List Bool} (h : WhI n O i H T) (hd : O.Nodup) (hx : O[i]? = some x) (hn : x < n) : H[x]? = some false := by
  rw [h.had x hn]
  have hno : x ∉ O.take i := fun hm => by
    obtain ⟨j, hj⟩ := List.getElem?_of_mem hm
    have hjl := (List.getElem?_eq_some_iff.1 hj).1
    rw [List.length_take] at hjl
    rw [List.getElem?_take, if_pos (by omega)] at hj
    have h1 := List.getElem?_eq_some_iff.1 hj
    have h2 := List.getElem?_eq_some_iff.1 hx
    have h3 := (List.pairwise_iff_getElem.1 (List.nodup_iff_pairwise_ne.1 hd)) j i h1.1 h2.1 (by omega)
    rw [h1.2, h2.2] at h3
    exact h3 rfl
  rw [decide_eq_false hno]
theorem WhI.step {n i x : Nat} {O T : List Nat} {H : List Bool} (h : WhI n O i H T) (hd : O.Nodup) (hx : O[i]? = some x) (hn : x < n) : WhI n O (i + 1) (H.set x true) (T.set x i) := by
  have htk : O.take (i + 1) = O.take i ++ [x] := by rw [List.take_add_one, hx]; rfl
  refine ⟨by rw [List.length_set]; exact h.lH, by rw [List.length_set]; exact h.lT, fun y hy => ?_, fun j y hj hy => ?_⟩
  · rw [htk]
    by_cases e : x = y
    · subst e
      rw [List.getElem?_set_self (by rw [h.lH]; exact hn), decide_eq_true (by simp)]
    · rw [List.getElem?_set_ne e, h.had y hy]
      congr 1
      rw [decide_eq_decide]
      simp [Ne.symm e]
  · rcases Nat.lt_or_ge j i with h1 | h1
    · have e : x ≠ y := fun e => by
        subst e
        have h3 := List.getElem?_eq_some_iff.1 hy
        have h2 := List.getElem?_eq_some_iff.1 hx
        have h4 := (List.pairwise_iff_getElem.1 (List.nodup_iff_pairwise_ne.1 hd)) j i h3.1 h2.1 h1
        rw [h3.2, h2.2] at h4
        exact h4 rfl
      rw [List.getElem?_set_ne e]
      exact h.at_ j y h1 hy
    · obtain rfl : j = i := by omega
      rw [hx] at hy
      injection hy with hy
      subst hy
      rw [List.getElem?_set_self (by rw [h.lT]; exact hn)]
theorem WhI.fin {n x : Nat} {O T : List Nat} {H : List Bool} (h : WhI n O n H T) (hl : O.length = n) (hm : ∀ x, x ∈ O ↔ x < n) (hx : x < n) : T[x]? = some (O.idxOf x) := by
  have h1 := List.idxOf_lt_length_iff.2 ((hm x).2 hx)
  exact h.at_ (O.idxOf x) x (by omega) (by rw [List.getElem?_eq_getElem h1]; simp)
theorem rtot_le {Z : List Nat} (p : Nat → Bool) {k n : Nat} (h : k ≤ n) : Sy.tot Z ((List.range k).filter p) ≤ Sy.tot Z ((List.range n).filter p) := by
  induction n with
  | zero => obtain rfl : k = 0 := by omega
            exact Nat.le_refl _
  | succ n ih =>
    rcases Nat.lt_or_ge n k with h1 | h1
    · obtain rfl : k = n + 1 := by omega
      exact Nat.le_refl _
    · rw [List.range_succ, List.filter_append, Sy.tot_append]
      exact Nat.le_trans (ih h1) (Nat.le_add_right _ _)
theorem rtot_step {Z : List Nat} {P : List Int} {k n z : Nat} (h : P[k]? = some (-1)) (hz : Z[k]? = some z) : Sy.tot Z ((List.range (k + 1)).filter fun i => parN P n i == n) = Sy.tot Z ((List.range k).filter fun i => parN P n i == n) + z := by
  have e : parN P n k = n := by unfold parN; rw [h]; rfl
  rw [List.range_succ, List.filter_append, Sy.tot_append]
  congr 1
  rw [List.filter_cons, e]
  simp [Sy.tot, hz]
theorem rtot_skip {Z : List Nat} {P : List Int} {k n y : Nat} (h : P[k]? = some (y : Int)) (hy : y < n) : Sy.tot Z ((List.range (k + 1)).filter fun i => parN P n i == n) = Sy.tot Z ((List.range k).filter fun i => parN P n i == n) := by
  have e : parN P n k = y := by unfold parN; rw [h]; simp only; rw [if_neg (by omega)]; omega
  have e2 : (y == n) = false := beq_eq_false_iff_ne.2 (by omega)
  rw [List.range_succ, List.filter_append, Sy.tot_append, List.filter_cons, e, e2]
  simp [Sy.tot]
set_option maxHeartbeats 16000000 in
theorem whole29 (lA : Option Addr) (l : List Ls) (n c : Nat) (w : World) (hS : RdSps w w.heap.size lA l) (hn : n = l.length) (hl : n ≤ maxLen) : Calls Try.prog 4 #[.slice lA n c] w fun e w' => e = .returned (.bool true) ∧ Below w.heap.size w w' := by
  have AL := Lib.hid (alive29_calls w)
  obtain ⟨b0, hb0⟩ : ∃ b0, b0 = w.heap.size := ⟨_, rfl⟩
  have HB0 := Lib.hid hb0
  rw [← hb0] at hS ⊢
  have HSs := Lib.hid hS
  have HN := Lib.hid hn
  have FE := fun (W : World) (h : Below b0 w W) => Lib.hid (fewall_any lA l n c b0 W HN.out (HSs.out.below h) (by have := h.size; have := HB0.out; omega) hl)
  have hml := hl
  simp only [maxLen] at hml
  clear hS hn hb0 hl
  obtain ⟨fb, hfb⟩ : ∃ fb, fb = fewAll l := ⟨_, rfl⟩
  rw [← hfb] at FE
  have HFB := Lib.hid hfb
  clear hfb
  cases fb
  · go_enter Try.func4, Try.ntmps4
    go_wp2_with (first | (go_at_call 11; (with_reducible refine (FE _ HB1.out).out.mono ?_); rintro ex w2 ⟨rfl, hb2⟩; have HB2 := Lib.hid (HB1.out.trans (hb2.mono (by have := HB1.out.size; have := HB0.out; omega))); clear hb2) | (go_at_call 10; (with_reducible refine AL.out.mono ?_); rintro ex w1 ⟨rfl, hb1⟩; have HB1 := Lib.hid (show Below b0 w w1 from by rw [HB0.out]; exact hb1); clear hb1))
    go_ret
    exact ⟨rfl, HB2.out⟩
  · have HN60 := Lib.hid (show n ≤ 60 from by
      have h := HFB.out
      unfold fewAll at h
      have h2 := (Bool.and_eq_true _ _).mp h.symm
      rw [HN.out]; exact of_decide_eq_true h2.1)
    go_enter Try.func4, Try.ntmps4
    go_upto_region 4 with (first | (go_at_call 11; (with_reducible refine (FE _ HB1.out).out.mono ?_); rintro ex w2 ⟨rfl, hb2⟩; have HB2 := Lib.hid (HB1.out.trans (hb2.mono (by have := HB1.out.size; have := HB0.out; omega))); clear hb2) | (go_at_call 10; (with_reducible refine AL.out.mono ?_); rintro ex w1 ⟨rfl, hb1⟩; have HB1 := Lib.hid (show Below b0 w w1 from by rw [HB0.out]; exact hb1); clear hb1))
    clear FE AL
    have PC := fun (W : World) (h : Below b0 w W) => Lib.hid (parents_any l lA n c b0 W (HSs.out.below h) (by have := h.size; have := HB0.out; omega) HN.out (by have := HN60.out; omega))
    have OC := fun (W : World) (h : Below b0 w W) => Lib.hid (order_any l lA n c b0 W (HSs.out.below h) (by have := h.size; have := HB0.out; omega) HN.out (by have := HN60.out; omega))
    have DC := fun (W : World) (h : Below b0 w W) => Lib.hid (depths_any l lA n c b0 W (HSs.out.below h) (by have := h.size; have := HB0.out; omega) HN.out (by have := HN60.out; omega))
    have ZC := fun (W : World) (h : Below b0 w W) => Lib.hid (sizes_any l lA n c b0 W (HSs.out.below h) (by have := h.size; have := HB0.out; omega) HN.out (by have := HN60.out; omega))
    go_upto_region 8 with (first
      | (go_at_call 13; (with_reducible refine (PC _ HB2.out).out.mono ?_); rintro ex w3 ⟨gp, P, rfl, hp3, ho3, hb3⟩; have HP3 := Lib.hid hp3; have HO3 := Lib.hid ho3; have HB3 := Lib.hid (HB2.out.trans (hb3.mono (by have := HB2.out.size; have := HB0.out; omega))); clear hp3 ho3 hb3)
      | (go_at_call 15; (with_reducible refine (OC _ HB3.out).out.mono ?_); rintro ex w4 ⟨A4, c4, P4, M4, O, rfl, hp4, hy4, he4, ht4, ho4, hb4⟩; have HP4 := Lib.hid hp4; have HY4 := Lib.hid hy4; have HE4 := Lib.hid he4; have HT4 := Lib.hid ht4; have HO4 := Lib.hid ho4; have HG4 := Lib.hid hb4; have HB4 := Lib.hid (HB3.out.trans (hb4.mono (by have := HB3.out.size; have := HB0.out; omega))); clear hp4 hy4 he4 ht4 ho4 hb4)
      | (go_at_call 17; (with_reducible refine (DC _ HB4.out).out.mono ?_); rintro ex w5 ⟨gd, P5, D, rfl, hp5, hd5, ho5, hb5⟩; have HP5 := Lib.hid hp5; have HD5 := Lib.hid hd5; have HO5 := Lib.hid ho5; have HG5 := Lib.hid hb5; have HB5 := Lib.hid (HB4.out.trans (hb5.mono (by have := HB4.out.size; have := HB0.out; omega))); clear hp5 hd5 ho5 hb5)
      | (go_at_call 19; (with_reducible refine (ZC _ HB5.out).out.mono ?_); rintro ex w6 ⟨gz, P6, M6, O6, Z, rfl, hp6, hy6, he6, ht6, hz6, ho6, hb6⟩; have HP6 := Lib.hid hp6; have HT6 := Lib.hid ht6; have HZ6 := Lib.hid hz6; have HO6 := Lib.hid ho6; have HG6 := Lib.hid hb6; have HB6 := Lib.hid (HB5.out.trans (hb6.mono (by have := HB5.out.size; have := HB0.out; omega))); clear hp6 hy6 he6 ht6 hz6 ho6 hb6))
    clear PC OC DC ZC
    have HTR := Lib.hid (show Sy.Tree l n P O D Z from by
      have e4 := parOf_ext HP4.out HP3.out
      have e5 := parOf_ext HP5.out HP3.out
      have e6 := parOf_ext HP6.out HP3.out
      have hE4 := HE4.out
      have hT4 := HT4.out
      have hD5 := HD5.out
      have hT6 := HT6.out
      have hZ6 := HZ6.out
      rw [e4] at hE4 hT4
      rw [e5] at hD5
      rw [e6] at hT6 hZ6
      have hpl : Sy.Plain P n := by rw [HN.out]; exact Sy.plain_par HP3.out
      have hnl : (namedM l).length = n := by rw [namedM_len, HN.out]
      exact Sy.tree_of HN.out HP3.out (bys_all HY4.out HN.out) (show Sy.All n O6.reverse from ⟨(List.reverse_perm O6).nodup_iff.2 (by have h := hT6.nd; rw [List.append_nil] at h; exact h), fun x => by
        rw [List.mem_reverse]
        exact hT6.fin HP3.out hnl hpl (by rw [HP3.out.1]; exact hnl) x⟩) hE4 hT4 hD5 hZ6)
    have HPL := Lib.hid (show Sy.Plain P n from by rw [HN.out]; exact Sy.plain_par HP3.out)
    have HOP := Lib.hid (own_below (own_below (own_below HO3.out HG4.out) HG5.out) HG6.out)
    have HOO := Lib.hid (own_below (own_below HO4.out HG5.out) HG6.out)
    have HOD := Lib.hid (own_below HO5.out HG6.out)
    have HOZ := Lib.hid HO6.out
    have HS6 := Lib.hid (HSs.out.below HB6.out)
    clear HP3 HP4 HP5 HP6 HY4 HE4 HT4 HD5 HT6 HZ6 HO3 HO4 HO5 HO6 HG4 HG5 HG6 HB1 HB2 HB3 HB4 HB5
    obtain ⟨b6, hb6⟩ : ∃ b6, b6 = w6.heap.size := ⟨_, rfl⟩
    have HBB6 := Lib.hid hb6
    have HSZ6 := Lib.hid (show b0 ≤ b6 from by have := HB6.out.size; have := HB0.out; omega)
    clear hb6
    have HQP := Lib.hid (show ∀ W, Below b6 w6 W → W.ownsRow w2.heap.size 3 1 (.slice (some ⟨gp, 0, none⟩) n n) n (P.map encZ) from fun W h => own_below HOP.out (by rw [← HBB6.out]; exact h))
    have HQO := Lib.hid (show ∀ W, Below b6 w6 W → W.ownsRow w3.heap.size 3 1 (.slice A4 n c4) n (O.map encN) from fun W h => own_below HOO.out (by rw [← HBB6.out]; exact h))
    have HQD := Lib.hid (show ∀ W, Below b6 w6 W → W.ownsRow w4.heap.size 3 1 (.slice (some ⟨gd, 0, none⟩) n n) n (D.map encN) from fun W h => own_below HOD.out (by rw [← HBB6.out]; exact h))
    have HQZ := Lib.hid (show ∀ W, Below b6 w6 W → W.ownsRow w5.heap.size 3 1 (.slice (some ⟨gz, 0, none⟩) n n) n (Z.map encN) from fun W h => own_below HOZ.out (by rw [← HBB6.out]; exact h))
    have HQS := Lib.hid (show ∀ W, Below b6 w6 W → RdSps W b0 lA l from fun W h => HS6.out.below (h.mono HSZ6.out))
    have HQW := Lib.hid (show ∀ W, Below b6 w6 W → Below b0 w W from fun W h => HB6.out.trans (h.mono HSZ6.out))
    have HSB := Lib.hid (show ∀ W, Below b6 w6 W → b6 ≤ W.heap.size from fun W h => by have := h.size; have := HBB6.out; omega)
    clear HOP HOO HOD HOZ HS6 HSs
    obtain ⟨Wa, hra, hoa, hba, hsa⟩ := make_intN n (by have := HN60.out; omega) w6
    obtain ⟨Wb, hrb, hob, hbb, hsb⟩ := make_bools n (by have := HN60.out; omega) Wa
    have hoa2 : Wa.ownsRow w6.heap.size 3 1 (.slice (some ⟨w6.heap.size, 0, none⟩) n n) n ((List.replicate n 0).map encN) := by
      have e : (List.replicate n (0 : Int)).map encZ = (List.replicate n 0).map encN := by rw [List.map_replicate, List.map_replicate]; rfl
      rw [← e]; exact hoa
    have HOA := Lib.hid (show Wb.ownsRow b6 3 1 (.slice (some ⟨w6.heap.size, 0, none⟩) n n) n ((List.replicate n 0).map encN) from by rw [HBB6.out]; exact own_below hoa2 hbb)
    have HOB := Lib.hid (show Wb.ownsRow b6 4 1 (.slice (some ⟨Wa.heap.size, 0, none⟩) n n) n ((List.replicate n false).map Value.bool) from own_mono hob (by rw [HBB6.out]; omega))
    have HBL := Lib.hid (show Below b6 w6 Wb from by rw [HBB6.out]; exact hba.trans (hbb.mono (by omega)))
    clear hoa hoa2 hob hba hbb hsa hsb
    go_upto_region 13 with fail
    generalize w6.heap.size = ga at *
    generalize Wa.heap.size = gh at *
    clear hra hrb
    go_loopw [10] (fun vi wq => ∃ (i : Nat) (H : List Bool) (TT : List Nat), vi = .int .i64 (i : Int) ∧ Hid (i ≤ n) ∧ Hid (WhI n O i H TT) ∧ Hid (wq.ownsRow b6 4 1 (.slice (some ⟨gh, 0, none⟩) n n) n (H.map Value.bool)) ∧ Hid (wq.ownsRow b6 3 1 (.slice (some ⟨ga, 0, none⟩) n n) n (TT.map encN)) ∧ Hid (Below b6 w6 wq)) (fun vi _ => n - (intOf vi).toNat)
    case atStart => exact ⟨0, _, _, rfl, Lib.hid (Nat.zero_le _), Lib.hid (WhI.start n O), HOB, HOA, HBL⟩
    clear HOB HOA HBL
    case round =>
      obtain ⟨i, H, TT, rfl, HI, HW, HOB, HOA, HBL⟩ := hrel
      have HPq := HQP.out wr HBL.out
      by_cases hlt : i < n
      · as_aux_lemma =>
        obtain ⟨x, hx⟩ : ∃ x, O[i]? = some x := ⟨_, List.getElem?_eq_getElem (by rw [HTR.out.ol]; exact hlt)⟩
        have hxn : x < n := (HTR.out.mem x).1 (List.mem_of_getElem? hx)
        obtain ⟨g4, rfl, _, _, _, _, _, _⟩ := own_parts (HQO.out wr HBL.out) (by omega)
        have d0 : decide ((i : Int) < (n : Int)) = true := decide_eq_true (by omega)
        have d1 : decide (i < n) = true := decide_eq_true hlt
        have i0 : (0 : Int) ≤ (i : Int) := by omega
        have i1 : (i : Int) < (n : Int) := by omega
        have i2 : (0 : Int) ≤ (x : Int) := by omega
        have i3 : (x : Int) < (n : Int) := by omega
        have d2 : decide ((x : Int) < 0) = false := decide_eq_false (by omega)
        have d3 : decide ((n : Int) ≤ (x : Int)) = false := decide_eq_false (by omega)
        have d4 : decide (n ≤ x) = false := decide_eq_false (by omega)
        obtain ⟨i9, hi9⟩ : ∃ i9, i9 = i + 1 := ⟨_, rfl⟩
        have e1 : IntKind.i64.wrap ((i : Int) + 1) = (i9 : Int) := by have := HN60.out; rw [IntKind.wrap_i64] <;> omega
        obtain ⟨p0, _⟩ := own_atN (HQO.out wr HBL.out) hx
        have hh := HW.out.new HTR.out.nd hx hxn
        obtain ⟨fb1, cb1, hob1, hg1⟩ := own_setq HOB.out (i := x) (by omega) (.bool true)
        rw [List.getElem?_map, hh] at cb1
        have p1 : wr.cell? ⟨gh, x, none⟩ = some (.bool false) := cb1
        obtain ⟨w7, hw7⟩ : ∃ w7, w7 = wr.setCell ⟨gh, x, none⟩ (.bool true) := ⟨_, rfl⟩
        have hoa1 := own_keepT2 HOA.out HOB.out (by decide) hg1
        have hbl1 := hg1.below HBL.out (HSB.out _ HBL.out) (own_block_ge HOB.out)
        rw [← hw7] at hob1 hoa1 hbl1
        obtain ⟨p2, _⟩ := own_atN (HQO.out w7 hbl1) hx
        obtain ⟨fa1, ca1, hoa2, hg2⟩ := own_setq hoa1 (i := x) (by omega) (.int .i64 (i : Int))
        have hca := (own_cells hoa1 x (by omega)).2.2
        obtain ⟨va, hva⟩ := Option.isSome_iff_exists.1 hca
        have hob2 := own_keepT2 hob1 hoa1 (by decide) hg2
        have hbl2 := hg2.below hbl1 (HSB.out _ hbl1) (own_block_ge hoa1)
        have HW2 := Lib.hid (HW.out.step HTR.out.nd hx hxn)
        rw [← hi9] at HW2
        have HI9 := Lib.hid hi9
        have HLT := Lib.hid hlt
        have HW7 := Lib.hid hw7
        have HOB2 := Lib.hid hob2
        have HOA2 := Lib.hid hoa2
        have HBL2 := Lib.hid hbl2
        clear hob2 hoa2 hbl2 hg2 hca ca1 hg1 hbl1 hoa1 hob1 cb1 hh hx hxn hw7 hi9 hlt HPq
        go_upto_region 18 with fail
        rw [← HW7.out]
        clear HW7 p0 p1 fb1
        go_wp2_with fail
        go_roundw
        case rel => exact ⟨i9, _, _, by first | rfl | go_num, Lib.hid (by have := HLT.out; have := HI9.out; omega), HW2, by rw [List.map_set]; exact HOB2, by rw [List.map_set]; exact HOA2, HBL2⟩
        case measure => have := HLT.out; have := HI9.out; simp [intOf]; omega
      · as_aux_lemma =>
        obtain rfl : n = i := by have := HI.out; omega
        have d0 : decide ((n : Int) < (n : Int)) = false := decide_eq_false (by omega)
        have d1 : decide (n < n) = false := decide_eq_false (by omega)
        clear hlt HPq HI
        go_upto_region 21 with fail
        generalize wr = wz at *
        have HTT := Lib.hid (show ∀ x, x < n → TT[x]? = some (O.idxOf x) from fun x hx => HW.out.fin HTR.out.ol HTR.out.mem hx)
        have HQT := Lib.hid (show ∀ W, Below wz.heap.size wz W → W.ownsRow b6 3 1 (.slice (some ⟨ga, 0, none⟩) n n) n (TT.map encN) from fun W h => own_below HOA.out h)
        have HBZ := Lib.hid (show ∀ W, Below wz.heap.size wz W → Below b6 w6 W from fun W h => HBL.out.trans (h.mono (HSB.out _ HBL.out)))
        clear HW HOA HOB HBL d0 d1
        go_loopw [11, 12] (fun va vi wq => ∃ (k s : Nat), vi = .int .i64 (k : Int) ∧ va = .int .i64 (s : Int) ∧ Hid (k ≤ n) ∧ Hid (s = Sy.tot Z ((List.range k).filter fun i => parN P n i == n)) ∧ Hid (Below wz.heap.size wz wq)) (fun _ vi _ => n - (intOf vi).toNat)
        case atStart => exact ⟨0, 0, rfl, rfl, Lib.hid (Nat.zero_le _), Lib.hid rfl, Lib.hid (Below.refl _ _)⟩
        case round =>
          obtain ⟨k, s, rfl, rfl, HK, HSM, HBQ⟩ := hrel
          by_cases hlt : k < n
          · have d0 : decide ((k : Int) < (n : Int)) = true := decide_eq_true (by omega)
            have d1 : decide (k < n) = true := decide_eq_true hlt
            have i0 : (0 : Int) ≤ (k : Int) := by omega
            have i1 : (k : Int) < (n : Int) := by omega
            have hn60 := HN60.out
            obtain ⟨k1, hk1⟩ : ∃ k1, k1 = k + 1 := ⟨_, rfl⟩
            have e1 : IntKind.i64.wrap ((k : Int) + 1) = (k1 : Int) := by rw [IntKind.wrap_i64] <;> omega
            have HK1 := Lib.hid hk1
            have HLT := Lib.hid hlt
            obtain ⟨z, hz⟩ : ∃ z, P[k]? = some z := ⟨_, List.getElem?_eq_getElem (by rw [HTR.out.pl]; exact hlt)⟩
            obtain ⟨p0', _⟩ := own_atZ (HQP.out _ (HBZ.out _ HBQ.out)) hz
            by_cases hroot : z = -1
            · as_aux_lemma =>
              subst hroot
              obtain ⟨zk, hzk⟩ : ∃ zk, Z[k]? = some zk := ⟨_, List.getElem?_eq_getElem (by rw [HTR.out.zl]; exact hlt)⟩
              obtain ⟨p1, _⟩ := own_atN (HQZ.out _ (HBZ.out _ HBQ.out)) hzk
              obtain ⟨p2', _⟩ := own_atN (HQD.out _ (HBZ.out _ HBQ.out)) (HTR.out.root k hlt hz)
              have p2 : wr.cell? ⟨gd, k, none⟩ = some (.int .i64 0) := p2'
              obtain ⟨s1, hs1⟩ : ∃ s1, s1 = s + zk := ⟨_, rfl⟩
              have HS1 := Lib.hid (show s1 = Sy.tot Z ((List.range k1).filter fun i => parN P n i == n) from by rw [hs1, hk1, rtot_step hz hzk, HSM.out])
              have hsb : s1 ≤ n := by
                rw [HS1.out]
                exact Nat.le_trans (rtot_le _ (by omega)) (Nat.le_of_eq HTR.out.all)
              have e2 : IntKind.i64.wrap ((s : Int) + (zk : Int)) = (s1 : Int) := by rw [IntKind.wrap_i64] <;> omega
              have d2 : decide ((-1 : Int) < 0) = true := by decide
              clear hk1 hs1 hsb hz hzk hn60 hlt p2'
              go_wp2_with fail
              go_roundw
              case rel => exact ⟨k1, s1, rfl, rfl, Lib.hid (by have := HLT.out; have := HK1.out; omega), HS1, HBQ⟩
              case measure => have := HLT.out; have := HK1.out; simp [intOf]; omega
            · as_aux_lemma =>
              obtain ⟨y, a, b, dy, zx, zy, rfl, hyn, hla, hlb, hab, hix, hdy, hdx, hzx, hzy, hin, hzz, hzyl⟩ := HTR.out.kid k z hz hroot
              obtain ⟨p3, _⟩ := own_atN (HQD.out _ (HBZ.out _ HBQ.out)) hdy
              obtain ⟨dk, hdk⟩ : ∃ dk, dk = dy + 1 := ⟨_, rfl⟩
              rw [← hdk] at hdx
              obtain ⟨p4, _⟩ := own_atN (HQD.out _ (HBZ.out _ HBQ.out)) hdx
              obtain ⟨p5, _⟩ := own_atN (HQZ.out _ (HBZ.out _ HBQ.out)) hzx
              obtain ⟨p6, _⟩ := own_atN (HQZ.out _ (HBZ.out _ HBQ.out)) hzy
              have hty := HTT.out y hyn
              have htk := HTT.out k hlt
              obtain ⟨ty, hty2⟩ : ∃ ty, ty = O.idxOf y := ⟨_, rfl⟩
              obtain ⟨tk, htk2⟩ : ∃ tk, tk = O.idxOf k := ⟨_, rfl⟩
              rw [← hty2] at hty hix hin
              rw [← htk2] at htk hix hin
              obtain ⟨p7, _⟩ := own_atN (HQT.out _ HBQ.out) hty
              obtain ⟨p8, _⟩ := own_atN (HQT.out _ HBQ.out) htk
              have hsp := HQS.out _ (HBZ.out _ HBQ.out)
              obtain ⟨aa, haa, haab, hca, hra⟩ := hsp.at_ hla
              obtain ⟨ab, hab2, habb, hcb, hrb⟩ := hsp.at_ hlb
              rw [haa] at hab2
              obtain rfl : aa = ab := by injection hab2
              subst haa
              obtain ⟨u, hu⟩ : ∃ u, u = a.s.id := ⟨_, rfl⟩
              have c1 : wr.cell? ⟨(aa.add (y * 10)).block, (aa.add (y * 10)).off + 2, none⟩ = some (.int .u64 u) := by rw [hu]; exact cell_far (hca 2 _ rfl) (by decide)
              have c2 : wr.cell? ⟨(aa.add (k * 10)).block, (aa.add (k * 10)).off + 3, none⟩ = some (.int .u64 u) := by rw [hu, hab]; exact cell_far (hcb 3 _ rfl) (by decide)
              have HS1 := Lib.hid (show s = Sy.tot Z ((List.range k1).filter fun i => parN P n i == n) from by rw [hk1, rtot_skip hz hyn, HSM.out])
              have hol := HTR.out.ol
              have htkl : tk < n := by
                have h1 := List.idxOf_lt_length_iff.2 ((HTR.out.mem k).2 hlt)
                rw [← htk2, hol] at h1; exact h1
              obtain ⟨sz, hsz⟩ : ∃ sz, sz = ty + zy := ⟨_, rfl⟩
              have e2 : IntKind.i64.wrap ((ty : Int) + (zy : Int)) = (sz : Int) := by rw [IntKind.wrap_i64] <;> omega
              have hdyl : dy ≤ n := by
                have h1 := HTR.out.dep_le _ y dy hyn (Nat.le_refl _) hdy
                rw [← hty2] at h1
                omega
              have e3 : IntKind.i64.wrap ((dy : Int) + 1) = (dk : Int) := by rw [IntKind.wrap_i64] <;> omega
              have i2 : (0 : Int) ≤ (y : Int) := by omega
              have i3 : (y : Int) < (n : Int) := by omega
              have d2 : decide ((y : Int) < 0) = false := decide_eq_false (by omega)
              have d3 : decide ((n : Int) ≤ (y : Int)) = false := decide_eq_false (by omega)
              have d4 : decide (n ≤ y) = false := decide_eq_false (by omega)
              have d5 : decide ((tk : Int) ≤ (ty : Int)) = false := decide_eq_false (by omega)
              have d6 : decide (tk ≤ ty) = false := decide_eq_false (by omega)
              have d7 : decide ((sz : Int) ≤ (tk : Int)) = false := decide_eq_false (by omega)
              have d8 : decide (sz ≤ tk) = false := decide_eq_false (by omega)
              have d9 : decide ((zy : Int) ≤ (zx : Int)) = false := decide_eq_false (by omega)
              have dA : decide (zy ≤ zx) = false := decide_eq_false (by omega)
              clear hdyl hsz hzyl htkl hol hu hcb hca hrb hra habb haab hsp hty2 htk2 hty htk hdk hk1 hzz hin hzx hzy hdx hdy hix hab hla hlb hyn hz hroot hn60 hlt hab2
              go_upto_region 27 with fail
              simp only [List.append_eq, List.cons_append, List.nil_append]
              refine wp_region_quiet_lex (by kernel_rfl) (by kernel_rfl) ?_
              repeat (go_big_quiet_step (fail))
              refine wpQuiet_nil ?_
              intro _ hw'
              obtain ⟨nq, hw''⟩ := hw'
              subst hw''
              go_wp2_with fail
              go_roundw
              case rel => exact ⟨k1, s, rfl, rfl, Lib.hid (by have := HLT.out; have := HK1.out; omega), HS1, Lib.hid (HBQ.out.trans ⟨rfl, rfl, rfl, Nat.le_refl _, fun _ _ => rfl⟩)⟩
              case measure => have := HLT.out; have := HK1.out; simp [intOf]; omega
          · obtain rfl : n = k := by have := HK.out; omega
            have hs : s = n := by rw [HSM.out]; exact HTR.out.all
            subst hs
            have d0 : decide ((s : Int) < (s : Int)) = false := decide_eq_false (by omega)
            have d1 : decide (s < s) = false := decide_eq_false (by omega)
            clear hlt
            go_wp2_with fail
            go_ret
            exact ⟨by simp, HQW.out _ (HBZ.out _ HBQ.out)⟩
end Go.Proofs.Ytgldjjmpjaegfaa
