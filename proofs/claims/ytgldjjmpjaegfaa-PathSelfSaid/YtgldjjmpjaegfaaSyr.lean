/- tree.Order walked. -/
import Derived.Test.YtgldjjmpjaegfaaSyq
import Derived.Test.YtgldjjmpjaegfaaTr
import Derived.RegionTactic
import Derived.ChangeAlike
import Derived.BigRegion
import Derived.Deep.RegionHeld3
namespace Go.Proofs.Ytgldjjmpjaegfaa
open Go.RowKit Go.Maps
set_option linter.unusedVariables false
set_option linter.unusedSimpArgs false
set_option maxRecDepth 100000

def lenV : Value → Nat
  | .slice _ n _ => n
  | _ => 0
theorem ordM_step (K : List (List Nat)) (O S : List Nat) (n k i : Nat) (L : List Nat) (hL : K[i]? = some L) (hk : k < n) : O ++ Sy.ordM K (n - k) (i :: S) = (O ++ [i]) ++ Sy.ordM K (n - (k + 1)) (L ++ S) := by
  rw [show n - k = (n - (k + 1)) + 1 by omega]
  show O ++ (i :: Sy.ordM K (n - (k + 1)) ((K[i]?).getD [] ++ S)) = _
  rw [hL, List.append_assoc]; rfl
/-- Places appended to a row of places of one's own. -/
theorem appIs {w : World} {base n m c B : Nat} {v : Value} {xs : List Value} {ty : TypeId} {A : Option Addr} {L : List Nat} (h : w.ownsRow base 3 1 v n xs) (hr : Rd w B A (L.map encN)) (hm : m = L.length) (hn : n + m ≤ 1000000) (hbase : base ≤ w.heap.size) :
    ∃ v' w', (Builtin.append_ #[26, 26] ty #[v, .slice A m c]).run Try.prog w = .ok v' w' ∧ (w'.ownsRow base 3 1 v' (n + m) (xs ++ L.map encN) ∧ Grew w w' v v') := by
  obtain ⟨i0, hi, hz0, hz1, hz2⟩ := info_parts info_int
  exact run_append_rd (P := Try.prog) w base 26 ty 3 i0 _ 1 8 Try.underlying26 hi hz0 hz1 hz2 rfl v n xs h B A m c (L.map encN) (by rw [List.length_map, hm]; omega) hr (encN_one L) (by unfold maxLen; omega) (by omega) hbase
theorem bys_all {l : List Ls} {M : List Nat} {n : Nat} (h : Bys l M) (hn : n = l.length) : Sy.All n M :=
  ⟨List.nodup_iff_pairwise_ne.2 (h.1.imp fun {a b} hab => by intro e; rw [← e] at hab; exact (ordSt (stS l)).irr a hab), fun x => by rw [h.2.1 x, hn]⟩
set_option maxHeartbeats 16000000 in
theorem order_any (l : List Ls) (A : Option Addr) (n c B : Nat) (w : World) (hS : RdSps w B A l) (hB : B ≤ w.heap.size) (hn : n = l.length) (hsm : n ≤ 100000) :
    Calls Try.prog 15 #[.slice A n c] w fun e w' => ∃ A' c' P M O, e = .returned (.slice A' n c') ∧ Sy.ParOf (namedM l) P ∧ Bys l M ∧ O = Sy.ordM (kidsL P n M) n (M.filter fun i => parN P n i == n) ∧ Sy.Ost P n O [] ∧ w'.ownsRow w.heap.size 3 1 (.slice A' n c') n (O.map encN) ∧ Below w.heap.size w w' := by
  have KA := Lib.hid (kids_any l A n c B w hS hB hn hsm)
  have HN := Lib.hid hn
  have hNP := namedM_plain l
  rw [← hn] at hNP
  have HNP := Lib.hid hNP
  clear hS hB hn hNP
  obtain ⟨n1, hn1⟩ : ∃ n1, n1 = n + 1 := ⟨_, rfl⟩
  have HN1 := Lib.hid hn1
  rw [← hn1] at KA
  have hnn : (n : Int) < (n1 : Int) := by omega
  have hn0 : (0 : Int) ≤ (n : Int) := by omega
  clear hn1
  go_enter Try.func15, Try.ntmps15
  go_upto_region 2 with (go_at_call 32; (with_reducible refine KA.out.mono ?_); rintro ex w1 ⟨gk, C, P, M, bK, rfl, hp1, hby1, hbk1, hko1, ho1, hb1⟩; have HP1 := Lib.hid hp1; have HBY := Lib.hid hby1; have HKC := Lib.hid hko1; have HBK := Lib.hid hbk1; have HOC := Lib.hid ho1; have HB1 := Lib.hid hb1; clear hp1 hby1 hbk1 hko1 ho1 hb1)
  clear KA
  have HAL := Lib.hid (bys_all HBY.out HN.out)
  have HPP := Lib.hid (show Sy.Plain P n from fun v z h => by
    by_cases hl : Sy.LR (Sy.pf (namedM l)) v
    · rw [(HP1.out.2 v).1 hl] at h; injection h with h; omega
    · rw [(HP1.out.2 v).2 hl] at h; exact HNP.out v z h)
  have HPL := Lib.hid (show P.length = n from by rw [HP1.out.1, namedM_len, ← HN.out])
  have HNL := Lib.hid (show (namedM l).length = n from by rw [namedM_len, ← HN.out])
  obtain ⟨b2, hb2⟩ : ∃ b2, b2 = w1.heap.size := ⟨_, rfl⟩
  obtain ⟨W5, hrun, hown, hbl⟩ := make_int0 n (by omega) w1 b2 (by omega)
  have hgk := own_baseY HOC.out
  have hcl : C.length = n1 := by have := HOC.out.1; omega
  have HCL := Lib.hid hcl
  have HGK := Lib.hid (show gk < b2 from by omega)
  have HB2 := Lib.hid hb2
  -- the kids of a place, wherever the walk may be
  have KD : ∀ j, j ≤ n → ∃ A0 c0 L0, C[j]? = some (.slice A0 L0.length c0) ∧ L0 = (M.filter fun i => parN P n i == j) ∧ (kidsL P n M)[j]? = some L0 ∧ ∀ W, Below b2 w1 W → W.cell? ⟨gk, j, none⟩ = some (.slice A0 L0.length c0) ∧ Calls Try.prog 33 #[.slice A0 L0.length c0] W fun e w' => ∃ A' c', e = .returned (.slice A' L0.length c') ∧ w'.ownsRow W.heap.size 3 1 (.slice A' L0.length c') L0.length (L0.reverse.map encN) ∧ Below W.heap.size W w' := fun j hj => by
    obtain ⟨v, hv⟩ : ∃ v, C[j]? = some v := ⟨_, List.getElem?_eq_getElem (by have := HN1.out; have := HCL.out; omega)⟩
    have hL := kidsL_at (P := P) M hj
    obtain ⟨⟨A0, c0, rfl⟩, hov⟩ := HKC.out.own j v _ hv hL
    refine ⟨A0, c0, _, hv, rfl, hL, fun W hW => ⟨?_, ?_⟩⟩
    · rw [(bcell hW).1 _ _ HGK.out]
      obtain ⟨_, s2, _⟩ := own_setY HOC.out (i := j) (by have := HN1.out; omega) (.bool true)
      rw [s2, hv]
    · obtain ⟨A1, c1, e, _, hr⟩ := own_rd hov
      injection e with e1 e2 e3
      subst e1
      have hlen : (M.filter fun i => parN P n i == j).length ≤ n := Nat.le_trans (List.length_filter_le _ _) (by rw [HBY.out.2.2, ← HN.out]; exact Nat.le_refl _)
      refine reversed_any _ _ _ _ b2 W rfl ?_ (Nat.le_trans (by omega) hW.size) (by omega)
      rw [← hb2] at hr
      exact hr.below hW
  have HKD := Lib.hid KD
  have HBL := Lib.hid hbl
  have HOW := Lib.hid hown
  obtain ⟨A0, c0, L0, hc0, hL0, hk0, hW0⟩ := KD n (Nat.le_refl _)
  obtain ⟨k5, RC5⟩ := hW0 W5 (by rw [hb2]; exact hbl)
  have RC := Lib.hid RC5
  obtain ⟨q0, hq0⟩ : ∃ q0, q0 = L0.length := ⟨_, rfl⟩
  rw [← hq0] at RC k5
  have HQ0 := Lib.hid hq0
  have HL0 := Lib.hid hL0
  clear KD hbl hown hgk hcl hc0 hL0 hk0 hW0 RC5 hq0
  clear hb2
  go_upto_region 4 with (go_at_call 33; (with_reducible refine RC.out.mono ?_); rintro ex w2 ⟨A1, c1, rfl, ho2, hb2⟩; have HO2 := Lib.hid ho2; have HBW2 := Lib.hid hb2; clear ho2 hb2)
  have hw15 := HBL.out.size
  have HKO2 := Lib.hid (show KO w2 b2 [.slice (some ⟨b2, 0, none⟩) 0 n, .slice A1 q0 c1] [[], L0.reverse] from by
    have hg := HOW.out
    rw [← HB2.out] at hg
    have hb := HB2.out
    refine ⟨rfl, fun j v L hv hL => ?_, fun j j' v v' hne hv hv' => ?_⟩
    · match j, hv, hL with
      | 0, hv, hL =>
        injection hv with hv; injection hL with hL; subst hv hL
        exact ⟨⟨_, _, rfl⟩, own_below hg HBW2.out⟩
      | 1, hv, hL =>
        injection hv with hv; injection hL with hL; subst hv hL
        rw [List.length_reverse, ← HQ0.out]
        exact ⟨⟨_, _, rfl⟩, own_mono HO2.out (by omega)⟩
      | j + 2, hv, hL => cases hv
    · have hge := own_block_ge HO2.out
      have h0 : (Value.slice (some ⟨b2, 0, none⟩) 0 n).ownBlock = none ∨ (Value.slice (some ⟨b2, 0, none⟩) 0 n).ownBlock ≠ (Value.slice A1 q0 c1).ownBlock := .inr (fun e => by
        have hlt := own_blk_lt hg (g := b2) rfl
        have := hge b2 e.symm
        have h5 := own_blk_lt HOW.out (g := w1.heap.size) rfl
        omega)
      match j, j', hne, hv, hv' with
      | 0, 1, _, hv, hv' => injection hv with hv; injection hv' with hv'; subst hv hv'; exact h0
      | 1, 0, _, hv, hv' =>
        injection hv with hv; injection hv' with hv'; subst hv hv'
        rcases h0 with h | h
        · simp [Value.ownBlock] at h
        · exact .inr h.symm
      | 0, 0, hne, _, _ => exact absurd rfl hne
      | 1, 1, hne, _, _ => exact absurd rfl hne
      | 0, j' + 2, _, _, hv' => cases hv'
      | 1, j' + 2, _, _, hv' => cases hv'
      | j + 2, j', _, hv, _ => cases hv)
  have HOS2 := Lib.hid (show Sy.Ost P n [] L0 from by rw [HL0.out]; exact Sy.Ost.start HAL.out)
  have HBW := Lib.hid (show Below b2 w1 w2 from by have := HB2.out; rw [this]; exact HBL.out.trans (HBW2.out.mono (by omega)))
  rw [← HB2.out]
  clear hw15 HO2 HBW2 HOW HBL hrun k5 RC HQ0 HOC
  go_loopw [4, 5] (fun vo vt wq => ∃ (Ao : Option Addr) (co k : Nat) (At : Option Addr) (q ct : Nat) (O S : List Nat), vo = .slice Ao k co ∧ vt = .slice At q ct ∧ Hid (k = O.length ∧ q = S.length ∧ k + q ≤ n) ∧ Hid (Sy.Ost P n O S) ∧ Hid (O ++ Sy.ordM (kidsL P n M) (n - k) S = Sy.ordM (kidsL P n M) n L0) ∧ Hid (KO wq b2 [.slice Ao k co, .slice At q ct] [O, S.reverse]) ∧ Hid (Below b2 w1 wq)) (fun vo _ _ => n - lenV vo)
  case atStart => exact ⟨_, _, 0, _, q0, _, [], L0, rfl, rfl, Lib.hid ⟨rfl, by have := (HKO2.out.own 1 _ _ rfl rfl).1; obtain ⟨A9, c9, e9⟩ := this; injection e9 with _ e9 _; rw [List.length_reverse] at e9; exact e9, by have := HOS2.out.len; have h9 := (HKO2.out.own 1 _ _ rfl rfl).1; obtain ⟨A9, c9, e9⟩ := h9; injection e9 with _ e9 _; rw [List.length_reverse] at e9; omega⟩, HOS2, Lib.hid rfl, HKO2, HBW⟩
  clear HKO2 HOS2 HBW
  case round =>
    obtain ⟨Ao, co, k, At, q, ct, O, S, rfl, rfl, HKQ, HOS, HOM, HKO, HB⟩ := hrel
    by_cases hq : 0 < q
    · obtain ⟨i, S', rfl⟩ : ∃ i S', S = i :: S' := by
        cases S with
        | nil => have := HKQ.out.2.1; simp at this; omega
        | cons i S' => exact ⟨i, S', rfl⟩
      obtain ⟨q1, hq1⟩ : ∃ q1, q = q1 + 1 := ⟨q - 1, by omega⟩
      have hkq := HKQ.out
      have hS' : q1 = S'.length := by have := hkq.2.1; rw [List.length_cons] at this; omega
      have hin : i < n := HOS.out.lt i (List.mem_append_right _ List.mem_cons_self)
      have hot := (HKO.out.own 1 _ _ rfl rfl).2
      rw [List.length_reverse, ← hkq.2.1] at hot
      obtain ⟨gt, hgt, _, _⟩ := own_placeY hot hq
      have hqc : q ≤ ct := by
        obtain ⟨A9, c9, e9, h9, _⟩ := own_rd hot
        injection e9 with _ _ e9
        omega
      subst hgt
      have hlast : (i :: S').reverse[q1]? = some i := by
        rw [List.reverse_cons, List.getElem?_append_right (by rw [List.length_reverse]; omega), List.length_reverse, hS', Nat.sub_self]; rfl
      obtain ⟨t0, _⟩ := own_atN hot hlast
      have hoo := (HKO.out.own 0 _ _ rfl rfl).2
      rw [← hkq.1] at hoo
      have APP := Lib.hid (fun ty => appI1 (ty := ty) hoo (i : Int) #[.int .i64 (i : Int)] rfl (by omega) (Nat.le_trans (by have := HB2.out; omega) HB.out.size))
      obtain ⟨Ai, ci, Li, _, hLi, hKi, hWi⟩ := HKD.out i (Nat.le_of_lt hin)
      have HWI := Lib.hid hWi
      have HLI := Lib.hid hLi
      have HKI := Lib.hid hKi
      obtain ⟨qi, hqi⟩ : ∃ qi, qi = Li.length := ⟨_, rfl⟩
      rw [← hqi] at HWI
      have HQI := Lib.hid hqi
      have HQ1 := Lib.hid (And.intro hq1 hS')
      have HIN := Lib.hid hin
      have e1 : IntKind.i64.wrap ((q : Int) - 1) = (q1 : Int) := by rw [IntKind.wrap_i64] <;> omega
      have d0 : decide ((0 : Int) < (q : Int)) = true := decide_eq_true (by omega)
      have d1 : decide (0 < q) = true := decide_eq_true hq
      have i0 : (0 : Int) ≤ (i : Int) := by omega
      have i1 : (i : Int) < (n1 : Int) := by have := HN1.out; omega
      have j0 : (0 : Int) ≤ (q1 : Int) := by omega
      have j1 : (q1 : Int) < (q : Int) := by omega
      have j2 : (q1 : Int) ≤ (ct : Int) := by omega
      have j3 : decide ((q1 : Int) ≤ (ct : Int)) = true := decide_eq_true (by omega)
      have j4 : q1 ≤ ct := by omega
      clear hqc hq hkq hS' hin hot hlast hoo hLi hKi hWi hqi hq1
      go_upto_region 8 with (at_builtin; (refine wpList_app rfl (.tmp 29) (.tmp 31) _ _ rfl rfl rfl (APP.out _) ?_); rintro v5 w5 ⟨ho5, hg5⟩; obtain ⟨A5, c5, rfl, _, _⟩ := own_rd ho5; have HO5 := Lib.hid ho5; have HG5 := Lib.hid hg5; clear ho5 hg5)
      have hb5 : Below b2 w1 w5 := HG5.out.below HB.out (Nat.le_trans (by have := HB2.out; omega) HB.out.size) (own_block_ge (HKO.out.own 0 _ _ rfl rfl).2)
      have HB5 := Lib.hid hb5
      have HKO5 := Lib.hid (show KO w5 b2 [.slice A5 (k + 1) c5, .slice (some ⟨gt, 0, none⟩) q ct] [O ++ [i], (i :: S').reverse] from
        HKO.out.step (j := 0) rfl rfl HG5.out (by have h := HO5.out; rw [← HKQ.out.1]; exact h))
      have hbd : Below b2 w1 w5.drew := ⟨hb5.os, hb5.tape, hb5.output, hb5.size, hb5.block⟩
      have k8 := (HWI.out w5.drew hbd).1
      have RC8 := Lib.hid (HWI.out w5.drew hbd).2
      have HOS7 := Lib.hid (show Sy.Ost P n (O ++ [i]) (Li ++ S') from by rw [HLI.out]; exact HOS.out.step HAL.out)
      have hlen := HOS7.out.len
      rw [List.length_append, List.length_singleton, List.length_append, ← HQI.out, ← HQ1.out.2, ← HKQ.out.1] at hlen
      have HLEN := Lib.hid hlen
      have HP6 := Lib.hid (show ∀ (A6 : Option Addr) (c6 : Nat) (w6 : World), w6.ownsRow w5.drew.heap.size 3 1 (.slice A6 qi c6) qi (Li.reverse.map encN) → Below w5.drew.heap.size w5.drew w6 → w6.cell? ⟨gk, i, none⟩ = some (.slice Ai qi ci) ∧ Hid (∀ ty, ∃ v' w', (Builtin.append_ #[26, 26] ty #[.slice (some ⟨gt, 0, none⟩) q1 ct, .slice A6 qi c6]).run Try.prog w6 = .ok v' w' ∧ (∃ A7 c7, v' = .slice A7 (q1 + qi : Nat) c7 ∧ Hid (KO w' b2 [.slice A5 (k + 1) c5, .slice A7 (q1 + qi : Nat) c7] [O ++ [i], (Li ++ S').reverse]) ∧ Hid (Below b2 w1 w') ∧ w'.cell? ⟨gk, i, none⟩ = some (.slice Ai qi ci))) from fun A6 c6 w6 ho6 hb6 => by
        have hz6 : w5.heap.size ≤ w6.heap.size := hb6.size
        have hb6' : Below w5.heap.size w5 w6 := ⟨hb6.os, hb6.tape, hb6.output, hb6.size, hb6.block⟩
        have hz5 : b2 ≤ w5.heap.size := Nat.le_trans (by have := HB2.out; omega) HB5.out.size
        have hB6 : Below b2 w1 w6 := HB5.out.trans (hb6'.mono hz5)
        refine ⟨(HWI.out w6 hB6).1, Lib.hid fun ty => ?_⟩
        have K6 := HKO5.out.below hb6'
        have hot6 := (K6.own 1 _ _ rfl rfl).2
        rw [List.length_reverse, ← HKQ.out.2.1] at hot6
        have less := own_less hot6 (m := q1) (by have := HQ1.out; omega)
        have htake : ((i :: S').reverse.map encN).take (q1 * 1) = S'.reverse.map encN := by
          rw [List.reverse_cons, List.map_append, Nat.mul_one]
          exact List.take_left' (by rw [List.length_map, List.length_reverse]; exact HQ1.out.2.symm)
        rw [htake] at less
        obtain ⟨A9, c9, e9, _, hrd⟩ := own_rd ho6
        injection e9 with e9 _ _
        subst e9
        have hl := HLEN.out
        obtain ⟨v', w', r1, r2, r3⟩ := appIs (ty := ty) (m := qi) (c := c6) less hrd (by rw [List.length_reverse]; exact HQI.out) (by omega) (by omega)
        obtain ⟨A7, c7, rfl, _, _⟩ := own_rd r2
        have hB7 : Below b2 w1 w' := r3.below hB6 (by omega) (own_block_ge less)
        have K7 := K6.put (j := 1) (v' := .slice A7 (q1 + qi : Nat) c7) (L2 := (Li ++ S').reverse) (m := q1 + qi) rfl rfl ⟨r3.grown, r3.blk⟩ (by rw [List.length_reverse, List.length_append, ← HQI.out, ← HQ1.out.2]; omega) (by rw [List.reverse_append, List.map_append]; exact r2)
        exact ⟨_, w', r1, A7, c7, rfl, Lib.hid K7, Lib.hid hB7, (HWI.out w' hB7).1⟩)
      clear hb5 hbd hlen
      go_region_held3 (fun w' => w'.cell? ⟨gk, i, none⟩ = some (.slice Ai qi ci))
        (first | (with_reducible assumption) | (with_reducible exact k8) | (with_reducible exact k9) | (with_reducible exact k7))
        ((first
          | (go_at_call 33; (with_reducible refine RC8.out.mono ?_); rintro ex w6 ⟨A6, c6, rfl, ho6, hb6⟩; obtain ⟨k9, AP6⟩ := HP6.out A6 c6 w6 ho6 hb6; clear ho6 hb6)
          | (refine step_app (by rfl) (.tmp 35) (.tmp 40) _ _ (by rfl) (by rfl) (by rfl) (AP6.out _) ?_; rintro v12 wt ⟨A7, c7, rfl, HK7, HB7, k7⟩)))
      have HKN := Lib.hid (show k < n from by have := HLEN.out; omega)
      have HOM7 := Lib.hid (show (O ++ [i]) ++ Sy.ordM (kidsL P n M) (n - (k + 1)) (Li ++ S') = Sy.ordM (kidsL P n M) n L0 from by rw [← ordM_step _ O S' n k i Li HKI.out HKN.out]; exact HOM.out)
      go_wp2_with fail
      go_roundw
      case rel => exact ⟨A5, c5, k + 1, A7, q1 + qi, c7, O ++ [i], Li ++ S', rfl, rfl, Lib.hid ⟨by rw [List.length_append, List.length_singleton, ← HKQ.out.1], by rw [List.length_append, ← HQI.out, ← HQ1.out.2]; omega, by have := HLEN.out; omega⟩, HOS7, HOM7, HK7, HB7⟩
      case measure => have := HKN.out; simp [lenV]; omega
    · obtain rfl : q = 0 := by omega
      have hS : S = [] := List.eq_nil_of_length_eq_zero HKQ.out.2.1.symm
      subst hS
      have HFIN := Lib.hid (HOS.out.fin HP1.out HNL.out HPP.out HPL.out)
      have hkn : k = n := by
        have h1 := HKQ.out
        have h2 := Sy.nd_le' HOS.out.nd HFIN.out
        rw [List.append_nil] at h2
        omega
      subst hkn
      go_wp2_with fail
      go_ret
      have h1 := (HKO.out.own 0 _ _ rfl rfl).2
      rw [← HKQ.out.1] at h1
      exact ⟨Ao, co, P, M, O, rfl, HP1.out, HBY.out, by rw [← HL0.out, ← HOM.out, Sy.ordM_nil, List.append_nil], HOS.out, own_mono h1 (by have := HB2.out; have := HB1.out.size; omega), HB1.out.trans (HB.out.mono (by have := HB2.out; have := HB1.out.size; omega))⟩
end Go.Proofs.Ytgldjjmpjaegfaa
