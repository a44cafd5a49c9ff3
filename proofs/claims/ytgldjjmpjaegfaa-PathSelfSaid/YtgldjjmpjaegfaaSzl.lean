/- TreeTells. -/
import Derived.Test.YtgldjjmpjaegfaaSzk
import Derived.Test.YtgldjjmpjaegfaaSzc
namespace Go.Proofs.Ytgldjjmpjaegfaa
open Go.RowKit Go.Maps
set_option linter.unusedVariables false
set_option linter.unusedSimpArgs false
set_option maxRecDepth 100000

theorem sps_one (L : List Ls) : ∀ u ∈ L.flatMap Ls.cells, u.oneCell' = true := fun u hu => by
  obtain ⟨y, _, hy⟩ := List.mem_flatMap.1 hu
  exact sp_one y u hy
theorem appSs {w : World} {base n m c B : Nat} {v : Value} {xs : List Value} {ty : TypeId} {A : Option Addr} {L : List Ls} (h : w.ownsRow base 34 10 v n xs) (hr : Rd w B A (L.flatMap Ls.cells)) (hm : m = L.length) (hn : n + m ≤ 100000) (hbase : base ≤ w.heap.size) :
    ∃ v' w', (Builtin.append_ #[22, 22] ty #[v, .slice A m c]).run Try.prog w = .ok v' w' ∧ (w'.ownsRow base 34 10 v' (n + m) (xs ++ L.flatMap Ls.cells) ∧ Grew w w' v v') := by
  obtain ⟨i0, hi, hz0, hz1, hz2⟩ := info_parts info_sp
  exact run_append_rd (P := Try.prog) w base 22 ty 34 i0 _ 10 112 Try.underlying22 hi hz0 hz1 hz2 rfl v n xs h B A m c (L.flatMap Ls.cells) (by rw [flatMap_len _ 10 cells_len, hm]) hr (sps_one L) (by unfold maxLen; omega) (by omega) hbase
theorem encN_Z (X : List Nat) : X.map encN = (X.map fun n : Nat => (n : Int)).map encZ := by rw [List.map_map]; rfl
theorem same29_N (X : List Nat) (A1 A2 : Option Addr) (n c1 c2 B : Nat) (w : World) (h1 : Rd w B A1 (X.map encN)) (h2 : Rd w B A2 (X.map encN)) (hn : n = X.length) (hsm : n ≤ 100000) :
    Calls Try.prog 12 #[.slice A1 n c1, .slice A2 n c2] w fun e w' => e = .returned (.bool true) ∧ Below w.heap.size w w' := by
  rw [encN_Z] at h1 h2
  exact same29_any _ A1 A2 n c1 c2 B w h1 h2 (by rw [List.length_map]; exact hn) hsm
theorem own_read {w : World} {b e size n c B : Nat} {A : Option Addr} {xs : List Value} (h : w.ownsRow b e size (.slice A n c) n xs) (hB : w.heap.size ≤ B) : Rd w B A xs := by
  obtain ⟨A9, c9, e9, _, hrd⟩ := own_rd h
  injection e9 with e9 _ _
  subst e9
  exact hrd.more hB
namespace Sy
theorem bys_eq {l : List Ls} {M M' : List Nat} (h : Bys l M) (h' : Bys l M') : M = M' := sorted_eq h.1 h'.1 fun x => by rw [h.2.1, h'.2.1]
theorem order_eq {l : List Ls} {n : Nat} {P P' : List Int} {M M' O O' : List Nat} (hP : ParOf (namedM l) P) (hM : Bys l M) (hO : O = ordM (kidsL P n M) n (M.filter fun i => parN P n i == n)) (h : Fo l n P' M' O') : O = O' := by
  have e := parOf_ext hP h.par
  subst e
  have e2 := bys_eq hM h.bys
  subst e2
  rw [hO, h.eq]
theorem depths_eq {l : List Ls} {n : Nat} {P P' : List Int} {M' O' D D' : List Nat} {g : Nat → Nat} (hP : ParOf (namedM l) P) (hD : DepOf P n D) (h : Fo l n P' M' O') (hg : Dg P' n g) (hl : D'.length = n) (hD' : ∀ x, x < n → D'[x]? = some (g x)) : D = D' := by
  have e := parOf_ext hP h.par
  subst e
  apply List.ext_getElem?
  intro x
  rcases Nat.lt_or_ge x n with hx | hx
  · rw [hg.dep h.plain h.pl hD (g x) x hx (Nat.le_refl _), hD' x hx]
  · rw [List.getElem?_eq_none (by rw [hD.1]; exact hx), List.getElem?_eq_none (by omega)]
theorem sizes_eq {l : List Ls} {n : Nat} {P P' : List Int} {M' O' O Z Z' : List Nat} (hP : ParOf (namedM l) P) (hO : Ost P n O []) (hZ : Szt P n O.reverse Z) (h : Fo l n P' M' O') (hl : Z'.length = n) (hZ' : ∀ x, x < n → ∃ Bx, Run (fun x => M'.filter fun q => parN P' n q == x) (M'.filter fun q => parN P' n q == x) Bx ∧ Z'[x]? = some (Bx.length + 1)) : Z = Z' := by
  have e := parOf_ext hP h.par
  subst e
  have hnl : (namedM l).length = n := by rw [namedM_len, h.ln]
  have hR : All n O.reverse := ⟨(List.reverse_perm O).nodup_iff.2 (by have h := hO.nd; rw [List.append_nil] at h; exact h), fun x => by
    rw [List.mem_reverse]
    exact hO.fin h.par hnl h.plain h.pl x⟩
  have hz : ∀ x, x < n → Z[x]? = some (tot Z (M'.filter fun q => parN P n q == x) + 1) := fun x hx => by
    rw [hZ.sum x hx, if_pos ((hR.mem x).2 hx), tot_perm (filter_perm h.all hR _), Nat.add_comm]
  have hbn : ∀ (S B : List Nat), Run (fun x => M'.filter fun q => parN P n q == x) S B → (∀ s ∈ S, s < n) → ∀ y ∈ B, y < n := fun S B hr => by
    induction hr with
    | nil => intro _ y hy; cases hy
    | @cons a S' O'' hh ih =>
      intro hs y hy
      rcases List.mem_cons.1 hy with e | e
      · rw [e]; exact hs a List.mem_cons_self
      · refine ih (fun s hsm => ?_) y e
        rcases List.mem_append.1 hsm with u | u
        · exact ((kid_mem h.all).1 u).1
        · exact hs s (List.mem_cons_of_mem _ u)
  apply List.ext_getElem?
  intro x
  rcases Nat.lt_or_ge x n with hx | hx
  · obtain ⟨Bx, hr, hzx⟩ := hZ' x hx
    have hb := hbn _ _ hr fun s hs => ((kid_mem h.all).1 hs).1
    have hlen := hr.len (Z := Z) fun y hy => by rw [hz y (hb y hy)]; rfl
    rw [hz x hx, hzx, hlen]
  · rw [List.getElem?_eq_none (by rw [hZ.len]; exact hx), List.getElem?_eq_none (by omega)]
end Sy
set_option maxHeartbeats 16000000 in
theorem tells29 (lA : Option Addr) (l : List Ls) (n c : Nat) (w : World) (hS : RdSps w w.heap.size lA l) (hn : n = l.length) (hl : n ≤ maxLen) : Calls Try.prog 3 #[.slice lA n c] w fun e w' => e = .returned (.bool true) ∧ Below w.heap.size w w' := by
  have AL := Lib.hid (alive29_calls w)
  obtain ⟨b0, hb0⟩ : ∃ b0, b0 = w.heap.size := ⟨_, rfl⟩
  have HB0 := Lib.hid hb0
  have HSB := Lib.hid (show ∀ W, Below b0 w W → b0 ≤ W.heap.size from fun W h => by have := h.size; omega)
  rw [← hb0] at hS ⊢
  have HSs := Lib.hid hS
  have HN := Lib.hid hn
  have FE := fun (W : World) (h : Below b0 w W) => Lib.hid (fewall_any lA l n c b0 W HN.out (HSs.out.below h) (HSB.out W h) hl)
  have hml := hl
  simp only [maxLen] at hml
  clear hS hn hb0 hl
  obtain ⟨fb, hfb⟩ : ∃ fb, fb = fewAll l := ⟨_, rfl⟩
  rw [← hfb] at FE
  have HFB := Lib.hid hfb
  clear hfb
  cases fb
  · go_enter Try.func3, Try.ntmps3
    go_wp2_with (first | (go_at_call 11; (with_reducible refine (FE _ HB1.out).out.mono ?_); rintro ex w2 ⟨rfl, hb2⟩; have HB2 := Lib.hid (HB1.out.trans (hb2.mono (HSB.out _ HB1.out))); clear hb2) | (go_at_call 10; (with_reducible refine AL.out.mono ?_); rintro ex w1 ⟨rfl, hb1⟩; have HB1 := Lib.hid (show Below b0 w w1 from by rw [HB0.out]; exact hb1); clear hb1))
    go_ret
    exact ⟨rfl, HB2.out⟩
  · have HN60 := Lib.hid (show n ≤ 60 from by
      have h := HFB.out
      unfold fewAll at h
      have h2 := (Bool.and_eq_true _ _).mp h.symm
      rw [HN.out]; exact of_decide_eq_true h2.1)
    go_enter Try.func3, Try.ntmps3
    go_upto_region 4 with (first | (go_at_call 11; (with_reducible refine (FE _ HB1.out).out.mono ?_); rintro ex w2 ⟨rfl, hb2⟩; have HB2 := Lib.hid (HB1.out.trans (hb2.mono (HSB.out _ HB1.out))); clear hb2) | (go_at_call 10; (with_reducible refine AL.out.mono ?_); rintro ex w1 ⟨rfl, hb1⟩; have HB1 := Lib.hid (show Below b0 w w1 from by rw [HB0.out]; exact hb1); clear hb1))
    clear FE AL
    have HS2 := Lib.hid (HSs.out.below HB2.out)
    have APP := Lib.hid (fun ty => appSs (ty := ty) (n := 0) (m := n) (c := c) (base := w2.heap.size) (World.ownsRow_nil w2 w2.heap.size 34 10) HS2.out.rd HN.out (by have := HN60.out; omega) (Nat.le_refl _))
    go_upto_region 5 with (at_builtin; (refine wpList_app rfl (.const (.slice none 0 0)) (.tmp 14) _ _ rfl rfl rfl (APP.out _) ?_); rintro v4 w4 ⟨ho4, hg4⟩; have HO4 := Lib.hid ho4; have HG4 := Lib.hid hg4; clear ho4 hg4)
    clear APP
    have HB4 := Lib.hid (HB2.out.trans (HG4.out.new.mono (HSB.out _ HB2.out)))
    have hX4 : w4.ownsRow w2.heap.size 34 10 v4 n (l.flatMap Ls.cells) := by have h := HO4.out; rw [Nat.zero_add, List.nil_append] at h; exact h
    obtain ⟨A4, c4, rfl, _, _⟩ := own_rd hX4
    have HRX := Lib.hid (show RdSps w4 w4.heap.size A4 l from ⟨own_read hX4 (Nat.le_refl _), fun y hy => ((HS2.out.each y hy).below (HG4.out.new.mono (HSB.out _ HB2.out))).more (HSB.out _ HB4.out)⟩)
    have HRL := Lib.hid (show RdSps w4 w4.heap.size lA l from (HSs.out.below HB4.out).more (HSB.out _ HB4.out))
    have HQ4 := Lib.hid (Below.refl w4.heap.size w4)
    clear hX4 HO4 HG4 HS2
    have C13 := fun (W : World) (h : Below w4.heap.size w4 W) => Lib.hid (parents_any l A4 n c4 w4.heap.size W (HRX.out.below h) h.size HN.out (by have := HN60.out; omega))
    have C14 := fun (W : World) (h : Below w4.heap.size w4 W) => Lib.hid (refparents_any l lA n c w4.heap.size W (HRL.out.below h) h.size HN.out (by have := HN60.out; omega))
    have C15 := fun (W : World) (h : Below w4.heap.size w4 W) => Lib.hid (order_any l A4 n c4 w4.heap.size W (HRX.out.below h) h.size HN.out (by have := HN60.out; omega))
    have C16 := fun (W : World) (h : Below w4.heap.size w4 W) => Lib.hid (reforder_any l lA n c w4.heap.size W (HRL.out.below h) h.size HN.out (by have := HN60.out; omega))
    have C17 := fun (W : World) (h : Below w4.heap.size w4 W) => Lib.hid (depths_any l A4 n c4 w4.heap.size W (HRX.out.below h) h.size HN.out (by have := HN60.out; omega))
    have C18 := fun (W : World) (h : Below w4.heap.size w4 W) => Lib.hid (refdepths_any l lA n c w4.heap.size W (HRL.out.below h) h.size HN.out (by have := HN60.out; omega))
    have C19 := fun (W : World) (h : Below w4.heap.size w4 W) => Lib.hid (sizes_any l A4 n c4 w4.heap.size W (HRX.out.below h) h.size HN.out (by have := HN60.out; omega))
    have C20 := fun (W : World) (h : Below w4.heap.size w4 W) => Lib.hid (refsizes_any l lA n c w4.heap.size W (HRL.out.below h) h.size HN.out (by have := HN60.out; omega))
    have HNL := Lib.hid (show (namedM l).length = n from by rw [namedM_len, HN.out])
    go_wp2_with (first
      | (go_at_call 12; (first
          | ((with_reducible refine S15.out.mono ?_); rintro ex w16 ⟨rfl, hb16⟩; have HQ16 := Lib.hid (HQ15.out.trans (hb16.mono HQ15.out.size)); clear hb16)
          | ((with_reducible refine S12.out.mono ?_); rintro ex w13 ⟨rfl, hb13⟩; have HQ13 := Lib.hid (HQ12.out.trans (hb13.mono HQ12.out.size)); clear hb13)
          | ((with_reducible refine S9.out.mono ?_); rintro ex w10 ⟨rfl, hb10⟩; have HQ10 := Lib.hid (HQ9.out.trans (hb10.mono HQ9.out.size)); clear hb10)
          | ((with_reducible refine S6.out.mono ?_); rintro ex w7 ⟨rfl, hb7⟩; have HQ7 := Lib.hid (HQ6.out.trans (hb7.mono HQ6.out.size)); clear hb7)))
      | (go_at_call 13; (with_reducible refine (C13 _ HQ4.out).out.mono ?_); rintro ex w5 ⟨gp, P5, rfl, hp5, ho5, hb5⟩; have HQ5 := Lib.hid (HQ4.out.trans (hb5.mono HQ4.out.size)); have HP5 := Lib.hid hp5; have HO5 := Lib.hid ho5; clear hp5 ho5 hb5)
      | (go_at_call 14; (with_reducible refine (C14 _ HQ5.out).out.mono ?_); rintro ex w6 ⟨A6, c6, P6, rfl, hp6, ho6, hb6⟩; have HQ6 := Lib.hid (HQ5.out.trans (hb6.mono HQ5.out.size)); obtain rfl := parOf_ext HP5.out hp6; have S6 := Lib.hid (same29_any P5 (some ⟨gp, 0, none⟩) A6 n n c6 w6.heap.size w6 (own_read (own_below HO5.out hb6) (Nat.le_refl _)) (own_read ho6 (Nat.le_refl _)) (by rw [hp6.1]; exact HNL.out.symm) (by have := HN60.out; omega)); clear hp6 ho6 hb6)
      | (go_at_call 15; (with_reducible refine (C15 _ HQ7.out).out.mono ?_); rintro ex w8 ⟨A8, c8, P8, M8, O8, rfl, hp8, hy8, he8, _, ho8, hb8⟩; have HQ8 := Lib.hid (HQ7.out.trans (hb8.mono HQ7.out.size)); have HP8 := Lib.hid hp8; have HY8 := Lib.hid hy8; have HE8 := Lib.hid he8; have HO8 := Lib.hid ho8; clear hp8 hy8 he8 ho8 hb8)
      | (go_at_call 16; (with_reducible refine (C16 _ HQ8.out).out.mono ?_); rintro ex w9 ⟨A9, c9, P9, M9, O9, rfl, hf9, ho9, hb9⟩; have HQ9 := Lib.hid (HQ8.out.trans (hb9.mono HQ8.out.size)); obtain rfl := Sy.order_eq HP8.out HY8.out HE8.out hf9; have S9 := Lib.hid (same29_N O8 A8 A9 n c8 c9 w9.heap.size w9 (own_read (own_below HO8.out hb9) (Nat.le_refl _)) (own_read ho9 (Nat.le_refl _)) hf9.olen.symm (by have := HN60.out; omega)); clear hf9 ho9 hb9)
      | (go_at_call 17; (with_reducible refine (C17 _ HQ10.out).out.mono ?_); rintro ex w11 ⟨gd, P11, D11, rfl, hp11, hd11, ho11, hb11⟩; have HQ11 := Lib.hid (HQ10.out.trans (hb11.mono HQ10.out.size)); have HP11 := Lib.hid hp11; have HD11 := Lib.hid hd11; have HO11 := Lib.hid ho11; clear hp11 hd11 ho11 hb11)
      | (go_at_call 18; (with_reducible refine (C18 _ HQ11.out).out.mono ?_); rintro ex w12 ⟨A12, c12, P12, M12, O12, g12, D12, rfl, hf12, hg12, hl12, hd12, ho12, hb12⟩; have HQ12 := Lib.hid (HQ11.out.trans (hb12.mono HQ11.out.size)); obtain rfl := Sy.depths_eq HP11.out HD11.out hf12 hg12 hl12 hd12; have S12 := Lib.hid (same29_N D11 (some ⟨gd, 0, none⟩) A12 n n c12 w12.heap.size w12 (own_read (own_below HO11.out hb12) (Nat.le_refl _)) (own_read ho12 (Nat.le_refl _)) hl12.symm (by have := HN60.out; omega)); clear hf12 hg12 hl12 hd12 ho12 hb12)
      | (go_at_call 19; (with_reducible refine (C19 _ HQ13.out).out.mono ?_); rintro ex w14 ⟨gz, P14, M14, O14, Z14, rfl, hp14, _, _, ht14, hz14, ho14, hb14⟩; have HQ14 := Lib.hid (HQ13.out.trans (hb14.mono HQ13.out.size)); have HP14 := Lib.hid hp14; have HT14 := Lib.hid ht14; have HZ14 := Lib.hid hz14; have HO14 := Lib.hid ho14; clear hp14 ht14 hz14 ho14 hb14)
      | (go_at_call 20; (with_reducible refine (C20 _ HQ14.out).out.mono ?_); rintro ex w15 ⟨A15, c15, P15, M15, O15, Z15, rfl, hf15, hl15, hz15, ho15, hb15⟩; have HQ15 := Lib.hid (HQ14.out.trans (hb15.mono HQ14.out.size)); obtain rfl := Sy.sizes_eq HP14.out HT14.out HZ14.out hf15 hl15 hz15; have S15 := Lib.hid (same29_N Z14 (some ⟨gz, 0, none⟩) A15 n n c15 w15.heap.size w15 (own_read (own_below HO14.out hb15) (Nat.le_refl _)) (own_read ho15 (Nat.le_refl _)) hl15.symm (by have := HN60.out; omega)); clear hf15 hl15 hz15 ho15 hb15))
    go_ret
    exact ⟨rfl, HB4.out.trans (HQ16.out.mono (HSB.out _ HB4.out))⟩
end Go.Proofs.Ytgldjjmpjaegfaa
