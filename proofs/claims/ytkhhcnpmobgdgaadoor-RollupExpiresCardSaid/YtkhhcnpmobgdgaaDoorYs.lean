/- RollupExpires. -/
import Derived.Test.YtkhhcnpmobgdgaaDoorYo
import Derived.Test.YtkhhcnpmobgdgaaDoorPil
namespace Go.Proofs.YtkhhcnpmobgdgaaDoor
open Go.RowKit
set_option linter.unusedVariables false
set_option linter.unusedSimpArgs false
set_option maxRecDepth 100000

theorem filter_stepR {X : List Rw} (p : Rw → Bool) {i : Nat} {r : Rw} (h : X[i]? = some r) : ((X.take (i + 1)).filter p).length = ((X.take i).filter p).length + if p r = true then 1 else 0 := by
  rw [List.take_add_one, h, List.filter_append, List.length_append]
  by_cases hp : p r = true
  · simp [List.filter_cons, hp]
  · simp [List.filter_cons, hp]
theorem filter_atR : ∀ {X : List Rw} {p : Rw → Bool} {i : Nat} {r : Rw}, X[i]? = some r → p r = true → (X.filter p)[((X.take i).filter p).length]? = some r
  | [], p, i, r, h, _ => by simp at h
  | a :: t, p, 0, r, h, hp => by
    simp at h; subst h
    simp [List.filter_cons, hp]
  | a :: t, p, i + 1, r, h, hp => by
    have ih := filter_atR (X := t) (p := p) (i := i) (r := r) (by simpa using h) hp
    by_cases ha : p a = true
    · simpa [List.filter_cons, ha] using ih
    · simpa [List.filter_cons, ha] using ih
theorem later_filter {X : List Rw} {p q : Rw → Bool} (h : ∀ x ∈ X, q x = true → p x = true) : (X.filter p).filter q = X.filter q := by
  rw [List.filter_filter]
  refine List.filter_congr fun x hx => ?_
  cases hq : q x
  · rfl
  · rw [h x hx hq]; rfl
def RgE (b xn xc an ac m1 : Nat) (xA aA : Option Addr) (sec later h0 h1 h2 : Int) (E0 E1 : List Rw) : Nat → Value → World → Prop
  | 0, v, _ => v = .int .i64 (an : Int)
  | 1, v, _ => v = .slice aA an ac
  | 2, v, _ => v = .int .i64 (an : Int)
  | 3, v, _ => v = .bool true
  | 4, v, _ => v = .bool true
  | 5, v, _ => v = .slice aA an ac
  | 6, v, _ => v = .int .i64 later
  | 7, v, _ => v = .agg #[.int .i64 h0, .int .i64 h1, .int .i64 h2]
  | 8, v, w => ∃ (A : Option Addr) (c : Nat), v = .slice A m1 c ∧ Rd w w.heap.size A (E1.flatMap Rw.cells)
  | 9, v, _ => v = .slice xA xn xc
  | 10, v, _ => v = .int .i64 later
  | 11, v, _ => v = .agg #[.int .i64 h0, .int .i64 h1, .int .i64 h2]
  | 12, v, w => ∃ (A : Option Addr) (c : Nat), v = .slice A m1 c ∧ Rd w w.heap.size A (E1.flatMap Rw.cells)
  | 13, v, _ => v = .bool true
  | 14, v, _ => v = .bool true
  | 15, v, _ => v = .bool true
  | 16, v, _ => v = .slice aA an ac
  | 17, v, _ => v = .int .i64 sec
  | 18, v, _ => v = .agg #[.int .i64 h0, .int .i64 h1, .int .i64 h2]
  | 19, v, w => ∃ (A : Option Addr) (c : Nat), v = .slice A an c ∧ Rd w w.heap.size A (E0.flatMap Rw.cells)
  | 20, v, _ => v = .slice aA an ac
  | 21, v, _ => v = .bool true
  | 22, v, _ => v = .bool true
  | 23, v, _ => v = .bool true
  | _, _, _ => True
theorem RgE.keep {b xn xc an ac m1 : Nat} {xA aA : Option Addr} {sec later h0 h1 h2 : Int} {E0 E1 : List Rw} {w w' : World} {i : Nat} {v : Value} (hb : Below w.heap.size w w') (h : RgE b xn xc an ac m1 xA aA sec later h0 h1 h2 E0 E1 i v w) : RgE b xn xc an ac m1 xA aA sec later h0 h1 h2 E0 E1 i v w' := by
  match i, h with
  | 0, h => exact h
  | 1, h => exact h
  | 2, h => exact h
  | 3, h => exact h
  | 4, h => exact h
  | 5, h => exact h
  | 6, h => exact h
  | 7, h => exact h
  | 8, h => exact (by obtain ⟨A, c, hv, hr⟩ := h; exact ⟨A, c, hv, (hr.below hb).more hb.size⟩)
  | 9, h => exact h
  | 10, h => exact h
  | 11, h => exact h
  | 12, h => exact (by obtain ⟨A, c, hv, hr⟩ := h; exact ⟨A, c, hv, (hr.below hb).more hb.size⟩)
  | 13, h => exact h
  | 14, h => exact h
  | 15, h => exact h
  | 16, h => exact h
  | 17, h => exact h
  | 18, h => exact h
  | 19, h => exact (by obtain ⟨A, c, hv, hr⟩ := h; exact ⟨A, c, hv, (hr.below hb).more hb.size⟩)
  | 20, h => exact h
  | 21, h => exact h
  | 22, h => exact h
  | 23, h => exact h
  | _ + 24, h => trivial

set_option maxHeartbeats 16000000 in
theorem expires10 (sA : Option Addr) (S : List Ls) (sn sc : Nat) (sec later h0 h1 h2 : Int) (w : World) (hS : RdSps w w.heap.size sA S) (hsn : sn = S.length) (hsl : sn ≤ maxLen) (hsec : -9223372036854775808 ≤ sec ∧ sec ≤ 9223372036854775807) (hla : -9223372036854775808 ≤ later ∧ later ≤ 9223372036854775807) (hh0 : -9223372036854775808 ≤ h0 ∧ h0 ≤ 9223372036854775807) (hh1 : -9223372036854775808 ≤ h1 ∧ h1 ≤ 9223372036854775807) (hh2 : -9223372036854775808 ≤ h2 ∧ h2 ≤ 9223372036854775807) (T : Bnds w) (TL : Lens w) :
    Calls Tryd.prog 7 #[.slice sA sn sc, .int .i64 sec, .int .i64 later, .agg #[.int .i64 h0, .int .i64 h1, .int .i64 h2]] w fun e w' => e = .returned (.bool true) ∧ Below w.heap.size w w' := by
  obtain ⟨base, hbase⟩ : ∃ base, base = w.heap.size := ⟨_, rfl⟩
  have HT : Hid (Bnds w ∧ Lens w ∧ 4 < base ∧ 1 < base) := ⟨T, TL, by rw [hbase]; exact T.lt, by rw [hbase]; exact TL.lt⟩
  rw [← hbase] at hS ⊢
  have HSs := Lib.hid hS
  have HSN := Lib.hid hsn
  have HBASE := Lib.hid hbase
  obtain ⟨W0, hW0⟩ : ∃ W0, W0 = w.alloc (.cells #[.int .i64 h0, .int .i64 h1, .int .i64 h2] 29) := ⟨_, rfl⟩
  have HB0 := Lib.hid (show Below base w W0 from by rw [hW0, hbase]; exact (Below.refl w.heap.size w).alloc (Nat.le_refl _) _)
  have HQ0 := Lib.hid (show W0.heap[base]? = some (.cells #[.int .i64 h0, .int .i64 h1, .int .i64 h2] 29) from by rw [hW0, hbase]; exact heap_alloc_new w _)
  have HZ0 := Lib.hid (show W0.heap.size = base + 1 from by rw [hW0, hbase]; simp)
  have HHZ := Lib.hid (fun (W : World) (h : Below (base + 1) W0 W) (j : Nat) (hj : j < 3) => show W.cell? ⟨base, j, none⟩ = some (.int .i64 (if j = 0 then h0 else if j = 1 then h1 else h2)) from by
    rw [h.cell (p := ⟨base, j, none⟩) (Nat.lt_succ_self _), cell_of_row _ _ j _ _ (0, 0) HQ0.out]
    have : j = 0 ∨ j = 1 ∨ j = 2 := by omega
    rcases this with rfl | rfl | rfl <;> rfl)
  have AL := fun (W : World) (h : Below base w W) => Lib.hid (alive10_calls W (HT.out.1.below h HT.out.2.2.1) (HT.out.2.1.below h HT.out.2.2.2))
  have FE := fun (W : World) (h : Below base w W) => Lib.hid (fewall_any sA S sn sc base W HSN.out (HSs.out.below h) (by have := h.size; have := HBASE.out; omega) hsl)
  have AL0 := AL W0 HB0.out
  have HWE := Lib.hid hW0
  have hsl2 := hsl
  simp only [maxLen] at hsl2
  clear hS hsn hbase T TL AL hW0
  obtain ⟨fb, hfb⟩ : ∃ fb, fb = fewAll S := ⟨_, rfl⟩
  rw [← hfb] at FE
  have HFB := Lib.hid hfb
  clear hfb
  obtain ⟨b1, hb1⟩ : ∃ b1, b1 = decide (sec < 0) := ⟨_, rfl⟩
  obtain ⟨b2, hb2⟩ : ∃ b2, b2 = decide (later < sec) := ⟨_, rfl⟩
  obtain ⟨b3, hb3⟩ : ∃ b3, b3 = decide (1099511627776 < later) := ⟨_, rfl⟩
  have hgo : (fb = false ∨ (fb = true ∧ b1 = true) ∨ (fb = true ∧ b1 = false ∧ b2 = true) ∨ (fb = true ∧ b1 = false ∧ b2 = false ∧ b3 = true)) ∨ (fb = true ∧ b1 = false ∧ b2 = false ∧ b3 = false) := by
    cases fb <;> cases b1 <;> cases b2 <;> cases b3 <;> simp
  have d1 := hb1.symm
  have d2 := hb2.symm
  have d3 := hb3.symm
  clear hb1 hb2 hb3
  have HSEC := Lib.hid hsec
  have HLA := Lib.hid hla
  have HH := Lib.hid (show (-9223372036854775808 ≤ h0 ∧ h0 ≤ 9223372036854775807) ∧ (-9223372036854775808 ≤ h1 ∧ h1 ≤ 9223372036854775807) ∧ (-9223372036854775808 ≤ h2 ∧ h2 ≤ 9223372036854775807) from ⟨hh0, hh1, hh2⟩)
  clear hsec hla hh0 hh1 hh2
  rcases hgo with hgo | ⟨rfl, rfl, rfl, rfl⟩
  · rcases hgo with rfl | ⟨rfl, rfl⟩ | ⟨rfl, rfl, rfl⟩ | ⟨rfl, rfl, rfl, rfl⟩
    all_goals
      go_enter Tryd.func7, Tryd.ntmps7
      go_wp2_with (first | (go_at_call 20; (with_reducible refine (FE _ (by with_reducible assumption)).out.mono ?_); rintro ex w2 ⟨rfl, hb2⟩; have HB2 := Lib.hid hb2) | (go_at_call 10; (refine (show Calls Tryd.prog 10 #[] _ _ from (HWE.out ▸ AL0.out)).mono ?_); rintro ex w1 ⟨rfl, hb1⟩; rw [← HWE.out] at hb1; have hbb0 : Below (base + 1) W0 w1 := (by rw [← HZ0.out]; exact hb1); have hbb1 : Below base w w1 := (HB0.out.trans (hbb0.mono (Nat.le_succ _)))))
      go_ret
      exact ⟨rfl, hbb1.trans (HB2.out.mono (by have := hbb1.size; have := HBASE.out; omega))⟩
  · have hs0 : 0 ≤ sec := by have := of_decide_eq_false d1; omega
    have hsl3 : sec ≤ later := by have := of_decide_eq_false d2; omega
    have hla3 : later ≤ 1099511627776 := by have := of_decide_eq_false d3; omega
    have HORD := Lib.hid (show 0 ≤ sec ∧ sec ≤ later ∧ later ≤ 1099511627776 from ⟨hs0, hsl3, hla3⟩)
    clear hs0 hsl3 hla3
    have hsn60 : sn ≤ 60 := by
      have h := HFB.out
      unfold fewAll at h
      have h2 := (Bool.and_eq_true _ _).mp h.symm
      rw [HSN.out]; exact of_decide_eq_true h2.1
    go_enter Tryd.func7, Tryd.ntmps7
    go_upto_region 4 with (first | (go_at_call 20; (with_reducible refine (FE _ (by with_reducible assumption)).out.mono ?_); rintro ex w2 ⟨rfl, hb2⟩; have HB2 := Lib.hid hb2) | (go_at_call 10; (refine (show Calls Tryd.prog 10 #[] _ _ from (HWE.out ▸ AL0.out)).mono ?_); rintro ex w1 ⟨rfl, hb1⟩; rw [← HWE.out] at hb1; have hbb0 : Below (base + 1) W0 w1 := (by rw [← HZ0.out]; exact hb1); have hbb1 : Below base w w1 := (HB0.out.trans (hbb0.mono (Nat.le_succ _)))))
    have HBW2 := Lib.hid (hbb0.trans (HB2.out.mono (by have := hbb0.size; have := HZ0.out; omega)))
    have HBB2 := Lib.hid (HB0.out.trans (HBW2.out.mono (Nat.le_succ _)))
    clear hb1 hb2 hbb0 hbb1 FE AL0 HB2
    have q0 : w2.cell? ⟨base, 0, none⟩ = some (.int .i64 h0) := HHZ.out w2 HBW2.out 0 (by decide)
    have q1 : w2.cell? ⟨base, 1, none⟩ = some (.int .i64 h1) := HHZ.out w2 HBW2.out 1 (by decide)
    have q2 : w2.cell? ⟨base, 2, none⟩ = some (.int .i64 h2) := HHZ.out w2 HBW2.out 2 (by decide)
    rw [← HBASE.out]
    go_upto_region 5 with fail
    go_loop [10] (fun v => ∃ k : Nat, v = .int .i64 k ∧ k ≤ 3 ∧ Hid (0 < k → 0 ≤ h0 ∧ h0 ≤ 1099511627776) ∧ Hid (1 < k → 0 ≤ h1 ∧ h1 ≤ 1099511627776) ∧ Hid (2 < k → 0 ≤ h2 ∧ h2 ≤ 1099511627776)) (fun v => 3 - (intOf v).toNat)
    case atStart => exact ⟨0, rfl, by omega, Lib.hid (fun h => by omega), Lib.hid (fun h => by omega), Lib.hid (fun h => by omega)⟩
    case round =>
      obtain ⟨k, rfl, hk, G0, G1, G2⟩ := hrel
      have hk4 : k = 0 ∨ k = 1 ∨ k = 2 ∨ k = 3 := by omega
      rcases hk4 with rfl | rfl | rfl | rfl
      · rcases Int.lt_or_le h0 0 with hb | hb
        · have e1 : decide (h0 < 0) = true := decide_eq_true hb
          clear hb
          go_wp2_with fail
          go_ret
          exact ⟨rfl, HBB2.out⟩
        · have e1 : decide (h0 < 0) = false := decide_eq_false (by omega)
          rcases Int.lt_or_le 1099511627776 h0 with hc | hc
          · have e2 : decide (1099511627776 < h0) = true := decide_eq_true hc
            clear hb hc
            go_wp2_with fail
            go_ret
            exact ⟨rfl, HBB2.out⟩
          · have e2 : decide (1099511627776 < h0) = false := decide_eq_false (by omega)
            have HGJ := Lib.hid (show 0 ≤ h0 ∧ h0 ≤ 1099511627776 from ⟨hb, hc⟩)
            clear hb hc
            go_wp2_with fail
            go_round
            case rel => exact ⟨1, by first | rfl | go_num, by omega, Lib.hid (fun _ => HGJ.out), Lib.hid (fun h => by omega), Lib.hid (fun h => by omega)⟩
            case measure => simp [intOf]
      · rcases Int.lt_or_le h1 0 with hb | hb
        · have e1 : decide (h1 < 0) = true := decide_eq_true hb
          clear hb
          go_wp2_with fail
          go_ret
          exact ⟨rfl, HBB2.out⟩
        · have e1 : decide (h1 < 0) = false := decide_eq_false (by omega)
          rcases Int.lt_or_le 1099511627776 h1 with hc | hc
          · have e2 : decide (1099511627776 < h1) = true := decide_eq_true hc
            clear hb hc
            go_wp2_with fail
            go_ret
            exact ⟨rfl, HBB2.out⟩
          · have e2 : decide (1099511627776 < h1) = false := decide_eq_false (by omega)
            have HGJ := Lib.hid (show 0 ≤ h1 ∧ h1 ≤ 1099511627776 from ⟨hb, hc⟩)
            clear hb hc
            go_wp2_with fail
            go_round
            case rel => exact ⟨2, by first | rfl | go_num, by omega, Lib.hid (fun _ => G0.out (by decide)), Lib.hid (fun _ => HGJ.out), Lib.hid (fun h => by omega)⟩
            case measure => simp [intOf]
      · rcases Int.lt_or_le h2 0 with hb | hb
        · have e1 : decide (h2 < 0) = true := decide_eq_true hb
          clear hb
          go_wp2_with fail
          go_ret
          exact ⟨rfl, HBB2.out⟩
        · have e1 : decide (h2 < 0) = false := decide_eq_false (by omega)
          rcases Int.lt_or_le 1099511627776 h2 with hc | hc
          · have e2 : decide (1099511627776 < h2) = true := decide_eq_true hc
            clear hb hc
            go_wp2_with fail
            go_ret
            exact ⟨rfl, HBB2.out⟩
          · have e2 : decide (1099511627776 < h2) = false := decide_eq_false (by omega)
            have HGJ := Lib.hid (show 0 ≤ h2 ∧ h2 ≤ 1099511627776 from ⟨hb, hc⟩)
            clear hb hc
            go_wp2_with fail
            go_round
            case rel => exact ⟨3, by first | rfl | go_num, by omega, Lib.hid (fun _ => G0.out (by decide)), Lib.hid (fun _ => G1.out (by decide)), Lib.hid (fun _ => HGJ.out)⟩
            case measure => simp [intOf]
      · have HG := Lib.hid (show (0 ≤ h0 ∧ h0 ≤ 1099511627776) ∧ (0 ≤ h1 ∧ h1 ≤ 1099511627776) ∧ (0 ≤ h2 ∧ h2 ≤ 1099511627776) from ⟨G0.out (by decide), G1.out (by decide), G2.out (by decide)⟩)
        clear G0 G1 G2 hk
        obtain ⟨X, hX⟩ : ∃ X, X = rowsS (S.map Ls.s) 1000 := ⟨_, rfl⟩
        obtain ⟨xn, hxn⟩ : ∃ xn, xn = X.length := ⟨_, rfl⟩
        have HX := Lib.hid hX
        have HXN := Lib.hid hxn
        have HXL := Lib.hid (show xn ≤ 180 from by
          rw [hxn, hX]
          have : ∀ R : List Sp, (rowsS R.reverse 1000).length ≤ 3 * R.length := by
            intro R
            induction R with
            | nil => exact Nat.le_refl _
            | cons s R ih => rw [List.reverse_cons, rowsS_snoc]; have := addS_len (rowsS R.reverse 1000) s 1000; rw [List.length_cons]; omega
          have h := this (S.map Ls.s).reverse
          rw [List.reverse_reverse, List.length_reverse, List.length_map, ← HSN.out] at h
          omega)
        have RW := Lib.hid (rows_any sA S sn sc base 1000 w2 (HSs.out.below HBB2.out) HSN.out (by have := HBB2.out.size; have := HBASE.out; omega) (HT.out.1.below HBB2.out HT.out.2.2.1) (HT.out.2.1.below HBB2.out HT.out.2.2.2) (by decide) (by omega))
        rw [← hX, ← hxn] at RW
        clear hX hxn q0 q1 q2
        go_upto_region 10 with (go_at_call 21; (with_reducible refine RW.out.mono ?_); rintro ex w9 ⟨v9, rfl, ho9, hb9⟩; have HO9 := Lib.hid ho9; have HB9w := Lib.hid hb9; clear ho9 hb9)
        obtain ⟨xA, xc, rfl, _, hrd9⟩ := own_rd HO9.out
        have HS2 := Lib.hid (show base + 1 ≤ w2.heap.size from by have := HBW2.out.size; have := HZ0.out; omega)
        have HBW9 := Lib.hid (HBW2.out.trans (HB9w.out.mono HS2.out))
        have HBB9 := Lib.hid (HBB2.out.trans (HB9w.out.mono (by have := HS2.out; omega)))
        have HRX9 := Lib.hid hrd9
        have q0 : w9.cell? ⟨base, 0, none⟩ = some (.int .i64 h0) := HHZ.out w9 HBW9.out 0 (by decide)
        have q1 : w9.cell? ⟨base, 1, none⟩ = some (.int .i64 h1) := HHZ.out w9 HBW9.out 1 (by decide)
        have q2 : w9.cell? ⟨base, 2, none⟩ = some (.int .i64 h2) := HHZ.out w9 HBW9.out 2 (by decide)
        obtain ⟨E0, hE0⟩ : ∃ E0, E0 = X.filter (keepE sec h0 h1 h2) := ⟨_, rfl⟩
        have EX := Lib.hid (rexpire_any xA X xn xc w9.heap.size sec h0 h1 h2 w9 HXN.out hrd9 (Nat.le_refl _) (by have := HXL.out; omega) (HT.out.2.1.below HBB9.out HT.out.2.2.2) HSEC.out HH.out.1 HH.out.2.1 HH.out.2.2)
        rw [← hE0] at EX
        obtain ⟨an, han⟩ : ∃ an, an = E0.length := ⟨_, rfl⟩
        have EX2 : Hid (Calls Tryd.prog 16 #[.slice xA xn xc, .int .i64 sec, .agg #[.int .i64 h0, .int .i64 h1, .int .i64 h2]] w9 fun e w' => ∃ (A : Option Addr) (c : Nat), e = .returned (.slice A an c) ∧ w'.ownsRow w9.heap.size 48 14 (.slice A an c) an (E0.flatMap Rw.cells) ∧ Below w9.heap.size w9 w') := Lib.hid (by rw [han]; exact EX.out)
        have HE0 := Lib.hid hE0
        have HAN := Lib.hid han
        have HANL := Lib.hid (show an ≤ 180 from by rw [han, hE0]; exact Nat.le_trans (List.length_filter_le _ _) (by rw [← HXN.out]; exact HXL.out))
        clear hE0 han EX hrd9 RW HO9 HB9w
        go_upto_region 13 with (go_at_call 16; (with_reducible refine EX2.out.mono ?_); rintro ex w10 ⟨aA, ac, rfl, ho10, hb10⟩; have HO10 := Lib.hid ho10; have HB10 := Lib.hid hb10; clear ho10 hb10)
        have AR := Lib.hid (Rd.of_own HO10.out)
        have HS9 := Lib.hid (show base + 1 ≤ w9.heap.size from by have := HBW9.out.size; have := HZ0.out; omega)
        have HBW10 := Lib.hid (HBW9.out.trans (HB10.out.mono HS9.out))
        have HBB10 := Lib.hid (HBB9.out.trans (HB10.out.mono (by have := HS9.out; omega)))
        have HRX := Lib.hid ((HRX9.out.below HB10.out).more HB10.out.size)
        have HS10 := Lib.hid (show base + 1 ≤ w10.heap.size from by have := HB10.out.size; have := HS9.out; omega)
        clear EX2 HO10 HBW9 HBB9 HRX9 HB10 q0 q1 q2
        go_loopw [13, 14] (fun kv iv wr => ∃ i kk : Nat, iv = .int .i64 i ∧ i ≤ xn ∧ kv = .int .i64 kk ∧ Hid (kk = ((X.take i).filter (keepE sec h0 h1 h2)).length) ∧ Hid (Below w10.heap.size w10 wr)) (fun _ iv _ => xn - (intOf iv).toNat)
        case atStart => exact ⟨0, 0, rfl, Nat.zero_le _, rfl, Lib.hid rfl, Lib.hid (Below.refl _ _)⟩
        case round =>
          obtain ⟨i, kk, rfl, hi, rfl, HKK, HWO⟩ := hrel
          by_cases hlt : i < xn
          · obtain ⟨r, hr⟩ : ∃ r, X[i]? = some r := ⟨_, List.getElem?_eq_getElem (by rw [← HXN.out]; exact hlt)⟩
            have hrm : r ∈ rowsS (S.map Ls.s) 1000 := by rw [← HX.out]; exact List.mem_of_getElem? hr
            obtain ⟨hlev, t, ht0, ht1, htw⟩ := rows_level 1000 (by decide) hrm
            have HTK := Lib.hid (filter_stepR (keepE sec h0 h1 h2) hr)
            obtain ⟨ax, hax, habx, x0, x1, x2, x3, x4, x5, x6, x7, x8, x9, x10, x11, x12, x13⟩ := row_cells (HRX.out.below HWO.out) hr
            subst hax
            have HXI := Lib.hid hr
            obtain ⟨⟨lv, wi, sv, op⟩, ct⟩ := r
            simp only at x0 x1 x2 x3 x4 x5 x6 x7 x8 x9 x10 x11 x12 x13 hlev htw
            have hspan : Wm.span lv wi = (wi * Wm.lens lv, wi * Wm.lens lv + Wm.lens lv, true) := Wm.span_of hlev rfl (by
              rw [htw]
              have := (Wm.lens_bd hlev).1
              exact Int.ediv_nonneg ht0 (by omega)) (by
              rw [htw]
              have := (Wm.lens_bd hlev).1
              exact Int.ediv_le_ediv (by omega) ht1)
            obtain ⟨q, hq⟩ : ∃ q : Int × Int × Bool, q = Wm.span lv wi := ⟨_, rfl⟩
            have LA := fun (W : World) => lasts_any lv wi W
            rw [← hq] at LA hspan
            have HSP0 := Lib.hid hq
            have HLEV := Lib.hid hlev
            obtain ⟨st, en, ok⟩ := q
            simp only at LA
            obtain rfl : ok = true := by injection hspan with _ h; injection h
            have HSP := Lib.hid (show (st, en, true) = Wm.span lv wi from HSP0.out)
            have LS := fun (W : World) => Lib.hid (LA W)
            have HLT := Lib.hid hlt
            have HWS0 := Lib.hid (show w10.heap.size ≤ wr.heap.size from HWO.out.size)
            have ii0 : (0 : Int) ≤ (i : Int) := by omega
            have ii1 : (i : Int) < (xn : Int) := by omega
            have ii2 : (xn : Int) ≤ 180 := by have := HXL.out; omega
            clear hr hrm hlev ht0 ht1 htw hspan hq HSP0 LA hlt hi habx
            go_wp2_with fail
            have n0 := fun p : NowB wr => p.cell x0
            have n1 := fun p : NowB wr => p.cell x1
            clear x0 x1
            refine wp_region_quiet_below (by kernel_rfl) (by kernel_rfl) ?_
            repeat (go_big_quiet_step ((go_at_call 27; with_reducible exact Calls.now_same' (LS _).out)))
            refine wpQuiet_nil ?_
            intro _ hw'
            obtain ⟨pp, hw''⟩ := hw'
            subst hw''
            have HWI := Lib.hid (HWO.out.trans (pp.h.mono HWS0.out))
            have u2 := pp.cell x2
            have u3 := pp.cell x3
            have u4 := pp.cell x4
            have u5 := pp.cell x5
            have u6 := pp.cell x6
            have u7 := pp.cell x7
            have u8 := pp.cell x8
            have u9 := pp.cell x9
            have u10 := pp.cell x10
            have u11 := pp.cell x11
            have u12 := pp.cell x12
            have u13 := pp.cell x13
            have HP9 := Lib.hid pp.h
            generalize pp.W = wr0 at *
            clear x2 x3 x4 x5 x6 x7 x8 x9 x10 x11 x12 x13
            have u0 := n0 ⟨wr0, HP9.out⟩
            have u1 := n1 ⟨wr0, HP9.out⟩
            clear n0 n1
            simp only at u0 u1
            have x0 := u0
            have x1 := u1
            have x2 := u2
            have x3 := u3
            have x4 := u4
            have x5 := u5
            have x6 := u6
            have x7 := u7
            have x8 := u8
            have x9 := u9
            have x10 := u10
            have x11 := u11
            have x12 := u12
            have x13 := u13
            clear u0 u1 u2 u3 u4 u5 u6 u7 u8 u9 u10 u11 u12 u13
            have HW := HWI
            have HWS := Lib.hid (show w10.heap.size ≤ wr0.heap.size from HWI.out.size)
            have HBW := Lib.hid (HBW10.out.trans (HWI.out.mono HS10.out))
            have HGOOD := Lib.hid (show (0 ≤ sec ∧ sec ≤ 1099511627776) ∧ (0 ≤ h0 ∧ h0 ≤ 1099511627776) ∧ (0 ≤ h1 ∧ h1 ≤ 1099511627776) ∧ (0 ≤ h2 ∧ h2 ≤ 1099511627776) from by have h1 := HORD.out; have h2 := HG.out; exact ⟨⟨h1.1, by omega⟩, h2.1, h2.2.1, h2.2.2⟩)
            have hlv := HLEV.out
            clear HLEV HWI HP9 HWO HWS0 LS
            rcases hlv with rfl | rfl | rfl
            · have z0 : wr0.cell? ⟨base, 0, none⟩ = some (.int .i64 h0) := HHZ.out wr0 HBW.out 0 (by decide)
              have es : IntKind.i64.wrap (sec - h0) = sec - h0 := by rw [IntKind.wrap_i64]; have := HGOOD.out; omega
              have HKD := Lib.hid (show keepE sec h0 h1 h2 ⟨⟨0, wi, sv, op⟩, ct⟩ = decide (sec - h0 < en) from by
                unfold keepE
                have e1 : satI sec h0 = sec - h0 := by unfold satI; have := HGOOD.out; rw [if_neg (by omega), if_neg (by omega)]
                show ((Wm.span 0 wi).2.2 && decide (satI sec h0 < (Wm.span 0 wi).2.1)) = decide (sec - h0 < en)
                rw [← HSP.out, e1]; rfl)
              by_cases hk : en ≤ sec - h0
              · have dk : decide (en ≤ sec - h0) = true := decide_eq_true hk
                have HKF := Lib.hid (show keepE sec h0 h1 h2 ⟨⟨0, wi, sv, op⟩, ct⟩ = false from by rw [HKD.out]; exact decide_eq_false (by omega))
                clear hk
                go_wp2_with fail
                go_roundw
                case rel => exact ⟨i + 1, kk, by go_num, HLT.out, rfl, Lib.hid (by rw [HTK.out, HKF.out]; simpa using HKK.out), HW⟩
                case measure => have := HLT.out; simp [intOf]; omega
              · have dk : decide (en ≤ sec - h0) = false := decide_eq_false hk
                have HKF := Lib.hid (show keepE sec h0 h1 h2 ⟨⟨0, wi, sv, op⟩, ct⟩ = true from by rw [HKD.out]; exact decide_eq_true (by omega))
                have HAT := Lib.hid (show E0[kk]? = some ⟨⟨0, wi, sv, op⟩, ct⟩ from by rw [HE0.out, HKK.out]; exact filter_atR HXI.out HKF.out)
                have hkl : kk < an := by rw [HAN.out]; exact (List.getElem?_eq_some_iff.1 HAT.out).1
                have g0 : decide ((an : Int) ≤ (kk : Int)) = false := decide_eq_false (by omega)
                have g3 : decide (an ≤ kk) = false := decide_eq_false (by omega)
                have g1 : (kk : Int) < (an : Int) := by omega
                have g2 : (0 : Int) ≤ (kk : Int) := by omega
                obtain ⟨ay, hay, haby, y0, y1, y2, y3, y4, y5, y6, y7, y8, y9, y10, y11, y12, y13⟩ := row_cells ((AR.out.below HW.out)) HAT.out
                subst hay
                simp only at y0 y1 y2 y3 y4 y5 y6 y7 y8 y9 y10 y11 y12 y13
                generalize ct.getD 0 0 = o0 at x4 x5 x6 x7 x8 x9 x10 x11 x12 x13 y0 y1 y2 y3 y4 y5 y6 y7 y8 y9 y10 y11 y12 y13
                generalize ct.getD 1 0 = o1 at x4 x5 x6 x7 x8 x9 x10 x11 x12 x13 y0 y1 y2 y3 y4 y5 y6 y7 y8 y9 y10 y11 y12 y13
                generalize ct.getD 2 0 = o2 at x4 x5 x6 x7 x8 x9 x10 x11 x12 x13 y0 y1 y2 y3 y4 y5 y6 y7 y8 y9 y10 y11 y12 y13
                generalize ct.getD 3 0 = o3 at x4 x5 x6 x7 x8 x9 x10 x11 x12 x13 y0 y1 y2 y3 y4 y5 y6 y7 y8 y9 y10 y11 y12 y13
                generalize ct.getD 4 0 = o4 at x4 x5 x6 x7 x8 x9 x10 x11 x12 x13 y0 y1 y2 y3 y4 y5 y6 y7 y8 y9 y10 y11 y12 y13
                generalize ct.getD 5 0 = o5 at x4 x5 x6 x7 x8 x9 x10 x11 x12 x13 y0 y1 y2 y3 y4 y5 y6 y7 y8 y9 y10 y11 y12 y13
                generalize ct.getD 6 0 = o6 at x4 x5 x6 x7 x8 x9 x10 x11 x12 x13 y0 y1 y2 y3 y4 y5 y6 y7 y8 y9 y10 y11 y12 y13
                generalize ct.getD 7 0 = o7 at x4 x5 x6 x7 x8 x9 x10 x11 x12 x13 y0 y1 y2 y3 y4 y5 y6 y7 y8 y9 y10 y11 y12 y13
                generalize ct.getD 8 0 = o8 at x4 x5 x6 x7 x8 x9 x10 x11 x12 x13 y0 y1 y2 y3 y4 y5 y6 y7 y8 y9 y10 y11 y12 y13
                generalize ct.getD 9 0 = o9 at x4 x5 x6 x7 x8 x9 x10 x11 x12 x13 y0 y1 y2 y3 y4 y5 y6 y7 y8 y9 y10 y11 y12 y13
                have E8 : ∀ (z2 z3 z4 z5 z6 z7 z8 z9 : Int) (w : World), (Op.equalIn 9998 44 (.agg #[.int .i64 z2, .int .i64 z3, .int .i64 z4, .int .i64 z5, .int .i64 z6, .int .i64 z7, .int .i64 z8, .int .i64 z9]) (.agg #[.int .i64 z2, .int .i64 z3, .int .i64 z4, .int .i64 z5, .int .i64 z6, .int .i64 z7, .int .i64 z8, .int .i64 z9])).run Tryd.prog w = .ok true w := fun z2 z3 z4 z5 z6 z7 z8 z9 w => eq8 9996 z2 z3 z4 z5 z6 z7 z8 z9 w
                have HKL := Lib.hid hkl
                clear hk haby hkl
                go_wp2_with fail
                have n0 := fun p : NowB wr0 => p.cell x0
                have n1 := fun p : NowB wr0 => p.cell x1
                have n2 := fun p : NowB wr0 => p.cell x2
                have n3 := fun p : NowB wr0 => p.cell x3
                have n4 := fun p : NowB wr0 => p.cell x4
                have n5 := fun p : NowB wr0 => p.cell x5
                have n6 := fun p : NowB wr0 => p.cell x6
                have n7 := fun p : NowB wr0 => p.cell x7
                have n8 := fun p : NowB wr0 => p.cell x8
                have n9 := fun p : NowB wr0 => p.cell x9
                have n10 := fun p : NowB wr0 => p.cell x10
                have n11 := fun p : NowB wr0 => p.cell x11
                have n12 := fun p : NowB wr0 => p.cell x12
                have n13 := fun p : NowB wr0 => p.cell x13
                have m0 := fun p : NowB wr0 => p.cell y0
                have m1 := fun p : NowB wr0 => p.cell y1
                have m2 := fun p : NowB wr0 => p.cell y2
                have m3 := fun p : NowB wr0 => p.cell y3
                have m4 := fun p : NowB wr0 => p.cell y4
                have m5 := fun p : NowB wr0 => p.cell y5
                have m6 := fun p : NowB wr0 => p.cell y6
                have m7 := fun p : NowB wr0 => p.cell y7
                have m8 := fun p : NowB wr0 => p.cell y8
                have m9 := fun p : NowB wr0 => p.cell y9
                have m10 := fun p : NowB wr0 => p.cell y10
                have m11 := fun p : NowB wr0 => p.cell y11
                have m12 := fun p : NowB wr0 => p.cell y12
                have m13 := fun p : NowB wr0 => p.cell y13
                clear x0 x1 x2 x3 x4 x5 x6 x7 x8 x9 x10 x11 x12 x13 y0 y1 y2 y3 y4 y5 y6 y7 y8 y9 y10 y11 y12 y13
                refine wp_region_quiet_below (by kernel_rfl) (by kernel_rfl) ?_
                repeat (go_big_quiet_step ((fail)))
                refine wpQuiet_nil ?_
                intro _ hw'
                obtain ⟨pp, hw''⟩ := hw'
                subst hw''
                have HB9 := Lib.hid (HW.out.trans (pp.h.mono HWS.out))
                have HP9 := Lib.hid pp.h
                generalize pp.W = w9 at *
                have kkb : (kk : Int) ≤ 180 := by have := HKL.out; have := HANL.out; omega
                go_wp2_with fail
                go_roundw
                case rel => exact ⟨i + 1, kk + 1, by go_num, HLT.out, by go_num, Lib.hid (by rw [HTK.out, HKF.out, ← HKK.out]; rfl), HB9⟩
                case measure => have := HLT.out; simp [intOf]; omega
            · have z1 : wr0.cell? ⟨base, 1, none⟩ = some (.int .i64 h1) := HHZ.out wr0 HBW.out 1 (by decide)
              have es : IntKind.i64.wrap (sec - h1) = sec - h1 := by rw [IntKind.wrap_i64]; have := HGOOD.out; omega
              have HKD := Lib.hid (show keepE sec h0 h1 h2 ⟨⟨1, wi, sv, op⟩, ct⟩ = decide (sec - h1 < en) from by
                unfold keepE
                have e1 : satI sec h1 = sec - h1 := by unfold satI; have := HGOOD.out; rw [if_neg (by omega), if_neg (by omega)]
                show ((Wm.span 1 wi).2.2 && decide (satI sec h1 < (Wm.span 1 wi).2.1)) = decide (sec - h1 < en)
                rw [← HSP.out, e1]; rfl)
              by_cases hk : en ≤ sec - h1
              · have dk : decide (en ≤ sec - h1) = true := decide_eq_true hk
                have HKF := Lib.hid (show keepE sec h0 h1 h2 ⟨⟨1, wi, sv, op⟩, ct⟩ = false from by rw [HKD.out]; exact decide_eq_false (by omega))
                clear hk
                go_wp2_with fail
                go_roundw
                case rel => exact ⟨i + 1, kk, by go_num, HLT.out, rfl, Lib.hid (by rw [HTK.out, HKF.out]; simpa using HKK.out), HW⟩
                case measure => have := HLT.out; simp [intOf]; omega
              · have dk : decide (en ≤ sec - h1) = false := decide_eq_false hk
                have HKF := Lib.hid (show keepE sec h0 h1 h2 ⟨⟨1, wi, sv, op⟩, ct⟩ = true from by rw [HKD.out]; exact decide_eq_true (by omega))
                have HAT := Lib.hid (show E0[kk]? = some ⟨⟨1, wi, sv, op⟩, ct⟩ from by rw [HE0.out, HKK.out]; exact filter_atR HXI.out HKF.out)
                have hkl : kk < an := by rw [HAN.out]; exact (List.getElem?_eq_some_iff.1 HAT.out).1
                have g0 : decide ((an : Int) ≤ (kk : Int)) = false := decide_eq_false (by omega)
                have g3 : decide (an ≤ kk) = false := decide_eq_false (by omega)
                have g1 : (kk : Int) < (an : Int) := by omega
                have g2 : (0 : Int) ≤ (kk : Int) := by omega
                obtain ⟨ay, hay, haby, y0, y1, y2, y3, y4, y5, y6, y7, y8, y9, y10, y11, y12, y13⟩ := row_cells ((AR.out.below HW.out)) HAT.out
                subst hay
                simp only at y0 y1 y2 y3 y4 y5 y6 y7 y8 y9 y10 y11 y12 y13
                generalize ct.getD 0 0 = o0 at x4 x5 x6 x7 x8 x9 x10 x11 x12 x13 y0 y1 y2 y3 y4 y5 y6 y7 y8 y9 y10 y11 y12 y13
                generalize ct.getD 1 0 = o1 at x4 x5 x6 x7 x8 x9 x10 x11 x12 x13 y0 y1 y2 y3 y4 y5 y6 y7 y8 y9 y10 y11 y12 y13
                generalize ct.getD 2 0 = o2 at x4 x5 x6 x7 x8 x9 x10 x11 x12 x13 y0 y1 y2 y3 y4 y5 y6 y7 y8 y9 y10 y11 y12 y13
                generalize ct.getD 3 0 = o3 at x4 x5 x6 x7 x8 x9 x10 x11 x12 x13 y0 y1 y2 y3 y4 y5 y6 y7 y8 y9 y10 y11 y12 y13
                generalize ct.getD 4 0 = o4 at x4 x5 x6 x7 x8 x9 x10 x11 x12 x13 y0 y1 y2 y3 y4 y5 y6 y7 y8 y9 y10 y11 y12 y13
                generalize ct.getD 5 0 = o5 at x4 x5 x6 x7 x8 x9 x10 x11 x12 x13 y0 y1 y2 y3 y4 y5 y6 y7 y8 y9 y10 y11 y12 y13
                generalize ct.getD 6 0 = o6 at x4 x5 x6 x7 x8 x9 x10 x11 x12 x13 y0 y1 y2 y3 y4 y5 y6 y7 y8 y9 y10 y11 y12 y13
                generalize ct.getD 7 0 = o7 at x4 x5 x6 x7 x8 x9 x10 x11 x12 x13 y0 y1 y2 y3 y4 y5 y6 y7 y8 y9 y10 y11 y12 y13
                generalize ct.getD 8 0 = o8 at x4 x5 x6 x7 x8 x9 x10 x11 x12 x13 y0 y1 y2 y3 y4 y5 y6 y7 y8 y9 y10 y11 y12 y13
                generalize ct.getD 9 0 = o9 at x4 x5 x6 x7 x8 x9 x10 x11 x12 x13 y0 y1 y2 y3 y4 y5 y6 y7 y8 y9 y10 y11 y12 y13
                have E8 : ∀ (z2 z3 z4 z5 z6 z7 z8 z9 : Int) (w : World), (Op.equalIn 9998 44 (.agg #[.int .i64 z2, .int .i64 z3, .int .i64 z4, .int .i64 z5, .int .i64 z6, .int .i64 z7, .int .i64 z8, .int .i64 z9]) (.agg #[.int .i64 z2, .int .i64 z3, .int .i64 z4, .int .i64 z5, .int .i64 z6, .int .i64 z7, .int .i64 z8, .int .i64 z9])).run Tryd.prog w = .ok true w := fun z2 z3 z4 z5 z6 z7 z8 z9 w => eq8 9996 z2 z3 z4 z5 z6 z7 z8 z9 w
                have HKL := Lib.hid hkl
                clear hk haby hkl
                go_wp2_with fail
                have n0 := fun p : NowB wr0 => p.cell x0
                have n1 := fun p : NowB wr0 => p.cell x1
                have n2 := fun p : NowB wr0 => p.cell x2
                have n3 := fun p : NowB wr0 => p.cell x3
                have n4 := fun p : NowB wr0 => p.cell x4
                have n5 := fun p : NowB wr0 => p.cell x5
                have n6 := fun p : NowB wr0 => p.cell x6
                have n7 := fun p : NowB wr0 => p.cell x7
                have n8 := fun p : NowB wr0 => p.cell x8
                have n9 := fun p : NowB wr0 => p.cell x9
                have n10 := fun p : NowB wr0 => p.cell x10
                have n11 := fun p : NowB wr0 => p.cell x11
                have n12 := fun p : NowB wr0 => p.cell x12
                have n13 := fun p : NowB wr0 => p.cell x13
                have m0 := fun p : NowB wr0 => p.cell y0
                have m1 := fun p : NowB wr0 => p.cell y1
                have m2 := fun p : NowB wr0 => p.cell y2
                have m3 := fun p : NowB wr0 => p.cell y3
                have m4 := fun p : NowB wr0 => p.cell y4
                have m5 := fun p : NowB wr0 => p.cell y5
                have m6 := fun p : NowB wr0 => p.cell y6
                have m7 := fun p : NowB wr0 => p.cell y7
                have m8 := fun p : NowB wr0 => p.cell y8
                have m9 := fun p : NowB wr0 => p.cell y9
                have m10 := fun p : NowB wr0 => p.cell y10
                have m11 := fun p : NowB wr0 => p.cell y11
                have m12 := fun p : NowB wr0 => p.cell y12
                have m13 := fun p : NowB wr0 => p.cell y13
                clear x0 x1 x2 x3 x4 x5 x6 x7 x8 x9 x10 x11 x12 x13 y0 y1 y2 y3 y4 y5 y6 y7 y8 y9 y10 y11 y12 y13
                refine wp_region_quiet_below (by kernel_rfl) (by kernel_rfl) ?_
                repeat (go_big_quiet_step ((fail)))
                refine wpQuiet_nil ?_
                intro _ hw'
                obtain ⟨pp, hw''⟩ := hw'
                subst hw''
                have HB9 := Lib.hid (HW.out.trans (pp.h.mono HWS.out))
                have HP9 := Lib.hid pp.h
                generalize pp.W = w9 at *
                have kkb : (kk : Int) ≤ 180 := by have := HKL.out; have := HANL.out; omega
                go_wp2_with fail
                go_roundw
                case rel => exact ⟨i + 1, kk + 1, by go_num, HLT.out, by go_num, Lib.hid (by rw [HTK.out, HKF.out, ← HKK.out]; rfl), HB9⟩
                case measure => have := HLT.out; simp [intOf]; omega
            · have z2 : wr0.cell? ⟨base, 2, none⟩ = some (.int .i64 h2) := HHZ.out wr0 HBW.out 2 (by decide)
              have es : IntKind.i64.wrap (sec - h2) = sec - h2 := by rw [IntKind.wrap_i64]; have := HGOOD.out; omega
              have HKD := Lib.hid (show keepE sec h0 h1 h2 ⟨⟨2, wi, sv, op⟩, ct⟩ = decide (sec - h2 < en) from by
                unfold keepE
                have e1 : satI sec h2 = sec - h2 := by unfold satI; have := HGOOD.out; rw [if_neg (by omega), if_neg (by omega)]
                show ((Wm.span 2 wi).2.2 && decide (satI sec h2 < (Wm.span 2 wi).2.1)) = decide (sec - h2 < en)
                rw [← HSP.out, e1]; rfl)
              by_cases hk : en ≤ sec - h2
              · have dk : decide (en ≤ sec - h2) = true := decide_eq_true hk
                have HKF := Lib.hid (show keepE sec h0 h1 h2 ⟨⟨2, wi, sv, op⟩, ct⟩ = false from by rw [HKD.out]; exact decide_eq_false (by omega))
                clear hk
                go_wp2_with fail
                go_roundw
                case rel => exact ⟨i + 1, kk, by go_num, HLT.out, rfl, Lib.hid (by rw [HTK.out, HKF.out]; simpa using HKK.out), HW⟩
                case measure => have := HLT.out; simp [intOf]; omega
              · have dk : decide (en ≤ sec - h2) = false := decide_eq_false hk
                have HKF := Lib.hid (show keepE sec h0 h1 h2 ⟨⟨2, wi, sv, op⟩, ct⟩ = true from by rw [HKD.out]; exact decide_eq_true (by omega))
                have HAT := Lib.hid (show E0[kk]? = some ⟨⟨2, wi, sv, op⟩, ct⟩ from by rw [HE0.out, HKK.out]; exact filter_atR HXI.out HKF.out)
                have hkl : kk < an := by rw [HAN.out]; exact (List.getElem?_eq_some_iff.1 HAT.out).1
                have g0 : decide ((an : Int) ≤ (kk : Int)) = false := decide_eq_false (by omega)
                have g3 : decide (an ≤ kk) = false := decide_eq_false (by omega)
                have g1 : (kk : Int) < (an : Int) := by omega
                have g2 : (0 : Int) ≤ (kk : Int) := by omega
                obtain ⟨ay, hay, haby, y0, y1, y2, y3, y4, y5, y6, y7, y8, y9, y10, y11, y12, y13⟩ := row_cells ((AR.out.below HW.out)) HAT.out
                subst hay
                simp only at y0 y1 y2 y3 y4 y5 y6 y7 y8 y9 y10 y11 y12 y13
                generalize ct.getD 0 0 = o0 at x4 x5 x6 x7 x8 x9 x10 x11 x12 x13 y0 y1 y2 y3 y4 y5 y6 y7 y8 y9 y10 y11 y12 y13
                generalize ct.getD 1 0 = o1 at x4 x5 x6 x7 x8 x9 x10 x11 x12 x13 y0 y1 y2 y3 y4 y5 y6 y7 y8 y9 y10 y11 y12 y13
                generalize ct.getD 2 0 = o2 at x4 x5 x6 x7 x8 x9 x10 x11 x12 x13 y0 y1 y2 y3 y4 y5 y6 y7 y8 y9 y10 y11 y12 y13
                generalize ct.getD 3 0 = o3 at x4 x5 x6 x7 x8 x9 x10 x11 x12 x13 y0 y1 y2 y3 y4 y5 y6 y7 y8 y9 y10 y11 y12 y13
                generalize ct.getD 4 0 = o4 at x4 x5 x6 x7 x8 x9 x10 x11 x12 x13 y0 y1 y2 y3 y4 y5 y6 y7 y8 y9 y10 y11 y12 y13
                generalize ct.getD 5 0 = o5 at x4 x5 x6 x7 x8 x9 x10 x11 x12 x13 y0 y1 y2 y3 y4 y5 y6 y7 y8 y9 y10 y11 y12 y13
                generalize ct.getD 6 0 = o6 at x4 x5 x6 x7 x8 x9 x10 x11 x12 x13 y0 y1 y2 y3 y4 y5 y6 y7 y8 y9 y10 y11 y12 y13
                generalize ct.getD 7 0 = o7 at x4 x5 x6 x7 x8 x9 x10 x11 x12 x13 y0 y1 y2 y3 y4 y5 y6 y7 y8 y9 y10 y11 y12 y13
                generalize ct.getD 8 0 = o8 at x4 x5 x6 x7 x8 x9 x10 x11 x12 x13 y0 y1 y2 y3 y4 y5 y6 y7 y8 y9 y10 y11 y12 y13
                generalize ct.getD 9 0 = o9 at x4 x5 x6 x7 x8 x9 x10 x11 x12 x13 y0 y1 y2 y3 y4 y5 y6 y7 y8 y9 y10 y11 y12 y13
                have E8 : ∀ (z2 z3 z4 z5 z6 z7 z8 z9 : Int) (w : World), (Op.equalIn 9998 44 (.agg #[.int .i64 z2, .int .i64 z3, .int .i64 z4, .int .i64 z5, .int .i64 z6, .int .i64 z7, .int .i64 z8, .int .i64 z9]) (.agg #[.int .i64 z2, .int .i64 z3, .int .i64 z4, .int .i64 z5, .int .i64 z6, .int .i64 z7, .int .i64 z8, .int .i64 z9])).run Tryd.prog w = .ok true w := fun z2 z3 z4 z5 z6 z7 z8 z9 w => eq8 9996 z2 z3 z4 z5 z6 z7 z8 z9 w
                have HKL := Lib.hid hkl
                clear hk haby hkl
                go_wp2_with fail
                have n0 := fun p : NowB wr0 => p.cell x0
                have n1 := fun p : NowB wr0 => p.cell x1
                have n2 := fun p : NowB wr0 => p.cell x2
                have n3 := fun p : NowB wr0 => p.cell x3
                have n4 := fun p : NowB wr0 => p.cell x4
                have n5 := fun p : NowB wr0 => p.cell x5
                have n6 := fun p : NowB wr0 => p.cell x6
                have n7 := fun p : NowB wr0 => p.cell x7
                have n8 := fun p : NowB wr0 => p.cell x8
                have n9 := fun p : NowB wr0 => p.cell x9
                have n10 := fun p : NowB wr0 => p.cell x10
                have n11 := fun p : NowB wr0 => p.cell x11
                have n12 := fun p : NowB wr0 => p.cell x12
                have n13 := fun p : NowB wr0 => p.cell x13
                have m0 := fun p : NowB wr0 => p.cell y0
                have m1 := fun p : NowB wr0 => p.cell y1
                have m2 := fun p : NowB wr0 => p.cell y2
                have m3 := fun p : NowB wr0 => p.cell y3
                have m4 := fun p : NowB wr0 => p.cell y4
                have m5 := fun p : NowB wr0 => p.cell y5
                have m6 := fun p : NowB wr0 => p.cell y6
                have m7 := fun p : NowB wr0 => p.cell y7
                have m8 := fun p : NowB wr0 => p.cell y8
                have m9 := fun p : NowB wr0 => p.cell y9
                have m10 := fun p : NowB wr0 => p.cell y10
                have m11 := fun p : NowB wr0 => p.cell y11
                have m12 := fun p : NowB wr0 => p.cell y12
                have m13 := fun p : NowB wr0 => p.cell y13
                clear x0 x1 x2 x3 x4 x5 x6 x7 x8 x9 x10 x11 x12 x13 y0 y1 y2 y3 y4 y5 y6 y7 y8 y9 y10 y11 y12 y13
                refine wp_region_quiet_below (by kernel_rfl) (by kernel_rfl) ?_
                repeat (go_big_quiet_step ((fail)))
                refine wpQuiet_nil ?_
                intro _ hw'
                obtain ⟨pp, hw''⟩ := hw'
                subst hw''
                have HB9 := Lib.hid (HW.out.trans (pp.h.mono HWS.out))
                have HP9 := Lib.hid pp.h
                generalize pp.W = w9 at *
                have kkb : (kk : Int) ≤ 180 := by have := HKL.out; have := HANL.out; omega
                go_wp2_with fail
                go_roundw
                case rel => exact ⟨i + 1, kk + 1, by go_num, HLT.out, by go_num, Lib.hid (by rw [HTK.out, HKF.out, ← HKK.out]; rfl), HB9⟩
                case measure => have := HLT.out; simp [intOf]; omega
          · obtain rfl : i = xn := by omega
            have hkk : kk = an := by rw [HKK.out, HAN.out, HE0.out, HXN.out, List.take_length]
            subst hkk
            clear hi
            go_upto_region 20 with fail
            obtain ⟨E1, hE1⟩ : ∃ E1, E1 = X.filter (keepE later h0 h1 h2) := ⟨_, rfl⟩
            have hsub : ∀ x ∈ X, keepE later h0 h1 h2 x = true → keepE sec h0 h1 h2 x = true := fun x hx h => by
              rw [HX.out] at hx
              obtain ⟨hlev, _⟩ := rows_level 1000 (by decide) hx
              unfold keepE at h ⊢
              rw [Bool.and_eq_true] at h ⊢
              refine ⟨h.1, decide_eq_true ?_⟩
              have hq2 := of_decide_eq_true h.2
              have g1 := HG.out
              have g2 := HORD.out
              have e : ∀ s, 0 ≤ s → s ≤ 1099511627776 → satI s (hzn h0 h1 h2 x.k.lv) = s - hzn h0 h1 h2 x.k.lv := fun s hs hs2 => by
                have : 0 ≤ hzn h0 h1 h2 x.k.lv ∧ hzn h0 h1 h2 x.k.lv ≤ 1099511627776 := by unfold hzn; split; exact g1.1; split; exact g1.2.1; exact g1.2.2
                unfold satI; rw [if_neg (by omega), if_neg (by omega)]
              rw [e later (by omega) (by omega)] at hq2
              rw [e sec (by omega) (by omega)]
              omega
            have hE1a : E0.filter (keepE later h0 h1 h2) = E1 := by rw [HE0.out, hE1]; exact later_filter hsub
            have hE0a : E0.filter (keepE sec h0 h1 h2) = E0 := by rw [HE0.out, List.filter_filter]; congr 1; funext x; cases keepE sec h0 h1 h2 x <;> rfl
            obtain ⟨m1, hm1⟩ : ∃ m1, m1 = E1.length := ⟨_, rfl⟩
            have hms : m1 ≤ 1000000 := by rw [hm1, hE1]; exact Nat.le_trans (List.length_filter_le _ _) (by rw [← HXN.out]; have := HXL.out; omega)
            have hane := HAN.out
            have hans : kk ≤ 1000000 := by have := HANL.out; omega
            obtain ⟨W, hW⟩ : ∃ W, W = wr.drew := ⟨_, rfl⟩
            have hbW : Below w10.heap.size w10 W := by rw [hW]; exact HWO.out.trans ⟨rfl, rfl, rfl, Nat.le_refl _, fun _ _ => rfl⟩
            have hWs := hbW.size
            have hbs : base < W.heap.size := by have := HS10.out; omega
            have hz : Hid (∀ j, j < 3 → W.cell? ⟨base, j, none⟩ = some (.int .i64 (if j = 0 then h0 else if j = 1 then h1 else h2))) := Lib.hid (fun j hj => HHZ.out W (HBW10.out.trans (hbW.mono HS10.out)) j hj)
            have HTL := Lib.hid (show ∀ w5, Below W.heap.size W w5 → Lens w5 from fun w5 hr => HT.out.2.1.below (HBB10.out.trans ((hbW.trans (hr.mono hWs)).mono (by have := HS10.out; omega))) HT.out.2.2.2)
            have AR2 : Hid (Rd W W.heap.size aA (E0.flatMap Rw.cells)) := Lib.hid ((AR.out.below hbW).more hWs)
            have XR2 : Hid (Rd W W.heap.size xA (X.flatMap Rw.cells)) := Lib.hid ((HRX.out.below hbW).more hWs)
            have hsec := HSEC.out
            have hla := HLA.out
            have EXA : ∀ w5, Below W.heap.size W w5 → ∀ s, (-9223372036854775808 ≤ s ∧ s ≤ 9223372036854775807) → Calls Tryd.prog 16 #[.slice aA kk ac, .int .i64 s, .agg #[.int .i64 h0, .int .i64 h1, .int .i64 h2]] w5 (RowR (E0.filter (keepE s h0 h1 h2)) w5) := fun w5 hr s hs =>
              rexpire_any aA E0 kk ac w5.heap.size s h0 h1 h2 w5 hane ((AR2.out.below hr).more hr.size) (Nat.le_refl _) (by have := HANL.out; omega) (HTL.out w5 hr) hs HH.out.1 HH.out.2.1 HH.out.2.2
            have EXA2 : ∀ w5, Below W.heap.size W w5 → Calls Tryd.prog 16 #[.slice aA kk ac, .int .i64 later, .agg #[.int .i64 h0, .int .i64 h1, .int .i64 h2]] w5 fun e w' => ∃ (A : Option Addr) (c : Nat), e = .returned (.slice A m1 c) ∧ w'.ownsRow w5.heap.size 48 14 (.slice A m1 c) m1 (E1.flatMap Rw.cells) ∧ Below w5.heap.size w5 w' := fun w5 hr => by
              have h := EXA w5 hr later hla
              rw [hE1a] at h
              rw [hm1]; exact h
            have EXB : ∀ w5, Below W.heap.size W w5 → Calls Tryd.prog 16 #[.slice aA kk ac, .int .i64 sec, .agg #[.int .i64 h0, .int .i64 h1, .int .i64 h2]] w5 fun e w' => ∃ (A : Option Addr) (c : Nat), e = .returned (.slice A kk c) ∧ w'.ownsRow w5.heap.size 48 14 (.slice A kk c) kk (E0.flatMap Rw.cells) ∧ Below w5.heap.size w5 w' := fun w5 hr => by
              have h := EXA w5 hr sec hsec
              rw [hE0a] at h
              refine h.mono ?_
              rintro e w' ⟨A, c, e1, e2, e3⟩
              rw [← hane] at e1 e2
              exact ⟨A, c, e1, e2, e3⟩
            have EXX : ∀ w5, Below W.heap.size W w5 → Calls Tryd.prog 16 #[.slice xA i xc, .int .i64 later, .agg #[.int .i64 h0, .int .i64 h1, .int .i64 h2]] w5 fun e w' => ∃ (A : Option Addr) (c : Nat), e = .returned (.slice A m1 c) ∧ w'.ownsRow w5.heap.size 48 14 (.slice A m1 c) m1 (E1.flatMap Rw.cells) ∧ Below w5.heap.size w5 w' := fun w5 hr => by
              have h := rexpire_any xA X i xc w5.heap.size later h0 h1 h2 w5 HXN.out ((XR2.out.below hr).more hr.size) (Nat.le_refl _) (by have := HXL.out; omega) (HTL.out w5 hr) hla HH.out.1 HH.out.2.1 HH.out.2.2
              rw [← hE1] at h
              rw [hm1]; exact h
            have HWW := Lib.hid hW
            have HBWW := Lib.hid hbW
            clear EXA hbW hWs hsub hE1 hE1a hE0a HKK
            refine PI.wp_region_persG (R := (fun w w' => Below w.heap.size w w')) (G := fun _ _ => True) (I := fun _ _ _ => True) [(2, 1), (3, 0), (3, 2), (4, 3), (5, 4), (6, 4), (7, 4), (8, 4), (8, 5), (8, 6), (8, 7), (9, 4), (10, 4), (11, 4), (12, 4), (12, 9), (12, 10), (12, 11), (13, 4), (13, 8), (13, 12), (14, 4), (14, 13), (15, 14), (16, 15), (17, 15), (18, 15), (19, 15), (19, 16), (19, 17), (19, 18), (20, 15), (21, 15), (21, 19), (21, 20), (22, 15), (22, 21), (23, 22)] [23] (by kernel_rfl) (PI.formed_of (by kernel_rfl)) ⟨fun w => Below.refl _ w, fun _ _ _ h k => h.trans (k.mono h.size)⟩ (fun _ => trivial) (RgE base i xc kk ac m1 xA aA sec later h0 h1 h2 E0 E1) trivial ?_ ?_
            · rw [← hW]
              intro i9 o ho
              rcases i9 with _ | _ | _ | _ | _ | _ | _ | _ | _ | _ | _ | _ | _ | _ | _ | _ | _ | _ | _ | _ | _ | _ | _ | _ | i9
              · obtain rfl := Option.some.inj (show some _ = some o from ho)
                refine PI.shown_val rfl fun a w5 L0 hr T => ?_
                have ha1 : a.eval (.tmp 13) = .int .i64 (kk : Int) := T.was 13 (by kernel_rfl)
                exact ⟨.int .i64 (kk : Int), w5, by simp only [execOp, ha1]; simp [go_sem], PI.Post.pure ⟨fun w => Below.refl _ w, fun _ _ _ h k => h.trans (k.mono h.size)⟩ rfl trivial⟩
              · obtain rfl := Option.some.inj (show some _ = some o from ho)
                refine PI.shown_val rfl fun a w5 L0 hr T => ?_
                have ha1 : a.eval (.tmp 12) = .slice aA kk ac := T.was 12 (by kernel_rfl)
                exact ⟨.slice aA kk ac, w5, by simp only [execOp, ha1]; simp [go_sem], PI.Post.pure ⟨fun w => Below.refl _ w, fun _ _ _ h k => h.trans (k.mono h.size)⟩ rfl trivial⟩
              · obtain rfl := Option.some.inj (show some _ = some o from ho)
                refine PI.shown_val rfl fun a w5 L0 hr T => ?_
                have ha1 : a.eval (.tmp 110) = .slice aA kk ac := T.at_ 1 110 (by kernel_rfl) (by kernel_rfl) (by kernel_rfl)
                exact ⟨.int .i64 (kk : Int), w5, by simp only [execOp, resolve, invoke, builtin, List.map_toArray, List.map_cons, List.map_nil, ha1]; simp [go_sem], PI.Post.pure ⟨fun w => Below.refl _ w, fun _ _ _ h k => h.trans (k.mono h.size)⟩ rfl trivial⟩
              · obtain rfl := Option.some.inj (show some _ = some o from ho)
                refine PI.shown_val rfl fun a w5 L0 hr T => ?_
                have ha1 : a.eval (.tmp 109) = .int .i64 (kk : Int) := T.at_ 0 109 (by kernel_rfl) (by kernel_rfl) (by kernel_rfl)
                have ha2 : a.eval (.tmp 111) = .int .i64 (kk : Int) := T.at_ 2 111 (by kernel_rfl) (by kernel_rfl) (by kernel_rfl)
                exact ⟨.bool true, w5, by simp only [execOp, ha1, ha2]; simp [go_sem, Act.eval], PI.Post.pure ⟨fun w => Below.refl _ w, fun _ _ _ h k => h.trans (k.mono h.size)⟩ rfl trivial⟩
              · obtain rfl := Option.some.inj (show some _ = some o from ho)
                refine PI.shown_val rfl fun a w5 L0 hr T => ?_
                have ha1 : a.eval (.tmp 112) = .bool true := T.at_ 3 112 (by kernel_rfl) (by kernel_rfl) (by kernel_rfl)
                exact ⟨.bool true, w5, by simp only [execOp, ha1]; simp [go_sem], PI.Post.pure ⟨fun w => Below.refl _ w, fun _ _ _ h k => h.trans (k.mono h.size)⟩ rfl trivial⟩
              · obtain rfl := Option.some.inj (show some _ = some o from ho)
                refine PI.shown_val_if 4 113 true rfl (by kernel_rfl) (by kernel_rfl) (by kernel_rfl) (fun v w h => h) fun a w5 L0 hr T => ?_
                have ha1 : a.eval (.tmp 12) = .slice aA kk ac := T.was 12 (by kernel_rfl)
                exact ⟨.slice aA kk ac, w5, by simp only [execOp, ha1]; simp [go_sem], PI.Post.pure ⟨fun w => Below.refl _ w, fun _ _ _ h k => h.trans (k.mono h.size)⟩ rfl trivial⟩
              · obtain rfl := Option.some.inj (show some _ = some o from ho)
                refine PI.shown_val_if 4 113 true rfl (by kernel_rfl) (by kernel_rfl) (by kernel_rfl) (fun v w h => h) fun a w5 L0 hr T => ?_
                have ha1 : a.eval (.tmp 2) = .int .i64 later := T.was 2 (by kernel_rfl)
                exact ⟨.int .i64 later, w5, by simp only [execOp, ha1]; simp [go_sem], PI.Post.pure ⟨fun w => Below.refl _ w, fun _ _ _ h k => h.trans (k.mono h.size)⟩ rfl trivial⟩
              · obtain rfl := Option.some.inj (show some _ = some o from ho)
                refine PI.shown_val_if 4 113 true rfl (by kernel_rfl) (by kernel_rfl) (by kernel_rfl) (fun v w h => h) fun a w5 L0 hr T => ?_
                have ha1 : a.eval (.tmp 7) = .pointer (some ⟨base, 0, none⟩) := T.was 7 (by kernel_rfl)
                have zz0 := (hr.cell (p := ⟨base, 0, none⟩) hbs).trans (hz.out 0 (by decide))
                have zz1 := (hr.cell (p := ⟨base, 1, none⟩) hbs).trans (hz.out 1 (by decide))
                have zz2 := (hr.cell (p := ⟨base, 2, none⟩) hbs).trans (hz.out 2 (by decide))
                exact ⟨.agg #[.int .i64 h0, .int .i64 h1, .int .i64 h2], w5, by simp only [execOp, ha1]; simp [go_sem, zz0, zz1, zz2], PI.Post.pure ⟨fun w => Below.refl _ w, fun _ _ _ h k => h.trans (k.mono h.size)⟩ rfl trivial⟩
              · obtain rfl := Option.some.inj (show some _ = some o from ho)
                refine PI.shown_call_if 4 113 true rfl (by kernel_rfl) (by kernel_rfl) (by kernel_rfl) (fun v w h => h) 16 fun a w5 L0 hr T => ?_
                have ha0 : a.eval (.tmp 114) = .slice aA kk ac := T.at_ 5 114 (by kernel_rfl) (by kernel_rfl) (by kernel_rfl)
                have ha1 : a.eval (.tmp 115) = .int .i64 later := T.at_ 6 115 (by kernel_rfl) (by kernel_rfl) (by kernel_rfl)
                have ha2 : a.eval (.tmp 116) = .agg #[.int .i64 h0, .int .i64 h1, .int .i64 h2] := T.at_ 7 116 (by kernel_rfl) (by kernel_rfl) (by kernel_rfl)
                refine ⟨#[.slice aA kk ac, .int .i64 later, .agg #[.int .i64 h0, .int .i64 h1, .int .i64 h2]], by simp only [execOp, resolve, List.map_toArray, List.map_cons, List.map_nil, ha0, ha1, ha2]; simp [go_sem, Act.eval], ?_⟩
                refine (EXA2 w5 hr).mono fun e w6 hh => ?_
                obtain ⟨A, c, rfl, ho, hb6⟩ := hh
                exact ⟨_, rfl, hb6, ⟨A, c, rfl, Rd.of_own ho⟩, fun _ _ h => h, fun j v _ _ _ _ h => RgE.keep hb6 h, trivial⟩
              · obtain rfl := Option.some.inj (show some _ = some o from ho)
                refine PI.shown_val_if 4 113 true rfl (by kernel_rfl) (by kernel_rfl) (by kernel_rfl) (fun v w h => h) fun a w5 L0 hr T => ?_
                have ha1 : a.eval (.tmp 11) = .slice xA i xc := T.was 11 (by kernel_rfl)
                exact ⟨.slice xA i xc, w5, by simp only [execOp, ha1]; simp [go_sem], PI.Post.pure ⟨fun w => Below.refl _ w, fun _ _ _ h k => h.trans (k.mono h.size)⟩ rfl trivial⟩
              · obtain rfl := Option.some.inj (show some _ = some o from ho)
                refine PI.shown_val_if 4 113 true rfl (by kernel_rfl) (by kernel_rfl) (by kernel_rfl) (fun v w h => h) fun a w5 L0 hr T => ?_
                have ha1 : a.eval (.tmp 2) = .int .i64 later := T.was 2 (by kernel_rfl)
                exact ⟨.int .i64 later, w5, by simp only [execOp, ha1]; simp [go_sem], PI.Post.pure ⟨fun w => Below.refl _ w, fun _ _ _ h k => h.trans (k.mono h.size)⟩ rfl trivial⟩
              · obtain rfl := Option.some.inj (show some _ = some o from ho)
                refine PI.shown_val_if 4 113 true rfl (by kernel_rfl) (by kernel_rfl) (by kernel_rfl) (fun v w h => h) fun a w5 L0 hr T => ?_
                have ha1 : a.eval (.tmp 7) = .pointer (some ⟨base, 0, none⟩) := T.was 7 (by kernel_rfl)
                have zz0 := (hr.cell (p := ⟨base, 0, none⟩) hbs).trans (hz.out 0 (by decide))
                have zz1 := (hr.cell (p := ⟨base, 1, none⟩) hbs).trans (hz.out 1 (by decide))
                have zz2 := (hr.cell (p := ⟨base, 2, none⟩) hbs).trans (hz.out 2 (by decide))
                exact ⟨.agg #[.int .i64 h0, .int .i64 h1, .int .i64 h2], w5, by simp only [execOp, ha1]; simp [go_sem, zz0, zz1, zz2], PI.Post.pure ⟨fun w => Below.refl _ w, fun _ _ _ h k => h.trans (k.mono h.size)⟩ rfl trivial⟩
              · obtain rfl := Option.some.inj (show some _ = some o from ho)
                refine PI.shown_call_if 4 113 true rfl (by kernel_rfl) (by kernel_rfl) (by kernel_rfl) (fun v w h => h) 16 fun a w5 L0 hr T => ?_
                have ha0 : a.eval (.tmp 118) = .slice xA i xc := T.at_ 9 118 (by kernel_rfl) (by kernel_rfl) (by kernel_rfl)
                have ha1 : a.eval (.tmp 119) = .int .i64 later := T.at_ 10 119 (by kernel_rfl) (by kernel_rfl) (by kernel_rfl)
                have ha2 : a.eval (.tmp 120) = .agg #[.int .i64 h0, .int .i64 h1, .int .i64 h2] := T.at_ 11 120 (by kernel_rfl) (by kernel_rfl) (by kernel_rfl)
                refine ⟨#[.slice xA i xc, .int .i64 later, .agg #[.int .i64 h0, .int .i64 h1, .int .i64 h2]], by simp only [execOp, resolve, List.map_toArray, List.map_cons, List.map_nil, ha0, ha1, ha2]; simp [go_sem, Act.eval], ?_⟩
                refine (EXX w5 hr).mono fun e w6 hh => ?_
                obtain ⟨A, c, rfl, ho, hb6⟩ := hh
                exact ⟨_, rfl, hb6, ⟨A, c, rfl, Rd.of_own ho⟩, fun _ _ h => h, fun j v _ _ _ _ h => RgE.keep hb6 h, trivial⟩
              · obtain rfl := Option.some.inj (show some _ = some o from ho)
                refine PI.shown_call_if 4 113 true rfl (by kernel_rfl) (by kernel_rfl) (by kernel_rfl) (fun v w h => h) 13 fun a w5 L0 hr T => ?_
                obtain ⟨A8, c8, ha0, hr8⟩ := T.at_ 8 117 (by kernel_rfl) (by kernel_rfl) (by kernel_rfl)
                have ha0 : a.eval (.tmp 117) = .slice A8 m1 c8 := ha0
                obtain ⟨A12, c12, ha1, hr12⟩ := T.at_ 12 121 (by kernel_rfl) (by kernel_rfl) (by kernel_rfl)
                have ha1 : a.eval (.tmp 121) = .slice A12 m1 c12 := ha1
                refine ⟨#[.slice A8 m1 c8, .slice A12 m1 c12], by simp only [execOp, resolve, List.map_toArray, List.map_cons, List.map_nil, ha0, ha1]; simp [go_sem, Act.eval], ?_⟩
                refine (samerows_same A8 A12 E1 m1 c8 c12 w5.heap.size w5 hm1 hr8 hr12 (Nat.le_refl _) hms).mono fun e w6 hh => ?_
                obtain ⟨rfl, hb6⟩ := hh
                exact ⟨_, rfl, hb6, rfl, fun _ _ h => h, fun j v _ _ _ _ h => RgE.keep hb6 h, trivial⟩
              · obtain rfl := Option.some.inj (show some _ = some o from ho)
                refine PI.shown_val rfl fun a w5 L0 hr T => ?_
                have ha0 : a.eval (.tmp 113) = .bool true := T.at_ 4 113 (by kernel_rfl) (by kernel_rfl) (by kernel_rfl)
                have ha1 : a.eval (.tmp 122) = .bool true := T.at_ 13 122 (by kernel_rfl) (by kernel_rfl) (by kernel_rfl)
                exact ⟨.bool true, w5, by simp only [execOp, ha0, ha1]; simp [go_sem, Act.eval], PI.Post.pure ⟨fun w => Below.refl _ w, fun _ _ _ h k => h.trans (k.mono h.size)⟩ rfl trivial⟩
              · obtain rfl := Option.some.inj (show some _ = some o from ho)
                refine PI.shown_val rfl fun a w5 L0 hr T => ?_
                have ha1 : a.eval (.tmp 123) = .bool true := T.at_ 14 123 (by kernel_rfl) (by kernel_rfl) (by kernel_rfl)
                exact ⟨.bool true, w5, by simp only [execOp, ha1]; simp [go_sem], PI.Post.pure ⟨fun w => Below.refl _ w, fun _ _ _ h k => h.trans (k.mono h.size)⟩ rfl trivial⟩
              · obtain rfl := Option.some.inj (show some _ = some o from ho)
                refine PI.shown_val_if 15 124 true rfl (by kernel_rfl) (by kernel_rfl) (by kernel_rfl) (fun v w h => h) fun a w5 L0 hr T => ?_
                have ha1 : a.eval (.tmp 12) = .slice aA kk ac := T.was 12 (by kernel_rfl)
                exact ⟨.slice aA kk ac, w5, by simp only [execOp, ha1]; simp [go_sem], PI.Post.pure ⟨fun w => Below.refl _ w, fun _ _ _ h k => h.trans (k.mono h.size)⟩ rfl trivial⟩
              · obtain rfl := Option.some.inj (show some _ = some o from ho)
                refine PI.shown_val_if 15 124 true rfl (by kernel_rfl) (by kernel_rfl) (by kernel_rfl) (fun v w h => h) fun a w5 L0 hr T => ?_
                have ha1 : a.eval (.tmp 1) = .int .i64 sec := T.was 1 (by kernel_rfl)
                exact ⟨.int .i64 sec, w5, by simp only [execOp, ha1]; simp [go_sem], PI.Post.pure ⟨fun w => Below.refl _ w, fun _ _ _ h k => h.trans (k.mono h.size)⟩ rfl trivial⟩
              · obtain rfl := Option.some.inj (show some _ = some o from ho)
                refine PI.shown_val_if 15 124 true rfl (by kernel_rfl) (by kernel_rfl) (by kernel_rfl) (fun v w h => h) fun a w5 L0 hr T => ?_
                have ha1 : a.eval (.tmp 7) = .pointer (some ⟨base, 0, none⟩) := T.was 7 (by kernel_rfl)
                have zz0 := (hr.cell (p := ⟨base, 0, none⟩) hbs).trans (hz.out 0 (by decide))
                have zz1 := (hr.cell (p := ⟨base, 1, none⟩) hbs).trans (hz.out 1 (by decide))
                have zz2 := (hr.cell (p := ⟨base, 2, none⟩) hbs).trans (hz.out 2 (by decide))
                exact ⟨.agg #[.int .i64 h0, .int .i64 h1, .int .i64 h2], w5, by simp only [execOp, ha1]; simp [go_sem, zz0, zz1, zz2], PI.Post.pure ⟨fun w => Below.refl _ w, fun _ _ _ h k => h.trans (k.mono h.size)⟩ rfl trivial⟩
              · obtain rfl := Option.some.inj (show some _ = some o from ho)
                refine PI.shown_call_if 15 124 true rfl (by kernel_rfl) (by kernel_rfl) (by kernel_rfl) (fun v w h => h) 16 fun a w5 L0 hr T => ?_
                have ha0 : a.eval (.tmp 125) = .slice aA kk ac := T.at_ 16 125 (by kernel_rfl) (by kernel_rfl) (by kernel_rfl)
                have ha1 : a.eval (.tmp 126) = .int .i64 sec := T.at_ 17 126 (by kernel_rfl) (by kernel_rfl) (by kernel_rfl)
                have ha2 : a.eval (.tmp 127) = .agg #[.int .i64 h0, .int .i64 h1, .int .i64 h2] := T.at_ 18 127 (by kernel_rfl) (by kernel_rfl) (by kernel_rfl)
                refine ⟨#[.slice aA kk ac, .int .i64 sec, .agg #[.int .i64 h0, .int .i64 h1, .int .i64 h2]], by simp only [execOp, resolve, List.map_toArray, List.map_cons, List.map_nil, ha0, ha1, ha2]; simp [go_sem, Act.eval], ?_⟩
                refine (EXB w5 hr).mono fun e w6 hh => ?_
                obtain ⟨A, c, rfl, ho, hb6⟩ := hh
                exact ⟨_, rfl, hb6, ⟨A, c, rfl, Rd.of_own ho⟩, fun _ _ h => h, fun j v _ _ _ _ h => RgE.keep hb6 h, trivial⟩
              · obtain rfl := Option.some.inj (show some _ = some o from ho)
                refine PI.shown_val_if 15 124 true rfl (by kernel_rfl) (by kernel_rfl) (by kernel_rfl) (fun v w h => h) fun a w5 L0 hr T => ?_
                have ha1 : a.eval (.tmp 12) = .slice aA kk ac := T.was 12 (by kernel_rfl)
                exact ⟨.slice aA kk ac, w5, by simp only [execOp, ha1]; simp [go_sem], PI.Post.pure ⟨fun w => Below.refl _ w, fun _ _ _ h k => h.trans (k.mono h.size)⟩ rfl trivial⟩
              · obtain rfl := Option.some.inj (show some _ = some o from ho)
                refine PI.shown_call_if 15 124 true rfl (by kernel_rfl) (by kernel_rfl) (by kernel_rfl) (fun v w h => h) 13 fun a w5 L0 hr T => ?_
                obtain ⟨A19, c19, ha0, hr19⟩ := T.at_ 19 128 (by kernel_rfl) (by kernel_rfl) (by kernel_rfl)
                have ha0 : a.eval (.tmp 128) = .slice A19 kk c19 := ha0
                have ha1 : a.eval (.tmp 129) = .slice aA kk ac := T.at_ 20 129 (by kernel_rfl) (by kernel_rfl) (by kernel_rfl)
                refine ⟨#[.slice A19 kk c19, .slice aA kk ac], by simp only [execOp, resolve, List.map_toArray, List.map_cons, List.map_nil, ha0, ha1]; simp [go_sem, Act.eval], ?_⟩
                have hra := (AR2.out.below hr).more hr.size
                refine (samerows_same A19 aA E0 kk c19 ac w5.heap.size w5 hane hr19 hra (Nat.le_refl _) hans).mono fun e w6 hh => ?_
                obtain ⟨rfl, hb6⟩ := hh
                exact ⟨_, rfl, hb6, rfl, fun _ _ h => h, fun j v _ _ _ _ h => RgE.keep hb6 h, trivial⟩
              · obtain rfl := Option.some.inj (show some _ = some o from ho)
                refine PI.shown_val rfl fun a w5 L0 hr T => ?_
                have ha0 : a.eval (.tmp 124) = .bool true := T.at_ 15 124 (by kernel_rfl) (by kernel_rfl) (by kernel_rfl)
                have ha1 : a.eval (.tmp 130) = .bool true := T.at_ 21 130 (by kernel_rfl) (by kernel_rfl) (by kernel_rfl)
                exact ⟨.bool true, w5, by simp only [execOp, ha0, ha1]; simp [go_sem, Act.eval], PI.Post.pure ⟨fun w => Below.refl _ w, fun _ _ _ h k => h.trans (k.mono h.size)⟩ rfl trivial⟩
              · obtain rfl := Option.some.inj (show some _ = some o from ho)
                refine PI.shown_val rfl fun a w5 L0 hr T => ?_
                have ha1 : a.eval (.tmp 131) = .bool true := T.at_ 22 131 (by kernel_rfl) (by kernel_rfl) (by kernel_rfl)
                exact ⟨.bool true, w5, by simp only [execOp, ha1]; simp [go_sem], PI.Post.pure ⟨fun w => Below.refl _ w, fun _ _ _ h k => h.trans (k.mono h.size)⟩ rfl trivial⟩
              · cases ho
            · rw [← hW]
              intro xx w11 hr hf he _
              have h23 := hf 23 _ 8 rfl rfl (by decide)
              have hx23 : xx 23 = .bool true := h23
              have HB11 := Lib.hid hr
              clear hf he hr h23
              simp only [PI.putAll, Act.put, List.setIfInBounds_toArray, List.set_cons_zero, List.set_cons_succ, Nat.zero_add, Nat.reduceAdd]
              rw [hx23]
              go_wp2_with fail
              go_ret
              exact ⟨rfl, HBB10.out.trans ((HBWW.out.trans (HB11.out.mono HBWW.out.size)).mono (by have := HS10.out; omega))⟩
end Go.Proofs.YtkhhcnpmobgdgaaDoor
