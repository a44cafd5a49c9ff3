/- RollupTells. -/
import Derived.Test.YtkhhcnpmobgdgaaDoorYw
import Derived.Test.YtkhhcnpmobgdgaaDoorYn
namespace Go.Proofs.YtkhhcnpmobgdgaaDoor
open Go.RowKit
set_option linter.unusedVariables false
set_option linter.unusedSimpArgs false
set_option maxRecDepth 100000

def RgT (b ln zc lc k1 k2 k3 xn xc : Nat) (zA lA xA : Option Addr) (x0 x1 x2 x3 : Int) (x4 x5 : ByteArray) (x6 x7 : Int) (x8 : Bool) (m sec flv h0 h1 h2 : Int) (fsv fop : ByteArray) (E1 E2 E3 : List Rw) : Nat → Value → World → Prop
  | 0, v, _ => v = .slice zA ln zc
  | 1, v, _ => v = .agg #[.int .u64 x0, .int .u64 x1, .int .u64 x2, .int .u64 x3, .string x4, .string x5, .int .i64 x6, .int .i64 x7, .bool x8, .slice xA xn xc]
  | 2, v, _ => v = .int .i64 m
  | 3, v, w => ∃ (A : Option Addr) (c : Nat), v = .slice A k1 c ∧ Rd w w.heap.size A (E1.flatMap Rw.cells)
  | 4, v, _ => v = .slice lA ln lc
  | 5, v, _ => v = .agg #[.int .u64 x0, .int .u64 x1, .int .u64 x2, .int .u64 x3, .string x4, .string x5, .int .i64 x6, .int .i64 x7, .bool x8, .slice xA xn xc]
  | 6, v, _ => v = .int .i64 m
  | 7, v, w => ∃ (A : Option Addr) (c : Nat), v = .slice A k1 c ∧ Rd w w.heap.size A (E1.flatMap Rw.cells)
  | 8, v, _ => v = .bool true
  | 9, v, _ => v = .bool true
  | 10, v, _ => v = .slice zA ln zc
  | 11, v, _ => v = .int .i64 sec
  | 12, v, _ => v = .agg #[.int .i64 h0, .int .i64 h1, .int .i64 h2]
  | 13, v, w => ∃ (A : Option Addr) (c : Nat), v = .slice A k2 c ∧ Rd w w.heap.size A (E2.flatMap Rw.cells)
  | 14, v, _ => v = .slice lA ln lc
  | 15, v, _ => v = .int .i64 sec
  | 16, v, _ => v = .agg #[.int .i64 h0, .int .i64 h1, .int .i64 h2]
  | 17, v, w => ∃ (A : Option Addr) (c : Nat), v = .slice A k2 c ∧ Rd w w.heap.size A (E2.flatMap Rw.cells)
  | 18, v, _ => v = .bool true
  | 19, v, _ => v = .bool true
  | 20, v, _ => v = .bool true
  | 21, v, _ => v = .slice zA ln zc
  | 22, v, _ => v = .string fsv
  | 23, v, _ => v = .string fop
  | 24, v, _ => v = .int .i64 flv
  | 25, v, w => ∃ (A : Option Addr) (c : Nat), v = .slice A k3 c ∧ Rd w w.heap.size A (E3.flatMap Rw.cells)
  | 26, v, _ => v = .slice lA ln lc
  | 27, v, _ => v = .string fsv
  | 28, v, _ => v = .string fop
  | 29, v, _ => v = .int .i64 flv
  | 30, v, w => ∃ (A : Option Addr) (c : Nat), v = .slice A k3 c ∧ Rd w w.heap.size A (E3.flatMap Rw.cells)
  | 31, v, _ => v = .bool true
  | 32, v, _ => v = .bool true
  | 33, v, _ => v = .bool true
  | _, _, _ => True
theorem RgT.keep {b ln zc lc k1 k2 k3 xn xc : Nat} {zA lA xA : Option Addr} {x0 x1 x2 x3 : Int} {x4 x5 : ByteArray} {x6 x7 : Int} {x8 : Bool} {m sec flv h0 h1 h2 : Int} {fsv fop : ByteArray} {E1 E2 E3 : List Rw} {w w' : World} {i : Nat} {v : Value} (hb : Below w.heap.size w w') (h : RgT b ln zc lc k1 k2 k3 xn xc zA lA xA x0 x1 x2 x3 x4 x5 x6 x7 x8 m sec flv h0 h1 h2 fsv fop E1 E2 E3 i v w) : RgT b ln zc lc k1 k2 k3 xn xc zA lA xA x0 x1 x2 x3 x4 x5 x6 x7 x8 m sec flv h0 h1 h2 fsv fop E1 E2 E3 i v w' := by
  match i, h with
  | 0, h => exact h
  | 1, h => exact h
  | 2, h => exact h
  | 3, h => exact (by obtain ⟨A, c, hv, hr⟩ := h; exact ⟨A, c, hv, (hr.below hb).more hb.size⟩)
  | 4, h => exact h
  | 5, h => exact h
  | 6, h => exact h
  | 7, h => exact (by obtain ⟨A, c, hv, hr⟩ := h; exact ⟨A, c, hv, (hr.below hb).more hb.size⟩)
  | 8, h => exact h
  | 9, h => exact h
  | 10, h => exact h
  | 11, h => exact h
  | 12, h => exact h
  | 13, h => exact (by obtain ⟨A, c, hv, hr⟩ := h; exact ⟨A, c, hv, (hr.below hb).more hb.size⟩)
  | 14, h => exact h
  | 15, h => exact h
  | 16, h => exact h
  | 17, h => exact (by obtain ⟨A, c, hv, hr⟩ := h; exact ⟨A, c, hv, (hr.below hb).more hb.size⟩)
  | 18, h => exact h
  | 19, h => exact h
  | 20, h => exact h
  | 21, h => exact h
  | 22, h => exact h
  | 23, h => exact h
  | 24, h => exact h
  | 25, h => exact (by obtain ⟨A, c, hv, hr⟩ := h; exact ⟨A, c, hv, (hr.below hb).more hb.size⟩)
  | 26, h => exact h
  | 27, h => exact h
  | 28, h => exact h
  | 29, h => exact h
  | 30, h => exact (by obtain ⟨A, c, hv, hr⟩ := h; exact ⟨A, c, hv, (hr.below hb).more hb.size⟩)
  | 31, h => exact h
  | 32, h => exact h
  | 33, h => exact h
  | _ + 34, h => trivial

theorem slices_of {w w' : World} {e : Ending} {base n : Nat} {L : List Rw} (h : ∃ v', e = .returned v' ∧ w'.ownsRow base 48 14 v' n (L.flatMap Rw.cells) ∧ Below w.heap.size w w') : ∃ (A : Option Addr) (c : Nat), e = .returned (.slice A n c) ∧ w'.ownsRow base 48 14 (.slice A n c) n (L.flatMap Rw.cells) ∧ Below w.heap.size w w' := by
  obtain ⟨v', e1, h1, h2⟩ := h
  obtain ⟨A, c, rfl, _, _⟩ := own_rd h1
  exact ⟨A, c, e1, h1, h2⟩
set_option maxHeartbeats 32000000 in
theorem tells10 (lA : Option Addr) (l : List Rw) (ln lc : Nat) (x0 x1 x2 x3 : Int) (x4 x5 : ByteArray) (x6 x7 : Int) (x8 : Bool) (ats : List (ByteArray × ByteArray)) (xA : Option Addr) (xc xn : Nat) (m sec h0 h1 h2 : Int) (fsv fop : ByteArray) (flv : Int) (w : World) (hln : ln = l.length) (hl : Rd w w.heap.size lA (l.flatMap Rw.cells)) (hok : okL l) (hlc : ln ≤ lc) (hl0 : lA = none → lc = 0) (hxn : xn = ats.length) (hs : RdL w w.heap.size ⟨⟨x0, x1, x2, x3, x4, x5, x6, x7, x8, ats⟩, xA, xc⟩) (hm0 : -9223372036854775808 ≤ m) (hm : m ≤ 9223372036854775807) (hsec : -9223372036854775808 ≤ sec ∧ sec ≤ 9223372036854775807) (hh0 : -9223372036854775808 ≤ h0 ∧ h0 ≤ 9223372036854775807) (hh1 : -9223372036854775808 ≤ h1 ∧ h1 ≤ 9223372036854775807) (hh2 : -9223372036854775808 ≤ h2 ∧ h2 ≤ 9223372036854775807) (T : Bnds w) (TL : Lens w) :
    Calls Tryd.prog 3 #[.slice lA ln lc, .agg #[.int .u64 x0, .int .u64 x1, .int .u64 x2, .int .u64 x3, .string x4, .string x5, .int .i64 x6, .int .i64 x7, .bool x8, .slice xA xn xc], .int .i64 m, .int .i64 sec, .agg #[.int .i64 h0, .int .i64 h1, .int .i64 h2], .string fsv, .string fop, .int .i64 flv] w fun e w' => e = .returned (.bool true) ∧ Below w.heap.size w w' := by
  obtain ⟨base, hbase⟩ : ∃ base, base = w.heap.size := ⟨_, rfl⟩
  have HT : Hid (Bnds w ∧ Lens w ∧ 4 < base ∧ 1 < base) := ⟨T, TL, by rw [hbase]; exact T.lt, by rw [hbase]; exact TL.lt⟩
  rw [← hbase] at hl hs ⊢
  obtain ⟨W0, hW0⟩ : ∃ W0, W0 = w.alloc (.cells #[.int .u64 x0, .int .u64 x1, .int .u64 x2, .int .u64 x3, .string x4, .string x5, .int .i64 x6, .int .i64 x7, .bool x8, .slice xA xn xc] 28) := ⟨_, rfl⟩
  obtain ⟨W1, hW1⟩ : ∃ W1, W1 = W0.alloc (.cells #[.int .i64 h0, .int .i64 h1, .int .i64 h2] 29) := ⟨_, rfl⟩
  have hz0 : W0.heap.size = base + 1 := by rw [hW0, hbase]; simp
  have HB0 : Below base w W0 := by rw [hW0, hbase]; exact (Below.refl w.heap.size w).alloc (Nat.le_refl _) _
  have HB1 := Lib.hid (show Below base w W1 from HB0.trans (by rw [hW1]; exact ((Below.refl W0.heap.size W0).alloc (Nat.le_refl _) _).mono (by omega)))
  have HQ0 := Lib.hid (show W1.heap[base]? = some (.cells #[.int .u64 x0, .int .u64 x1, .int .u64 x2, .int .u64 x3, .string x4, .string x5, .int .i64 x6, .int .i64 x7, .bool x8, .slice xA xn xc] 28) from by rw [hW1]; exact (heap_alloc_old W0 _ (by omega)).trans (by rw [hW0, hbase]; exact heap_alloc_new w _))
  have HQ1 := Lib.hid (show W1.heap[base + 1]? = some (.cells #[.int .i64 h0, .int .i64 h1, .int .i64 h2] 29) from by rw [hW1, ← hz0]; exact heap_alloc_new W0 _)
  have HZ1 := Lib.hid (show W1.heap.size = base + 2 from by rw [hW1]; simp [hz0])
  have HL := Lib.hid hl
  have HS := Lib.hid hs
  have HLN := Lib.hid hln
  have HXN := Lib.hid hxn
  have HOK := Lib.hid hok
  have HLC := Lib.hid hlc
  have HL0 := Lib.hid hl0
  have HM := Lib.hid (And.intro hm0 hm)
  have HSEC := Lib.hid hsec
  have HH := Lib.hid (And.intro hh0 (And.intro hh1 hh2))
  have HBE := Lib.hid hbase
  have HW0 := Lib.hid hW0
  have HW1 := Lib.hid hW1
  have hb2 : ∀ W, Below (base + 2) W1 W → Below base w W := fun W h => HB1.out.trans (h.mono (by omega))
  have hsz : ∀ W, Below (base + 2) W1 W → base + 2 ≤ W.heap.size := fun W h => by have := h.size; have := HZ1.out; omega
  have AL0 := Lib.hid (alive10_calls W1 (HT.out.1.below HB1.out HT.out.2.2.1) (HT.out.2.1.below HB1.out HT.out.2.2.2))
  obtain ⟨SP, hSP⟩ : ∃ SP : Sp, SP = ⟨x0, x1, x2, x3, x4, x5, x6, x7, x8, ats⟩ := ⟨_, rfl⟩
  obtain ⟨fb, hfb⟩ : ∃ fb, fb = few SP := ⟨_, rfl⟩
  have FE : ∀ W, Below (base + 2) W1 W → Hid (Calls Tryd.prog 11 #[.agg #[.int .u64 x0, .int .u64 x1, .int .u64 x2, .int .u64 x3, .string x4, .string x5, .int .i64 x6, .int .i64 x7, .bool x8, .slice xA xn xc]] W fun e w' => e = .returned (.bool fb) ∧ Below W.heap.size W w') := fun W h => Lib.hid (by
    have h1 := few_any ⟨⟨x0, x1, x2, x3, x4, x5, x6, x7, x8, ats⟩, xA, xc⟩ base W (hs.below (hb2 W h)) (by have := hsz W h; omega)
    rw [hfb, hSP, hxn]
    exact h1)
  obtain ⟨P, hP⟩ : ∃ P : Prop, P = ∀ j f g, l[j]? = some f → l[j + 1]? = some g → ordK f.k g.k < 0 := ⟨_, rfl⟩
  obtain ⟨ob, hob⟩ : ∃ ob : Bool, ob = true ↔ P := by
    by_cases h : P
    · exact ⟨true, by simp [h]⟩
    · exact ⟨false, by simp [h]⟩
  obtain ⟨b1, hb1⟩ : ∃ b1, b1 = decide (60 < ln) := ⟨_, rfl⟩
  have OR : b1 = false → ∀ W, Below (base + 2) W1 W → Hid (Calls Tryd.prog 12 #[.slice lA ln lc] W fun e w' => e = .returned (.bool ob) ∧ Below W.heap.size W w') := fun h60 W h => Lib.hid (by
    refine (ordered_any lA l ln lc base W hln (hl.below (hb2 W h)) (by have := hsz W h; omega) (by rw [h60] at hb1; have := of_decide_eq_false hb1.symm; omega)).mono ?_
    rintro e w' ⟨b, rfl, hb, hbw⟩
    rw [← hP] at hb
    have : b = ob := Bool.eq_iff_iff.2 (hb.trans hob.symm)
    subst this
    exact ⟨rfl, hbw⟩)
  obtain ⟨b5, hb5⟩ : ∃ b5, b5 = decide (100 < fsv.size) := ⟨_, rfl⟩
  obtain ⟨b6, hb6⟩ : ∃ b6, b6 = decide (100 < fop.size) := ⟨_, rfl⟩
  have d1 : decide (60 < ln) = b1 := hb1.symm
  have d1' : decide ((60 : Int) < (ln : Int)) = b1 := by rw [hb1]; exact decide_eq_decide.2 (by omega)
  have d5 : decide (100 < fsv.size) = b5 := hb5.symm
  have d5' : decide ((100 : Int) < (fsv.size : Int)) = b5 := by rw [hb5]; exact decide_eq_decide.2 (by omega)
  have d6 : decide (100 < fop.size) = b6 := hb6.symm
  have d6' : decide ((100 : Int) < (fop.size : Int)) = b6 := by rw [hb6]; exact decide_eq_decide.2 (by omega)
  have q0 : ∀ W, Below (base + 2) W1 W → W.heap[base]? = some (.cells #[.int .u64 x0, .int .u64 x1, .int .u64 x2, .int .u64 x3, .string x4, .string x5, .int .i64 x6, .int .i64 x7, .bool x8, .slice xA xn xc] 28) := fun W h => (h.block base (by omega)).trans HQ0.out
  have HFB := Lib.hid hfb
  have HOB := Lib.hid hob
  have HPP := Lib.hid hP
  have HSP := Lib.hid hSP
  have HC2 := Lib.hid hb2
  have HC3 := Lib.hid hsz
  have HC4 := Lib.hid q0
  clear hl hs hln hxn hok hlc hl0 hm0 hm hsec hh0 hh1 hh2 hbase hW0 hW1 hz0 HB0 hfb hob hP hSP hb1 hb5 hb6 T TL hb2 hsz q0
  have a0 : ∀ W, Below (base + 2) W1 W → W.cell? ⟨base, 0, none⟩ = some (.int .u64 x0) := fun W h => cell_of_row _ _ 0 _ _ (0, 0) (HC4.out W h)
  have a1 : ∀ W, Below (base + 2) W1 W → W.cell? ⟨base, 1, none⟩ = some (.int .u64 x1) := fun W h => cell_of_row _ _ 1 _ _ (0, 0) (HC4.out W h)
  have a2 : ∀ W, Below (base + 2) W1 W → W.cell? ⟨base, 2, none⟩ = some (.int .u64 x2) := fun W h => cell_of_row _ _ 2 _ _ (0, 0) (HC4.out W h)
  have a3 : ∀ W, Below (base + 2) W1 W → W.cell? ⟨base, 3, none⟩ = some (.int .u64 x3) := fun W h => cell_of_row _ _ 3 _ _ (0, 0) (HC4.out W h)
  have a4 : ∀ W, Below (base + 2) W1 W → W.cell? ⟨base, 4, none⟩ = some (.string x4) := fun W h => cell_of_row _ _ 4 _ _ (0, 0) (HC4.out W h)
  have a5 : ∀ W, Below (base + 2) W1 W → W.cell? ⟨base, 5, none⟩ = some (.string x5) := fun W h => cell_of_row _ _ 5 _ _ (0, 0) (HC4.out W h)
  have a6 : ∀ W, Below (base + 2) W1 W → W.cell? ⟨base, 6, none⟩ = some (.int .i64 x6) := fun W h => cell_of_row _ _ 6 _ _ (0, 0) (HC4.out W h)
  have a7 : ∀ W, Below (base + 2) W1 W → W.cell? ⟨base, 7, none⟩ = some (.int .i64 x7) := fun W h => cell_of_row _ _ 7 _ _ (0, 0) (HC4.out W h)
  have a8 : ∀ W, Below (base + 2) W1 W → W.cell? ⟨base, 8, none⟩ = some (.bool x8) := fun W h => cell_of_row _ _ 8 _ _ (0, 0) (HC4.out W h)
  have a9 : ∀ W, Below (base + 2) W1 W → W.cell? ⟨base, 9, none⟩ = some (.slice xA xn xc) := fun W h => cell_of_row _ _ 9 _ _ (0, 0) (HC4.out W h)
  have hgo : (b1 = true ∨ (b1 = false ∧ fb = false) ∨ (b1 = false ∧ fb = true ∧ ob = false) ∨ (b1 = false ∧ fb = true ∧ ob = true ∧ b5 = true) ∨ (b1 = false ∧ fb = true ∧ ob = true ∧ b5 = false ∧ b6 = true)) ∨ (b1 = false ∧ fb = true ∧ ob = true ∧ b5 = false ∧ b6 = false) := by
    cases b1 <;> cases fb <;> cases ob <;> cases b5 <;> cases b6 <;> simp
  rcases hgo with hgo | ⟨rfl, rfl, rfl, rfl, rfl⟩
  · rcases hgo with rfl | ⟨rfl, rfl⟩ | ⟨rfl, rfl, rfl⟩ | ⟨rfl, rfl, rfl, rfl⟩ | ⟨rfl, rfl, rfl, rfl, rfl⟩
    · clear OR FE a0 a1 a2 a3 a4 a5 a6 a7 a8 a9
      go_enter Tryd.func3, Tryd.ntmps3
      go_upto_region 1 with fail
      rw [← HBE.out, ← HW0.out, ← HW1.out]
      go_wp2_with (first
            | (go_at_call 12; (with_reducible refine (OQ _ (by with_reducible assumption)).out.mono ?_); rintro ex w4 ⟨rfl, hb4⟩; have hbb4 : Below (base + 2) W1 w4 := hbb3.trans (hb4.mono (by have := hbb3.size; have := HZ1.out; omega)))
            | (go_at_call 11; (with_reducible refine (FE _ (by with_reducible assumption)).out.mono ?_); rintro ex w3 ⟨rfl, hb3⟩; have hbb3 : Below (base + 2) W1 w3 := hbb2.trans (hb3.mono (by have := hbb2.size; have := HZ1.out; omega)))
            | (go_at_call 10; (with_reducible refine AL0.out.mono ?_); rintro ex w2 ⟨rfl, hb2⟩; have hbb2 : Below (base + 2) W1 w2 := (by rw [← HZ1.out]; exact hb2)))
      go_ret
      exact ⟨rfl, HB1.out.trans ((hbb2).mono (by omega))⟩
    · have OQ := OR rfl
      clear OR
      go_enter Tryd.func3, Tryd.ntmps3
      go_upto_region 1 with fail
      rw [← HBE.out, ← HW0.out, ← HW1.out]
      go_wp2_with (first
            | (go_at_call 12; (with_reducible refine (OQ _ (by with_reducible assumption)).out.mono ?_); rintro ex w4 ⟨rfl, hb4⟩; have hbb4 : Below (base + 2) W1 w4 := hbb3.trans (hb4.mono (by have := hbb3.size; have := HZ1.out; omega)))
            | (go_at_call 11; (with_reducible refine (FE _ (by with_reducible assumption)).out.mono ?_); rintro ex w3 ⟨rfl, hb3⟩; have hbb3 : Below (base + 2) W1 w3 := hbb2.trans (hb3.mono (by have := hbb2.size; have := HZ1.out; omega)))
            | (go_at_call 10; (with_reducible refine AL0.out.mono ?_); rintro ex w2 ⟨rfl, hb2⟩; have hbb2 : Below (base + 2) W1 w2 := (by rw [← HZ1.out]; exact hb2); have c0 := a0 _ hbb2; have c1 := a1 _ hbb2; have c2 := a2 _ hbb2; have c3 := a3 _ hbb2; have c4 := a4 _ hbb2; have c5 := a5 _ hbb2; have c6 := a6 _ hbb2; have c7 := a7 _ hbb2; have c8 := a8 _ hbb2; have c9 := a9 _ hbb2))
      go_ret
      exact ⟨rfl, HB1.out.trans ((hbb3).mono (by omega))⟩
    · have OQ := OR rfl
      clear OR
      go_enter Tryd.func3, Tryd.ntmps3
      go_upto_region 1 with fail
      rw [← HBE.out, ← HW0.out, ← HW1.out]
      go_wp2_with (first
            | (go_at_call 12; (with_reducible refine (OQ _ (by with_reducible assumption)).out.mono ?_); rintro ex w4 ⟨rfl, hb4⟩; have hbb4 : Below (base + 2) W1 w4 := hbb3.trans (hb4.mono (by have := hbb3.size; have := HZ1.out; omega)))
            | (go_at_call 11; (with_reducible refine (FE _ (by with_reducible assumption)).out.mono ?_); rintro ex w3 ⟨rfl, hb3⟩; have hbb3 : Below (base + 2) W1 w3 := hbb2.trans (hb3.mono (by have := hbb2.size; have := HZ1.out; omega)))
            | (go_at_call 10; (with_reducible refine AL0.out.mono ?_); rintro ex w2 ⟨rfl, hb2⟩; have hbb2 : Below (base + 2) W1 w2 := (by rw [← HZ1.out]; exact hb2); have c0 := a0 _ hbb2; have c1 := a1 _ hbb2; have c2 := a2 _ hbb2; have c3 := a3 _ hbb2; have c4 := a4 _ hbb2; have c5 := a5 _ hbb2; have c6 := a6 _ hbb2; have c7 := a7 _ hbb2; have c8 := a8 _ hbb2; have c9 := a9 _ hbb2))
      go_ret
      exact ⟨rfl, HB1.out.trans ((hbb4).mono (by omega))⟩
    · have OQ := OR rfl
      clear OR
      go_enter Tryd.func3, Tryd.ntmps3
      go_upto_region 1 with fail
      rw [← HBE.out, ← HW0.out, ← HW1.out]
      go_wp2_with (first
            | (go_at_call 12; (with_reducible refine (OQ _ (by with_reducible assumption)).out.mono ?_); rintro ex w4 ⟨rfl, hb4⟩; have hbb4 : Below (base + 2) W1 w4 := hbb3.trans (hb4.mono (by have := hbb3.size; have := HZ1.out; omega)))
            | (go_at_call 11; (with_reducible refine (FE _ (by with_reducible assumption)).out.mono ?_); rintro ex w3 ⟨rfl, hb3⟩; have hbb3 : Below (base + 2) W1 w3 := hbb2.trans (hb3.mono (by have := hbb2.size; have := HZ1.out; omega)))
            | (go_at_call 10; (with_reducible refine AL0.out.mono ?_); rintro ex w2 ⟨rfl, hb2⟩; have hbb2 : Below (base + 2) W1 w2 := (by rw [← HZ1.out]; exact hb2); have c0 := a0 _ hbb2; have c1 := a1 _ hbb2; have c2 := a2 _ hbb2; have c3 := a3 _ hbb2; have c4 := a4 _ hbb2; have c5 := a5 _ hbb2; have c6 := a6 _ hbb2; have c7 := a7 _ hbb2; have c8 := a8 _ hbb2; have c9 := a9 _ hbb2))
      go_ret
      exact ⟨rfl, HB1.out.trans ((hbb4).mono (by omega))⟩
    · have OQ := OR rfl
      clear OR
      go_enter Tryd.func3, Tryd.ntmps3
      go_upto_region 1 with fail
      rw [← HBE.out, ← HW0.out, ← HW1.out]
      go_wp2_with (first
            | (go_at_call 12; (with_reducible refine (OQ _ (by with_reducible assumption)).out.mono ?_); rintro ex w4 ⟨rfl, hb4⟩; have hbb4 : Below (base + 2) W1 w4 := hbb3.trans (hb4.mono (by have := hbb3.size; have := HZ1.out; omega)))
            | (go_at_call 11; (with_reducible refine (FE _ (by with_reducible assumption)).out.mono ?_); rintro ex w3 ⟨rfl, hb3⟩; have hbb3 : Below (base + 2) W1 w3 := hbb2.trans (hb3.mono (by have := hbb2.size; have := HZ1.out; omega)))
            | (go_at_call 10; (with_reducible refine AL0.out.mono ?_); rintro ex w2 ⟨rfl, hb2⟩; have hbb2 : Below (base + 2) W1 w2 := (by rw [← HZ1.out]; exact hb2); have c0 := a0 _ hbb2; have c1 := a1 _ hbb2; have c2 := a2 _ hbb2; have c3 := a3 _ hbb2; have c4 := a4 _ hbb2; have c5 := a5 _ hbb2; have c6 := a6 _ hbb2; have c7 := a7 _ hbb2; have c8 := a8 _ hbb2; have c9 := a9 _ hbb2))
      go_ret
      exact ⟨rfl, HB1.out.trans ((hbb4).mono (by omega))⟩
  · have OQ := OR rfl
    clear OR
    have hn60 : ln ≤ 60 := by have := of_decide_eq_false d1; omega
    have hsort : SortR l := sort_of (HPP.out ▸ (HOB.out.1 rfl))
    go_enter Tryd.func3, Tryd.ntmps3
    go_upto_region 1 with fail
    rw [← HBE.out, ← HW0.out, ← HW1.out]
    go_upto_region 4 with (first
      | (go_at_call 12; (with_reducible refine (OQ _ (by with_reducible assumption)).out.mono ?_); rintro ex w4 ⟨rfl, hb4⟩; have hbb4 : Below (base + 2) W1 w4 := hbb3.trans (hb4.mono (by have := hbb3.size; have := HZ1.out; omega)))
      | (go_at_call 11; (with_reducible refine (FE _ (by with_reducible assumption)).out.mono ?_); rintro ex w3 ⟨rfl, hb3⟩; have hbb3 : Below (base + 2) W1 w3 := hbb2.trans (hb3.mono (by have := hbb2.size; have := HZ1.out; omega)))
      | (go_at_call 10; (with_reducible refine AL0.out.mono ?_); rintro ex w2 ⟨rfl, hb2⟩; have hbb2 : Below (base + 2) W1 w2 := (by rw [← HZ1.out]; exact hb2); have c0 := a0 _ hbb2; have c1 := a1 _ hbb2; have c2 := a2 _ hbb2; have c3 := a3 _ hbb2; have c4 := a4 _ hbb2; have c5 := a5 _ hbb2; have c6 := a6 _ hbb2; have c7 := a7 _ hbb2; have c8 := a8 _ hbb2; have c9 := a9 _ hbb2))
    have HBW := Lib.hid hbb4
    have HZA : Hid (ln = l.length) := HLN
    have APP := Lib.hid (fun ty => appRs (ty := ty) (c := lc) (base := base) (n := 0) (L := []) (World.ownsRow_nil w4 base 48 14) (K := l) (HL.out.below (HC2.out w4 HBW.out)) HLN.out (by omega) (by have := HC3.out w4 HBW.out; omega))
    have HN60 := Lib.hid hn60
    have HSORT := Lib.hid hsort
    clear a0 a1 a2 a3 a4 a5 a6 a7 a8 a9 hbb2 hbb3 hbb4 FE OQ AL0 hb2 hb3 hb4 d1 d1' d5 d5' d6 d6' hn60 hsort
    go_upto_region 5 with (at_builtin; refine wpList_app rfl _ _ _ _ rfl rfl rfl (APP.out _) ?_; rintro v8 w8 ⟨ho8, hg8⟩; have HO8 := Lib.hid ho8; have HG8 := Lib.hid hg8; clear ho8 hg8)
    have HOZ := Lib.hid (show w8.ownsRow base 48 14 v8 ln (l.flatMap Rw.cells) from by have h := HO8.out; rw [Nat.zero_add, List.nil_append] at h; exact h)
    obtain ⟨zA, zc, rfl, _, hrz⟩ := own_rd HOZ.out
    have HB8 := Lib.hid (show Below (base + 2) W1 w8 from HBW.out.trans ((HG8.out.new).mono (HC3.out w4 HBW.out)))
    obtain ⟨W, hW⟩ : ∃ W, W = w8.drew := ⟨_, rfl⟩
    have hd8 : Below w8.heap.size w8 W := by rw [hW]; exact ⟨rfl, rfl, rfl, Nat.le_refl _, fun _ _ => rfl⟩
    have HBWW := Lib.hid (show Below (base + 2) W1 W from HB8.out.trans (hd8.mono (HC3.out w8 HB8.out)))
    have HRZ := Lib.hid (show Rd W W.heap.size zA (l.flatMap Rw.cells) from (hrz.below hd8).more hd8.size)
    have HRL := Lib.hid (show Rd W W.heap.size lA (l.flatMap Rw.cells) from (HL.out.below (HC2.out W HBWW.out)).more (by have := HC3.out W HBWW.out; omega))
    have HSX := Lib.hid (show RdL W W.heap.size ⟨⟨x0, x1, x2, x3, x4, x5, x6, x7, x8, ats⟩, xA, xc⟩ from (HS.out.below (HC2.out W HBWW.out)).more (by have := HC3.out W HBWW.out; omega))
    have hbs : base < W.heap.size := by have := HC3.out W HBWW.out; omega
    have hbs1 : base + 1 < W.heap.size := by have := HC3.out W HBWW.out; omega
    have hz := Lib.hid (HC4.out W HBWW.out)
    have hz1 := Lib.hid (show W.heap[base + 1]? = some (.cells #[.int .i64 h0, .int .i64 h1, .int .i64 h2] 29) from (HBWW.out.block (base + 1) (by omega)).trans HQ1.out)
    have HTB := Lib.hid (show ∀ w5, Below W.heap.size W w5 → Bnds w5 ∧ Lens w5 from fun w5 hr => by
      have h : Below base w w5 := (HC2.out W HBWW.out).trans (hr.mono (by omega))
      exact ⟨HT.out.1.below h HT.out.2.2.1, HT.out.2.1.below h HT.out.2.2.2⟩)
    obtain ⟨E1, hE1⟩ : ∃ E1, E1 = addS l ⟨x0, x1, x2, x3, x4, x5, x6, x7, x8, ats⟩ m := ⟨_, rfl⟩
    obtain ⟨E2, hE2⟩ : ∃ E2, E2 = l.filter (keepE sec h0 h1 h2) := ⟨_, rfl⟩
    obtain ⟨E3, hE3⟩ : ∃ E3, E3 = l.filter (fndR fsv fop flv) := ⟨_, rfl⟩
    obtain ⟨k1, hmE1⟩ : ∃ k1, k1 = E1.length := ⟨_, rfl⟩
    obtain ⟨k2, hmE2⟩ : ∃ k2, k2 = E2.length := ⟨_, rfl⟩
    obtain ⟨k3, hmE3⟩ : ∃ k3, k3 = E3.length := ⟨_, rfl⟩
    have hln60 : ln ≤ 60 := HN60.out
    have hsE1 : k1 ≤ 1000000 := by rw [hmE1, hE1]; have := addS_len l ⟨x0, x1, x2, x3, x4, x5, x6, x7, x8, ats⟩ m; have := HLN.out; omega
    have hsE2 : k2 ≤ 1000000 := by rw [hmE2, hE2]; have := List.length_filter_le (keepE sec h0 h1 h2) l; have := HLN.out; omega
    have hsE3 : k3 ≤ 1000000 := by rw [hmE3, hE3]; have := List.length_filter_le (fndR fsv fop flv) l; have := HLN.out; omega
    have CA : ∀ w5, Below W.heap.size W w5 → Calls Tryd.prog 14 #[.slice zA ln zc, .agg #[.int .u64 x0, .int .u64 x1, .int .u64 x2, .int .u64 x3, .string x4, .string x5, .int .i64 x6, .int .i64 x7, .bool x8, .slice xA xn xc], .int .i64 m] w5 fun e w' => ∃ (A : Option Addr) (c : Nat), e = .returned (.slice A k1 c) ∧ w'.ownsRow w5.heap.size 48 14 (.slice A k1 c) k1 (E1.flatMap Rw.cells) ∧ Below w5.heap.size w5 w' := fun w5 hr => by
      refine (radd_any zA l ln zc w5.heap.size x0 x1 x2 x3 x4 x5 x6 x7 x8 ats xA xc xn m w5 HLN.out ((HRZ.out.below hr).more hr.size) HOK.out HSORT.out HXN.out ((HSX.out.below hr).more hr.size) (Nat.le_refl _) (HTB.out w5 hr).1 (HTB.out w5 hr).2 HM.out.2 (by omega)).mono fun e w' h => ?_
      rw [← hE1, ← hmE1] at h
      exact slices_of h
    have CB : ∀ w5, Below W.heap.size W w5 → Calls Tryd.prog 15 #[.slice lA ln lc, .agg #[.int .u64 x0, .int .u64 x1, .int .u64 x2, .int .u64 x3, .string x4, .string x5, .int .i64 x6, .int .i64 x7, .bool x8, .slice xA xn xc], .int .i64 m] w5 fun e w' => ∃ (A : Option Addr) (c : Nat), e = .returned (.slice A k1 c) ∧ w'.ownsRow w5.heap.size 48 14 (.slice A k1 c) k1 (E1.flatMap Rw.cells) ∧ Below w5.heap.size w5 w' := fun w5 hr => by
      refine (daddrows_any lA l ln lc w5.heap.size x0 x1 x2 x3 x4 x5 x6 x7 x8 ats xA xc xn m w5 HLN.out ((HRL.out.below hr).more hr.size) HL0.out HLC.out HOK.out HSORT.out HXN.out ((HSX.out.below hr).more hr.size) (Nat.le_refl _) HM.out.1 HM.out.2 (by omega)).mono fun e w' h => ?_
      rw [← hE1, ← hmE1] at h
      exact slices_of h
    have CC : ∀ w5, Below W.heap.size W w5 → Calls Tryd.prog 16 #[.slice zA ln zc, .int .i64 sec, .agg #[.int .i64 h0, .int .i64 h1, .int .i64 h2]] w5 fun e w' => ∃ (A : Option Addr) (c : Nat), e = .returned (.slice A k2 c) ∧ w'.ownsRow w5.heap.size 48 14 (.slice A k2 c) k2 (E2.flatMap Rw.cells) ∧ Below w5.heap.size w5 w' := fun w5 hr => by
      have h := rexpire_any zA l ln zc w5.heap.size sec h0 h1 h2 w5 HLN.out ((HRZ.out.below hr).more hr.size) (Nat.le_refl _) (by omega) (HTB.out w5 hr).2 HSEC.out HH.out.1 HH.out.2.1 HH.out.2.2
      rw [← hE2] at h
      rw [hmE2]; exact h
    have CD : ∀ w5, Below W.heap.size W w5 → Calls Tryd.prog 17 #[.slice lA ln lc, .int .i64 sec, .agg #[.int .i64 h0, .int .i64 h1, .int .i64 h2]] w5 fun e w' => ∃ (A : Option Addr) (c : Nat), e = .returned (.slice A k2 c) ∧ w'.ownsRow w5.heap.size 48 14 (.slice A k2 c) k2 (E2.flatMap Rw.cells) ∧ Below w5.heap.size w5 w' := fun w5 hr => by
      have h := dexpire_any lA l ln lc w5.heap.size sec h0 h1 h2 w5 HLN.out ((HRL.out.below hr).more hr.size) (Nat.le_refl _) (by omega) HSEC.out HH.out.1 HH.out.2.1 HH.out.2.2
      rw [← hE2] at h
      rw [hmE2]; exact h
    have CE : ∀ w5, Below W.heap.size W w5 → Calls Tryd.prog 18 #[.slice zA ln zc, .string fsv, .string fop, .int .i64 flv] w5 fun e w' => ∃ (A : Option Addr) (c : Nat), e = .returned (.slice A k3 c) ∧ w'.ownsRow w5.heap.size 48 14 (.slice A k3 c) k3 (E3.flatMap Rw.cells) ∧ Below w5.heap.size w5 w' := fun w5 hr => by
      have h := rfind_any zA l ln zc w5.heap.size fsv fop flv w5 HLN.out ((HRZ.out.below hr).more hr.size) (Nat.le_refl _) (by omega)
      rw [← hE3] at h
      rw [hmE3]; exact h
    have CF : ∀ w5, Below W.heap.size W w5 → Calls Tryd.prog 19 #[.slice lA ln lc, .string fsv, .string fop, .int .i64 flv] w5 fun e w' => ∃ (A : Option Addr) (c : Nat), e = .returned (.slice A k3 c) ∧ w'.ownsRow w5.heap.size 48 14 (.slice A k3 c) k3 (E3.flatMap Rw.cells) ∧ Below w5.heap.size w5 w' := fun w5 hr => by
      have h := dfind_any lA l ln lc w5.heap.size fsv fop flv w5 HLN.out ((HRL.out.below hr).more hr.size) (Nat.le_refl _) (by omega)
      rw [← hE3] at h
      rw [hmE3]; exact h
    have HWX := Lib.hid hW
    clear hd8 hrz hE1 hE2 hE3
    refine PI.wp_region_persG (R := (fun w w' => Below w.heap.size w w')) (G := fun _ _ => True) (I := fun _ _ _ => True) [(3, 0), (3, 1), (3, 2), (7, 4), (7, 5), (7, 6), (8, 3), (8, 7), (9, 8), (10, 9), (11, 9), (12, 9), (13, 9), (13, 10), (13, 11), (13, 12), (14, 9), (15, 9), (16, 9), (17, 9), (17, 14), (17, 15), (17, 16), (18, 9), (18, 13), (18, 17), (19, 9), (19, 18), (20, 19), (21, 20), (22, 20), (23, 20), (24, 20), (25, 20), (25, 21), (25, 22), (25, 23), (25, 24), (26, 20), (27, 20), (28, 20), (29, 20), (30, 20), (30, 26), (30, 27), (30, 28), (30, 29), (31, 20), (31, 25), (31, 30), (32, 20), (32, 31), (33, 32)] [33] (by kernel_rfl) (PI.formed_of (by kernel_rfl)) ⟨fun w => Below.refl _ w, fun _ _ _ h k => h.trans (k.mono h.size)⟩ (fun _ => trivial) (RgT base ln zc lc k1 k2 k3 xn xc zA lA xA x0 x1 x2 x3 x4 x5 x6 x7 x8 m sec flv h0 h1 h2 fsv fop E1 E2 E3) trivial ?_ ?_
    · rw [← hW]
      intro i9 o ho
      rcases i9 with _ | _ | _ | _ | _ | _ | _ | _ | _ | _ | _ | _ | _ | _ | _ | _ | _ | _ | _ | _ | _ | _ | _ | _ | _ | _ | _ | _ | _ | _ | _ | _ | _ | _ | i9
      · obtain rfl := Option.some.inj (show some _ = some o from ho)
        refine PI.shown_val rfl fun a w5 L0 hr T => ?_
        have ha1 : a.eval (.tmp 18) = .slice zA ln zc := T.was 18 (by kernel_rfl)
        exact ⟨.slice zA ln zc, w5, by simp only [execOp, ha1]; simp [go_sem], PI.Post.pure ⟨fun w => Below.refl _ w, fun _ _ _ h k => h.trans (k.mono h.size)⟩ rfl trivial⟩
      · obtain rfl := Option.some.inj (show some _ = some o from ho)
        refine PI.shown_val rfl fun a w5 L0 hr T => ?_
        have ha1 : a.eval (.tmp 9) = .pointer (some ⟨base, 0, none⟩) := T.was 9 (by kernel_rfl)
        have zz0 : w5.cell? ⟨base, 0, none⟩ = some (.int .u64 x0) := (hr.cell (p := ⟨base, 0, none⟩) hbs).trans (cell_of_row _ _ 0 _ _ (0, 0) hz.out)
        have zz1 : w5.cell? ⟨base, 1, none⟩ = some (.int .u64 x1) := (hr.cell (p := ⟨base, 1, none⟩) hbs).trans (cell_of_row _ _ 1 _ _ (0, 0) hz.out)
        have zz2 : w5.cell? ⟨base, 2, none⟩ = some (.int .u64 x2) := (hr.cell (p := ⟨base, 2, none⟩) hbs).trans (cell_of_row _ _ 2 _ _ (0, 0) hz.out)
        have zz3 : w5.cell? ⟨base, 3, none⟩ = some (.int .u64 x3) := (hr.cell (p := ⟨base, 3, none⟩) hbs).trans (cell_of_row _ _ 3 _ _ (0, 0) hz.out)
        have zz4 : w5.cell? ⟨base, 4, none⟩ = some (.string x4) := (hr.cell (p := ⟨base, 4, none⟩) hbs).trans (cell_of_row _ _ 4 _ _ (0, 0) hz.out)
        have zz5 : w5.cell? ⟨base, 5, none⟩ = some (.string x5) := (hr.cell (p := ⟨base, 5, none⟩) hbs).trans (cell_of_row _ _ 5 _ _ (0, 0) hz.out)
        have zz6 : w5.cell? ⟨base, 6, none⟩ = some (.int .i64 x6) := (hr.cell (p := ⟨base, 6, none⟩) hbs).trans (cell_of_row _ _ 6 _ _ (0, 0) hz.out)
        have zz7 : w5.cell? ⟨base, 7, none⟩ = some (.int .i64 x7) := (hr.cell (p := ⟨base, 7, none⟩) hbs).trans (cell_of_row _ _ 7 _ _ (0, 0) hz.out)
        have zz8 : w5.cell? ⟨base, 8, none⟩ = some (.bool x8) := (hr.cell (p := ⟨base, 8, none⟩) hbs).trans (cell_of_row _ _ 8 _ _ (0, 0) hz.out)
        have zz9 : w5.cell? ⟨base, 9, none⟩ = some (.slice xA xn xc) := (hr.cell (p := ⟨base, 9, none⟩) hbs).trans (cell_of_row _ _ 9 _ _ (0, 0) hz.out)
        exact ⟨.agg #[.int .u64 x0, .int .u64 x1, .int .u64 x2, .int .u64 x3, .string x4, .string x5, .int .i64 x6, .int .i64 x7, .bool x8, .slice xA xn xc], w5, by simp only [execOp, ha1]; simp [go_sem, zz0, zz1, zz2, zz3, zz4, zz5, zz6, zz7, zz8, zz9], PI.Post.pure ⟨fun w => Below.refl _ w, fun _ _ _ h k => h.trans (k.mono h.size)⟩ rfl trivial⟩
      · obtain rfl := Option.some.inj (show some _ = some o from ho)
        refine PI.shown_val rfl fun a w5 L0 hr T => ?_
        have ha1 : a.eval (.tmp 2) = .int .i64 m := T.was 2 (by kernel_rfl)
        exact ⟨.int .i64 m, w5, by simp only [execOp, ha1]; simp [go_sem], PI.Post.pure ⟨fun w => Below.refl _ w, fun _ _ _ h k => h.trans (k.mono h.size)⟩ rfl trivial⟩
      · obtain rfl := Option.some.inj (show some _ = some o from ho)
        refine PI.shown_call rfl 14 fun a w5 L0 hr T => ?_
        have ha0 : a.eval (.tmp 50) = .slice zA ln zc := T.at_ 0 50 (by kernel_rfl) (by kernel_rfl) (by kernel_rfl)
        have ha1 : a.eval (.tmp 51) = .agg #[.int .u64 x0, .int .u64 x1, .int .u64 x2, .int .u64 x3, .string x4, .string x5, .int .i64 x6, .int .i64 x7, .bool x8, .slice xA xn xc] := T.at_ 1 51 (by kernel_rfl) (by kernel_rfl) (by kernel_rfl)
        have ha2 : a.eval (.tmp 52) = .int .i64 m := T.at_ 2 52 (by kernel_rfl) (by kernel_rfl) (by kernel_rfl)
        refine ⟨#[.slice zA ln zc, .agg #[.int .u64 x0, .int .u64 x1, .int .u64 x2, .int .u64 x3, .string x4, .string x5, .int .i64 x6, .int .i64 x7, .bool x8, .slice xA xn xc], .int .i64 m], by simp only [execOp, resolve, List.map_toArray, List.map_cons, List.map_nil, ha0, ha1, ha2]; simp [go_sem, Act.eval], ?_⟩
        refine (CA w5 hr).mono fun e w6 hh => ?_
        obtain ⟨A, c, rfl, ho, hb6⟩ := hh
        exact ⟨_, rfl, hb6, ⟨A, c, rfl, Rd.of_own ho⟩, fun _ _ h => h, fun j v _ _ _ _ h => RgT.keep hb6 h, trivial⟩
      · obtain rfl := Option.some.inj (show some _ = some o from ho)
        refine PI.shown_val rfl fun a w5 L0 hr T => ?_
        have ha1 : a.eval (.tmp 0) = .slice lA ln lc := T.was 0 (by kernel_rfl)
        exact ⟨.slice lA ln lc, w5, by simp only [execOp, ha1]; simp [go_sem], PI.Post.pure ⟨fun w => Below.refl _ w, fun _ _ _ h k => h.trans (k.mono h.size)⟩ rfl trivial⟩
      · obtain rfl := Option.some.inj (show some _ = some o from ho)
        refine PI.shown_val rfl fun a w5 L0 hr T => ?_
        have ha1 : a.eval (.tmp 9) = .pointer (some ⟨base, 0, none⟩) := T.was 9 (by kernel_rfl)
        have zz0 : w5.cell? ⟨base, 0, none⟩ = some (.int .u64 x0) := (hr.cell (p := ⟨base, 0, none⟩) hbs).trans (cell_of_row _ _ 0 _ _ (0, 0) hz.out)
        have zz1 : w5.cell? ⟨base, 1, none⟩ = some (.int .u64 x1) := (hr.cell (p := ⟨base, 1, none⟩) hbs).trans (cell_of_row _ _ 1 _ _ (0, 0) hz.out)
        have zz2 : w5.cell? ⟨base, 2, none⟩ = some (.int .u64 x2) := (hr.cell (p := ⟨base, 2, none⟩) hbs).trans (cell_of_row _ _ 2 _ _ (0, 0) hz.out)
        have zz3 : w5.cell? ⟨base, 3, none⟩ = some (.int .u64 x3) := (hr.cell (p := ⟨base, 3, none⟩) hbs).trans (cell_of_row _ _ 3 _ _ (0, 0) hz.out)
        have zz4 : w5.cell? ⟨base, 4, none⟩ = some (.string x4) := (hr.cell (p := ⟨base, 4, none⟩) hbs).trans (cell_of_row _ _ 4 _ _ (0, 0) hz.out)
        have zz5 : w5.cell? ⟨base, 5, none⟩ = some (.string x5) := (hr.cell (p := ⟨base, 5, none⟩) hbs).trans (cell_of_row _ _ 5 _ _ (0, 0) hz.out)
        have zz6 : w5.cell? ⟨base, 6, none⟩ = some (.int .i64 x6) := (hr.cell (p := ⟨base, 6, none⟩) hbs).trans (cell_of_row _ _ 6 _ _ (0, 0) hz.out)
        have zz7 : w5.cell? ⟨base, 7, none⟩ = some (.int .i64 x7) := (hr.cell (p := ⟨base, 7, none⟩) hbs).trans (cell_of_row _ _ 7 _ _ (0, 0) hz.out)
        have zz8 : w5.cell? ⟨base, 8, none⟩ = some (.bool x8) := (hr.cell (p := ⟨base, 8, none⟩) hbs).trans (cell_of_row _ _ 8 _ _ (0, 0) hz.out)
        have zz9 : w5.cell? ⟨base, 9, none⟩ = some (.slice xA xn xc) := (hr.cell (p := ⟨base, 9, none⟩) hbs).trans (cell_of_row _ _ 9 _ _ (0, 0) hz.out)
        exact ⟨.agg #[.int .u64 x0, .int .u64 x1, .int .u64 x2, .int .u64 x3, .string x4, .string x5, .int .i64 x6, .int .i64 x7, .bool x8, .slice xA xn xc], w5, by simp only [execOp, ha1]; simp [go_sem, zz0, zz1, zz2, zz3, zz4, zz5, zz6, zz7, zz8, zz9], PI.Post.pure ⟨fun w => Below.refl _ w, fun _ _ _ h k => h.trans (k.mono h.size)⟩ rfl trivial⟩
      · obtain rfl := Option.some.inj (show some _ = some o from ho)
        refine PI.shown_val rfl fun a w5 L0 hr T => ?_
        have ha1 : a.eval (.tmp 2) = .int .i64 m := T.was 2 (by kernel_rfl)
        exact ⟨.int .i64 m, w5, by simp only [execOp, ha1]; simp [go_sem], PI.Post.pure ⟨fun w => Below.refl _ w, fun _ _ _ h k => h.trans (k.mono h.size)⟩ rfl trivial⟩
      · obtain rfl := Option.some.inj (show some _ = some o from ho)
        refine PI.shown_call rfl 15 fun a w5 L0 hr T => ?_
        have ha0 : a.eval (.tmp 54) = .slice lA ln lc := T.at_ 4 54 (by kernel_rfl) (by kernel_rfl) (by kernel_rfl)
        have ha1 : a.eval (.tmp 55) = .agg #[.int .u64 x0, .int .u64 x1, .int .u64 x2, .int .u64 x3, .string x4, .string x5, .int .i64 x6, .int .i64 x7, .bool x8, .slice xA xn xc] := T.at_ 5 55 (by kernel_rfl) (by kernel_rfl) (by kernel_rfl)
        have ha2 : a.eval (.tmp 56) = .int .i64 m := T.at_ 6 56 (by kernel_rfl) (by kernel_rfl) (by kernel_rfl)
        refine ⟨#[.slice lA ln lc, .agg #[.int .u64 x0, .int .u64 x1, .int .u64 x2, .int .u64 x3, .string x4, .string x5, .int .i64 x6, .int .i64 x7, .bool x8, .slice xA xn xc], .int .i64 m], by simp only [execOp, resolve, List.map_toArray, List.map_cons, List.map_nil, ha0, ha1, ha2]; simp [go_sem, Act.eval], ?_⟩
        refine (CB w5 hr).mono fun e w6 hh => ?_
        obtain ⟨A, c, rfl, ho, hb6⟩ := hh
        exact ⟨_, rfl, hb6, ⟨A, c, rfl, Rd.of_own ho⟩, fun _ _ h => h, fun j v _ _ _ _ h => RgT.keep hb6 h, trivial⟩
      · obtain rfl := Option.some.inj (show some _ = some o from ho)
        refine PI.shown_call rfl 13 fun a w5 L0 hr T => ?_
        obtain ⟨Aa, ca, ha0, hra⟩ := T.at_ 3 53 (by kernel_rfl) (by kernel_rfl) (by kernel_rfl)
        have ha0 : a.eval (.tmp 53) = .slice Aa k1 ca := ha0
        obtain ⟨Ab, cb, ha1, hrb⟩ := T.at_ 7 57 (by kernel_rfl) (by kernel_rfl) (by kernel_rfl)
        have ha1 : a.eval (.tmp 57) = .slice Ab k1 cb := ha1
        refine ⟨#[.slice Aa k1 ca, .slice Ab k1 cb], by simp only [execOp, resolve, List.map_toArray, List.map_cons, List.map_nil, ha0, ha1]; simp [go_sem, Act.eval], ?_⟩
        refine (samerows_same Aa Ab E1 k1 ca cb w5.heap.size w5 hmE1 hra hrb (Nat.le_refl _) hsE1).mono fun e w6 hh => ?_
        obtain ⟨rfl, hb6⟩ := hh
        exact ⟨_, rfl, hb6, rfl, fun _ _ h => h, fun j v _ _ _ _ h => RgT.keep hb6 h, trivial⟩
      · obtain rfl := Option.some.inj (show some _ = some o from ho)
        refine PI.shown_val rfl fun a w5 L0 hr T => ?_
        have ha1 : a.eval (.tmp 58) = .bool true := T.at_ 8 58 (by kernel_rfl) (by kernel_rfl) (by kernel_rfl)
        exact ⟨.bool true, w5, by simp only [execOp, ha1]; simp [go_sem], PI.Post.pure ⟨fun w => Below.refl _ w, fun _ _ _ h k => h.trans (k.mono h.size)⟩ rfl trivial⟩
      · obtain rfl := Option.some.inj (show some _ = some o from ho)
        refine PI.shown_val_if 9 59 true rfl (by kernel_rfl) (by kernel_rfl) (by kernel_rfl) (fun v w h => h) fun a w5 L0 hr T => ?_
        have ha1 : a.eval (.tmp 18) = .slice zA ln zc := T.was 18 (by kernel_rfl)
        exact ⟨.slice zA ln zc, w5, by simp only [execOp, ha1]; simp [go_sem], PI.Post.pure ⟨fun w => Below.refl _ w, fun _ _ _ h k => h.trans (k.mono h.size)⟩ rfl trivial⟩
      · obtain rfl := Option.some.inj (show some _ = some o from ho)
        refine PI.shown_val_if 9 59 true rfl (by kernel_rfl) (by kernel_rfl) (by kernel_rfl) (fun v w h => h) fun a w5 L0 hr T => ?_
        have ha1 : a.eval (.tmp 3) = .int .i64 sec := T.was 3 (by kernel_rfl)
        exact ⟨.int .i64 sec, w5, by simp only [execOp, ha1]; simp [go_sem], PI.Post.pure ⟨fun w => Below.refl _ w, fun _ _ _ h k => h.trans (k.mono h.size)⟩ rfl trivial⟩
      · obtain rfl := Option.some.inj (show some _ = some o from ho)
        refine PI.shown_val_if 9 59 true rfl (by kernel_rfl) (by kernel_rfl) (by kernel_rfl) (fun v w h => h) fun a w5 L0 hr T => ?_
        have ha1 : a.eval (.tmp 12) = .pointer (some ⟨base + 1, 0, none⟩) := T.was 12 (by kernel_rfl)
        have zz0 : w5.cell? ⟨base + 1, 0, none⟩ = some (.int .i64 h0) := (hr.cell (p := ⟨base + 1, 0, none⟩) hbs1).trans (cell_of_row _ _ 0 _ _ (0, 0) hz1.out)
        have zz1 : w5.cell? ⟨base + 1, 1, none⟩ = some (.int .i64 h1) := (hr.cell (p := ⟨base + 1, 1, none⟩) hbs1).trans (cell_of_row _ _ 1 _ _ (0, 0) hz1.out)
        have zz2 : w5.cell? ⟨base + 1, 2, none⟩ = some (.int .i64 h2) := (hr.cell (p := ⟨base + 1, 2, none⟩) hbs1).trans (cell_of_row _ _ 2 _ _ (0, 0) hz1.out)
        exact ⟨.agg #[.int .i64 h0, .int .i64 h1, .int .i64 h2], w5, by simp only [execOp, ha1]; simp [go_sem, zz0, zz1, zz2], PI.Post.pure ⟨fun w => Below.refl _ w, fun _ _ _ h k => h.trans (k.mono h.size)⟩ rfl trivial⟩
      · obtain rfl := Option.some.inj (show some _ = some o from ho)
        refine PI.shown_call_if 9 59 true rfl (by kernel_rfl) (by kernel_rfl) (by kernel_rfl) (fun v w h => h) 16 fun a w5 L0 hr T => ?_
        have ha0 : a.eval (.tmp 60) = .slice zA ln zc := T.at_ 10 60 (by kernel_rfl) (by kernel_rfl) (by kernel_rfl)
        have ha1 : a.eval (.tmp 61) = .int .i64 sec := T.at_ 11 61 (by kernel_rfl) (by kernel_rfl) (by kernel_rfl)
        have ha2 : a.eval (.tmp 62) = .agg #[.int .i64 h0, .int .i64 h1, .int .i64 h2] := T.at_ 12 62 (by kernel_rfl) (by kernel_rfl) (by kernel_rfl)
        refine ⟨#[.slice zA ln zc, .int .i64 sec, .agg #[.int .i64 h0, .int .i64 h1, .int .i64 h2]], by simp only [execOp, resolve, List.map_toArray, List.map_cons, List.map_nil, ha0, ha1, ha2]; simp [go_sem, Act.eval], ?_⟩
        refine (CC w5 hr).mono fun e w6 hh => ?_
        obtain ⟨A, c, rfl, ho, hb6⟩ := hh
        exact ⟨_, rfl, hb6, ⟨A, c, rfl, Rd.of_own ho⟩, fun _ _ h => h, fun j v _ _ _ _ h => RgT.keep hb6 h, trivial⟩
      · obtain rfl := Option.some.inj (show some _ = some o from ho)
        refine PI.shown_val_if 9 59 true rfl (by kernel_rfl) (by kernel_rfl) (by kernel_rfl) (fun v w h => h) fun a w5 L0 hr T => ?_
        have ha1 : a.eval (.tmp 0) = .slice lA ln lc := T.was 0 (by kernel_rfl)
        exact ⟨.slice lA ln lc, w5, by simp only [execOp, ha1]; simp [go_sem], PI.Post.pure ⟨fun w => Below.refl _ w, fun _ _ _ h k => h.trans (k.mono h.size)⟩ rfl trivial⟩
      · obtain rfl := Option.some.inj (show some _ = some o from ho)
        refine PI.shown_val_if 9 59 true rfl (by kernel_rfl) (by kernel_rfl) (by kernel_rfl) (fun v w h => h) fun a w5 L0 hr T => ?_
        have ha1 : a.eval (.tmp 3) = .int .i64 sec := T.was 3 (by kernel_rfl)
        exact ⟨.int .i64 sec, w5, by simp only [execOp, ha1]; simp [go_sem], PI.Post.pure ⟨fun w => Below.refl _ w, fun _ _ _ h k => h.trans (k.mono h.size)⟩ rfl trivial⟩
      · obtain rfl := Option.some.inj (show some _ = some o from ho)
        refine PI.shown_val_if 9 59 true rfl (by kernel_rfl) (by kernel_rfl) (by kernel_rfl) (fun v w h => h) fun a w5 L0 hr T => ?_
        have ha1 : a.eval (.tmp 12) = .pointer (some ⟨base + 1, 0, none⟩) := T.was 12 (by kernel_rfl)
        have zz0 : w5.cell? ⟨base + 1, 0, none⟩ = some (.int .i64 h0) := (hr.cell (p := ⟨base + 1, 0, none⟩) hbs1).trans (cell_of_row _ _ 0 _ _ (0, 0) hz1.out)
        have zz1 : w5.cell? ⟨base + 1, 1, none⟩ = some (.int .i64 h1) := (hr.cell (p := ⟨base + 1, 1, none⟩) hbs1).trans (cell_of_row _ _ 1 _ _ (0, 0) hz1.out)
        have zz2 : w5.cell? ⟨base + 1, 2, none⟩ = some (.int .i64 h2) := (hr.cell (p := ⟨base + 1, 2, none⟩) hbs1).trans (cell_of_row _ _ 2 _ _ (0, 0) hz1.out)
        exact ⟨.agg #[.int .i64 h0, .int .i64 h1, .int .i64 h2], w5, by simp only [execOp, ha1]; simp [go_sem, zz0, zz1, zz2], PI.Post.pure ⟨fun w => Below.refl _ w, fun _ _ _ h k => h.trans (k.mono h.size)⟩ rfl trivial⟩
      · obtain rfl := Option.some.inj (show some _ = some o from ho)
        refine PI.shown_call_if 9 59 true rfl (by kernel_rfl) (by kernel_rfl) (by kernel_rfl) (fun v w h => h) 17 fun a w5 L0 hr T => ?_
        have ha0 : a.eval (.tmp 64) = .slice lA ln lc := T.at_ 14 64 (by kernel_rfl) (by kernel_rfl) (by kernel_rfl)
        have ha1 : a.eval (.tmp 65) = .int .i64 sec := T.at_ 15 65 (by kernel_rfl) (by kernel_rfl) (by kernel_rfl)
        have ha2 : a.eval (.tmp 66) = .agg #[.int .i64 h0, .int .i64 h1, .int .i64 h2] := T.at_ 16 66 (by kernel_rfl) (by kernel_rfl) (by kernel_rfl)
        refine ⟨#[.slice lA ln lc, .int .i64 sec, .agg #[.int .i64 h0, .int .i64 h1, .int .i64 h2]], by simp only [execOp, resolve, List.map_toArray, List.map_cons, List.map_nil, ha0, ha1, ha2]; simp [go_sem, Act.eval], ?_⟩
        refine (CD w5 hr).mono fun e w6 hh => ?_
        obtain ⟨A, c, rfl, ho, hb6⟩ := hh
        exact ⟨_, rfl, hb6, ⟨A, c, rfl, Rd.of_own ho⟩, fun _ _ h => h, fun j v _ _ _ _ h => RgT.keep hb6 h, trivial⟩
      · obtain rfl := Option.some.inj (show some _ = some o from ho)
        refine PI.shown_call_if 9 59 true rfl (by kernel_rfl) (by kernel_rfl) (by kernel_rfl) (fun v w h => h) 13 fun a w5 L0 hr T => ?_
        obtain ⟨Aa, ca, ha0, hra⟩ := T.at_ 13 63 (by kernel_rfl) (by kernel_rfl) (by kernel_rfl)
        have ha0 : a.eval (.tmp 63) = .slice Aa k2 ca := ha0
        obtain ⟨Ab, cb, ha1, hrb⟩ := T.at_ 17 67 (by kernel_rfl) (by kernel_rfl) (by kernel_rfl)
        have ha1 : a.eval (.tmp 67) = .slice Ab k2 cb := ha1
        refine ⟨#[.slice Aa k2 ca, .slice Ab k2 cb], by simp only [execOp, resolve, List.map_toArray, List.map_cons, List.map_nil, ha0, ha1]; simp [go_sem, Act.eval], ?_⟩
        refine (samerows_same Aa Ab E2 k2 ca cb w5.heap.size w5 hmE2 hra hrb (Nat.le_refl _) hsE2).mono fun e w6 hh => ?_
        obtain ⟨rfl, hb6⟩ := hh
        exact ⟨_, rfl, hb6, rfl, fun _ _ h => h, fun j v _ _ _ _ h => RgT.keep hb6 h, trivial⟩
      · obtain rfl := Option.some.inj (show some _ = some o from ho)
        refine PI.shown_val rfl fun a w5 L0 hr T => ?_
        have ha0 : a.eval (.tmp 59) = .bool true := T.at_ 9 59 (by kernel_rfl) (by kernel_rfl) (by kernel_rfl)
        have ha1 : a.eval (.tmp 68) = .bool true := T.at_ 18 68 (by kernel_rfl) (by kernel_rfl) (by kernel_rfl)
        exact ⟨.bool true, w5, by simp only [execOp, ha0, ha1]; simp [go_sem, Act.eval], PI.Post.pure ⟨fun w => Below.refl _ w, fun _ _ _ h k => h.trans (k.mono h.size)⟩ rfl trivial⟩
      · obtain rfl := Option.some.inj (show some _ = some o from ho)
        refine PI.shown_val rfl fun a w5 L0 hr T => ?_
        have ha1 : a.eval (.tmp 69) = .bool true := T.at_ 19 69 (by kernel_rfl) (by kernel_rfl) (by kernel_rfl)
        exact ⟨.bool true, w5, by simp only [execOp, ha1]; simp [go_sem], PI.Post.pure ⟨fun w => Below.refl _ w, fun _ _ _ h k => h.trans (k.mono h.size)⟩ rfl trivial⟩
      · obtain rfl := Option.some.inj (show some _ = some o from ho)
        refine PI.shown_val_if 20 70 true rfl (by kernel_rfl) (by kernel_rfl) (by kernel_rfl) (fun v w h => h) fun a w5 L0 hr T => ?_
        have ha1 : a.eval (.tmp 18) = .slice zA ln zc := T.was 18 (by kernel_rfl)
        exact ⟨.slice zA ln zc, w5, by simp only [execOp, ha1]; simp [go_sem], PI.Post.pure ⟨fun w => Below.refl _ w, fun _ _ _ h k => h.trans (k.mono h.size)⟩ rfl trivial⟩
      · obtain rfl := Option.some.inj (show some _ = some o from ho)
        refine PI.shown_val_if 20 70 true rfl (by kernel_rfl) (by kernel_rfl) (by kernel_rfl) (fun v w h => h) fun a w5 L0 hr T => ?_
        have ha1 : a.eval (.tmp 5) = .string fsv := T.was 5 (by kernel_rfl)
        exact ⟨.string fsv, w5, by simp only [execOp, ha1]; simp [go_sem], PI.Post.pure ⟨fun w => Below.refl _ w, fun _ _ _ h k => h.trans (k.mono h.size)⟩ rfl trivial⟩
      · obtain rfl := Option.some.inj (show some _ = some o from ho)
        refine PI.shown_val_if 20 70 true rfl (by kernel_rfl) (by kernel_rfl) (by kernel_rfl) (fun v w h => h) fun a w5 L0 hr T => ?_
        have ha1 : a.eval (.tmp 6) = .string fop := T.was 6 (by kernel_rfl)
        exact ⟨.string fop, w5, by simp only [execOp, ha1]; simp [go_sem], PI.Post.pure ⟨fun w => Below.refl _ w, fun _ _ _ h k => h.trans (k.mono h.size)⟩ rfl trivial⟩
      · obtain rfl := Option.some.inj (show some _ = some o from ho)
        refine PI.shown_val_if 20 70 true rfl (by kernel_rfl) (by kernel_rfl) (by kernel_rfl) (fun v w h => h) fun a w5 L0 hr T => ?_
        have ha1 : a.eval (.tmp 7) = .int .i64 flv := T.was 7 (by kernel_rfl)
        exact ⟨.int .i64 flv, w5, by simp only [execOp, ha1]; simp [go_sem], PI.Post.pure ⟨fun w => Below.refl _ w, fun _ _ _ h k => h.trans (k.mono h.size)⟩ rfl trivial⟩
      · obtain rfl := Option.some.inj (show some _ = some o from ho)
        refine PI.shown_call_if 20 70 true rfl (by kernel_rfl) (by kernel_rfl) (by kernel_rfl) (fun v w h => h) 18 fun a w5 L0 hr T => ?_
        have ha0 : a.eval (.tmp 71) = .slice zA ln zc := T.at_ 21 71 (by kernel_rfl) (by kernel_rfl) (by kernel_rfl)
        have ha1 : a.eval (.tmp 72) = .string fsv := T.at_ 22 72 (by kernel_rfl) (by kernel_rfl) (by kernel_rfl)
        have ha2 : a.eval (.tmp 73) = .string fop := T.at_ 23 73 (by kernel_rfl) (by kernel_rfl) (by kernel_rfl)
        have ha3 : a.eval (.tmp 74) = .int .i64 flv := T.at_ 24 74 (by kernel_rfl) (by kernel_rfl) (by kernel_rfl)
        refine ⟨#[.slice zA ln zc, .string fsv, .string fop, .int .i64 flv], by simp only [execOp, resolve, List.map_toArray, List.map_cons, List.map_nil, ha0, ha1, ha2, ha3]; simp [go_sem, Act.eval], ?_⟩
        refine (CE w5 hr).mono fun e w6 hh => ?_
        obtain ⟨A, c, rfl, ho, hb6⟩ := hh
        exact ⟨_, rfl, hb6, ⟨A, c, rfl, Rd.of_own ho⟩, fun _ _ h => h, fun j v _ _ _ _ h => RgT.keep hb6 h, trivial⟩
      · obtain rfl := Option.some.inj (show some _ = some o from ho)
        refine PI.shown_val_if 20 70 true rfl (by kernel_rfl) (by kernel_rfl) (by kernel_rfl) (fun v w h => h) fun a w5 L0 hr T => ?_
        have ha1 : a.eval (.tmp 0) = .slice lA ln lc := T.was 0 (by kernel_rfl)
        exact ⟨.slice lA ln lc, w5, by simp only [execOp, ha1]; simp [go_sem], PI.Post.pure ⟨fun w => Below.refl _ w, fun _ _ _ h k => h.trans (k.mono h.size)⟩ rfl trivial⟩
      · obtain rfl := Option.some.inj (show some _ = some o from ho)
        refine PI.shown_val_if 20 70 true rfl (by kernel_rfl) (by kernel_rfl) (by kernel_rfl) (fun v w h => h) fun a w5 L0 hr T => ?_
        have ha1 : a.eval (.tmp 5) = .string fsv := T.was 5 (by kernel_rfl)
        exact ⟨.string fsv, w5, by simp only [execOp, ha1]; simp [go_sem], PI.Post.pure ⟨fun w => Below.refl _ w, fun _ _ _ h k => h.trans (k.mono h.size)⟩ rfl trivial⟩
      · obtain rfl := Option.some.inj (show some _ = some o from ho)
        refine PI.shown_val_if 20 70 true rfl (by kernel_rfl) (by kernel_rfl) (by kernel_rfl) (fun v w h => h) fun a w5 L0 hr T => ?_
        have ha1 : a.eval (.tmp 6) = .string fop := T.was 6 (by kernel_rfl)
        exact ⟨.string fop, w5, by simp only [execOp, ha1]; simp [go_sem], PI.Post.pure ⟨fun w => Below.refl _ w, fun _ _ _ h k => h.trans (k.mono h.size)⟩ rfl trivial⟩
      · obtain rfl := Option.some.inj (show some _ = some o from ho)
        refine PI.shown_val_if 20 70 true rfl (by kernel_rfl) (by kernel_rfl) (by kernel_rfl) (fun v w h => h) fun a w5 L0 hr T => ?_
        have ha1 : a.eval (.tmp 7) = .int .i64 flv := T.was 7 (by kernel_rfl)
        exact ⟨.int .i64 flv, w5, by simp only [execOp, ha1]; simp [go_sem], PI.Post.pure ⟨fun w => Below.refl _ w, fun _ _ _ h k => h.trans (k.mono h.size)⟩ rfl trivial⟩
      · obtain rfl := Option.some.inj (show some _ = some o from ho)
        refine PI.shown_call_if 20 70 true rfl (by kernel_rfl) (by kernel_rfl) (by kernel_rfl) (fun v w h => h) 19 fun a w5 L0 hr T => ?_
        have ha0 : a.eval (.tmp 76) = .slice lA ln lc := T.at_ 26 76 (by kernel_rfl) (by kernel_rfl) (by kernel_rfl)
        have ha1 : a.eval (.tmp 77) = .string fsv := T.at_ 27 77 (by kernel_rfl) (by kernel_rfl) (by kernel_rfl)
        have ha2 : a.eval (.tmp 78) = .string fop := T.at_ 28 78 (by kernel_rfl) (by kernel_rfl) (by kernel_rfl)
        have ha3 : a.eval (.tmp 79) = .int .i64 flv := T.at_ 29 79 (by kernel_rfl) (by kernel_rfl) (by kernel_rfl)
        refine ⟨#[.slice lA ln lc, .string fsv, .string fop, .int .i64 flv], by simp only [execOp, resolve, List.map_toArray, List.map_cons, List.map_nil, ha0, ha1, ha2, ha3]; simp [go_sem, Act.eval], ?_⟩
        refine (CF w5 hr).mono fun e w6 hh => ?_
        obtain ⟨A, c, rfl, ho, hb6⟩ := hh
        exact ⟨_, rfl, hb6, ⟨A, c, rfl, Rd.of_own ho⟩, fun _ _ h => h, fun j v _ _ _ _ h => RgT.keep hb6 h, trivial⟩
      · obtain rfl := Option.some.inj (show some _ = some o from ho)
        refine PI.shown_call_if 20 70 true rfl (by kernel_rfl) (by kernel_rfl) (by kernel_rfl) (fun v w h => h) 13 fun a w5 L0 hr T => ?_
        obtain ⟨Aa, ca, ha0, hra⟩ := T.at_ 25 75 (by kernel_rfl) (by kernel_rfl) (by kernel_rfl)
        have ha0 : a.eval (.tmp 75) = .slice Aa k3 ca := ha0
        obtain ⟨Ab, cb, ha1, hrb⟩ := T.at_ 30 80 (by kernel_rfl) (by kernel_rfl) (by kernel_rfl)
        have ha1 : a.eval (.tmp 80) = .slice Ab k3 cb := ha1
        refine ⟨#[.slice Aa k3 ca, .slice Ab k3 cb], by simp only [execOp, resolve, List.map_toArray, List.map_cons, List.map_nil, ha0, ha1]; simp [go_sem, Act.eval], ?_⟩
        refine (samerows_same Aa Ab E3 k3 ca cb w5.heap.size w5 hmE3 hra hrb (Nat.le_refl _) hsE3).mono fun e w6 hh => ?_
        obtain ⟨rfl, hb6⟩ := hh
        exact ⟨_, rfl, hb6, rfl, fun _ _ h => h, fun j v _ _ _ _ h => RgT.keep hb6 h, trivial⟩
      · obtain rfl := Option.some.inj (show some _ = some o from ho)
        refine PI.shown_val rfl fun a w5 L0 hr T => ?_
        have ha0 : a.eval (.tmp 70) = .bool true := T.at_ 20 70 (by kernel_rfl) (by kernel_rfl) (by kernel_rfl)
        have ha1 : a.eval (.tmp 81) = .bool true := T.at_ 31 81 (by kernel_rfl) (by kernel_rfl) (by kernel_rfl)
        exact ⟨.bool true, w5, by simp only [execOp, ha0, ha1]; simp [go_sem, Act.eval], PI.Post.pure ⟨fun w => Below.refl _ w, fun _ _ _ h k => h.trans (k.mono h.size)⟩ rfl trivial⟩
      · obtain rfl := Option.some.inj (show some _ = some o from ho)
        refine PI.shown_val rfl fun a w5 L0 hr T => ?_
        have ha1 : a.eval (.tmp 82) = .bool true := T.at_ 32 82 (by kernel_rfl) (by kernel_rfl) (by kernel_rfl)
        exact ⟨.bool true, w5, by simp only [execOp, ha1]; simp [go_sem], PI.Post.pure ⟨fun w => Below.refl _ w, fun _ _ _ h k => h.trans (k.mono h.size)⟩ rfl trivial⟩
      · cases ho
    · rw [← hW]
      intro xx w11 hr hf he _
      have h33 := hf 33 _ 16 rfl rfl (by decide)
      have hx33 : xx 33 = .bool true := h33
      have HB11 := Lib.hid hr
      clear hf he hr h33
      simp only [PI.putAll, Act.put, List.setIfInBounds_toArray, List.set_cons_zero, List.set_cons_succ, Nat.zero_add, Nat.reduceAdd]
      rw [hx33]
      go_wp2_with fail
      go_ret
      exact ⟨rfl, (HC2.out W HBWW.out).trans (HB11.out.mono (by have := HC3.out W HBWW.out; omega))⟩
end Go.Proofs.YtkhhcnpmobgdgaaDoor
