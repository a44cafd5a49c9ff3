/- Which bucket the code finds. -/
import Derived.Test.YtkhhcnpmobgdgaaDoorRows
import Derived.WalkKit
import Derived.WalkSpells
import Derived.WalkLawsBesides
import Derived.Lib.Hide
import Derived.Test.YtkhhcnpmobgdgaaDoorBm
namespace Go.Proofs.YtkhhcnpmobgdgaaDoor
open Go.RowKit

/-- The table of the bounds lies there. -/
def Bnds (w : World) : Prop := ∀ i, i < 7 → w.cell? ⟨4, i, none⟩ = some (.int .i64 (Bm.bnds.getD i 0))
theorem Bnds.drewN {w : World} (h : Bnds w) (k : Nat) : Bnds (w.drewN k) := by unfold Bnds at *; simpa using h
theorem Bnds.lt {w : World} (h : Bnds w) : 4 < w.heap.size := by
  rcases Nat.lt_or_ge 4 w.heap.size with h1 | h1
  · exact h1
  · have := h 0 (by decide)
    unfold World.cell? at this
    rw [Array.getElem?_eq_none h1] at this
    cases this
theorem Bnds.below {w w' : World} {B : Nat} (h : Bnds w) (hb : Below B w w') (hB : 4 < B) : Bnds w' := fun i hi => (hb.cell (p := ⟨_, i, none⟩) hB).trans (h i hi)
theorem Bnds.alloc {w : World} (h : Bnds w) (o : Obj) : Bnds (w.alloc o) := fun i hi => (World.cell?_alloc_lt w o ⟨_, i, none⟩ h.lt).trans (h i hi)

set_option maxHeartbeats 1000000 in
theorem of_any8 (d : Int) (w : World) (T : Bnds w) : Calls Tryd.prog 75 #[.int .i64 d] w fun e w' => e = .returned (.int .i64 (Bm.of d)) ∧ w = w' := by
  have c0 : w.cell? ⟨4, 0, none⟩ = some (.int .i64 1) := T 0 (by decide)
  have c1 : w.cell? ⟨4, 1, none⟩ = some (.int .i64 5) := T 1 (by decide)
  have c2 : w.cell? ⟨4, 2, none⟩ = some (.int .i64 10) := T 2 (by decide)
  have c3 : w.cell? ⟨4, 3, none⟩ = some (.int .i64 50) := T 3 (by decide)
  have c4 : w.cell? ⟨4, 4, none⟩ = some (.int .i64 100) := T 4 (by decide)
  have c5 : w.cell? ⟨4, 5, none⟩ = some (.int .i64 500) := T 5 (by decide)
  have c6 : w.cell? ⟨4, 6, none⟩ = some (.int .i64 1000) := T 6 (by decide)
  have i0 : ∀ W : World, (Instr.index 130 (.agg #[.int .i64 1, .int .i64 5, .int .i64 10, .int .i64 50, .int .i64 100, .int .i64 500, .int .i64 1000]) (.int .i64 0)).run Tryd.prog W = .ok (.int .i64 1) W := fun _ => by kernel_rfl
  have i1 : ∀ W : World, (Instr.index 130 (.agg #[.int .i64 1, .int .i64 5, .int .i64 10, .int .i64 50, .int .i64 100, .int .i64 500, .int .i64 1000]) (.int .i64 1)).run Tryd.prog W = .ok (.int .i64 5) W := fun _ => by kernel_rfl
  have i2 : ∀ W : World, (Instr.index 130 (.agg #[.int .i64 1, .int .i64 5, .int .i64 10, .int .i64 50, .int .i64 100, .int .i64 500, .int .i64 1000]) (.int .i64 2)).run Tryd.prog W = .ok (.int .i64 10) W := fun _ => by kernel_rfl
  have i3 : ∀ W : World, (Instr.index 130 (.agg #[.int .i64 1, .int .i64 5, .int .i64 10, .int .i64 50, .int .i64 100, .int .i64 500, .int .i64 1000]) (.int .i64 3)).run Tryd.prog W = .ok (.int .i64 50) W := fun _ => by kernel_rfl
  have i4 : ∀ W : World, (Instr.index 130 (.agg #[.int .i64 1, .int .i64 5, .int .i64 10, .int .i64 50, .int .i64 100, .int .i64 500, .int .i64 1000]) (.int .i64 4)).run Tryd.prog W = .ok (.int .i64 100) W := fun _ => by kernel_rfl
  have i5 : ∀ W : World, (Instr.index 130 (.agg #[.int .i64 1, .int .i64 5, .int .i64 10, .int .i64 50, .int .i64 100, .int .i64 500, .int .i64 1000]) (.int .i64 5)).run Tryd.prog W = .ok (.int .i64 500) W := fun _ => by kernel_rfl
  have i6 : ∀ W : World, (Instr.index 130 (.agg #[.int .i64 1, .int .i64 5, .int .i64 10, .int .i64 50, .int .i64 100, .int .i64 500, .int .i64 1000]) (.int .i64 6)).run Tryd.prog W = .ok (.int .i64 1000) W := fun _ => by kernel_rfl
  clear T
  go_enter Tryd.func75, Tryd.ntmps75
  go_wp2
  go_loop [3, 5, 7] (fun n _ i => ∃ k : Nat, k ≤ 7 ∧ i = .int .i64 k ∧ n = .int .i64 (Bm.cnt d k)) (fun _ _ i => 7 - (intOf i).toNat)
  case atStart => exact ⟨0, by omega, rfl, rfl⟩
  case round =>
    obtain ⟨k, hk, rfl, rfl⟩ := hrel
    by_cases h7 : k < 7
    · have hk7 : k = 0 ∨ k = 1 ∨ k = 2 ∨ k = 3 ∨ k = 4 ∨ k = 5 ∨ k = 6 := by omega
      clear c0 c1 c2 c3 c4 c5 c6 hk h7
      rcases hk7 with rfl | rfl | rfl | rfl | rfl | rfl | rfl
      · have hs := Bm.cnt_step d 0 (by decide)
        have hb := Bm.cnt_le d 0
        rw [show Bm.bnds.getD 0 0 = 1 from rfl] at hs
        have HS := Lib.hid hs
        clear hs i0 i1 i2 i3 i4 i5 i6
        have ik : ∀ W : World, (Instr.index 130 (.agg #[.int .i64 1, .int .i64 5, .int .i64 10, .int .i64 50, .int .i64 100, .int .i64 500, .int .i64 1000]) (.int .i64 0)).run Tryd.prog W = .ok (.int .i64 1) W := fun _ => by kernel_rfl
        by_cases hd : 1 ≤ d
        · have H2 : Hid (Bm.cnt d 1 = Bm.cnt d 0 + 1) := by rw [HS.out, if_pos hd]; rfl
          -- generalize Bm.cnt d 0 = c at *
          -- generalize Bm.cnt d 1 = c' at *
          go_wp2
          go_round
          case rel => exact ⟨1, by omega, rfl, by rw [H2.out]; rfl⟩
          case measure => simp [intOf]
        · have H2 : Hid (Bm.cnt d 1 = Bm.cnt d 0) := by rw [HS.out, if_neg hd]; rfl
          -- generalize Bm.cnt d 0 = c at *
          -- generalize Bm.cnt d 1 = c' at *
          go_wp2
          go_round
          case rel => exact ⟨1, by omega, rfl, by rw [H2.out]⟩
          case measure => simp [intOf]
      · have hs := Bm.cnt_step d 1 (by decide)
        have hb := Bm.cnt_le d 1
        rw [show Bm.bnds.getD 1 0 = 5 from rfl] at hs
        have HS := Lib.hid hs
        clear hs i0 i1 i2 i3 i4 i5 i6
        have ik : ∀ W : World, (Instr.index 130 (.agg #[.int .i64 1, .int .i64 5, .int .i64 10, .int .i64 50, .int .i64 100, .int .i64 500, .int .i64 1000]) (.int .i64 1)).run Tryd.prog W = .ok (.int .i64 5) W := fun _ => by kernel_rfl
        by_cases hd : 5 ≤ d
        · have H2 : Hid (Bm.cnt d 2 = Bm.cnt d 1 + 1) := by rw [HS.out, if_pos hd]; rfl
          -- generalize Bm.cnt d 1 = c at *
          -- generalize Bm.cnt d 2 = c' at *
          go_wp2
          go_round
          case rel => exact ⟨2, by omega, rfl, by rw [H2.out]; rfl⟩
          case measure => simp [intOf]
        · have H2 : Hid (Bm.cnt d 2 = Bm.cnt d 1) := by rw [HS.out, if_neg hd]; rfl
          -- generalize Bm.cnt d 1 = c at *
          -- generalize Bm.cnt d 2 = c' at *
          go_wp2
          go_round
          case rel => exact ⟨2, by omega, rfl, by rw [H2.out]⟩
          case measure => simp [intOf]
      · have hs := Bm.cnt_step d 2 (by decide)
        have hb := Bm.cnt_le d 2
        rw [show Bm.bnds.getD 2 0 = 10 from rfl] at hs
        have HS := Lib.hid hs
        clear hs i0 i1 i2 i3 i4 i5 i6
        have ik : ∀ W : World, (Instr.index 130 (.agg #[.int .i64 1, .int .i64 5, .int .i64 10, .int .i64 50, .int .i64 100, .int .i64 500, .int .i64 1000]) (.int .i64 2)).run Tryd.prog W = .ok (.int .i64 10) W := fun _ => by kernel_rfl
        by_cases hd : 10 ≤ d
        · have H2 : Hid (Bm.cnt d 3 = Bm.cnt d 2 + 1) := by rw [HS.out, if_pos hd]; rfl
          -- generalize Bm.cnt d 2 = c at *
          -- generalize Bm.cnt d 3 = c' at *
          go_wp2
          go_round
          case rel => exact ⟨3, by omega, rfl, by rw [H2.out]; rfl⟩
          case measure => simp [intOf]
        · have H2 : Hid (Bm.cnt d 3 = Bm.cnt d 2) := by rw [HS.out, if_neg hd]; rfl
          -- generalize Bm.cnt d 2 = c at *
          -- generalize Bm.cnt d 3 = c' at *
          go_wp2
          go_round
          case rel => exact ⟨3, by omega, rfl, by rw [H2.out]⟩
          case measure => simp [intOf]
      · have hs := Bm.cnt_step d 3 (by decide)
        have hb := Bm.cnt_le d 3
        rw [show Bm.bnds.getD 3 0 = 50 from rfl] at hs
        have HS := Lib.hid hs
        clear hs i0 i1 i2 i3 i4 i5 i6
        have ik : ∀ W : World, (Instr.index 130 (.agg #[.int .i64 1, .int .i64 5, .int .i64 10, .int .i64 50, .int .i64 100, .int .i64 500, .int .i64 1000]) (.int .i64 3)).run Tryd.prog W = .ok (.int .i64 50) W := fun _ => by kernel_rfl
        by_cases hd : 50 ≤ d
        · have H2 : Hid (Bm.cnt d 4 = Bm.cnt d 3 + 1) := by rw [HS.out, if_pos hd]; rfl
          -- generalize Bm.cnt d 3 = c at *
          -- generalize Bm.cnt d 4 = c' at *
          go_wp2
          go_round
          case rel => exact ⟨4, by omega, rfl, by rw [H2.out]; rfl⟩
          case measure => simp [intOf]
        · have H2 : Hid (Bm.cnt d 4 = Bm.cnt d 3) := by rw [HS.out, if_neg hd]; rfl
          -- generalize Bm.cnt d 3 = c at *
          -- generalize Bm.cnt d 4 = c' at *
          go_wp2
          go_round
          case rel => exact ⟨4, by omega, rfl, by rw [H2.out]⟩
          case measure => simp [intOf]
      · have hs := Bm.cnt_step d 4 (by decide)
        have hb := Bm.cnt_le d 4
        rw [show Bm.bnds.getD 4 0 = 100 from rfl] at hs
        have HS := Lib.hid hs
        clear hs i0 i1 i2 i3 i4 i5 i6
        have ik : ∀ W : World, (Instr.index 130 (.agg #[.int .i64 1, .int .i64 5, .int .i64 10, .int .i64 50, .int .i64 100, .int .i64 500, .int .i64 1000]) (.int .i64 4)).run Tryd.prog W = .ok (.int .i64 100) W := fun _ => by kernel_rfl
        by_cases hd : 100 ≤ d
        · have H2 : Hid (Bm.cnt d 5 = Bm.cnt d 4 + 1) := by rw [HS.out, if_pos hd]; rfl
          -- generalize Bm.cnt d 4 = c at *
          -- generalize Bm.cnt d 5 = c' at *
          go_wp2
          go_round
          case rel => exact ⟨5, by omega, rfl, by rw [H2.out]; rfl⟩
          case measure => simp [intOf]
        · have H2 : Hid (Bm.cnt d 5 = Bm.cnt d 4) := by rw [HS.out, if_neg hd]; rfl
          -- generalize Bm.cnt d 4 = c at *
          -- generalize Bm.cnt d 5 = c' at *
          go_wp2
          go_round
          case rel => exact ⟨5, by omega, rfl, by rw [H2.out]⟩
          case measure => simp [intOf]
      · have hs := Bm.cnt_step d 5 (by decide)
        have hb := Bm.cnt_le d 5
        rw [show Bm.bnds.getD 5 0 = 500 from rfl] at hs
        have HS := Lib.hid hs
        clear hs i0 i1 i2 i3 i4 i5 i6
        have ik : ∀ W : World, (Instr.index 130 (.agg #[.int .i64 1, .int .i64 5, .int .i64 10, .int .i64 50, .int .i64 100, .int .i64 500, .int .i64 1000]) (.int .i64 5)).run Tryd.prog W = .ok (.int .i64 500) W := fun _ => by kernel_rfl
        by_cases hd : 500 ≤ d
        · have H2 : Hid (Bm.cnt d 6 = Bm.cnt d 5 + 1) := by rw [HS.out, if_pos hd]; rfl
          -- generalize Bm.cnt d 5 = c at *
          -- generalize Bm.cnt d 6 = c' at *
          go_wp2
          go_round
          case rel => exact ⟨6, by omega, rfl, by rw [H2.out]; rfl⟩
          case measure => simp [intOf]
        · have H2 : Hid (Bm.cnt d 6 = Bm.cnt d 5) := by rw [HS.out, if_neg hd]; rfl
          -- generalize Bm.cnt d 5 = c at *
          -- generalize Bm.cnt d 6 = c' at *
          go_wp2
          go_round
          case rel => exact ⟨6, by omega, rfl, by rw [H2.out]⟩
          case measure => simp [intOf]
      · have hs := Bm.cnt_step d 6 (by decide)
        have hb := Bm.cnt_le d 6
        rw [show Bm.bnds.getD 6 0 = 1000 from rfl] at hs
        have HS := Lib.hid hs
        clear hs i0 i1 i2 i3 i4 i5 i6
        have ik : ∀ W : World, (Instr.index 130 (.agg #[.int .i64 1, .int .i64 5, .int .i64 10, .int .i64 50, .int .i64 100, .int .i64 500, .int .i64 1000]) (.int .i64 6)).run Tryd.prog W = .ok (.int .i64 1000) W := fun _ => by kernel_rfl
        by_cases hd : 1000 ≤ d
        · have H2 : Hid (Bm.cnt d 7 = Bm.cnt d 6 + 1) := by rw [HS.out, if_pos hd]; rfl
          -- generalize Bm.cnt d 6 = c at *
          -- generalize Bm.cnt d 7 = c' at *
          go_wp2
          go_round
          case rel => exact ⟨7, by omega, rfl, by rw [H2.out]; rfl⟩
          case measure => simp [intOf]
        · have H2 : Hid (Bm.cnt d 7 = Bm.cnt d 6) := by rw [HS.out, if_neg hd]; rfl
          -- generalize Bm.cnt d 6 = c at *
          -- generalize Bm.cnt d 7 = c' at *
          go_wp2
          go_round
          case rel => exact ⟨7, by omega, rfl, by rw [H2.out]⟩
          case measure => simp [intOf]
    · obtain rfl : k = 7 := by omega
      go_wp2
      go_ret
      exact ⟨rfl, rfl⟩
end Go.Proofs.YtkhhcnpmobgdgaaDoor
