/- A span more in a counter, as the document has it. -/
import Derived.Test.YtkhhcnpmobgdgaaDoorAdd8
import Derived.Test.YtkhhcnpmobgdgaaDoorRefj
namespace Go.Proofs.YtkhhcnpmobgdgaaDoor
open Go.RowKit

set_option maxHeartbeats 4000000 in
set_option maxRecDepth 100000 in
theorem addref_any (x : List Int) (th tl id pa : Int) (sv op : ByteArray) (st d : Int) (e : Bool) (aA : Option Addr) (an ac : Nat) (m : Int) (w : World) (hx : okC x) (hm0 : -9223372036854775808 ≤ m) (hm : m ≤ 9223372036854775807) :
    Calls Tryd.prog 34 #[.agg (Cv x), .agg #[.int .u64 th, .int .u64 tl, .int .u64 id, .int .u64 pa, .string sv, .string op, .int .i64 st, .int .i64 d, .bool e, .slice aA an ac], .int .i64 m] w fun en w' => en = .returned (.agg (Cv (joinC x (oneC (Bm.of d) e) m))) ∧ Below w.heap.size w w' := by
  have hk := Bm.of_le d
  obtain ⟨k, hkd⟩ : ∃ k, k = Bm.of d := ⟨_, rfl⟩
  rw [← hkd] at hk ⊢
  have OF := fun W => Lib.hid (ofref_any d W)
  rw [← hkd] at OF
  clear hkd
  have J0 := fun W => joinref_any x (oneC k e) m W hx (oneC_ok k e (by omega)) hm0 hm
  obtain ⟨x0, x1, x2, x3, x4, x5, x6, x7, x8, x9, hxx⟩ := Cv_ex x
  obtain ⟨z0, z1, z2, z3, z4, z5, z6, z7, z8, z9, hzz⟩ := Cv_ex (joinC x (oneC k e) m)
  rw [hxx] at J0 ⊢
  rw [hzz] at J0 ⊢
  have J := fun W => Lib.hid (J0 W)
  clear J0 hxx hzz hx
  have hk7 : k = 0 ∨ k = 1 ∨ k = 2 ∨ k = 3 ∨ k = 4 ∨ k = 5 ∨ k = 6 ∨ k = 7 := by omega
  clear hk
  rcases hk7 with rfl | rfl | rfl | rfl | rfl | rfl | rfl | rfl <;> cases e
  all_goals
    go_enter Tryd.func34, Tryd.ntmps34
    go_wp2_with (first
      | (go_at_call 61; refine (OF _).out.mono ?_; rintro en w0 ⟨rfl, hb0⟩; obtain ⟨hc0, hf0⟩ := bcell8 hb0; have hz0 : w.heap.size + 1 + 1 + 1 < w0.heap.size := (by have := hb0.size; simp at this; omega); have h03 := Lib.hid ((hb0.block (w.heap.size + 1 + 1) (by simp)).trans (third _ _ _ _ _)); have HB0 := Lib.hid ((four w _ _ _ _).trans (hb0.mono (four w _ _ _ _).size)); clear hb0)
      | (go_at_call 23; refine (J _).out.mono ?_; rintro en w1 ⟨rfl, hb1⟩; have hO := (hb1.block (w.heap.size + 1 + 1) (by simp; omega)).trans (by first | exact (Below.heap_setCell _ _ _ _ (by simp)).trans h03.out | exact (Below.heap_setCell _ _ _ _ (by simp)).trans ((Below.heap_setCell _ _ _ _ (by simp)).trans h03.out)); have HB : Hid (Below w.heap.size w w1) := (by first | exact (HB0.out.setCell (by simp; omega) _).trans (hb1.mono (HB0.out.setCell (by simp; omega) _).size) | exact ((HB0.out.setCell (by simp; omega) _).setCell (by simp; omega) _).trans (hb1.mono ((HB0.out.setCell (by simp; omega) _).setCell (by simp; omega) _).size)); clear hb1 hc0 hf0; have o0 : w1.cell? ⟨w.heap.size + 1 + 1, 0, none⟩ = some (.int .i64 0) := cell_of_row _ _ 0 _ 46 (0, 0) hO; have q0 : w1.frozen? ⟨w.heap.size + 1 + 1, 0, none⟩ = false := (by simp [World.frozen?, hO]); have o1 : w1.cell? ⟨w.heap.size + 1 + 1, 1, none⟩ = some (.int .i64 0) := cell_of_row _ _ 1 _ 46 (0, 0) hO; have q1 : w1.frozen? ⟨w.heap.size + 1 + 1, 1, none⟩ = false := (by simp [World.frozen?, hO]); have o2 : w1.cell? ⟨w.heap.size + 1 + 1, 2, none⟩ = some (.int .i64 0) := cell_of_row _ _ 2 _ 46 (0, 0) hO; have q2 : w1.frozen? ⟨w.heap.size + 1 + 1, 2, none⟩ = false := (by simp [World.frozen?, hO]); have o3 : w1.cell? ⟨w.heap.size + 1 + 1, 3, none⟩ = some (.int .i64 0) := cell_of_row _ _ 3 _ 46 (0, 0) hO; have q3 : w1.frozen? ⟨w.heap.size + 1 + 1, 3, none⟩ = false := (by simp [World.frozen?, hO]); have o4 : w1.cell? ⟨w.heap.size + 1 + 1, 4, none⟩ = some (.int .i64 0) := cell_of_row _ _ 4 _ 46 (0, 0) hO; have q4 : w1.frozen? ⟨w.heap.size + 1 + 1, 4, none⟩ = false := (by simp [World.frozen?, hO]); have o5 : w1.cell? ⟨w.heap.size + 1 + 1, 5, none⟩ = some (.int .i64 0) := cell_of_row _ _ 5 _ 46 (0, 0) hO; have q5 : w1.frozen? ⟨w.heap.size + 1 + 1, 5, none⟩ = false := (by simp [World.frozen?, hO]); have o6 : w1.cell? ⟨w.heap.size + 1 + 1, 6, none⟩ = some (.int .i64 0) := cell_of_row _ _ 6 _ 46 (0, 0) hO; have q6 : w1.frozen? ⟨w.heap.size + 1 + 1, 6, none⟩ = false := (by simp [World.frozen?, hO]); have o7 : w1.cell? ⟨w.heap.size + 1 + 1, 7, none⟩ = some (.int .i64 0) := cell_of_row _ _ 7 _ 46 (0, 0) hO; have q7 : w1.frozen? ⟨w.heap.size + 1 + 1, 7, none⟩ = false := (by simp [World.frozen?, hO]); have o8 : w1.cell? ⟨w.heap.size + 1 + 1, 8, none⟩ = some (.int .i64 0) := cell_of_row _ _ 8 _ 46 (0, 0) hO; have q8 : w1.frozen? ⟨w.heap.size + 1 + 1, 8, none⟩ = false := (by simp [World.frozen?, hO]); have o9 : w1.cell? ⟨w.heap.size + 1 + 1, 9, none⟩ = some (.int .i64 0) := cell_of_row _ _ 9 _ 46 (0, 0) hO; have q9 : w1.frozen? ⟨w.heap.size + 1 + 1, 9, none⟩ = false := (by simp [World.frozen?, hO]); clear hO))
    refine bodyPost_ret (v := .agg #[.int .i64 z0, .int .i64 z1, .int .i64 z2, .int .i64 z3, .int .i64 z4, .int .i64 z5, .int .i64 z6, .int .i64 z7, .int .i64 z8, .int .i64 z9]) (by simp [results, Tryd.results34, go_sem, o0, o1, o2, o3, o4, o5, o6, o7, o8, o9]) rfl ?_
    refine ⟨rfl, ?_⟩
    exact ((((((((((HB.out.setCell (by simp; omega) _).setCell (by simp; omega) _).setCell (by simp; omega) _).setCell (by simp; omega) _).setCell (by simp; omega) _).setCell (by simp; omega) _).setCell (by simp; omega) _).setCell (by simp; omega) _).setCell (by simp; omega) _).setCell (by simp; omega) _)
end Go.Proofs.YtkhhcnpmobgdgaaDoor
