/- merge.Join of two blocks of one tier without episodes; chapter 19's example. -/
import Derived.Test.YtcnbbnjdgmlccaaJn
namespace Go.Proofs.Ytcnbbnjdgmlccaa
open Go.RowKit
set_option linter.unusedVariables false
set_option linter.unusedSimpArgs false
set_option maxRecDepth 100000

set_option maxHeartbeats 8000000 in
theorem join_none (an ab t bn bb nu : Int) (aA bA : Option Addr) (ac bc : Nat) (w : World) (ht : 0 ≤ t ∧ t ≤ 1000) : Calls Try.prog 14 #[.agg #[.int .i64 an, .int .i64 ab, .int .i64 t, .slice aA 0 ac], .agg #[.int .i64 bn, .int .i64 bb, .int .i64 t, .slice bA 0 bc], .int .i64 nu] w fun e w' => ∃ (bo : Int) (A' : Option Addr) (c' : Nat), e = .returned (.agg #[.int .i64 nu, .int .i64 bo, .int .i64 (t + 1), .slice A' 0 c']) ∧ Below w.heap.size w w' := by
  have hB := (((Below.refl w.heap.size w).alloc (Nat.le_refl _) (.cells #[.int .i64 an, .int .i64 ab, .int .i64 t, .slice aA 0 ac] 47)).alloc (by simp) (.cells #[.int .i64 bn, .int .i64 bb, .int .i64 t, .slice bA 0 bc] 47)).alloc (by simp; omega) (.cells #[.int .i64 0, .int .i64 0, .int .i64 0, .slice none 0 0] 47)
  have hz1 : (w.alloc (.cells #[.int .i64 an, .int .i64 ab, .int .i64 t, .slice aA 0 ac] 47)).heap.size = w.heap.size + 1 := by simp
  have hz2 : ((w.alloc (.cells #[.int .i64 an, .int .i64 ab, .int .i64 t, .slice aA 0 ac] 47)).alloc (.cells #[.int .i64 bn, .int .i64 bb, .int .i64 t, .slice bA 0 bc] 47)).heap.size = w.heap.size + 2 := by simp
  have hz3 : (((w.alloc (.cells #[.int .i64 an, .int .i64 ab, .int .i64 t, .slice aA 0 ac] 47)).alloc (.cells #[.int .i64 bn, .int .i64 bb, .int .i64 t, .slice bA 0 bc] 47)).alloc (.cells #[.int .i64 0, .int .i64 0, .int .i64 0, .slice none 0 0] 47)).heap.size = w.heap.size + 3 := by simp
  have p0 := heap_alloc_new w (.cells #[.int .i64 an, .int .i64 ab, .int .i64 t, .slice aA 0 ac] 47)
  have p1 := heap_alloc_new (w.alloc (.cells #[.int .i64 an, .int .i64 ab, .int .i64 t, .slice aA 0 ac] 47)) (.cells #[.int .i64 bn, .int .i64 bb, .int .i64 t, .slice bA 0 bc] 47)
  have q2 := heap_alloc_new ((w.alloc (.cells #[.int .i64 an, .int .i64 ab, .int .i64 t, .slice aA 0 ac] 47)).alloc (.cells #[.int .i64 bn, .int .i64 bb, .int .i64 t, .slice bA 0 bc] 47)) (.cells #[.int .i64 0, .int .i64 0, .int .i64 0, .slice none 0 0] 47)
  rw [hz1] at p1
  rw [hz2] at q2
  have q2 : (((w.alloc (.cells #[.int .i64 an, .int .i64 ab, .int .i64 t, .slice aA 0 ac] 47)).alloc (.cells #[.int .i64 bn, .int .i64 bb, .int .i64 t, .slice bA 0 bc] 47)).alloc (.cells #[.int .i64 0, .int .i64 0, .int .i64 0, .slice none 0 0] 47)).heap[w.heap.size + 1 + 1]? = some (.cells #[.int .i64 0, .int .i64 0, .int .i64 0, .slice none 0 0] 47 (0, 0)) := q2
  have q0 : (((w.alloc (.cells #[.int .i64 an, .int .i64 ab, .int .i64 t, .slice aA 0 ac] 47)).alloc (.cells #[.int .i64 bn, .int .i64 bb, .int .i64 t, .slice bA 0 bc] 47)).alloc (.cells #[.int .i64 0, .int .i64 0, .int .i64 0, .slice none 0 0] 47)).heap[w.heap.size]? = some (.cells #[.int .i64 an, .int .i64 ab, .int .i64 t, .slice aA 0 ac] 47 (0, 0)) := (Below.heap_alloc _ _ _ (by omega)).trans ((Below.heap_alloc _ _ _ (by omega)).trans p0)
  have q1 : (((w.alloc (.cells #[.int .i64 an, .int .i64 ab, .int .i64 t, .slice aA 0 ac] 47)).alloc (.cells #[.int .i64 bn, .int .i64 bb, .int .i64 t, .slice bA 0 bc] 47)).alloc (.cells #[.int .i64 0, .int .i64 0, .int .i64 0, .slice none 0 0] 47)).heap[w.heap.size + 1]? = some (.cells #[.int .i64 bn, .int .i64 bb, .int .i64 t, .slice bA 0 bc] 47 (0, 0)) := (Below.heap_alloc _ _ _ (by omega)).trans p1
  obtain ⟨W, hW⟩ : ∃ W, W = (((w.alloc (.cells #[.int .i64 an, .int .i64 ab, .int .i64 t, .slice aA 0 ac] 47)).alloc (.cells #[.int .i64 bn, .int .i64 bb, .int .i64 t, .slice bA 0 bc] 47)).alloc (.cells #[.int .i64 0, .int .i64 0, .int .i64 0, .slice none 0 0] 47)) := ⟨_, rfl⟩
  have HW := Lib.hid hW
  rw [← hW] at hB hz3 q0 q1 q2
  clear hW p0 p1 hz1 hz2
  have hw1 : IntKind.i64.wrap (t + 1) = t + 1 := by rw [IntKind.wrap_i64]; omega
  have hq4 := heap_alloc_new W (.cells #[.slice aA 0 ac, .slice bA 0 bc] 45)
  have CN := Lib.hid (concat_none W.heap.size aA bA ac bc (W.alloc (.cells #[.slice aA 0 ac, .slice bA 0 bc] 45)) (cell_of_row _ _ 0 _ _ (0, 0) hq4) (cell_of_row _ _ 1 _ _ (0, 0) hq4) (by simp))
  have MK := Lib.hid (fun (bo : Int) (A : Option Addr) (c : Nat) (V : World) => make_none nu bo (t + 1) A c V)
  have HBW := Lib.hid hB
  have HQ0 := Lib.hid q0
  have HQ1 := Lib.hid q1
  have HQ2 := Lib.hid q2
  have HZ := Lib.hid hz3
  have a1 : W.cell? ⟨w.heap.size, 1, none⟩ = some (.int .i64 ab) := cell_of_row _ _ 1 _ _ (0, 0) q0
  have a2 : W.cell? ⟨w.heap.size, 2, none⟩ = some (.int .i64 t) := cell_of_row _ _ 2 _ _ (0, 0) q0
  have a3 : W.cell? ⟨w.heap.size, 3, none⟩ = some (.slice aA 0 ac) := cell_of_row _ _ 3 _ _ (0, 0) q0
  have b1 : W.cell? ⟨w.heap.size + 1, 1, none⟩ = some (.int .i64 bb) := cell_of_row _ _ 1 _ _ (0, 0) q1
  have b2 : W.cell? ⟨w.heap.size + 1, 2, none⟩ = some (.int .i64 t) := cell_of_row _ _ 2 _ _ (0, 0) q1
  have b3 : W.cell? ⟨w.heap.size + 1, 3, none⟩ = some (.slice bA 0 bc) := cell_of_row _ _ 3 _ _ (0, 0) q1
  clear hB q0 q1 q2 hq4 hz3
  go_enter Try.func14, Try.ntmps14
  go_upto_region 1 with fail
  rw [← HW.out]
  go_upto_region 2 with (go_at_call 20; (with_reducible refine CN.out.mono ?_); rintro e w5 ⟨A5, c5, rfl, hb5⟩; have HB5 := Lib.hid (((Below.refl W.heap.size W).alloc (Nat.le_refl _) (.cells #[.slice aA 0 ac, .slice bA 0 bc] 45)).trans (hb5.mono (by simp))); clear hb5)
  clear a1 a2 a3 b1 b2 b3
  have q0 := (HB5.out.block _ (by have := HZ.out; omega)).trans HQ0.out
  have q1 := (HB5.out.block _ (by have := HZ.out; omega)).trans HQ1.out
  have a1 : w5.cell? ⟨w.heap.size, 1, none⟩ = some (.int .i64 ab) := cell_of_row _ _ 1 _ _ (0, 0) q0
  have a2 : w5.cell? ⟨w.heap.size, 2, none⟩ = some (.int .i64 t) := cell_of_row _ _ 2 _ _ (0, 0) q0
  have a3 : w5.cell? ⟨w.heap.size, 3, none⟩ = some (.slice aA 0 ac) := cell_of_row _ _ 3 _ _ (0, 0) q0
  have b1 : w5.cell? ⟨w.heap.size + 1, 1, none⟩ = some (.int .i64 bb) := cell_of_row _ _ 1 _ _ (0, 0) q1
  have b2 : w5.cell? ⟨w.heap.size + 1, 2, none⟩ = some (.int .i64 t) := cell_of_row _ _ 2 _ _ (0, 0) q1
  have b3 : w5.cell? ⟨w.heap.size + 1, 3, none⟩ = some (.slice bA 0 bc) := cell_of_row _ _ 3 _ _ (0, 0) q1
  have hz5 := HB5.out.size
  clear q0 q1
  go_wp2_with (go_at_call 21; (with_reducible refine (MK.out _ _ _ _).mono ?_); rintro e w6 ⟨A6, c6, rfl, hb6⟩; have HB6 := Lib.hid (HB5.out.trans (hb6.mono hz5)); have q2 := (HB6.out.block _ (by have := HZ.out; omega)).trans HQ2.out; have f0 : w6.frozen? ⟨w.heap.size + 1 + 1, 0, none⟩ = false := (by simp only [World.frozen?, q2]; rfl); have f1 : w6.frozen? ⟨w.heap.size + 1 + 1, 1, none⟩ = false := (by simp only [World.frozen?, q2]; rfl); have f2 : w6.frozen? ⟨w.heap.size + 1 + 1, 2, none⟩ = false := (by simp only [World.frozen?, q2]; rfl); have f3 : w6.frozen? ⟨w.heap.size + 1 + 1, 3, none⟩ = false := (by simp only [World.frozen?, q2]; rfl); have k0 : w6.cell? ⟨w.heap.size + 1 + 1, 0, none⟩ = some (.int .i64 0) := cell_of_row _ _ 0 _ _ (0, 0) q2; have k1 : w6.cell? ⟨w.heap.size + 1 + 1, 1, none⟩ = some (.int .i64 0) := cell_of_row _ _ 1 _ _ (0, 0) q2; have k2 : w6.cell? ⟨w.heap.size + 1 + 1, 2, none⟩ = some (.int .i64 0) := cell_of_row _ _ 2 _ _ (0, 0) q2; have k3 : w6.cell? ⟨w.heap.size + 1 + 1, 3, none⟩ = some (.slice none 0 0) := cell_of_row _ _ 3 _ _ (0, 0) q2; have HQ6 := Lib.hid q2; clear hb6 q2)
  · have FIN := Lib.hid (fun (bo : Int) => And.intro (four_set w6 (w.heap.size + 1 + 1) 47 _ _ _ _ (.int .i64 nu) (.int .i64 bo) (.int .i64 (t + 1)) (.slice A6 0 c6) HQ6.out) (four_below (B := w.heap.size) (Nat.le_add_right _ 2) (HBW.out.trans (HB6.out.mono HBW.out.size)) (.int .i64 nu) (.int .i64 bo) (.int .i64 (t + 1)) (.slice A6 0 c6)))
    obtain ⟨h4, hb4⟩ := FIN.out bb
    have z0 := cell_of_row _ _ 0 _ _ (0, 0) h4
    have z1 := cell_of_row _ _ 1 _ _ (0, 0) h4
    have z2 := cell_of_row _ _ 2 _ _ (0, 0) h4
    have z3 := cell_of_row _ _ 3 _ _ (0, 0) h4
    refine bodyPost_ret (v := .agg #[.int .i64 nu, .int .i64 bb, .int .i64 (t + 1), .slice A6 0 c6]) (by simp [results, Try.results14, go_sem, z0, z1, z2, z3]) rfl ?_
    first | exact ⟨bb, A6, c6, rfl, hb4⟩ | exact ⟨⟨bb, A6, c6, rfl⟩, hb4⟩
  · have FIN := Lib.hid (fun (bo : Int) => And.intro (four_set w6 (w.heap.size + 1 + 1) 47 _ _ _ _ (.int .i64 nu) (.int .i64 bo) (.int .i64 (t + 1)) (.slice A6 0 c6) HQ6.out) (four_below (B := w.heap.size) (Nat.le_add_right _ 2) (HBW.out.trans (HB6.out.mono HBW.out.size)) (.int .i64 nu) (.int .i64 bo) (.int .i64 (t + 1)) (.slice A6 0 c6)))
    obtain ⟨h4, hb4⟩ := FIN.out ab
    have z0 := cell_of_row _ _ 0 _ _ (0, 0) h4
    have z1 := cell_of_row _ _ 1 _ _ (0, 0) h4
    have z2 := cell_of_row _ _ 2 _ _ (0, 0) h4
    have z3 := cell_of_row _ _ 3 _ _ (0, 0) h4
    refine bodyPost_ret (v := .agg #[.int .i64 nu, .int .i64 ab, .int .i64 (t + 1), .slice A6 0 c6]) (by simp [results, Try.results14, go_sem, z0, z1, z2, z3]) rfl ?_
    first | exact ⟨ab, A6, c6, rfl, hb4⟩ | exact ⟨⟨ab, A6, c6, rfl⟩, hb4⟩
end Go.Proofs.Ytcnbbnjdgmlccaa
