/- block.Order: how one trace stands to another, and what it makes. -/
import Derived.Test.YtmldelgbmadegaaBra
import Derived.Sort.Grow
namespace Go.Proofs.Ytmldelgbmadegaa
open Go.RowKit
set_option linter.unusedVariables false
set_option linter.unusedSimpArgs false
set_option maxRecDepth 100000

set_option maxHeartbeats 4000000 in
theorem border_lit (a b c d : Int) (w : World) : Calls Try.prog 69 #[.agg #[.int .u64 a, .int .u64 b], .agg #[.int .u64 c, .int .u64 d]] w fun e w' => e = .returned (.int .i64 (ordT a b c d)) ∧ ∃ q os', w' = Sort.grow (w.drewN q) os' := by
  unfold ordT
  go_enter Try.func69, Try.ntmps69
  go_wp2_with fail
  have hz1 : (w.alloc (.cells #[.int .u64 a, .int .u64 b] 28)).heap.size = w.heap.size + 1 := by simp
  have q0 := heap_alloc_new w (.cells #[.int .u64 a, .int .u64 b] 28)
  have q1 := heap_alloc_new (w.alloc (.cells #[.int .u64 a, .int .u64 b] 28)) (.cells #[.int .u64 c, .int .u64 d] 28)
  rw [hz1] at q1
  have xa0 : ((w.alloc (.cells #[.int .u64 a, .int .u64 b] 28)).alloc (.cells #[.int .u64 c, .int .u64 d] 28)).cell? ⟨w.heap.size, 0, none⟩ = some (.int .u64 a) := (World.cell?_alloc_lt _ _ ⟨w.heap.size, 0, none⟩ (by simp)).trans (cell_of_row _ _ 0 _ _ (0, 0) q0)
  have xa1 : ((w.alloc (.cells #[.int .u64 a, .int .u64 b] 28)).alloc (.cells #[.int .u64 c, .int .u64 d] 28)).cell? ⟨w.heap.size, 1, none⟩ = some (.int .u64 b) := (World.cell?_alloc_lt _ _ ⟨w.heap.size, 1, none⟩ (by simp)).trans (cell_of_row _ _ 1 _ _ (0, 0) q0)
  have xb0 : ((w.alloc (.cells #[.int .u64 a, .int .u64 b] 28)).alloc (.cells #[.int .u64 c, .int .u64 d] 28)).cell? ⟨w.heap.size + 1, 0, none⟩ = some (.int .u64 c) := cell_of_row _ _ 0 _ _ (0, 0) q1
  have xb1 : ((w.alloc (.cells #[.int .u64 a, .int .u64 b] 28)).alloc (.cells #[.int .u64 c, .int .u64 d] 28)).cell? ⟨w.heap.size + 1, 1, none⟩ = some (.int .u64 d) := cell_of_row _ _ 1 _ _ (0, 0) q1
  have hWE : ((w.alloc (.cells #[.int .u64 a, .int .u64 b] 28)).alloc (.cells #[.int .u64 c, .int .u64 d] 28)) = Sort.grow w #[.cells #[.int .u64 a, .int .u64 b] 28, .cells #[.int .u64 c, .int .u64 d] 28] := by rw [Sort.alloc_eq_grow, Sort.alloc_eq_grow, Sort.grow_grow]; rfl
  generalize ((w.alloc (.cells #[.int .u64 a, .int .u64 b] 28)).alloc (.cells #[.int .u64 c, .int .u64 d] 28)) = W at *
  have HWE := Lib.hid hWE
  clear hWE hz1 q0 q1
  refine wp_region_still_tail 10 (by kernel_rfl) (by kernel_rfl) ?_
  simp only [List.take_succ_cons, List.take_zero, List.drop_succ_cons, List.drop_zero]
  still_step
  still_step
  still_step
  still_step
  still_call (cmpu_any _ _ _)
  still_step
  still_step
  still_step
  still_step
  still_call (cmpu_any _ _ _)
  try refine wpStill_nil ?_
  change wpList _ _ _ _ _ W.drew
  have HWD := Lib.hid (show W.drew = Sort.grow (w.drewN 1) #[.cells #[.int .u64 a, .int .u64 b] 28, .cells #[.int .u64 c, .int .u64 d] 28] from by rw [HWE.out]; rfl)
  generalize W.drew = W2 at *
  clear HWE xa0 xa1 xb0 xb1
  go_wp2_with (go_at_call 100; refine (or_calls (cmpI a c) (cmpI b d) _ _ (cell_of_row _ _ 0 _ _ (0, 0) (heap_alloc_new W2 _)) (cell_of_row _ _ 1 _ _ (0, 0) (heap_alloc_new W2 _))).mono ?_; rintro e w9 ⟨rfl, hw9⟩; subst w9)
  all_goals
    go_ret
    exact ⟨rfl, 1, _, by rw [HWD.out, Sort.alloc_eq_grow, Sort.grow_grow]⟩
def ordC (a b : Tc) : Int := ordT a.1 a.2 b.1 b.2
theorem border_calls (a b : Tc) (w : World) : Calls Try.prog 69 #[.agg (trC a).toArray, .agg (trC b).toArray] w fun e w' => e = .returned (.int .i64 (ordC a b)) ∧ ∃ q os', w' = Sort.grow (w.drewN q) os' := border_lit _ _ _ _ w
end Go.Proofs.Ytmldelgbmadegaa
