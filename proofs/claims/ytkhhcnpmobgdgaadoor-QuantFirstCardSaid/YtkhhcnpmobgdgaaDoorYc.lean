/- rollup.order; where a row of a key stands, by halves; whether rows stand in order. -/
import Derived.Test.YtkhhcnpmobgdgaaDoorYb
import Derived.Test.YtkhhcnpmobgdgaaDoorZo
import Derived.StillTailTactics
import Derived.Shelf.SlSortCmp.QuietGrown
namespace Go.Proofs.YtkhhcnpmobgdgaaDoor
open Go.RowKit
set_option linter.unusedVariables false
set_option linter.unusedSimpArgs false
set_option maxRecDepth 100000

set_option maxHeartbeats 1000000 in
theorem cmpint_calls (x y : Int) (w : World) : Calls Tryd.prog 69 #[.int .i64 x, .int .i64 y] w fun e w' => e = .returned (.int .i64 (cmpI x y)) ∧ w' = w := by
  go_enter Tryd.func69, Tryd.ntmps69
  go_wp2
  all_goals (go_ret; refine ⟨?_, rfl⟩; unfold cmpI; (repeat' split) <;> first | rfl | (exfalso; omega))
set_option maxHeartbeats 4000000 in
theorem or4_calls (x0 x1 x2 x3 : Int) (g : Nat) (w : World) (h0 : w.cell? ⟨g, 0, none⟩ = some (.int .i64 x0)) (h1 : w.cell? ⟨g, 1, none⟩ = some (.int .i64 x1)) (h2 : w.cell? ⟨g, 2, none⟩ = some (.int .i64 x2)) (h3 : w.cell? ⟨g, 3, none⟩ = some (.int .i64 x3)) : Calls Tryd.prog 68 #[.slice (some ⟨g, 0, none⟩) 4 4] w fun e w' => e = .returned (.int .i64 (or2 x0 (or2 x1 (or2 x2 x3)))) ∧ w' = w := by
  have ha : ∀ k : Nat, (⟨g, 0, none⟩ : Addr).add k = ⟨g, k, none⟩ := fun k => by rw [Addr.add_lit, Nat.zero_add]
  go_enter Tryd.func68, Tryd.ntmps68
  go_wp2_with fail
  go_loop [8] (fun i => ∃ k : Nat, k ≤ 4 ∧ i = .int .i64 k ∧ (0 < k → x0 = 0) ∧ (1 < k → x1 = 0) ∧ (2 < k → x2 = 0) ∧ (3 < k → x3 = 0)) (fun i => 4 - (intOf i).toNat)
  case atStart => exact ⟨0, by omega, rfl, fun h => by omega, fun h => by omega, fun h => by omega, fun h => by omega⟩
  case round =>
    obtain ⟨k, hk, rfl, e0, e1, e2, e3⟩ := hrel
    by_cases c0 : k = 0
    · subst c0
      clear e0 e1 e2 e3
      by_cases cx : x0 = 0
      · subst cx
        go_wp2_with fail
        go_round
        case rel => exact ⟨1, by omega, by go_num, fun _ => by first | rfl | trivial, fun h => by omega, fun h => by omega, fun h => by omega⟩
        case measure => simp [intOf]
      · have d : (x0 == 0) = false := by simpa using cx
        have ho : Hid (or2 x0 (or2 x1 (or2 x2 x3)) = x0) := by unfold or2; show _ = _; rw [if_neg cx]
        clear cx
        go_wp2_with fail
        go_ret
        exact ⟨by rw [ho.out]; rfl, rfl⟩
    · have e0 := e0 (by omega)
      subst e0
      by_cases c1 : k = 1
      · subst c1
        clear e1 e2 e3
        by_cases cx : x1 = 0
        · subst cx
          go_wp2_with fail
          go_round
          case rel => exact ⟨2, by omega, by go_num, fun _ => by first | rfl | trivial, fun _ => by first | rfl | trivial, fun h => by omega, fun h => by omega⟩
          case measure => simp [intOf]
        · have d : (x1 == 0) = false := by simpa using cx
          have ho : Hid (or2 0 (or2 x1 (or2 x2 x3)) = x1) := by unfold or2; show _ = _; rw [if_pos rfl, if_neg cx]
          clear cx
          go_wp2_with fail
          go_ret
          exact ⟨by rw [ho.out]; rfl, rfl⟩
      · have e1 := e1 (by omega)
        subst e1
        by_cases c2 : k = 2
        · subst c2
          clear e2 e3
          by_cases cx : x2 = 0
          · subst cx
            go_wp2_with fail
            go_round
            case rel => exact ⟨3, by omega, by go_num, fun _ => by first | rfl | trivial, fun _ => by first | rfl | trivial, fun _ => by first | rfl | trivial, fun h => by omega⟩
            case measure => simp [intOf]
          · have d : (x2 == 0) = false := by simpa using cx
            have ho : Hid (or2 0 (or2 0 (or2 x2 x3)) = x2) := by unfold or2; show _ = _; rw [if_pos rfl, if_pos rfl, if_neg cx]
            clear cx
            go_wp2_with fail
            go_ret
            exact ⟨by rw [ho.out]; rfl, rfl⟩
        · have e2 := e2 (by omega)
          subst e2
          by_cases c3 : k = 3
          · subst c3
            clear e3
            by_cases cx : x3 = 0
            · subst cx
              go_wp2_with fail
              go_round
              case rel => exact ⟨4, by omega, by go_num, fun _ => by first | rfl | trivial, fun _ => by first | rfl | trivial, fun _ => by first | rfl | trivial, fun _ => by first | rfl | trivial⟩
              case measure => simp [intOf]
            · have d : (x3 == 0) = false := by simpa using cx
              have ho : Hid (or2 0 (or2 0 (or2 0 x3)) = x3) := by unfold or2; show _ = _; rw [if_pos rfl, if_pos rfl, if_pos rfl]
              clear cx
              go_wp2_with fail
              go_ret
              exact ⟨by rw [ho.out]; rfl, rfl⟩
          · have e3 := e3 (by omega)
            subst e3
            have c4 : k = 4 := by omega
            subst c4
            go_wp2_with fail
            go_ret
            exact ⟨rfl, rfl⟩
set_option maxHeartbeats 4000000 in
theorem rorder_lit (alv awi : Int) (asv aop : ByteArray) (a0 a1 a2 a3 a4 a5 a6 a7 a8 a9 : Int) (blv bwi : Int) (bsv bop : ByteArray) (b0 b1 b2 b3 b4 b5 b6 b7 b8 b9 : Int) (w : World) : Calls Tryd.prog 53 #[.agg #[.int .i64 alv, .int .i64 awi, .string asv, .string aop, .int .i64 a0, .int .i64 a1, .int .i64 a2, .int .i64 a3, .int .i64 a4, .int .i64 a5, .int .i64 a6, .int .i64 a7, .int .i64 a8, .int .i64 a9], .agg #[.int .i64 blv, .int .i64 bwi, .string bsv, .string bop, .int .i64 b0, .int .i64 b1, .int .i64 b2, .int .i64 b3, .int .i64 b4, .int .i64 b5, .int .i64 b6, .int .i64 b7, .int .i64 b8, .int .i64 b9]] w fun e w' => e = .returned (.int .i64 (ordK ⟨alv, awi, asv, aop⟩ ⟨blv, bwi, bsv, bop⟩)) ∧ Below w.heap.size w w' := by
  have HO := Lib.hid (show ordK ⟨alv, awi, asv, aop⟩ ⟨blv, bwi, bsv, bop⟩ = or2 (cmpI alv blv) (or2 (cmpI awi bwi) (or2 (cmpT asv bsv) (cmpT aop bop))) from rfl)
  generalize ordK ⟨alv, awi, asv, aop⟩ ⟨blv, bwi, bsv, bop⟩ = oo at *
  go_enter Tryd.func53, Tryd.ntmps53
  go_wp2_with fail
  have hB := ((Below.refl w.heap.size w).alloc (Nat.le_refl _) (.cells #[.int .i64 alv, .int .i64 awi, .string asv, .string aop, .int .i64 a0, .int .i64 a1, .int .i64 a2, .int .i64 a3, .int .i64 a4, .int .i64 a5, .int .i64 a6, .int .i64 a7, .int .i64 a8, .int .i64 a9] 48)).alloc (by simp) (.cells #[.int .i64 blv, .int .i64 bwi, .string bsv, .string bop, .int .i64 b0, .int .i64 b1, .int .i64 b2, .int .i64 b3, .int .i64 b4, .int .i64 b5, .int .i64 b6, .int .i64 b7, .int .i64 b8, .int .i64 b9] 48)
  have hz1 : (w.alloc (.cells #[.int .i64 alv, .int .i64 awi, .string asv, .string aop, .int .i64 a0, .int .i64 a1, .int .i64 a2, .int .i64 a3, .int .i64 a4, .int .i64 a5, .int .i64 a6, .int .i64 a7, .int .i64 a8, .int .i64 a9] 48)).heap.size = w.heap.size + 1 := by simp
  have hz2 : ((w.alloc (.cells #[.int .i64 alv, .int .i64 awi, .string asv, .string aop, .int .i64 a0, .int .i64 a1, .int .i64 a2, .int .i64 a3, .int .i64 a4, .int .i64 a5, .int .i64 a6, .int .i64 a7, .int .i64 a8, .int .i64 a9] 48)).alloc (.cells #[.int .i64 blv, .int .i64 bwi, .string bsv, .string bop, .int .i64 b0, .int .i64 b1, .int .i64 b2, .int .i64 b3, .int .i64 b4, .int .i64 b5, .int .i64 b6, .int .i64 b7, .int .i64 b8, .int .i64 b9] 48)).heap.size = w.heap.size + 2 := by simp
  have q0 := heap_alloc_new w (.cells #[.int .i64 alv, .int .i64 awi, .string asv, .string aop, .int .i64 a0, .int .i64 a1, .int .i64 a2, .int .i64 a3, .int .i64 a4, .int .i64 a5, .int .i64 a6, .int .i64 a7, .int .i64 a8, .int .i64 a9] 48)
  have q1 := heap_alloc_new (w.alloc (.cells #[.int .i64 alv, .int .i64 awi, .string asv, .string aop, .int .i64 a0, .int .i64 a1, .int .i64 a2, .int .i64 a3, .int .i64 a4, .int .i64 a5, .int .i64 a6, .int .i64 a7, .int .i64 a8, .int .i64 a9] 48)) (.cells #[.int .i64 blv, .int .i64 bwi, .string bsv, .string bop, .int .i64 b0, .int .i64 b1, .int .i64 b2, .int .i64 b3, .int .i64 b4, .int .i64 b5, .int .i64 b6, .int .i64 b7, .int .i64 b8, .int .i64 b9] 48)
  rw [hz1] at q1
  have xa0 : ((w.alloc (.cells #[.int .i64 alv, .int .i64 awi, .string asv, .string aop, .int .i64 a0, .int .i64 a1, .int .i64 a2, .int .i64 a3, .int .i64 a4, .int .i64 a5, .int .i64 a6, .int .i64 a7, .int .i64 a8, .int .i64 a9] 48)).alloc (.cells #[.int .i64 blv, .int .i64 bwi, .string bsv, .string bop, .int .i64 b0, .int .i64 b1, .int .i64 b2, .int .i64 b3, .int .i64 b4, .int .i64 b5, .int .i64 b6, .int .i64 b7, .int .i64 b8, .int .i64 b9] 48)).cell? ⟨w.heap.size, 0, none⟩ = some (.int .i64 alv) := (World.cell?_alloc_lt _ _ ⟨w.heap.size, 0, none⟩ (by simp)).trans (cell_of_row _ _ 0 _ _ (0, 0) q0)
  have xa1 : ((w.alloc (.cells #[.int .i64 alv, .int .i64 awi, .string asv, .string aop, .int .i64 a0, .int .i64 a1, .int .i64 a2, .int .i64 a3, .int .i64 a4, .int .i64 a5, .int .i64 a6, .int .i64 a7, .int .i64 a8, .int .i64 a9] 48)).alloc (.cells #[.int .i64 blv, .int .i64 bwi, .string bsv, .string bop, .int .i64 b0, .int .i64 b1, .int .i64 b2, .int .i64 b3, .int .i64 b4, .int .i64 b5, .int .i64 b6, .int .i64 b7, .int .i64 b8, .int .i64 b9] 48)).cell? ⟨w.heap.size, 1, none⟩ = some (.int .i64 awi) := (World.cell?_alloc_lt _ _ ⟨w.heap.size, 1, none⟩ (by simp)).trans (cell_of_row _ _ 1 _ _ (0, 0) q0)
  have xa2 : ((w.alloc (.cells #[.int .i64 alv, .int .i64 awi, .string asv, .string aop, .int .i64 a0, .int .i64 a1, .int .i64 a2, .int .i64 a3, .int .i64 a4, .int .i64 a5, .int .i64 a6, .int .i64 a7, .int .i64 a8, .int .i64 a9] 48)).alloc (.cells #[.int .i64 blv, .int .i64 bwi, .string bsv, .string bop, .int .i64 b0, .int .i64 b1, .int .i64 b2, .int .i64 b3, .int .i64 b4, .int .i64 b5, .int .i64 b6, .int .i64 b7, .int .i64 b8, .int .i64 b9] 48)).cell? ⟨w.heap.size, 2, none⟩ = some (.string asv) := (World.cell?_alloc_lt _ _ ⟨w.heap.size, 2, none⟩ (by simp)).trans (cell_of_row _ _ 2 _ _ (0, 0) q0)
  have xa3 : ((w.alloc (.cells #[.int .i64 alv, .int .i64 awi, .string asv, .string aop, .int .i64 a0, .int .i64 a1, .int .i64 a2, .int .i64 a3, .int .i64 a4, .int .i64 a5, .int .i64 a6, .int .i64 a7, .int .i64 a8, .int .i64 a9] 48)).alloc (.cells #[.int .i64 blv, .int .i64 bwi, .string bsv, .string bop, .int .i64 b0, .int .i64 b1, .int .i64 b2, .int .i64 b3, .int .i64 b4, .int .i64 b5, .int .i64 b6, .int .i64 b7, .int .i64 b8, .int .i64 b9] 48)).cell? ⟨w.heap.size, 3, none⟩ = some (.string aop) := (World.cell?_alloc_lt _ _ ⟨w.heap.size, 3, none⟩ (by simp)).trans (cell_of_row _ _ 3 _ _ (0, 0) q0)
  have xb0 : ((w.alloc (.cells #[.int .i64 alv, .int .i64 awi, .string asv, .string aop, .int .i64 a0, .int .i64 a1, .int .i64 a2, .int .i64 a3, .int .i64 a4, .int .i64 a5, .int .i64 a6, .int .i64 a7, .int .i64 a8, .int .i64 a9] 48)).alloc (.cells #[.int .i64 blv, .int .i64 bwi, .string bsv, .string bop, .int .i64 b0, .int .i64 b1, .int .i64 b2, .int .i64 b3, .int .i64 b4, .int .i64 b5, .int .i64 b6, .int .i64 b7, .int .i64 b8, .int .i64 b9] 48)).cell? ⟨w.heap.size + 1, 0, none⟩ = some (.int .i64 blv) := cell_of_row _ _ 0 _ _ (0, 0) q1
  have xb1 : ((w.alloc (.cells #[.int .i64 alv, .int .i64 awi, .string asv, .string aop, .int .i64 a0, .int .i64 a1, .int .i64 a2, .int .i64 a3, .int .i64 a4, .int .i64 a5, .int .i64 a6, .int .i64 a7, .int .i64 a8, .int .i64 a9] 48)).alloc (.cells #[.int .i64 blv, .int .i64 bwi, .string bsv, .string bop, .int .i64 b0, .int .i64 b1, .int .i64 b2, .int .i64 b3, .int .i64 b4, .int .i64 b5, .int .i64 b6, .int .i64 b7, .int .i64 b8, .int .i64 b9] 48)).cell? ⟨w.heap.size + 1, 1, none⟩ = some (.int .i64 bwi) := cell_of_row _ _ 1 _ _ (0, 0) q1
  have xb2 : ((w.alloc (.cells #[.int .i64 alv, .int .i64 awi, .string asv, .string aop, .int .i64 a0, .int .i64 a1, .int .i64 a2, .int .i64 a3, .int .i64 a4, .int .i64 a5, .int .i64 a6, .int .i64 a7, .int .i64 a8, .int .i64 a9] 48)).alloc (.cells #[.int .i64 blv, .int .i64 bwi, .string bsv, .string bop, .int .i64 b0, .int .i64 b1, .int .i64 b2, .int .i64 b3, .int .i64 b4, .int .i64 b5, .int .i64 b6, .int .i64 b7, .int .i64 b8, .int .i64 b9] 48)).cell? ⟨w.heap.size + 1, 2, none⟩ = some (.string bsv) := cell_of_row _ _ 2 _ _ (0, 0) q1
  have xb3 : ((w.alloc (.cells #[.int .i64 alv, .int .i64 awi, .string asv, .string aop, .int .i64 a0, .int .i64 a1, .int .i64 a2, .int .i64 a3, .int .i64 a4, .int .i64 a5, .int .i64 a6, .int .i64 a7, .int .i64 a8, .int .i64 a9] 48)).alloc (.cells #[.int .i64 blv, .int .i64 bwi, .string bsv, .string bop, .int .i64 b0, .int .i64 b1, .int .i64 b2, .int .i64 b3, .int .i64 b4, .int .i64 b5, .int .i64 b6, .int .i64 b7, .int .i64 b8, .int .i64 b9] 48)).cell? ⟨w.heap.size + 1, 3, none⟩ = some (.string bop) := cell_of_row _ _ 3 _ _ (0, 0) q1
  generalize ((w.alloc (.cells #[.int .i64 alv, .int .i64 awi, .string asv, .string aop, .int .i64 a0, .int .i64 a1, .int .i64 a2, .int .i64 a3, .int .i64 a4, .int .i64 a5, .int .i64 a6, .int .i64 a7, .int .i64 a8, .int .i64 a9] 48)).alloc (.cells #[.int .i64 blv, .int .i64 bwi, .string bsv, .string bop, .int .i64 b0, .int .i64 b1, .int .i64 b2, .int .i64 b3, .int .i64 b4, .int .i64 b5, .int .i64 b6, .int .i64 b7, .int .i64 b8, .int .i64 b9] 48)) = W at *
  have HB := Lib.hid hB
  have HZ := Lib.hid hz2
  clear hB hz1 hz2 q0 q1
  refine wp_region_still_tail 20 (by kernel_rfl) (by kernel_rfl) ?_
  simp only [List.take_succ_cons, List.take_zero, List.drop_succ_cons, List.drop_zero]
  still_step
  still_step
  still_step
  still_step
  still_call (cmpint_calls _ _ _)
  still_step
  still_step
  still_step
  still_step
  still_call (cmpint_calls _ _ _)
  still_step
  still_step
  still_step
  still_step
  still_call (compare_calls _ _ _)
  still_step
  still_step
  still_step
  still_step
  still_call (compare_calls _ _ _)
  try refine wpStill_nil ?_
  change wpList _ _ _ _ _ W.drew
  generalize hW2 : W.drew = W2
  have HB2 := Lib.hid (show Below w.heap.size w W2 ∧ w.heap.size ≤ W2.heap.size from by rw [← hW2]; exact ⟨⟨HB.out.os, HB.out.tape, HB.out.output, HB.out.size, HB.out.block⟩, by have := HB.out.size; exact this⟩)
  clear hW2 xa0 xa1 xa2 xa3 xb0 xb1 xb2 xb3
  have ORC := Lib.hid (or4_calls (cmpI alv blv) (cmpI awi bwi) (cmpT asv bsv) (cmpT aop bop) W2.heap.size _ (cell_of_row _ _ 0 _ 3 (0, 0) (heap_alloc_new W2 (.cells #[.int .i64 (cmpI alv blv), .int .i64 (cmpI awi bwi), .int .i64 (cmpT asv bsv), .int .i64 (cmpT aop bop)] 3))) (cell_of_row _ _ 1 _ _ (0, 0) (heap_alloc_new W2 _)) (cell_of_row _ _ 2 _ _ (0, 0) (heap_alloc_new W2 _)) (cell_of_row _ _ 3 _ _ (0, 0) (heap_alloc_new W2 _)))
  rw [← HO.out] at ORC
  clear HO
  go_wp2_with (go_at_call 68; (with_reducible refine ORC.out.mono ?_); rintro e w9 ⟨rfl, hw9⟩; subst w9)
  all_goals
    go_ret
    exact ⟨rfl, HB2.out.1.alloc HB2.out.2 _⟩
theorem rorder_calls (a b : Rw) (w : World) : Calls Tryd.prog 53 #[.agg a.cells.toArray, .agg b.cells.toArray] w fun e w' => e = .returned (.int .i64 (ordK a.k b.k)) ∧ Below w.heap.size w w' := by
  obtain ⟨⟨alv, awi, asv, aop⟩, act⟩ := a
  obtain ⟨⟨blv, bwi, bsv, bop⟩, bct⟩ := b
  exact rorder_lit _ _ _ _ _ _ _ _ _ _ _ _ _ _ _ _ _ _ _ _ _ _ _ _ _ _ _ _ w
end Go.Proofs.YtkhhcnpmobgdgaaDoor
