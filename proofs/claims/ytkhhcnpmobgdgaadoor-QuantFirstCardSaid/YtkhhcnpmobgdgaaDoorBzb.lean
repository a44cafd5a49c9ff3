/- quant.order. -/
import Derived.Test.YtkhhcnpmobgdgaaDoorBza
import Derived.Test.YtkhhcnpmobgdgaaDoorYc
import Derived.Sort.Grow
namespace Go.Proofs.YtkhhcnpmobgdgaaDoor
open Go.RowKit
set_option linter.unusedVariables false
set_option linter.unusedSimpArgs false
set_option maxRecDepth 100000

set_option maxHeartbeats 4000000 in
theorem or3_calls (x0 x1 x2 : Int) (g : Nat) (w : World) (h0 : w.cell? ⟨g, 0, none⟩ = some (.int .i64 x0)) (h1 : w.cell? ⟨g, 1, none⟩ = some (.int .i64 x1)) (h2 : w.cell? ⟨g, 2, none⟩ = some (.int .i64 x2)) : Calls Tryd.prog 68 #[.slice (some ⟨g, 0, none⟩) 3 3] w fun e w' => e = .returned (.int .i64 (or2 x0 (or2 x1 x2))) ∧ w' = w := by
  have ha : ∀ k : Nat, (⟨g, 0, none⟩ : Addr).add k = ⟨g, k, none⟩ := fun k => by rw [Addr.add_lit, Nat.zero_add]
  go_enter Tryd.func68, Tryd.ntmps68
  go_wp2_with fail
  go_loop [8] (fun i => ∃ k : Nat, k ≤ 3 ∧ i = .int .i64 k ∧ (0 < k → x0 = 0) ∧ (1 < k → x1 = 0) ∧ (2 < k → x2 = 0)) (fun i => 3 - (intOf i).toNat)
  case atStart => exact ⟨0, by omega, rfl, fun h => by omega, fun h => by omega, fun h => by omega⟩
  case round =>
    obtain ⟨k, hk, rfl, e0, e1, e2⟩ := hrel
    by_cases c0 : k = 0
    · subst c0
      clear e0 e1 e2
      by_cases cx : x0 = 0
      · subst cx
        go_wp2_with fail
        go_round
        case rel => exact ⟨1, by omega, by go_num, fun _ => by first | rfl | trivial, fun h => by omega, fun h => by omega⟩
        case measure => simp [intOf]
      · have d : (x0 == 0) = false := by simpa using cx
        have ho : Hid (or2 x0 (or2 x1 x2) = x0) := by unfold or2; show _ = _; rw [if_neg cx]
        clear cx
        go_wp2_with fail
        go_ret
        exact ⟨by rw [ho.out]; rfl, rfl⟩
    · have e0 := e0 (by omega)
      subst e0
      by_cases c1 : k = 1
      · subst c1
        clear e1 e2
        by_cases cx : x1 = 0
        · subst cx
          go_wp2_with fail
          go_round
          case rel => exact ⟨2, by omega, by go_num, fun _ => by first | rfl | trivial, fun _ => by first | rfl | trivial, fun h => by omega⟩
          case measure => simp [intOf]
        · have d : (x1 == 0) = false := by simpa using cx
          have ho : Hid (or2 0 (or2 x1 x2) = x1) := by unfold or2; show _ = _; rw [if_pos rfl, if_neg cx]
          clear cx
          go_wp2_with fail
          go_ret
          exact ⟨by rw [ho.out]; rfl, rfl⟩
      · have e1 := e1 (by omega)
        subst e1
        by_cases c2 : k = 2
        · subst c2
          clear e2
          by_cases cx : x2 = 0
          · subst cx
            go_wp2_with fail
            go_round
            case rel => exact ⟨3, by omega, by go_num, fun _ => by first | rfl | trivial, fun _ => by first | rfl | trivial, fun _ => by first | rfl | trivial⟩
            case measure => simp [intOf]
          · have d : (x2 == 0) = false := by simpa using cx
            have ho : Hid (or2 0 (or2 0 x2) = x2) := by unfold or2; show _ = _; rw [if_pos rfl, if_pos rfl]
            clear cx
            go_wp2_with fail
            go_ret
            exact ⟨by rw [ho.out]; rfl, rfl⟩
        · have e2 := e2 (by omega)
          subst e2
          have c4 : k = 3 := by omega
          subst c4
          go_wp2_with fail
          go_ret
          exact ⟨rfl, rfl⟩
set_option maxHeartbeats 4000000 in
theorem qorder_lit (asv aop : ByteArray) (act aer : Int) (bsv bop : ByteArray) (bct ber : Int) (w : World) : Calls Tryd.prog 46 #[.agg #[.string asv, .string aop, .int .i64 act, .int .i64 aer], .agg #[.string bsv, .string bop, .int .i64 bct, .int .i64 ber]] w fun e w' => e = .returned (.int .i64 (ordB ⟨asv, aop, act, aer⟩ ⟨bsv, bop, bct, ber⟩)) ∧ ∃ q os', w' = Sort.grow (w.drewN q) os' := by
  have HO := Lib.hid (show ordB ⟨asv, aop, act, aer⟩ ⟨bsv, bop, bct, ber⟩ = or2 (cmpI bct act) (or2 (cmpT asv bsv) (cmpT aop bop)) from rfl)
  generalize ordB ⟨asv, aop, act, aer⟩ ⟨bsv, bop, bct, ber⟩ = oo at *
  go_enter Tryd.func46, Tryd.ntmps46
  go_wp2_with fail
  have hz1 : (w.alloc (.cells #[.string asv, .string aop, .int .i64 act, .int .i64 aer] 61)).heap.size = w.heap.size + 1 := by simp
  have q0 := heap_alloc_new w (.cells #[.string asv, .string aop, .int .i64 act, .int .i64 aer] 61)
  have q1 := heap_alloc_new (w.alloc (.cells #[.string asv, .string aop, .int .i64 act, .int .i64 aer] 61)) (.cells #[.string bsv, .string bop, .int .i64 bct, .int .i64 ber] 61)
  rw [hz1] at q1
  have xa0 : ((w.alloc (.cells #[.string asv, .string aop, .int .i64 act, .int .i64 aer] 61)).alloc (.cells #[.string bsv, .string bop, .int .i64 bct, .int .i64 ber] 61)).cell? ⟨w.heap.size, 0, none⟩ = some (.string asv) := (World.cell?_alloc_lt _ _ ⟨w.heap.size, 0, none⟩ (by simp)).trans (cell_of_row _ _ 0 _ _ (0, 0) q0)
  have xa1 : ((w.alloc (.cells #[.string asv, .string aop, .int .i64 act, .int .i64 aer] 61)).alloc (.cells #[.string bsv, .string bop, .int .i64 bct, .int .i64 ber] 61)).cell? ⟨w.heap.size, 1, none⟩ = some (.string aop) := (World.cell?_alloc_lt _ _ ⟨w.heap.size, 1, none⟩ (by simp)).trans (cell_of_row _ _ 1 _ _ (0, 0) q0)
  have xa2 : ((w.alloc (.cells #[.string asv, .string aop, .int .i64 act, .int .i64 aer] 61)).alloc (.cells #[.string bsv, .string bop, .int .i64 bct, .int .i64 ber] 61)).cell? ⟨w.heap.size, 2, none⟩ = some (.int .i64 act) := (World.cell?_alloc_lt _ _ ⟨w.heap.size, 2, none⟩ (by simp)).trans (cell_of_row _ _ 2 _ _ (0, 0) q0)
  have xb0 : ((w.alloc (.cells #[.string asv, .string aop, .int .i64 act, .int .i64 aer] 61)).alloc (.cells #[.string bsv, .string bop, .int .i64 bct, .int .i64 ber] 61)).cell? ⟨w.heap.size + 1, 0, none⟩ = some (.string bsv) := cell_of_row _ _ 0 _ _ (0, 0) q1
  have xb1 : ((w.alloc (.cells #[.string asv, .string aop, .int .i64 act, .int .i64 aer] 61)).alloc (.cells #[.string bsv, .string bop, .int .i64 bct, .int .i64 ber] 61)).cell? ⟨w.heap.size + 1, 1, none⟩ = some (.string bop) := cell_of_row _ _ 1 _ _ (0, 0) q1
  have xb2 : ((w.alloc (.cells #[.string asv, .string aop, .int .i64 act, .int .i64 aer] 61)).alloc (.cells #[.string bsv, .string bop, .int .i64 bct, .int .i64 ber] 61)).cell? ⟨w.heap.size + 1, 2, none⟩ = some (.int .i64 bct) := cell_of_row _ _ 2 _ _ (0, 0) q1
  have hWE : ((w.alloc (.cells #[.string asv, .string aop, .int .i64 act, .int .i64 aer] 61)).alloc (.cells #[.string bsv, .string bop, .int .i64 bct, .int .i64 ber] 61)) = Sort.grow w #[.cells #[.string asv, .string aop, .int .i64 act, .int .i64 aer] 61, .cells #[.string bsv, .string bop, .int .i64 bct, .int .i64 ber] 61] := by rw [Sort.alloc_eq_grow, Sort.alloc_eq_grow, Sort.grow_grow]; rfl
  generalize ((w.alloc (.cells #[.string asv, .string aop, .int .i64 act, .int .i64 aer] 61)).alloc (.cells #[.string bsv, .string bop, .int .i64 bct, .int .i64 ber] 61)) = W at *
  have HWE := Lib.hid hWE
  clear hWE hz1 q0 q1
  refine wp_region_still_tail 15 (by kernel_rfl) (by kernel_rfl) ?_
  simp only [List.take_succ_cons, List.take_zero, List.drop_succ_cons, List.drop_zero]
  still_step
  still_step
  still_step
  still_step
  still_call (cmpint_calls _ _ _)
  still_step
  still_step
  still_step
  still_step
  still_call (compare_calls _ _ _)
  still_step
  still_step
  still_step
  still_step
  still_call (compare_calls _ _ _)
  try refine wpStill_nil ?_
  change wpList _ _ _ _ _ W.drew
  have HWD := Lib.hid (show W.drew = Sort.grow (w.drewN 1) #[.cells #[.string asv, .string aop, .int .i64 act, .int .i64 aer] 61, .cells #[.string bsv, .string bop, .int .i64 bct, .int .i64 ber] 61] from by rw [HWE.out]; rfl)
  generalize W.drew = W2 at *
  clear HWE xa0 xa1 xa2 xb0 xb1 xb2
  have ORC := Lib.hid (or3_calls (cmpI bct act) (cmpT asv bsv) (cmpT aop bop) W2.heap.size _ (cell_of_row _ _ 0 _ 3 (0, 0) (heap_alloc_new W2 (.cells #[.int .i64 (cmpI bct act), .int .i64 (cmpT asv bsv), .int .i64 (cmpT aop bop)] 3))) (cell_of_row _ _ 1 _ _ (0, 0) (heap_alloc_new W2 _)) (cell_of_row _ _ 2 _ _ (0, 0) (heap_alloc_new W2 _)))
  rw [← HO.out] at ORC
  clear HO
  go_wp2_with (go_at_call 68; (with_reducible refine ORC.out.mono ?_); rintro e w9 ⟨rfl, hw9⟩; subst w9)
  all_goals
    go_ret
    exact ⟨rfl, 1, _, by rw [HWD.out, Sort.alloc_eq_grow, Sort.grow_grow]⟩
theorem qorder_calls (a b : Bz) (w : World) : Calls Tryd.prog 46 #[.agg a.cells.toArray, .agg b.cells.toArray] w fun e w' => e = .returned (.int .i64 (ordB a b)) ∧ ∃ q os', w' = Sort.grow (w.drewN q) os' := by
  obtain ⟨asv, aop, act, aer⟩ := a
  obtain ⟨bsv, bop, bct, ber⟩ := b
  exact qorder_lit _ _ _ _ _ _ _ _ w
end Go.Proofs.YtkhhcnpmobgdgaaDoor
