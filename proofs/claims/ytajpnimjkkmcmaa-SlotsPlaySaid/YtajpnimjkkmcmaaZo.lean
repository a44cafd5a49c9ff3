/- How an exemplar's operation stands to another one's: strings.Compare, cmp.Or, slots.order. -/
import Derived.Test.YtajpnimjkkmcmaaZm
import Derived.Test.YtajpnimjkkmcmaaBs
import Derived.Laws.Externs
import Derived.StillTailTactics
namespace Go.Proofs.Ytajpnimjkkmcmaa
open Go.RowKit
set_option linter.unusedVariables false
set_option linter.unusedSimpArgs false
set_option maxRecDepth 100000

set_option maxHeartbeats 1000000 in
theorem cmpstr_calls (a b : ByteArray) (w : World) : Calls Try.prog 87 #[.string a, .string b] w fun e w' => e = .returned (.int .i64 (cmpT a b)) ∧ w' = w := by
  have hx : (callFunc 93 #[.string a, .string b]).run Try.prog w = .ok (.value (.int .i64 (cmpT a b))) w := by
    rw [run_callFunc_extern Try.func93 (by kernel_rfl) (by kernel_rfl) (by kernel_rfl) (e := Extern.BytealgCompare.compare) (by kernel_rfl), Lib.run_compareString]
    rfl
  go_enter Try.func87, Try.ntmps87
  go_wp2_with (simp only [hx])
  go_ret
  exact ⟨rfl, rfl⟩
set_option maxHeartbeats 1000000 in
theorem compare_calls (a b : ByteArray) (w : World) : Calls Try.prog 74 #[.string a, .string b] w fun e w' => e = .returned (.int .i64 (cmpT a b)) ∧ w' = w := by
  go_enter Try.func74, Try.ntmps74
  go_wp2_with (go_at_call 87; refine (cmpstr_calls _ _ _).mono ?_; rintro e w' ⟨rfl, rfl⟩)
  go_ret
  exact ⟨rfl, rfl⟩
set_option maxHeartbeats 4000000 in
theorem or_calls (x y : Int) (g : Nat) (w : World) (h0 : w.cell? ⟨g, 0, none⟩ = some (.int .i64 x)) (h1 : w.cell? ⟨g, 1, none⟩ = some (.int .i64 y)) : Calls Try.prog 73 #[.slice (some ⟨g, 0, none⟩) 2 2] w fun e w' => e = .returned (.int .i64 (if x = 0 then y else x)) ∧ w' = w := by
  have ha : ∀ k : Nat, (⟨g, 0, none⟩ : Addr).add k = ⟨g, k, none⟩ := fun k => by rw [Addr.add_lit, Nat.zero_add]
  go_enter Try.func73, Try.ntmps73
  go_wp2_with fail
  go_loop [8] (fun i => ∃ k : Nat, k ≤ 2 ∧ i = .int .i64 k ∧ (0 < k → x = 0) ∧ (1 < k → y = 0)) (fun i => 2 - (intOf i).toNat)
  case atStart => exact ⟨0, by omega, rfl, fun h => by omega, fun h => by omega⟩
  case round =>
    obtain ⟨k, hk, rfl, hx, hy⟩ := hrel
    by_cases c0 : k = 0
    · subst c0
      by_cases cx : x = 0
      · subst cx
        go_wp2_with fail
        go_round
        case rel => exact ⟨1, by omega, by go_num, fun _ => by first | rfl | trivial, fun h => by omega⟩
        case measure => simp [intOf]
      · have d : (x == 0) = false := by simpa using cx
        go_wp2_with fail
        go_ret
        exact ⟨rfl, rfl⟩
    · by_cases c1 : k = 1
      · subst c1
        have hx := hx (by omega)
        subst hx
        by_cases cy : y = 0
        · subst cy
          go_wp2_with fail
          go_round
          case rel => exact ⟨2, by omega, by go_num, fun _ => by first | rfl | trivial, fun _ => by first | rfl | trivial⟩
          case measure => simp [intOf]
        · have d : (y == 0) = false := by simpa using cy
          go_wp2_with fail
          go_ret
          exact ⟨by simp, rfl⟩
      · have c2 : k = 2 := by omega
        subst c2
        have hx := hx (by omega)
        have hy := hy (by omega)
        subst hx
        subst hy
        go_wp2_with fail
        go_ret
        exact ⟨rfl, rfl⟩
set_option maxHeartbeats 4000000 in
theorem order_calls (a b : Ex) (w : World) : Calls Try.prog 55 #[.agg a.cells.toArray, .agg b.cells.toArray] w fun e w' => e = .returned (.int .i64 (ordE a b)) ∧ Below w.heap.size w w' := by
  obtain ⟨asv, aop, ahi, alo, aid, abl⟩ := a
  obtain ⟨bsv, bop, bhi, blo, bid, bbl⟩ := b
  simp only [Ex.cells, ordE]
  go_enter Try.func55, Try.ntmps55
  go_wp2_with fail
  have hB := ((Below.refl w.heap.size w).alloc (Nat.le_refl _) (.cells #[.string asv, .string aop, .int .u64 ahi, .int .u64 alo, .int .u64 aid, .int .i64 abl] 38)).alloc (by simp) (.cells #[.string bsv, .string bop, .int .u64 bhi, .int .u64 blo, .int .u64 bid, .int .i64 bbl] 38)
  have hz1 : (w.alloc (.cells #[.string asv, .string aop, .int .u64 ahi, .int .u64 alo, .int .u64 aid, .int .i64 abl] 38)).heap.size = w.heap.size + 1 := by simp
  have hz2 : ((w.alloc (.cells #[.string asv, .string aop, .int .u64 ahi, .int .u64 alo, .int .u64 aid, .int .i64 abl] 38)).alloc (.cells #[.string bsv, .string bop, .int .u64 bhi, .int .u64 blo, .int .u64 bid, .int .i64 bbl] 38)).heap.size = w.heap.size + 2 := by simp
  have q0 := heap_alloc_new w (.cells #[.string asv, .string aop, .int .u64 ahi, .int .u64 alo, .int .u64 aid, .int .i64 abl] 38)
  have q1 := heap_alloc_new (w.alloc (.cells #[.string asv, .string aop, .int .u64 ahi, .int .u64 alo, .int .u64 aid, .int .i64 abl] 38)) (.cells #[.string bsv, .string bop, .int .u64 bhi, .int .u64 blo, .int .u64 bid, .int .i64 bbl] 38)
  rw [hz1] at q1
  have a0 : ((w.alloc (.cells #[.string asv, .string aop, .int .u64 ahi, .int .u64 alo, .int .u64 aid, .int .i64 abl] 38)).alloc (.cells #[.string bsv, .string bop, .int .u64 bhi, .int .u64 blo, .int .u64 bid, .int .i64 bbl] 38)).cell? ⟨w.heap.size, 0, none⟩ = some (.string asv) := (World.cell?_alloc_lt _ _ ⟨w.heap.size, 0, none⟩ (by simp)).trans (cell_of_row _ _ 0 _ _ (0, 0) q0)
  have a1 : ((w.alloc (.cells #[.string asv, .string aop, .int .u64 ahi, .int .u64 alo, .int .u64 aid, .int .i64 abl] 38)).alloc (.cells #[.string bsv, .string bop, .int .u64 bhi, .int .u64 blo, .int .u64 bid, .int .i64 bbl] 38)).cell? ⟨w.heap.size, 1, none⟩ = some (.string aop) := (World.cell?_alloc_lt _ _ ⟨w.heap.size, 1, none⟩ (by simp)).trans (cell_of_row _ _ 1 _ _ (0, 0) q0)
  have b0 : ((w.alloc (.cells #[.string asv, .string aop, .int .u64 ahi, .int .u64 alo, .int .u64 aid, .int .i64 abl] 38)).alloc (.cells #[.string bsv, .string bop, .int .u64 bhi, .int .u64 blo, .int .u64 bid, .int .i64 bbl] 38)).cell? ⟨w.heap.size + 1, 0, none⟩ = some (.string bsv) := cell_of_row _ _ 0 _ _ (0, 0) q1
  have b1 : ((w.alloc (.cells #[.string asv, .string aop, .int .u64 ahi, .int .u64 alo, .int .u64 aid, .int .i64 abl] 38)).alloc (.cells #[.string bsv, .string bop, .int .u64 bhi, .int .u64 blo, .int .u64 bid, .int .i64 bbl] 38)).cell? ⟨w.heap.size + 1, 1, none⟩ = some (.string bop) := cell_of_row _ _ 1 _ _ (0, 0) q1
  generalize ((w.alloc (.cells #[.string asv, .string aop, .int .u64 ahi, .int .u64 alo, .int .u64 aid, .int .i64 abl] 38)).alloc (.cells #[.string bsv, .string bop, .int .u64 bhi, .int .u64 blo, .int .u64 bid, .int .i64 bbl] 38)) = W at *
  have HB := Lib.hid hB
  have HZ := Lib.hid hz2
  clear hB hz1 hz2 q0 q1
  refine wp_region_still_tail 10 (by kernel_rfl) (by kernel_rfl) ?_
  simp only [List.take_succ_cons, List.take_zero, List.drop_succ_cons, List.drop_zero]
  still_step
  still_step
  still_step
  still_step
  still_call (compare_calls _ _ _)
  still_step
  still_step
  still_step
  still_step
  still_call (compare_calls _ _ _)
  try refine wpStill_nil ?_
  change wpList _ _ _ _ _ W.drew
  generalize hW2 : W.drew = W2
  have HB2 := Lib.hid (show Below w.heap.size w W2 ∧ w.heap.size ≤ W2.heap.size from by rw [← hW2]; exact ⟨⟨HB.out.os, HB.out.tape, HB.out.output, HB.out.size, HB.out.block⟩, by have := HB.out.size; exact this⟩)
  clear hW2 a0 a1 b0 b1
  go_wp2_with (go_at_call 73; refine (or_calls (cmpT asv bsv) (cmpT aop bop) _ _ (cell_of_row _ _ 0 _ _ (0, 0) (heap_alloc_new W2 _)) (cell_of_row _ _ 1 _ _ (0, 0) (heap_alloc_new W2 _))).mono ?_; rintro e w9 ⟨rfl, rfl⟩)
  all_goals
    go_ret
    exact ⟨rfl, HB2.out.1.alloc HB2.out.2 _⟩
end Go.Proofs.Ytajpnimjkkmcmaa
