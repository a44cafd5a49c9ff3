/- The example of chapter 8, whatever counters are made of. -/
import Derived.Test.YtkmcdeejkcncpaaDoorAdd8
namespace Go.Proofs.YtkmcdeejkcncpaaDoor
open Go.RowKit
theorem of7 : Bm.of 7 = 2 := by decide
theorem of0 : Bm.of 0 = 0 := by decide
theorem okZ : okC [0, 0, 0, 0, 0, 0, 0, 0, 0, 0] := fun i => by
  rcases i with _ | _ | _ | _ | _ | _ | _ | _ | _ | _ | _ <;> simp
theorem joinO : joinC [0, 0, 0, 0, 0, 0, 0, 0, 0, 0] (oneC 2 true) 9 = [1, 1, 0, 0, 1, 0, 0, 0, 0, 0] := by decide
theorem add7_calls (w : World) (T : Bnds w) : Calls Tryd.prog 12 #[.agg #[.int .i64 0, .int .i64 0, .int .i64 0, .int .i64 0, .int .i64 0, .int .i64 0, .int .i64 0, .int .i64 0, .int .i64 0, .int .i64 0], .agg #[.int .u64 0, .int .u64 0, .int .u64 0, .int .u64 0, .string { data := #[] }, .string { data := #[] }, .int .i64 0, .int .i64 7, .bool true, .slice none 0 0], .int .i64 9] w fun e w' => e = .returned (.agg #[.int .i64 1, .int .i64 1, .int .i64 0, .int .i64 0, .int .i64 1, .int .i64 0, .int .i64 0, .int .i64 0, .int .i64 0, .int .i64 0]) ∧ Below w.heap.size w w' := by
  have h := add_any [0, 0, 0, 0, 0, 0, 0, 0, 0, 0] 0 0 0 0 { data := #[] } { data := #[] } 0 7 true none 0 0 9 w T okZ (by decide)
  rw [of7, joinO] at h
  exact h

set_option maxHeartbeats 1000000 in
set_option maxRecDepth 100000 in
theorem alive8_calls (w : World) (T : Bnds w) : Calls Tryd.prog 9 #[] w fun e w' => e = .returned (.bool true) ∧ Below w.heap.size w w' := by
  go_enter Tryd.func9, Tryd.ntmps9
  go_wp2_with (first
    | (go_at_call 12; refine (add7_calls w T).mono ?_; rintro e w1 ⟨rfl, hb1⟩; have T1 := Bnds.below T hb1 T.lt)
    | (go_at_call 10; refine (of_any8 0 _ (T1.alloc _)).mono ?_; rw [of0]; rintro e w2 ⟨rfl, rfl⟩))
  go_ret
  exact ⟨rfl, hb1.alloc hb1.size _⟩

end Go.Proofs.YtkmcdeejkcncpaaDoor
