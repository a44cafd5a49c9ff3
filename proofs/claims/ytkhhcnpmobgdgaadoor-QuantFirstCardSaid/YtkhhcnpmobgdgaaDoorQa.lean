/- The example of chapter 31. -/
import Derived.Test.YtkhhcnpmobgdgaaDoorQl
import Derived.Test.YtkhhcnpmobgdgaaDoorAl8
import Derived.BigQuiet
import Derived.Deep.QuietTactic
namespace Go.Proofs.YtkhhcnpmobgdgaaDoor
open Go.RowKit
set_option linter.unusedVariables false

set_option maxHeartbeats 1000000 in
set_option maxRecDepth 100000 in
theorem div4_calls (w : World) : Calls Tryd.prog 65 #[.int .u64 0, .int .u64 1000, .int .u64 4] w fun e w' => ∃ n, e = .returned (.tuple #[.int .u64 250, .int .u64 0]) ∧ w' = w.drewN n := by
  go_enter Tryd.func65, Tryd.ntmps65
  go_wp2_with fail
  go_quiet (fail)
  go_wp2_with fail
  go_ret2
  exact ⟨_, rfl, rfl⟩
set_option maxHeartbeats 1000000 in
set_option maxRecDepth 100000 in
theorem rate4_calls (w : World) : Calls Tryd.prog 42 #[.agg #[.int .i64 4, .int .i64 1, .int .i64 0, .int .i64 0, .int .i64 0, .int .i64 0, .int .i64 0, .int .i64 0, .int .i64 0, .int .i64 0]] w fun e w' => e = .returned (.tuple #[.int .i64 250, .bool true]) ∧ Below w.heap.size w w' := by
  have M := fun W => Lib.hid (mul64_calls 1 1000 (by decide) (by decide) W)
  have hb := (Below.refl w.heap.size w).alloc (Nat.le_refl _) (.cells #[.int .i64 4, .int .i64 1, .int .i64 0, .int .i64 0, .int .i64 0, .int .i64 0, .int .i64 0, .int .i64 0, .int .i64 0, .int .i64 0] 46)
  have HB := Lib.hid hb
  clear hb
  go_enter Tryd.func42, Tryd.ntmps42
  go_wp2_with fail
  go_quiet (fail)
  go_wp2_with (first
    | (go_at_call 64; refine (M _).out.mono ?_; rintro e w1 ⟨rfl, rfl⟩)
    | (go_at_call 65; refine (div4_calls _).mono ?_; rintro e w2 ⟨n2, rfl, rfl⟩))
  go_ret2
  exact ⟨rfl, HB.out.trans ⟨rfl, rfl, rfl, Nat.le_refl _, fun _ _ => rfl⟩⟩
theorem quantA : Qm.quant [0, 0, 0, 0, 0, 0, 0, 0, 0, 0] 500 = (0, false) := by decide
theorem quantB : Qm.quant [0, 0, 0, 1, 0, 0, 1, 0, 0, 0] 500 = (1, true) := by decide
theorem totC : Qm.tot [0, 0, 0, 2, 0, 0, 0, 0, 0, 0] 8 = 2 := by decide
theorem okB : okC [0, 0, 0, 1, 0, 0, 1, 0, 0, 0] := fun i => by
  rcases i with _ | _ | _ | _ | _ | _ | _ | _ | _ | _ | _ <;> simp
theorem okCc : okC [0, 0, 0, 2, 0, 0, 0, 0, 0, 0] := fun i => by
  rcases i with _ | _ | _ | _ | _ | _ | _ | _ | _ | _ | _ <;> simp

set_option maxHeartbeats 2000000 in
set_option maxRecDepth 100000 in
theorem alive31_calls (w : World) (T : Lows w) : Calls Tryd.prog 28 #[] w fun e w' => e = .returned (.bool true) ∧ Below w.heap.size w w' := by
  have Q1 : ∀ W, Lows W → Hid (Calls Tryd.prog 41 #[.agg #[.int .i64 0, .int .i64 0, .int .i64 0, .int .i64 0, .int .i64 0, .int .i64 0, .int .i64 0, .int .i64 0, .int .i64 0, .int .i64 0], .int .i64 500] W fun e w' => e = .returned (.tuple #[.int .i64 0, .bool false]) ∧ Below W.heap.size W w') := fun W h => by
    have := quantile_any [0, 0, 0, 0, 0, 0, 0, 0, 0, 0] 500 W h okZ
    rw [quantA] at this
    exact this
  have Q2 : ∀ W, Lows W → Hid (Calls Tryd.prog 41 #[.agg #[.int .i64 0, .int .i64 0, .int .i64 0, .int .i64 1, .int .i64 0, .int .i64 0, .int .i64 1, .int .i64 0, .int .i64 0, .int .i64 0], .int .i64 500] W fun e w' => e = .returned (.tuple #[.int .i64 1, .bool true]) ∧ Below W.heap.size W w') := fun W h => by
    have := quantile_any [0, 0, 0, 1, 0, 0, 1, 0, 0, 0] 500 W h okB
    rw [quantB] at this
    exact this
  have T1 : ∀ W, Hid (Calls Tryd.prog 43 #[.agg #[.int .i64 0, .int .i64 0, .int .i64 0, .int .i64 2, .int .i64 0, .int .i64 0, .int .i64 0, .int .i64 0, .int .i64 0, .int .i64 0]] W fun e w' => e = .returned (.int .i64 2) ∧ Below W.heap.size W w') := fun W => by
    have := total_any [0, 0, 0, 2, 0, 0, 0, 0, 0, 0] W okCc
    rw [totC] at this
    exact this
  have HT := Lib.hid T
  clear T
  go_enter Tryd.func28, Tryd.ntmps28
  go_wp2_with (first
    | (have hd := done1; go_at_call 41; refine (Q2 _ H1.out.2).out.mono ?_; rintro e w2 ⟨rfl, hb2⟩; have H2 := Lib.hid (H1.out.1.trans (hb2.mono H1.out.1.size)); clear hb2; clear done1)
    | (go_at_call 41; refine (Q1 _ HT.out).out.mono ?_; rintro e w1 ⟨rfl, hb1⟩; have H1 := Lib.hid (And.intro hb1 (HT.out.below hb1 HT.out.lt)); clear hb1; have done1 := trivial)
    | (go_at_call 42; refine (rate4_calls _).mono ?_; rintro e w3 ⟨rfl, hb3⟩; have H3 := Lib.hid (H2.out.trans (hb3.mono H2.out.size)); clear hb3)
    | (go_at_call 43; refine (T1 _).out.mono ?_; rintro e w4 ⟨rfl, hb4⟩; have H4 := Lib.hid (H3.out.trans (hb4.mono H3.out.size)); clear hb4))
  go_ret
  exact ⟨rfl, H4.out⟩
end Go.Proofs.YtkhhcnpmobgdgaaDoor
