/- CheckTurns, out of its bounds: bytes of which one bit, or two, or up to 32 in a row, were turned have another sum. -/
import Derived.Test.YthgcellfibkpfaaRest2
namespace Go.Proofs.Ythgcellfibkpfaa
open Go.RowKit
set_option linter.unusedVariables false

set_option maxHeartbeats 1000000 in
set_option maxRecDepth 100000 in
theorem turns2_out (A : Option Addr) (l : List UInt8) (c : Nat) (i k : Int) (x : Nat) (w : World)
    (h : l.length < 4 ∨ 300 < l.length ∨ i < 0 ∨ 8 * (l.length : Int) ≤ i ∨ k < 0 ∨ 8 * (l.length : Int) ≤ k ∨ i = k) (hl : l.length ≤ maxLen) :
    Calls Try.prog 4 #[.slice A l.length c, .int .i64 i, .int .i64 k, .int .u32 x] w fun e w' => e = .returned (.bool true) ∧ Below w.heap.size w w' := by
  unfold maxLen at hl
  have hh : (l.length < 4) ∨ (¬ l.length < 4 ∧ 300 < l.length) ∨ (¬ l.length < 4 ∧ ¬ 300 < l.length ∧ i < 0) ∨ (¬ l.length < 4 ∧ ¬ 300 < l.length ∧ ¬ i < 0 ∧ 8 * (l.length : Int) ≤ i)
      ∨ (¬ l.length < 4 ∧ ¬ 300 < l.length ∧ ¬ i < 0 ∧ ¬ 8 * (l.length : Int) ≤ i ∧ k < 0) ∨ (¬ l.length < 4 ∧ ¬ 300 < l.length ∧ ¬ i < 0 ∧ ¬ 8 * (l.length : Int) ≤ i ∧ ¬ k < 0 ∧ 8 * (l.length : Int) ≤ k)
      ∨ (¬ l.length < 4 ∧ ¬ 300 < l.length ∧ ¬ i < 0 ∧ ¬ 8 * (l.length : Int) ≤ i ∧ ¬ k < 0 ∧ ¬ 8 * (l.length : Int) ≤ k ∧ ((i == k) = true)) := by
    simp only [beq_iff_eq]; omega
  clear h
  rcases hh with h1 | ⟨h1, h2⟩ | ⟨h1, h2, h3⟩ | ⟨h1, h2, h3, h4⟩ | ⟨h1, h2, h3, h4, h5⟩ | ⟨h1, h2, h3, h4, h5, h6⟩ | ⟨h1, h2, h3, h4, h5, h6, h7⟩
  all_goals
    go_enter Try.func4, Try.ntmps4
    go_wp2_with (go_at_call 7; refine (alive2_calls _).mono ?_; rintro e w1 ⟨rfl, hb1⟩)
    go_ret
    exact ⟨rfl, hb1⟩

end Go.Proofs.Ythgcellfibkpfaa
