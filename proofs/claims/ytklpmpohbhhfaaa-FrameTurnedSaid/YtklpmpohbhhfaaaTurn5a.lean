/- FrameTurned, out of its bounds. -/
import Derived.Test.YtklpmpohbhhfaaaAl5
namespace Go.Proofs.Ytklpmpohbhhfaaa
open Go.RowKit
set_option linter.unusedVariables false

set_option maxHeartbeats 1000000 in
set_option maxRecDepth 100000 in
theorem turned_out (A : Option Addr) (n c : Nat) (at_ by_ bit : Int) (w : World) (h : n < 1 ∨ 12 < n ∨ at_ < 0 ∨ (n : Int) ≤ at_ ∨ by_ < 0 ∨ bit < 0 ∨ 7 < bit) (hl : n ≤ maxLen) :
    Calls Try.prog 6 #[.slice A n c, .int .i64 at_, .int .i64 by_, .int .i64 bit] w fun e w' => e = .returned (.bool true) ∧ Below w.heap.size w w' := by
  unfold maxLen at hl
  have hh : (n < 1) ∨ (¬ n < 1 ∧ 12 < n) ∨ (¬ n < 1 ∧ ¬ 12 < n ∧ at_ < 0) ∨ (¬ n < 1 ∧ ¬ 12 < n ∧ ¬ at_ < 0 ∧ (n : Int) ≤ at_)
      ∨ (¬ n < 1 ∧ ¬ 12 < n ∧ ¬ at_ < 0 ∧ ¬ (n : Int) ≤ at_ ∧ by_ < 0) ∨ (¬ n < 1 ∧ ¬ 12 < n ∧ ¬ at_ < 0 ∧ ¬ (n : Int) ≤ at_ ∧ ¬ by_ < 0 ∧ bit < 0)
      ∨ (¬ n < 1 ∧ ¬ 12 < n ∧ ¬ at_ < 0 ∧ ¬ (n : Int) ≤ at_ ∧ ¬ by_ < 0 ∧ ¬ bit < 0 ∧ 7 < bit) := by omega
  clear h
  rcases hh with h1 | ⟨h1, h2⟩ | ⟨h1, h2, h3⟩ | ⟨h1, h2, h3, h4⟩ | ⟨h1, h2, h3, h4, h5⟩ | ⟨h1, h2, h3, h4, h5, h6⟩ | ⟨h1, h2, h3, h4, h5, h6, h7⟩
  all_goals
    go_enter Try.func6, Try.ntmps6
    go_wp2_with (go_at_call 7; refine (alive5_calls _).mono ?_; rintro e w1 ⟨rfl, hb1⟩)
    go_ret
    exact ⟨rfl, hb1⟩

end Go.Proofs.Ytklpmpohbhhfaaa
