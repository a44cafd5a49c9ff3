/- How two traces stand to one another. -/
import Derived.Test.YtmldelgbmadegaaBqaz
import Derived.Test.YtmldelgbmadegaaZo
import Derived.BigQuiet
import Derived.Deep.Cut
namespace Go.Proofs.Ytmldelgbmadegaa
open Go.RowKit Go.Maps
set_option linter.unusedVariables false
set_option linter.unusedSimpArgs false
set_option maxRecDepth 100000

def cmpI (x y : Int) : Int := if x < y then -1 else if y < x then 1 else 0
theorem cmpu_any (x y : Int) (w : World) : Calls Try.prog 101 #[.int .u64 x, .int .u64 y] w fun e w' => e = .returned (.int .i64 (cmpI x y)) ∧ w' = w := by
  unfold cmpI
  rcases Int.lt_trichotomy x y with h | h | h
  · have d1 : decide (x < y) = true := decide_eq_true h
    rw [if_pos h]
    go_enter Try.func101, Try.ntmps101
    go_wp2
    go_ret
    exact ⟨rfl, rfl⟩
  · subst h
    have d1 : decide (x < x) = false := decide_eq_false (by omega)
    rw [if_neg (by omega), if_neg (by omega)]
    go_enter Try.func101, Try.ntmps101
    go_wp2
    go_ret
    exact ⟨rfl, rfl⟩
  · have d1 : decide (x < y) = false := decide_eq_false (by omega)
    have d2 : decide (y < x) = true := decide_eq_true h
    rw [if_neg (by omega), if_pos h]
    go_enter Try.func101, Try.ntmps101
    go_wp2
    go_ret
    exact ⟨rfl, rfl⟩
def ordT (a b c d : Int) : Int := if cmpI a c = 0 then cmpI b d else cmpI a c
theorem ordT_lt (a b c d : Int) : (0 < ordT a b c d) ↔ (c < a ∨ (c = a ∧ d < b)) := by
  unfold ordT cmpI
  rcases Int.lt_trichotomy a c with h | h | h
  · simp [h, show ¬ c < a by omega, show ¬ c = a by omega]
  · subst h
    rcases Int.lt_trichotomy b d with h | h | h
    · simp [h, show ¬ d < b by omega]
    · subst h; simp
    · simp [h, show ¬ b < d by omega]
  · simp [h, show ¬ a < c by omega]
end Go.Proofs.Ytmldelgbmadegaa
