/- The document's own quantiles: plus, Total, thousandths, Quantile. -/
import Derived.Test.YtkhhcnpmobgdgaaDoorQl
import Derived.Test.YtkhhcnpmobgdgaaDoorRef8
import Derived.Test.YtkhhcnpmobgdgaaDoorQo
namespace Go.Proofs.YtkhhcnpmobgdgaaDoor
open Go.RowKit
set_option linter.unusedVariables false

namespace Qm
/-- p thousandths of n, rounded up, as it is worked out. -/
def thou (n p : Int) : Int := if 0 < n % 1000 * p % 1000 then n / 1000 * p + n % 1000 * p / 1000 + 1 else n / 1000 * p + n % 1000 * p / 1000
theorem split_prod (n p : Int) : n * p = 1000 * (n / 1000 * p) + n % 1000 * p := by
  have h := Int.mul_ediv_add_emod n 1000
  calc n * p = (1000 * (n / 1000) + n % 1000) * p := by rw [h]
    _ = 1000 * (n / 1000 * p) + n % 1000 * p := by rw [Int.add_mul, Int.mul_assoc]
theorem thou_le (n p t : Int) : thou n p ≤ t ↔ n * p ≤ t * 1000 := by
  rw [split_prod n p]
  unfold thou
  generalize n / 1000 * p = V
  generalize n % 1000 * p = U
  split <;> omega
end Qm

set_option maxHeartbeats 1000000 in
theorem rplus_any (a b : Int) (w : World) (ha : -9223372036854775808 ≤ a) (ha2 : a ≤ 9223372036854775807) (hb : -9223372036854775808 ≤ b) (hb2 : b ≤ 9223372036854775807) :
    Calls Tryd.prog 48 #[.int .i64 a, .int .i64 b] w fun e w' => e = .returned (.int .i64 (Bm.plus a b)) ∧ w = w' := by
  obtain ⟨A, hA⟩ : ∃ A, A = (if a < 0 then 0 else if 9223372036854775807 < a then 9223372036854775807 else a) := ⟨_, rfl⟩
  obtain ⟨B, hB⟩ : ∃ B, B = (if b < 0 then 0 else if 9223372036854775807 < b then 9223372036854775807 else b) := ⟨_, rfl⟩
  have a0 : 0 ≤ A ∧ A ≤ 9223372036854775807 := by rw [hA]; split <;> (try split) <;> omega
  have b0 : 0 ≤ B ∧ B ≤ 9223372036854775807 := by rw [hB]; split <;> (try split) <;> omega
  have HF : Hid (Bm.plus a b = if 9223372036854775807 - A < B then 9223372036854775807 else A + B) := by
    show _ = _
    have e2 : A = max a 0 := by rw [hA]; split <;> (try split) <;> omega
    have e3 : B = max b 0 := by rw [hB]; split <;> (try split) <;> omega
    unfold Bm.plus
    rw [e2, e3]
    split <;> split <;> omega
  have C1 := fun W => Lib.hid (cap_any a 0 9223372036854775807 W)
  have C2 := fun W => Lib.hid (cap_any b 0 9223372036854775807 W)
  rw [← hA] at C1
  rw [← hB] at C2
  have a1 := a0.1
  have a2 := a0.2
  have b1 := b0.1
  have b2 := b0.2
  clear hA hB a0 b0
  have hc : 9223372036854775807 - A < B ∨ B ≤ 9223372036854775807 - A := by omega
  rcases hc with hc | hc
  all_goals
    go_enter Tryd.func48, Tryd.ntmps48
    go_wp2_with (first
      | (have hd := done1; clear done1; go_at_call 26; refine (C2 _).out.mono ?_; rintro e w2 ⟨rfl, rfl⟩)
      | (go_at_call 26; refine (C1 _).out.mono ?_; rintro e w1 ⟨rfl, rfl⟩; have done1 := trivial))
    go_ret
    refine ⟨?_, rfl⟩
    rw [HF.out]
    first | (rw [if_pos (by omega)]; rfl) | (rw [if_neg (by omega)]; rfl)

end Go.Proofs.YtkhhcnpmobgdgaaDoor
