/- The document's own quantiles: plus, Total, thousandths, Quantile. -/
import Derived.Test.YtkmcdeejkcncpaaDoorQl
import Derived.Test.YtkmcdeejkcncpaaDoorRef8
import Derived.Test.YtkmcdeejkcncpaaDoorQo
namespace Go.Proofs.YtkmcdeejkcncpaaDoor
open Go.RowKit
set_option linter.unusedVariables false

namespace Qm
/-- p thousandths of n, rounded up, as it is worked out. -/
def thou (n p : Int) : Int := if 0 < n % 1000 * p % 1000 then n / 1000 * p + n % 1000 * p / 1000 + 1 else n / 1000 * p + n % 1000 * p / 1000
theorem split_prod (n p : Int) : n * p = 1000 * (n / 1000 * p) + n % 1000 * p := by
  have h := Int.mul_ediv_add_emod n 1000
  calc n * p = (1000 * (n / 1000) + n % 1000) * p := by rw [h]
    _ = 1000 * (n / 1000 * p) + n % 1000 * p := by rw [Int.add_mul, Int.mul_assoc]
theorem thou_le (n p t : Int) : thou n p ≤ t ↔ n * p ≤ t * 1000 := by
  rw [split_prod n p]
  unfold thou
  generalize n / 1000 * p = V
  generalize n % 1000 * p = U
  split <;> omega
end Qm

set_option maxHeartbeats 1000000 in
theorem rplus_any (a b : Int) (w : World) (ha : -9223372036854775808 ≤ a) (ha2 : a ≤ 9223372036854775807) (hb : -9223372036854775808 ≤ b) (hb2 : b ≤ 9223372036854775807) :
    Calls Tryd.prog 27 #[.int .i64 a, .int .i64 b] w fun e w' => e = .returned (.int .i64 (Bm.plus a b)) ∧ w = w' := by
  obtain ⟨A, hA⟩ : ∃ A, A = (if a < 0 then 0 else if 9223372036854775807 < a then 9223372036854775807 else a) := ⟨_, rfl⟩
  obtain ⟨B, hB⟩ : ∃ B, B = (if b < 0 then 0 else if 9223372036854775807 < b then 9223372036854775807 else b) := ⟨_, rfl⟩
  have a0 : 0 ≤ A ∧ A ≤ 9223372036854775807 := by rw [hA]; split <;> (try split) <;> omega
  have b0 : 0 ≤ B ∧ B ≤ 9223372036854775807 := by rw [hB]; split <;> (try split) <;> omega
  have HF : Hid (Bm.plus a b = if 9223372036854775807 - A < B then 9223372036854775807 else A + B) := by
    show _ = _
    have e2 : A = max a 0 := by rw [hA]; split <;> (try split) <;> omega
    have e3 : B = max b 0 := by rw [hB]; split <;> (try split) <;> omega
    unfold Bm.plus
    rw [e2, e3]
    split <;> split <;> omega
  have C1 := fun W => Lib.hid (cap_any a 0 9223372036854775807 W)
  have C2 := fun W => Lib.hid (cap_any b 0 9223372036854775807 W)
  rw [← hA] at C1
  rw [← hB] at C2
  have a1 := a0.1
  have a2 := a0.2
  have b1 := b0.1
  have b2 := b0.2
  clear hA hB a0 b0
  have hc : 9223372036854775807 - A < B ∨ B ≤ 9223372036854775807 - A := by omega
  rcases hc with hc | hc
  all_goals
    go_enter Tryd.func27, Tryd.ntmps27
    go_wp2_with (first
      | (have hd := done1; clear done1; go_at_call 30; refine (C2 _).out.mono ?_; rintro e w2 ⟨rfl, rfl⟩)
      | (go_at_call 30; refine (C1 _).out.mono ?_; rintro e w1 ⟨rfl, rfl⟩; have done1 := trivial))
    go_ret
    refine ⟨?_, rfl⟩
    rw [HF.out]
    first | (rw [if_pos (by omega)]; rfl) | (rw [if_neg (by omega)]; rfl)

set_option maxHeartbeats 1000000 in
theorem thou_any (n p : Int) (w : World) (hn : 0 ≤ n) (hn2 : n ≤ 9223372036854775807) (hp : 0 ≤ p) (hp2 : p ≤ 1000) :
    Calls Tryd.prog 26 #[.int .i64 n, .int .i64 p] w fun e w' => e = .returned (.int .i64 (Qm.thou n p)) ∧ w = w' := by
  have hs := Qm.split_prod n p
  have hm := Int.mul_le_mul_of_nonneg_left hp2 hn
  have hv0 : 0 ≤ n / 1000 * p := Int.mul_nonneg (by omega) hp
  have hu0 : 0 ≤ n % 1000 * p := Int.mul_nonneg (by omega) hp
  have hsum : 1000 * (n / 1000 * p) + n % 1000 * p ≤ 1000 * n := by omega
  have hu1 : n % 1000 * p ≤ 999000 := by have := Int.mul_le_mul_of_nonneg_left hp2 (show 0 ≤ n % 1000 by omega); omega
  have hv1 : n / 1000 * p ≤ 9223372036854775807 := by omega
  have HF : Hid (Qm.thou n p = if 0 < n % 1000 * p % 1000 then n / 1000 * p + n % 1000 * p / 1000 + 1 else n / 1000 * p + n % 1000 * p / 1000) := rfl
  clear hs hm
  have hc : 0 < n % 1000 * p % 1000 ∨ n % 1000 * p % 1000 ≤ 0 := by omega
  rcases hc with hc | hc
  all_goals
    go_enter Tryd.func26, Tryd.ntmps26
    go_wp2_with fail
    go_ret
    refine ⟨?_, rfl⟩
    rw [HF.out]
    first | (rw [if_pos (by omega)]; rfl) | (rw [if_neg (by omega)]; rfl)

set_option maxHeartbeats 2000000 in
set_option maxRecDepth 100000 in
theorem rtotal_any (x : List Int) (w : World) (hx : okC x) : Calls Tryd.prog 22 #[.agg (Cv x)] w fun e w' => e = .returned (.int .i64 (Qm.tot x 8)) ∧ Below w.heap.size w w' := by
  have BD := Lib.hid (Qm.tot_bd x (fun i => (hx i).2))
  have OX := Lib.hid hx
  have HC := Lib.hid (fun i (h : i < 10) => (cell_of_row (w.alloc (.cells (Cv x) 24)) w.heap.size i (Cv x) 24 (0, 0) (heap_alloc_new w _)).trans (Cv_at x i h))
  have HB := Lib.hid ((Below.refl w.heap.size w).alloc (Nat.le_refl _) (.cells (Cv x) 24))
  clear hx
  go_enter Tryd.func22, Tryd.ntmps22
  go_wp2_with fail
  generalize hW : w.alloc (.cells (Cv x) 24) = W at *
  have HW := Lib.hid hW
  clear hW
  generalize hB0 : w.heap.size = B at *
  have HB0 := Lib.hid hB0
  clear hB0
  go_loop [3, 4] (fun n i => ∃ k : Nat, k ≤ 8 ∧ i = .int .i64 k ∧ n = .int .i64 (Qm.tot x k)) (fun _ i => 8 - (intOf i).toNat)
  case atStart => exact ⟨0, by omega, rfl, rfl⟩
  case round =>
    obtain ⟨k, hk, rfl, rfl⟩ := hrel
    by_cases hlt : k < 8
    · have cl := HC.out (2 + k) (by omega)
      have b1 := BD.out k
      have b2 := OX.out (2 + k)
      have PL := fun W => Lib.hid (rplus_any (Qm.tot x k) (x.getD (2 + k) 0) W (by omega) b1.2 b2.1 b2.2)
      have HS : Hid (Qm.tot x (k + 1) = Bm.plus (Qm.tot x k) (x.getD (2 + k) 0)) := rfl
      rw [← HS.out] at PL
      generalize x.getD (2 + k) 0 = xk at *
      go_wp2_with (go_at_call 27; refine (PL _).out.mono ?_; rintro e w1 ⟨rfl, rfl⟩)
      go_round
      case rel => exact ⟨k + 1, by omega, by go_num, rfl⟩
      case measure => simp [intOf]; omega
    · obtain rfl : k = 8 := by omega
      go_wp2_with fail
      go_ret
      exact ⟨rfl, by rw [HB0.out]; exact HB.out⟩
end Go.Proofs.YtkmcdeejkcncpaaDoor
