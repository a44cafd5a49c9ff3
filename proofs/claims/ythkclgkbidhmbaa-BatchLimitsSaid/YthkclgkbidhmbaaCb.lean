/- Plain mathematics of turned bits: one, two, and up to 32 in a row. No Go in sight. -/
import Derived.Test.YthkclgkbidhmbaaCm
namespace Go.Proofs.Ythkclgkbidhmbaa.Cm
open Go.RowKit
set_option linter.unusedVariables false

def bitb (i : Nat) : UInt8 := UInt8.ofNat (2 ^ (i % 8))
theorem bitb_nat (i : Nat) : (bitb i).toNat = 2 ^ (i % 8) := by
  have h : 2 ^ (i % 8) < 256 := Nat.lt_of_lt_of_le (Nat.pow_lt_pow_right (by omega) (Nat.mod_lt i (by omega))) (by decide : 2 ^ 8 ≤ 256)
  unfold bitb
  rw [UInt8.toNat_ofNat']
  exact Nat.mod_eq_of_lt h
/-- The bytes with bit i turned. -/
def flip (l : List UInt8) (i : Nat) : List UInt8 := l.set (i / 8) (l.getD (i / 8) 0 ^^^ bitb i)
theorem flip_len (l : List UInt8) (i : Nat) : (flip l i).length = l.length := List.length_set ..
theorem sum_flip (l : List UInt8) (i : Nat) (h : i < 8 * l.length) : sum (flip l i) = sum l ^^^ it (8 * l.length - i) 1 := by
  unfold flip
  rw [sum_set l (i / 8) (bitb i) (by omega), bitb_nat, it_bit _ _ (by omega)]
  congr 2
  omega
theorem xor_ne (a b : Nat) (h : b ≠ 0) : a ^^^ b ≠ a := by
  intro e
  have e2 : a ^^^ (a ^^^ b) = a ^^^ a := by rw [e]
  rw [← Nat.xor_assoc, Nat.xor_self, Nat.zero_xor] at e2
  exact h e2
theorem one_ne (l : List UInt8) (i : Nat) (h : i < 8 * l.length) : sum (flip l i) ≠ sum l := by
  rw [sum_flip l i h]
  exact xor_ne _ _ (it_ne _ _ (by decide) (by decide))
theorem two_ne (l : List UInt8) (i k : Nat) (hl : l.length ≤ 400) (h : i < 8 * l.length) (hk : k < 8 * l.length) (hne : i ≠ k) : sum (flip (flip l i) k) ≠ sum l := by
  rw [sum_flip _ k (by rw [flip_len]; exact hk), sum_flip l i h, flip_len, Nat.xor_assoc]
  refine xor_ne _ _ fun e => apart (8 * l.length - i) (8 * l.length - k) (by omega) (by omega) (by omega) (xor_zero e)

/-- The bytes with those of x, the lowest first, xored over them from a on: j of them. -/
def bu (l : List UInt8) (a x : Nat) : Nat → List UInt8
  | 0 => l
  | j + 1 => (bu l a x j).set (a + j) ((bu l a x j).getD (a + j) 0 ^^^ UInt8.ofNat (x / 256 ^ j % 256))
theorem bu_len (l : List UInt8) (a x : Nat) : ∀ j, (bu l a x j).length = l.length
  | 0 => rfl
  | j + 1 => by unfold bu; rw [List.length_set]; exact bu_len l a x j
theorem sum_bu_step (l : List UInt8) (a x j : Nat) (h : a + j < l.length) : sum (bu l a x (j + 1)) = sum (bu l a x j) ^^^ it (8 * (l.length - (a + j))) (x / 256 ^ j % 256) := by
  show sum ((bu l a x j).set (a + j) _) = _
  rw [sum_set _ _ _ (by rw [bu_len]; exact h), bu_len, toNat_mod]
theorem turn4 (b0 b1 b2 b3 : Nat) : turn (turn (turn (turn (0 ^^^ b0) ^^^ b1) ^^^ b2) ^^^ b3) = it 32 b0 ^^^ it 24 b1 ^^^ it 16 b2 ^^^ it 8 b3 := by
  simp only [turn_xor, Nat.zero_xor]
  have h2 : ∀ n, turn (turn n) = it 16 n := fun n => (it_add 8 8 n).symm
  have a0 : turn (turn (turn (turn b0))) = it 32 b0 := by rw [h2, h2]; exact (it_add 16 16 b0).symm
  have a1 : turn (turn (turn b1)) = it 24 b1 := by rw [h2]; exact (it_add 8 16 b1).symm
  rw [a0, a1, h2]
  rfl
theorem burst (x : Nat) (h : x < 4294967296) : it 32 (x % 256) ^^^ it 24 (x / 256 % 256) ^^^ it 16 (x / 65536 % 256) ^^^ it 8 (x / 16777216 % 256) = it 32 x := by
  have h1 := fold_le4 0 x h
  rw [Nat.zero_xor] at h1
  rw [← h1, ← turn4]
  unfold le4
  simp only [fold, toNat_mod]
theorem sum_bu (l : List UInt8) (a x : Nat) (hx : x < 4294967296) (h : a + 4 ≤ l.length) : sum (bu l a x 4) = sum l ^^^ it (8 * (l.length - a - 4)) (it 32 x) := by
  rw [sum_bu_step l a x 3 (by omega), sum_bu_step l a x 2 (by omega), sum_bu_step l a x 1 (by omega), sum_bu_step l a x 0 (by omega)]
  show sum l ^^^ _ ^^^ _ ^^^ _ ^^^ _ = _
  rw [← burst x hx, it_xor, it_xor, it_xor, ← it_add, ← it_add, ← it_add, ← it_add]
  rw [show 8 * (l.length - (a + 0)) = 32 + 8 * (l.length - a - 4) from by omega, show 8 * (l.length - (a + 1)) = 24 + 8 * (l.length - a - 4) from by omega,
    show 8 * (l.length - (a + 2)) = 16 + 8 * (l.length - a - 4) from by omega, show 8 * (l.length - (a + 3)) = 8 + 8 * (l.length - a - 4) from by omega]
  simp only [Nat.pow_zero, Nat.div_one, Nat.pow_one]
  rw [show (256 : Nat) ^ 2 = 65536 from rfl, show (256 : Nat) ^ 3 = 16777216 from rfl]
  simp only [Nat.xor_assoc]
theorem burst_zero (l : List UInt8) (a : Nat) (h : a + 4 ≤ l.length) : sum (bu l a 0 4) = sum l := by
  rw [sum_bu l a 0 (by omega) h, it_zero, it_zero, Nat.xor_zero]
theorem burst_ne (l : List UInt8) (a x : Nat) (hx : x < 4294967296) (h : a + 4 ≤ l.length) (h0 : x ≠ 0) : sum (bu l a x 4) ≠ sum l := by
  rw [sum_bu l a x hx h]
  exact xor_ne _ _ (it_ne _ _ (it_lt _ _ hx) (it_ne _ _ hx h0))
end Go.Proofs.Ythkclgkbidhmbaa.Cm
