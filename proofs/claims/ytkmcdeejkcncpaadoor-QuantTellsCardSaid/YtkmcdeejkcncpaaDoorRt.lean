/- Plain mathematics of the rate of errors: a quotient by halves, and one digit by digit. No Go in sight. -/
import Derived.Test.YtkmcdeejkcncpaaDoorQo
set_option linter.unusedVariables false
namespace Go.Proofs.YtkmcdeejkcncpaaDoor.Qm
/-- A quotient by halves: what Div64 works out, where the quotient is small. -/
theorem dv_un32 {hi lo y s : Nat} (hlo : lo < 18446744073709551616) (hN : hi * 18446744073709551616 + lo < 1000 * y) (hY : y * 2 ^ s < 18446744073709551616) :
    hi * 2 ^ s + lo * 2 ^ s / 18446744073709551616 < 1000 := by
  have h1 : (hi * 18446744073709551616 + lo) * 2 ^ s < 1000 * y * 2 ^ s := Nat.mul_lt_mul_of_pos_right hN (Nat.two_pow_pos s)
  rw [Nat.mul_assoc] at h1
  rw [Nat.add_mul, Nat.mul_right_comm] at h1
  generalize hi * 2 ^ s = a at *
  generalize lo * 2 ^ s = b at *
  generalize y * 2 ^ s = c at *
  omega
theorem dv_whole {hi lo s : Nat} :
    (hi * 18446744073709551616 + lo) * 2 ^ s = (hi * 2 ^ s + lo * 2 ^ s / 18446744073709551616) * 18446744073709551616 + lo * 2 ^ s % 18446744073709551616 := by
  rw [Nat.add_mul, Nat.mul_right_comm]
  generalize hi * 2 ^ s = a at *
  generalize lo * 2 ^ s = b at *
  omega
/-- What holds of the guess q and the rest r, as they go down. -/
def DvInv (U Y q r : Nat) : Prop := q * (Y / 4294967296) + r = U / 4294967296 ∧ U / Y ≤ q ∧ q ≤ 2000
theorem dv_start {U Y : Nat} (hY : 9223372036854775808 ≤ Y) (hU : U < 1000 * Y) (hY2 : Y < 18446744073709551616) :
    DvInv U Y (U / 4294967296 / (Y / 4294967296)) (U / 4294967296 - U / 4294967296 / (Y / 4294967296) * (Y / 4294967296)) := by
  have hd := Nat.div_add_mod (U / 4294967296) (Y / 4294967296)
  have hm := Nat.mod_lt (U / 4294967296) (show 0 < Y / 4294967296 by omega)
  refine ⟨?_, ?_, ?_⟩
  · rw [Nat.mul_comm] at hd; omega
  · rw [Nat.div_div_eq_div_mul]
    apply Nat.div_le_div_left
    · omega
    · omega
  · rw [Nat.div_le_iff_le_mul_add_pred (by omega)]
    omega
theorem dv_prod (Y q : Nat) : q * Y = q * (Y / 4294967296) * 4294967296 + q * (Y % 4294967296) := by
  have := Nat.div_add_mod Y 4294967296
  calc q * Y = q * (4294967296 * (Y / 4294967296) + Y % 4294967296) := by rw [this]
    _ = _ := by rw [Nat.mul_add, Nat.mul_comm 4294967296, Nat.mul_assoc]
theorem dv_le {U Y q r : Nat} (h : DvInv U Y q r) (hc : q * (Y % 4294967296) ≤ 4294967296 * r + U % 4294967296) (hY : 0 < Y) : q = U / Y := by
  have hp := dv_prod Y q
  obtain ⟨h1, h2, _⟩ := h
  have : q ≤ U / Y := by
    rw [Nat.le_div_iff_mul_le hY]
    generalize q * (Y / 4294967296) = a at *
    omega
  omega
theorem dv_step {U Y q r : Nat} (h : DvInv U Y q r) (hc : 4294967296 * r + U % 4294967296 < q * (Y % 4294967296)) (hY : 0 < Y) :
    1 ≤ q ∧ DvInv U Y (q - 1) (r + Y / 4294967296) := by
  have hp := dv_prod Y q
  obtain ⟨h1, h2, h3⟩ := h
  have hq : 1 ≤ q := by
    rcases Nat.eq_zero_or_pos q with h0 | h0
    · subst h0; omega
    · exact h0
  have hlt : U / Y < q := by
    rw [Nat.div_lt_iff_lt_mul hY]
    generalize q * (Y / 4294967296) = a at *
    omega
  refine ⟨hq, ?_, by omega, by omega⟩
  obtain ⟨m, rfl⟩ : ∃ m, q = m + 1 := ⟨q - 1, by omega⟩
  rw [Nat.add_sub_cancel]
  rw [Nat.add_mul, Nat.one_mul] at h1
  omega
theorem dv_break {U Y q r : Nat} (h : DvInv U Y q r) (hr : 4294967296 ≤ r) (hY : 0 < Y) : q = U / Y := by
  apply dv_le h _ hY
  have : q * (Y % 4294967296) ≤ 2000 * 4294967296 := Nat.mul_le_mul h.2.2 (by omega)
  omega
theorem dv_end {N y s : Nat} : N * 2 ^ s / (y * 2 ^ s) = N / y := Nat.mul_div_mul_right _ _ (Nat.two_pow_pos s)

/-- Digit by digit: ten times r by n. -/
theorem dig_step (x y t d k : Nat) (hxy : x ≤ y) (hy : 0 < y) (h : t + d * y = k * x) (ht : t < y) :
    (y ≤ t + x → (t + x - y) + (d + 1) * y = (k + 1) * x ∧ t + x - y < y) ∧ (t + x < y → (t + x) + d * y = (k + 1) * x) := by
  constructor
  · intro h2
    rw [Nat.add_mul, Nat.add_mul, Nat.one_mul, Nat.one_mul]
    omega
  · intro h2
    rw [Nat.add_mul, Nat.one_mul]
    omega
theorem dig_le (x y t d k : Nat) (hxy : x ≤ y) (hy : 0 < y) (h : t + d * y = k * x) (hk : k ≤ 10) : d ≤ 10 := by
  have h1 : d * y ≤ 10 * y := by
    have := Nat.mul_le_mul hk hxy
    omega
  exact Nat.le_of_mul_le_mul_right h1 hy
theorem dig_out (e n q r d t p : Nat) (h : q * n + r = p * e) (hd : t + d * n = 10 * r) : (10 * q + d) * n + t = 10 * p * e := by
  rw [Nat.add_mul, Nat.mul_assoc, Nat.mul_assoc]
  omega
theorem dig_end (e n q r : Nat) (h : q * n + r = 1000 * e) (hr : r < n) : q = e * 1000 / n := by
  have : e * 1000 = n * q + r := by rw [Nat.mul_comm n]; omega
  rw [this, Nat.mul_add_div (by omega), Nat.div_eq_of_lt hr]
  omega
/-- What Rate answers. -/
def rate (c e : Int) : Int × Bool := if c ≤ 0 then (0, false) else if c ≤ e then (1000, true) else if e ≤ 0 then (0, true) else (e * 1000 / c, true)
end Go.Proofs.YtkmcdeejkcncpaaDoor.Qm
