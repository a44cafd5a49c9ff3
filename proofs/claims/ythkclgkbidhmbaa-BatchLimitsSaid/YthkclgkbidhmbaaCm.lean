/- Plain mathematics of the cyclic sum: it is linear, nothing but 0 goes to 0, and no bit comes back to itself within 4000 steps. No Go in sight. -/
import Derived.WalkKit
import Derived.Laws.BitsAllLaws
namespace Go.Proofs.Ythkclgkbidhmbaa.Cm
open Go.RowKit
set_option linter.unusedVariables false

def bit1 (n : Nat) : Nat := n / 2 ^^^ (if n % 2 = 1 then 3988292384 else 0)
def it : Nat → Nat → Nat
  | 0, n => n
  | k + 1, n => it k (bit1 n)
def turn (n : Nat) : Nat := it 8 n
def fold : Nat → List UInt8 → Nat
  | n, [] => n
  | n, c :: r => fold (turn (n ^^^ c.toNat)) r
def more (s : Nat) (l : List UInt8) : Nat := 4294967295 ^^^ fold (4294967295 ^^^ s) l
def sum (l : List UInt8) : Nat := more 0 l

theorem xor_zero {a b : Nat} (h : a ^^^ b = 0) : a = b := by
  have e : a ^^^ b ^^^ b = a := by rw [Nat.xor_assoc, Nat.xor_self, Nat.xor_zero]
  rw [← e, h, Nat.zero_xor]

theorem bit1_lt (n : Nat) (h : n < 4294967296) : bit1 n < 4294967296 := by
  unfold bit1
  refine Nat.xor_lt_two_pow (n := 32) (by omega) (by split <;> omega)
theorem it_lt : ∀ (k n : Nat), n < 4294967296 → it k n < 4294967296
  | 0, _, h => h
  | k + 1, n, h => it_lt k _ (bit1_lt n h)
theorem turn_lt (n : Nat) (h : n < 4294967296) : turn n < 4294967296 := it_lt 8 n h
theorem byte_lt (c : UInt8) : c.toNat < 4294967296 := by have := c.toNat_lt; omega
theorem xor_lt {a b : Nat} (ha : a < 4294967296) (hb : b < 4294967296) : a ^^^ b < 4294967296 := Nat.xor_lt_two_pow (n := 32) ha hb
theorem fold_lt : ∀ (l : List UInt8) (n : Nat), n < 4294967296 → fold n l < 4294967296
  | [], _, h => h
  | c :: r, n, h => fold_lt r _ (turn_lt _ (xor_lt h (byte_lt c)))
theorem more_lt (s : Nat) (l : List UInt8) (h : s < 4294967296) : more s l < 4294967296 := xor_lt (by omega) (fold_lt l _ (xor_lt (by omega) h))
theorem sum_lt (l : List UInt8) : sum l < 4294967296 := more_lt 0 l (by omega)

theorem bit1_xor (a b : Nat) : bit1 (a ^^^ b) = bit1 a ^^^ bit1 b := by
  unfold bit1
  have h1 : (a ^^^ b) / 2 = a / 2 ^^^ b / 2 := by
    have := Nat.shiftRight_xor_distrib (a := a) (b := b) (i := 1)
    simpa [Nat.shiftRight_eq_div_pow] using this
  have h2 : (a ^^^ b) % 2 = 1 ↔ ¬ (a % 2 = 1 ↔ b % 2 = 1) := Nat.xor_mod_two_eq_one
  rw [h1]
  by_cases ha : a % 2 = 1 <;> by_cases hb : b % 2 = 1
  · rw [if_neg (by rw [h2]; simp [ha, hb]), if_pos ha, if_pos hb]
    have : a / 2 ^^^ 3988292384 ^^^ (b / 2 ^^^ 3988292384) = a / 2 ^^^ b / 2 ^^^ (3988292384 ^^^ 3988292384) := by ac_rfl
    rw [this, Nat.xor_self]
  · rw [if_pos (by rw [h2]; simp [ha, hb]), if_pos ha, if_neg hb, Nat.xor_zero]; ac_rfl
  · rw [if_pos (by rw [h2]; simp [ha, hb]), if_neg ha, if_pos hb, Nat.xor_zero]; ac_rfl
  · rw [if_neg (by rw [h2]; simp [ha, hb]), if_neg ha, if_neg hb]; simp
theorem it_xor : ∀ (k a b : Nat), it k (a ^^^ b) = it k a ^^^ it k b
  | 0, _, _ => rfl
  | k + 1, a, b => by unfold it; rw [bit1_xor, it_xor k]
theorem it_add : ∀ (j k n : Nat), it (j + k) n = it k (it j n)
  | 0, k, n => by rw [Nat.zero_add]; rfl
  | j + 1, k, n => by rw [show j + 1 + k = (j + k) + 1 from by omega]; show it (j + k) (bit1 n) = _; rw [it_add j k]; rfl
theorem turn_xor (a b : Nat) : turn (a ^^^ b) = turn a ^^^ turn b := it_xor 8 a b
theorem it_zero : ∀ k : Nat, it k 0 = 0
  | 0 => rfl
  | k + 1 => by show it k (bit1 0) = 0; rw [show bit1 0 = 0 from by decide]; exact it_zero k
theorem bit1_zero (n : Nat) (h : n < 4294967296) (hz : bit1 n = 0) : n = 0 := by
  unfold bit1 at hz
  have := xor_zero hz
  split at this <;> omega
theorem it_ne : ∀ (k n : Nat), n < 4294967296 → n ≠ 0 → it k n ≠ 0
  | 0, _, _, h => h
  | k + 1, n, hl, h => it_ne k _ (bit1_lt n hl) (fun e => h (bit1_zero n hl e))
theorem it_inj (k a b : Nat) (ha : a < 4294967296) (hb : b < 4294967296) (h : it k a = it k b) : a = b := by
  have h1 : it k (a ^^^ b) = 0 := by rw [it_xor, h, Nat.xor_self]
  have h2 : a ^^^ b = 0 := by
    rcases Nat.eq_zero_or_pos (a ^^^ b) with e | e
    · exact e
    · exact absurd h1 (it_ne k _ (xor_lt ha hb) (by omega))
  exact xor_zero h2

/-- What stands in one list alone, over the end of the other. -/
theorem fold_xor : ∀ (l : List UInt8) (a b : Nat), fold (a ^^^ b) l = fold a l ^^^ it (8 * l.length) b
  | [], _, _ => rfl
  | c :: r, a, b => by
    show fold (turn (a ^^^ b ^^^ c.toNat)) r = _
    rw [show a ^^^ b ^^^ c.toNat = a ^^^ c.toNat ^^^ b from by ac_rfl, turn_xor, fold_xor r]
    show _ = fold (turn (a ^^^ c.toNat)) r ^^^ it (8 * (r.length + 1)) b
    rw [show 8 * (r.length + 1) = 8 + 8 * r.length from by omega, it_add]
    rfl
theorem fold_set : ∀ (l : List UInt8) (n k : Nat) (x : UInt8), k < l.length → fold n (l.set k (l.getD k 0 ^^^ x)) = fold n l ^^^ it (8 * (l.length - k)) x.toNat
  | [], _, _, _, h => absurd h (by simp)
  | c :: r, n, 0, x, _ => by
    show fold (turn (n ^^^ (c ^^^ x).toNat)) r = fold (turn (n ^^^ c.toNat)) r ^^^ it (8 * (r.length + 1)) x.toNat
    rw [UInt8.toNat_xor, ← Nat.xor_assoc, turn_xor, fold_xor, show 8 * (r.length + 1) = 8 + 8 * r.length from by omega, it_add]
    rfl
  | c :: r, n, k + 1, x, h => by
    show fold (turn (n ^^^ c.toNat)) (r.set k (r.getD k 0 ^^^ x)) = fold (turn (n ^^^ c.toNat)) r ^^^ it (8 * (r.length + 1 - (k + 1))) x.toNat
    rw [fold_set r _ k x (by simpa using h), show r.length + 1 - (k + 1) = r.length - k from by omega]
theorem sum_set (l : List UInt8) (k : Nat) (x : UInt8) (h : k < l.length) : sum (l.set k (l.getD k 0 ^^^ x)) = sum l ^^^ it (8 * (l.length - k)) x.toNat := by
  unfold sum more
  rw [fold_set l _ k x h, Nat.xor_assoc]

theorem fold_append : ∀ (l m : List UInt8) (n : Nat), fold n (l ++ m) = fold (fold n l) m
  | [], _, _ => rfl
  | c :: r, m, n => fold_append r m _
theorem ff_ff (a : Nat) : 4294967295 ^^^ (4294967295 ^^^ a) = a := by rw [← Nat.xor_assoc, Nat.xor_self, Nat.zero_xor]
theorem more_sum (l m : List UInt8) : more (sum l) m = sum (l ++ m) := by
  unfold sum more
  rw [ff_ff, fold_append]

/-- Three of one length, xored. -/
def xor3 : List UInt8 → List UInt8 → List UInt8 → List UInt8
  | a :: l, b :: m, c :: k => (a ^^^ b ^^^ c) :: xor3 l m k
  | _, _, _ => []
theorem xor3_len : ∀ (l m k : List UInt8), m.length = l.length → k.length = l.length → (xor3 l m k).length = l.length
  | [], _, _, _, _ => rfl
  | a :: l, b :: m, c :: k, h1, h2 => by simp [xor3, xor3_len l m k (by simpa using h1) (by simpa using h2)]
  | a :: l, [], _, h1, _ => absurd h1 (by simp)
  | a :: l, b :: m, [], _, h2 => absurd h2 (by simp)
theorem fold3 : ∀ (l m k : List UInt8) (x y z : Nat), m.length = l.length → k.length = l.length → fold x l ^^^ fold y m ^^^ fold z k = fold (x ^^^ y ^^^ z) (xor3 l m k)
  | [], [], [], _, _, _, _, _ => rfl
  | a :: l, b :: m, c :: k, x, y, z, h1, h2 => by
    show fold _ l ^^^ fold _ m ^^^ fold _ k = fold (turn (x ^^^ y ^^^ z ^^^ (a ^^^ b ^^^ c).toNat)) (xor3 l m k)
    rw [fold3 l m k _ _ _ (by simpa using h1) (by simpa using h2), ← turn_xor, ← turn_xor, UInt8.toNat_xor, UInt8.toNat_xor]
    congr 2
    ac_rfl
  | [], _ :: _, _, _, _, _, h1, _ => absurd h1 (by simp)
  | [], [], _ :: _, _, _, _, _, h2 => absurd h2 (by simp)
  | a :: l, [], _, _, _, _, h1, _ => absurd h1 (by simp)
  | a :: l, b :: m, [], _, _, _, _, h2 => absurd h2 (by simp)
theorem sum3 (l m k : List UInt8) (h1 : m.length = l.length) (h2 : k.length = l.length) : sum l ^^^ sum m ^^^ sum k = sum (xor3 l m k) := by
  unfold sum more
  have := fold3 l m k 4294967295 4294967295 4294967295 h1 h2
  rw [Nat.xor_self, Nat.zero_xor] at this
  simp only [Nat.xor_zero]
  rw [← this]
  have e : ∀ f a b c : Nat, f ^^^ a ^^^ (f ^^^ b) ^^^ (f ^^^ c) = f ^^^ f ^^^ (f ^^^ (a ^^^ b ^^^ c)) := by intro f a b c; ac_rfl
  rw [e, Nat.xor_self, Nat.zero_xor]

/-- Eight steps of what ends in eight noughts. -/
theorem bit1_even (n : Nat) : bit1 (2 * n) = n := by
  unfold bit1
  rw [if_neg (by omega), Nat.xor_zero]; omega
theorem it_pow : ∀ (k n : Nat), it k (2 ^ k * n) = n
  | 0, n => by simp [it]
  | k + 1, n => by
    show it k (bit1 (2 ^ (k + 1) * n)) = n
    rw [show 2 ^ (k + 1) * n = 2 * (2 ^ k * n) from by rw [Nat.pow_succ]; ac_rfl, bit1_even, it_pow k n]
theorem low_xor (n : Nat) : n ^^^ n % 256 = 2 ^ 8 * (n / 256) := by
  have h1 : 2 ^ 8 * (n / 256) ||| n % 256 = n := by
    rw [nat_join 8 _ _ (by omega) (by omega)]; omega
  have h2 : 2 ^ 8 * (n / 256) &&& n % 256 = 0 := by
    apply Nat.eq_of_testBit_eq
    intro i
    rw [Nat.testBit_and, Nat.zero_testBit]
    by_cases hi : i < 8
    · have : (2 ^ 8 * (n / 256)).testBit i = false := by rw [Nat.testBit_two_pow_mul]; simp; omega
      rw [this]; rfl
    · have : (n % 256).testBit i = false := Nat.testBit_lt_two_pow (Nat.lt_of_lt_of_le (Nat.mod_lt _ (by omega)) (show 2 ^ 8 ≤ 2 ^ i from Nat.pow_le_pow_right (by omega) (by omega)))
      rw [this, Bool.and_false]
  apply Nat.eq_of_testBit_eq
  intro i
  have e1 := congrArg (Nat.testBit · i) h1
  have e2 := congrArg (Nat.testBit · i) h2
  simp only [Nat.testBit_or, Nat.testBit_and, Nat.zero_testBit] at e1 e2
  rw [Nat.testBit_xor, ← e1]
  revert e2
  cases (2 ^ 8 * (n / 256)).testBit i <;> cases (n % 256).testBit i <;> simp
theorem turn_low (n : Nat) : turn (n ^^^ n % 256) = n / 256 := by rw [low_xor]; exact it_pow 8 _

/-- A number's four bytes, the lowest first. -/
def le4 (n : Nat) : List UInt8 := [UInt8.ofNat (n % 256), UInt8.ofNat (n / 256 % 256), UInt8.ofNat (n / 65536 % 256), UInt8.ofNat (n / 16777216 % 256)]
theorem toNat_mod (n : Nat) : (UInt8.ofNat (n % 256)).toNat = n % 256 := by rw [UInt8.toNat_ofNat']; omega
theorem fold_self (n : Nat) (h : n < 4294967296) : fold n (le4 n) = 0 := by
  unfold le4
  simp only [fold, toNat_mod]
  rw [turn_low, turn_low, show n / 65536 = n / 256 / 256 from by omega, turn_low, show n / 16777216 = n / 256 / 256 / 256 from by omega, turn_low]
  omega
theorem fold_le4 (a n : Nat) (h : n < 4294967296) : fold a (le4 n) = it 32 (a ^^^ n) := by
  have h1 := fold_xor (le4 n) n (n ^^^ a)
  rw [fold_self n h, Nat.zero_xor, ← Nat.xor_assoc, Nat.xor_self, Nat.zero_xor] at h1
  rw [h1, Nat.xor_comm n a]
  rfl
theorem rest (n : Nat) (h : n < 4294967296) : more n (le4 n) = 558161692 := by
  unfold more
  rw [fold_le4 _ n h, Nat.xor_assoc, Nat.xor_self, Nat.xor_zero]
  decide +kernel

/-- No bit comes back within 4000 steps. -/
def back : Nat → Nat → Bool
  | 0, _ => true
  | k + 1, n => n != 1 && back k (bit1 n)
theorem back_it : ∀ (k n t : Nat), back k n = true → t < k → it t n ≠ 1
  | 0, _, _, _, h => absurd h (by omega)
  | k + 1, n, 0, h, _ => by
    simp only [back, Bool.and_eq_true, bne_iff_ne] at h
    exact h.1
  | k + 1, n, t + 1, h, ht => by
    simp only [back, Bool.and_eq_true] at h
    exact back_it k (bit1 n) t h.2 (by omega)
theorem back4000 : back 4000 (bit1 1) = true := by decide +kernel
theorem no_back (t : Nat) (h0 : 0 < t) (h : t ≤ 4000) : it t 1 ≠ 1 := by
  obtain ⟨u, rfl⟩ : ∃ u, t = u + 1 := ⟨t - 1, by omega⟩
  exact back_it 4000 (bit1 1) u back4000 (by omega)
theorem apart (u v : Nat) (hu : u ≤ 4000) (hv : v ≤ 4000) (hne : u ≠ v) : it u 1 ≠ it v 1 := by
  intro e
  rcases Nat.lt_or_ge u v with h | h
  · obtain ⟨d, rfl⟩ : ∃ d, v = d + u := ⟨v - u, by omega⟩
    rw [it_add] at e
    exact no_back d (by omega) (by omega) (it_inj u _ _ (by decide) (it_lt _ _ (by decide)) e).symm
  · obtain ⟨d, rfl⟩ : ∃ d, u = d + v := ⟨u - v, by omega⟩
    rw [it_add] at e
    exact no_back d (by omega) (by omega) (it_inj v _ _ (it_lt _ _ (by decide)) (by decide) e)
/-- One bit, wherever it stands, is that many steps of the first. -/
theorem it_bit (m a : Nat) (h : a ≤ m) : it m (2 ^ a) = it (m - a) 1 := by
  conv => lhs; rw [show m = a + (m - a) from by omega]
  rw [it_add]
  have := it_pow a 1
  rw [Nat.mul_one] at this
  rw [this]
end Go.Proofs.Ythkclgkbidhmbaa.Cm
