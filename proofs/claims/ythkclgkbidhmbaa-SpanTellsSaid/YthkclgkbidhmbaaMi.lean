/- Plain mathematics of numbers as bytes: what a number and a text are written as, and what any bytes begin with. No Go in sight. -/
import Derived.WalkKit
namespace Go.Proofs.Ythkclgkbidhmbaa.Mi
open Go.RowKit

/-- The number that bytes begin with: value, how many bytes, whether there is one; from byte i on, acc gathered so far. -/
def getAux : Nat → Nat → List UInt8 → Nat × Nat × Bool
  | _, _, [] => (0, 0, false)
  | i, acc, c :: r =>
    if i = 9 ∧ 1 < c.toNat then (0, 0, false)
    else if 128 ≤ c.toNat then getAux (i + 1) (acc + (c.toNat % 128) * 128 ^ i) r
    else if c.toNat = 0 ∧ 0 < i then (0, 0, false)
    else (acc + (c.toNat % 128) * 128 ^ i, i + 1, true)
def get (l : List UInt8) : Nat × Nat × Bool := getAux 0 0 l

/-- A number as bytes, with fuel. -/
def putAux : Nat → Nat → List UInt8
  | 0, _ => []
  | f + 1, n => if 127 < n then UInt8.ofNat (n % 128 + 128) :: putAux f (n / 128) else [UInt8.ofNat n]
def put (n : Nat) : List UInt8 := putAux 10 n

theorem and127 (u : Nat) (hu : u < 256) : bits .and .u8 (u : Int) 127 = ((u % 128 : Nat) : Int) := by
  rw [show (127 : Int) = ((127 : Nat) : Int) from rfl, u8_and_nat u 127 hu (by omega), Nat.and_two_pow_sub_one_eq_mod u 7]

theorem and128 (u : Nat) (hu : u < 256) : bits .and .u8 (u : Int) 128 = ((u / 128 * 128 : Nat) : Int) := by
  rw [show (128 : Int) = ((128 : Nat) : Int) from rfl, u8_and_nat u 128 hu (by omega)]
  congr 1
  have h : ∀ x : Fin 256, x.val &&& 128 = x.val / 128 * 128 := by decide +kernel
  exact h ⟨u, hu⟩

theorem pow7 (k : Nat) : (2 : Int) ^ (7 * k) = ((128 ^ k : Nat) : Int) := by
  rw [Int.pow_mul]; norm_cast

theorem step_lt (acc u k : Nat) (h : acc < 128 ^ k) : acc + u % 128 * 128 ^ k < 128 ^ (k + 1) := by
  have h1 : u % 128 ≤ 127 := by omega
  have h2 : u % 128 * 128 ^ k ≤ 127 * 128 ^ k := Nat.mul_le_mul_right _ h1
  rw [Nat.pow_succ]; omega

theorem room (acc u k : Nat) (hk : k ≤ 9) (h9 : k = 9 → u ≤ 1) (h : acc < 128 ^ k) : acc + u % 128 * 128 ^ k < 18446744073709551616 := by
  rcases Nat.lt_or_ge k 9 with h8 | h8
  · have h1 := step_lt acc u k h
    have h2 : 128 ^ (k + 1) ≤ 128 ^ 9 := Nat.pow_le_pow_right (by omega) (by omega)
    have h3 : (128 : Nat) ^ 9 = 9223372036854775808 := by decide
    omega
  · obtain rfl : k = 9 := by omega
    have h3 : (128 : Nat) ^ 9 = 9223372036854775808 := by decide
    rw [h3] at h ⊢
    have := h9 rfl
    have : u % 128 ≤ 1 := by omega
    have : u % 128 * 9223372036854775808 ≤ 1 * 9223372036854775808 := Nat.mul_le_mul_right _ this
    omega

theorem or_step (acc u k : Nat) (hk : k ≤ 9) (h9 : k = 9 → u ≤ 1) (h : acc < 128 ^ k) :
    bits .or .u64 (acc : Int) (IntKind.u64.wrap (((u : Int) % 128) * 2 ^ (7 * k))) = ((acc + u % 128 * 128 ^ k : Nat) : Int) := by
  have hr := room acc u k hk h9 h
  rw [pow7, IntKind.wrap_u64, show ((u : Int) % 128) * ((128 ^ k : Nat) : Int) = ((u % 128 * 128 ^ k : Nat) : Int) from by push_cast; rfl]
  rw [show (((u % 128 * 128 ^ k : Nat) : Int) % 18446744073709551616) = ((u % 128 * 128 ^ k : Nat) : Int) from by omega]
  rw [u64_or_nat acc (u % 128 * 128 ^ k) (by omega) (by omega), Nat.or_comm, nat_join (7 * k) (u % 128 * 128 ^ k) acc (by rw [Nat.pow_mul]; exact Nat.mul_mod_left _ _) (by rw [Nat.pow_mul]; exact h)]
  congr 1; omega

theorem or_nine (acc u acc2 k : Nat) (hk : k = 9) (hu : u ≤ 1) (h : bits .or .u64 (acc : Int) (IntKind.u64.wrap (((u : Int) % 128) * 2 ^ (7 * k))) = (acc2 : Int)) :
    bits .or .u64 (acc : Int) ((u : Int) % 128 * 9223372036854775808) = (acc2 : Int) := by
  subst hk
  rw [← h, IntKind.wrap_u64, show (2 : Int) ^ (7 * 9) = 9223372036854775808 from by decide]
  congr 1
  omega

theorem getAux_lt : ∀ (l : List UInt8) (i acc : Nat), acc < 128 ^ i → i ≤ 9 → (getAux i acc l).1 < 18446744073709551616
  | [], _, _, _, _ => by simp [getAux]
  | c :: r, i, acc, h, hi => by
    unfold getAux
    split
    · simp
    · rename_i h9
      have hr := room acc c.toNat i hi (by intro e; by_cases hc : c.toNat ≤ 1; exact hc; exact absurd ⟨e, by omega⟩ h9) h
      split
      · rename_i h128
        exact getAux_lt r (i + 1) _ (step_lt acc c.toNat i h) (by
          rcases Nat.lt_or_ge i 9 with hh | hh
          · omega
          · exact absurd ⟨by omega, by omega⟩ h9)
      · split
        · simp
        · exact hr

theorem get_lt (l : List UInt8) : (get l).1 < 18446744073709551616 := getAux_lt l 0 0 (by decide) (by omega)

theorem getAux_len : ∀ (l : List UInt8) (i acc : Nat), (getAux i acc l).2.1 ≤ i + l.length
  | [], _, _ => by simp [getAux]
  | c :: r, i, acc => by
    unfold getAux
    have ih := getAux_len r (i + 1) (acc + (c.toNat % 128) * 128 ^ i)
    simp only [List.length_cons]
    split
    · simp
    · split
      · omega
      · split <;> simp <;> omega

theorem get_len (l : List UInt8) : (get l).2.1 ≤ l.length := by have := getAux_len l 0 0; unfold get; omega

theorem getAux_no (l : List UInt8) : ∀ (i acc : Nat), (getAux i acc l).2.2 = false → getAux i acc l = (0, 0, false) := by
  induction l with
  | nil => intro i acc _; rfl
  | cons c r ih =>
    intro i acc
    unfold getAux
    split
    · intro _; rfl
    · split
      · exact ih _ _
      · split
        · intro _; rfl
        · intro h; simp at h

theorem putAux_more : ∀ (f n : Nat), n < 128 ^ f → 0 < f → putAux (f + 1) n = putAux f n
  | 0, _, _, h => absurd h (by omega)
  | 1, n, h, _ => by
    unfold putAux
    rw [if_neg (by omega), if_neg (by omega)]
  | f + 2, n, h, _ => by
    have ih := putAux_more (f + 1) (n / 128) (by rw [Nat.div_lt_iff_lt_mul (by omega)]; rw [Nat.pow_succ] at h; exact h) (by omega)
    rw [putAux, ih]
    conv => rhs; rw [putAux]
theorem put_step (n : Nat) (h : n < 18446744073709551616) : put n = if 127 < n then UInt8.ofNat (n % 128 + 128) :: put (n / 128) else [UInt8.ofNat n] := by
  have h10 : (128 : Nat) ^ 10 = 1180591620717411303424 := by decide
  have := putAux_more 10 n (by omega) (by omega)
  unfold put
  rw [← this]
  conv => lhs; rw [putAux]
theorem put_len (n : Nat) : 0 < (put n).length ∧ (put n).length ≤ 10 := by
  have : ∀ (f n : Nat), (putAux f n).length ≤ f ∧ (0 < f → 0 < (putAux f n).length) := by
    intro f
    induction f with
    | zero => intro n; simp [putAux]
    | succ f ih =>
      intro n
      unfold putAux
      split
      · have := (ih (n / 128)).1
        simp; omega
      · simp
  exact ⟨(this 10 n).2 (by omega), (this 10 n).1⟩
theorem or128 (n : Nat) : bits .or .u8 ((n : Int) % 256) 128 = (((UInt8.ofNat (n % 128 + 128)).toNat : Nat) : Int) := by
  have h : ∀ x : Fin 256, x.val ||| 128 = x.val % 128 + 128 := by decide +kernel
  rw [show (128 : Int) = ((128 : Nat) : Int) from rfl, show (n : Int) % 256 = ((n % 256 : Nat) : Int) from by omega, u8_or_nat _ _ (Nat.mod_lt _ (by omega)) (by omega), h ⟨n % 256, Nat.mod_lt _ (by omega)⟩]
  rw [UInt8.toNat_ofNat']
  have : (n % 128 + 128) % 2 ^ 8 = n % 256 % 128 + 128 := by omega
  rw [this]
theorem low8 (n : Nat) (h : n ≤ 127) : (((UInt8.ofNat n).toNat : Nat) : Int) = (n : Int) := by
  rw [UInt8.toNat_ofNat']
  have : n % 2 ^ 8 = n := by omega
  rw [this]

/-- How many groups are still to come, k counted: none where x is 0, else as many as x is written with. -/
def left (x : Nat) : Nat := if x = 0 then 0 else (put x).length
theorem left_step (x : Nat) (h : x < 18446744073709551616) (h0 : 0 < x) : left x = 1 + left (x / 128) := by
  have hs := put_step x h
  unfold left
  rw [if_neg (by omega)]
  by_cases h1 : 127 < x
  · rw [if_pos h1] at hs
    rw [hs, if_neg (by omega)]
    simp only [List.length_cons]; omega
  · rw [if_neg h1] at hs
    rw [hs, if_pos (by omega)]
    rfl
theorem len_left (n : Nat) (h : n < 18446744073709551616) : (put n).length = 1 + left (n / 128) := by
  by_cases h0 : n = 0
  · subst h0; decide
  · have := left_step n h (by omega)
    unfold left at this
    rw [if_neg h0] at this
    exact this

/-- Bytes that all say that more follows, and then a zero, begin with no number. -/
theorem getAux_zero : ∀ (l : List UInt8) (i acc : Nat), (∀ c ∈ l, 128 ≤ c.toNat) → 0 < i + l.length → (getAux i acc (l ++ [0])).2.2 = false
  | [], i, acc, _, h => by
    have h0 : (0 : UInt8).toNat = 0 := rfl
    simp only [List.length_nil, Nat.add_zero] at h
    rw [List.nil_append, getAux, h0, if_neg (by omega), if_neg (by omega), if_pos ⟨rfl, h⟩]
  | c :: r, i, acc, hall, _ => by
    have hc := hall c (by simp)
    rw [List.cons_append, getAux]
    split
    · rfl
    · try rw [if_pos hc]
      exact getAux_zero r (i + 1) _ (fun x hx => hall x (by simp [hx])) (by omega)
theorem get_zero (l : List UInt8) (h : ∀ c ∈ l, 128 ≤ c.toNat) (hl : 0 < l.length) : (get (l ++ [0])).2.2 = false := getAux_zero l 0 0 h (by omega)
/-- All bytes of a number but its last say that more follow. -/
theorem put_high : ∀ (f n i : Nat), i + 1 < (putAux f n).length → 128 ≤ ((putAux f n).getD i 0).toNat
  | 0, _, _, h => by simp [putAux] at h
  | f + 1, n, i, h => by
    unfold putAux at h ⊢
    by_cases h1 : 127 < n
    · rw [if_pos h1] at h ⊢
      rcases i with _ | i
      · simp only [List.getD_cons_zero, UInt8.toNat_ofNat']
        omega
      · simp only [List.getD_cons_succ]
        exact put_high f _ i (by simpa using h)
    · rw [if_neg h1] at h
      simp at h

theorem or128u (d : UInt8) : ∃ c : UInt8, 128 ≤ c.toNat ∧ bits .or .u8 (d.toNat : Int) 128 = (c.toNat : Int) := by
  refine ⟨UInt8.ofNat (d.toNat % 128 + 128), ?_, ?_⟩
  · rw [UInt8.toNat_ofNat']; omega
  · have h := or128 d.toNat
    have hd := d.toNat_lt
    rw [show ((d.toNat : Int) % 256) = (d.toNat : Int) from by omega] at h
    exact h
theorem split_last (l : List UInt8) (h : 0 < l.length) : ∃ p d, l = p ++ [d] := by
  rcases List.eq_nil_or_concat l with rfl | ⟨p, d, rfl⟩
  · simp at h
  · exact ⟨p, d, by simp⟩
theorem high_init (p : List UInt8) (d : UInt8) (h : ∀ j, j + 1 < (p ++ [d]).length → 128 ≤ ((p ++ [d]).getD j 0).toNat) : ∀ c ∈ p, 128 ≤ c.toNat := by
  intro c hc
  obtain ⟨j, hj, rfl⟩ := List.getElem_of_mem hc
  have := h j (by simp; omega)
  simpa [List.getD, List.getElem?_append_left hj, hj] using this

/-- The last byte, and what stands there when its high bit is set. -/
theorem last_high (l : List UInt8) (h : 0 < l.length) (hh : ∀ j, j + 1 < l.length → 128 ≤ (l.getD j 0).toNat) :
    ∃ d c : UInt8, l[l.length - 1]? = some d ∧ bits .or .u8 (d.toNat : Int) 128 = (c.toNat : Int) ∧ ∀ x ∈ l.set (l.length - 1) c, 128 ≤ x.toNat := by
  obtain ⟨p, d, rfl⟩ := split_last l h
  obtain ⟨c, hc, e⟩ := or128u d
  refine ⟨d, c, by simp, e, fun x hx => ?_⟩
  have hs : (p ++ [d]).set ((p ++ [d]).length - 1) c = p ++ [c] := by simp
  rw [hs, List.mem_append] at hx
  rcases hx with hx | hx
  · exact high_init p d hh x hx
  · simp at hx; subst hx; exact hc

/-- A text as bytes, its length ahead. -/
def text (s : List UInt8) : List UInt8 := put s.length ++ s

/-- The text that bytes begin with. -/
def gettext (l : List UInt8) : List UInt8 × Nat × Bool :=
  if (get l).2.2 = true ∧ (get l).1 ≤ l.length - (get l).2.1 then ((l.drop (get l).2.1).take (get l).1, (get l).2.1 + (get l).1, true) else ([], 0, false)

theorem drop_step (l : List UInt8) (k : Nat) (hk : k < l.length) : l.drop k = l.getD k 0 :: l.drop (k + 1) := by
  rw [List.drop_eq_getElem_cons hk]; congr 1; simp [List.getD, hk]

theorem getAux_put : ∀ (f n i acc : Nat) (more : List UInt8), i + f = 10 → 0 < f → acc + n * 128 ^ i < 18446744073709551616 → (0 < i → 0 < n) →
    getAux i acc (putAux f n ++ more) = (acc + n * 128 ^ i, i + (putAux f n).length, true)
  | 0, _, _, _, _, _, h, _, _ => absurd h (by omega)
  | f + 1, n, i, acc, more, hf, _, hn, h0 => by
    have h9 : (128 : Nat) ^ 9 = 9223372036854775808 := by decide
    have hn1 : i = 9 → n ≤ 1 := by
      rintro rfl
      rw [h9] at hn
      omega
    unfold putAux
    by_cases h1 : 127 < n
    · have hc : (UInt8.ofNat (n % 128 + 128)).toNat = n % 128 + 128 := by rw [UInt8.toNat_ofNat']; omega
      have hi9 : i ≠ 9 := by intro e; have := hn1 e; omega
      rw [if_pos h1, List.cons_append, getAux, hc, if_neg (by omega), if_pos (by omega), show (n % 128 + 128) % 128 = n % 128 from by omega]
      have e1 : n * 128 ^ i = (n % 128) * 128 ^ i + (n / 128) * 128 ^ (i + 1) := by
        rw [Nat.pow_succ, Nat.mul_comm (128 ^ i) 128, ← Nat.mul_assoc, ← Nat.add_mul]
        congr 1
        omega
      rw [getAux_put f (n / 128) (i + 1) _ more (by omega) (by omega) (by omega) (by omega)]
      simp only [List.length_cons, Prod.mk.injEq, and_true]
      constructor <;> omega
    · have hc : (UInt8.ofNat n).toNat = n := by rw [UInt8.toNat_ofNat']; omega
      have hz : ¬ (n = 0 ∧ 0 < i) := by intro e; have := h0 e.2; omega
      rw [if_neg h1, List.cons_append, getAux, hc, if_neg (by intro e; have := hn1 e.1; omega), if_neg (by omega), if_neg hz, show n % 128 = n from by omega]
      simp
theorem get_put (n : Nat) (more : List UInt8) (h : n < 18446744073709551616) : get (put n ++ more) = (n, (put n).length, true) := by
  have := getAux_put 10 n 0 0 more rfl (by omega) (by simpa using h) (by omega)
  unfold get put
  rw [this]
  simp
theorem getAux_high : ∀ (l : List UInt8) (i acc : Nat), (∀ c ∈ l, 128 ≤ c.toNat) → (getAux i acc l).2.2 = false
  | [], _, _, _ => rfl
  | c :: r, i, acc, hall => by
    rw [getAux]
    split
    · rfl
    · rw [if_pos (hall c (by simp))]
      exact getAux_high r (i + 1) _ (fun x hx => hall x (by simp [hx]))
theorem put_take_high (n k : Nat) (h : k < (put n).length) : ∀ c ∈ (put n).take k, 128 ≤ c.toNat := by
  intro c hc
  obtain ⟨j, hj, rfl⟩ := List.getElem_of_mem hc
  rw [List.length_take] at hj
  have := put_high 10 n j (show j + 1 < (putAux 10 n).length from by have : (put n).length = (putAux 10 n).length := rfl; omega)
  rw [List.getElem_take]
  have hj2 : j < (putAux 10 n).length := by have : (put n).length = (putAux 10 n).length := rfl; omega
  have e : (putAux 10 n).getD j 0 = (put n)[j]'(by omega) := by simp [List.getD, hj2]; rfl
  rw [e] at this
  exact this
theorem get_take (n k : Nat) (h : k < (put n).length) : (get ((put n).take k)).2.2 = false := getAux_high _ 0 0 (put_take_high n k h)
theorem gettext_text (s more : List UInt8) (h : s.length < 18446744073709551616) : gettext (text s ++ more) = (s, (text s).length, true) := by
  have hg := get_put s.length (s ++ more) h
  unfold gettext text
  rw [List.append_assoc, hg, if_pos ⟨rfl, by simp⟩]
  simp
theorem gettext_take (s : List UInt8) (k : Nat) (h : s.length < 18446744073709551616) (hk : k < (text s).length) : (gettext ((text s).take k)).2.2 = false := by
  unfold gettext text
  by_cases h1 : k < (put s.length).length
  · have e : (put s.length ++ s).take k = (put s.length).take k := by rw [List.take_append_of_le_length (by omega)]
    rw [e, if_neg]
    rintro ⟨h2, _⟩
    rw [get_take _ _ h1] at h2
    cases h2
  · have e : (put s.length ++ s).take k = put s.length ++ s.take (k - (put s.length).length) := by rw [List.take_append, List.take_of_length_le (by omega)]
    rw [e, get_put _ _ h, if_neg]
    rintro ⟨_, h3⟩
    simp only [List.length_append, List.length_take] at h3
    unfold text at hk
    simp only [List.length_append] at hk
    omega
/-- Many numbers, and many texts, one behind the other. -/
def puts (l : List Int) : List UInt8 := l.flatMap fun z => put z.toNat
def texts (l : List ByteArray) : List UInt8 := l.flatMap fun s => text s.data.toList
theorem puts_len (l : List Int) : (puts l).length ≤ 10 * l.length := by
  induction l with
  | nil => simp [puts]
  | cons z r ih =>
    have := (put_len z.toNat).2
    simp only [puts, List.flatMap_cons, List.length_append, List.length_cons] at *
    omega
theorem texts_len (l : List ByteArray) (h : ∀ s ∈ l, s.size ≤ 100) : (texts l).length ≤ 110 * l.length := by
  induction l with
  | nil => simp [texts]
  | cons z r ih =>
    have h1 := ih (fun s hs => h s (by simp [hs]))
    have h2 := h z (by simp)
    have h3 := (put_len z.data.toList.length).2
    have h4 : z.data.toList.length = z.size := by rw [Array.length_toList]; rfl
    simp only [texts, List.flatMap_cons, List.length_append, List.length_cons, text] at *
    omega
theorem puts_snoc (l : List Int) (k : Nat) (h : k < l.length) : puts (l.take (k + 1)) = puts (l.take k) ++ put (l[k]).toNat := by
  unfold puts; rw [List.take_succ_eq_append_getElem h, List.flatMap_append]; simp only [List.flatMap_cons, List.flatMap_nil, List.append_nil]
theorem texts_snoc (l : List ByteArray) (k : Nat) (h : k < l.length) : texts (l.take (k + 1)) = texts (l.take k) ++ text (l[k]).data.toList := by
  unfold texts; rw [List.take_succ_eq_append_getElem h, List.flatMap_append]; simp only [List.flatMap_cons, List.flatMap_nil, List.append_nil]
theorem puts_drop (l : List Int) (k : Nat) (h : k < l.length) : puts (l.drop k) = put (l[k]).toNat ++ puts (l.drop (k + 1)) := by
  unfold puts; rw [List.drop_eq_getElem_cons h]; simp only [List.flatMap_cons]
theorem texts_drop (l : List ByteArray) (k : Nat) (h : k < l.length) : texts (l.drop k) = text (l[k]).data.toList ++ texts (l.drop (k + 1)) := by
  unfold texts; rw [List.drop_eq_getElem_cons h]; simp only [List.flatMap_cons]
end Go.Proofs.Ythkclgkbidhmbaa.Mi
