/- Several texts of tools, one behind the other. -/
import Derived.WalkKit
import Derived.Laws.BitsAllLaws
/- Plain mathematics of numbers as bytes: what a number and a text are written as, and what any bytes begin with. No Go in sight. -/
namespace Go.Proofs.YtgiahfjndononaaDoor.Mi
open Go.RowKit

/-- The number that bytes begin with: value, how many bytes, whether there is one; from byte i on, acc gathered so far. -/
def getAux : Nat → Nat → List UInt8 → Nat × Nat × Bool
  | _, _, [] => (0, 0, false)
  | i, acc, c :: r =>
    if i = 9 ∧ 1 < c.toNat then (0, 0, false)
    else if 128 ≤ c.toNat then getAux (i + 1) (acc + (c.toNat % 128) * 128 ^ i) r
    else if c.toNat = 0 ∧ 0 < i then (0, 0, false)
    else (acc + (c.toNat % 128) * 128 ^ i, i + 1, true)
def get (l : List UInt8) : Nat × Nat × Bool := getAux 0 0 l

/-- A number as bytes, with fuel. -/
def putAux : Nat → Nat → List UInt8
  | 0, _ => []
  | f + 1, n => if 127 < n then UInt8.ofNat (n % 128 + 128) :: putAux f (n / 128) else [UInt8.ofNat n]
def put (n : Nat) : List UInt8 := putAux 10 n

theorem and127 (u : Nat) (hu : u < 256) : bits .and .u8 (u : Int) 127 = ((u % 128 : Nat) : Int) := by
  rw [show (127 : Int) = ((127 : Nat) : Int) from rfl, u8_and_nat u 127 hu (by omega), Nat.and_two_pow_sub_one_eq_mod u 7]

theorem and128 (u : Nat) (hu : u < 256) : bits .and .u8 (u : Int) 128 = ((u / 128 * 128 : Nat) : Int) := by
  rw [show (128 : Int) = ((128 : Nat) : Int) from rfl, u8_and_nat u 128 hu (by omega)]
  congr 1
  have h : ∀ x : Fin 256, x.val &&& 128 = x.val / 128 * 128 := by decide +kernel
  exact h ⟨u, hu⟩

theorem pow7 (k : Nat) : (2 : Int) ^ (7 * k) = ((128 ^ k : Nat) : Int) := by
  rw [Int.pow_mul]; norm_cast

theorem step_lt (acc u k : Nat) (h : acc < 128 ^ k) : acc + u % 128 * 128 ^ k < 128 ^ (k + 1) := by
  have h1 : u % 128 ≤ 127 := by omega
  have h2 : u % 128 * 128 ^ k ≤ 127 * 128 ^ k := Nat.mul_le_mul_right _ h1
  rw [Nat.pow_succ]; omega

theorem room (acc u k : Nat) (hk : k ≤ 9) (h9 : k = 9 → u ≤ 1) (h : acc < 128 ^ k) : acc + u % 128 * 128 ^ k < 18446744073709551616 := by
  rcases Nat.lt_or_ge k 9 with h8 | h8
  · have h1 := step_lt acc u k h
    have h2 : 128 ^ (k + 1) ≤ 128 ^ 9 := Nat.pow_le_pow_right (by omega) (by omega)
    have h3 : (128 : Nat) ^ 9 = 9223372036854775808 := by decide
    omega
  · obtain rfl : k = 9 := by omega
    have h3 : (128 : Nat) ^ 9 = 9223372036854775808 := by decide
    rw [h3] at h ⊢
    have := h9 rfl
    have : u % 128 ≤ 1 := by omega
    have : u % 128 * 9223372036854775808 ≤ 1 * 9223372036854775808 := Nat.mul_le_mul_right _ this
    omega

theorem or_step (acc u k : Nat) (hk : k ≤ 9) (h9 : k = 9 → u ≤ 1) (h : acc < 128 ^ k) :
    bits .or .u64 (acc : Int) (IntKind.u64.wrap (((u : Int) % 128) * 2 ^ (7 * k))) = ((acc + u % 128 * 128 ^ k : Nat) : Int) := by
  have hr := room acc u k hk h9 h
  rw [pow7, IntKind.wrap_u64, show ((u : Int) % 128) * ((128 ^ k : Nat) : Int) = ((u % 128 * 128 ^ k : Nat) : Int) from by push_cast; rfl]
  rw [show (((u % 128 * 128 ^ k : Nat) : Int) % 18446744073709551616) = ((u % 128 * 128 ^ k : Nat) : Int) from by omega]
  rw [u64_or_nat acc (u % 128 * 128 ^ k) (by omega) (by omega), Nat.or_comm, nat_join (7 * k) (u % 128 * 128 ^ k) acc (by rw [Nat.pow_mul]; exact Nat.mul_mod_left _ _) (by rw [Nat.pow_mul]; exact h)]
  congr 1; omega

theorem or_nine (acc u acc2 k : Nat) (hk : k = 9) (hu : u ≤ 1) (h : bits .or .u64 (acc : Int) (IntKind.u64.wrap (((u : Int) % 128) * 2 ^ (7 * k))) = (acc2 : Int)) :
    bits .or .u64 (acc : Int) ((u : Int) % 128 * 9223372036854775808) = (acc2 : Int) := by
  subst hk
  rw [← h, IntKind.wrap_u64, show (2 : Int) ^ (7 * 9) = 9223372036854775808 from by decide]
  congr 1
  omega

theorem getAux_lt : ∀ (l : List UInt8) (i acc : Nat), acc < 128 ^ i → i ≤ 9 → (getAux i acc l).1 < 18446744073709551616
  | [], _, _, _, _ => by simp [getAux]
  | c :: r, i, acc, h, hi => by
    unfold getAux
    split
    · simp
    · rename_i h9
      have hr := room acc c.toNat i hi (by intro e; by_cases hc : c.toNat ≤ 1; exact hc; exact absurd ⟨e, by omega⟩ h9) h
      split
      · rename_i h128
        exact getAux_lt r (i + 1) _ (step_lt acc c.toNat i h) (by
          rcases Nat.lt_or_ge i 9 with hh | hh
          · omega
          · exact absurd ⟨by omega, by omega⟩ h9)
      · split
        · simp
        · exact hr

theorem get_lt (l : List UInt8) : (get l).1 < 18446744073709551616 := getAux_lt l 0 0 (by decide) (by omega)

theorem getAux_len : ∀ (l : List UInt8) (i acc : Nat), (getAux i acc l).2.1 ≤ i + l.length
  | [], _, _ => by simp [getAux]
  | c :: r, i, acc => by
    unfold getAux
    have ih := getAux_len r (i + 1) (acc + (c.toNat % 128) * 128 ^ i)
    simp only [List.length_cons]
    split
    · simp
    · split
      · omega
      · split <;> simp <;> omega

theorem get_len (l : List UInt8) : (get l).2.1 ≤ l.length := by have := getAux_len l 0 0; unfold get; omega

theorem getAux_no (l : List UInt8) : ∀ (i acc : Nat), (getAux i acc l).2.2 = false → getAux i acc l = (0, 0, false) := by
  induction l with
  | nil => intro i acc _; rfl
  | cons c r ih =>
    intro i acc
    unfold getAux
    split
    · intro _; rfl
    · split
      · exact ih _ _
      · split
        · intro _; rfl
        · intro h; simp at h

theorem putAux_more : ∀ (f n : Nat), n < 128 ^ f → 0 < f → putAux (f + 1) n = putAux f n
  | 0, _, _, h => absurd h (by omega)
  | 1, n, h, _ => by
    unfold putAux
    rw [if_neg (by omega), if_neg (by omega)]
  | f + 2, n, h, _ => by
    have ih := putAux_more (f + 1) (n / 128) (by rw [Nat.div_lt_iff_lt_mul (by omega)]; rw [Nat.pow_succ] at h; exact h) (by omega)
    rw [putAux, ih]
    conv => rhs; rw [putAux]
theorem put_step (n : Nat) (h : n < 18446744073709551616) : put n = if 127 < n then UInt8.ofNat (n % 128 + 128) :: put (n / 128) else [UInt8.ofNat n] := by
  have h10 : (128 : Nat) ^ 10 = 1180591620717411303424 := by decide
  have := putAux_more 10 n (by omega) (by omega)
  unfold put
  rw [← this]
  conv => lhs; rw [putAux]
theorem put_len (n : Nat) : 0 < (put n).length ∧ (put n).length ≤ 10 := by
  have : ∀ (f n : Nat), (putAux f n).length ≤ f ∧ (0 < f → 0 < (putAux f n).length) := by
    intro f
    induction f with
    | zero => intro n; simp [putAux]
    | succ f ih =>
      intro n
      unfold putAux
      split
      · have := (ih (n / 128)).1
        simp; omega
      · simp
  exact ⟨(this 10 n).2 (by omega), (this 10 n).1⟩
theorem or128 (n : Nat) : bits .or .u8 ((n : Int) % 256) 128 = (((UInt8.ofNat (n % 128 + 128)).toNat : Nat) : Int) := by
  have h : ∀ x : Fin 256, x.val ||| 128 = x.val % 128 + 128 := by decide +kernel
  rw [show (128 : Int) = ((128 : Nat) : Int) from rfl, show (n : Int) % 256 = ((n % 256 : Nat) : Int) from by omega, u8_or_nat _ _ (Nat.mod_lt _ (by omega)) (by omega), h ⟨n % 256, Nat.mod_lt _ (by omega)⟩]
  rw [UInt8.toNat_ofNat']
  have : (n % 128 + 128) % 2 ^ 8 = n % 256 % 128 + 128 := by omega
  rw [this]
theorem low8 (n : Nat) (h : n ≤ 127) : (((UInt8.ofNat n).toNat : Nat) : Int) = (n : Int) := by
  rw [UInt8.toNat_ofNat']
  have : n % 2 ^ 8 = n := by omega
  rw [this]

/-- How many groups are still to come, k counted: none where x is 0, else as many as x is written with. -/
def left (x : Nat) : Nat := if x = 0 then 0 else (put x).length
theorem left_step (x : Nat) (h : x < 18446744073709551616) (h0 : 0 < x) : left x = 1 + left (x / 128) := by
  have hs := put_step x h
  unfold left
  rw [if_neg (by omega)]
  by_cases h1 : 127 < x
  · rw [if_pos h1] at hs
    rw [hs, if_neg (by omega)]
    simp only [List.length_cons]; omega
  · rw [if_neg h1] at hs
    rw [hs, if_pos (by omega)]
    rfl
theorem len_left (n : Nat) (h : n < 18446744073709551616) : (put n).length = 1 + left (n / 128) := by
  by_cases h0 : n = 0
  · subst h0; decide
  · have := left_step n h (by omega)
    unfold left at this
    rw [if_neg h0] at this
    exact this

/-- Bytes that all say that more follows, and then a zero, begin with no number. -/
theorem getAux_zero : ∀ (l : List UInt8) (i acc : Nat), (∀ c ∈ l, 128 ≤ c.toNat) → 0 < i + l.length → (getAux i acc (l ++ [0])).2.2 = false
  | [], i, acc, _, h => by
    have h0 : (0 : UInt8).toNat = 0 := rfl
    simp only [List.length_nil, Nat.add_zero] at h
    rw [List.nil_append, getAux, h0, if_neg (by omega), if_neg (by omega), if_pos ⟨rfl, h⟩]
  | c :: r, i, acc, hall, _ => by
    have hc := hall c (by simp)
    rw [List.cons_append, getAux]
    split
    · rfl
    · try rw [if_pos hc]
      exact getAux_zero r (i + 1) _ (fun x hx => hall x (by simp [hx])) (by omega)
theorem get_zero (l : List UInt8) (h : ∀ c ∈ l, 128 ≤ c.toNat) (hl : 0 < l.length) : (get (l ++ [0])).2.2 = false := getAux_zero l 0 0 h (by omega)
/-- All bytes of a number but its last say that more follow. -/
theorem put_high : ∀ (f n i : Nat), i + 1 < (putAux f n).length → 128 ≤ ((putAux f n).getD i 0).toNat
  | 0, _, _, h => by simp [putAux] at h
  | f + 1, n, i, h => by
    unfold putAux at h ⊢
    by_cases h1 : 127 < n
    · rw [if_pos h1] at h ⊢
      rcases i with _ | i
      · simp only [List.getD_cons_zero, UInt8.toNat_ofNat']
        omega
      · simp only [List.getD_cons_succ]
        exact put_high f _ i (by simpa using h)
    · rw [if_neg h1] at h
      simp at h

theorem or128u (d : UInt8) : ∃ c : UInt8, 128 ≤ c.toNat ∧ bits .or .u8 (d.toNat : Int) 128 = (c.toNat : Int) := by
  refine ⟨UInt8.ofNat (d.toNat % 128 + 128), ?_, ?_⟩
  · rw [UInt8.toNat_ofNat']; omega
  · have h := or128 d.toNat
    have hd := d.toNat_lt
    rw [show ((d.toNat : Int) % 256) = (d.toNat : Int) from by omega] at h
    exact h
theorem split_last (l : List UInt8) (h : 0 < l.length) : ∃ p d, l = p ++ [d] := by
  rcases List.eq_nil_or_concat l with rfl | ⟨p, d, rfl⟩
  · simp at h
  · exact ⟨p, d, by simp⟩
theorem high_init (p : List UInt8) (d : UInt8) (h : ∀ j, j + 1 < (p ++ [d]).length → 128 ≤ ((p ++ [d]).getD j 0).toNat) : ∀ c ∈ p, 128 ≤ c.toNat := by
  intro c hc
  obtain ⟨j, hj, rfl⟩ := List.getElem_of_mem hc
  have := h j (by simp; omega)
  simpa [List.getD, List.getElem?_append_left hj, hj] using this

/-- The last byte, and what stands there when its high bit is set. -/
theorem last_high (l : List UInt8) (h : 0 < l.length) (hh : ∀ j, j + 1 < l.length → 128 ≤ (l.getD j 0).toNat) :
    ∃ d c : UInt8, l[l.length - 1]? = some d ∧ bits .or .u8 (d.toNat : Int) 128 = (c.toNat : Int) ∧ ∀ x ∈ l.set (l.length - 1) c, 128 ≤ x.toNat := by
  obtain ⟨p, d, rfl⟩ := split_last l h
  obtain ⟨c, hc, e⟩ := or128u d
  refine ⟨d, c, by simp, e, fun x hx => ?_⟩
  have hs : (p ++ [d]).set ((p ++ [d]).length - 1) c = p ++ [c] := by simp
  rw [hs, List.mem_append] at hx
  rcases hx with hx | hx
  · exact high_init p d hh x hx
  · simp at hx; subst hx; exact hc

/-- A text as bytes, its length ahead. -/
def text (s : List UInt8) : List UInt8 := put s.length ++ s

/-- The text that bytes begin with. -/
def gettext (l : List UInt8) : List UInt8 × Nat × Bool :=
  if (get l).2.2 = true ∧ (get l).1 ≤ l.length - (get l).2.1 then ((l.drop (get l).2.1).take (get l).1, (get l).2.1 + (get l).1, true) else ([], 0, false)

theorem drop_step (l : List UInt8) (k : Nat) (hk : k < l.length) : l.drop k = l.getD k 0 :: l.drop (k + 1) := by
  rw [List.drop_eq_getElem_cons hk]; congr 1; simp [List.getD, hk]

theorem getAux_put : ∀ (f n i acc : Nat) (more : List UInt8), i + f = 10 → 0 < f → acc + n * 128 ^ i < 18446744073709551616 → (0 < i → 0 < n) →
    getAux i acc (putAux f n ++ more) = (acc + n * 128 ^ i, i + (putAux f n).length, true)
  | 0, _, _, _, _, _, h, _, _ => absurd h (by omega)
  | f + 1, n, i, acc, more, hf, _, hn, h0 => by
    have h9 : (128 : Nat) ^ 9 = 9223372036854775808 := by decide
    have hn1 : i = 9 → n ≤ 1 := by
      rintro rfl
      rw [h9] at hn
      omega
    unfold putAux
    by_cases h1 : 127 < n
    · have hc : (UInt8.ofNat (n % 128 + 128)).toNat = n % 128 + 128 := by rw [UInt8.toNat_ofNat']; omega
      have hi9 : i ≠ 9 := by intro e; have := hn1 e; omega
      rw [if_pos h1, List.cons_append, getAux, hc, if_neg (by omega), if_pos (by omega), show (n % 128 + 128) % 128 = n % 128 from by omega]
      have e1 : n * 128 ^ i = (n % 128) * 128 ^ i + (n / 128) * 128 ^ (i + 1) := by
        rw [Nat.pow_succ, Nat.mul_comm (128 ^ i) 128, ← Nat.mul_assoc, ← Nat.add_mul]
        congr 1
        omega
      rw [getAux_put f (n / 128) (i + 1) _ more (by omega) (by omega) (by omega) (by omega)]
      simp only [List.length_cons, Prod.mk.injEq, and_true]
      constructor <;> omega
    · have hc : (UInt8.ofNat n).toNat = n := by rw [UInt8.toNat_ofNat']; omega
      have hz : ¬ (n = 0 ∧ 0 < i) := by intro e; have := h0 e.2; omega
      rw [if_neg h1, List.cons_append, getAux, hc, if_neg (by intro e; have := hn1 e.1; omega), if_neg (by omega), if_neg hz, show n % 128 = n from by omega]
      simp
theorem get_put (n : Nat) (more : List UInt8) (h : n < 18446744073709551616) : get (put n ++ more) = (n, (put n).length, true) := by
  have := getAux_put 10 n 0 0 more rfl (by omega) (by simpa using h) (by omega)
  unfold get put
  rw [this]
  simp
theorem getAux_high : ∀ (l : List UInt8) (i acc : Nat), (∀ c ∈ l, 128 ≤ c.toNat) → (getAux i acc l).2.2 = false
  | [], _, _, _ => rfl
  | c :: r, i, acc, hall => by
    rw [getAux]
    split
    · rfl
    · rw [if_pos (hall c (by simp))]
      exact getAux_high r (i + 1) _ (fun x hx => hall x (by simp [hx]))
theorem put_take_high (n k : Nat) (h : k < (put n).length) : ∀ c ∈ (put n).take k, 128 ≤ c.toNat := by
  intro c hc
  obtain ⟨j, hj, rfl⟩ := List.getElem_of_mem hc
  rw [List.length_take] at hj
  have := put_high 10 n j (show j + 1 < (putAux 10 n).length from by have : (put n).length = (putAux 10 n).length := rfl; omega)
  rw [List.getElem_take]
  have hj2 : j < (putAux 10 n).length := by have : (put n).length = (putAux 10 n).length := rfl; omega
  have e : (putAux 10 n).getD j 0 = (put n)[j]'(by omega) := by simp [List.getD, hj2]; rfl
  rw [e] at this
  exact this
theorem get_take (n k : Nat) (h : k < (put n).length) : (get ((put n).take k)).2.2 = false := getAux_high _ 0 0 (put_take_high n k h)
theorem gettext_text (s more : List UInt8) (h : s.length < 18446744073709551616) : gettext (text s ++ more) = (s, (text s).length, true) := by
  have hg := get_put s.length (s ++ more) h
  unfold gettext text
  rw [List.append_assoc, hg, if_pos ⟨rfl, by simp⟩]
  simp
theorem gettext_take (s : List UInt8) (k : Nat) (h : s.length < 18446744073709551616) (hk : k < (text s).length) : (gettext ((text s).take k)).2.2 = false := by
  unfold gettext text
  by_cases h1 : k < (put s.length).length
  · have e : (put s.length ++ s).take k = (put s.length).take k := by rw [List.take_append_of_le_length (by omega)]
    rw [e, if_neg]
    rintro ⟨h2, _⟩
    rw [get_take _ _ h1] at h2
    cases h2
  · have e : (put s.length ++ s).take k = put s.length ++ s.take (k - (put s.length).length) := by rw [List.take_append, List.take_of_length_le (by omega)]
    rw [e, get_put _ _ h, if_neg]
    rintro ⟨_, h3⟩
    simp only [List.length_append, List.length_take] at h3
    unfold text at hk
    simp only [List.length_append] at hk
    omega
/-- Many numbers, and many texts, one behind the other. -/
def puts (l : List Int) : List UInt8 := l.flatMap fun z => put z.toNat
def texts (l : List ByteArray) : List UInt8 := l.flatMap fun s => text s.data.toList
theorem puts_len (l : List Int) : (puts l).length ≤ 10 * l.length := by
  induction l with
  | nil => simp [puts]
  | cons z r ih =>
    have := (put_len z.toNat).2
    simp only [puts, List.flatMap_cons, List.length_append, List.length_cons] at *
    omega
theorem texts_len (l : List ByteArray) (h : ∀ s ∈ l, s.size ≤ 100) : (texts l).length ≤ 110 * l.length := by
  induction l with
  | nil => simp [texts]
  | cons z r ih =>
    have h1 := ih (fun s hs => h s (by simp [hs]))
    have h2 := h z (by simp)
    have h3 := (put_len z.data.toList.length).2
    have h4 : z.data.toList.length = z.size := by rw [Array.length_toList]; rfl
    simp only [texts, List.flatMap_cons, List.length_append, List.length_cons, text] at *
    omega
theorem puts_snoc (l : List Int) (k : Nat) (h : k < l.length) : puts (l.take (k + 1)) = puts (l.take k) ++ put (l[k]).toNat := by
  unfold puts; rw [List.take_succ_eq_append_getElem h, List.flatMap_append]; simp only [List.flatMap_cons, List.flatMap_nil, List.append_nil]
theorem texts_snoc (l : List ByteArray) (k : Nat) (h : k < l.length) : texts (l.take (k + 1)) = texts (l.take k) ++ text (l[k]).data.toList := by
  unfold texts; rw [List.take_succ_eq_append_getElem h, List.flatMap_append]; simp only [List.flatMap_cons, List.flatMap_nil, List.append_nil]
theorem puts_drop (l : List Int) (k : Nat) (h : k < l.length) : puts (l.drop k) = put (l[k]).toNat ++ puts (l.drop (k + 1)) := by
  unfold puts; rw [List.drop_eq_getElem_cons h]; simp only [List.flatMap_cons]
theorem texts_drop (l : List ByteArray) (k : Nat) (h : k < l.length) : texts (l.drop k) = text (l[k]).data.toList ++ texts (l.drop (k + 1)) := by
  unfold texts; rw [List.drop_eq_getElem_cons h]; simp only [List.flatMap_cons]
end Go.Proofs.YtgiahfjndononaaDoor.Mi

/- Plain mathematics of the cyclic sum: it is linear, nothing but 0 goes to 0, and no bit comes back to itself within 4000 steps. No Go in sight. -/
namespace Go.Proofs.YtgiahfjndononaaDoor.Cm
open Go.RowKit
set_option linter.unusedVariables false

def bit1 (n : Nat) : Nat := n / 2 ^^^ (if n % 2 = 1 then 3988292384 else 0)
def it : Nat → Nat → Nat
  | 0, n => n
  | k + 1, n => it k (bit1 n)
def turn (n : Nat) : Nat := it 8 n
def fold : Nat → List UInt8 → Nat
  | n, [] => n
  | n, c :: r => fold (turn (n ^^^ c.toNat)) r
def more (s : Nat) (l : List UInt8) : Nat := 4294967295 ^^^ fold (4294967295 ^^^ s) l
def sum (l : List UInt8) : Nat := more 0 l

theorem xor_zero {a b : Nat} (h : a ^^^ b = 0) : a = b := by
  have e : a ^^^ b ^^^ b = a := by rw [Nat.xor_assoc, Nat.xor_self, Nat.xor_zero]
  rw [← e, h, Nat.zero_xor]

theorem bit1_lt (n : Nat) (h : n < 4294967296) : bit1 n < 4294967296 := by
  unfold bit1
  refine Nat.xor_lt_two_pow (n := 32) (by omega) (by split <;> omega)
theorem it_lt : ∀ (k n : Nat), n < 4294967296 → it k n < 4294967296
  | 0, _, h => h
  | k + 1, n, h => it_lt k _ (bit1_lt n h)
theorem turn_lt (n : Nat) (h : n < 4294967296) : turn n < 4294967296 := it_lt 8 n h
theorem byte_lt (c : UInt8) : c.toNat < 4294967296 := by have := c.toNat_lt; omega
theorem xor_lt {a b : Nat} (ha : a < 4294967296) (hb : b < 4294967296) : a ^^^ b < 4294967296 := Nat.xor_lt_two_pow (n := 32) ha hb
theorem fold_lt : ∀ (l : List UInt8) (n : Nat), n < 4294967296 → fold n l < 4294967296
  | [], _, h => h
  | c :: r, n, h => fold_lt r _ (turn_lt _ (xor_lt h (byte_lt c)))
theorem more_lt (s : Nat) (l : List UInt8) (h : s < 4294967296) : more s l < 4294967296 := xor_lt (by omega) (fold_lt l _ (xor_lt (by omega) h))
theorem sum_lt (l : List UInt8) : sum l < 4294967296 := more_lt 0 l (by omega)

theorem bit1_xor (a b : Nat) : bit1 (a ^^^ b) = bit1 a ^^^ bit1 b := by
  unfold bit1
  have h1 : (a ^^^ b) / 2 = a / 2 ^^^ b / 2 := by
    have := Nat.shiftRight_xor_distrib (a := a) (b := b) (i := 1)
    simpa [Nat.shiftRight_eq_div_pow] using this
  have h2 : (a ^^^ b) % 2 = 1 ↔ ¬ (a % 2 = 1 ↔ b % 2 = 1) := Nat.xor_mod_two_eq_one
  rw [h1]
  by_cases ha : a % 2 = 1 <;> by_cases hb : b % 2 = 1
  · rw [if_neg (by rw [h2]; simp [ha, hb]), if_pos ha, if_pos hb]
    have : a / 2 ^^^ 3988292384 ^^^ (b / 2 ^^^ 3988292384) = a / 2 ^^^ b / 2 ^^^ (3988292384 ^^^ 3988292384) := by ac_rfl
    rw [this, Nat.xor_self]
  · rw [if_pos (by rw [h2]; simp [ha, hb]), if_pos ha, if_neg hb, Nat.xor_zero]; ac_rfl
  · rw [if_pos (by rw [h2]; simp [ha, hb]), if_neg ha, if_pos hb, Nat.xor_zero]; ac_rfl
  · rw [if_neg (by rw [h2]; simp [ha, hb]), if_neg ha, if_neg hb]; simp
theorem it_xor : ∀ (k a b : Nat), it k (a ^^^ b) = it k a ^^^ it k b
  | 0, _, _ => rfl
  | k + 1, a, b => by unfold it; rw [bit1_xor, it_xor k]
theorem it_add : ∀ (j k n : Nat), it (j + k) n = it k (it j n)
  | 0, k, n => by rw [Nat.zero_add]; rfl
  | j + 1, k, n => by rw [show j + 1 + k = (j + k) + 1 from by omega]; show it (j + k) (bit1 n) = _; rw [it_add j k]; rfl
theorem turn_xor (a b : Nat) : turn (a ^^^ b) = turn a ^^^ turn b := it_xor 8 a b
theorem it_zero : ∀ k : Nat, it k 0 = 0
  | 0 => rfl
  | k + 1 => by show it k (bit1 0) = 0; rw [show bit1 0 = 0 from by decide]; exact it_zero k
theorem bit1_zero (n : Nat) (h : n < 4294967296) (hz : bit1 n = 0) : n = 0 := by
  unfold bit1 at hz
  have := xor_zero hz
  split at this <;> omega
theorem it_ne : ∀ (k n : Nat), n < 4294967296 → n ≠ 0 → it k n ≠ 0
  | 0, _, _, h => h
  | k + 1, n, hl, h => it_ne k _ (bit1_lt n hl) (fun e => h (bit1_zero n hl e))
theorem it_inj (k a b : Nat) (ha : a < 4294967296) (hb : b < 4294967296) (h : it k a = it k b) : a = b := by
  have h1 : it k (a ^^^ b) = 0 := by rw [it_xor, h, Nat.xor_self]
  have h2 : a ^^^ b = 0 := by
    rcases Nat.eq_zero_or_pos (a ^^^ b) with e | e
    · exact e
    · exact absurd h1 (it_ne k _ (xor_lt ha hb) (by omega))
  exact xor_zero h2

/-- What stands in one list alone, over the end of the other. -/
theorem fold_xor : ∀ (l : List UInt8) (a b : Nat), fold (a ^^^ b) l = fold a l ^^^ it (8 * l.length) b
  | [], _, _ => rfl
  | c :: r, a, b => by
    show fold (turn (a ^^^ b ^^^ c.toNat)) r = _
    rw [show a ^^^ b ^^^ c.toNat = a ^^^ c.toNat ^^^ b from by ac_rfl, turn_xor, fold_xor r]
    show _ = fold (turn (a ^^^ c.toNat)) r ^^^ it (8 * (r.length + 1)) b
    rw [show 8 * (r.length + 1) = 8 + 8 * r.length from by omega, it_add]
    rfl
theorem fold_set : ∀ (l : List UInt8) (n k : Nat) (x : UInt8), k < l.length → fold n (l.set k (l.getD k 0 ^^^ x)) = fold n l ^^^ it (8 * (l.length - k)) x.toNat
  | [], _, _, _, h => absurd h (by simp)
  | c :: r, n, 0, x, _ => by
    show fold (turn (n ^^^ (c ^^^ x).toNat)) r = fold (turn (n ^^^ c.toNat)) r ^^^ it (8 * (r.length + 1)) x.toNat
    rw [UInt8.toNat_xor, ← Nat.xor_assoc, turn_xor, fold_xor, show 8 * (r.length + 1) = 8 + 8 * r.length from by omega, it_add]
    rfl
  | c :: r, n, k + 1, x, h => by
    show fold (turn (n ^^^ c.toNat)) (r.set k (r.getD k 0 ^^^ x)) = fold (turn (n ^^^ c.toNat)) r ^^^ it (8 * (r.length + 1 - (k + 1))) x.toNat
    rw [fold_set r _ k x (by simpa using h), show r.length + 1 - (k + 1) = r.length - k from by omega]
theorem sum_set (l : List UInt8) (k : Nat) (x : UInt8) (h : k < l.length) : sum (l.set k (l.getD k 0 ^^^ x)) = sum l ^^^ it (8 * (l.length - k)) x.toNat := by
  unfold sum more
  rw [fold_set l _ k x h, Nat.xor_assoc]

theorem fold_append : ∀ (l m : List UInt8) (n : Nat), fold n (l ++ m) = fold (fold n l) m
  | [], _, _ => rfl
  | c :: r, m, n => fold_append r m _
theorem ff_ff (a : Nat) : 4294967295 ^^^ (4294967295 ^^^ a) = a := by rw [← Nat.xor_assoc, Nat.xor_self, Nat.zero_xor]
theorem more_sum (l m : List UInt8) : more (sum l) m = sum (l ++ m) := by
  unfold sum more
  rw [ff_ff, fold_append]

/-- Three of one length, xored. -/
def xor3 : List UInt8 → List UInt8 → List UInt8 → List UInt8
  | a :: l, b :: m, c :: k => (a ^^^ b ^^^ c) :: xor3 l m k
  | _, _, _ => []
theorem xor3_len : ∀ (l m k : List UInt8), m.length = l.length → k.length = l.length → (xor3 l m k).length = l.length
  | [], _, _, _, _ => rfl
  | a :: l, b :: m, c :: k, h1, h2 => by simp [xor3, xor3_len l m k (by simpa using h1) (by simpa using h2)]
  | a :: l, [], _, h1, _ => absurd h1 (by simp)
  | a :: l, b :: m, [], _, h2 => absurd h2 (by simp)
theorem fold3 : ∀ (l m k : List UInt8) (x y z : Nat), m.length = l.length → k.length = l.length → fold x l ^^^ fold y m ^^^ fold z k = fold (x ^^^ y ^^^ z) (xor3 l m k)
  | [], [], [], _, _, _, _, _ => rfl
  | a :: l, b :: m, c :: k, x, y, z, h1, h2 => by
    show fold _ l ^^^ fold _ m ^^^ fold _ k = fold (turn (x ^^^ y ^^^ z ^^^ (a ^^^ b ^^^ c).toNat)) (xor3 l m k)
    rw [fold3 l m k _ _ _ (by simpa using h1) (by simpa using h2), ← turn_xor, ← turn_xor, UInt8.toNat_xor, UInt8.toNat_xor]
    congr 2
    ac_rfl
  | [], _ :: _, _, _, _, _, h1, _ => absurd h1 (by simp)
  | [], [], _ :: _, _, _, _, _, h2 => absurd h2 (by simp)
  | a :: l, [], _, _, _, _, h1, _ => absurd h1 (by simp)
  | a :: l, b :: m, [], _, _, _, _, h2 => absurd h2 (by simp)
theorem sum3 (l m k : List UInt8) (h1 : m.length = l.length) (h2 : k.length = l.length) : sum l ^^^ sum m ^^^ sum k = sum (xor3 l m k) := by
  unfold sum more
  have := fold3 l m k 4294967295 4294967295 4294967295 h1 h2
  rw [Nat.xor_self, Nat.zero_xor] at this
  simp only [Nat.xor_zero]
  rw [← this]
  have e : ∀ f a b c : Nat, f ^^^ a ^^^ (f ^^^ b) ^^^ (f ^^^ c) = f ^^^ f ^^^ (f ^^^ (a ^^^ b ^^^ c)) := by intro f a b c; ac_rfl
  rw [e, Nat.xor_self, Nat.zero_xor]

/-- Eight steps of what ends in eight noughts. -/
theorem bit1_even (n : Nat) : bit1 (2 * n) = n := by
  unfold bit1
  rw [if_neg (by omega), Nat.xor_zero]; omega
theorem it_pow : ∀ (k n : Nat), it k (2 ^ k * n) = n
  | 0, n => by simp [it]
  | k + 1, n => by
    show it k (bit1 (2 ^ (k + 1) * n)) = n
    rw [show 2 ^ (k + 1) * n = 2 * (2 ^ k * n) from by rw [Nat.pow_succ]; ac_rfl, bit1_even, it_pow k n]
theorem low_xor (n : Nat) : n ^^^ n % 256 = 2 ^ 8 * (n / 256) := by
  have h1 : 2 ^ 8 * (n / 256) ||| n % 256 = n := by
    rw [nat_join 8 _ _ (by omega) (by omega)]; omega
  have h2 : 2 ^ 8 * (n / 256) &&& n % 256 = 0 := by
    apply Nat.eq_of_testBit_eq
    intro i
    rw [Nat.testBit_and, Nat.zero_testBit]
    by_cases hi : i < 8
    · have : (2 ^ 8 * (n / 256)).testBit i = false := by rw [Nat.testBit_two_pow_mul]; simp; omega
      rw [this]; rfl
    · have : (n % 256).testBit i = false := Nat.testBit_lt_two_pow (Nat.lt_of_lt_of_le (Nat.mod_lt _ (by omega)) (show 2 ^ 8 ≤ 2 ^ i from Nat.pow_le_pow_right (by omega) (by omega)))
      rw [this, Bool.and_false]
  apply Nat.eq_of_testBit_eq
  intro i
  have e1 := congrArg (Nat.testBit · i) h1
  have e2 := congrArg (Nat.testBit · i) h2
  simp only [Nat.testBit_or, Nat.testBit_and, Nat.zero_testBit] at e1 e2
  rw [Nat.testBit_xor, ← e1]
  revert e2
  cases (2 ^ 8 * (n / 256)).testBit i <;> cases (n % 256).testBit i <;> simp
theorem turn_low (n : Nat) : turn (n ^^^ n % 256) = n / 256 := by rw [low_xor]; exact it_pow 8 _

/-- A number's four bytes, the lowest first. -/
def le4 (n : Nat) : List UInt8 := [UInt8.ofNat (n % 256), UInt8.ofNat (n / 256 % 256), UInt8.ofNat (n / 65536 % 256), UInt8.ofNat (n / 16777216 % 256)]
theorem toNat_mod (n : Nat) : (UInt8.ofNat (n % 256)).toNat = n % 256 := by rw [UInt8.toNat_ofNat']; omega
theorem fold_self (n : Nat) (h : n < 4294967296) : fold n (le4 n) = 0 := by
  unfold le4
  simp only [fold, toNat_mod]
  rw [turn_low, turn_low, show n / 65536 = n / 256 / 256 from by omega, turn_low, show n / 16777216 = n / 256 / 256 / 256 from by omega, turn_low]
  omega
theorem fold_le4 (a n : Nat) (h : n < 4294967296) : fold a (le4 n) = it 32 (a ^^^ n) := by
  have h1 := fold_xor (le4 n) n (n ^^^ a)
  rw [fold_self n h, Nat.zero_xor, ← Nat.xor_assoc, Nat.xor_self, Nat.zero_xor] at h1
  rw [h1, Nat.xor_comm n a]
  rfl
theorem rest (n : Nat) (h : n < 4294967296) : more n (le4 n) = 558161692 := by
  unfold more
  rw [fold_le4 _ n h, Nat.xor_assoc, Nat.xor_self, Nat.xor_zero]
  decide +kernel

/-- No bit comes back within 4000 steps. -/
def back : Nat → Nat → Bool
  | 0, _ => true
  | k + 1, n => n != 1 && back k (bit1 n)
theorem back_it : ∀ (k n t : Nat), back k n = true → t < k → it t n ≠ 1
  | 0, _, _, _, h => absurd h (by omega)
  | k + 1, n, 0, h, _ => by
    simp only [back, Bool.and_eq_true, bne_iff_ne] at h
    exact h.1
  | k + 1, n, t + 1, h, ht => by
    simp only [back, Bool.and_eq_true] at h
    exact back_it k (bit1 n) t h.2 (by omega)
theorem back4000 : back 4000 (bit1 1) = true := by decide +kernel
theorem no_back (t : Nat) (h0 : 0 < t) (h : t ≤ 4000) : it t 1 ≠ 1 := by
  obtain ⟨u, rfl⟩ : ∃ u, t = u + 1 := ⟨t - 1, by omega⟩
  exact back_it 4000 (bit1 1) u back4000 (by omega)
theorem apart (u v : Nat) (hu : u ≤ 4000) (hv : v ≤ 4000) (hne : u ≠ v) : it u 1 ≠ it v 1 := by
  intro e
  rcases Nat.lt_or_ge u v with h | h
  · obtain ⟨d, rfl⟩ : ∃ d, v = d + u := ⟨v - u, by omega⟩
    rw [it_add] at e
    exact no_back d (by omega) (by omega) (it_inj u _ _ (by decide) (it_lt _ _ (by decide)) e).symm
  · obtain ⟨d, rfl⟩ : ∃ d, u = d + v := ⟨u - v, by omega⟩
    rw [it_add] at e
    exact no_back d (by omega) (by omega) (it_inj v _ _ (it_lt _ _ (by decide)) (by decide) e)
/-- One bit, wherever it stands, is that many steps of the first. -/
theorem it_bit (m a : Nat) (h : a ≤ m) : it m (2 ^ a) = it (m - a) 1 := by
  conv => lhs; rw [show m = a + (m - a) from by omega]
  rw [it_add]
  have := it_pow a 1
  rw [Nat.mul_one] at this
  rw [this]
end Go.Proofs.YtgiahfjndononaaDoor.Cm

/- Plain mathematics of turned bits: one, two, and up to 32 in a row. No Go in sight. -/
namespace Go.Proofs.YtgiahfjndononaaDoor.Cm
open Go.RowKit
set_option linter.unusedVariables false

def bitb (i : Nat) : UInt8 := UInt8.ofNat (2 ^ (i % 8))
theorem bitb_nat (i : Nat) : (bitb i).toNat = 2 ^ (i % 8) := by
  have h : 2 ^ (i % 8) < 256 := Nat.lt_of_lt_of_le (Nat.pow_lt_pow_right (by omega) (Nat.mod_lt i (by omega))) (by decide : 2 ^ 8 ≤ 256)
  unfold bitb
  rw [UInt8.toNat_ofNat']
  exact Nat.mod_eq_of_lt h
/-- The bytes with bit i turned. -/
def flip (l : List UInt8) (i : Nat) : List UInt8 := l.set (i / 8) (l.getD (i / 8) 0 ^^^ bitb i)
theorem flip_len (l : List UInt8) (i : Nat) : (flip l i).length = l.length := List.length_set ..
theorem sum_flip (l : List UInt8) (i : Nat) (h : i < 8 * l.length) : sum (flip l i) = sum l ^^^ it (8 * l.length - i) 1 := by
  unfold flip
  rw [sum_set l (i / 8) (bitb i) (by omega), bitb_nat, it_bit _ _ (by omega)]
  congr 2
  omega
theorem xor_ne (a b : Nat) (h : b ≠ 0) : a ^^^ b ≠ a := by
  intro e
  have e2 : a ^^^ (a ^^^ b) = a ^^^ a := by rw [e]
  rw [← Nat.xor_assoc, Nat.xor_self, Nat.zero_xor] at e2
  exact h e2
theorem one_ne (l : List UInt8) (i : Nat) (h : i < 8 * l.length) : sum (flip l i) ≠ sum l := by
  rw [sum_flip l i h]
  exact xor_ne _ _ (it_ne _ _ (by decide) (by decide))
theorem two_ne (l : List UInt8) (i k : Nat) (hl : l.length ≤ 400) (h : i < 8 * l.length) (hk : k < 8 * l.length) (hne : i ≠ k) : sum (flip (flip l i) k) ≠ sum l := by
  rw [sum_flip _ k (by rw [flip_len]; exact hk), sum_flip l i h, flip_len, Nat.xor_assoc]
  refine xor_ne _ _ fun e => apart (8 * l.length - i) (8 * l.length - k) (by omega) (by omega) (by omega) (xor_zero e)

/-- The bytes with those of x, the lowest first, xored over them from a on: j of them. -/
def bu (l : List UInt8) (a x : Nat) : Nat → List UInt8
  | 0 => l
  | j + 1 => (bu l a x j).set (a + j) ((bu l a x j).getD (a + j) 0 ^^^ UInt8.ofNat (x / 256 ^ j % 256))
theorem bu_len (l : List UInt8) (a x : Nat) : ∀ j, (bu l a x j).length = l.length
  | 0 => rfl
  | j + 1 => by unfold bu; rw [List.length_set]; exact bu_len l a x j
theorem sum_bu_step (l : List UInt8) (a x j : Nat) (h : a + j < l.length) : sum (bu l a x (j + 1)) = sum (bu l a x j) ^^^ it (8 * (l.length - (a + j))) (x / 256 ^ j % 256) := by
  show sum ((bu l a x j).set (a + j) _) = _
  rw [sum_set _ _ _ (by rw [bu_len]; exact h), bu_len, toNat_mod]
theorem turn4 (b0 b1 b2 b3 : Nat) : turn (turn (turn (turn (0 ^^^ b0) ^^^ b1) ^^^ b2) ^^^ b3) = it 32 b0 ^^^ it 24 b1 ^^^ it 16 b2 ^^^ it 8 b3 := by
  simp only [turn_xor, Nat.zero_xor]
  have h2 : ∀ n, turn (turn n) = it 16 n := fun n => (it_add 8 8 n).symm
  have a0 : turn (turn (turn (turn b0))) = it 32 b0 := by rw [h2, h2]; exact (it_add 16 16 b0).symm
  have a1 : turn (turn (turn b1)) = it 24 b1 := by rw [h2]; exact (it_add 8 16 b1).symm
  rw [a0, a1, h2]
  rfl
theorem burst (x : Nat) (h : x < 4294967296) : it 32 (x % 256) ^^^ it 24 (x / 256 % 256) ^^^ it 16 (x / 65536 % 256) ^^^ it 8 (x / 16777216 % 256) = it 32 x := by
  have h1 := fold_le4 0 x h
  rw [Nat.zero_xor] at h1
  rw [← h1, ← turn4]
  unfold le4
  simp only [fold, toNat_mod]
theorem sum_bu (l : List UInt8) (a x : Nat) (hx : x < 4294967296) (h : a + 4 ≤ l.length) : sum (bu l a x 4) = sum l ^^^ it (8 * (l.length - a - 4)) (it 32 x) := by
  rw [sum_bu_step l a x 3 (by omega), sum_bu_step l a x 2 (by omega), sum_bu_step l a x 1 (by omega), sum_bu_step l a x 0 (by omega)]
  show sum l ^^^ _ ^^^ _ ^^^ _ ^^^ _ = _
  rw [← burst x hx, it_xor, it_xor, it_xor, ← it_add, ← it_add, ← it_add, ← it_add]
  rw [show 8 * (l.length - (a + 0)) = 32 + 8 * (l.length - a - 4) from by omega, show 8 * (l.length - (a + 1)) = 24 + 8 * (l.length - a - 4) from by omega,
    show 8 * (l.length - (a + 2)) = 16 + 8 * (l.length - a - 4) from by omega, show 8 * (l.length - (a + 3)) = 8 + 8 * (l.length - a - 4) from by omega]
  simp only [Nat.pow_zero, Nat.div_one, Nat.pow_one]
  rw [show (256 : Nat) ^ 2 = 65536 from rfl, show (256 : Nat) ^ 3 = 16777216 from rfl]
  simp only [Nat.xor_assoc]
theorem burst_zero (l : List UInt8) (a : Nat) (h : a + 4 ≤ l.length) : sum (bu l a 0 4) = sum l := by
  rw [sum_bu l a 0 (by omega) h, it_zero, it_zero, Nat.xor_zero]
theorem burst_ne (l : List UInt8) (a x : Nat) (hx : x < 4294967296) (h : a + 4 ≤ l.length) (h0 : x ≠ 0) : sum (bu l a x 4) ≠ sum l := by
  rw [sum_bu l a x hx h]
  exact xor_ne _ _ (it_ne _ _ (it_lt _ _ hx) (it_ne _ _ hx h0))
end Go.Proofs.YtgiahfjndononaaDoor.Cm

/- Plain mathematics of records: how one is written, which one bytes begin with, and all of them one behind the other. No Go in sight. -/
namespace Go.Proofs.YtgiahfjndononaaDoor.Fm
open Go.RowKit
set_option linter.unusedVariables false

def rec (p : List UInt8) : List UInt8 := Mi.put p.length ++ (Cm.le4 (Cm.sum p) ++ p)
/-- Does a record stand at the beginning, and whole? -/
def ok (l : List UInt8) : Prop := (Mi.get l).2.2 = true ∧ (Mi.get l).2.1 + 4 + (Mi.get l).1 ≤ l.length ∧ (l.drop (Mi.get l).2.1).take 4 = Cm.le4 (Cm.sum ((l.drop ((Mi.get l).2.1 + 4)).take (Mi.get l).1))
instance (l : List UInt8) : Decidable (ok l) := by unfold ok; exact inferInstance
def first (l : List UInt8) : List UInt8 × Nat × Bool := if ok l then ((l.drop ((Mi.get l).2.1 + 4)).take (Mi.get l).1, (Mi.get l).2.1 + 4 + (Mi.get l).1, true) else ([], 0, false)
def split : Nat → List UInt8 → List (List UInt8) × Nat
  | 0, _ => ([], 0)
  | f + 1, l => if (first l).2.2 = true then ((first l).1 :: (split f (l.drop (first l).2.1)).1, (first l).2.1 + (split f (l.drop (first l).2.1)).2) else ([], 0)

theorem le4_len (n : Nat) : (Cm.le4 n).length = 4 := rfl
/-- The number that four bytes are. -/
def val4 (l : List UInt8) : Nat := (l.getD 0 0).toNat + (l.getD 1 0).toNat * 256 + (l.getD 2 0).toNat * 65536 + (l.getD 3 0).toNat * 16777216
theorem val4_le4 (n : Nat) (h : n < 4294967296) : val4 (Cm.le4 n) = n := by
  unfold val4 Cm.le4
  simp only [List.getD_cons_zero, List.getD_cons_succ, Cm.toNat_mod]
  omega
theorem le4_val4 (l : List UInt8) (h : l.length = 4) : Cm.le4 (val4 l) = l := by
  match l, h with
  | [a, b, c, d], _ =>
    have ha := a.toNat_lt
    have hb := b.toNat_lt
    have hc := c.toNat_lt
    have hd := d.toNat_lt
    unfold val4 Cm.le4
    simp only [List.getD_cons_zero, List.getD_cons_succ]
    rw [show (a.toNat + b.toNat * 256 + c.toNat * 65536 + d.toNat * 16777216) % 256 = a.toNat from by omega,
      show (a.toNat + b.toNat * 256 + c.toNat * 65536 + d.toNat * 16777216) / 256 % 256 = b.toNat from by omega,
      show (a.toNat + b.toNat * 256 + c.toNat * 65536 + d.toNat * 16777216) / 65536 % 256 = c.toNat from by omega,
      show (a.toNat + b.toNat * 256 + c.toNat * 65536 + d.toNat * 16777216) / 16777216 % 256 = d.toNat from by omega]
    simp
theorem val4_lt (l : List UInt8) : val4 l < 4294967296 := by
  have h0 := (l.getD 0 0).toNat_lt
  have h1 := (l.getD 1 0).toNat_lt
  have h2 := (l.getD 2 0).toNat_lt
  have h3 := (l.getD 3 0).toNat_lt
  unfold val4; omega
theorem le4_inj {a b : Nat} (ha : a < 4294967296) (hb : b < 4294967296) (h : Cm.le4 a = Cm.le4 b) : a = b := by
  rw [← val4_le4 a ha, ← val4_le4 b hb, h]
theorem sum_eq_iff (l : List UInt8) (s : Nat) (hl : l.length = 4) (hs : s < 4294967296) : l = Cm.le4 s ↔ val4 l = s := by
  constructor
  · intro h; rw [h, val4_le4 s hs]
  · intro h; rw [← h, le4_val4 l hl]

theorem rec_len (p : List UInt8) : (rec p).length = (Mi.put p.length).length + 4 + p.length := by
  unfold rec; simp only [List.length_append, le4_len]; omega
theorem first_rec (p m : List UInt8) (h : p.length < 18446744073709551616) : first (rec p ++ m) = (p, (rec p).length, true) := by
  have hg : Mi.get (rec p ++ m) = (p.length, (Mi.put p.length).length, true) := by
    unfold rec; rw [List.append_assoc]; exact Mi.get_put _ _ h
  have hd : (rec p ++ m).drop (Mi.put p.length).length = Cm.le4 (Cm.sum p) ++ (p ++ m) := by
    unfold rec; rw [List.append_assoc, List.drop_left]; simp
  have hd4 : (rec p ++ m).drop ((Mi.put p.length).length + 4) = p ++ m := by
    rw [← List.drop_drop, hd]; rfl
  have hok : ok (rec p ++ m) := by
    unfold ok
    rw [hg]
    refine ⟨rfl, by simp only [List.length_append, rec_len]; omega, ?_⟩
    simp only
    rw [hd, hd4, List.take_left]
    rfl
  unfold first
  rw [if_pos hok, hg]
  simp only
  rw [hd4, List.take_left, rec_len]
/-- Of a record that is torn, whatever was turned in what it has, or of none at all: nothing. -/
theorem first_take (p : List UInt8) (j : Nat) (h : p.length < 18446744073709551616) (hj : j < (rec p).length) : first ((rec p).take j) = ([], 0, false) := by
  unfold first
  rw [if_neg]
  rintro ⟨h1, h2, _⟩
  rw [rec_len] at hj
  rcases Nat.lt_or_ge j (Mi.put p.length).length with hlt | hge
  · have e : (rec p).take j = (Mi.put p.length).take j := by
      unfold rec; rw [List.take_append_of_le_length (by omega)]
    rw [e] at h1
    rw [Mi.get_take _ _ hlt] at h1
    cases h1
  · have e : (rec p).take j = Mi.put p.length ++ (Cm.le4 (Cm.sum p) ++ p).take (j - (Mi.put p.length).length) := by
      unfold rec; rw [List.take_append, List.take_of_length_le (by omega)]
    rw [e, Mi.get_put _ _ h] at h2
    simp only [List.length_append, List.length_take, le4_len] at h2
    omega
theorem first_turned (p q m : List UInt8) (hl : q.length = p.length) (h : p.length < 18446744073709551616) (hne : Cm.sum q ≠ Cm.sum p) : first (Mi.put p.length ++ (Cm.le4 (Cm.sum p) ++ q) ++ m) = ([], 0, false) := by
  unfold first
  rw [if_neg]
  have hg : Mi.get (Mi.put p.length ++ (Cm.le4 (Cm.sum p) ++ q) ++ m) = (p.length, (Mi.put p.length).length, true) := by
    rw [List.append_assoc]; exact Mi.get_put _ _ h
  have hd : (Mi.put p.length ++ (Cm.le4 (Cm.sum p) ++ q) ++ m).drop (Mi.put p.length).length = Cm.le4 (Cm.sum p) ++ (q ++ m) := by
    rw [List.append_assoc, List.drop_left]; simp
  have hd4 : (Mi.put p.length ++ (Cm.le4 (Cm.sum p) ++ q) ++ m).drop ((Mi.put p.length).length + 4) = q ++ m := by
    rw [← List.drop_drop, hd]; rfl
  rintro ⟨_, _, h3⟩
  rw [hg] at h3
  simp only at h3
  rw [hd, hd4, ← hl, List.take_left] at h3
  have h4 : Cm.le4 (Cm.sum p) = Cm.le4 (Cm.sum q) := by
    rw [← h3]; rfl
  exact hne (le4_inj (Cm.sum_lt _) (Cm.sum_lt _) h4).symm
theorem first_nil : first [] = ([], 0, false) := by decide
/-- What stands behind a first byte that says that more follow: a nought is no number. -/
theorem first_junk (c : UInt8) (m : List UInt8) (hc : 128 ≤ c.toNat) : first (c :: 0 :: m) = ([], 0, false) := by
  unfold first
  rw [if_neg]
  rintro ⟨h1, _⟩
  have h0 : (0 : UInt8).toNat = 0 := rfl
  have : (Mi.get (c :: 0 :: m)).2.2 = false := by
    unfold Mi.get Mi.getAux
    rw [if_neg (by omega), if_pos (by omega)]
    unfold Mi.getAux
    rw [if_neg (by omega), if_neg (by omega), if_pos (by rw [h0]; omega)]
  rw [this] at h1
  cases h1

theorem split_no (f : Nat) (l : List UInt8) (h : (first l).2.2 = false) : split f l = ([], 0) := by
  rcases f with _ | f
  · rfl
  · unfold split; rw [if_neg (by rw [h]; simp)]
def recs (ps : List (List UInt8)) : List UInt8 := ps.flatMap rec
/-- Records one behind the other, and behind them what is none. -/
theorem split_recs : ∀ (ps : List (List UInt8)) (f : Nat) (m : List UInt8), ps.length ≤ f → (∀ p ∈ ps, p.length < 18446744073709551616) → (first m).2.2 = false → split f (recs ps ++ m) = (ps, (recs ps).length)
  | [], f, m, _, _, h => by rw [show recs [] ++ m = m from rfl, split_no f m h]; rfl
  | p :: ps, 0, _, h, _, _ => absurd h (by simp)
  | p :: ps, f + 1, m, h, hp, hm => by
    have e : recs (p :: ps) ++ m = rec p ++ (recs ps ++ m) := by simp [recs]
    have hf := first_rec p (recs ps ++ m) (hp p (by simp))
    rw [e]
    unfold split
    rw [hf]
    simp only [if_true]
    rw [List.drop_left, split_recs ps f m (by simpa using h) (fun q hq => hp q (by simp [hq])) hm]
    simp [recs]
end Go.Proofs.YtgiahfjndononaaDoor.Fm
