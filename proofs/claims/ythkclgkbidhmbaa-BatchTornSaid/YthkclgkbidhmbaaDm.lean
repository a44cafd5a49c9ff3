/- The document's span, plain; its steps against the code's. -/
import Derived.Test.YthkclgkbidhmbaaDr
namespace Go.Proofs.Ythkclgkbidhmbaa
open Go.RowKit
set_option linter.unusedVariables false
set_option linter.unusedSimpArgs false

namespace Dm
open Rm (R)
def atl : Nat → Nat → R → List (ByteArray × ByteArray) → R × List (ByteArray × ByteArray)
  | 0, _, r, acc => (r, acc)
  | f + 1, n, r, acc => if 0 < n ∧ r.2 = false then atl f (n - 1) (text (text r).2).2 (acc ++ [(S8 (text r).1, S8 (text (text r).2).1)]) else (r, acc)
def q0 (r : R) := num r
def q1 (r : R) := num (q0 r).2
def q2 (r : R) := num (q1 r).2
def q3 (r : R) := num (q2 r).2
def q4 (r : R) := text (q3 r).2
def q5 (r : R) := text (q4 r).2
def q6 (r : R) := int 1099511627776 (q5 r).2
def q7 (r : R) := int 1073741824 (q6 r).2
def q8 (r : R) := int 1 (q7 r).2
def q9 (r : R) := int 4 (q8 r).2
def qa (r : R) := atl 4 (q9 r).1 (q9 r).2 []
def raw (r : R) : Sp := ⟨(q0 r).1, (q1 r).1, (q2 r).1, (q3 r).1, S8 (q4 r).1, S8 (q5 r).1, (q6 r).1, (q7 r).1, decide ((q8 r).1 = 1), (qa r).2⟩
def span (r : R) : Sp × R := (raw r, ((qa r).1.1, (qa r).1.2 || !right (raw r)))
end Dm
/-- A number: both refuse at once, else they are one. -/
theorem num_tie (r : Rm.R) : (Dm.num r).2.2 = (Rm.wide r).2.2 ∧ ((Dm.num r).2.2 = false → Dm.num r = Rm.wide r) := by
  obtain ⟨l, b⟩ := r
  unfold Dm.num Rm.wide
  cases b <;> cases h : (Mi.get l).2.2 <;> simp [Rm.fail, h]
theorem text_tie (r : Rm.R) : (Dm.text r).2.2 = (Rm.text r).2.2 ∧ ((Dm.text r).2.2 = false → Dm.text r = Rm.text r) := by
  obtain ⟨l, b⟩ := r
  unfold Dm.text Rm.text
  cases b <;> cases h : (Mi.gettext l).2.2 <;> simp [Rm.fail, h]
theorem int_tie (most : Nat) (hm : most ≤ 9223372036854775807) (r : Rm.R) : (Dm.int most r).2.2 = false → Dm.int most r = Rm.num r ∧ (Rm.num r).1 ≤ most := by
  intro h
  unfold Dm.int at h ⊢
  split at h
  · simp at h
  · rename_i hv
    have e := (num_tie r).2 h
    rw [if_neg hv]
    unfold Rm.num
    rw [← e, if_neg (by omega)]
    exact ⟨rfl, by omega⟩
theorem int_back (most : Nat) (hm : most ≤ 9223372036854775807) (r : Rm.R) (h : (Rm.num r).2.2 = false) (hv : (Rm.num r).1 ≤ most) : Dm.int most r = Rm.num r := by
  unfold Rm.num at h hv ⊢
  split at h
  · cases h
  · rename_i hn
    rw [if_neg hn] at hv ⊢
    have e := (num_tie r).2 ((num_tie r).1.trans h)
    unfold Dm.int
    rw [e, if_neg (by omega)]
theorem dnum_ok {r : Rm.R} (h : (Dm.num r).2.2 = false) : r.2 = false := by
  unfold Dm.num at h; split at h
  · rename_i hh; exact hh.1
  · cases h
theorem dtext_ok {r : Rm.R} (h : (Dm.text r).2.2 = false) : r.2 = false := by
  unfold Dm.text at h; split at h
  · rename_i hh; exact hh.1
  · cases h
theorem dint_ok {most : Nat} {r : Rm.R} (h : (Dm.int most r).2.2 = false) : r.2 = false := by
  unfold Dm.int at h; split at h
  · cases h
  · exact dnum_ok h
theorem wide_ok {r : Rm.R} (h : (Rm.wide r).2.2 = false) : r.2 = false := dnum_ok ((num_tie r).1.trans h)
theorem rtext_ok {r : Rm.R} (h : (Rm.text r).2.2 = false) : r.2 = false := dtext_ok ((text_tie r).1.trans h)
theorem rnum_ok {r : Rm.R} (h : (Rm.num r).2.2 = false) : r.2 = false := by
  unfold Rm.num at h; split at h
  · cases h
  · exact wide_ok h
theorem flag_ok {r : Rm.R} (h : (Rm.flag r).2.2 = false) : (Rm.num r).2.2 = false ∧ (Rm.num r).1 ≤ 1 := by
  unfold Rm.flag at h; simp only at h; split at h
  · cases h
  · exact ⟨h, by omega⟩
theorem datl_ok (f : Nat) : ∀ (n : Nat) (r : Rm.R) (acc : List (ByteArray × ByteArray)), (Dm.atl f n r acc).1.2 = false → r.2 = false := by
  induction f with
  | zero => intro n r acc h; exact h
  | succ f ih =>
    intro n r acc h
    unfold Dm.atl at h; split at h
    · rename_i hh; exact hh.2
    · exact h
theorem ratl_ok (f : Nat) : ∀ (n : Nat) (r : Rm.R) (acc : List (ByteArray × ByteArray)), (Rm.atl f n r acc).1.2 = false → r.2 = false := by
  induction f with
  | zero => intro n r acc h; exact h
  | succ f ih =>
    intro n r acc h
    unfold Rm.atl at h; split at h
    · rename_i hh; exact hh.2
    · exact h
theorem atl_tie (f : Nat) : ∀ (n : Nat) (r : Rm.R) (acc : List (ByteArray × ByteArray)), n ≤ f → (Dm.atl f n r acc).1.2 = false → Rm.atl (f + 1) n r acc = Dm.atl f n r acc := by
  induction f with
  | zero =>
    intro n r acc hn h
    unfold Rm.atl
    rw [if_neg (by omega)]
    rfl
  | succ f ih =>
    intro n r acc hn h
    unfold Rm.atl
    unfold Dm.atl at h ⊢
    split
    · rename_i hh
      rw [if_pos hh] at h
      have o2 := datl_ok _ _ _ _ h
      have o1 := dtext_ok o2
      have e1 := (text_tie r).2 o1
      have e2 := (text_tie _).2 o2
      have := ih _ _ _ (by omega) h
      rw [e1] at this e2 ⊢
      rw [e2] at this ⊢
      exact this
    · rfl
theorem atl_back (f : Nat) : ∀ (n : Nat) (r : Rm.R) (acc : List (ByteArray × ByteArray)), n ≤ f → (Rm.atl (f + 1) n r acc).1.2 = false → Dm.atl f n r acc = Rm.atl (f + 1) n r acc := by
  induction f with
  | zero =>
    intro n r acc hn h
    unfold Rm.atl
    rw [if_neg (by omega)]
    rfl
  | succ f ih =>
    intro n r acc hn h
    unfold Rm.atl at h ⊢
    unfold Dm.atl
    split
    · rename_i hh
      rw [if_pos hh] at h
      have o2 := ratl_ok _ _ _ _ h
      have o1 := rtext_ok o2
      have e1 := (text_tie r).2 ((text_tie r).1.trans o1)
      have e2 := (text_tie _).2 ((text_tie _).1.trans o2)
      have := ih _ _ _ (by omega) h
      rw [e1, e2]
      exact this
    · rfl
theorem atl_size (f : Nat) : ∀ (n : Nat) (r : Rm.R) (acc : List (ByteArray × ByteArray)), (Rm.atl f n r acc).1.2 = false → (Rm.atl f n r acc).2.length = acc.length + min f n := by
  induction f with
  | zero => intro n r acc h; simp [Rm.atl]
  | succ f ih =>
    intro n r acc h
    unfold Rm.atl at h ⊢
    split
    · rename_i hh
      rw [if_pos hh] at h
      rw [ih _ _ _ h, List.length_append, List.length_singleton]
      omega
    · rename_i hh
      rw [if_neg hh] at h
      simp only at h
      have : n = 0 := by
        rcases Nat.eq_zero_or_pos n with h0 | h0
        · exact h0
        · exact absurd ⟨h0, h⟩ hh
      subst this
      simp
/-- Where the document's reader reads a span, the code's reads the same. -/
theorem dspan_tie (r : Rm.R) (h : (Dm.span r).2.2 = false) : Rm.span r = Dm.span r := by
  have h1 : ((Dm.qa r).1.2 || !right (Dm.raw r)) = false := h
  rw [Bool.or_eq_false_iff] at h1
  obtain ⟨oa, hri⟩ := h1
  have hri : right (Dm.raw r) = true := by simpa using hri
  have o9 : (Dm.q9 r).2.2 = false := datl_ok _ _ _ _ oa
  have o8 : (Dm.q8 r).2.2 = false := dint_ok o9
  have o7 : (Dm.q7 r).2.2 = false := dint_ok o8
  have o6 : (Dm.q6 r).2.2 = false := dint_ok o7
  have o5 : (Dm.q5 r).2.2 = false := dint_ok o6
  have o4 : (Dm.q4 r).2.2 = false := dtext_ok o5
  have o3 : (Dm.q3 r).2.2 = false := dtext_ok o4
  have o2 : (Dm.q2 r).2.2 = false := dnum_ok o3
  have o1 : (Dm.q1 r).2.2 = false := dnum_ok o2
  have o0 : (Dm.q0 r).2.2 = false := dnum_ok o1
  have e0 : Dm.q0 r = Rm.p0 r := (num_tie r).2 o0
  have e1 : Dm.q1 r = Rm.p1 r := by show _ = Rm.wide (Rm.p0 r).2; rw [← e0]; exact (num_tie _).2 o1
  have e2 : Dm.q2 r = Rm.p2 r := by show _ = Rm.wide (Rm.p1 r).2; rw [← e1]; exact (num_tie _).2 o2
  have e3 : Dm.q3 r = Rm.p3 r := by show _ = Rm.wide (Rm.p2 r).2; rw [← e2]; exact (num_tie _).2 o3
  have e4 : Dm.q4 r = Rm.p4 r := by show _ = Rm.text (Rm.p3 r).2; rw [← e3]; exact (text_tie _).2 o4
  have e5 : Dm.q5 r = Rm.p5 r := by show _ = Rm.text (Rm.p4 r).2; rw [← e4]; exact (text_tie _).2 o5
  have e6 : Dm.q6 r = Rm.p6 r := by show _ = Rm.num (Rm.p5 r).2; rw [← e5]; exact (int_tie _ (by omega) _ o6).1
  have e7 : Dm.q7 r = Rm.p7 r := by show _ = Rm.num (Rm.p6 r).2; rw [← e6]; exact (int_tie _ (by omega) _ o7).1
  have t8 := int_tie 1 (by omega) _ o8
  have e8 : (decide ((Dm.q8 r).1 = 1), (Dm.q8 r).2) = Rm.p8 r := by
    show _ = Rm.flag (Rm.p7 r).2
    rw [← e7]
    unfold Rm.flag
    rw [if_neg (by omega), ← t8.1]
    rfl
  have t9 := int_tie 4 (by omega) _ o9
  have e9 : Dm.q9 r = Rm.p9 r := by show _ = Rm.num (Rm.p8 r).2; rw [← e8]; exact t9.1
  have b9 : (Dm.q9 r).1 ≤ 4 := by show (Dm.int 4 (Dm.q8 r).2).1 ≤ 4; rw [t9.1]; exact t9.2
  have ea : Rm.pa r = Dm.qa r := by show Rm.atl 5 (Rm.p9 r).1 (Rm.p9 r).2 [] = _; rw [← e9]; exact atl_tie 4 _ _ _ b9 oa
  have er : Rm.raw r = Dm.raw r := by
    unfold Rm.raw Dm.raw
    rw [ea, ← e8, ← e0, ← e1, ← e2, ← e3, ← e4, ← e5, ← e6, ← e7]
  unfold Rm.span
  rw [er, ea, if_pos ⟨oa, hri⟩]
  unfold Dm.span
  rw [hri]
  simp
end Go.Proofs.Ythkclgkbidhmbaa
