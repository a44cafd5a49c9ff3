/- Plain mathematics of records: how one is written, which one bytes begin with, and all of them one behind the other. No Go in sight. -/
import Derived.Test.YthkclgkbidhmbaaCb
import Derived.Test.YthkclgkbidhmbaaMi
namespace Go.Proofs.Ythkclgkbidhmbaa.Fm
open Go.RowKit
set_option linter.unusedVariables false

def rec (p : List UInt8) : List UInt8 := Mi.put p.length ++ (Cm.le4 (Cm.sum p) ++ p)
/-- Does a record stand at the beginning, and whole? -/
def ok (l : List UInt8) : Prop := (Mi.get l).2.2 = true ∧ (Mi.get l).2.1 + 4 + (Mi.get l).1 ≤ l.length ∧ (l.drop (Mi.get l).2.1).take 4 = Cm.le4 (Cm.sum ((l.drop ((Mi.get l).2.1 + 4)).take (Mi.get l).1))
instance (l : List UInt8) : Decidable (ok l) := by unfold ok; exact inferInstance
def first (l : List UInt8) : List UInt8 × Nat × Bool := if ok l then ((l.drop ((Mi.get l).2.1 + 4)).take (Mi.get l).1, (Mi.get l).2.1 + 4 + (Mi.get l).1, true) else ([], 0, false)
def split : Nat → List UInt8 → List (List UInt8) × Nat
  | 0, _ => ([], 0)
  | f + 1, l => if (first l).2.2 = true then ((first l).1 :: (split f (l.drop (first l).2.1)).1, (first l).2.1 + (split f (l.drop (first l).2.1)).2) else ([], 0)

theorem le4_len (n : Nat) : (Cm.le4 n).length = 4 := rfl
/-- The number that four bytes are. -/
def val4 (l : List UInt8) : Nat := (l.getD 0 0).toNat + (l.getD 1 0).toNat * 256 + (l.getD 2 0).toNat * 65536 + (l.getD 3 0).toNat * 16777216
theorem val4_le4 (n : Nat) (h : n < 4294967296) : val4 (Cm.le4 n) = n := by
  unfold val4 Cm.le4
  simp only [List.getD_cons_zero, List.getD_cons_succ, Cm.toNat_mod]
  omega
theorem le4_val4 (l : List UInt8) (h : l.length = 4) : Cm.le4 (val4 l) = l := by
  match l, h with
  | [a, b, c, d], _ =>
    have ha := a.toNat_lt
    have hb := b.toNat_lt
    have hc := c.toNat_lt
    have hd := d.toNat_lt
    unfold val4 Cm.le4
    simp only [List.getD_cons_zero, List.getD_cons_succ]
    rw [show (a.toNat + b.toNat * 256 + c.toNat * 65536 + d.toNat * 16777216) % 256 = a.toNat from by omega,
      show (a.toNat + b.toNat * 256 + c.toNat * 65536 + d.toNat * 16777216) / 256 % 256 = b.toNat from by omega,
      show (a.toNat + b.toNat * 256 + c.toNat * 65536 + d.toNat * 16777216) / 65536 % 256 = c.toNat from by omega,
      show (a.toNat + b.toNat * 256 + c.toNat * 65536 + d.toNat * 16777216) / 16777216 % 256 = d.toNat from by omega]
    simp
theorem val4_lt (l : List UInt8) : val4 l < 4294967296 := by
  have h0 := (l.getD 0 0).toNat_lt
  have h1 := (l.getD 1 0).toNat_lt
  have h2 := (l.getD 2 0).toNat_lt
  have h3 := (l.getD 3 0).toNat_lt
  unfold val4; omega
theorem le4_inj {a b : Nat} (ha : a < 4294967296) (hb : b < 4294967296) (h : Cm.le4 a = Cm.le4 b) : a = b := by
  rw [← val4_le4 a ha, ← val4_le4 b hb, h]
theorem sum_eq_iff (l : List UInt8) (s : Nat) (hl : l.length = 4) (hs : s < 4294967296) : l = Cm.le4 s ↔ val4 l = s := by
  constructor
  · intro h; rw [h, val4_le4 s hs]
  · intro h; rw [← h, le4_val4 l hl]

theorem rec_len (p : List UInt8) : (rec p).length = (Mi.put p.length).length + 4 + p.length := by
  unfold rec; simp only [List.length_append, le4_len]; omega
theorem first_rec (p m : List UInt8) (h : p.length < 18446744073709551616) : first (rec p ++ m) = (p, (rec p).length, true) := by
  have hg : Mi.get (rec p ++ m) = (p.length, (Mi.put p.length).length, true) := by
    unfold rec; rw [List.append_assoc]; exact Mi.get_put _ _ h
  have hd : (rec p ++ m).drop (Mi.put p.length).length = Cm.le4 (Cm.sum p) ++ (p ++ m) := by
    unfold rec; rw [List.append_assoc, List.drop_left]; simp
  have hd4 : (rec p ++ m).drop ((Mi.put p.length).length + 4) = p ++ m := by
    rw [← List.drop_drop, hd]; rfl
  have hok : ok (rec p ++ m) := by
    unfold ok
    rw [hg]
    refine ⟨rfl, by simp only [List.length_append, rec_len]; omega, ?_⟩
    simp only
    rw [hd, hd4, List.take_left]
    rfl
  unfold first
  rw [if_pos hok, hg]
  simp only
  rw [hd4, List.take_left, rec_len]
/-- Of a record that is torn, whatever was turned in what it has, or of none at all: nothing. -/
theorem first_take (p : List UInt8) (j : Nat) (h : p.length < 18446744073709551616) (hj : j < (rec p).length) : first ((rec p).take j) = ([], 0, false) := by
  unfold first
  rw [if_neg]
  rintro ⟨h1, h2, _⟩
  rw [rec_len] at hj
  rcases Nat.lt_or_ge j (Mi.put p.length).length with hlt | hge
  · have e : (rec p).take j = (Mi.put p.length).take j := by
      unfold rec; rw [List.take_append_of_le_length (by omega)]
    rw [e] at h1
    rw [Mi.get_take _ _ hlt] at h1
    cases h1
  · have e : (rec p).take j = Mi.put p.length ++ (Cm.le4 (Cm.sum p) ++ p).take (j - (Mi.put p.length).length) := by
      unfold rec; rw [List.take_append, List.take_of_length_le (by omega)]
    rw [e, Mi.get_put _ _ h] at h2
    simp only [List.length_append, List.length_take, le4_len] at h2
    omega
theorem first_turned (p q m : List UInt8) (hl : q.length = p.length) (h : p.length < 18446744073709551616) (hne : Cm.sum q ≠ Cm.sum p) : first (Mi.put p.length ++ (Cm.le4 (Cm.sum p) ++ q) ++ m) = ([], 0, false) := by
  unfold first
  rw [if_neg]
  have hg : Mi.get (Mi.put p.length ++ (Cm.le4 (Cm.sum p) ++ q) ++ m) = (p.length, (Mi.put p.length).length, true) := by
    rw [List.append_assoc]; exact Mi.get_put _ _ h
  have hd : (Mi.put p.length ++ (Cm.le4 (Cm.sum p) ++ q) ++ m).drop (Mi.put p.length).length = Cm.le4 (Cm.sum p) ++ (q ++ m) := by
    rw [List.append_assoc, List.drop_left]; simp
  have hd4 : (Mi.put p.length ++ (Cm.le4 (Cm.sum p) ++ q) ++ m).drop ((Mi.put p.length).length + 4) = q ++ m := by
    rw [← List.drop_drop, hd]; rfl
  rintro ⟨_, _, h3⟩
  rw [hg] at h3
  simp only at h3
  rw [hd, hd4, ← hl, List.take_left] at h3
  have h4 : Cm.le4 (Cm.sum p) = Cm.le4 (Cm.sum q) := by
    rw [← h3]; rfl
  exact hne (le4_inj (Cm.sum_lt _) (Cm.sum_lt _) h4).symm
theorem first_nil : first [] = ([], 0, false) := by decide
/-- What stands behind a first byte that says that more follow: a nought is no number. -/
theorem first_junk (c : UInt8) (m : List UInt8) (hc : 128 ≤ c.toNat) : first (c :: 0 :: m) = ([], 0, false) := by
  unfold first
  rw [if_neg]
  rintro ⟨h1, _⟩
  have h0 : (0 : UInt8).toNat = 0 := rfl
  have : (Mi.get (c :: 0 :: m)).2.2 = false := by
    unfold Mi.get Mi.getAux
    rw [if_neg (by omega), if_pos (by omega)]
    unfold Mi.getAux
    rw [if_neg (by omega), if_neg (by omega), if_pos (by rw [h0]; omega)]
  rw [this] at h1
  cases h1

theorem split_no (f : Nat) (l : List UInt8) (h : (first l).2.2 = false) : split f l = ([], 0) := by
  rcases f with _ | f
  · rfl
  · unfold split; rw [if_neg (by rw [h]; simp)]
def recs (ps : List (List UInt8)) : List UInt8 := ps.flatMap rec
/-- Records one behind the other, and behind them what is none. -/
theorem split_recs : ∀ (ps : List (List UInt8)) (f : Nat) (m : List UInt8), ps.length ≤ f → (∀ p ∈ ps, p.length < 18446744073709551616) → (first m).2.2 = false → split f (recs ps ++ m) = (ps, (recs ps).length)
  | [], f, m, _, _, h => by rw [show recs [] ++ m = m from rfl, split_no f m h]; rfl
  | p :: ps, 0, _, h, _, _ => absurd h (by simp)
  | p :: ps, f + 1, m, h, hp, hm => by
    have e : recs (p :: ps) ++ m = rec p ++ (recs ps ++ m) := by simp [recs]
    have hf := first_rec p (recs ps ++ m) (hp p (by simp))
    rw [e]
    unfold split
    rw [hf]
    simp only [if_true]
    rw [List.drop_left, split_recs ps f m (by simpa using h) (fun q hq => hp q (by simp [hq])) hm]
    simp [recs]
end Go.Proofs.Ythkclgkbidhmbaa.Fm
