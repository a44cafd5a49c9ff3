/- Merging till no two have one tier, plainly: how many are left. -/
import Derived.WalkKit
namespace Go.Proofs.Ytcnbbnjdgmlccaa
set_option linter.unusedVariables false
set_option linter.unusedSimpArgs false

/-- How many ones a number has. -/
def pc (n : Nat) : Nat := if h : n = 0 then 0 else n % 2 + pc (n / 2)
termination_by n
decreasing_by omega
theorem pc_zero : pc 0 = 0 := by unfold pc; simp
theorem pc_step {n : Nat} (h : n ≠ 0) : pc n = n % 2 + pc (n / 2) := by rw [pc]; simp [h]
theorem pc_two (m z : Nat) (hz : z ≤ 1) : pc (2 * m + z) = z + pc m := by
  by_cases h : 2 * m + z = 0
  · have h1 : m = 0 := by omega
    have h2 : z = 0 := by omega
    subst h1; subst h2
    rw [Nat.mul_zero, pc_zero]
  · rw [pc_step h, show (2 * m + z) % 2 = z by omega, show (2 * m + z) / 2 = m by omega]
theorem pc_le : ∀ (k n : Nat), n ≤ k → pc n ≤ n
  | 0, n, h => by rw [show n = 0 by omega, pc_zero]; exact Nat.le_refl _
  | k + 1, n, h => by
    by_cases h0 : n = 0
    · rw [h0, pc_zero]; exact Nat.le_refl _
    · rw [pc_step h0]
      have := pc_le k (n / 2) (by omega)
      omega
/-- What tiers are worth together. -/
def worth : List Nat → Nat
  | [] => 0
  | t :: r => 2 ^ t + worth r
theorem worth_app : ∀ a b, worth (a ++ b) = worth a + worth b
  | [], b => by simp [worth]
  | t :: r, b => by rw [List.cons_append, worth, worth, worth_app r b]; omega
theorem lt_two (t : Nat) : t < 2 ^ t := Nat.lt_two_pow_self
theorem worth_mem : ∀ {l : List Nat} {t : Nat}, t ∈ l → 2 ^ t ≤ worth l
  | [], _, h => by cases h
  | x :: r, t, h => by
    rw [worth]
    rcases List.mem_cons.1 h with rfl | h1
    · exact Nat.le_add_right _ _
    · exact Nat.le_trans (worth_mem h1) (Nat.le_add_left _ _)
theorem worth_len : ∀ l : List Nat, l.length ≤ worth l
  | [] => Nat.le_refl _
  | x :: r => by
    have := worth_len r
    have h := lt_two x
    rw [worth, List.length_cons]; omega
/-- All a tier lower, those of tier 0 left out. -/
def lower : List Nat → List Nat
  | [] => []
  | 0 :: r => lower r
  | (t + 1) :: r => t :: lower r
def zeros : List Nat → Nat
  | [] => 0
  | 0 :: r => zeros r + 1
  | (t + 1) :: r => zeros r
theorem lower_worth : ∀ l, worth l = 2 * worth (lower l) + zeros l
  | [] => rfl
  | 0 :: r => by rw [worth, lower, zeros, lower_worth r]; omega
  | (t + 1) :: r => by rw [worth, lower, zeros, worth, lower_worth r, Nat.pow_succ]; omega
theorem lower_len : ∀ l, l.length = (lower l).length + zeros l
  | [] => rfl
  | 0 :: r => by rw [List.length_cons, lower, zeros, lower_len r]; omega
  | (t + 1) :: r => by rw [List.length_cons, lower, zeros, lower_len r, List.length_cons]; omega
theorem lower_mem : ∀ {l : List Nat} {t : Nat}, t ∈ lower l → t + 1 ∈ l
  | [], _, h => by cases h
  | 0 :: r, t, h => List.mem_cons_of_mem _ (lower_mem (by simpa [lower] using h))
  | (x + 1) :: r, t, h => by
    rw [lower] at h
    rcases List.mem_cons.1 h with rfl | h1
    · exact List.mem_cons_self ..
    · exact List.mem_cons_of_mem _ (lower_mem h1)
theorem lower_nodup : ∀ {l : List Nat}, l.Nodup → (lower l).Nodup
  | [], _ => List.nodup_nil
  | 0 :: r, h => by rw [lower]; exact lower_nodup (List.nodup_cons.1 h).2
  | (x + 1) :: r, h => by
    obtain ⟨h1, h2⟩ := List.nodup_cons.1 h
    rw [lower]
    exact List.nodup_cons.2 ⟨fun h3 => h1 (lower_mem h3), lower_nodup h2⟩
theorem zeros_mem : ∀ {l : List Nat}, 0 ∉ l → zeros l = 0
  | [], _ => rfl
  | 0 :: r, h => absurd (List.mem_cons_self ..) h
  | (x + 1) :: r, h => by rw [zeros]; exact zeros_mem (fun h1 => h (List.mem_cons_of_mem _ h1))
theorem zeros_le : ∀ {l : List Nat}, l.Nodup → zeros l ≤ 1
  | [], _ => by simp [zeros]
  | 0 :: r, h => by
    rw [zeros, zeros_mem (List.nodup_cons.1 h).1]
    exact Nat.le_refl _
  | (x + 1) :: r, h => by rw [zeros]; exact zeros_le (List.nodup_cons.1 h).2
/-- Different tiers are as many as their worth has ones. -/
theorem nodup_len : ∀ (k : Nat) (l : List Nat), (∀ t ∈ l, t < k) → l.Nodup → l.length = pc (worth l)
  | 0, l, h, _ => by
    have : l = [] := by
      cases l with
      | nil => rfl
      | cons x r => exact absurd (h x (List.mem_cons_self ..)) (Nat.not_lt_zero _)
    subst this
    exact pc_zero.symm
  | k + 1, l, h, hn => by
    have ih := nodup_len k (lower l) (fun t ht => by have := h _ (lower_mem ht); omega) (lower_nodup hn)
    rw [lower_worth l, pc_two _ _ (zeros_le hn), lower_len l, ih]
    omega
theorem nodup_len' (l : List Nat) (hn : l.Nodup) : l.length = pc (worth l) := nodup_len (worth l + 1) l (fun t ht => by
  have h1 := worth_mem ht
  have h2 := lt_two t
  omega) hn
/-- Two of one tier made one of the next: the worth stays. -/
theorem split_two {α : Type} (l : List α) (a b : Nat) (x y : α) (hab : a < b) (ha : l[a]? = some x) (hb : l[b]? = some y) :
    ∃ X Y Z, l = X ++ x :: (Y ++ y :: Z) ∧ X.length = a ∧ X.length + 1 + Y.length = b := by
  have hal : a < l.length := (List.getElem?_eq_some_iff.1 ha).1
  have hbl : b < l.length := (List.getElem?_eq_some_iff.1 hb).1
  have e1 : l.drop a = x :: l.drop (a + 1) := by
    rw [List.drop_eq_getElem_cons hal]
    congr 1
    rw [List.getElem?_eq_getElem hal] at ha
    injection ha
  have e2 : (l.drop (a + 1)).drop (b - a - 1) = y :: l.drop (b + 1) := by
    rw [List.drop_drop, show a + 1 + (b - a - 1) = b by omega, List.drop_eq_getElem_cons hbl]
    congr 1
    rw [List.getElem?_eq_getElem hbl] at hb
    injection hb
  refine ⟨l.take a, (l.drop (a + 1)).take (b - a - 1), l.drop (b + 1), ?_, by rw [List.length_take]; omega, by rw [List.length_take, List.length_take, List.length_drop]; omega⟩
  rw [← e2, List.take_append_drop, ← e1, List.take_append_drop]
theorem merged {α : Type} (X Y Z : List α) (x y z : α) : ((X ++ x :: (Y ++ y :: Z)).take (X.length + 1 + Y.length) ++ (X ++ x :: (Y ++ y :: Z)).drop (X.length + 1 + Y.length + 1)).set X.length z = X ++ z :: (Y ++ Z) := by
  have h1 : (X ++ x :: (Y ++ y :: Z)).take (X.length + 1 + Y.length) = X ++ x :: Y := by
    rw [show X ++ x :: (Y ++ y :: Z) = (X ++ x :: Y) ++ y :: Z by simp, List.take_append_of_le_length (by simp; omega), List.take_of_length_le (by simp; omega)]
  have h2 : (X ++ x :: (Y ++ y :: Z)).drop (X.length + 1 + Y.length + 1) = Z := by
    rw [show X ++ x :: (Y ++ y :: Z) = (X ++ x :: (Y ++ [y])) ++ Z by simp, List.drop_append_of_le_length (by simp; omega), List.drop_eq_nil_of_le (by simp; omega), List.nil_append]
  rw [h1, h2]
  simp
theorem worth_merged (X Y Z : List Nat) (t : Nat) : worth (X ++ (t + 1) :: (Y ++ Z)) = worth (X ++ t :: (Y ++ t :: Z)) := by
  simp only [worth_app, worth, Nat.pow_succ]
  omega
end Go.Proofs.Ytcnbbnjdgmlccaa
