/- Plain mathematics: what is remembered of verdicts is the first of each trace, the newest first, as many as may be. No Go in sight. -/
import Derived.Test.YtkmcdeejkcncpaaAl17
namespace Go.Proofs.Ytkmcdeejkcncpaa.Vm
open Go.RowKit
set_option linter.unusedVariables false

def dd (acc : List V) (v : V) : List V := if acc.any (fun o => same o v) then acc else acc ++ [v]
def ded (l : List V) : List V := l.foldl dd []
theorem same_iff (a b : V) : same a b = true ↔ (a.1 = b.1 ∧ a.2.1 = b.2.1) := by simp [same]
theorem same_no (a b : V) : same a b = false ↔ ¬ (a.1 = b.1 ∧ a.2.1 = b.2.1) := by rw [← same_iff]; simp
theorem dd_cons (v u : V) (acc : List V) : dd (v :: acc.filter fun o => !same o v) u = v :: (dd acc u).filter fun o => !same o v := by
  unfold dd
  by_cases h : same v u = true
  · have h1 : (v :: acc.filter fun o => !same o v).any (fun o => same o u) = true := by simp [h]
    rw [if_pos h1]
    have h2 : same u v = true := by rw [same_iff] at h ⊢; exact ⟨h.1.symm, h.2.symm⟩
    split
    · rfl
    · rw [List.filter_append]; simp [h2]
  · have h1 : (v :: acc.filter fun o => !same o v).any (fun o => same o u) = acc.any (fun o => same o u) := by
      rw [List.any_cons]
      have h0 : same v u = false := by simpa using h
      rw [h0, Bool.false_or, List.any_filter]
      congr 1
      funext o
      by_cases ho : same o u = true
      · have h2 : same o v = false := by
          rw [same_no]; intro h3; rw [same_iff] at ho; rw [same_no] at h0; exact h0 ⟨h3.1.symm.trans ho.1, h3.2.symm.trans ho.2⟩
        simp [ho, h2]
      · simp at ho; simp [ho]
    rw [h1]
    split
    · rfl
    · rw [List.filter_append]
      have h2 : same u v = false := by
        rw [same_no]; intro h3; exact h ((same_iff v u).2 ⟨h3.1.symm, h3.2.symm⟩)
      simp [h2]
theorem foldl_cons (v : V) : ∀ (r acc : List V), r.foldl dd (v :: acc.filter fun o => !same o v) = v :: (r.foldl dd acc).filter fun o => !same o v
  | [], _ => rfl
  | u :: r, acc => by
    rw [List.foldl_cons, List.foldl_cons, dd_cons]
    exact foldl_cons v r (dd acc u)
theorem ded_cons (v : V) (r : List V) : ded (v :: r) = v :: (ded r).filter fun o => !same o v := by
  unfold ded
  rw [List.foldl_cons, show dd [] v = v :: ([] : List V).filter (fun o => !same o v) from rfl]
  exact foldl_cons v r []
theorem ded_snoc (l : List V) (v : V) : ded (l ++ [v]) = dd (ded l) v := by unfold ded; rw [List.foldl_append]; rfl
theorem dd_prefix (acc : List V) (v : V) : acc <+: dd acc v := by
  unfold dd; split
  · exact List.prefix_refl _
  · exact List.prefix_append _ _
theorem ded_prefix : ∀ (r l : List V), ded l <+: ded (l ++ r)
  | [], l => by rw [List.append_nil]; exact List.prefix_refl _
  | v :: r, l => by
    have h := ded_prefix r (l ++ [v])
    rw [List.append_assoc, ded_snoc] at h
    exact (dd_prefix (ded l) v).trans h
theorem dd_any (acc : List V) (v u : V) : (dd acc v).any (fun o => same o u) = (acc.any (fun o => same o u) || same v u) := by
  unfold dd
  split
  · rename_i h
    by_cases hv : same v u = true
    · have : acc.any (fun o => same o u) = true := by
        rw [List.any_eq_true] at h ⊢
        obtain ⟨o, ho, hs⟩ := h
        refine ⟨o, ho, ?_⟩
        rw [same_iff] at hs hv ⊢
        exact ⟨hs.1.trans hv.1, hs.2.trans hv.2⟩
      rw [this, hv]; rfl
    · simp at hv; rw [hv, Bool.or_false]
  · rw [List.any_append]; simp
theorem ded_distinct (l : List V) : (ded l).Pairwise fun a b => same a b = false := by
  have : ∀ (r acc : List V), acc.Pairwise (fun a b => same a b = false) → (r.foldl dd acc).Pairwise (fun a b => same a b = false) := by
    intro r
    induction r with
    | nil => intro acc h; exact h
    | cons v r ih =>
      intro acc h
      rw [List.foldl_cons]
      apply ih
      unfold dd
      split
      · exact h
      · rename_i hn
        rw [List.pairwise_append]
        refine ⟨h, List.pairwise_singleton _ _, fun a ha b hb => ?_⟩
        simp at hb
        subst hb
        rw [List.any_eq_true] at hn
        have h0 : ¬ same a b = true := fun e => hn ⟨a, ha, e⟩
        simpa using h0
  exact this l [] List.Pairwise.nil
theorem take_filter (v : V) : ∀ (X : List V) (m : Nat), X.Pairwise (fun a b => same a b = false) → (((X.take (m + 1)).filter fun o => !same o v)).take m = (X.filter fun o => !same o v).take m
  | [], _, _ => by simp
  | x :: X, m, h => by
    rw [List.pairwise_cons] at h
    rw [List.take_succ_cons]
    by_cases hx : same x v = true
    · have hall : ∀ y ∈ X, (!same y v) = true := fun y hy => by
        have := h.1 y hy
        have hyv : same y v = false := by
          rw [same_no] at this ⊢; rw [same_iff] at hx
          intro h3; exact this ⟨hx.1.trans h3.1.symm, hx.2.trans h3.2.symm⟩
        simp [hyv]
      rw [List.filter_cons_of_neg (by simp [hx]), List.filter_cons_of_neg (by simp [hx]), List.filter_eq_self.2 hall, List.filter_eq_self.2 (fun y hy => hall y (List.mem_of_mem_take hy)), List.take_take, Nat.min_self]
    · have hx2 : (!same x v) = true := by simpa using hx
      have e1 : ∀ Z : List V, ((x :: Z).filter fun o => !same o v) = x :: Z.filter fun o => !same o v := fun Z => List.filter_cons_of_pos hx2
      rw [e1, e1]
      rcases m with _ | k
      · rfl
      · rw [List.take_succ_cons, List.take_succ_cons, take_filter v X k h.2]
theorem play_ded (m : Nat) : ∀ l : List V, play l m = (ded l.reverse).take m := by
  intro l
  have : ∀ r : List V, play r.reverse m = (ded r).take m := by
    intro r
    induction r with
    | nil => simp [play, ded]
    | cons v r ih =>
      rw [List.reverse_cons]
      have hp : play (r.reverse ++ [v]) m = put (play r.reverse m) v m := by unfold play; rw [List.foldl_append]; rfl
      rw [hp, ih, ded_cons]
      unfold put ahead
      rcases m with _ | m
      · rfl
      · rw [List.take_succ_cons, List.take_succ_cons, take_filter v (ded r) m (ded_distinct r)]
  have h := this l.reverse
  rwa [List.reverse_reverse] at h
end Go.Proofs.Ytkmcdeejkcncpaa.Vm
