/- tree.Sizes, plainly. -/
import Derived.Test.YtgldjjmpjaegfaaSys
namespace Go.Proofs.Ytgldjjmpjaegfaa.Sy
set_option linter.unusedVariables false
set_option linter.unusedSimpArgs false

/-- The sum of what a list says of some places. -/
def tot (S : List Nat) (R : List Nat) : Nat := (R.map fun y => (S[y]?).getD 0).sum
theorem tot_append (S A B : List Nat) : tot S (A ++ B) = tot S A + tot S B := by unfold tot; rw [List.map_append, List.sum_append]
theorem tot_one (S : List Nat) (i : Nat) : tot S [i] = (S[i]?).getD 0 := by unfold tot; simp
theorem tot_congr {S S' R : List Nat} (h : ∀ y ∈ R, S'[y]? = S[y]?) : tot S' R = tot S R := by
  unfold tot
  congr 1
  apply List.map_congr_left
  intro y hy
  rw [h y hy]
theorem tot_split (S R : List Nat) (p q : Nat → Bool) : tot S (R.filter p) = tot S (R.filter fun y => p y && q y) + tot S (R.filter fun y => p y && !q y) := by
  induction R with
  | nil => rfl
  | cons y R ih =>
    have h1 : ∀ A : List Nat, tot S (y :: A) = (S[y]?).getD 0 + tot S A := fun A => by unfold tot; simp
    cases hp : p y <;> cases hq : q y <;> simp only [List.filter_cons, hp, hq, Bool.and_true, Bool.and_false, Bool.not_true, Bool.not_false, if_true, Bool.false_eq_true, if_false, h1, ih] <;> omega
theorem tot_mem {S R : List Nat} {y : Nat} (h : y ∈ R) : (S[y]?).getD 0 ≤ tot S R := by
  obtain ⟨A, B, rfl⟩ := List.append_of_mem h
  rw [tot_append, show y :: B = [y] ++ B from rfl, tot_append, tot_one]
  omega
theorem tot_le {S R : List Nat} (p : Nat → Bool) : tot S (R.filter p) ≤ tot S R := by
  have h := tot_split S R (fun _ => true) p
  have e : R.filter (fun _ => true) = R := List.filter_eq_self.2 (fun _ _ => rfl)
  have e2 : (R.filter fun y => true && p y) = R.filter p := List.filter_congr fun _ _ => Bool.true_and _
  rw [e, e2] at h
  omega
/-- What holds when the places of R are done. -/
structure Szt (P : List Int) (n : Nat) (R S : List Nat) : Prop where
  len : S.length = n
  sum : ∀ x, x < n → S[x]? = some ((if x ∈ R then 1 else 0) + tot S (R.filter fun y => parN P n y == x))
  all : tot S (R.filter fun y => !(R.contains (parN P n y))) = R.length
theorem Szt.start (P : List Int) (n : Nat) : Szt P n [] (List.replicate n 0) := by
  refine ⟨List.length_replicate, fun x hx => ?_, rfl⟩
  rw [List.getElem?_replicate, if_pos hx]
  simp [tot]
theorem Szt.step {P : List Int} {n i : Nat} {R S : List Nat} (h : Szt P n R S) (hi : i < n) (hiR : i ∉ R) (hself : parN P n i ≠ i) (hpar : parN P n i ∉ R) (hlt : ∀ y ∈ R, y < n) (hki : ∀ y ∈ R, parN P n y ≠ y) :
    ∃ si, S[i]? = some si ∧ si ≤ R.length ∧ (parN P n i = n → Szt P n (R ++ [i]) (S.set i (si + 1))) ∧ ∀ sp, parN P n i < n → S[parN P n i]? = some sp → sp + si ≤ R.length ∧ Szt P n (R ++ [i]) ((S.set i (si + 1)).set (parN P n i) (sp + (si + 1))) := by
  have hs := h.sum i hi
  rw [if_neg hiR, Nat.zero_add] at hs
  have hil : i < S.length := by rw [h.len]; exact hi
  -- who hangs on i, and who on i's parent, hangs on nobody in R
  have hsub : ∀ p, p ∉ R → tot S (R.filter fun y => parN P n y == p) + tot S ((R.filter fun y => !(R.contains (parN P n y))).filter fun y => !(parN P n y == p)) = R.length := fun p hp => by
    rw [← h.all]
    have e := tot_split S R (fun y => !(R.contains (parN P n y))) (fun y => parN P n y == p)
    rw [e, List.filter_filter]
    congr 1
    · congr 1
      apply List.filter_congr
      intro y _
      by_cases e1 : parN P n y = p
      · simp [e1, hp]
      · simp [e1]
    · congr 1
      apply List.filter_congr
      intro y _
      exact Bool.and_comm _ _
  have hle : ∀ p, p ∉ R → tot S (R.filter fun y => parN P n y == p) ≤ R.length := fun p hp => by have := hsub p hp; omega
  obtain ⟨si, hsi⟩ : ∃ si, si = tot S (R.filter fun y => parN P n y == i) := ⟨_, rfl⟩
  rw [← hsi] at hs
  have key : ∀ S' : List Nat, S'.length = n → (∀ y ∈ R, S'[y]? = S[y]?) → S'[i]? = some (si + 1) → parN P n i ∉ R ++ [i] → (∀ x, x < n → x ≠ i → S'[x]? = some ((if x ∈ R then 1 else 0) + (tot S (R.filter fun y => parN P n y == x) + (if parN P n i = x then si + 1 else 0)))) → Szt P n (R ++ [i]) S' := fun S' hl hag hsi' hp' hother => by
    have hti : ∀ q : Nat → Bool, tot S' ((R ++ [i]).filter q) = tot S (R.filter q) + (if q i = true then si + 1 else 0) := fun q => by
      rw [List.filter_append, tot_append]
      congr 1
      · exact tot_congr fun y hy => hag y (List.mem_filter.1 hy).1
      · cases hq : q i
        · simp [hq, tot]
        · simp [hq, tot, hsi']
    refine ⟨hl, fun x hx => ?_, ?_⟩
    · rw [hti]
      by_cases e : x = i
      · subst e
        rw [hsi', if_pos (List.mem_append_right _ (List.mem_singleton.2 rfl)), ← hsi]
        have : (parN P n x == x) = false := by simpa using hself
        rw [this]
        simp [Nat.add_comm]
      · rw [hother x hx e]
        have h1 : (x ∈ R ++ [i]) ↔ x ∈ R := by simp [e]
        simp only [h1, beq_iff_eq]
    · rw [hti, List.length_append, List.length_singleton]
      have h1 : (!((R ++ [i]).contains (parN P n i))) = true := by simpa using hp'
      rw [if_pos h1]
      have h2 := hsub i hiR
      rw [← hsi] at h2
      have h3 : (R.filter fun y => !((R ++ [i]).contains (parN P n y))) = (R.filter fun y => !(R.contains (parN P n y))).filter fun y => !(parN P n y == i) := by
        rw [List.filter_filter]
        apply List.filter_congr
        intro y _
        rw [Bool.eq_iff_iff]
        simp [not_or, and_comm]
      rw [h3]
      omega
  have hag1 : ∀ y ∈ R, i ≠ y := fun y hy e => hiR (by rw [e]; exact hy)
  refine ⟨si, hs, by rw [hsi]; exact hle i hiR, fun hn => key _ (by rw [List.length_set]; exact h.len) (fun y hy => List.getElem?_set_ne (hag1 y hy)) (List.getElem?_set_self hil) (fun hm => ?_) (fun x hx hxi => ?_), fun sp hp hsp => ⟨?_, key _ (by rw [List.length_set, List.length_set]; exact h.len) (fun y hy => ?_) ?_ (fun hm => ?_) fun x hx hxi => ?_⟩⟩
  · rcases List.mem_append.1 hm with m | m
    · exact hpar m
    · exact hself (List.mem_singleton.1 m)
  · have e0 : (if parN P n i = x then si + 1 else 0) = 0 := if_neg (by omega)
    rw [List.getElem?_set_ne (fun e => hxi e.symm), h.sum x hx, e0, Nat.add_zero]
  · have hs2 := h.sum _ hp
    rw [if_neg hpar, Nat.zero_add, hsp] at hs2
    injection hs2 with hs2
    have h2 := hsub _ hpar
    have h3 : si ≤ tot S ((R.filter fun y => !(R.contains (parN P n y))).filter fun y => !(parN P n y == parN P n i)) := by
      have e := tot_le (S := S) (R := (R.filter fun y => !(R.contains (parN P n y))).filter fun y => !(parN P n y == parN P n i)) (fun y => parN P n y == i)
      refine Nat.le_trans (Nat.le_of_eq ?_) e
      rw [hsi, List.filter_filter, List.filter_filter]
      congr 1
      apply List.filter_congr
      intro y _
      by_cases e1 : parN P n y = i
      · have e2 : ¬ i = parN P n i := fun e => hself e.symm
        simp [e1, hiR, e2]
      · have e3 : (parN P n y == i) = false := beq_eq_false_iff_ne.2 e1
        simp only [e3, Bool.and_false, Bool.false_and]
    omega
  · rw [List.getElem?_set_ne (fun e => hpar (by rw [e]; exact hy)), List.getElem?_set_ne (hag1 y hy)]
  · rw [List.getElem?_set_ne hself, List.getElem?_set_self hil]
  · rcases List.mem_append.1 hm with m | m
    · exact hpar m
    · exact hself (List.mem_singleton.1 m)
  · by_cases e : parN P n i = x
    · have hs2 := h.sum _ hp
      rw [if_neg hpar, Nat.zero_add, hsp] at hs2
      injection hs2 with hs2
      rw [← e, List.getElem?_set_self (by rw [List.length_set, h.len]; exact hp), if_neg hpar, if_pos rfl, ← hs2, Nat.zero_add]
    · have e0 : (if parN P n i = x then si + 1 else 0) = 0 := if_neg e
      rw [List.getElem?_set_ne e, List.getElem?_set_ne (fun e => hxi e.symm), h.sum x hx, e0, Nat.add_zero]
end Go.Proofs.Ytgldjjmpjaegfaa.Sy
