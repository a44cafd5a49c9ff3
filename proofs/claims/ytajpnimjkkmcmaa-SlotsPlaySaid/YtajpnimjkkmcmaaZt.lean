/- Putting in, as the document says it: the same, where of no operation there are more than two. -/
import Derived.Test.YtajpnimjkkmcmaaZm
namespace Go.Proofs.Ytajpnimjkkmcmaa
open Go.RowKit
set_option linter.unusedVariables false
set_option linter.unusedSimpArgs false
set_option maxRecDepth 100000

/-- One step of the document's loop. -/
def skF (e : Ex) (s : List Ex × Nat) (x : Ex) : List Ex × Nat := if ordE x e = 0 then (if 2 < s.2 + 1 then s.1 else s.1 ++ [x], s.2 + 1) else (s.1 ++ [x], s.2)
def dputX (e : Ex) (l : List Ex) : List Ex := ((l.drop (putAt e l)).foldl (skF e) (l.take (putAt e l) ++ [e], 1)).1
def dputsX (es l : List Ex) : List Ex := es.foldl (fun l e => dputX e l) l
theorem skF_le (e : Ex) : ∀ (D : List Ex) (s : List Ex × Nat), (D.foldl (skF e) s).1.length ≤ s.1.length + D.length ∧ (D.foldl (skF e) s).2 ≤ s.2 + D.length
  | [], s => ⟨Nat.le_refl _, Nat.le_refl _⟩
  | x :: r, s => by
    obtain ⟨h1, h2⟩ := skF_le e r (skF e s x)
    have h3 : (skF e s x).1.length ≤ s.1.length + 1 ∧ (skF e s x).2 ≤ s.2 + 1 := by
      unfold skF
      split
      · split
        · exact ⟨Nat.le_succ _, Nat.le_refl _⟩
        · exact ⟨by simp, Nat.le_refl _⟩
      · exact ⟨by simp, Nat.le_succ _⟩
    rw [List.foldl_cons, List.length_cons]
    omega
theorem dputX_len (e : Ex) (l : List Ex) : (dputX e l).length ≤ l.length + 1 := by
  have h := (skF_le e (l.drop (putAt e l)) (l.take (putAt e l) ++ [e], 1)).1
  have h2 := putAt_le e l
  rw [List.length_append, List.length_take, List.length_drop] at h
  show (dputX e l).length ≤ _
  unfold dputX
  simp only [List.length_cons, List.length_nil] at h
  omega
/-- How many of e's operation. -/
def kc (e : Ex) (l : List Ex) : Nat := l.countP fun x => ordE x e == 0
theorem kc_cons (e x : Ex) (l : List Ex) : kc e (x :: l) = kc e l + if ordE x e = 0 then 1 else 0 := by
  unfold kc
  rw [List.countP_cons]
  by_cases h : ordE x e = 0
  · simp [h]
  · simp [h]
theorem kc_app (e : Ex) (a b : List Ex) : kc e (a ++ b) = kc e a + kc e b := List.countP_append
/-- m is the last place of e's operation. -/
def IsLast (e : Ex) (l : List Ex) (m : Nat) : Prop := (∃ x, l[m]? = some x ∧ ordE x e = 0) ∧ ∀ j x, m < j → l[j]? = some x → ordE x e ≠ 0
theorem kc_zero (e : Ex) : ∀ l : List Ex, kc e l = 0 → ∀ x ∈ l, ordE x e ≠ 0
  | [], _, _, h => by cases h
  | y :: r, h, x, hx => by
    rw [kc_cons] at h
    rcases List.mem_cons.1 hx with rfl | h1
    · intro h0; rw [if_pos h0] at h; omega
    · exact kc_zero e r (by split at h <;> omega) x h1
theorem zero_kc (e : Ex) : ∀ l : List Ex, (∀ x ∈ l, ordE x e ≠ 0) → kc e l = 0
  | [], _ => rfl
  | y :: r, h => by rw [kc_cons, if_neg (h y (List.mem_cons_self ..)), zero_kc e r (fun x hx => h x (List.mem_cons_of_mem _ hx))]
theorem sk_none (e : Ex) : ∀ (D : List Ex) (s : List Ex × Nat), kc e D = 0 → D.foldl (skF e) s = (s.1 ++ D, s.2)
  | [], s, _ => by simp
  | x :: r, s, h => by
    have hx := kc_zero e _ h x (List.mem_cons_self ..)
    rw [kc_cons, if_neg hx] at h
    rw [List.foldl_cons, sk_none e r _ (by omega)]
    unfold skF
    rw [if_neg hx]
    simp
theorem sk_few (e : Ex) : ∀ (D : List Ex) (s : List Ex × Nat), s.2 + kc e D ≤ 2 → (D.foldl (skF e) s).1 = s.1 ++ D
  | [], s, _ => by simp
  | x :: r, s, h => by
    rw [kc_cons] at h
    rw [List.foldl_cons]
    by_cases hx : ordE x e = 0
    · rw [if_pos hx] at h
      have e1 : skF e s x = (s.1 ++ [x], s.2 + 1) := by unfold skF; rw [if_pos hx, if_neg (by omega)]
      rw [e1, sk_few e r _ (by simp only; omega)]
      simp
    · rw [if_neg hx] at h
      have e1 : skF e s x = (s.1 ++ [x], s.2) := by unfold skF; rw [if_neg hx]
      rw [e1, sk_few e r _ (by simp only; omega)]
      simp
theorem sk_three (e : Ex) : ∀ (D : List Ex) (s : List Ex × Nat) (m : Nat), s.2 ≤ 2 → s.2 + kc e D = 3 → IsLast e D m → (D.foldl (skF e) s).1 = s.1 ++ D.eraseIdx m
  | [], _, _, _, _, h => by
    obtain ⟨⟨x, h, _⟩, _⟩ := h
    cases h
  | x :: r, s, 0, h2, h3, hm => by
    obtain ⟨⟨y, hy, h0⟩, hl⟩ := hm
    simp only [List.getElem?_cons_zero, Option.some.injEq] at hy
    subst hy
    have hr : kc e r = 0 := zero_kc e r fun y hy => by
      obtain ⟨i, hi⟩ := List.getElem?_of_mem hy
      exact hl (i + 1) y (by omega) (by simpa using hi)
    rw [kc_cons, if_pos h0, hr] at h3
    have e1 : skF e s x = (s.1, s.2 + 1) := by unfold skF; rw [if_pos h0, if_pos (by omega)]
    rw [List.foldl_cons, e1, sk_none e r _ hr]
    simp
  | x :: r, s, m + 1, h2, h3, hm => by
    obtain ⟨⟨y, hy, h0⟩, hl⟩ := hm
    have hm' : IsLast e r m := ⟨⟨y, by simpa using hy, h0⟩, fun j z hj hz => hl (j + 1) z (by omega) (by simpa using hz)⟩
    have hpos : 0 < kc e r := by
      rcases Nat.eq_zero_or_pos (kc e r) with h | h
      · exact absurd h0 (kc_zero e r h y (List.mem_of_getElem? (by simpa using hy)))
      · exact h
    rw [kc_cons] at h3
    rw [List.foldl_cons]
    by_cases hx : ordE x e = 0
    · rw [if_pos hx] at h3
      have e1 : skF e s x = (s.1 ++ [x], s.2 + 1) := by unfold skF; rw [if_pos hx, if_neg (by omega)]
      rw [e1, sk_three e r _ m (by simp only; omega) (by simp only; omega) hm']
      simp
    · rw [if_neg hx] at h3
      have e1 : skF e s x = (s.1 ++ [x], s.2) := by unfold skF; rw [if_neg hx]
      rw [e1, sk_three e r (s.1 ++ [x], s.2) m h2 (by show s.2 + kc e r = 3; omega) hm']
      simp
theorem cntK_kc (e : Ex) (l : List Ex) : ∀ i, i ≤ l.length → cntK e l i = kc e (l.take i)
  | 0, _ => rfl
  | i + 1, h => by
    have hx : l[i]? = some (l[i]'(by omega)) := List.getElem?_eq_getElem _
    rw [List.take_add_one, hx, kc_app]
    by_cases h0 : ordE (l[i]'(by omega)) e = 0
    · rw [(cntK_yes hx h0).1, cntK_kc e l i (by omega)]
      simp [kc, h0]
    · rw [(cntK_no hx h0).1, cntK_kc e l i (by omega)]
      simp [kc, h0]
theorem lastK_is (e : Ex) (l : List Ex) : ∀ i, i ≤ l.length → 0 < cntK e l i → lastK e l i < i ∧ (∃ x, l[lastK e l i]? = some x ∧ ordE x e = 0) ∧ ∀ j x, lastK e l i < j → j < i → l[j]? = some x → ordE x e ≠ 0
  | 0, _, h => absurd h (by simp [cntK])
  | i + 1, hi, h => by
    have hx : l[i]? = some (l[i]'(by omega)) := List.getElem?_eq_getElem _
    by_cases h0 : ordE (l[i]'(by omega)) e = 0
    · obtain ⟨h1, h2⟩ := cntK_yes hx h0
      rw [h2]
      exact ⟨Nat.lt_succ_self _, ⟨_, hx, h0⟩, fun j x h3 h4 => by omega⟩
    · obtain ⟨h1, h2⟩ := cntK_no hx h0
      rw [h1] at h
      rw [h2]
      obtain ⟨g1, g2, g3⟩ := lastK_is e l i (by omega) h
      refine ⟨by omega, g2, fun j x h3 h4 hj => ?_⟩
      rcases Nat.lt_or_ge j i with h5 | h5
      · exact g3 j x h3 h5 hj
      · have h6 : j = i := by omega
        subst h6
        rw [hx] at hj
        injection hj with hj
        rw [← hj]; exact h0
theorem putAt_before (e : Ex) : ∀ (l : List Ex), ∀ x ∈ l.take (putAt e l), ordE x e < 0
  | [], x, h => by simp at h
  | y :: r, x, h => by
    unfold putAt at h
    split at h
    · rename_i hy
      rw [List.take_succ_cons] at h
      rcases List.mem_cons.1 h with rfl | h1
      · exact hy
      · exact putAt_before e r x h1
    · simp at h
theorem put_same (e : Ex) (l : List Ex) (h : kc e l ≤ 2) : putX e l = dputX e l := by
  obtain ⟨A, hA⟩ : ∃ A, A = l.take (putAt e l) := ⟨_, rfl⟩
  obtain ⟨D, hD⟩ : ∃ D, D = l.drop (putAt e l) := ⟨_, rfl⟩
  have hee : ordE e e = 0 := (ordE_zero e e).2 ⟨rfl, rfl⟩
  have hAz : kc e A = 0 := zero_kc e A fun x hx => by
    have := putAt_before e l x (by rw [← hA]; exact hx)
    omega
  have hl : l = A ++ D := by rw [hA, hD, List.take_append_drop]
  have hins : insX e l = A ++ e :: D := by unfold insX; rw [← hA, ← hD]
  have hkD : kc e D ≤ 2 := by rw [hl, kc_app] at h; omega
  have hlen : (A ++ e :: D).length = l.length + 1 := by rw [hl]; simp; omega
  have hcnt : cntK e (insX e l) (l.length + 1) = kc e D + 1 := by
    rw [hins, cntK_kc _ _ _ (by rw [hlen]; exact Nat.le_refl _), List.take_of_length_le (by rw [hlen]; exact Nat.le_refl _), kc_app, kc_cons, if_pos hee, hAz]
    omega
  have hd : dputX e l = (D.foldl (skF e) (A ++ [e], 1)).1 := by unfold dputX; rw [← hA, ← hD]
  unfold putX
  rw [hcnt, hd]
  by_cases h3 : 2 < kc e D + 1
  · rw [if_pos h3, hins]
    obtain ⟨g1, g2, g3⟩ := lastK_is e (A ++ e :: D) (l.length + 1) (by rw [hlen]; exact Nat.le_refl _) (by rw [← hins, hcnt]; omega)
    generalize lastK e (A ++ e :: D) (l.length + 1) = m at *
    have hmA : A.length < m := by
      obtain ⟨x, hx, h0⟩ := g2
      rcases Nat.lt_trichotomy A.length m with h4 | h4 | h4
      · exact h4
      · exfalso
        have hz := zero_kc e D fun y hy => by
          obtain ⟨i, hi⟩ := List.getElem?_of_mem hy
          have hil := (List.getElem?_eq_some_iff.1 hi).1
          refine g3 (A.length + 1 + i) y (by omega) (by rw [hl, List.length_append]; omega) ?_
          rw [List.getElem?_append_right (by omega), show A.length + 1 + i - A.length = i + 1 by omega]
          simpa using hi
        omega
      · exfalso
        rw [List.getElem?_append_left h4] at hx
        exact kc_zero e A hAz x (List.mem_of_getElem? hx) h0
    obtain ⟨q, rfl⟩ : ∃ q, m = A.length + 1 + q := ⟨m - A.length - 1, by omega⟩
    have hq : IsLast e D q := by
      obtain ⟨x, hx, h0⟩ := g2
      rw [List.getElem?_append_right (by omega), show A.length + 1 + q - A.length = q + 1 by omega] at hx
      refine ⟨⟨x, by simpa using hx, h0⟩, fun j y hj hy => g3 (A.length + 1 + j) y (by omega) ?_ ?_⟩
      · have := (List.getElem?_eq_some_iff.1 hy).1
        rw [hl, List.length_append]; omega
      · rw [List.getElem?_append_right (by omega), show A.length + 1 + j - A.length = j + 1 by omega]
        simpa using hy
    rw [sk_three e D (A ++ [e], 1) q (by simp) (by simp only; omega) hq, List.eraseIdx_append_of_length_le (by omega), show A.length + 1 + q - A.length = q + 1 by omega]
    simp
  · rw [if_neg h3, hins, sk_few e D (A ++ [e], 1) (by simp only; omega)]
    simp
/-- Of no operation more than two. -/
def Two (l : List Ex) : Prop := ∀ e, kc e l ≤ 2
theorem kc_erase (e : Ex) : ∀ (l : List Ex) (i : Nat), kc e (l.eraseIdx i) ≤ kc e l
  | [], _ => Nat.le_refl _
  | x :: r, 0 => by rw [List.eraseIdx_cons_zero, kc_cons]; omega
  | x :: r, i + 1 => by
    have := kc_erase e r i
    rw [List.eraseIdx_cons_succ, kc_cons, kc_cons]; omega
theorem kc_erase_key (e : Ex) : ∀ (l : List Ex) (i : Nat) (x : Ex), l[i]? = some x → ordE x e = 0 → kc e (l.eraseIdx i) + 1 = kc e l
  | [], _, _, h, _ => by cases h
  | y :: r, 0, x, h, h0 => by
    simp only [List.getElem?_cons_zero, Option.some.injEq] at h
    subst h
    rw [List.eraseIdx_cons_zero, kc_cons, if_pos h0]
  | y :: r, i + 1, x, h, h0 => by
    have := kc_erase_key e r i x (by simpa using h) h0
    rw [List.eraseIdx_cons_succ, kc_cons, kc_cons]; omega
theorem kc_congr {e e' : Ex} (h : ordE e e' = 0) (l : List Ex) : kc e l = kc e' l := by
  obtain ⟨h1, h2⟩ := (ordE_zero e e').1 h
  unfold kc
  congr 1
  funext x
  have : ordE x e = 0 ↔ ordE x e' = 0 := by rw [ordE_zero, ordE_zero, h1, h2]
  rw [Bool.eq_iff_iff]
  simpa using this
theorem two_put (e : Ex) (l : List Ex) (h : Two l) : Two (putX e l) := by
  intro e'
  have hA : kc e' (insX e l) = kc e' l + if ordE e e' = 0 then 1 else 0 := by
    unfold insX
    rw [kc_app, kc_cons]
    have := kc_app e' (l.take (putAt e l)) (l.drop (putAt e l))
    rw [List.take_append_drop] at this
    omega
  have hl' := h e'
  have hlen := insX_len e l
  have hcnt : cntK e (insX e l) (l.length + 1) = kc e (insX e l) := by rw [cntK_kc _ _ _ (by rw [hlen]; exact Nat.le_refl _), List.take_of_length_le (by rw [hlen]; exact Nat.le_refl _)]
  unfold putX
  by_cases h0 : ordE e e' = 0
  · rw [if_pos h0] at hA
    by_cases hc : 2 < cntK e (insX e l) (l.length + 1)
    · rw [if_pos hc]
      obtain ⟨_, ⟨x, hx, hx0⟩, _⟩ := lastK_is e (insX e l) (l.length + 1) (by rw [hlen]; exact Nat.le_refl _) (by omega)
      have := kc_erase_key e _ _ x hx hx0
      rw [kc_congr h0, kc_congr h0 (insX e l)] at this
      omega
    · rw [if_neg hc]
      rw [hcnt, kc_congr h0] at hc
      omega
  · rw [if_neg h0] at hA
    split
    · have := kc_erase e' (insX e l) (lastK e (insX e l) (l.length + 1))
      omega
    · omega
theorem puts_same : ∀ (es l : List Ex), Two l → putsX es l = dputsX es l ∧ Two (putsX es l)
  | [], l, h => ⟨rfl, h⟩
  | e :: r, l, h => by
    have h1 := put_same e l (h e)
    obtain ⟨g1, g2⟩ := puts_same r (putX e l) (two_put e l h)
    refine ⟨?_, g2⟩
    show putsX r (putX e l) = dputsX r (dputX e l)
    rw [g1, h1]
theorem two_flat {l : List Ex} (h : Two l) (g : Ex → List Ex) (hg : ∀ x, g x = [] ∨ g x = [x]) : Two (l.flatMap g) := by
  intro e
  refine Nat.le_trans ?_ (h e)
  clear h
  induction l with
  | nil => exact Nat.le_refl _
  | cons x r ih =>
    rw [List.flatMap_cons, kc_app, kc_cons]
    rcases hg x with h1 | h1
    · rw [h1]
      have : kc e [] = 0 := rfl
      omega
    · rw [h1, kc_cons]
      have : kc e [] = 0 := rfl
      omega
theorem two_map {l : List Ex} (h : Two l) (g : Ex → Ex) (hg : ∀ x, (g x).sv = x.sv ∧ (g x).op = x.op) : Two (l.map g) := by
  intro e
  refine Nat.le_trans (Nat.le_of_eq ?_) (h e)
  clear h
  induction l with
  | nil => rfl
  | cons x r ih =>
    obtain ⟨h1, h2⟩ := hg x
    have h3 : ordE (g x) e = ordE x e := by unfold ordE; rw [h1, h2]
    rw [List.map_cons, kc_cons, kc_cons, ih, h3]
end Go.Proofs.Ytajpnimjkkmcmaa
