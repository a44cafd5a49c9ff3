/- TreeRing, plainly: a ring of n and a tail of t: who is whose parent, how deep each is. -/
import Derived.Test.YtgldjjmpjaegfaaSys
namespace Go.Proofs.Ytgldjjmpjaegfaa
open Go.RowKit
set_option linter.unusedVariables false
set_option linter.unusedSimpArgs false

def spZ (a b : Int) : Ls := ⟨⟨0, 0, a, b, ⟨#[]⟩, ⟨#[]⟩, 0, 0, false, []⟩, none, 0⟩
def ringS (n t : Nat) : List Ls := (List.range n).map (fun i : Nat => spZ (i : Int) (((i + 1) % n : Nat) : Int)) ++ (List.range t).map fun j : Nat => spZ ((100 + j : Nat) : Int) ((n - 1 : Nat) : Int)
theorem ringS_len (n t : Nat) : (ringS n t).length = n + t := by unfold ringS; simp
theorem ringS_in {n t i : Nat} (h : i < n) : (ringS n t)[i]? = some (spZ (i : Int) (((i + 1) % n : Nat) : Int)) := by
  unfold ringS
  rw [List.getElem?_append_left (by simpa using h), List.getElem?_map, List.getElem?_range h]; rfl
theorem ringS_out {n t j : Nat} (h : j < t) : (ringS n t)[n + j]? = some (spZ ((100 + j : Nat) : Int) ((n - 1 : Nat) : Int)) := by
  unfold ringS
  rw [List.getElem?_append_right (by simp), List.getElem?_map]
  simp [h]
theorem single_of {l : List Nat} {u : Nat} (hs : l.Pairwise (· < ·)) (h : ∀ j, j ∈ l ↔ j = u) : l = [u] := by
  cases l with
  | nil => have := (h u).2 rfl; cases this
  | cons x r =>
    have hx := (h x).1 List.mem_cons_self
    subst hx
    rw [List.pairwise_cons] at hs
    cases r with
    | nil => rfl
    | cons y r =>
      have h1 := hs.1 y List.mem_cons_self
      have h2 := (h y).1 (List.mem_cons_of_mem _ List.mem_cons_self)
      omega
theorem ring_plc {n t u : Nat} (hn : n ≤ 20) (hu : u < n) : plc ((ringS n t).map fun x => x.s.id) (u : Int) = [u] := by
  refine single_of (plc_sorted _ _) fun j => ?_
  rw [plc_mem, List.getElem?_map]
  constructor
  · intro h
    rcases Nat.lt_or_ge j n with h1 | h1
    · rw [ringS_in h1] at h
      have h2 : ((j : Nat) : Int) = (u : Int) := by injection h
      omega
    · rcases Nat.lt_or_ge (j - n) t with h2 | h2
      · have e := ringS_out (n := n) h2
        rw [show n + (j - n) = j by omega] at e
        rw [e] at h
        have h3 : ((100 + (j - n) : Nat) : Int) = (u : Int) := by injection h
        omega
      · rw [List.getElem?_eq_none (by rw [ringS_len]; omega)] at h
        cases h
  · intro h
    subst h
    rw [ringS_in hu]; rfl
theorem ring_named {n t : Nat} (h1 : 1 ≤ n) (hn : n ≤ 20) : (∀ i, i < n → (namedM (ringS n t))[i]? = some (if n = 1 then -1 else (((i + 1) % n : Nat) : Int))) ∧ ∀ j, j < t → (namedM (ringS n t))[n + j]? = some ((n - 1 : Nat) : Int) := by
  refine ⟨fun i hi => ?_, fun j hj => ?_⟩
  · rw [namedM_at (ringS_in hi)]
    have hm : (i + 1) % n < n := Nat.mod_lt _ h1
    have e := ring_plc (t := t) hn hm
    show some (plO (namedO _ (((i + 1) % n : Nat) : Int) i)) = _
    unfold namedO
    rw [e]
    by_cases hn1 : n = 1
    · have : i = 0 := by omega
      subst this hn1
      rfl
    · have hne : (i + 1) % n ≠ i := by
        rcases Nat.lt_or_ge (i + 1) n with h | h
        · rw [Nat.mod_eq_of_lt h]; omega
        · rw [show i + 1 = n by omega, Nat.mod_self]; omega
      rw [if_neg hn1]
      simp [hne, plO]
  · rw [namedM_at (ringS_out hj)]
    have e := ring_plc (t := t) hn (show n - 1 < n by omega)
    show some (plO (namedO _ ((n - 1 : Nat) : Int) (n + j))) = _
    unfold namedO
    rw [e]
    have hne : n - 1 ≠ n + j := by omega
    simp [hne, plO]
theorem ring_pf {n t : Nat} (h1 : 1 ≤ n) (hn : n ≤ 20) : (∀ i, i < n → Sy.pf (namedM (ringS n t)) i = if n = 1 then none else some ((i + 1) % n)) ∧ (∀ j, j < t → Sy.pf (namedM (ringS n t)) (n + j) = some (n - 1)) := by
  obtain ⟨a, b⟩ := ring_named (t := t) h1 hn
  refine ⟨fun i hi => ?_, fun j hj => ?_⟩
  · unfold Sy.pf
    rw [a i hi]
    by_cases hn1 : n = 1
    · simp [hn1]
    · simp only [hn1, if_false]
      rw [if_neg (by omega)]; rfl
  · unfold Sy.pf
    rw [b j hj]
    simp only
    rw [if_neg (by omega)]; rfl
theorem ring_it {n t : Nat} (h1 : 2 ≤ n) (hn : n ≤ 20) (i : Nat) (hi : i < n) : ∀ k, Sy.it (Sy.pf (namedM (ringS n t))) k i = some ((i + k) % n)
  | 0 => by rw [Nat.add_zero, Nat.mod_eq_of_lt hi]; rfl
  | k + 1 => by
    show (Sy.it _ k i).bind _ = _
    rw [ring_it h1 hn i hi k]
    show Sy.pf _ ((i + k) % n) = _
    rw [(ring_pf (t := t) (by omega) hn).1 _ (Nat.mod_lt _ (by omega)), if_neg (by omega)]
    congr 1
    rw [← Nat.add_assoc, Nat.mod_add_mod]
theorem ring_par {n t : Nat} {P : List Int} (h1 : 1 ≤ n) (hn : n ≤ 20) (h : Sy.ParOf (namedM (ringS n t)) P) :
    P[0]? = some (-1) ∧ (∀ i, 0 < i → i < n → P[i]? = some (((i + 1) % n : Nat) : Int)) ∧ ∀ j, j < t → P[n + j]? = some ((n - 1 : Nat) : Int) := by
  obtain ⟨a, b⟩ := ring_named (t := t) h1 hn
  refine ⟨?_, fun i h0 hi => ?_, fun j hj => ?_⟩
  · by_cases hn1 : n = 1
    · by_cases hl : Sy.LR (Sy.pf (namedM (ringS n t))) 0
      · exact (h.2 0).1 hl
      · rw [(h.2 0).2 hl, a 0 (by omega), if_pos hn1]
    · refine (h.2 0).1 ⟨⟨n, by omega, ?_⟩, fun k u hu => Nat.zero_le _⟩
      rw [ring_it (by omega) hn 0 (by omega), Nat.zero_add, Nat.mod_self]
  · have hl : ¬ Sy.LR (Sy.pf (namedM (ringS n t))) i := fun hl => by
      have h2 := hl.2 (n - i) 0 (by rw [ring_it (by omega) hn i hi, show i + (n - i) = n by omega, Nat.mod_self])
      omega
    rw [(h.2 i).2 hl, a i hi, if_neg (by omega)]
  · have hl : ¬ Sy.LR (Sy.pf (namedM (ringS n t))) (n + j) := fun hl => by
      obtain ⟨m, hm, hr⟩ := hl.1
      obtain ⟨m', rfl⟩ : ∃ m', m = m' + 1 := ⟨m - 1, by omega⟩
      change (Sy.it _ m' (n + j)).bind _ = _ at hr
      cases hq : Sy.it (Sy.pf (namedM (ringS n t))) m' (n + j) with
      | none => rw [hq] at hr; cases hr
      | some q =>
        rw [hq] at hr
        have hr : Sy.pf (namedM (ringS n t)) q = some (n + j) := hr
        have hql := Sy.pf_lt hr
        rw [namedM_len, ringS_len] at hql
        obtain ⟨c, d⟩ := ring_pf (t := t) h1 hn
        rcases Nat.lt_or_ge q n with h3 | h3
        · rw [c q h3] at hr
          split at hr
          · cases hr
          · injection hr with hr
            have := Nat.mod_lt (q + 1) h1
            omega
        · have e := d (q - n) (by omega)
          rw [show n + (q - n) = q by omega, hr] at e
          injection e with e
          omega
    rw [(h.2 _).2 hl, b j hj]
theorem pf_of {P : List Int} {v : Nat} {u : Nat} (h : P[v]? = some (u : Int)) : Sy.pf P v = some u := by
  unfold Sy.pf
  rw [h]
  simp only
  rw [if_neg (by omega)]; rfl
theorem ring_dep {n t : Nat} {P : List Int} {D : List Nat} (h1 : 1 ≤ n) (hn : n ≤ 20) (h : Sy.ParOf (namedM (ringS n t)) P) (hD : DepOf P (n + t) D) :
    D[0]? = some 0 ∧ (∀ i, 0 < i → i < n → D[i]? = some (n - i)) ∧ ∀ j, j < t → D[n + j]? = some (if n = 1 then 1 else 2) := by
  obtain ⟨p0, p1, p2⟩ := ring_par h1 hn h
  have d0 : D[0]? = some 0 := by
    rw [hD.2 0 (by omega)]
    have : Sy.pf P 0 = none := by unfold Sy.pf; rw [p0]; rfl
    rw [this]
  have d1 : ∀ k i, 0 < i → i < n → n - i = k + 1 → D[i]? = some (n - i) := by
    intro k
    induction k with
    | zero =>
      intro i h0 hi e
      have hp := p1 i h0 hi
      rw [show i + 1 = n by omega, Nat.mod_self] at hp
      rw [hD.2 i (by omega), pf_of hp]
      simp only
      rw [d0, e]; rfl
    | succ k ih =>
      intro i h0 hi e
      have hp := p1 i h0 hi
      rw [Nat.mod_eq_of_lt (by omega)] at hp
      rw [hD.2 i (by omega), pf_of hp]
      simp only
      rw [ih (i + 1) (by omega) (by omega) (by omega)]
      simp only [Option.getD_some]
      congr 1
      omega
  refine ⟨d0, fun i h0 hi => d1 (n - i - 1) i h0 hi (by omega), fun j hj => ?_⟩
  rw [hD.2 (n + j) (by omega), pf_of (p2 j hj)]
  simp only
  by_cases hn1 : n = 1
  · subst hn1
    rw [d0]; rfl
  · rw [d1 0 (n - 1) (by omega) (by omega) (by omega), if_neg hn1]
    simp only [Option.getD_some]
    congr 1
    omega
end Go.Proofs.Ytgldjjmpjaegfaa
