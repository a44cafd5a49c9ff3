/- The document's Parents, plainly. -/
import Derived.Test.YtgldjjmpjaegfaaSzb
namespace Go.Proofs.Ytgldjjmpjaegfaa.Sy
open Go.Proofs.Ytgldjjmpjaegfaa
set_option linter.unusedVariables false
set_option linter.unusedSimpArgs false

/-- What the document's loop has found among the places from k on. -/
def Dn (I : List Int) (p : Int) (i k : Nat) (v : Int) : Prop :=
  (v = -1 ∧ ∀ j, k ≤ j → j ≠ i → I[j]? ≠ some p) ∨ ∃ j : Nat, v = (j : Int) ∧ k ≤ j ∧ j ≠ i ∧ I[j]? = some p ∧ ∀ j', k ≤ j' → j' < j → j' ≠ i → I[j']? ≠ some p
theorem Dn.start (I : List Int) (p : Int) (i : Nat) : Dn I p i I.length (-1) := .inl ⟨rfl, fun j hj _ h => by rw [List.getElem?_eq_none hj] at h; cases h⟩
theorem Dn.hit {I : List Int} {p : Int} {i k : Nat} {v : Int} (h : Dn I p i (k + 1) v) (hk : k ≠ i) (hp : I[k]? = some p) : Dn I p i k (k : Int) := .inr ⟨k, rfl, Nat.le_refl _, hk, hp, fun j' h1 h2 => by omega⟩
theorem Dn.miss {I : List Int} {p : Int} {i k : Nat} {v : Int} (h : Dn I p i (k + 1) v) (hp : k = i ∨ I[k]? ≠ some p) : Dn I p i k v := by
  have key : ∀ j, j ≠ i → j = k → I[j]? ≠ some p := fun j h1 h2 => by
    rcases hp with e | e
    · omega
    · rw [h2]; exact e
  rcases h with ⟨h1, h2⟩ | ⟨j, h1, h2, h3, h4, h5⟩
  · refine .inl ⟨h1, fun j hj hi => ?_⟩
    rcases Nat.lt_or_ge k j with h | h
    · exact h2 j h hi
    · exact key j hi (by omega)
  · refine .inr ⟨j, h1, by omega, h3, h4, fun j' a b c => ?_⟩
    rcases Nat.lt_or_ge k j' with h | h
    · exact h5 j' h b c
    · exact key j' c (by omega)
theorem Dn.fin {I : List Int} {p : Int} {i : Nat} {v : Int} (h : Dn I p i 0 v) : v = plO (namedO I p i) := by
  have hs := plc_sorted I p
  rcases h with ⟨h1, h2⟩ | ⟨j, h1, _, h3, h4, h5⟩
  · cases ho : namedO I p i with
    | none => exact h1
    | some j =>
      obtain ⟨_, a, b⟩ := namedO_lt ho
      exact absurd b (h2 j (Nat.zero_le _) a)
  · have hj : j ∈ plc I p := plc_mem.2 h4
    have hle : ∀ j' : Nat, namedO I p i = some j' → j ≤ j' := fun j' ho => by
      obtain ⟨_, a, b⟩ := namedO_lt ho
      rcases Nat.lt_or_ge j' j with h | h
      · exact absurd b (h5 j' (Nat.zero_le _) h a)
      · exact h
    suffices hx : ∃ j', namedO I p i = some j' ∧ j' ≤ j by
      obtain ⟨j', ho, hl⟩ := hx
      have := hle j' ho
      rw [ho, h1, show j' = j by omega]; rfl
    unfold namedO
    obtain ⟨q, hq⟩ := List.getElem?_of_mem hj
    have hq1 := List.getElem?_eq_some_iff.1 hq
    have hq1b := hq1.2
    have hq1a := hq1.1
    cases hp0 : (plc I p)[0]? with
    | none => rw [List.getElem?_eq_none_iff] at hp0; omega
    | some a =>
      have ha := List.getElem?_eq_some_iff.1 hp0
      by_cases hai : a = i
      · subst hai
        rw [if_pos rfl]
        have hq0 : q ≠ 0 := fun e => by
          subst e
          rw [hp0] at hq
          injection hq with hq
          omega
        have hb : (plc I p)[1]? = some ((plc I p)[1]'(by omega)) := List.getElem?_eq_getElem (by omega)
        refine ⟨_, hb, ?_⟩
        rcases Nat.lt_or_ge 1 q with h | h
        · have := List.pairwise_iff_getElem.1 hs 1 q (by omega) hq1.1 h
          rw [hq1.2] at this; omega
        · have e : q = 1 := by omega
          subst e
          exact Nat.le_of_eq hq1.2
      · rw [if_neg (fun e => hai (by injection e))]
        refine ⟨a, rfl, ?_⟩
        rcases Nat.eq_zero_or_pos q with e | h
        · subst e; rw [hp0] at hq; injection hq with hq; omega
        · have := List.pairwise_iff_getElem.1 hs 0 q ha.1 hq1.1 h
          rw [hq1.2, ha.2] at this; omega
/-- The document's walk round a ring: q + 1 steps from i, never at i. -/
structure Rg (f : Nat → Option Nat) (i q : Nat) (b : Bool) : Prop where
  far : ∀ m, 0 < m → m ≤ q → ∃ u, it f m i = some u ∧ u ≠ i
  low : b = true ↔ ∀ m u, 0 < m → m ≤ q → it f m i = some u → i < u
theorem Rg.start (f : Nat → Option Nat) (i : Nat) : Rg f i 0 true := ⟨fun m h1 h2 => by omega, ⟨fun _ m u h1 h2 => by omega, fun _ => rfl⟩⟩
theorem Rg.step {f : Nat → Option Nat} {i q u : Nat} {b : Bool} (h : Rg f i q b) (hu : it f (q + 1) i = some u) (hne : u ≠ i) : Rg f i (q + 1) (b && decide (i < u)) := by
  refine ⟨fun m h1 h2 => ?_, ⟨fun hb m v h1 h2 hv => ?_, fun hall => ?_⟩⟩
  · rcases Nat.lt_or_ge q m with h3 | h3
    · rw [show m = q + 1 by omega]; exact ⟨u, hu, hne⟩
    · exact h.far m h1 h3
  · rw [Bool.and_eq_true] at hb
    rcases Nat.lt_or_ge q m with h3 | h3
    · rw [show m = q + 1 by omega, hu] at hv
      injection hv with hv
      rw [← hv]; exact of_decide_eq_true hb.2
    · exact h.low.1 hb.1 m v h1 h3 hv
  · rw [Bool.and_eq_true]
    exact ⟨h.low.2 fun m v h1 h2 hv => hall m v h1 (by omega) hv, decide_eq_true (hall (q + 1) u (by omega) (Nat.le_refl _) hu)⟩
theorem Rg.no {f : Nat → Option Nat} {i q : Nat} {b : Bool} (h : Rg f i q b) (hu : it f (q + 1) i = none) : ¬ LR f i := fun hl => by
  obtain ⟨u, hu2⟩ := ring_some hl.1 (q + 1)
  rw [hu] at hu2; cases hu2
theorem Rg.yes {f : Nat → Option Nat} {i q : Nat} {b : Bool} (h : Rg f i q b) (hu : it f (q + 1) i = some i) : LR f i ↔ b = true := by
  constructor
  · intro hl
    exact h.low.2 fun m u h1 h2 hv => by
      obtain ⟨u', hu', hne⟩ := h.far m h1 h2
      rw [hv] at hu'
      injection hu' with e
      have := hl.2 m u hv
      omega
  · intro hb
    refine ⟨⟨q + 1, by omega, hu⟩, fun k u hk => ?_⟩
    have hmod : it f (k % (q + 1)) i = some u := by
      have e : k = (q + 1) * (k / (q + 1)) + k % (q + 1) := (Nat.div_add_mod k (q + 1)).symm
      rw [e, it_add, ring_mul hu] at hk
      exact hk
    have hlt := Nat.mod_lt k (show 0 < q + 1 by omega)
    rcases Nat.eq_zero_or_pos (k % (q + 1)) with h0 | h0
    · rw [h0] at hmod
      injection hmod with e
      exact Nat.le_of_eq e
    · exact Nat.le_of_lt (h.low.1 hb _ u h0 (by omega) hmod)
/-- After as many steps as there are places it would have come back. -/
theorem Rg.long {P : List Int} {n i : Nat} {b : Bool} (hp : Plain P n) (hi : i < n) (h : Rg (pf P) i n b) : ¬ OnRing (pf P) i := fun ho => by
  obtain ⟨m, hm, he, hfirst⟩ := first_back ho
  have hmn : n < m := by
    rcases Nat.lt_or_ge n m with h1 | h1
    · exact h1
    · obtain ⟨u, hu, hne⟩ := h.far m hm h1
      rw [he] at hu; injection hu with hu; omega
  have hall : ∀ k, ∃ u, it (pf P) k i = some u := fun k => ring_some ho k
  have hnd : ((List.range m).map fun k => (it (pf P) k i).getD 0).Nodup := by
    rw [List.nodup_iff_pairwise_ne, List.pairwise_map, List.pairwise_iff_getElem]
    intro a c ha hc hac hee
    rw [List.getElem_range, List.getElem_range] at hee
    rw [List.length_range] at ha hc
    obtain ⟨x, hx⟩ := hall a
    obtain ⟨y, hy⟩ := hall c
    rw [hx, hy] at hee
    have e : x = y := hee
    subst e
    -- m - c steps on it is back
    have h1 : it (pf P) (m - c) x = some i := by
      have h2 : it (pf P) (c + (m - c)) i = some i := by rw [show c + (m - c) = m by omega]; exact he
      rw [it_add, hy] at h2
      exact h2
    have h3 : it (pf P) (a + (m - c)) i = some i := by rw [it_add, hx]; exact h1
    exact hfirst (a + (m - c)) (by omega) (by omega) h3
  have h1 := nd_le n _ hnd (fun y hy => by
    obtain ⟨k, _, rfl⟩ := List.mem_map.1 hy
    obtain ⟨u, hu⟩ := hall k
    rw [hu]; exact it_lt hp hi k hu)
  rw [List.length_map, List.length_range] at h1
  omega
/-- The cut parents behind i of them. -/
structure Ct (N C : List Int) (n i : Nat) : Prop where
  len : C.length = n
  old : ∀ v, v < i → (LR (pf N) v → C[v]? = some (-1)) ∧ (¬ LR (pf N) v → C[v]? = N[v]?)
  new : ∀ v, i ≤ v → C[v]? = N[v]?
theorem Ct.start {N : List Int} {n : Nat} (h : N.length = n) : Ct N N n 0 := ⟨h, fun v hv => by omega, fun v _ => rfl⟩
theorem Ct.cut {N C : List Int} {n i : Nat} (h : Ct N C n i) (hi : i < n) (hl : LR (pf N) i) : Ct N (C.set i (-1)) n (i + 1) := by
  refine ⟨by rw [List.length_set]; exact h.len, fun v hv => ?_, fun v hv => by rw [List.getElem?_set_ne (by omega)]; exact h.new v (by omega)⟩
  by_cases e : i = v
  · subst e
    rw [List.getElem?_set_self (by rw [h.len]; exact hi)]
    exact ⟨fun _ => rfl, fun hn => absurd hl hn⟩
  · rw [List.getElem?_set_ne e]
    exact h.old v (by omega)
theorem Ct.keep {N C : List Int} {n i : Nat} (h : Ct N C n i) (hl : ¬ LR (pf N) i) : Ct N C n (i + 1) := by
  refine ⟨h.len, fun v hv => ?_, fun v hv => h.new v (by omega)⟩
  by_cases e : i = v
  · subst e
    exact ⟨fun hy => absurd hy hl, fun _ => h.new i (Nat.le_refl _)⟩
  · exact h.old v (by omega)
theorem Ct.fin {N C : List Int} {n : Nat} (h : Ct N C n n) (hN : N.length = n) : ParOf N C := by
  refine ⟨by rw [h.len, hN], fun v => ?_⟩
  rcases Nat.lt_or_ge v n with hv | hv
  · exact h.old v hv
  · refine ⟨fun hl => ?_, fun _ => h.new v hv⟩
    obtain ⟨u, hu⟩ := ring_some hl.1 1
    have hu : pf N v = some u := hu
    have := pf_lt hu
    omega
end Go.Proofs.Ytgldjjmpjaegfaa.Sy
