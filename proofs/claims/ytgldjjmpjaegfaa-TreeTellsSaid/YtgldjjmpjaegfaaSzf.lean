/- The document's kids, plainly. -/
import Derived.Test.YtgldjjmpjaegfaaSzd
namespace Go.Proofs.Ytgldjjmpjaegfaa.Sy
open Go.Proofs.Ytgldjjmpjaegfaa
set_option linter.unusedVariables false
set_option linter.unusedSimpArgs false

/-- Those of the first n that hang on z, one before the other. -/
structure KidS (s : Nat → Int) (P : List Int) (z : Int) (n : Nat) (K : List Nat) : Prop where
  ord : K.Pairwise (ordSt s).lt
  mem : ∀ x, x ∈ K ↔ x < n ∧ P[x]? = some z
theorem KidS.start (s : Nat → Int) (P : List Int) (z : Int) : KidS s P z 0 [] := ⟨List.Pairwise.nil, fun x => by simp⟩
theorem KidS.nd {s : Nat → Int} {P : List Int} {z : Int} {n : Nat} {K : List Nat} (h : KidS s P z n K) : K.Nodup :=
  List.nodup_iff_pairwise_ne.2 (h.ord.imp fun {a b} hab => by intro e; rw [← e] at hab; exact (ordSt s).irr a hab)
theorem KidS.len {s : Nat → Int} {P : List Int} {z : Int} {n : Nat} {K : List Nat} (h : KidS s P z n K) : K.length ≤ n := nd_le n K h.nd fun x hx => ((h.mem x).1 hx).1
theorem KidS.skip {s : Nat → Int} {P : List Int} {z : Int} {n : Nat} {K : List Nat} (h : KidS s P z n K) (hn : P[n]? ≠ some z) : KidS s P z (n + 1) K := by
  refine ⟨h.ord, fun x => ?_⟩
  rw [h.mem]
  constructor
  · rintro ⟨h1, h2⟩; exact ⟨by omega, h2⟩
  · rintro ⟨h1, h2⟩
    refine ⟨?_, h2⟩
    rcases Nat.lt_or_ge x n with h3 | h3
    · exact h3
    · rw [show x = n by omega] at h2; exact absurd h2 hn
theorem KidS.ins {s : Nat → Int} {P : List Int} {z : Int} {n k : Nat} {K : List Nat} (h : KidS s P z n K) (hn : P[n]? = some z) (hk : k ≤ K.length) (hi : ∀ j x, k ≤ j → K[j]? = some x → s n < s x) (hl : k = 0 ∨ ∃ x, K[k - 1]? = some x ∧ s x ≤ s n) : KidS s P z (n + 1) (K.take k ++ [n] ++ K.drop k) := by
  have hsp := h.ord
  rw [← List.take_append_drop k K, List.pairwise_append] at hsp
  have hlo : ∀ y ∈ K.take k, (ordSt s).lt y n := fun y hy => by
    obtain ⟨j, hj⟩ := List.getElem?_of_mem hy
    have hjl := (List.getElem?_eq_some_iff.1 hj).1
    rw [List.length_take] at hjl
    rw [List.getElem?_take, if_pos (by omega)] at hj
    have hyn := ((h.mem y).1 (List.mem_of_getElem? hj)).1
    rcases hl with hl | ⟨x, hx, hle⟩
    · omega
    · have hxs : s y ≤ s n := by
        rcases Nat.lt_or_ge j (k - 1) with h1 | h1
        · have h2 := List.getElem?_eq_some_iff.1 hj
          have h3 := List.getElem?_eq_some_iff.1 hx
          have h4 := List.pairwise_iff_getElem.1 h.ord j (k - 1) h2.1 h3.1 h1
          rw [h2.2, h3.2] at h4
          have h5 : s y < s x ∨ (s y = s x ∧ y < x) := h4
          omega
        · rw [show j = k - 1 by omega, hx] at hj
          injection hj with hj
          rw [← hj]; exact hle
      have : s y < s n ∨ (s y = s n ∧ y < n) := by omega
      exact this
  have hhi : ∀ y ∈ K.drop k, (ordSt s).lt n y := fun y hy => by
    obtain ⟨j, hj⟩ := List.getElem?_of_mem hy
    rw [List.getElem?_drop] at hj
    exact .inl (hi (k + j) y (by omega) hj)
  refine ⟨?_, fun x => ?_⟩
  · rw [List.append_assoc, List.pairwise_append]
    refine ⟨hsp.1, ?_, fun a ha b hb => ?_⟩
    · rw [List.singleton_append, List.pairwise_cons]
      exact ⟨hhi, hsp.2.1⟩
    · rw [List.singleton_append, List.mem_cons] at hb
      rcases hb with e | e
      · rw [e]; exact hlo a ha
      · exact hsp.2.2 a ha b e
  · have hm : x ∈ K.take k ++ [n] ++ K.drop k ↔ x = n ∨ x ∈ K := by
      conv => rhs; rhs; rw [← List.take_append_drop k K]
      simp only [List.mem_append, List.mem_singleton]
      constructor
      · rintro ((a | a) | a)
        · exact .inr (.inl a)
        · exact .inl a
        · exact .inr (.inr a)
      · rintro (a | a | a)
        · exact .inl (.inr a)
        · exact .inl (.inl a)
        · exact .inr a
    rw [hm, h.mem]
    constructor
    · rintro (e | ⟨h1, h2⟩)
      · rw [e]; exact ⟨by omega, hn⟩
      · exact ⟨by omega, h2⟩
    · rintro ⟨h1, h2⟩
      by_cases e : x = n
      · exact .inl e
      · exact .inr ⟨by omega, h2⟩
theorem sorted_eq {s : Nat → Int} : ∀ {K K' : List Nat}, K.Pairwise (ordSt s).lt → K'.Pairwise (ordSt s).lt → (∀ x, x ∈ K ↔ x ∈ K') → K = K'
  | [], [], _, _, _ => rfl
  | [], y :: K', _, _, h => by have := (h y).2 List.mem_cons_self; cases this
  | x :: K, [], _, _, h => by have := (h x).1 List.mem_cons_self; cases this
  | x :: K, y :: K', h1, h2, h => by
    rw [List.pairwise_cons] at h1 h2
    have hasym : ∀ a b, (ordSt s).lt a b → (ordSt s).lt b a → False := fun a b p q => (ordSt s).irr a ((ordSt s).trans p q)
    have e : x = y := by
      rcases List.mem_cons.1 ((h x).1 List.mem_cons_self) with e | e
      · exact e
      · rcases List.mem_cons.1 ((h y).2 List.mem_cons_self) with e2 | e2
        · exact e2.symm
        · exact absurd (h2.1 x e) (fun p => hasym _ _ p (h1.1 y e2))
    subst e
    congr 1
    refine sorted_eq h1.2 h2.2 fun z => ?_
    have hx1 : x ∉ K := fun hm => (ordSt s).irr x (h1.1 x hm)
    have hx2 : x ∉ K' := fun hm => (ordSt s).irr x (h2.1 x hm)
    have hz := h z
    rw [List.mem_cons, List.mem_cons] at hz
    constructor
    · intro hm
      rcases hz.1 (.inr hm) with e | e
      · rw [e] at hm; exact absurd hm hx1
      · exact e
    · intro hm
      rcases hz.2 (.inr hm) with e | e
      · rw [e] at hm; exact absurd hm hx2
      · exact e
theorem KidS.eq {s : Nat → Int} {P : List Int} {z : Int} {n : Nat} {K K' : List Nat} (h : KidS s P z n K) (h' : KidS s P z n K') : K = K' := sorted_eq h.ord h'.ord fun x => by rw [h.mem, h'.mem]
/-- The place that stands for what a span hangs on. -/
def ofZ (n : Nat) (z : Int) : Nat := if z = -1 then n else z.toNat
theorem KidS.of {l : List Ls} {P : List Int} {n : Nat} {M : List Nat} {z : Int} (hn : n = l.length) (hM : Bys l M) (hp : Plain P n) (hl : P.length = n) (hz : z = -1 ∨ (0 ≤ z ∧ z < n)) : KidS (stS l) P z n (M.filter fun q => parN P n q == ofZ n z) := by
  refine ⟨hM.1.filter _, fun x => ?_⟩
  rw [List.mem_filter, hM.2.1, ← hn, beq_iff_eq]
  constructor
  · rintro ⟨h1, h2⟩
    refine ⟨h1, ?_⟩
    obtain ⟨u, hu⟩ : ∃ u, P[x]? = some u := ⟨_, List.getElem?_eq_getElem (by omega)⟩
    have := hp x u hu
    unfold parN at h2
    rw [hu] at h2 ⊢
    simp only at h2
    unfold ofZ at h2
    congr 1
    split at h2 <;> split at h2 <;> omega
  · rintro ⟨h1, h2⟩
    refine ⟨h1, ?_⟩
    have := hp x z h2
    unfold parN ofZ
    rw [h2]
end Go.Proofs.Ytgldjjmpjaegfaa.Sy
