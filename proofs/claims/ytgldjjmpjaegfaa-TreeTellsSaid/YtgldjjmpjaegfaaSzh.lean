/- The document's below, plainly; rows of places, more of them. -/
import Derived.Test.YtgldjjmpjaegfaaSzg
namespace Go.Proofs.Ytgldjjmpjaegfaa
open Go.RowKit
set_option linter.unusedVariables false
set_option linter.unusedSimpArgs false

theorem KO.join {w w' : World} {b : Nat} {C1 C2 : List Value} {K1 K2 : List (List Nat)} (h1 : KO w b C1 K1) (hb : Below w.heap.size w w') (h2 : KO w' w.heap.size C2 K2) (hbw : b ≤ w.heap.size) : KO w' b (C1 ++ C2) (K1 ++ K2) := by
  have hlt : ∀ (j : Nat) (v : Value) (g : Nat), C1[j]? = some v → v.ownBlock = some g → g < w.heap.size := fun j v g hv hg => by
    have hj := (List.getElem?_eq_some_iff.1 hv).1
    have hL : ∃ L, K1[j]? = some L := ⟨_, List.getElem?_eq_getElem (by have := h1.len; omega)⟩
    obtain ⟨L, hL⟩ := hL
    exact own_blk_lt (h1.own j v L hv hL).2 hg
  have hge : ∀ (j : Nat) (v : Value) (g : Nat), C2[j]? = some v → v.ownBlock = some g → w.heap.size ≤ g := fun j v g hv hg => by
    have hj := (List.getElem?_eq_some_iff.1 hv).1
    have hL : ∃ L, K2[j]? = some L := ⟨_, List.getElem?_eq_getElem (by have := h2.len; omega)⟩
    obtain ⟨L, hL⟩ := hL
    exact own_block_ge (h2.own j v L hv hL).2 g hg
  refine ⟨by rw [List.length_append, List.length_append, h1.len, h2.len], fun j v L hv hL => ?_, fun j j' v v' hne hv hv' => ?_⟩
  · rcases Nat.lt_or_ge j C1.length with h | h
    · rw [List.getElem?_append_left h] at hv
      rw [List.getElem?_append_left (by rw [← h1.len]; exact h)] at hL
      obtain ⟨a, c⟩ := h1.own j v L hv hL
      exact ⟨a, own_below c hb⟩
    · rw [List.getElem?_append_right h] at hv
      rw [List.getElem?_append_right (by rw [← h1.len]; exact h), ← h1.len] at hL
      obtain ⟨a, c⟩ := h2.own _ v L hv hL
      exact ⟨a, own_mono c hbw⟩
  · rcases Nat.lt_or_ge j C1.length with h | h <;> rcases Nat.lt_or_ge j' C1.length with h' | h'
    · rw [List.getElem?_append_left h] at hv
      rw [List.getElem?_append_left h'] at hv'
      exact h1.far j j' v v' hne hv hv'
    · rw [List.getElem?_append_left h] at hv
      rw [List.getElem?_append_right h'] at hv'
      cases hg : v.ownBlock with
      | none => exact .inl rfl
      | some g =>
        refine .inr fun e => ?_
        have a := hlt j v g hv hg
        have c := hge _ v' g hv' e.symm
        omega
    · rw [List.getElem?_append_right h] at hv
      rw [List.getElem?_append_left h'] at hv'
      cases hg : v.ownBlock with
      | none => exact .inl rfl
      | some g =>
        refine .inr fun e => ?_
        have a := hge _ v g hv hg
        have c := hlt j' v' g hv' e.symm
        omega
    · rw [List.getElem?_append_right h] at hv
      rw [List.getElem?_append_right h'] at hv'
      exact h2.far _ _ v v' (by omega) hv hv'
theorem KO.left {w : World} {b : Nat} {C1 C2 : List Value} {K1 K2 : List (List Nat)} (h : KO w b (C1 ++ C2) (K1 ++ K2)) (hl : C1.length = K1.length) : KO w b C1 K1 := by
  refine ⟨hl, fun j v L hv hL => ?_, fun j j' v v' hne hv hv' => ?_⟩
  · exact h.own j v L (by rw [List.getElem?_append_left (List.getElem?_eq_some_iff.1 hv).1]; exact hv) (by rw [List.getElem?_append_left (List.getElem?_eq_some_iff.1 hL).1]; exact hL)
  · exact h.far j j' v v' hne (by rw [List.getElem?_append_left (List.getElem?_eq_some_iff.1 hv).1]; exact hv) (by rw [List.getElem?_append_left (List.getElem?_eq_some_iff.1 hv').1]; exact hv')
theorem KO.mono {w : World} {b b' : Nat} {C : List Value} {K : List (List Nat)} (h : KO w b C K) (hb : b' ≤ b) : KO w b' C K := ⟨h.len, fun j v L hv hL => ⟨(h.own j v L hv hL).1, own_mono (h.own j v L hv hL).2 hb⟩, h.far⟩
theorem KO.two {w : World} {b : Nat} (X Y : List Nat) (hX : X = []) (hY : Y = []) : KO w b [.slice none 0 0, .slice none 0 0] [X, Y] := by subst hX; subst hY; exact KO.start w b 2
namespace Sy
theorem ordM_len (K : List (List Nat)) : ∀ (f : Nat) (S : List Nat), (ordM K f S).length ≤ f
  | 0, S => by cases S <;> exact Nat.le_refl _
  | f + 1, [] => by rw [ordM_nil]; exact Nat.zero_le _
  | f + 1, i :: S => by
    show (i :: ordM K f _).length ≤ _
    rw [List.length_cons]
    have := ordM_len K f ((K[i]?).getD [] ++ S)
    omega
theorem Ost.run_fin {P : List Int} {n : Nat} {M : List Nat} (h : All n M) : ∀ (f : Nat) (O S : List Nat), Ost P n O S → O.length + f = n → Ost P n (O ++ ordM (kidsL P n M) f S) [] := by
  intro f
  induction f with
  | zero =>
    intro O S I hl
    have := I.len
    obtain rfl : S = [] := List.eq_nil_of_length_eq_zero (by omega)
    rw [ordM_nil, List.append_nil]; exact I
  | succ f ih =>
    intro O S I hl
    cases S with
    | nil => rw [ordM_nil, List.append_nil]; exact I
    | cons x S =>
      have hx : x < n := I.lt x (List.mem_append_right _ List.mem_cons_self)
      show Ost P n (O ++ (x :: ordM (kidsL P n M) f (((kidsL P n M)[x]?).getD [] ++ S))) []
      rw [kidsL_at M (Nat.le_of_lt hx)]
      have h2 := ih (O ++ [x]) _ (I.step h) (by rw [List.length_append, List.length_singleton]; omega)
      rw [List.append_assoc] at h2
      exact h2
/-- A place for one more. -/
theorem KidS.place {s : Nat → Int} {P : List Int} {z : Int} {n : Nat} {K : List Nat} : ∀ p, p ≤ K.length → (∀ j x, p ≤ j → K[j]? = some x → s n < s x) → ∃ k, k ≤ K.length ∧ (∀ j x, k ≤ j → K[j]? = some x → s n < s x) ∧ (k = 0 ∨ ∃ x, K[k - 1]? = some x ∧ s x ≤ s n)
  | 0, hp, hu => ⟨0, hp, hu, .inl rfl⟩
  | p + 1, hp, hu => by
    obtain ⟨x, hx⟩ : ∃ x, K[p]? = some x := ⟨_, List.getElem?_eq_getElem (by omega)⟩
    by_cases h : s n < s x
    · exact KidS.place (P := P) (z := z) p (by omega) fun j y hj hy => by
        rcases Nat.lt_or_ge j (p + 1) with h1 | h1
        · rw [show j = p by omega, hx] at hy
          injection hy with hy
          rw [← hy]; exact h
        · exact hu j y h1 hy
    · exact ⟨p + 1, hp, hu, .inr ⟨x, by rw [show p + 1 - 1 = p by omega]; exact hx, by omega⟩⟩
theorem KidS.all (s : Nat → Int) (P : List Int) (z : Int) : ∀ n, ∃ K, KidS s P z n K
  | 0 => ⟨[], KidS.start s P z⟩
  | n + 1 => by
    obtain ⟨K, hK⟩ := KidS.all s P z n
    by_cases h : P[n]? = some z
    · obtain ⟨k, h1, h2, h3⟩ := KidS.place (P := P) (z := z) (K := K) (s := s) (n := n) K.length (Nat.le_refl _) (fun j x hj hx => by have := (List.getElem?_eq_some_iff.1 hx).1; omega)
      exact ⟨_, hK.ins h h1 h2 h3⟩
    · exact ⟨K, hK.skip h⟩
theorem bys_ex (l : List Ls) : ∃ M, Bys l M := by
  obtain ⟨K, hK⟩ := KidS.all (stS l) (List.replicate l.length (0 : Int)) 0 l.length
  have hm : ∀ x, x ∈ K ↔ x < l.length := fun x => by
    rw [hK.mem]
    constructor
    · exact fun h => h.1
    · intro h
      exact ⟨h, by rw [List.getElem?_replicate, if_pos h]⟩
  refine ⟨K, hK.ord, hm, ?_⟩
  have h1 := nd_le l.length K hK.nd fun x hx => (hm x).1 hx
  have h2 := sub_len (List.range l.length) K List.nodup_range fun x hx => (hm x).2 (List.mem_range.1 hx)
  rw [List.length_range] at h2
  omega
/-- All that the document's walk over a tree leans on. -/
structure Fo (l : List Ls) (n : Nat) (P : List Int) (M O : List Nat) : Prop where
  ln : n = l.length
  par : ParOf (namedM l) P
  bys : Bys l M
  all : All n M
  plain : Plain P n
  pl : P.length = n
  eq : O = ordM (kidsL P n M) n (M.filter fun i => parN P n i == n)
  ost : Ost P n O []
  run : Run (fun x => M.filter fun q => parN P n q == x) (M.filter fun i => parN P n i == n) O
  nd : O.Nodup
  mem : ∀ x, x ∈ O ↔ x < n
theorem fo_of {l : List Ls} {n : Nat} {P : List Int} {M : List Nat} (hn : n = l.length) (hP : ParOf (namedM l) P) (hM : Bys l M) : Fo l n P M (ordM (kidsL P n M) n (M.filter fun i => parN P n i == n)) := by
  have ha := bys_all hM hn
  have hp : Plain P n := by rw [hn]; exact plain_par hP
  have hl : P.length = n := by rw [hP.1, namedM_len, hn]
  have ho := Ost.run_fin (P := P) ha n [] _ (Ost.start ha) (by simp)
  rw [List.nil_append] at ho
  have hnd := ho.nd
  rw [List.append_nil] at hnd
  exact ⟨hn, hP, hM, ha, hp, hl, rfl, ho, Ost.run (P := P) ha n [] _ (Ost.start ha) (by simp), hnd, ho.fin hP (by rw [namedM_len, hn]) hp hl⟩
theorem Fo.len {l : List Ls} {n : Nat} {P : List Int} {M O : List Nat} (h : Fo l n P M O) : O.length ≤ n := nd_le n O h.nd fun x hx => (h.mem x).1 hx
/-- What is below each. -/
theorem Fo.sub {l : List Ls} {n x : Nat} {P : List Int} {M O : List Nat} (h : Fo l n P M O) (hx : x < n) : ∃ B, Run (fun x => M.filter fun q => parN P n q == x) (M.filter fun q => parN P n q == x) B ∧ B.length < n ∧ ∀ y ∈ B, y < n := by
  obtain ⟨A, B, C, e, hB⟩ := h.run.at_ x ((h.mem x).2 hx)
  refine ⟨B, hB, ?_, fun y hy => (h.mem y).1 (by rw [e]; exact List.mem_append_right _ (List.mem_cons_of_mem _ (List.mem_append_left _ hy)))⟩
  have := h.len
  rw [e, List.length_append, List.length_cons, List.length_append] at this
  omega
end Sy
end Go.Proofs.Ytgldjjmpjaegfaa
