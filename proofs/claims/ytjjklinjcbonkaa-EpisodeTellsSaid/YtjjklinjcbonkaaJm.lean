/- Plain: the spans of two rows of episodes together. -/
import Derived.Test.YtjjklinjcbonkaaEm
namespace Go.Proofs.Ytjjklinjcbonkaa
set_option linter.unusedVariables false

/-- The Id is none of these. -/
def notIn (a : List Int) (s : Sp) : Bool := !decide (s.id ∈ a)
theorem spn_parts (a1 : List Sp) (a2 : List Int) : ∀ (L b1 : List Sp) (p : List Int), (L.foldl spn (a1 ++ b1.filter (notIn a2), a2 ++ p)).1 = a1 ++ ((L.foldl spn (b1, p)).1.filter (notIn a2))
  | [], b1, p => rfl
  | s :: L, b1, p => by
    rw [List.foldl_cons, List.foldl_cons]
    by_cases h1 : s.id ∈ p
    · have e1 : spn (b1, p) s = (b1, p ++ [s.id]) := by unfold spn; rw [if_neg (Nat.pos_iff_ne_zero.1 (List.count_pos_iff.2 h1))]
      have e2 : spn (a1 ++ b1.filter (notIn a2), a2 ++ p) s = (a1 ++ b1.filter (notIn a2), a2 ++ (p ++ [s.id])) := by unfold spn; rw [if_neg (Nat.pos_iff_ne_zero.1 (List.count_pos_iff.2 (List.mem_append.2 (.inr h1)))), List.append_assoc]
      rw [e1, e2]
      exact spn_parts a1 a2 L _ _
    · have e1 : spn (b1, p) s = (b1 ++ [s], p ++ [s.id]) := by unfold spn; rw [if_pos (List.count_eq_zero.2 h1)]
      by_cases h2 : s.id ∈ a2
      · have e2 : spn (a1 ++ b1.filter (notIn a2), a2 ++ p) s = (a1 ++ (b1 ++ [s]).filter (notIn a2), a2 ++ (p ++ [s.id])) := by
          unfold spn
          rw [if_neg (Nat.pos_iff_ne_zero.1 (List.count_pos_iff.2 (List.mem_append.2 (.inl h2)))), List.append_assoc, List.filter_append]
          simp [notIn, h2]
        rw [e1, e2]
        exact spn_parts a1 a2 L _ _
      · have e2 : spn (a1 ++ b1.filter (notIn a2), a2 ++ p) s = (a1 ++ (b1 ++ [s]).filter (notIn a2), a2 ++ (p ++ [s.id])) := by
          unfold spn
          rw [if_pos (List.count_eq_zero.2 (fun h => (List.mem_append.1 h).elim h2 h1)), List.append_assoc a2, List.filter_append]
          simp [notIn, h2]
        rw [e1, e2]
        exact spn_parts a1 a2 L _ _
theorem spAll_both (th tl : Int) (l m : List Le) : (spAll th tl (l ++ m)).1 = (spAll th tl l).1 ++ (spAll th tl m).1.filter (notIn (spAll th tl l).2) := by
  have h := spn_parts (spAll th tl l).1 (spAll th tl l).2 (m.flatMap (epSps th tl)) [] []
  rw [List.filter_nil, List.append_nil, List.append_nil] at h
  unfold spAll at h ⊢
  rw [List.flatMap_append, List.foldl_append]
  exact h
/-- What was seen is what is there. -/
theorem spn_mem : ∀ (L : List Sp) (a : List Sp × List Int), (∀ id, id ∈ a.2 ↔ id ∈ a.1.map Sp.id) → ∀ id, id ∈ (L.foldl spn a).2 ↔ id ∈ (L.foldl spn a).1.map Sp.id
  | [], a, h => h
  | s :: L, a, h => by
    rw [List.foldl_cons]
    refine spn_mem L _ fun id => ?_
    unfold spn
    simp only
    split
    · simp [h id]
    · rename_i hc
      have hm : s.id ∈ a.2 := List.count_pos_iff.1 (Nat.pos_of_ne_zero hc)
      rw [List.mem_append, List.mem_singleton, ← h id]
      constructor
      · rintro (h1 | rfl)
        · exact h1
        · exact hm
      · exact .inl
theorem spAll_mem (th tl : Int) (l : List Le) (id : Int) : id ∈ (spAll th tl l).2 ↔ id ∈ (spAll th tl l).1.map Sp.id := spn_mem _ _ (fun _ => by simp) id
/-- Behind i of the second ones. -/
def joined (a b : List Sp) (i : Nat) : List Sp := a ++ (b.take i).filter (notIn (a.map Sp.id))
theorem joined_all (th tl : Int) (l m : List Le) {i : Nat} (hi : (spAll th tl m).1.length ≤ i) : joined (spAll th tl l).1 (spAll th tl m).1 i = (spAll th tl (l ++ m)).1 := by
  unfold joined
  rw [List.take_of_length_le hi, spAll_both]
  congr 2
  funext s
  unfold notIn
  congr 1
  exact decide_eq_decide.2 (spAll_mem th tl l s.id).symm
theorem joined_step (a b : List Sp) (i : Nat) (s : Sp) (hs : b[i]? = some s) : joined a b (i + 1) = joined a b i ++ (if notIn (a.map Sp.id) s then [s] else []) := by
  unfold joined
  rw [List.take_add_one, hs, List.filter_append, List.append_assoc]
  congr 2
  cases h : notIn (a.map Sp.id) s <;> simp [h]
theorem joined_len (a b : List Sp) (i : Nat) : (joined a b i).length ≤ a.length + b.length := by
  unfold joined
  rw [List.length_append]
  have h1 := List.length_filter_le (notIn (a.map Sp.id)) (b.take i)
  have h2 : (b.take i).length ≤ b.length := by rw [List.length_take]; omega
  omega
end Go.Proofs.Ytjjklinjcbonkaa
