/- Plain: what chapter 15's first law holds in its loop. -/
import Derived.Test.YtjjklinjcbonkaaEo
namespace Go.Proofs.Ytjjklinjcbonkaa
set_option linter.unusedVariables false

theorem spn_snd : ∀ (l : List Sp) (a : List Sp × List Int), (l.foldl spn a).2 = a.2 ++ l.map Sp.id
  | [], a => by simp
  | s :: l, a => by
    rw [List.foldl_cons, spn_snd l (spn a s), List.map_cons]
    simp [spn]
/-- i steps done, step j with number g j: what Spans would hand back, and what the law expects. -/
structure Once (g : Nat → Int) (i : Nat) (T : List Sp × List Int) (want : List Int) : Prop where
  ids : T.1.map Sp.id = want
  mem : ∀ id, id ∈ want ↔ id ∈ T.2
  st : ∀ s ∈ T.1, ∃ j : Nat, j < i ∧ s.st = (j : Int) ∧ s.id = g j
  len : want.length ≤ i
theorem Once.start (g : Nat → Int) : Once g 0 ([], []) [] := ⟨rfl, by simp, by simp, Nat.le_refl _⟩
/-- A step that adds nothing to the episode. -/
theorem Once.had {g : Nat → Int} {i : Nat} {T : List Sp × List Int} {want : List Int} (h : Once g i T want) : Once g (i + 1) T want :=
  ⟨h.ids, h.mem, fun s hs => by obtain ⟨j, hj, h1⟩ := h.st s hs; exact ⟨j, Nat.lt_succ_of_lt hj, h1⟩, Nat.le_succ_of_le h.len⟩
/-- A step that adds a span to the episode. -/
theorem Once.more {g : Nat → Int} {i : Nat} {T : List Sp × List Int} {want : List Int} (h : Once g i T want) (s : Sp) (h1 : s.id = g i) (h2 : s.st = (i : Int)) : Once g (i + 1) (spn T s) (if g i ∈ want then want else want ++ [g i]) := by
  by_cases hw : g i ∈ want
  · rw [if_pos hw]
    have h3 : T.2.count s.id ≠ 0 := by
      have := (h.mem (g i)).1 hw
      rw [h1]
      exact Nat.pos_iff_ne_zero.1 (List.count_pos_iff.2 this)
    have h4 : spn T s = (T.1, T.2 ++ [s.id]) := by unfold spn; rw [if_neg h3]
    rw [h4]
    refine ⟨h.ids, fun id => ?_, h.had.st, Nat.le_succ_of_le h.len⟩
    rw [h.mem id, List.mem_append, List.mem_singleton]
    constructor
    · exact .inl
    · rintro (h5 | h5)
      · exact h5
      · rw [h5, h1]; exact (h.mem _).1 hw
  · rw [if_neg hw]
    have h3 : T.2.count s.id = 0 := by
      rw [h1]
      exact List.count_eq_zero.2 (fun h5 => hw ((h.mem _).2 h5))
    have h4 : spn T s = (T.1 ++ [s], T.2 ++ [s.id]) := by unfold spn; rw [if_pos h3]
    rw [h4]
    refine ⟨by simp only [List.map_append, h.ids, List.map_cons, List.map_nil, h1], fun id => ?_, fun x hx => ?_, by rw [List.length_append]; have := h.len; simp; omega⟩
    · rw [List.mem_append, List.mem_append, List.mem_singleton, List.mem_singleton, h.mem id, h1]
    · rcases List.mem_append.1 hx with hx | hx
      · exact h.had.st x hx
      · rw [List.mem_singleton] at hx
        subst hx
        exact ⟨i, Nat.lt_succ_self i, h2, h1⟩
/-- What is in the episode, is expected. -/
theorem Once.has {g : Nat → Int} {i : Nat} {a : List Sp × List Int} {cur : List Sp} {want : List Int} {id : Int} (h : Once g i (cur.foldl spn a) want) (hh : hasId cur id = true) : id ∈ want := by
  rw [h.mem id, spn_snd]
  unfold hasId at hh
  rw [List.any_eq_true] at hh
  obtain ⟨s, hs, he⟩ := hh
  exact List.mem_append.2 (.inr (List.mem_map.2 ⟨s, hs, by simpa using he⟩))
/-- The episode goes to the others, another trace's behind it. -/
theorem spAll_two (th tl : Int) (l : List Le) (e o : Le) (h1 : e.hi = th) (h2 : e.lo = tl) (h3 : o.lo ≠ tl) : spAll th tl (l ++ [e, o]) = (e.l.map Ls.s).foldl spn (spAll th tl l) := by
  unfold spAll
  have he : epSps th tl e = e.l.map Ls.s := by unfold epSps; rw [if_pos ⟨h1, h2⟩]
  have ho : epSps th tl o = [] := by unfold epSps; rw [if_neg (fun h => h3 h.2)]
  rw [List.flatMap_append, List.foldl_append]
  simp [he, ho]
theorem spAll_one (th tl : Int) (l : List Le) (e : Le) (h1 : e.hi = th) (h2 : e.lo = tl) : spAll th tl (l ++ [e]) = (e.l.map Ls.s).foldl spn (spAll th tl l) := by
  unfold spAll
  have he : epSps th tl e = e.l.map Ls.s := by unfold epSps; rw [if_pos ⟨h1, h2⟩]
  rw [List.flatMap_append, List.foldl_append]
  simp [he]
/-- At the end: out's k-th span has the k-th Id expected, and its Start is a step with that number. -/
theorem Once.fin {g : Nat → Int} {i : Nat} {T : List Sp × List Int} {want : List Int} (h : Once g i T want) {k : Nat} {s : Sp} (hs : T.1[k]? = some s) : want[k]? = some s.id ∧ ∃ j : Nat, j < i ∧ s.st = (j : Int) ∧ s.id = g j := by
  refine ⟨?_, h.st s (List.mem_of_getElem? hs)⟩
  rw [← h.ids, List.getElem?_map, hs]
  rfl
end Go.Proofs.Ytjjklinjcbonkaa
