/- Rows of one's own, over any program: two of two types, a store elsewhere; two and three new blocks. -/
import Derived.Test.YtmldelgbmadegaaBs
namespace Go.Proofs.Ytmldelgbmadegaa
open Go.RowKit
set_option linter.unusedVariables false
set_option maxRecDepth 100000

/-- Rows of one's own of two types don't lie in one block. -/
theorem own_apart {w : World} {B B' e e' size size' n n' : Nat} {v v' : Value} {xs xs' : List Value} (h : w.ownsRow B e size v n xs) (h' : w.ownsRow B' e' size' v' n' xs') (hne : e ≠ e') : v'.ownBlock = none ∨ v.ownBlock ≠ v'.ownBlock := by
  rcases h'.2 with ⟨rfl, _⟩ | ⟨g', cap', cur', rfl, _, hg', _⟩
  · exact .inl rfl
  · refine .inr ?_
    rcases h.2 with ⟨rfl, _⟩ | ⟨g, cap, cur, rfl, _, hg, _⟩
    · simp [Value.ownBlock]
    · simp only [Value.ownBlock]
      intro e
      injection e with e
      subst e
      rw [hg] at hg'
      injection hg' with hg'
      injection hg' with _ h2 _
      exact hne h2

theorem own_cap {w : World} {base e size n c : Nat} {A : Option Addr} {xs : List Value} (h : w.ownsRow base e size (.slice A n c) n xs) : n ≤ c ∧ c ≤ maxLen := by
  rcases h.2 with ⟨h0, _⟩ | ⟨g, cap, cur, hv, _, _, h1, h2, _⟩
  · injection h0 with _ h1 h2; subst h1 h2; simp [maxLen]
  · injection hv with _ _ h3; subst h3; exact ⟨h1, h2⟩
/-- A cell of an older block is stored: rows of one's own stay. -/
theorem own_far {w : World} {base e size n : Nat} {v : Value} {xs : List Value} (h : w.ownsRow base e size v n xs) {p : Addr} (hp : p.block < base) (u : Value) : (w.setCell p u).ownsRow base e size v n xs :=
  h.kept (row := some p.block) ⟨rfl, rfl, rfl, by simp, fun k _ hk => Below.heap_setCell w p u k (fun e => hk (by rw [e]))⟩ (.inr (fun he => by have := own_block_ge h p.block he; omega))
theorem two0 (w : World) (A Z : Obj) : ((w.alloc A).alloc Z).heap[w.heap.size]? = some A := (heap_alloc_old (w.alloc A) Z (show w.heap.size < _ by simp)).trans (heap_alloc_new w A)
theorem two1 (w : World) (A Z : Obj) : ((w.alloc A).alloc Z).heap[w.heap.size + 1]? = some Z := by
  have := heap_alloc_new (w.alloc A) Z
  simpa using this
theorem three0 (w : World) (A Y Z : Obj) : (((w.alloc A).alloc Y).alloc Z).heap[w.heap.size]? = some A := (heap_alloc_old _ Z (show w.heap.size < _ by simp <;> omega)).trans (two0 w A Y)
theorem three1 (w : World) (A Y Z : Obj) : (((w.alloc A).alloc Y).alloc Z).heap[w.heap.size + 1]? = some Y := (heap_alloc_old _ Z (show w.heap.size + 1 < _ by simp)).trans (two1 w A Y)
theorem three2 (w : World) (A Y Z : Obj) : (((w.alloc A).alloc Y).alloc Z).heap[w.heap.size + 1 + 1]? = some Z := by
  have := heap_alloc_new ((w.alloc A).alloc Y) Z
  simpa using this
/-- A block of another type is no row's. -/
theorem own_not {w : World} {base e size n k : Nat} {v : Value} {xs : List Value} (h : w.ownsRow base e size v n xs) {cs : Array Value} {t : TypeId} {fr : Nat × Nat} (hk : w.heap[k]? = some (.cells cs t fr)) (hne : t ≠ e) : v.ownBlock ≠ some k := by
  rcases h.2 with ⟨rfl, _⟩ | ⟨g, cap, cur, rfl, _, hg, _⟩
  · simp [Value.ownBlock]
  · simp only [Value.ownBlock]
    intro he
    injection he with he
    subst he
    rw [hg] at hk
    injection hk with hk
    injection hk with _ h2 _
    exact hne h2.symm
theorem own_else {w : World} {base e size n : Nat} {v : Value} {xs : List Value} (h : w.ownsRow base e size v n xs) {p : Addr} {cs : Array Value} {t : TypeId} {fr : Nat × Nat} (hk : w.heap[p.block]? = some (.cells cs t fr)) (hne : t ≠ e) (u : Value) : (w.setCell p u).ownsRow base e size v n xs :=
  h.kept (row := some p.block) ⟨rfl, rfl, rfl, by simp, fun k _ hk => Below.heap_setCell w p u k (fun e => hk (by rw [e]))⟩ (.inr (own_not h hk hne))
theorem in_heap {w : World} {k : Nat} {b : Obj} (h : w.heap[k]? = some b) : k < w.heap.size := (Array.getElem?_eq_some_iff.1 h).1
end Go.Proofs.Ytmldelgbmadegaa
