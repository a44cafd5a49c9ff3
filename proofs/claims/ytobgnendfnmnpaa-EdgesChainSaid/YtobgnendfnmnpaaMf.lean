/- A map that holds of each number the place where it came first, in memory of one's own. -/
import Derived.Test.YtobgnendfnmnpaaSp
import Derived.Test.YtobgnendfnmnpaaBs
import Derived.Maps.Own
import Derived.Maps.OwnOps
import Derived.Maps.OwnSet
import Derived.Maps.Views
namespace Go.Proofs.Ytobgnendfnmnpaa
open Go.RowKit Go.Maps
set_option linter.unusedVariables false
set_option linter.unusedSimpArgs false
set_option maxRecDepth 100000

theorem keyI : Keyed Try.prog 3 := int_keyed Try.underlying3
theorem zeroI' (w : World) : (zeroValue 3).run Try.prog w = .ok (.int .i64 0) w := by kernel_rfl
def MapFst (w : World) (b n : Nat) (ts : List Int) : Prop :=
  ∃ D : DataW Unit, w.ownsMap Try.prog 3 (plainElem Try.prog 3) b n D ∧ IsMap D ∧ ∀ t : Int, has D (.int .i64 t) = decide (t ∈ ts) ∧ (t ∈ ts → D.atKey (.int .i64 t) (.lit (.int .i64 0)) = .lit (.int .i64 ((ts.idxOf t : Nat) : Int)))
theorem MapFst.made (w : World) : MapFst (w.alloc (.map #[] 0)) w.heap.size 0 [] := ⟨.map [], World.ownsMap_made _ _ _ _, isMap_empty, fun t => ⟨rfl, fun h => by cases h⟩⟩
theorem MapFst.block {w w' : World} {b n : Nat} {ts : List Int} (h : MapFst w b n ts) (he : w'.heap[b]? = w.heap[b]?) : MapFst w' b n ts := by
  obtain ⟨D, ⟨es, clock, h1, h2⟩, h3⟩ := h
  exact ⟨D, ⟨es, clock, he.trans h1, h2⟩, h3⟩
theorem MapFst.lt {w : World} {b n : Nat} {ts : List Int} (h : MapFst w b n ts) : b < w.heap.size := by
  obtain ⟨D, ⟨es, clock, h1, h2⟩, h3⟩ := h
  rcases Nat.lt_or_ge b w.heap.size with h | h
  · exact h
  · rw [Array.getElem?_eq_none h] at h1; cases h1
theorem MapFst.again {w : World} {b n : Nat} {ts : List Int} {t : Int} (h : MapFst w b n ts) (ht : t ∈ ts) : MapFst w b n (ts ++ [t]) := by
  obtain ⟨D, h1, h2, h3⟩ := h
  refine ⟨D, h1, h2, fun u => ?_⟩
  have hm : u ∈ ts ++ [t] ↔ u ∈ ts := by
    rw [List.mem_append, List.mem_singleton]
    constructor
    · rintro (h | rfl)
      · exact h
      · exact ht
    · exact Or.inl
  refine ⟨by rw [(h3 u).1]; simp only [hm], fun hu => ?_⟩
  rw [(h3 u).2 (hm.1 hu), List.idxOf_append, if_pos (hm.1 hu)]
theorem wfI {t : Int} (h : -9223372036854775808 ≤ t ∧ t ≤ 9223372036854775807) : (Lit.int .i64 t).wf = true := WalkArith.wf_i64 (by omega)
end Go.Proofs.Ytobgnendfnmnpaa
