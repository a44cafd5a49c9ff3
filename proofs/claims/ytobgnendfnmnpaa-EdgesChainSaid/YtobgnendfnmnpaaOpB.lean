/- A slice of truths that came in as an argument: opened. -/
import Derived.Test.YtobgnendfnmnpaaRows
import Derived.Test.YtobgnendfnmnpaaBs
import Derived.Deep.Grids
namespace Go.Proofs.Ytobgnendfnmnpaa
open Go.ChangeShapes Go.WideShapes Go.RowKit Go.Deep
set_option linter.unusedVariables false
section
variable {H : Type} {enc : TypeId × Value → H}
theorem open_truths {W : World} {base : Nat} {v : Value} {d : DataW H} {p : List MemPlace} {r : Reach} {b0 : Nat}
    (hv : Value.okWide Try.prog W r b0 23 v) (h : DataW.Trod enc Try.prog W base (fun _ => true) true 23 v d p) (hlt : ∀ x ∈ p, x.block < W.heap.size) :
    ∃ (A : Option Addr) (bs : List Bool) (n c : Nat), v = .slice A n c ∧ n = bs.length ∧ Rd W W.heap.size A (bs.map Value.bool) ∧ n ≤ c ∧ c ≤ maxLen := by
  obtain ⟨a0, len0, cap0, rfl⟩ := okWide_slice Try.underlying23 hv
  obtain ⟨fuel, hf⟩ := h
  rcases open_bools Try.underlying23 Try.underlying4 (by kernel_rfl) hf with ⟨hcs, _⟩ | ⟨x, l, c, B, hcs, _, hl, hm, hx, hcell⟩
  · simp [Value.cells] at hcs
    obtain ⟨rfl, rfl, rfl⟩ := hcs
    exact ⟨none, [], 0, 0, rfl, rfl, Rd.nil, Nat.le_refl _, by simp [maxLen]⟩
  · simp [Value.cells] at hcs
    obtain ⟨rfl, rfl, rfl⟩ := hcs
    refine ⟨some x, (List.range len0).map B, len0, cap0, rfl, by simp, fun hn => ?_, hl, hm⟩
    have hn0 : 0 < len0 := by simpa using hn
    have hp : x.block < W.heap.size := by
      have : MemPlace.cell x.block x.off ∈ p := by
        simp only [Prod.mk.injEq] at hx
        rw [hx.2]
        simp only [MemPlace.row, List.mem_map, List.mem_range]
        exact ⟨0, by omega, by simp⟩
      exact hlt _ this
    refine ⟨x, rfl, hp, fun j u hu => ?_⟩
    have hj : j < len0 := by
      rcases Nat.lt_or_ge j len0 with h1 | h1
      · exact h1
      · rw [List.getElem?_eq_none (by simpa using h1)] at hu; cases hu
    rw [hcell j (by omega)]
    rw [List.map_map, List.getElem?_map, List.getElem?_range hj] at hu
    simpa using hu
end
end Go.Proofs.Ytobgnendfnmnpaa
