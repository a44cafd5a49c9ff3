/- One episode as it comes in. -/
import Derived.Test.YtenioeppmgmdiaaOe
namespace Go.Proofs.Ytenioeppmgmdiaa
open Go.ChangeShapes Go.WideShapes Go.RowKit Go.Joins Go.Deep
set_option linter.unusedVariables false
set_option linter.unusedSimpArgs false
set_option maxRecDepth 100000

section
variable {H : Type} {enc : TypeId × Value → H} {base : Nat}
theorem open_ep {W : World} {v : Value} {d : DataW H} {p : List MemPlace} {r : Reach} {b0 : Nat}
    (hv : Value.okWide Try.prog W r b0 30 v) (h : DataW.Trod enc Try.prog W base (fun _ => true) true 30 v d p) : ∃ y : Le, v = .agg y.cells.toArray ∧ RdSps W W.heap.size y.A y.l ∧ y.ok := by
  obtain ⟨cs, rfl, hsz⟩ := okWide_struct Try.underlying30 hv
  obtain ⟨fuel, hf⟩ := h
  obtain ⟨y, he, hy⟩ := read_episode (cs := cs.toList) (by simpa [Value.cells] using hf)
  exact ⟨y, by congr 1; exact Array.toList_inj.mp (by simpa using he), hy⟩
end
end Go.Proofs.Ytenioeppmgmdiaa
