/- A query that comes in, opened. -/
import Derived.Test.YtmldelgbmadegaaBri
namespace Go.Proofs.Ytmldelgbmadegaa
open Go.ChangeShapes Go.WideShapes Go.RowKit Go.Joins Go.Deep
set_option linter.unusedVariables false
set_option linter.unusedSimpArgs false
set_option maxRecDepth 100000

structure Qm.ok (q : Qm) : Prop where
  sv : q.sv.size ≤ maxLen
  op : q.op.size ≤ maxLen
  ky : q.ky.size ≤ maxLen
  vl : q.vl.size ≤ maxLen
  du : -9223372036854775808 ≤ q.du ∧ q.du ≤ 9223372036854775807
section
variable {H : Type} {enc : TypeId × Value → H} {w : World} {base : Nat} {sp : Nat → Bool} {held : Bool} {n : Nat} {cs : List Value} {x : DataW H × List MemPlace}
theorem cellsQ : Try.prog.cellsOf 68 = 6 := by kernel_rfl
theorem read_query (h : DataW.trod enc Try.prog w base sp held n 68 cs = some x) : ∃ q : Qm, cs = q.cells ∧ q.ok := by
  obtain ⟨hl, m, hf⟩ := trod_fields Try.underlying68 h
  rw [cellsQ] at hl
  match cs, hl with
  | [c0, c1, c2, c3, c4, c5], _ =>
    obtain ⟨_, g0⟩ := hf _ (List.Mem.head _)
    obtain ⟨_, g1⟩ := hf _ (List.Mem.tail _ (List.Mem.head _))
    obtain ⟨_, g2⟩ := hf _ (List.Mem.tail _ (List.Mem.tail _ (List.Mem.head _)))
    obtain ⟨_, g3⟩ := hf _ (List.Mem.tail _ (List.Mem.tail _ (List.Mem.tail _ (List.Mem.head _))))
    obtain ⟨_, g4⟩ := hf _ (List.Mem.tail _ (List.Mem.tail _ (List.Mem.tail _ (List.Mem.tail _ (List.Mem.head _)))))
    obtain ⟨_, g5⟩ := hf _ (List.Mem.tail _ (List.Mem.tail _ (List.Mem.tail _ (List.Mem.tail _ (List.Mem.tail _ (List.Mem.head _))))))
    simp only [cellsI, cellsB, cellsSt] at g0 g1 g2 g3 g4 g5
    obtain ⟨a0, rfl, b0⟩ := read_s c0 g0
    obtain ⟨a1, rfl, b1⟩ := read_s c1 g1
    obtain ⟨a2, rfl, b2⟩ := read_s c2 g2
    obtain ⟨a3, rfl, b3⟩ := read_s c3 g3
    obtain ⟨a4, rfl, b4⟩ := read_i c4 g4
    obtain ⟨a5, e5, _⟩ := DataW.trod_bool Try.underlying4 g5
    simp at e5
    subst e5
    exact ⟨⟨a0, a1, a2, a3, a4, a5⟩, rfl, b0, b1, b2, b3, b4⟩
theorem open_query {W : World} {v : Value} {d : DataW H} {p : List MemPlace} {r : Reach} {b0 : Nat}
    (hv : Value.okWide Try.prog W r b0 68 v) (h : DataW.Trod enc Try.prog W base (fun _ => true) true 68 v d p) : ∃ q : Qm, v = .agg q.cells.toArray ∧ q.ok := by
  obtain ⟨cs, rfl, hsz⟩ := okWide_struct Try.underlying68 hv
  obtain ⟨fuel, hf⟩ := h
  obtain ⟨y, he, hy⟩ := read_query (cs := cs.toList) (by simpa [Value.cells] using hf)
  exact ⟨y, by congr 1; exact Array.toList_inj.mp (by simpa using he), hy⟩
end
end Go.Proofs.Ytmldelgbmadegaa
