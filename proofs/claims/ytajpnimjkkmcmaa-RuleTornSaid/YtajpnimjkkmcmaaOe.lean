/- Episodes as they come in. -/
import Derived.Test.YtajpnimjkkmcmaaLe
namespace Go.Proofs.Ytajpnimjkkmcmaa
open Go.ChangeShapes Go.WideShapes Go.RowKit Go.Joins Go.Deep
set_option linter.unusedVariables false
set_option maxRecDepth 100000

section
variable {H : Type} {enc : TypeId × Value → H}
variable {w : World} {base : Nat} {sp : Nat → Bool} {held : Bool} {n : Nat} {cs : List Value} {x : DataW H × List MemPlace}
theorem cellsSps : Try.prog.cellsOf 59 = 1 := by kernel_rfl
/-- A cell that holds spans. -/
theorem read_spans (c : Value) (h : DataW.trod enc Try.prog w base sp held n 59 [c] = some x) : ∃ (A : Option Addr) (k : Nat) (l : List Ls), c = .slice A l.length k ∧ RdSps w w.heap.size A l ∧ l.length ≤ k ∧ k ≤ maxLen := by
  rcases open_slice Try.underlying59 h with ⟨hcs, _⟩ | ⟨a, len, cap, m, n', D, Pl, hcs, _, hlc, hcm, hm, _, hi⟩
  · simp at hcs
    exact ⟨none, 0, [], hcs, RdSps.nil, by simp, by simp [maxLen]⟩
  · simp at hcs
    rw [cellsS] at hi
    have hmm : len ≤ m := by rw [hm]; split <;> omega
    obtain ⟨l, hl, hp⟩ := choose_list (p := fun i (y : Ls) => (∀ j u, y.cells[j]? = some u → w.cell? (a.add (i * 10 + j)) = some u) ∧ RdL w w.heap.size y) len (fun i hil => by
      obtain ⟨cs', hc, ht⟩ := hi i (by omega)
      obtain ⟨y, rfl, hy⟩ := read_span ht
      obtain ⟨_, _, hat⟩ := World.cells?_some hc
      refine ⟨y, fun j u hu => ?_, hy⟩
      have hj : j < 10 := by
        rcases Nat.lt_or_ge j 10 with h | h
        · exact h
        · rw [List.getElem?_eq_none (by rw [cells_len]; exact h)] at hu; cases hu
      rw [← Go.Proofs.Ytajpnimjkkmcmaa.add_add, hat j hj, hu])
    subst hl
    exact ⟨some a, cap, l, hcs, ⟨rd_rows cells_len (fun i y hy => (hp i y hy).1), fun y hy => by
      obtain ⟨i, hi⟩ := List.getElem?_of_mem hy
      exact (hp i y hi).2⟩, hlc, hcm⟩
/-- An episode's numbers are such as there are. -/
structure Le.ok (e : Le) : Prop where
  hi : 0 ≤ e.hi ∧ e.hi ≤ 18446744073709551615
  lo : 0 ≤ e.lo ∧ e.lo ≤ 18446744073709551615
  f : -9223372036854775808 ≤ e.f ∧ e.f ≤ 9223372036854775807
  la : -9223372036854775808 ≤ e.la ∧ e.la ≤ 9223372036854775807
  cap : e.l.length ≤ e.c ∧ e.c ≤ maxLen
end
end Go.Proofs.Ytajpnimjkkmcmaa
