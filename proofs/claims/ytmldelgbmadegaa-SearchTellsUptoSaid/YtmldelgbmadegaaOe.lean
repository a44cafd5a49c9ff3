/- Episodes as they come in. -/
import Derived.Test.YtmldelgbmadegaaLe
namespace Go.Proofs.Ytmldelgbmadegaa
open Go.ChangeShapes Go.WideShapes Go.RowKit Go.Joins Go.Deep
set_option linter.unusedVariables false
set_option maxRecDepth 100000

section
variable {H : Type} {enc : TypeId × Value → H}
variable {w : World} {base : Nat} {sp : Nat → Bool} {held : Bool} {n : Nat} {cs : List Value} {x : DataW H × List MemPlace}
theorem cellsE : Try.prog.cellsOf 48 = 6 := by kernel_rfl
theorem cellsSps : Try.prog.cellsOf 46 = 1 := by kernel_rfl
/-- A cell that holds spans. -/
theorem read_spans (c : Value) (h : DataW.trod enc Try.prog w base sp held n 46 [c] = some x) : ∃ (A : Option Addr) (k : Nat) (l : List Ls), c = .slice A l.length k ∧ RdSps w w.heap.size A l ∧ l.length ≤ k ∧ k ≤ maxLen := by
  rcases open_slice Try.underlying46 h with ⟨hcs, _⟩ | ⟨a, len, cap, m, n', D, Pl, hcs, _, hlc, hcm, hm, _, hi⟩
  · simp at hcs
    exact ⟨none, 0, [], hcs, RdSps.nil, by simp, by simp [maxLen]⟩
  · simp at hcs
    rw [cellsS] at hi
    have hmm : len ≤ m := by rw [hm]; split <;> omega
    obtain ⟨l, hl, hp⟩ := choose_list (p := fun i (y : Ls) => (∀ j u, y.cells[j]? = some u → w.cell? (a.add (i * 10 + j)) = some u) ∧ RdL w w.heap.size y) len (fun i hil => by
      obtain ⟨cs', hc, ht⟩ := hi i (by omega)
      obtain ⟨y, rfl, hy⟩ := read_span ht
      obtain ⟨_, _, hat⟩ := World.cells?_some hc
      refine ⟨y, fun j u hu => ?_, hy⟩
      have hj : j < 10 := by
        rcases Nat.lt_or_ge j 10 with h | h
        · exact h
        · rw [List.getElem?_eq_none (by rw [cells_len]; exact h)] at hu; cases hu
      rw [← Go.Proofs.Ytmldelgbmadegaa.add_add, hat j hj, hu])
    subst hl
    exact ⟨some a, cap, l, hcs, ⟨rd_rows cells_len (fun i y hy => (hp i y hy).1), fun y hy => by
      obtain ⟨i, hi⟩ := List.getElem?_of_mem hy
      exact (hp i y hi).2⟩, hlc, hcm⟩
/-- An episode's numbers are such as there are. -/
structure Le.ok (e : Le) : Prop where
  hi : 0 ≤ e.hi ∧ e.hi ≤ 18446744073709551615
  lo : 0 ≤ e.lo ∧ e.lo ≤ 18446744073709551615
  f : -9223372036854775808 ≤ e.f ∧ e.f ≤ 9223372036854775807
  la : -9223372036854775808 ≤ e.la ∧ e.la ≤ 9223372036854775807
  cap : e.l.length ≤ e.c ∧ e.c ≤ maxLen
theorem read_episode (h : DataW.trod enc Try.prog w base sp held n 48 cs = some x) : ∃ e : Le, cs = e.cells ∧ RdSps w w.heap.size e.A e.l ∧ e.ok := by
  obtain ⟨hl, m, hf⟩ := trod_fields Try.underlying48 h
  rw [cellsE] at hl
  match cs, hl with
  | [c0, c1, c2, c3, c4, c5], _ =>
    obtain ⟨_, g0⟩ := hf _ (List.Mem.head _)
    obtain ⟨_, g1⟩ := hf _ (List.Mem.tail _ (List.Mem.head _))
    obtain ⟨_, g2⟩ := hf _ (List.Mem.tail _ (List.Mem.tail _ (List.Mem.head _)))
    obtain ⟨_, g3⟩ := hf _ (List.Mem.tail _ (List.Mem.tail _ (List.Mem.tail _ (List.Mem.head _))))
    obtain ⟨_, g4⟩ := hf _ (List.Mem.tail _ (List.Mem.tail _ (List.Mem.tail _ (List.Mem.tail _ (List.Mem.head _)))))
    simp only [cellsI, cellsTr, cellsB, cellsSps] at g0 g1 g2 g3 g4
    obtain ⟨_, m2, hf2⟩ := trod_fields Try.underlying28 g0
    obtain ⟨_, k0⟩ := hf2 _ (List.Mem.head _)
    obtain ⟨_, k1⟩ := hf2 _ (List.Mem.tail _ (List.Mem.head _))
    simp only [cellsU] at k0 k1
    obtain ⟨a0, rfl, b0⟩ := read_u c0 k0
    obtain ⟨a1, rfl, b1⟩ := read_u c1 k1
    obtain ⟨a2, rfl, b2⟩ := read_i c2 g1
    obtain ⟨a3, rfl, b3⟩ := read_i c3 g2
    obtain ⟨a4, e4, _⟩ := DataW.trod_bool Try.underlying4 g3
    obtain ⟨A, k, l, rfl, hr, h1, h2⟩ := read_spans c5 g4
    simp at e4
    subst e4
    exact ⟨⟨a0, a1, a2, a3, a4, l, A, k⟩, rfl, hr, ⟨b0, b1, b2, b3, h1, h2⟩⟩
theorem open_eps {W : World} {v : Value} {d : DataW H} {p : List MemPlace} {r : Reach} {b0 : Nat}
    (hv : Value.okWide Try.prog W r b0 22 v) (h : DataW.Trod enc Try.prog W base (fun _ => true) true 22 v d p) :
    ∃ (A : Option Addr) (l : List Le) (n c : Nat), v = .slice A n c ∧ n = l.length ∧ RdEps W W.heap.size A l ∧ (∀ e ∈ l, e.ok) ∧ n ≤ c ∧ c ≤ maxLen := by
  obtain ⟨a0, len0, cap0, rfl⟩ := okWide_slice Try.underlying22 hv
  obtain ⟨fuel, hf⟩ := h
  rcases open_slice Try.underlying22 hf with ⟨hcs, _⟩ | ⟨a, len, cap, m, n', D, Pl, hcs, _, hlc, hcm, hm, _, hi⟩
  · simp [Value.cells] at hcs
    obtain ⟨rfl, rfl, rfl⟩ := hcs
    exact ⟨none, [], 0, 0, rfl, rfl, RdEps.nil, by simp, by simp, by simp [maxLen]⟩
  · simp [Value.cells] at hcs
    obtain ⟨rfl, rfl, rfl⟩ := hcs
    rw [cellsE] at hi
    have hmm : len0 ≤ m := by rw [hm]; split <;> omega
    obtain ⟨l, hl, hp⟩ := choose_list (p := fun i (y : Le) => (∀ j u, y.cells[j]? = some u → W.cell? (a.add (i * 6 + j)) = some u) ∧ RdSps W W.heap.size y.A y.l ∧ y.ok) len0 (fun i hil => by
      obtain ⟨cs', hc, ht⟩ := hi i (by omega)
      obtain ⟨y, rfl, hy⟩ := read_episode ht
      obtain ⟨_, _, hat⟩ := World.cells?_some hc
      refine ⟨y, fun j u hu => ?_, hy⟩
      have hj : j < 6 := by
        rcases Nat.lt_or_ge j 6 with h | h
        · exact h
        · rw [List.getElem?_eq_none (by rw [ecells_len]; exact h)] at hu; cases hu
      rw [← Go.Proofs.Ytmldelgbmadegaa.add_add, hat j hj, hu])
    exact ⟨some a, l, len0, cap0, rfl, hl.symm, ⟨rd_rows ecells_len (fun i y hy => (hp i y hy).1), fun y hy => by
      obtain ⟨i, hi⟩ := List.getElem?_of_mem hy
      exact (hp i y hi).2.1⟩, fun y hy => by
      obtain ⟨i, hi⟩ := List.getElem?_of_mem hy
      exact (hp i y hi).2.2, hlc, hcm⟩
end
end Go.Proofs.Ytmldelgbmadegaa
