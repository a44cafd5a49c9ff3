/- Rows that came in as an argument, opened. -/
import Derived.Test.YtkhhcnpmobgdgaaDoorBza
import Derived.Test.YtkhhcnpmobgdgaaDoorYt
namespace Go.Proofs.YtkhhcnpmobgdgaaDoor
open Go.ChangeShapes Go.WideShapes Go.RowKit Go.Joins Go.Deep
set_option linter.unusedVariables false
set_option linter.unusedSimpArgs false
set_option maxRecDepth 100000
section
variable {H : Type} {enc : TypeId × Value → H} {w : World} {base : Nat} {sp : Nat → Bool} {held : Bool} {n : Nat} {cs : List Value} {x : DataW H × List MemPlace}
theorem cellsCz : Tryd.prog.cellsOf 46 = 10 := by kernel_rfl
theorem cellsA8z : Tryd.prog.cellsOf 44 = 8 := by kernel_rfl
theorem cellsRz : Tryd.prog.cellsOf 48 = 14 := by kernel_rfl
theorem read_array8z (h : DataW.trod enc Tryd.prog w base sp held n 44 cs = some x) : ∃ l : List Int, l.length = 8 ∧ cs = l.map (Value.int .i64) ∧ ∀ a ∈ l, -9223372036854775808 ≤ a ∧ a ≤ 9223372036854775807 := by
  obtain ⟨hl, m, hi⟩ := trod_itemsy Tryd.underlying44 h
  rw [cellsA8z] at hl
  simp only [cellsI] at hi
  match cs, hl with
  | [c0, c1, c2, c3, c4, c5, c6, c7], _ =>
    obtain ⟨_, g0⟩ := hi 0 (by decide)
    obtain ⟨_, g1⟩ := hi 1 (by decide)
    obtain ⟨_, g2⟩ := hi 2 (by decide)
    obtain ⟨_, g3⟩ := hi 3 (by decide)
    obtain ⟨_, g4⟩ := hi 4 (by decide)
    obtain ⟨_, g5⟩ := hi 5 (by decide)
    obtain ⟨_, g6⟩ := hi 6 (by decide)
    obtain ⟨_, g7⟩ := hi 7 (by decide)
    obtain ⟨a0, rfl, b0⟩ := read_i c0 g0
    obtain ⟨a1, rfl, b1⟩ := read_i c1 g1
    obtain ⟨a2, rfl, b2⟩ := read_i c2 g2
    obtain ⟨a3, rfl, b3⟩ := read_i c3 g3
    obtain ⟨a4, rfl, b4⟩ := read_i c4 g4
    obtain ⟨a5, rfl, b5⟩ := read_i c5 g5
    obtain ⟨a6, rfl, b6⟩ := read_i c6 g6
    obtain ⟨a7, rfl, b7⟩ := read_i c7 g7
    refine ⟨[a0, a1, a2, a3, a4, a5, a6, a7], rfl, rfl, fun a ha => ?_⟩
    simp only [List.mem_cons, List.not_mem_nil, or_false] at ha
    rcases ha with rfl | rfl | rfl | rfl | rfl | rfl | rfl | rfl <;> assumption
theorem read_counterz (h : DataW.trod enc Tryd.prog w base sp held n 46 cs = some x) : ∃ l : List Int, okC l ∧ cs = (Cv l).toList := by
  obtain ⟨hl, m, hf⟩ := trod_fields Tryd.underlying46 h
  rw [cellsCz] at hl
  match cs, hl with
  | [c0, c1, c2, c3, c4, c5, c6, c7, c8, c9], _ =>
    obtain ⟨_, g0⟩ := hf _ (List.Mem.head _)
    obtain ⟨_, g1⟩ := hf _ (List.Mem.tail _ (List.Mem.head _))
    obtain ⟨_, g2⟩ := hf _ (List.Mem.tail _ (List.Mem.tail _ (List.Mem.head _)))
    simp only [cellsI, cellsA8z] at g0 g1 g2
    obtain ⟨a0, rfl, b0⟩ := read_i c0 g0
    obtain ⟨a1, rfl, b1⟩ := read_i c1 g1
    obtain ⟨l, hl8, he, hb⟩ := read_array8z g2
    match l, hl8 with
    | [a2, a3, a4, a5, a6, a7, a8, a9], _ =>
      simp at he
      obtain ⟨rfl, rfl, rfl, rfl, rfl, rfl, rfl, rfl⟩ := he
      refine ⟨[a0, a1, a2, a3, a4, a5, a6, a7, a8, a9], fun i => ?_, rfl⟩
      rcases Nat.lt_or_ge i 10 with hi | hi
      · have hm : ([a0, a1, a2, a3, a4, a5, a6, a7, a8, a9] : List Int).getD i 0 ∈ ([a0, a1, a2, a3, a4, a5, a6, a7, a8, a9] : List Int) := by
          rw [List.getD_eq_getElem?_getD, List.getElem?_eq_getElem (by simpa using hi)]
          exact List.getElem_mem _
        generalize ([a0, a1, a2, a3, a4, a5, a6, a7, a8, a9] : List Int).getD i 0 = v at *
        simp only [List.mem_cons, List.not_mem_nil, or_false] at hm hb
        rcases hm with rfl | rfl | hm
        · exact b0
        · exact b1
        · exact hb v hm
      · rw [List.getD_eq_getElem?_getD, List.getElem?_eq_none (by simpa using hi)]
        simp
theorem read_rowz (h : DataW.trod enc Tryd.prog w base sp held n 48 cs = some x) : ∃ y : Rw, okC y.ct ∧ cs = y.cells := by
  obtain ⟨hl, m, hf⟩ := trod_fields Tryd.underlying48 h
  rw [cellsRz] at hl
  match cs, hl with
  | [c0, c1, c2, c3, c4, c5, c6, c7, c8, c9, c10, c11, c12, c13], _ =>
    obtain ⟨_, g0⟩ := hf _ (List.Mem.head _)
    obtain ⟨_, g1⟩ := hf _ (List.Mem.tail _ (List.Mem.head _))
    obtain ⟨_, g2⟩ := hf _ (List.Mem.tail _ (List.Mem.tail _ (List.Mem.head _)))
    obtain ⟨_, g3⟩ := hf _ (List.Mem.tail _ (List.Mem.tail _ (List.Mem.tail _ (List.Mem.head _))))
    obtain ⟨_, g4⟩ := hf _ (List.Mem.tail _ (List.Mem.tail _ (List.Mem.tail _ (List.Mem.tail _ (List.Mem.head _)))))
    simp only [cellsI, cellsSt, cellsCz] at g0 g1 g2 g3 g4
    obtain ⟨a0, rfl, _⟩ := read_i c0 g0
    obtain ⟨a1, rfl, _⟩ := read_i c1 g1
    obtain ⟨a2, rfl, _⟩ := read_s c2 g2
    obtain ⟨a3, rfl, _⟩ := read_s c3 g3
    obtain ⟨l, hl, he⟩ := read_counterz g4
    refine ⟨⟨⟨a0, a1, a2, a3⟩, l⟩, hl, ?_⟩
    have he2 : [c4, c5, c6, c7, c8, c9, c10, c11, c12, c13] = (Cv l).toList := he
    simp only [Cv, List.cons.injEq, and_true] at he2
    obtain ⟨h0, h1, h2, h3, h4, h5, h6, h7, h8, h9⟩ := he2
    subst h0 h1 h2 h3 h4 h5 h6 h7 h8 h9
    rfl
theorem open_rwz {W : World} {v : Value} {d : DataW H} {p : List MemPlace} {r : Reach} {b0 : Nat}
    (hv : Value.okWide Tryd.prog W r b0 22 v) (h : DataW.Trod enc Tryd.prog W base (fun _ => true) true 22 v d p) :
    ∃ (A : Option Addr) (l : List Rw) (n c : Nat), v = .slice A n c ∧ n = l.length ∧ Rd W W.heap.size A (l.flatMap Rw.cells) ∧ okRz l ∧ n ≤ c ∧ (A = none → c = 0) := by
  obtain ⟨a0, len0, cap0, rfl⟩ := okWide_slice Tryd.underlying22 hv
  obtain ⟨fuel, hf⟩ := h
  rcases open_slice Tryd.underlying22 hf with ⟨hcs, _⟩ | ⟨a, len, cap, m, n', D, Pl, hcs, _, hlc, hcm, hm, _, hi⟩
  · simp [Value.cells] at hcs
    obtain ⟨rfl, rfl, rfl⟩ := hcs
    exact ⟨none, [], 0, 0, rfl, rfl, Rd.nil, (fun _ h => by cases h), Nat.le_refl _, fun _ => rfl⟩
  · simp [Value.cells] at hcs
    obtain ⟨rfl, rfl, rfl⟩ := hcs
    rw [cellsRz] at hi
    have hmm : len0 ≤ m := by rw [hm]; split <;> omega
    obtain ⟨l, hl, hp⟩ := choose_list (p := fun i (y : Rw) => (∀ j u, y.cells[j]? = some u → W.cell? (a.add (i * 14 + j)) = some u) ∧ okC y.ct) len0 (fun i hil => by
      obtain ⟨cs', hc, ht⟩ := hi i (by omega)
      obtain ⟨y, hy, rfl⟩ := read_rowz ht
      obtain ⟨_, _, hat⟩ := World.cells?_some hc
      refine ⟨y, fun j u hu => ?_, hy⟩
      have hj : j < 14 := by
        rcases Nat.lt_or_ge j 14 with h | h
        · exact h
        · rw [List.getElem?_eq_none (by rw [rcells_len]; exact h)] at hu; cases hu
      rw [← Go.Proofs.YtkhhcnpmobgdgaaDoor.add_add, hat j hj, hu])
    subst hl
    exact ⟨some a, l, _, cap0, rfl, rfl, rd_rows rcells_len (fun i y hy => (hp i y hy).1), (fun y hy => by
      obtain ⟨i, hi⟩ := List.getElem?_of_mem hy
      exact (hp i y hi).2), hlc, (fun h => by cases h)⟩
end
end Go.Proofs.YtkhhcnpmobgdgaaDoor
