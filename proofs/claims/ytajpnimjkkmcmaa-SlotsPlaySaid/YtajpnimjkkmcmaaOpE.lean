/- Exemplars and calls on them that come in. -/
import Derived.Test.YtajpnimjkkmcmaaZm
namespace Go.Proofs.Ytajpnimjkkmcmaa
open Go.ChangeShapes Go.WideShapes Go.RowKit Go.Joins Go.Deep
set_option linter.unusedVariables false
set_option maxRecDepth 100000

/-- A call: which, and its arguments as they lie. -/
structure La where
  wy : Int
  bk : Int
  to : Int
  l : List Ex
  A : Option Addr
  c : Nat
def La.cells (x : La) : List Value := [.int .i64 x.wy, .int .i64 x.bk, .int .i64 x.to, .slice x.A x.l.length x.c]
theorem acells_len (x : La) : x.cells.length = 4 := rfl
structure RdActs (w : World) (B : Nat) (A : Option Addr) (l : List La) : Prop where
  rd : Rd w B A (l.flatMap La.cells)
  each : ∀ x ∈ l, Rd w B x.A (x.l.flatMap Ex.cells)
theorem RdActs.below {w w' : World} {B : Nat} {A : Option Addr} {l : List La} (h : RdActs w B A l) (hb : Below B w w') : RdActs w' B A l := ⟨h.rd.below hb, fun x hx => (h.each x hx).below hb⟩
theorem act_at {w : World} {B : Nat} {A : Option Addr} {l : List La} (h : RdActs w B A l) {k : Nat} {x : La} (hx : l[k]? = some x) : ∃ a, A = some a ∧ a.block < B ∧ (∀ j u, x.cells[j]? = some u → w.cell? (a.add (k * 4 + j)) = some u) ∧ Rd w B x.A (x.l.flatMap Ex.cells) := by
  have hk : k < l.length := by
    rcases Nat.lt_or_ge k l.length with h | h
    · exact h
    · rw [List.getElem?_eq_none h] at hx; cases hx
  obtain ⟨a, hA, hb, hc⟩ := h.rd (by rw [flatMap_len _ 4 acells_len]; omega)
  refine ⟨a, hA, hb, fun j u hu => hc _ u ?_, h.each x (List.mem_of_getElem? hx)⟩
  have hj : j < 4 := by
    rcases Nat.lt_or_ge j 4 with h | h
    · exact h
    · rw [List.getElem?_eq_none (by rw [acells_len]; exact h)] at hu; cases hu
  rw [flatMap_at _ 4 acells_len l k j hj, hx]
  exact hu
section
variable {H : Type} {enc : TypeId × Value → H} {w : World} {base : Nat} {sp : Nat → Bool} {held : Bool} {n : Nat} {cs : List Value} {x : DataW H × List MemPlace}
theorem cellsEx : Try.prog.cellsOf 38 = 6 := by kernel_rfl
theorem cellsExs : Try.prog.cellsOf 24 = 1 := by kernel_rfl
theorem read_ex (h : DataW.trod enc Try.prog w base sp held n 38 cs = some x) : ∃ y : Ex, cs = y.cells := by
  obtain ⟨hl, m, hf⟩ := trod_fields Try.underlying38 h
  rw [cellsEx] at hl
  match cs, hl with
  | [c0, c1, c2, c3, c4, c5], _ =>
    obtain ⟨_, g0⟩ := hf _ (List.Mem.head _)
    obtain ⟨_, g1⟩ := hf _ (List.Mem.tail _ (List.Mem.head _))
    obtain ⟨_, g2⟩ := hf _ (List.Mem.tail _ (List.Mem.tail _ (List.Mem.head _)))
    obtain ⟨_, g3⟩ := hf _ (List.Mem.tail _ (List.Mem.tail _ (List.Mem.tail _ (List.Mem.head _))))
    obtain ⟨_, g4⟩ := hf _ (List.Mem.tail _ (List.Mem.tail _ (List.Mem.tail _ (List.Mem.tail _ (List.Mem.head _)))))
    simp only [cellsI, cellsU, cellsTr, cellsSt] at g0 g1 g2 g3 g4
    obtain ⟨_, m2, hf2⟩ := trod_fields Try.underlying36 g2
    obtain ⟨_, k0⟩ := hf2 _ (List.Mem.head _)
    obtain ⟨_, k1⟩ := hf2 _ (List.Mem.tail _ (List.Mem.head _))
    simp only [cellsU] at k0 k1
    obtain ⟨a0, rfl, _⟩ := read_s c0 g0
    obtain ⟨a1, rfl, _⟩ := read_s c1 g1
    obtain ⟨a2, rfl, _⟩ := read_u c2 k0
    obtain ⟨a3, rfl, _⟩ := read_u c3 k1
    obtain ⟨a4, rfl, _⟩ := read_u c4 g3
    obtain ⟨a5, rfl, _⟩ := read_i c5 g4
    exact ⟨⟨a0, a1, a2, a3, a4, a5⟩, rfl⟩
theorem read_exs (c : Value) (h : DataW.trod enc Try.prog w base sp held n 24 [c] = some x) : ∃ (aA : Option Addr) (ac : Nat) (l : List Ex), c = .slice aA l.length ac ∧ Rd w w.heap.size aA (l.flatMap Ex.cells) := by
  rcases open_slice Try.underlying24 h with ⟨hcs, _⟩ | ⟨a, len, cap, m, n', D, Pl, hcs, _, hlc, hcm, hm, _, hi⟩
  · simp at hcs
    exact ⟨none, 0, [], hcs, Rd.nil⟩
  · simp at hcs
    rw [cellsEx] at hi
    have hmm : len ≤ m := by rw [hm]; split <;> omega
    obtain ⟨l, hl, hp⟩ := choose_list (p := fun i (y : Ex) => (∀ j u, (Ex.cells y)[j]? = some u → w.cell? (a.add (i * 6 + j)) = some u)) len (fun i hil => by
      obtain ⟨cs', hc, ht⟩ := hi i (by omega)
      obtain ⟨y, rfl⟩ := read_ex ht
      obtain ⟨_, _, hat⟩ := World.cells?_some hc
      refine ⟨y, fun j u hu => ?_⟩
      have hj : j < 6 := by
        rcases Nat.lt_or_ge j 6 with h | h
        · exact h
        · rw [List.getElem?_eq_none (by rw [xcells_len]; exact h)] at hu; cases hu
      rw [← Go.Proofs.Ytajpnimjkkmcmaa.add_add, hat j hj, hu])
    subst hl
    exact ⟨some a, cap, l, hcs, rd_rows xcells_len (fun i y hy => hp i y hy)⟩
theorem open_exs {W : World} {v : Value} {d : DataW H} {p : List MemPlace} {r : Reach} {b0 : Nat}
    (hv : Value.okWide Try.prog W r b0 24 v) (h : DataW.Trod enc Try.prog W base (fun _ => true) true 24 v d p) :
    ∃ (A : Option Addr) (l : List Ex) (n c : Nat), v = .slice A n c ∧ n = l.length ∧ Rd W W.heap.size A (l.flatMap Ex.cells) := by
  obtain ⟨a0, len0, cap0, rfl⟩ := okWide_slice Try.underlying24 hv
  obtain ⟨fuel, hf⟩ := h
  obtain ⟨A, c, l, hc, hr⟩ := read_exs (.slice a0 len0 cap0) (by simpa [Value.cells] using hf)
  injection hc with h1 h2 h3
  subst h1 h2 h3
  exact ⟨_, l, _, _, rfl, rfl, hr⟩
end
section
variable {H : Type} {enc : TypeId × Value → H} {w : World} {base : Nat} {sp : Nat → Bool} {held : Bool} {n : Nat} {cs : List Value} {x : DataW H × List MemPlace}
theorem cellsAc : Try.prog.cellsOf 26 = 4 := by kernel_rfl
theorem read_act (h : DataW.trod enc Try.prog w base sp held n 26 cs = some x) : ∃ y : La, cs = y.cells ∧ Rd w w.heap.size y.A (y.l.flatMap Ex.cells) := by
  obtain ⟨hl, m, hf⟩ := trod_fields Try.underlying26 h
  rw [cellsAc] at hl
  match cs, hl with
  | [c0, c1, c2, c3], _ =>
    obtain ⟨_, g0⟩ := hf _ (List.Mem.head _)
    obtain ⟨_, g1⟩ := hf _ (List.Mem.tail _ (List.Mem.head _))
    obtain ⟨_, g2⟩ := hf _ (List.Mem.tail _ (List.Mem.tail _ (List.Mem.head _)))
    obtain ⟨_, g3⟩ := hf _ (List.Mem.tail _ (List.Mem.tail _ (List.Mem.tail _ (List.Mem.head _))))
    simp only [cellsI, cellsExs] at g0 g1 g2 g3
    obtain ⟨a0, rfl, _⟩ := read_i c0 g0
    obtain ⟨a1, rfl, _⟩ := read_i c1 g1
    obtain ⟨a2, rfl, _⟩ := read_i c2 g2
    obtain ⟨aA, ac, l, rfl, hr⟩ := read_exs c3 g3
    exact ⟨⟨a0, a1, a2, l, aA, ac⟩, rfl, hr⟩
theorem open_acts {W : World} {v : Value} {d : DataW H} {p : List MemPlace} {r : Reach} {b0 : Nat}
    (hv : Value.okWide Try.prog W r b0 22 v) (h : DataW.Trod enc Try.prog W base (fun _ => true) true 22 v d p) :
    ∃ (A : Option Addr) (l : List La) (n c : Nat), v = .slice A n c ∧ n = l.length ∧ RdActs W W.heap.size A l := by
  obtain ⟨a0, len0, cap0, rfl⟩ := okWide_slice Try.underlying22 hv
  obtain ⟨fuel, hf⟩ := h
  rcases open_slice Try.underlying22 hf with ⟨hcs, _⟩ | ⟨a, len, cap, m, n', D, Pl, hcs, _, hlc, hcm, hm, _, hi⟩
  · simp [Value.cells] at hcs
    obtain ⟨rfl, rfl, rfl⟩ := hcs
    exact ⟨none, [], 0, 0, rfl, rfl, Rd.nil, fun _ h => by cases h⟩
  · simp [Value.cells] at hcs
    obtain ⟨rfl, rfl, rfl⟩ := hcs
    rw [cellsAc] at hi
    have hmm : len0 ≤ m := by rw [hm]; split <;> omega
    obtain ⟨l, hl, hp⟩ := choose_list (p := fun i (y : La) => (∀ j u, y.cells[j]? = some u → W.cell? (a.add (i * 4 + j)) = some u) ∧ Rd W W.heap.size y.A (y.l.flatMap Ex.cells)) len0 (fun i hil => by
      obtain ⟨cs', hc, ht⟩ := hi i (by omega)
      obtain ⟨y, rfl, hy⟩ := read_act ht
      obtain ⟨_, _, hat⟩ := World.cells?_some hc
      refine ⟨y, fun j u hu => ?_, hy⟩
      have hj : j < 4 := by
        rcases Nat.lt_or_ge j 4 with h | h
        · exact h
        · rw [List.getElem?_eq_none (by rw [acells_len]; exact h)] at hu; cases hu
      rw [← Go.Proofs.Ytajpnimjkkmcmaa.add_add, hat j hj, hu])
    subst hl
    exact ⟨some a, l, _, cap0, rfl, rfl, rd_rows acells_len (fun i y hy => (hp i y hy).1), fun y hy => by
      obtain ⟨i, hi⟩ := List.getElem?_of_mem hy
      exact (hp i y hi).2⟩
end
end Go.Proofs.Ytajpnimjkkmcmaa
