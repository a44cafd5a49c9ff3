/- Blocks: as they lie; as they come in. -/
import Derived.Test.YtmldelgbmadegaaOe
import Derived.Test.YtmldelgbmadegaaCe
namespace Go.Proofs.Ytmldelgbmadegaa
open Go.ChangeShapes Go.WideShapes Go.RowKit Go.Joins Go.Deep
set_option linter.unusedVariables false
set_option linter.unusedSimpArgs false
set_option maxRecDepth 100000

/-- A block as it lies. -/
structure Bl where
  nu : Int
  bo : Int
  ti : Int
  l : List Le
  A : Option Addr
  c : Nat
def Bl.cells (x : Bl) : List Value := [.int .i64 x.nu, .int .i64 x.bo, .int .i64 x.ti, .slice x.A x.l.length x.c]
theorem blcells_len (x : Bl) : x.cells.length = 4 := rfl
structure RdBls (w : World) (B : Nat) (A : Option Addr) (l : List Bl) : Prop where
  rd : Rd w B A (l.flatMap Bl.cells)
  each : ∀ x ∈ l, RdEps w B x.A x.l
theorem RdBls.below {w w' : World} {B : Nat} {A : Option Addr} {l : List Bl} (h : RdBls w B A l) (hb : Below B w w') : RdBls w' B A l := ⟨h.rd.below hb, fun e he => (h.each e he).below hb⟩
theorem RdBls.more {w : World} {B B' : Nat} {A : Option Addr} {l : List Bl} (h : RdBls w B A l) (hB : B ≤ B') : RdBls w B' A l := ⟨h.rd.more hB, fun e he => (h.each e he).more hB⟩
theorem RdBls.nil {w : World} {B : Nat} {A : Option Addr} : RdBls w B A [] := ⟨Rd.nil, fun _ h => by cases h⟩
/-- Its numbers are such as there are. -/
structure Bl.ok (x : Bl) : Prop where
  nu : -9223372036854775808 ≤ x.nu ∧ x.nu ≤ 9223372036854775807
  bo : -9223372036854775808 ≤ x.bo ∧ x.bo ≤ 9223372036854775807
  ti : -9223372036854775808 ≤ x.ti ∧ x.ti ≤ 9223372036854775807
  cap : x.l.length ≤ x.c ∧ x.c ≤ maxLen
  eps : ∀ e ∈ x.l, e.ok
/-- A block's cells, by number. -/
theorem blcells {w : World} {B : Nat} {A : Option Addr} {l : List Bl} (h : RdBls w B A l) {k : Nat} {nu bo ti : Int} {es : List Le} {eA : Option Addr} {ec : Nat} (he : l[k]? = some ⟨nu, bo, ti, es, eA, ec⟩) (m : Nat) (hm : m = es.length) :
    ∃ a, A = some a ∧ a.block < B ∧ w.cell? (a.add (k * 4)) = some (.int .i64 nu) ∧ w.cell? ⟨(a.add (k * 4)).block, (a.add (k * 4)).off + 1, none⟩ = some (.int .i64 bo) ∧ w.cell? ⟨(a.add (k * 4)).block, (a.add (k * 4)).off + 2, none⟩ = some (.int .i64 ti) ∧ w.cell? ⟨(a.add (k * 4)).block, (a.add (k * 4)).off + 3, none⟩ = some (.slice eA m ec) ∧ RdEps w B eA es := by
  have hk : k < l.length := by
    rcases Nat.lt_or_ge k l.length with h | h
    · exact h
    · rw [List.getElem?_eq_none h] at he; cases he
  obtain ⟨a, hA, hb, hc⟩ := h.rd (by rw [flatMap_len _ 4 blcells_len]; omega)
  have hg : ∀ j u, (Bl.mk nu bo ti es eA ec).cells[j]? = some u → w.cell? (a.add (k * 4 + j)) = some u := fun j u hu => by
    refine hc _ u ?_
    have hj : j < 4 := by
      rcases Nat.lt_or_ge j 4 with h | h
      · exact h
      · rw [List.getElem?_eq_none (by rw [blcells_len]; exact h)] at hu; cases hu
    rw [flatMap_at _ 4 blcells_len l k j hj, he]
    exact hu
  have c0 := hg 0 _ rfl
  simp only [Nat.add_zero] at c0
  exact ⟨a, hA, hb, c0, cell_far (hg 1 _ rfl) (by omega), cell_far (hg 2 _ rfl) (by omega), by rw [hm]; exact cell_far (hg 3 _ rfl) (by omega), h.each _ (List.mem_of_getElem? he)⟩

section
variable {H : Type} {enc : TypeId × Value → H}
variable {w : World} {base : Nat} {sp : Nat → Bool} {held : Bool} {n : Nat} {cs : List Value} {x : DataW H × List MemPlace}
theorem cellsBl : Try.prog.cellsOf 24 = 4 := by kernel_rfl
theorem cellsEps : Try.prog.cellsOf 22 = 1 := by kernel_rfl
/-- A cell that holds episodes. -/
theorem read_eps (c : Value) (h : DataW.trod enc Try.prog w base sp held n 22 [c] = some x) : ∃ (A : Option Addr) (k : Nat) (l : List Le), c = .slice A l.length k ∧ RdEps w w.heap.size A l ∧ (∀ e ∈ l, e.ok) ∧ l.length ≤ k ∧ k ≤ maxLen ∧ (l = [] ∨ ∃ (D : Nat → DataW H) (E : List (DataW H)), x.1 = .slice ((List.range l.length).map D) E) := by
  rcases open_slice Try.underlying22 h with ⟨hcs, _⟩ | ⟨a, len, cap, m, n', D, Pl, hcs, _, hlc, hcm, hm, hx, hi⟩
  · simp at hcs
    exact ⟨none, 0, [], hcs, RdEps.nil, by simp, by simp, by simp [maxLen], Or.inl rfl⟩
  · simp at hcs
    rw [cellsE] at hi
    have hmm : len ≤ m := by rw [hm]; split <;> omega
    obtain ⟨l, hl, hp⟩ := choose_list (p := fun i (y : Le) => (∀ j u, y.cells[j]? = some u → w.cell? (a.add (i * 6 + j)) = some u) ∧ RdSps w w.heap.size y.A y.l ∧ y.ok) len (fun i hil => by
      obtain ⟨cs', hc, ht⟩ := hi i (by omega)
      obtain ⟨y, rfl, hy⟩ := read_episode ht
      obtain ⟨_, _, hat⟩ := World.cells?_some hc
      refine ⟨y, fun j u hu => ?_, hy⟩
      have hj : j < 6 := by
        rcases Nat.lt_or_ge j 6 with h | h
        · exact h
        · rw [List.getElem?_eq_none (by rw [ecells_len]; exact h)] at hu; cases hu
      rw [← Go.Proofs.Ytmldelgbmadegaa.add_add, hat j hj, hu])
    subst hl
    exact ⟨some a, cap, l, hcs, ⟨rd_rows ecells_len (fun i y hy => (hp i y hy).1), fun y hy => by
      obtain ⟨i, hi⟩ := List.getElem?_of_mem hy
      exact (hp i y hi).2.1⟩, (fun y hy => by
      obtain ⟨i, hi⟩ := List.getElem?_of_mem hy
      exact (hp i y hi).2.2), hlc, hcm, Or.inr ⟨D, _, by rw [hx]⟩⟩
theorem mapM_mem {α β : Type} {f : α → Option β} : ∀ {l : List α} {r : List β}, l.mapM f = some r → ∀ x ∈ l, ∃ y, y ∈ r ∧ f x = some y
  | [], _, _, x, hx => by cases hx
  | a :: l, r, h, x, hx => by
    rw [List.mapM_cons] at h
    simp only [bind, Option.bind_eq_some_iff, pure, Option.some.injEq] at h
    obtain ⟨y, hy, ys, hys, hr⟩ := h
    subst hr
    rcases List.mem_cons.mp hx with rfl | hx
    · exact ⟨y, by simp, hy⟩
    · obtain ⟨z, hz, hf⟩ := mapM_mem hys x hx
      exact ⟨z, by simp [hz], hf⟩
theorem trod_parts {P : Program} {t : TypeId} {fs : Array Field} (ht : P.underlying t = some (.struct fs)) (h : DataW.trod enc P w base sp held n t cs = some x) :
    cs.length = P.cellsOf t ∧ ∃ m ys, x.1 = .agg ys ∧ ∀ f ∈ fs.toList, ∃ y, y.1 ∈ ys ∧ DataW.trod enc P w base sp held m f.type ((cs.drop f.offset).take (P.cellsOf f.type)) = some y := by
  cases n with
  | zero => simp [DataW.trod] at h
  | succ m =>
    rw [DataW.trod_step] at h
    unfold DataW.trodStep at h
    simp only [ht] at h
    split at h
    · rename_i hl
      simp only [Option.map_eq_some_iff] at h
      obtain ⟨ys, hy, hx⟩ := h
      refine ⟨hl, m, ys.map (·.1), by rw [← hx], fun f hf => ?_⟩
      obtain ⟨y, h1, h2⟩ := mapM_mem hy f hf
      exact ⟨y, List.mem_map_of_mem h1, h2⟩
    · cases h
/-- A datum that says how many. -/
def HasLen (d : DataW H) (n : Nat) : Prop := n = 0 ∨ ∃ (D : Nat → DataW H) (E : List (DataW H)), d = .slice ((List.range n).map D) E
def BlLen (d : DataW H) (n : Nat) : Prop := ∃ ps e, d = .agg ps ∧ e ∈ ps ∧ HasLen e n
theorem read_block (h : DataW.trod enc Try.prog w base sp held n 24 cs = some x) : ∃ y : Bl, cs = y.cells ∧ RdEps w w.heap.size y.A y.l ∧ y.ok ∧ BlLen x.1 y.l.length := by
  obtain ⟨hl, m, ys, hys, hf⟩ := trod_parts Try.underlying24 h
  rw [cellsBl] at hl
  match cs, hl with
  | [c0, c1, c2, c3], _ =>
    obtain ⟨_, _, g0⟩ := hf _ (List.Mem.head _)
    obtain ⟨_, _, g1⟩ := hf _ (List.Mem.tail _ (List.Mem.head _))
    obtain ⟨_, _, g2⟩ := hf _ (List.Mem.tail _ (List.Mem.tail _ (List.Mem.head _)))
    obtain ⟨z, hz, g3⟩ := hf _ (List.Mem.tail _ (List.Mem.tail _ (List.Mem.tail _ (List.Mem.head _))))
    simp only [cellsI, cellsEps] at g0 g1 g2 g3
    obtain ⟨a0, rfl, b0⟩ := read_i c0 g0
    obtain ⟨a1, rfl, b1⟩ := read_i c1 g1
    obtain ⟨a2, rfl, b2⟩ := read_i c2 g2
    obtain ⟨A, k, l, rfl, hr, ho, h1, h2, h3⟩ := read_eps c3 g3
    refine ⟨⟨a0, a1, a2, l, A, k⟩, rfl, hr, ⟨b0, b1, b2, ⟨h1, h2⟩, ho⟩, ys, z.1, hys, hz, ?_⟩
    rcases h3 with rfl | ⟨D, E, h3⟩
    · exact Or.inl rfl
    · exact Or.inr ⟨D, E, h3⟩
theorem open_bl {W : World} {v : Value} {d : DataW H} {p : List MemPlace} {r : Reach} {b0 : Nat}
    (hv : Value.okWide Try.prog W r b0 24 v) (h : DataW.Trod enc Try.prog W base (fun _ => true) true 24 v d p) : ∃ y : Bl, v = .agg y.cells.toArray ∧ RdEps W W.heap.size y.A y.l ∧ y.ok ∧ BlLen d y.l.length := by
  obtain ⟨cs, rfl, hsz⟩ := okWide_struct Try.underlying24 hv
  obtain ⟨fuel, hf⟩ := h
  obtain ⟨y, he, hy, ho, hb⟩ := read_block (cs := cs.toList) (by simpa [Value.cells] using hf)
  exact ⟨y, by congr 1; exact Array.toList_inj.mp (by simpa using he), hy, ho, hb⟩
theorem open_bls {W : World} {v : Value} {d : DataW H} {p : List MemPlace} {r : Reach} {b0 : Nat}
    (hv : Value.okWide Try.prog W r b0 59 v) (h : DataW.Trod enc Try.prog W base (fun _ => true) true 59 v d p) :
    ∃ (A : Option Addr) (l : List Bl) (n c : Nat), v = .slice A n c ∧ n = l.length ∧ RdBls W W.heap.size A l ∧ (∀ e ∈ l, e.ok) ∧ n ≤ c ∧ c ≤ maxLen ∧ (∀ e ∈ l, ∃ els E q, d = .slice els E ∧ q ∈ els ∧ BlLen q e.l.length) := by
  obtain ⟨a0, len0, cap0, rfl⟩ := okWide_slice Try.underlying59 hv
  obtain ⟨fuel, hf⟩ := h
  rcases open_slice Try.underlying59 hf with ⟨hcs, _⟩ | ⟨a, len, cap, m, n', D, Pl, hcs, _, hlc, hcm, hm, hx, hi⟩
  · simp [Value.cells] at hcs
    obtain ⟨rfl, rfl, rfl⟩ := hcs
    exact ⟨none, [], 0, 0, rfl, rfl, RdBls.nil, by simp, by simp, by simp [maxLen], by simp⟩
  · simp [Value.cells] at hcs
    obtain ⟨rfl, rfl, rfl⟩ := hcs
    rw [cellsBl] at hi
    have hmm : len0 ≤ m := by rw [hm]; split <;> omega
    obtain ⟨l, hl, hp⟩ := choose_list (p := fun i (y : Bl) => (∀ j u, y.cells[j]? = some u → W.cell? (a.add (i * 4 + j)) = some u) ∧ RdEps W W.heap.size y.A y.l ∧ y.ok ∧ BlLen (D i) y.l.length) len0 (fun i hil => by
      obtain ⟨cs', hc, ht⟩ := hi i (by omega)
      obtain ⟨y, rfl, hy⟩ := read_block ht
      obtain ⟨_, _, hat⟩ := World.cells?_some hc
      refine ⟨y, fun j u hu => ?_, hy⟩
      have hj : j < 4 := by
        rcases Nat.lt_or_ge j 4 with h | h
        · exact h
        · rw [List.getElem?_eq_none (by rw [blcells_len]; exact h)] at hu; cases hu
      rw [← Go.Proofs.Ytmldelgbmadegaa.add_add, hat j hj, hu])
    have hd := congrArg Prod.fst hx
    simp only at hd
    exact ⟨some a, l, len0, cap0, rfl, hl.symm, ⟨rd_rows blcells_len (fun i y hy => (hp i y hy).1), fun y hy => by
      obtain ⟨i, hi⟩ := List.getElem?_of_mem hy
      exact (hp i y hi).2.1⟩, fun y hy => by
      obtain ⟨i, hi⟩ := List.getElem?_of_mem hy
      exact (hp i y hi).2.2.1, hlc, hcm, fun y hy => by
      obtain ⟨i, hi⟩ := List.getElem?_of_mem hy
      have hil : i < len0 := by
        rcases Nat.lt_or_ge i l.length with h | h
        · omega
        · rw [List.getElem?_eq_none h] at hi; cases hi
      exact ⟨_, _, D i, hd, List.mem_map_of_mem (List.mem_range.2 hil), (hp i y hi).2.2.2⟩⟩
end
end Go.Proofs.Ytmldelgbmadegaa
