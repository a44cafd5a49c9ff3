/- Spans: as they lie in memory, and as they come in. -/
import Derived.Test.YtmldelgbmadegaaBs
import Derived.Test.YtmldelgbmadegaaProg
import Derived.Lib.SmallJoins
import Derived.Deep.Slices
namespace Go.Proofs.Ytmldelgbmadegaa
open Go.ChangeShapes Go.WideShapes Go.RowKit Go.Joins Go.Deep
set_option linter.unusedVariables false
set_option maxRecDepth 100000

/-- What a span says. -/
structure Sp where
  hi : Int
  lo : Int
  id : Int
  pa : Int
  sv : ByteArray
  op : ByteArray
  st : Int
  du : Int
  er : Bool
  ats : List (ByteArray × ByteArray)
/-- A span as it lies: where its attributes are, and their room. -/
structure Ls where
  s : Sp
  aA : Option Addr
  ac : Nat
def atC (a : ByteArray × ByteArray) : List Value := [.string a.1, .string a.2]
/-- A span's ten cells. -/
def Ls.cells (x : Ls) : List Value := [.int .u64 x.s.hi, .int .u64 x.s.lo, .int .u64 x.s.id, .int .u64 x.s.pa, .string x.s.sv, .string x.s.op, .int .i64 x.s.st, .int .i64 x.s.du, .bool x.s.er, .slice x.aA x.s.ats.length x.ac]
/-- Its numbers and texts are such as there are. -/
structure Sp.ok (s : Sp) : Prop where
  hi : 0 ≤ s.hi ∧ s.hi ≤ 18446744073709551615
  lo : 0 ≤ s.lo ∧ s.lo ≤ 18446744073709551615
  id : 0 ≤ s.id ∧ s.id ≤ 18446744073709551615
  pa : 0 ≤ s.pa ∧ s.pa ≤ 18446744073709551615
  sv : s.sv.size ≤ maxLen
  op : s.op.size ≤ maxLen
  st : -9223372036854775808 ≤ s.st ∧ s.st ≤ 9223372036854775807
  du : -9223372036854775808 ≤ s.du ∧ s.du ≤ 9223372036854775807
  ats : s.ats.length ≤ maxLen ∧ ∀ a ∈ s.ats, a.1.size ≤ maxLen ∧ a.2.size ≤ maxLen
/-- Its attributes lie there. -/
structure RdL (w : World) (B : Nat) (x : Ls) : Prop where
  rd : Rd w B x.aA (x.s.ats.flatMap atC)
  cap : x.s.ats.length ≤ x.ac ∧ x.ac ≤ maxLen
  ok : x.s.ok
/-- Spans lie there, one behind the other. -/
structure RdSps (w : World) (B : Nat) (A : Option Addr) (l : List Ls) : Prop where
  rd : Rd w B A (l.flatMap Ls.cells)
  each : ∀ x ∈ l, RdL w B x

theorem flatMap_at {α β : Type} (f : α → List β) (n : Nat) (hn : ∀ x, (f x).length = n) : ∀ (l : List α) (k j : Nat), j < n → (l.flatMap f)[k * n + j]? = (l[k]?).bind fun x => (f x)[j]?
  | [], k, j, _ => by simp
  | x :: l, 0, j, hj => by
    rw [List.flatMap_cons, List.getElem?_append_left (by rw [hn]; omega)]
    simp
  | x :: l, k + 1, j, hj => by
    rw [List.flatMap_cons, List.getElem?_append_right (by rw [hn, Nat.add_mul]; omega), hn, show (k + 1) * n + j - n = k * n + j from by rw [Nat.add_mul]; omega, flatMap_at f n hn l k j hj]
    simp
theorem flatMap_len {α β : Type} (f : α → List β) (n : Nat) (hn : ∀ x, (f x).length = n) (l : List α) : (l.flatMap f).length = l.length * n := by
  induction l with
  | nil => simp
  | cons x l ih => rw [List.flatMap_cons, List.length_append, hn, ih, List.length_cons, Nat.add_mul]; omega
theorem cells_len (x : Ls) : x.cells.length = 10 := rfl
theorem atC_len (a : ByteArray × ByteArray) : (atC a).length = 2 := rfl

section
variable {w w' : World} {B B' : Nat} {A : Option Addr} {l : List Ls} {x : Ls}
theorem RdL.keep (h : RdL w B x) (hk : ∀ p : Addr, p.block < B → w'.cell? p = w.cell? p) : RdL w' B x := ⟨h.rd.keep hk, h.cap, h.ok⟩
theorem RdL.more (h : RdL w B x) (hB : B ≤ B') : RdL w B' x := ⟨h.rd.more hB, h.cap, h.ok⟩
theorem RdL.below (h : RdL w B x) (hb : Below B w w') : RdL w' B x := ⟨h.rd.below hb, h.cap, h.ok⟩
theorem RdSps.keep (h : RdSps w B A l) (hk : ∀ p : Addr, p.block < B → w'.cell? p = w.cell? p) : RdSps w' B A l := ⟨h.rd.keep hk, fun x hx => (h.each x hx).keep hk⟩
theorem RdSps.more (h : RdSps w B A l) (hB : B ≤ B') : RdSps w B' A l := ⟨h.rd.more hB, fun x hx => (h.each x hx).more hB⟩
theorem RdSps.below (h : RdSps w B A l) (hb : Below B w w') : RdSps w' B A l := ⟨h.rd.below hb, fun x hx => (h.each x hx).below hb⟩
theorem RdSps.nil : RdSps w B A [] := ⟨Rd.nil, fun _ h => by cases h⟩
/-- A cell j places behind, as a walk spells it. -/
theorem cell_far {w : World} {a : Addr} {i j : Nat} {v : Value} (h : w.cell? (a.add (i + j)) = some v) (hj : j ≠ 0) : w.cell? ⟨(a.add i).block, (a.add i).off + j, none⟩ = some v := by
  rw [← Go.Proofs.Ytmldelgbmadegaa.add_add] at h
  have e : (a.add i).add j = ⟨(a.add i).block, (a.add i).off + j, none⟩ := by
    generalize a.add i = p
    unfold Addr.add
    rw [if_neg hj]
  rw [← e]; exact h
/-- The k-th one's cells. -/
theorem RdSps.at_ (h : RdSps w B A l) {k : Nat} {x : Ls} (hx : l[k]? = some x) : ∃ a, A = some a ∧ a.block < B ∧ (∀ j u, x.cells[j]? = some u → w.cell? (a.add (k * 10 + j)) = some u) ∧ RdL w B x := by
  have hk : k < l.length := by
    rcases Nat.lt_or_ge k l.length with h | h
    · exact h
    · rw [List.getElem?_eq_none h] at hx; cases hx
  obtain ⟨a, hA, hb, hc⟩ := h.rd (by rw [flatMap_len _ 10 cells_len]; omega)
  refine ⟨a, hA, hb, fun j u hu => hc _ u ?_, h.each x (List.mem_of_getElem? hx)⟩
  have hj : j < 10 := by
    rcases Nat.lt_or_ge j 10 with h | h
    · exact h
    · rw [List.getElem?_eq_none (by rw [cells_len]; exact h)] at hu; cases hu
  rw [flatMap_at _ 10 cells_len l k j hj, hx]
  exact hu
/-- The k-th attribute's cells. -/
theorem RdL.attr (h : RdL w B x) {k : Nat} {y : ByteArray × ByteArray} (hy : x.s.ats[k]? = some y) : ∃ a, x.aA = some a ∧ a.block < B ∧ w.cell? (a.add (k * 2)) = some (.string y.1) ∧ w.cell? (a.add (k * 2 + 1)) = some (.string y.2) ∧ y.1.size ≤ maxLen ∧ y.2.size ≤ maxLen := by
  have hk : k < x.s.ats.length := by
    rcases Nat.lt_or_ge k x.s.ats.length with h | h
    · exact h
    · rw [List.getElem?_eq_none h] at hy; cases hy
  obtain ⟨a, hA, hb, hc⟩ := h.rd (by rw [flatMap_len _ 2 atC_len]; omega)
  have h0 := flatMap_at atC 2 atC_len x.s.ats k 0 (by omega)
  have h1 := flatMap_at atC 2 atC_len x.s.ats k 1 (by omega)
  rw [hy] at h0 h1
  obtain ⟨g1, g2⟩ := h.ok.ats.2 y (List.mem_of_getElem? hy)
  exact ⟨a, hA, hb, hc (k * 2) _ h0, hc _ _ h1, g1, g2⟩
end
theorem cell_lt {w : World} {a : Addr} {v : Value} (h : w.cell? a = some v) : a.block < w.heap.size := by
  rcases Nat.lt_or_ge a.block w.heap.size with h1 | h1
  · exact h1
  · unfold World.cell? at h
    rw [Array.getElem?_eq_none h1] at h
    cases h

section
variable {H : Type} {enc : TypeId × Value → H}
theorem mapM_each {α β : Type} {f : α → Option β} : ∀ {l : List α} {r : List β}, l.mapM f = some r → ∀ x ∈ l, ∃ y, f x = some y
  | [], _, _, x, hx => by cases hx
  | a :: l, r, h, x, hx => by
    rw [List.mapM_cons] at h
    simp only [bind, Option.bind_eq_some_iff, pure, Option.some.injEq] at h
    obtain ⟨y, hy, ys, hys, _⟩ := h
    rcases List.mem_cons.mp hx with rfl | hx
    · exact ⟨y, hy⟩
    · exact mapM_each hys x hx
theorem trod_fields {P : Program} {w : World} {base : Nat} {sp : Nat → Bool} {held : Bool} {n : Nat} {cs : List Value} {x : DataW H × List MemPlace} {t : TypeId} {fs : Array Field} (ht : P.underlying t = some (.struct fs)) (h : DataW.trod enc P w base sp held n t cs = some x) :
    cs.length = P.cellsOf t ∧ ∃ m, ∀ f ∈ fs.toList, ∃ y, DataW.trod enc P w base sp held m f.type ((cs.drop f.offset).take (P.cellsOf f.type)) = some y := by
  cases n with
  | zero => simp [DataW.trod] at h
  | succ m =>
    rw [DataW.trod_step] at h
    unfold DataW.trodStep at h
    simp only [ht] at h
    split at h
    · rename_i hl
      simp only [Option.map_eq_some_iff] at h
      obtain ⟨ys, hy, _⟩ := h
      exact ⟨hl, m, mapM_each hy⟩
    · cases h
variable {w : World} {base : Nat} {sp : Nat → Bool} {held : Bool} {n : Nat} {cs : List Value} {x : DataW H × List MemPlace}
theorem cellsI : Try.prog.cellsOf 3 = 1 := by kernel_rfl
theorem cellsS : Try.prog.cellsOf 71 = 10 := by kernel_rfl
theorem cellsTr : Try.prog.cellsOf 28 = 2 := by kernel_rfl
theorem cellsU : Try.prog.cellsOf 26 = 1 := by kernel_rfl
theorem cellsB : Try.prog.cellsOf 4 = 1 := by kernel_rfl
theorem cellsSt : Try.prog.cellsOf 9 = 1 := by kernel_rfl
theorem cellsAts : Try.prog.cellsOf 69 = 1 := by kernel_rfl
theorem cellsAt : Try.prog.cellsOf 116 = 2 := by kernel_rfl
theorem read_i (c : Value) (h : DataW.trod enc Try.prog w base sp held n 3 [c] = some x) : ∃ a : Int, c = .int .i64 a ∧ -9223372036854775808 ≤ a ∧ a ≤ 9223372036854775807 := by
  obtain ⟨a, ha, _, hw⟩ := DataW.trod_int Try.underlying3 h
  simp at ha
  have := bounds_i64 hw
  exact ⟨a, ha, this.1, this.2⟩
theorem read_u (c : Value) (h : DataW.trod enc Try.prog w base sp held n 26 [c] = some x) : ∃ a : Int, c = .int .u64 a ∧ 0 ≤ a ∧ a ≤ 18446744073709551615 := by
  obtain ⟨a, ha, _, hw⟩ := DataW.trod_int Try.underlying26 h
  simp at ha
  have := bounds_u64 hw
  exact ⟨a, ha, this.1, by have := this.2; omega⟩
theorem read_s (c : Value) (h : DataW.trod enc Try.prog w base sp held n 9 [c] = some x) : ∃ a : ByteArray, c = .string a ∧ a.size ≤ maxLen := by
  obtain ⟨a, ha, _, hs⟩ := DataW.trod_string Try.underlying9 h
  simp at ha
  exact ⟨a, ha, hs⟩
theorem read_attr (h : DataW.trod enc Try.prog w base sp held n 116 cs = some x) : ∃ a : ByteArray × ByteArray, cs = atC a ∧ a.1.size ≤ maxLen ∧ a.2.size ≤ maxLen := by
  obtain ⟨hl, m, hf⟩ := trod_fields Try.underlying116 h
  rw [cellsAt] at hl
  match cs, hl with
  | [c0, c1], _ =>
    obtain ⟨_, g0⟩ := hf _ (List.Mem.head _)
    obtain ⟨_, g1⟩ := hf _ (List.Mem.tail _ (List.Mem.head _))
    simp only [cellsSt] at g0 g1
    obtain ⟨a0, rfl, h0⟩ := read_s c0 g0
    obtain ⟨a1, rfl, h1⟩ := read_s c1 g1
    exact ⟨(a0, a1), rfl, h0, h1⟩
theorem choose_list {α : Type} {p : Nat → α → Prop} : ∀ n, (∀ i, i < n → ∃ a, p i a) → ∃ l : List α, l.length = n ∧ ∀ i a, l[i]? = some a → p i a
  | 0, _ => ⟨[], rfl, fun i a h => by cases h⟩
  | n + 1, h => by
    obtain ⟨l, hl, hp⟩ := choose_list n (fun i hi => h i (by omega))
    obtain ⟨a, ha⟩ := h n (by omega)
    refine ⟨l ++ [a], by simp [hl], fun i b hb => ?_⟩
    rcases Nat.lt_or_ge i l.length with h1 | h1
    · rw [List.getElem?_append_left h1] at hb; exact hp i b hb
    · rw [List.getElem?_append_right h1] at hb
      have : i - l.length = 0 := by
        rcases Nat.eq_zero_or_pos (i - l.length) with h2 | h2
        · exact h2
        · rw [List.getElem?_eq_none (by simp; omega)] at hb; cases hb
      rw [this] at hb
      simp at hb
      subst hb
      rw [show i = n from by omega]; exact ha
/-- Cells that lie one row behind the other. -/
theorem rd_rows {α : Type} {f : α → List Value} {k : Nat} (hk : ∀ x, (f x).length = k) {w : World} {a : Addr} {l : List α} (h : ∀ i x, l[i]? = some x → ∀ j u, (f x)[j]? = some u → w.cell? (a.add (i * k + j)) = some u) : Rd w w.heap.size (some a) (l.flatMap f) := fun hn => by
  have hcell : ∀ j u, (l.flatMap f)[j]? = some u → w.cell? (a.add j) = some u := fun j u hu => by
    have hj : j < l.length * k := by
      rcases Nat.lt_or_ge j (l.length * k) with h1 | h1
      · exact h1
      · rw [List.getElem?_eq_none (by rw [flatMap_len f k hk]; exact h1)] at hu; cases hu
    have hk0 : 0 < k := by
      rcases Nat.eq_zero_or_pos k with h0 | h0
      · subst h0; omega
      · exact h0
    have hdm : j = j / k * k + j % k := by rw [Nat.mul_comm]; exact (Nat.div_add_mod j k).symm
    rw [hdm, flatMap_at f k hk l _ _ (Nat.mod_lt _ hk0)] at hu
    cases hx : l[j / k]? with
    | none => rw [hx] at hu; cases hu
    | some x =>
      rw [hx] at hu
      have := h _ x hx _ u hu
      rw [← hdm] at this
      exact this
  refine ⟨a, rfl, ?_, hcell⟩
  have h0 := hcell 0 _ (List.getElem?_eq_getElem hn)
  have := cell_lt h0
  rwa [block_add] at this
theorem read_attrs (c : Value) (h : DataW.trod enc Try.prog w base sp held n 69 [c] = some x) : ∃ (aA : Option Addr) (ac : Nat) (l : List (ByteArray × ByteArray)), c = .slice aA l.length ac ∧ Rd w w.heap.size aA (l.flatMap atC) ∧ l.length ≤ ac ∧ ac ≤ maxLen ∧ ∀ a ∈ l, a.1.size ≤ maxLen ∧ a.2.size ≤ maxLen := by
  rcases open_slice Try.underlying69 h with ⟨hcs, _⟩ | ⟨a, len, cap, m, n', D, Pl, hcs, _, hlc, hcm, hm, _, hi⟩
  · simp at hcs
    exact ⟨none, 0, [], hcs, Rd.nil, by simp, by simp [maxLen], by simp⟩
  · simp at hcs
    rw [cellsAt] at hi
    have hmm : len ≤ m := by rw [hm]; split <;> omega
    obtain ⟨l, hl, hp⟩ := choose_list (p := fun i (y : ByteArray × ByteArray) => (∀ j u, (atC y)[j]? = some u → w.cell? (a.add (i * 2 + j)) = some u) ∧ y.1.size ≤ maxLen ∧ y.2.size ≤ maxLen) len (fun i hil => by
      obtain ⟨cs', hc, ht⟩ := hi i (by omega)
      obtain ⟨y, rfl, h1, h2⟩ := read_attr ht
      obtain ⟨_, _, hat⟩ := World.cells?_some hc
      refine ⟨y, fun j u hu => ?_, h1, h2⟩
      have hj : j < 2 := by
        rcases Nat.lt_or_ge j 2 with h | h
        · exact h
        · rw [List.getElem?_eq_none (by rw [atC_len]; exact h)] at hu; cases hu
      rw [← Go.Proofs.Ytmldelgbmadegaa.add_add, hat j hj, hu])
    subst hl
    exact ⟨some a, cap, l, hcs, rd_rows atC_len (fun i y hy => (hp i y hy).1), hlc, hcm, fun y hy => by
      obtain ⟨i, hi⟩ := List.getElem?_of_mem hy
      exact (hp i y hi).2⟩
theorem read_span (h : DataW.trod enc Try.prog w base sp held n 71 cs = some x) : ∃ y : Ls, cs = y.cells ∧ RdL w w.heap.size y := by
  obtain ⟨hl, m, hf⟩ := trod_fields Try.underlying71 h
  rw [cellsS] at hl
  match cs, hl with
  | [c0, c1, c2, c3, c4, c5, c6, c7, c8, c9], _ =>
    obtain ⟨_, g0⟩ := hf _ (List.Mem.head _)
    obtain ⟨_, g1⟩ := hf _ (List.Mem.tail _ (List.Mem.head _))
    obtain ⟨_, g2⟩ := hf _ (List.Mem.tail _ (List.Mem.tail _ (List.Mem.head _)))
    obtain ⟨_, g3⟩ := hf _ (List.Mem.tail _ (List.Mem.tail _ (List.Mem.tail _ (List.Mem.head _))))
    obtain ⟨_, g4⟩ := hf _ (List.Mem.tail _ (List.Mem.tail _ (List.Mem.tail _ (List.Mem.tail _ (List.Mem.head _)))))
    obtain ⟨_, g5⟩ := hf _ (List.Mem.tail _ (List.Mem.tail _ (List.Mem.tail _ (List.Mem.tail _ (List.Mem.tail _ (List.Mem.head _))))))
    obtain ⟨_, g6⟩ := hf _ (List.Mem.tail _ (List.Mem.tail _ (List.Mem.tail _ (List.Mem.tail _ (List.Mem.tail _ (List.Mem.tail _ (List.Mem.head _)))))))
    obtain ⟨_, g7⟩ := hf _ (List.Mem.tail _ (List.Mem.tail _ (List.Mem.tail _ (List.Mem.tail _ (List.Mem.tail _ (List.Mem.tail _ (List.Mem.tail _ (List.Mem.head _))))))))
    obtain ⟨_, g8⟩ := hf _ (List.Mem.tail _ (List.Mem.tail _ (List.Mem.tail _ (List.Mem.tail _ (List.Mem.tail _ (List.Mem.tail _ (List.Mem.tail _ (List.Mem.tail _ (List.Mem.head _)))))))))
    simp only [cellsI, cellsU, cellsTr, cellsB, cellsSt, cellsAts] at g0 g1 g2 g3 g4 g5 g6 g7 g8
    obtain ⟨_, m2, hf2⟩ := trod_fields Try.underlying28 g0
    obtain ⟨_, k0⟩ := hf2 _ (List.Mem.head _)
    obtain ⟨_, k1⟩ := hf2 _ (List.Mem.tail _ (List.Mem.head _))
    simp only [cellsU] at k0 k1
    obtain ⟨a0, rfl, b0⟩ := read_u c0 k0
    obtain ⟨a1, rfl, b1⟩ := read_u c1 k1
    obtain ⟨a2, rfl, b2⟩ := read_u c2 g1
    obtain ⟨a3, rfl, b3⟩ := read_u c3 g2
    obtain ⟨a4, rfl, b4⟩ := read_s c4 g3
    obtain ⟨a5, rfl, b5⟩ := read_s c5 g4
    obtain ⟨a6, rfl, b6⟩ := read_i c6 g5
    obtain ⟨a7, rfl, b7⟩ := read_i c7 g6
    obtain ⟨a8, e8, _⟩ := DataW.trod_bool Try.underlying4 g7
    obtain ⟨aA, ac, l, rfl, hrd, hlc, hcm, hok⟩ := read_attrs c9 g8
    simp at e8
    subst e8
    exact ⟨⟨⟨a0, a1, a2, a3, a4, a5, a6, a7, a8, l⟩, aA, ac⟩, rfl, hrd, ⟨hlc, hcm⟩, ⟨b0, b1, b2, b3, b4, b5, b6, b7, Nat.le_trans hlc hcm, hok⟩⟩
theorem open_span {W : World} {v : Value} {d : DataW H} {p : List MemPlace} {r : Reach} {b0 : Nat}
    (hv : Value.okWide Try.prog W r b0 71 v) (h : DataW.Trod enc Try.prog W base (fun _ => true) true 71 v d p) : ∃ y : Ls, v = .agg y.cells.toArray ∧ RdL W W.heap.size y := by
  obtain ⟨cs, rfl, hsz⟩ := okWide_struct Try.underlying71 hv
  obtain ⟨fuel, hf⟩ := h
  obtain ⟨y, he, hy⟩ := read_span (cs := cs.toList) (by simpa [Value.cells] using hf)
  exact ⟨y, by congr 1; exact Array.toList_inj.mp (by simpa using he), hy⟩
theorem open_spans {W : World} {v : Value} {d : DataW H} {p : List MemPlace} {r : Reach} {b0 : Nat}
    (hv : Value.okWide Try.prog W r b0 46 v) (h : DataW.Trod enc Try.prog W base (fun _ => true) true 46 v d p) :
    ∃ (A : Option Addr) (l : List Ls) (c : Nat), v = .slice A l.length c ∧ RdSps W W.heap.size A l ∧ l.length ≤ c ∧ c ≤ maxLen := by
  obtain ⟨a0, len0, cap0, rfl⟩ := okWide_slice Try.underlying46 hv
  obtain ⟨fuel, hf⟩ := h
  rcases open_slice Try.underlying46 hf with ⟨hcs, _⟩ | ⟨a, len, cap, m, n', D, Pl, hcs, _, hlc, hcm, hm, _, hi⟩
  · simp [Value.cells] at hcs
    obtain ⟨rfl, rfl, rfl⟩ := hcs
    exact ⟨none, [], 0, rfl, RdSps.nil, by simp, by simp [maxLen]⟩
  · simp [Value.cells] at hcs
    obtain ⟨rfl, rfl, rfl⟩ := hcs
    rw [cellsS] at hi
    have hmm : len0 ≤ m := by rw [hm]; split <;> omega
    obtain ⟨l, hl, hp⟩ := choose_list (p := fun i (y : Ls) => (∀ j u, y.cells[j]? = some u → W.cell? (a.add (i * 10 + j)) = some u) ∧ RdL W W.heap.size y) len0 (fun i hil => by
      obtain ⟨cs', hc, ht⟩ := hi i (by omega)
      obtain ⟨y, rfl, hy⟩ := read_span ht
      obtain ⟨_, _, hat⟩ := World.cells?_some hc
      refine ⟨y, fun j u hu => ?_, hy⟩
      have hj : j < 10 := by
        rcases Nat.lt_or_ge j 10 with h | h
        · exact h
        · rw [List.getElem?_eq_none (by rw [cells_len]; exact h)] at hu; cases hu
      rw [← Go.Proofs.Ytmldelgbmadegaa.add_add, hat j hj, hu])
    subst hl
    exact ⟨some a, l, cap0, rfl, ⟨rd_rows cells_len (fun i y hy => (hp i y hy).1), fun y hy => by
      obtain ⟨i, hi⟩ := List.getElem?_of_mem hy
      exact (hp i y hi).2⟩, hlc, hcm⟩
theorem open_spansN {W : World} {v : Value} {d : DataW H} {p : List MemPlace} {r : Reach} {b0 : Nat}
    (hv : Value.okWide Try.prog W r b0 46 v) (h : DataW.Trod enc Try.prog W base (fun _ => true) true 46 v d p) :
    ∃ (A : Option Addr) (l : List Ls) (n c : Nat), v = .slice A n c ∧ n = l.length ∧ RdSps W W.heap.size A l ∧ n ≤ c ∧ c ≤ maxLen := by
  obtain ⟨A, l, c, hv, hr, h1, h2⟩ := open_spans hv h
  exact ⟨A, l, _, c, hv, rfl, hr, h1, h2⟩
theorem open_trace2 {W : World} {v : Value} {d : DataW H} {p : List MemPlace} {r : Reach} {b0 : Nat}
    (hv : Value.okWide Try.prog W r b0 28 v) (h : DataW.Trod enc Try.prog W base (fun _ => true) true 28 v d p) :
    ∃ hi lo : Nat, v = .agg #[.int .u64 hi, .int .u64 lo] ∧ (hi < 18446744073709551616 ∧ lo < 18446744073709551616) := by
  obtain ⟨cs, rfl, hsz⟩ := okWide_struct Try.underlying28 hv
  obtain ⟨fuel, hf⟩ := h
  obtain ⟨cs⟩ := cs
  obtain ⟨hl, m, hf2⟩ := trod_fields (cs := cs) Try.underlying28 (by simpa [Value.cells] using hf)
  rw [cellsTr] at hl
  match cs, hl with
  | [c0, c1], _ =>
    obtain ⟨_, k0⟩ := hf2 _ (List.Mem.head _)
    obtain ⟨_, k1⟩ := hf2 _ (List.Mem.tail _ (List.Mem.head _))
    simp only [cellsU] at k0 k1
    obtain ⟨a0, rfl, b0, b0'⟩ := read_u c0 k0
    obtain ⟨a1, rfl, b1, b1'⟩ := read_u c1 k1
    obtain ⟨a0, rfl⟩ := Int.eq_ofNat_of_zero_le b0
    obtain ⟨a1, rfl⟩ := Int.eq_ofNat_of_zero_le b1
    exact ⟨a0, a1, rfl, by omega, by omega⟩
end
end Go.Proofs.Ytmldelgbmadegaa
