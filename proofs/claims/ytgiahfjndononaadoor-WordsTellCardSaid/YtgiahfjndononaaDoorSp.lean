/- Spans: as they lie in memory, and as they come in. -/
import Derived.Test.YtgiahfjndononaaDoorBs
import Derived.Test.YtgiahfjndononaaDoorProg
import Derived.Lib.SmallJoins
import Derived.Deep.Slices
namespace Go.Proofs.YtgiahfjndononaaDoor
open Go.ChangeShapes Go.WideShapes Go.RowKit Go.Joins Go.Deep
set_option linter.unusedVariables false
set_option maxRecDepth 100000

/-- What a span says. -/
structure Sp where
  hi : Int
  lo : Int
  id : Int
  pa : Int
  sv : ByteArray
  op : ByteArray
  st : Int
  du : Int
  er : Bool
  ats : List (ByteArray × ByteArray)
/-- A span as it lies: where its attributes are, and their room. -/
structure Ls where
  s : Sp
  aA : Option Addr
  ac : Nat
def atC (a : ByteArray × ByteArray) : List Value := [.string a.1, .string a.2]
/-- A span's ten cells. -/
def Ls.cells (x : Ls) : List Value := [.int .u64 x.s.hi, .int .u64 x.s.lo, .int .u64 x.s.id, .int .u64 x.s.pa, .string x.s.sv, .string x.s.op, .int .i64 x.s.st, .int .i64 x.s.du, .bool x.s.er, .slice x.aA x.s.ats.length x.ac]
/-- Its numbers and texts are such as there are. -/
structure Sp.ok (s : Sp) : Prop where
  hi : 0 ≤ s.hi ∧ s.hi ≤ 18446744073709551615
  lo : 0 ≤ s.lo ∧ s.lo ≤ 18446744073709551615
  id : 0 ≤ s.id ∧ s.id ≤ 18446744073709551615
  pa : 0 ≤ s.pa ∧ s.pa ≤ 18446744073709551615
  sv : s.sv.size ≤ maxLen
  op : s.op.size ≤ maxLen
  st : -9223372036854775808 ≤ s.st ∧ s.st ≤ 9223372036854775807
  du : -9223372036854775808 ≤ s.du ∧ s.du ≤ 9223372036854775807
  ats : s.ats.length ≤ maxLen ∧ ∀ a ∈ s.ats, a.1.size ≤ maxLen ∧ a.2.size ≤ maxLen
/-- Its attributes lie there. -/
structure RdL (w : World) (B : Nat) (x : Ls) : Prop where
  rd : Rd w B x.aA (x.s.ats.flatMap atC)
  cap : x.s.ats.length ≤ x.ac ∧ x.ac ≤ maxLen
  ok : x.s.ok
/-- Spans lie there, one behind the other. -/
structure RdSps (w : World) (B : Nat) (A : Option Addr) (l : List Ls) : Prop where
  rd : Rd w B A (l.flatMap Ls.cells)
  each : ∀ x ∈ l, RdL w B x

theorem flatMap_at {α β : Type} (f : α → List β) (n : Nat) (hn : ∀ x, (f x).length = n) : ∀ (l : List α) (k j : Nat), j < n → (l.flatMap f)[k * n + j]? = (l[k]?).bind fun x => (f x)[j]?
  | [], k, j, _ => by simp
  | x :: l, 0, j, hj => by
    rw [List.flatMap_cons, List.getElem?_append_left (by rw [hn]; omega)]
    simp
  | x :: l, k + 1, j, hj => by
    rw [List.flatMap_cons, List.getElem?_append_right (by rw [hn, Nat.add_mul]; omega), hn, show (k + 1) * n + j - n = k * n + j from by rw [Nat.add_mul]; omega, flatMap_at f n hn l k j hj]
    simp
theorem flatMap_len {α β : Type} (f : α → List β) (n : Nat) (hn : ∀ x, (f x).length = n) (l : List α) : (l.flatMap f).length = l.length * n := by
  induction l with
  | nil => simp
  | cons x l ih => rw [List.flatMap_cons, List.length_append, hn, ih, List.length_cons, Nat.add_mul]; omega
theorem cells_len (x : Ls) : x.cells.length = 10 := rfl
theorem atC_len (a : ByteArray × ByteArray) : (atC a).length = 2 := rfl

section
variable {w w' : World} {B B' : Nat} {A : Option Addr} {l : List Ls} {x : Ls}
theorem RdL.keep (h : RdL w B x) (hk : ∀ p : Addr, p.block < B → w'.cell? p = w.cell? p) : RdL w' B x := ⟨h.rd.keep hk, h.cap, h.ok⟩
theorem RdL.more (h : RdL w B x) (hB : B ≤ B') : RdL w B' x := ⟨h.rd.more hB, h.cap, h.ok⟩
theorem RdL.below (h : RdL w B x) (hb : Below B w w') : RdL w' B x := ⟨h.rd.below hb, h.cap, h.ok⟩
theorem RdSps.keep (h : RdSps w B A l) (hk : ∀ p : Addr, p.block < B → w'.cell? p = w.cell? p) : RdSps w' B A l := ⟨h.rd.keep hk, fun x hx => (h.each x hx).keep hk⟩
theorem RdSps.more (h : RdSps w B A l) (hB : B ≤ B') : RdSps w B' A l := ⟨h.rd.more hB, fun x hx => (h.each x hx).more hB⟩
theorem RdSps.below (h : RdSps w B A l) (hb : Below B w w') : RdSps w' B A l := ⟨h.rd.below hb, fun x hx => (h.each x hx).below hb⟩
theorem RdSps.nil : RdSps w B A [] := ⟨Rd.nil, fun _ h => by cases h⟩
/-- A cell j places behind, as a walk spells it. -/
theorem cell_far {w : World} {a : Addr} {i j : Nat} {v : Value} (h : w.cell? (a.add (i + j)) = some v) (hj : j ≠ 0) : w.cell? ⟨(a.add i).block, (a.add i).off + j, none⟩ = some v := by
  rw [← Go.Proofs.YtgiahfjndononaaDoor.add_add] at h
  have e : (a.add i).add j = ⟨(a.add i).block, (a.add i).off + j, none⟩ := by
    generalize a.add i = p
    unfold Addr.add
    rw [if_neg hj]
  rw [← e]; exact h
/-- The k-th one's cells. -/
theorem RdSps.at_ (h : RdSps w B A l) {k : Nat} {x : Ls} (hx : l[k]? = some x) : ∃ a, A = some a ∧ a.block < B ∧ (∀ j u, x.cells[j]? = some u → w.cell? (a.add (k * 10 + j)) = some u) ∧ RdL w B x := by
  have hk : k < l.length := by
    rcases Nat.lt_or_ge k l.length with h | h
    · exact h
    · rw [List.getElem?_eq_none h] at hx; cases hx
  obtain ⟨a, hA, hb, hc⟩ := h.rd (by rw [flatMap_len _ 10 cells_len]; omega)
  refine ⟨a, hA, hb, fun j u hu => hc _ u ?_, h.each x (List.mem_of_getElem? hx)⟩
  have hj : j < 10 := by
    rcases Nat.lt_or_ge j 10 with h | h
    · exact h
    · rw [List.getElem?_eq_none (by rw [cells_len]; exact h)] at hu; cases hu
  rw [flatMap_at _ 10 cells_len l k j hj, hx]
  exact hu
/-- The k-th attribute's cells. -/
theorem RdL.attr (h : RdL w B x) {k : Nat} {y : ByteArray × ByteArray} (hy : x.s.ats[k]? = some y) : ∃ a, x.aA = some a ∧ a.block < B ∧ w.cell? (a.add (k * 2)) = some (.string y.1) ∧ w.cell? (a.add (k * 2 + 1)) = some (.string y.2) ∧ y.1.size ≤ maxLen ∧ y.2.size ≤ maxLen := by
  have hk : k < x.s.ats.length := by
    rcases Nat.lt_or_ge k x.s.ats.length with h | h
    · exact h
    · rw [List.getElem?_eq_none h] at hy; cases hy
  obtain ⟨a, hA, hb, hc⟩ := h.rd (by rw [flatMap_len _ 2 atC_len]; omega)
  have h0 := flatMap_at atC 2 atC_len x.s.ats k 0 (by omega)
  have h1 := flatMap_at atC 2 atC_len x.s.ats k 1 (by omega)
  rw [hy] at h0 h1
  obtain ⟨g1, g2⟩ := h.ok.ats.2 y (List.mem_of_getElem? hy)
  exact ⟨a, hA, hb, hc (k * 2) _ h0, hc _ _ h1, g1, g2⟩
end
theorem cell_lt {w : World} {a : Addr} {v : Value} (h : w.cell? a = some v) : a.block < w.heap.size := by
  rcases Nat.lt_or_ge a.block w.heap.size with h1 | h1
  · exact h1
  · unfold World.cell? at h
    rw [Array.getElem?_eq_none h1] at h
    cases h

section
variable {H : Type} {enc : TypeId × Value → H}
theorem mapM_each {α β : Type} {f : α → Option β} : ∀ {l : List α} {r : List β}, l.mapM f = some r → ∀ x ∈ l, ∃ y, f x = some y
  | [], _, _, x, hx => by cases hx
  | a :: l, r, h, x, hx => by
    rw [List.mapM_cons] at h
    simp only [bind, Option.bind_eq_some_iff, pure, Option.some.injEq] at h
    obtain ⟨y, hy, ys, hys, _⟩ := h
    rcases List.mem_cons.mp hx with rfl | hx
    · exact ⟨y, hy⟩
    · exact mapM_each hys x hx
theorem trod_fields {P : Program} {w : World} {base : Nat} {sp : Nat → Bool} {held : Bool} {n : Nat} {cs : List Value} {x : DataW H × List MemPlace} {t : TypeId} {fs : Array Field} (ht : P.underlying t = some (.struct fs)) (h : DataW.trod enc P w base sp held n t cs = some x) :
    cs.length = P.cellsOf t ∧ ∃ m, ∀ f ∈ fs.toList, ∃ y, DataW.trod enc P w base sp held m f.type ((cs.drop f.offset).take (P.cellsOf f.type)) = some y := by
  cases n with
  | zero => simp [DataW.trod] at h
  | succ m =>
    rw [DataW.trod_step] at h
    unfold DataW.trodStep at h
    simp only [ht] at h
    split at h
    · rename_i hl
      simp only [Option.map_eq_some_iff] at h
      obtain ⟨ys, hy, _⟩ := h
      exact ⟨hl, m, mapM_each hy⟩
    · cases h
variable {w : World} {base : Nat} {sp : Nat → Bool} {held : Bool} {n : Nat} {cs : List Value} {x : DataW H × List MemPlace}
theorem cellsI : Tryd.prog.cellsOf 3 = 1 := by kernel_rfl
theorem cellsU : Tryd.prog.cellsOf 69 = 1 := by kernel_rfl
theorem cellsB : Tryd.prog.cellsOf 4 = 1 := by kernel_rfl
theorem cellsSt : Tryd.prog.cellsOf 9 = 1 := by kernel_rfl
theorem read_i (c : Value) (h : DataW.trod enc Tryd.prog w base sp held n 3 [c] = some x) : ∃ a : Int, c = .int .i64 a ∧ -9223372036854775808 ≤ a ∧ a ≤ 9223372036854775807 := by
  obtain ⟨a, ha, _, hw⟩ := DataW.trod_int Tryd.underlying3 h
  simp at ha
  have := bounds_i64 hw
  exact ⟨a, ha, this.1, this.2⟩
theorem read_u (c : Value) (h : DataW.trod enc Tryd.prog w base sp held n 69 [c] = some x) : ∃ a : Int, c = .int .u64 a ∧ 0 ≤ a ∧ a ≤ 18446744073709551615 := by
  obtain ⟨a, ha, _, hw⟩ := DataW.trod_int Tryd.underlying69 h
  simp at ha
  have := bounds_u64 hw
  exact ⟨a, ha, this.1, by have := this.2; omega⟩
theorem read_s (c : Value) (h : DataW.trod enc Tryd.prog w base sp held n 9 [c] = some x) : ∃ a : ByteArray, c = .string a ∧ a.size ≤ maxLen := by
  obtain ⟨a, ha, _, hs⟩ := DataW.trod_string Tryd.underlying9 h
  simp at ha
  exact ⟨a, ha, hs⟩
theorem choose_list {α : Type} {p : Nat → α → Prop} : ∀ n, (∀ i, i < n → ∃ a, p i a) → ∃ l : List α, l.length = n ∧ ∀ i a, l[i]? = some a → p i a
  | 0, _ => ⟨[], rfl, fun i a h => by cases h⟩
  | n + 1, h => by
    obtain ⟨l, hl, hp⟩ := choose_list n (fun i hi => h i (by omega))
    obtain ⟨a, ha⟩ := h n (by omega)
    refine ⟨l ++ [a], by simp [hl], fun i b hb => ?_⟩
    rcases Nat.lt_or_ge i l.length with h1 | h1
    · rw [List.getElem?_append_left h1] at hb; exact hp i b hb
    · rw [List.getElem?_append_right h1] at hb
      have : i - l.length = 0 := by
        rcases Nat.eq_zero_or_pos (i - l.length) with h2 | h2
        · exact h2
        · rw [List.getElem?_eq_none (by simp; omega)] at hb; cases hb
      rw [this] at hb
      simp at hb
      subst hb
      rw [show i = n from by omega]; exact ha
/-- Cells that lie one row behind the other. -/
theorem rd_rows {α : Type} {f : α → List Value} {k : Nat} (hk : ∀ x, (f x).length = k) {w : World} {a : Addr} {l : List α} (h : ∀ i x, l[i]? = some x → ∀ j u, (f x)[j]? = some u → w.cell? (a.add (i * k + j)) = some u) : Rd w w.heap.size (some a) (l.flatMap f) := fun hn => by
  have hcell : ∀ j u, (l.flatMap f)[j]? = some u → w.cell? (a.add j) = some u := fun j u hu => by
    have hj : j < l.length * k := by
      rcases Nat.lt_or_ge j (l.length * k) with h1 | h1
      · exact h1
      · rw [List.getElem?_eq_none (by rw [flatMap_len f k hk]; exact h1)] at hu; cases hu
    have hk0 : 0 < k := by
      rcases Nat.eq_zero_or_pos k with h0 | h0
      · subst h0; omega
      · exact h0
    have hdm : j = j / k * k + j % k := by rw [Nat.mul_comm]; exact (Nat.div_add_mod j k).symm
    rw [hdm, flatMap_at f k hk l _ _ (Nat.mod_lt _ hk0)] at hu
    cases hx : l[j / k]? with
    | none => rw [hx] at hu; cases hu
    | some x =>
      rw [hx] at hu
      have := h _ x hx _ u hu
      rw [← hdm] at this
      exact this
  refine ⟨a, rfl, ?_, hcell⟩
  have h0 := hcell 0 _ (List.getElem?_eq_getElem hn)
  have := cell_lt h0
  rwa [block_add] at this
end
end Go.Proofs.YtgiahfjndononaaDoor
