/- A span read: the code's reader. -/
import Derived.Test.YtchcjbapbdfhkaaRh
import Derived.Test.YtchcjbapbdfhkaaEa
import Derived.Test.YtchcjbapbdfhkaaRi
import Derived.Test.YtchcjbapbdfhkaaSb
namespace Go.Proofs.Ytchcjbapbdfhkaa
open Go.RowKit
set_option linter.unusedVariables false
set_option maxRecDepth 100000

namespace Rm
/-- Attributes, as many as are told, no more than five. -/
def atl : Nat → Nat → R → List (ByteArray × ByteArray) → R × List (ByteArray × ByteArray)
  | 0, _, r, acc => (r, acc)
  | f + 1, n, r, acc => if 0 < n ∧ r.2 = false then atl f (n - 1) (text (text r).2).2 (acc ++ [(S8 (text r).1, S8 (text (text r).2).1)]) else (r, acc)
def p0 (r : R) := wide r
def p1 (r : R) := wide (p0 r).2
def p2 (r : R) := wide (p1 r).2
def p3 (r : R) := wide (p2 r).2
def p4 (r : R) := text (p3 r).2
def p5 (r : R) := text (p4 r).2
def p6 (r : R) := num (p5 r).2
def p7 (r : R) := num (p6 r).2
def p8 (r : R) := flag (p7 r).2
def p9 (r : R) := num (p8 r).2
def pa (r : R) := atl 5 (p9 r).1 (p9 r).2 []
/-- What was read, before it is asked whether it may be. -/
def raw (r : R) : Sp := ⟨(p0 r).1, (p1 r).1, (p2 r).1, (p3 r).1, S8 (p4 r).1, S8 (p5 r).1, (p6 r).1, (p7 r).1, (p8 r).1, (pa r).2⟩
def zero : Sp := ⟨0, 0, 0, 0, ⟨#[]⟩, ⟨#[]⟩, 0, 0, false, []⟩
def span (r : R) : Sp × R := if (pa r).1.2 = false ∧ right (raw r) = true then (raw r, (pa r).1) else (zero, fail)
end Rm

structure FSt (w0 w : World) (B g : Nat) (r : Rm.R) (cs : Array Value) : Prop where
  rd : RSt w B g r
  res : w.heap[w0.heap.size]? = some (.cells #[.int .u64 0, .int .u64 0, .int .u64 0, .int .u64 0, .string ⟨#[]⟩, .string ⟨#[]⟩, .int .i64 0, .int .i64 0, .bool false, .slice none 0 0] 75)
  box : w.heap[w0.heap.size + 1]? = some (.cells cs 75)
  grown : w0.grownBy w (some g)
  lt : g < w0.heap.size
  sz : w0.heap.size + 2 ≤ w.heap.size
section
variable {w0 w w' : World} {B g : Nat} {r r' : Rm.R} {cs : Array Value}
theorem RSt.keep {row : Option Nat} (h : RSt w B g r) (hg : w.grownBy w' row) (h1 : row ≠ some g) (h2 : ∀ j, row = some j → B ≤ j) : RSt w' B g r := by
  obtain ⟨⟨A, n, c, hx, hn, hr, hc⟩, hB⟩ := h
  have hgl := in_heap hx
  exact ⟨⟨A, n, c, (hg.block g hgl (Ne.symm h1)).trans hx, hn, hr.keep (fun p hp => World.cell?_of_block (hg.block p.block (by omega) (fun e => by have := h2 _ e.symm; omega))), hc⟩, hB⟩
theorem FSt.call (h : FSt w0 w B g r cs) (hr : RSt w' B g r') (hg : w.grownBy w' (some g)) : FSt w0 w' B g r' cs :=
  ⟨hr, (hg.block _ (by have := h.sz; omega) (fun e => by injection e with e; have := h.lt; omega)).trans h.res, (hg.block _ (by have := h.sz; omega) (fun e => by injection e with e; have := h.lt; omega)).trans h.box, grown_trans h.grown hg, h.lt, Nat.le_trans h.sz hg.size⟩
theorem FSt.set (h : FSt w0 w B g r cs) (i : Nat) (v : Value) : FSt w0 (w.setCell ⟨w0.heap.size + 1, i, none⟩ v) B g r (cs.setIfInBounds i v) :=
  ⟨h.rd.keep (grown_set w _ i v) (fun e => by injection e with e; have := h.lt; omega) (fun j e => by injection e with e; have := h.lt; have := h.rd.lt; omega),
    (Below.heap_setCell w _ v _ (by simp)).trans h.res, heap_setCell_same _ _ i _ _ v h.box, ⟨h.grown.os, h.grown.tape, h.grown.output, by simpa using h.grown.size, fun k hk hne => (Below.heap_setCell w _ v k (by simp; omega)).trans (h.grown.block k hk hne)⟩, h.lt, by simpa using h.sz⟩
/-- What is new, or turns a row of one's own. -/
theorem FSt.grew {v v' : Value} {base size n : Nat} {e : TypeId} {xs : List Value} (h : FSt w0 w B g r cs) (hg : Grew w w' v v') (ho : w.ownsRow base e size v n xs) (hb : w0.heap.size + 2 ≤ base) : FSt w0 w' B g r cs :=
  have hne : ∀ k, k < base → some k ≠ v.ownBlock := fun k hk he => by have := own_block_ge ho k he.symm; omega
  ⟨h.rd.keep hg.grown (fun e => by have := own_block_ge ho g e; have := h.lt; omega) (fun j e => by have := own_block_ge ho j e; have := h.lt; have := h.rd.lt; omega),
    (hg.grown.block _ (by have := h.sz; omega) (hne _ (by omega))).trans h.res, (hg.grown.block _ (by have := h.sz; omega) (hne _ (by omega))).trans h.box,
    ⟨hg.grown.os.trans h.grown.os, hg.grown.tape.trans h.grown.tape, hg.grown.output.trans h.grown.output, Nat.le_trans h.grown.size hg.grown.size, fun k hk hkn => (hg.grown.block k (by have := h.sz; omega) (hne _ (by omega))).trans (h.grown.block k hk hkn)⟩, h.lt, Nat.le_trans h.sz hg.grown.size⟩
theorem FSt.new (h : FSt w0 w B g r cs) (hb : Below w.heap.size w w') : FSt w0 w' B g r cs :=
  FSt.grew (v := .slice none 0 0) (v' := .slice none 0 0) (n := 0) (xs := []) (base := w0.heap.size + 2) (size := 1) (e := 0) h ⟨⟨hb.os, hb.tape, hb.output, hb.size, fun k hk _ => hb.block k hk⟩, .inl rfl⟩ (World.ownsRow_nil _ _ _ _) (Nat.le_refl _)
end
/-- What a reader hands back: a span whose attributes are its own. -/
def SpanOf (s : Sp) (r : Rm.R) (B g : Nat) (w : World) (e : Ending) (w' : World) : Prop := ∃ (A : Option Addr) (c : Nat), e = .returned (.agg (Ls.mk s A c).cells.toArray) ∧ OwnL w' w.heap.size ⟨s, A, c⟩ ∧ RSt w' B g r ∧ w.grownBy w' (some g)

theorem text_bd (r : Rm.R) : (Rm.text r).1.length ≤ r.1.length ∧ (Rm.text r).2.1.length ≤ r.1.length := by
  unfold Rm.text Mi.gettext
  have := Mi.get_len r.1
  split <;> rename_i h <;> simp_all [Rm.fail]
  omega
theorem wide_bd (r : Rm.R) : (Rm.wide r).2.1.length ≤ r.1.length := by
  unfold Rm.wide
  split <;> simp [Rm.fail]
theorem num_bd (r : Rm.R) : (Rm.num r).2.1.length ≤ r.1.length := by
  unfold Rm.num
  split
  · simp [Rm.fail]
  · exact wide_bd r
theorem flag_bd (r : Rm.R) : (Rm.flag r).2.1.length ≤ r.1.length := by
  unfold Rm.flag
  simp only
  split
  · simp [Rm.fail]
  · exact num_bd r
theorem S8_size (l : List UInt8) : (S8 l).size = l.length := by simp [S8, ByteArray.size]
theorem atl_bd (M : Nat) : ∀ (f n : Nat) (r : Rm.R) (acc : List (ByteArray × ByteArray)), r.1.length ≤ M → (∀ a ∈ acc, a.1.size ≤ M ∧ a.2.size ≤ M) → (∀ a ∈ (Rm.atl f n r acc).2, a.1.size ≤ M ∧ a.2.size ≤ M) ∧ (Rm.atl f n r acc).2.length ≤ acc.length + f
  | 0, n, r, acc, hr, ha => ⟨ha, Nat.le_refl _⟩
  | f + 1, n, r, acc, hr, ha => by
    unfold Rm.atl
    have h1 := text_bd r
    have h2 := text_bd (Rm.text r).2
    split
    · have h := atl_bd M f (n - 1) (Rm.text (Rm.text r).2).2 (acc ++ [(S8 (Rm.text r).1, S8 (Rm.text (Rm.text r).2).1)]) (by omega) (fun a haa => by
        rcases List.mem_append.1 haa with haa | haa
        · exact ha a haa
        · rw [List.mem_singleton] at haa
          subst haa
          simp only [S8_size]
          omega)
      refine ⟨h.1, ?_⟩
      have := h.2
      simp only [List.length_append, List.length_singleton] at this
      omega
    · exact ⟨ha, show acc.length ≤ _ by omega⟩
theorem ok_mk (x0 x1 x2 x3 : Nat) (x4 x5 : ByteArray) (x6 x7 : Nat) (x8 : Bool) (ats : List (ByteArray × ByteArray)) (c0 : x0 < 18446744073709551616) (c1 : x1 < 18446744073709551616) (c2 : x2 < 18446744073709551616) (c3 : x3 < 18446744073709551616) (c4 : x4.size ≤ maxLen) (c5 : x5.size ≤ maxLen) (c6 : x6 ≤ 9223372036854775807) (c7 : x7 ≤ 9223372036854775807) (c8 : ats.length ≤ maxLen) (c9 : ∀ a ∈ ats, a.1.size ≤ maxLen ∧ a.2.size ≤ maxLen) : (⟨x0, x1, x2, x3, x4, x5, x6, x7, x8, ats⟩ : Sp).ok :=
  ⟨⟨by simp, by simp only; omega⟩, ⟨by simp, by simp only; omega⟩, ⟨by simp, by simp only; omega⟩, ⟨by simp, by simp only; omega⟩, c4, c5, ⟨by simp only; omega, by simp only; omega⟩, ⟨by simp only; omega, by simp only; omega⟩, c8, c9⟩
theorem raw_ok (r : Rm.R) (hr : r.1.length ≤ maxLen) : (Rm.raw r).ok := by
  have a0 : (Rm.p0 r).2.1.length ≤ r.1.length := by unfold Rm.p0; exact wide_bd r
  have a1 : (Rm.p1 r).2.1.length ≤ (Rm.p0 r).2.1.length := by unfold Rm.p1; exact wide_bd (Rm.p0 r).2
  have a2 : (Rm.p2 r).2.1.length ≤ (Rm.p1 r).2.1.length := by unfold Rm.p2; exact wide_bd (Rm.p1 r).2
  have a3 : (Rm.p3 r).2.1.length ≤ (Rm.p2 r).2.1.length := by unfold Rm.p3; exact wide_bd (Rm.p2 r).2
  have a4 : (Rm.p4 r).1.length ≤ (Rm.p3 r).2.1.length ∧ (Rm.p4 r).2.1.length ≤ (Rm.p3 r).2.1.length := by unfold Rm.p4; exact text_bd (Rm.p3 r).2
  have a5 : (Rm.p5 r).1.length ≤ (Rm.p4 r).2.1.length ∧ (Rm.p5 r).2.1.length ≤ (Rm.p4 r).2.1.length := by unfold Rm.p5; exact text_bd (Rm.p4 r).2
  have a6 : (Rm.p6 r).2.1.length ≤ (Rm.p5 r).2.1.length := by unfold Rm.p6; exact num_bd (Rm.p5 r).2
  have a7 : (Rm.p7 r).2.1.length ≤ (Rm.p6 r).2.1.length := by unfold Rm.p7; exact num_bd (Rm.p6 r).2
  have a8 : (Rm.p8 r).2.1.length ≤ (Rm.p7 r).2.1.length := by unfold Rm.p8; exact flag_bd (Rm.p7 r).2
  have a9 : (Rm.p9 r).2.1.length ≤ (Rm.p8 r).2.1.length := by unfold Rm.p9; exact num_bd (Rm.p8 r).2
  have b3 : (Rm.p3 r).2.1.length ≤ maxLen := Nat.le_trans a3 (Nat.le_trans a2 (Nat.le_trans a1 (Nat.le_trans a0 hr)))
  have b4 : (Rm.p4 r).2.1.length ≤ maxLen := Nat.le_trans a4.2 b3
  have b9 : (Rm.p9 r).2.1.length ≤ maxLen := Nat.le_trans a9 (Nat.le_trans a8 (Nat.le_trans a7 (Nat.le_trans a6 (Nat.le_trans a5.2 b4))))
  have hat : (∀ a ∈ (Rm.pa r).2, a.1.size ≤ maxLen ∧ a.2.size ≤ maxLen) ∧ (Rm.pa r).2.length ≤ 0 + 5 := by unfold Rm.pa; exact atl_bd maxLen 5 (Rm.p9 r).1 (Rm.p9 r).2 [] b9 (fun a h => by cases h)
  have hal : (Rm.pa r).2.length ≤ 5 := by have := hat.2; simpa using this
  have c0 : (Rm.p0 r).1 < 18446744073709551616 := by unfold Rm.p0; exact wide_lt r
  have c1 : (Rm.p1 r).1 < 18446744073709551616 := by unfold Rm.p1; exact wide_lt (Rm.p0 r).2
  have c2 : (Rm.p2 r).1 < 18446744073709551616 := by unfold Rm.p2; exact wide_lt (Rm.p1 r).2
  have c3 : (Rm.p3 r).1 < 18446744073709551616 := by unfold Rm.p3; exact wide_lt (Rm.p2 r).2
  have c6 : (Rm.p6 r).1 ≤ 9223372036854775807 := by unfold Rm.p6; exact num_lt (Rm.p5 r).2
  have c7 : (Rm.p7 r).1 ≤ 9223372036854775807 := by unfold Rm.p7; exact num_lt (Rm.p6 r).2
  have c4 : (S8 (Rm.p4 r).1).size ≤ maxLen := by rw [S8_size]; exact Nat.le_trans a4.1 b3
  have c5 : (S8 (Rm.p5 r).1).size ≤ maxLen := by rw [S8_size]; exact Nat.le_trans a5.1 b4
  have c8 : (Rm.pa r).2.length ≤ maxLen := Nat.le_trans hal (by simp [maxLen])
  have c9 : ∀ a ∈ (Rm.pa r).2, a.1.size ≤ maxLen ∧ a.2.size ≤ maxLen := hat.1
  clear hat b3 b4 b9 a0 a1 a2 a3 a4 a5 a6 a7 a8 a9 hal
  unfold Rm.raw
  exact ok_mk (Rm.p0 r).1 (Rm.p1 r).1 (Rm.p2 r).1 (Rm.p3 r).1 (S8 (Rm.p4 r).1) (S8 (Rm.p5 r).1) (Rm.p6 r).1 (Rm.p7 r).1 (Rm.p8 r).1 (Rm.pa r).2 c0 c1 c2 c3 c4 c5 c6 c7 c8 c9
end Go.Proofs.Ytchcjbapbdfhkaa
