/- A span read: the code's Read. -/
import Derived.Test.YtchcjbapbdfhkaaRg
import Derived.Test.YtchcjbapbdfhkaaSk
import Derived.RegionTactic
import Derived.ChangeAlike
import Derived.BigRegion
namespace Go.Proofs.Ytchcjbapbdfhkaa
open Go.RowKit
set_option linter.unusedVariables false
set_option maxRecDepth 100000

theorem below_drew {B : Nat} {a w : World} (h : Below B a w) : Below B a w.drew := h.trans ⟨rfl, rfl, rfl, Nat.le_refl _, fun _ _ => rfl⟩
theorem rst0 {w : World} {B n c : Nat} {A : Option Addr} {l : List UInt8} (hn : n = l.length) (hr : Rd w B A (l.map B8)) (hB : B ≤ w.heap.size) (hc : n ≤ c ∧ n ≤ 140737488351232 ∧ c ≤ maxLen) : RSt ((w.alloc (.cells #[.int .u64 0, .int .u64 0, .int .u64 0, .int .u64 0, .string ⟨#[]⟩, .string ⟨#[]⟩, .int .i64 0, .int .i64 0, .bool false, .slice none 0 0] 75)).alloc (.cells #[.slice A n c, .bool false] 82)) B (w.heap.size + 1) (l, false) :=
  ⟨⟨A, n, c, two1 w _ _, hn, (hr.alloc hB _).alloc (by simp <;> omega) _, hc⟩, by omega⟩
/-- Behind ReadFrom: what lies where. -/
structure KSt (w w1 : World) (B : Nat) (s : Sp) (r : Rm.R) (A : Option Addr) (k c : Nat) : Prop where
  own : w1.ownsRow (w.heap.size + 2) 132 2 (.slice A k c) k (s.ats.flatMap atC)
  ok : s.ok
  rd : RSt w1 B (w.heap.size + 1) r
  res : w1.heap[w.heap.size]? = some (.cells #[.int .u64 0, .int .u64 0, .int .u64 0, .int .u64 0, .string ⟨#[]⟩, .string ⟨#[]⟩, .int .i64 0, .int .i64 0, .bool false, .slice none 0 0] 75)
  below : Below w.heap.size w w1
  sz : w.heap.size + 1 < w1.heap.size
def KOf (w : World) (B : Nat) (s : Sp) (r : Rm.R) (k : Nat) (e : Ending) (w1 : World) : Prop := ∃ (A : Option Addr) (c : Nat), e = .returned (.agg #[.int .u64 s.hi, .int .u64 s.lo, .int .u64 s.id, .int .u64 s.pa, .string s.sv, .string s.op, .int .i64 s.st, .int .i64 s.du, .bool s.er, .slice A k c]) ∧ KSt w w1 B s r A k c
theorem kof {w : World} {B n c : Nat} {A : Option Addr} {s : Sp} {r : Rm.R} {e : Ending} {w1 : World} (k : Nat) (hk : k = s.ats.length) (h : SpanOf s r B (w.heap.size + 1) ((w.alloc (.cells #[.int .u64 0, .int .u64 0, .int .u64 0, .int .u64 0, .string ⟨#[]⟩, .string ⟨#[]⟩, .int .i64 0, .int .i64 0, .bool false, .slice none 0 0] 75)).alloc (.cells #[.slice A n c, .bool false] 82)) e w1) : KOf w B s r k e w1 := by
  obtain ⟨A1, c1, he, ho, hr, hg⟩ := h
  subst hk
  have hz : ((w.alloc (.cells #[.int .u64 0, .int .u64 0, .int .u64 0, .int .u64 0, .string ⟨#[]⟩, .string ⟨#[]⟩, .int .i64 0, .int .i64 0, .bool false, .slice none 0 0] 75)).alloc (.cells #[.slice A n c, .bool false] 82)).heap.size = w.heap.size + 2 := by simp
  have hw : Below w.heap.size w ((w.alloc (.cells #[.int .u64 0, .int .u64 0, .int .u64 0, .int .u64 0, .string ⟨#[]⟩, .string ⟨#[]⟩, .int .i64 0, .int .i64 0, .bool false, .slice none 0 0] 75)).alloc (.cells #[.slice A n c, .bool false] 82)) := ((Below.refl _ _).alloc (Nat.le_refl _) _).alloc (by simp) _
  have hs := hg.size
  rw [hz] at hs
  refine ⟨A1, c1, he, by have := ho.own; rw [hz] at this; exact this, ho.ok, hr, (hg.block _ (by rw [hz]; omega) (fun e => by injection e with e; omega)).trans (two0 w _ _), hw.grown hg (by rw [hz]; omega) (fun j hj => by injection hj with hj; omega), by omega⟩

def NoSpan (w : World) (e : Ending) (w' : World) : Prop := e = .returned (.tuple #[.agg #[.int .u64 0, .int .u64 0, .int .u64 0, .int .u64 0, .string ⟨#[]⟩, .string ⟨#[]⟩, .int .i64 0, .int .i64 0, .bool false, .slice none 0 0], .int .i64 0, .int .i64 2]) ∧ Below w.heap.size w w'
theorem noSpan_mk {w w' : World} (h : Below w.heap.size w w') : NoSpan w (.returned (.tuple #[.agg #[.int .u64 0, .int .u64 0, .int .u64 0, .int .u64 0, .string ⟨#[]⟩, .string ⟨#[]⟩, .int .i64 0, .int .i64 0, .bool false, .slice none 0 0], .int .i64 0, .int .i64 2])) w' := ⟨rfl, h⟩
def YesSpan (s : Sp) (i : Int) (w : World) (e : Ending) (w' : World) : Prop := ∃ (A : Option Addr) (c : Nat), e = .returned (.tuple #[.agg (Ls.mk s A c).cells.toArray, .int .i64 i, .int .i64 0]) ∧ OwnL w' w.heap.size ⟨s, A, c⟩ ∧ Below w.heap.size w w'
theorem yesSpan_mk (s : Sp) (A : Option Addr) (c n : Nat) (i : Int) (hn : n = s.ats.length) {w w' : World} (ho : w'.ownsRow w.heap.size 132 2 (.slice A n c) n (s.ats.flatMap atC)) (hok : s.ok) (hb : Below w.heap.size w w') :
    YesSpan s i w (.returned (.tuple #[.agg #[.int .u64 s.hi, .int .u64 s.lo, .int .u64 s.id, .int .u64 s.pa, .string s.sv, .string s.op, .int .i64 s.st, .int .i64 s.du, .bool s.er, .slice A n c], .int .i64 i, .int .i64 0])) w' := by
  subst hn
  exact ⟨A, c, rfl, ⟨ho, hok⟩, hb⟩
end Go.Proofs.Ytchcjbapbdfhkaa
