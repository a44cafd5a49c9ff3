/- Copies of spans. -/
import Derived.Test.YtgldjjmpjaegfaaSo
import Derived.OwnWalk
namespace Go.Proofs.Ytgldjjmpjaegfaa
open Go.RowKit
set_option linter.unusedVariables false
set_option maxRecDepth 100000

/-- What a copy is, its cells written out. -/
def CopyX (x0 x1 x2 x3 : Int) (x4 x5 : ByteArray) (x6 x7 : Int) (x8 : Bool) (ats : List (ByteArray × ByteArray)) (n : Nat) (w : World) (e : Ending) (w' : World) : Prop :=
  ∃ (A : Option Addr) (c : Nat), e = .returned (.agg #[.int .u64 x0, .int .u64 x1, .int .u64 x2, .int .u64 x3, .string x4, .string x5, .int .i64 x6, .int .i64 x7, .bool x8, .slice A n c]) ∧ OwnL w' w.heap.size ⟨⟨x0, x1, x2, x3, x4, x5, x6, x7, x8, ats⟩, A, c⟩ ∧ Below w.heap.size w w'
/-- What copies of spans are. -/
def CopiesOf (l : List Sp) (w : World) (e : Ending) (w' : World) : Prop := ∃ (v : Value) (l' : List Ls), e = .returned v ∧ OwnSps w' w.heap.size v l' ∧ l'.map Ls.s = l ∧ Below w.heap.size w w'
theorem grown_below {w w' : World} (h : w.grownBy w' none) : Below w.heap.size w w' := ⟨h.os, h.tape, h.output, h.size, fun i hi => h.block i hi (by simp)⟩
theorem Ls.lit_cells (x0 x1 x2 x3 : Int) (x4 x5 : ByteArray) (x6 x7 : Int) (x8 : Bool) (ats : List (ByteArray × ByteArray)) (A : Option Addr) (c n : Nat) (hn : n = ats.length) : (Ls.mk ⟨x0, x1, x2, x3, x4, x5, x6, x7, x8, ats⟩ A c).cells = [.int .u64 x0, .int .u64 x1, .int .u64 x2, .int .u64 x3, .string x4, .string x5, .int .i64 x6, .int .i64 x7, .bool x8, .slice A n c] := by subst hn; rfl

end Go.Proofs.Ytgldjjmpjaegfaa
