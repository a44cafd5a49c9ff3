/- An episode's copy; whether one of its spans has an Id. -/
import Derived.Test.YtajpnimjkkmcmaaSc
namespace Go.Proofs.Ytajpnimjkkmcmaa
open Go.RowKit
set_option linter.unusedVariables false
set_option maxRecDepth 100000

theorem OwnSps.far {w : World} {base : Nat} {v : Value} {l : List Ls} (h : OwnSps w base v l) {p : Addr} (hp : p.block < base) (u : Value) : OwnSps (w.setCell p u) base v l :=
  ⟨own_far h.own hp u, fun x hx => ⟨own_far (h.each x hx).own hp u, (h.each x hx).ok⟩⟩
/-- An episode with these spans in memory of its own. -/
def CopyEp (hi lo f la : Int) (su : Bool) (l : List Sp) (w : World) (e : Ending) (w' : World) : Prop :=
  ∃ (A : Option Addr) (n c : Nat) (l' : List Ls), e = .returned (.agg #[.int .u64 hi, .int .u64 lo, .int .i64 f, .int .i64 la, .bool su, .slice A n c]) ∧ n = l.length ∧ OwnSps w' w.heap.size (.slice A n c) l' ∧ l'.map Ls.s = l ∧ Below w.heap.size w w'

def hasId (l : List Sp) (id : Int) : Bool := l.any fun s => s.id == id
end Go.Proofs.Ytajpnimjkkmcmaa
