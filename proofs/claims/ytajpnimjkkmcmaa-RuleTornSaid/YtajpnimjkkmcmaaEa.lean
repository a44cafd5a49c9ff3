/- A span added to an episode. -/
import Derived.Test.YtajpnimjkkmcmaaEc
import Derived.Test.YtajpnimjkkmcmaaOt
import Derived.Laws.StructEq
import Derived.Deep.RegionHeld3
import Derived.Test.YtajpnimjkkmcmaaBs
namespace Go.Proofs.Ytajpnimjkkmcmaa
open Go.RowKit
set_option linter.unusedVariables false
set_option maxRecDepth 100000

theorem OwnSps.else {w : World} {base : Nat} {v : Value} {l : List Ls} (h : OwnSps w base v l) {p : Addr} {cs : Array Value} {t : TypeId} {fr : Nat × Nat} (hk : w.heap[p.block]? = some (.cells cs t fr)) (h1 : t ≠ 62) (h2 : t ≠ 131) (u : Value) : OwnSps (w.setCell p u) base v l :=
  ⟨own_else h.own hk h1 u, fun x hx => ⟨own_else (h.each x hx).own hk h2 u, (h.each x hx).ok⟩⟩
/-- What Add hands back. -/
def AddEp (hi lo f la : Int) (su : Bool) (l : List Sp) (ok : Bool) (w : World) (e : Ending) (w' : World) : Prop :=
  ∃ (A : Option Addr) (n c : Nat) (l' : List Ls), e = .returned (.tuple #[.agg #[.int .u64 hi, .int .u64 lo, .int .i64 f, .int .i64 la, .bool su, .slice A n c], .bool ok]) ∧ n = l.length ∧ OwnSps w' w.heap.size (.slice A n c) l' ∧ l'.map Ls.s = l ∧ Below w.heap.size w w'

theorem Rd.block {w w' : World} {g : Nat} {xs : List Value} (h : Rd w (g + 1) (some ⟨g, 0, none⟩) xs) (he : w'.heap[g]? = w.heap[g]?) : Rd w' (g + 1) (some ⟨g, 0, none⟩) xs := fun hn => by
  obtain ⟨a, ha, hb, hc⟩ := h hn
  injection ha with ha
  subst ha
  exact ⟨_, rfl, hb, fun j u hu => (World.cell?_of_block (by rw [block_add]; exact he)).trans (hc j u hu)⟩
section
variable {hi lo f now : Int} {su : Bool} {x2 x3 : Int} {x4 x5 : ByteArray} {x6 x7 : Int} {x8 : Bool} {xA : Option Addr} {m xc : Nat} {ats : List (ByteArray × ByteArray)} {A1 : Option Addr} {n1 c1 o base : Nat} {l1 : List Ls} {w w' : World}
end

end Go.Proofs.Ytajpnimjkkmcmaa
