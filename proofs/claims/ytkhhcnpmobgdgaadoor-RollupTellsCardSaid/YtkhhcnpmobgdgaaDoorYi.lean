/- slices.Insert of one element, whole. -/
import Derived.Test.YtkhhcnpmobgdgaaDoorYib
import Derived.Test.YtkhhcnpmobgdgaaDoorYic
import Derived.Test.YtkhhcnpmobgdgaaDoorYid
namespace Go.Proofs.YtkhhcnpmobgdgaaDoor
open Go.RowKit
set_option linter.unusedVariables false
set_option linter.unusedSimpArgs false
set_option maxRecDepth 100000

/-- slices.Insert of one element, anywhere in a row of one's own. -/
theorem r_insert (A : Option Addr) (n c i vb : Nat) (l : List Rw) (e : Rw) (base : Nat) (w : World) (h : w.ownsRow base 48 14 (.slice A n c) n (l.flatMap Rw.cells)) (hn : n = l.length) (hi : i ≤ n) (hsm : n ≤ 1000000) (hbase : base ≤ w.heap.size)
    (hv : w.heap[vb]? = some (.cells e.cells.toArray 48 (0, 0))) (hvA : ∀ a, A = some a → vb ≠ a.block) :
    Calls Tryd.prog 58 #[.slice A n c, .int .i64 (i : Int), .slice (some ⟨vb, 0, none⟩) 1 1] w (rIns base (l.take i ++ e :: l.drop i) w A n c) := by
  rcases Nat.lt_or_ge i n with h1 | h1
  · obtain ⟨g, rfl, _, hbg, hgw, hnc, hcm, _⟩ := own_parts h (by omega)
    by_cases hroom : n + 1 ≤ c
    · exact r_ins_room g n c i vb l e base w h hn hsm hv (hvA _ rfl) h1 hroom
    · exact r_ins_grow g n c i vb l e base w h hn hsm hbase hv h1 (by omega)
  · obtain rfl : i = n := by omega
    have := r_ins_end A i c vb l e base w h hn hsm hbase hv
    rwa [hn, List.take_length, List.drop_length] at *
end Go.Proofs.YtkhhcnpmobgdgaaDoor
