/- slices.Insert of one element, whole. -/
import Derived.Test.YtbdiamhhlabojaaDoorUib
import Derived.Test.YtbdiamhhlabojaaDoorUic
import Derived.Test.YtbdiamhhlabojaaDoorUid
namespace Go.Proofs.YtbdiamhhlabojaaDoor
open Go.RowKit
set_option linter.unusedVariables false
set_option linter.unusedSimpArgs false
set_option maxRecDepth 100000

/-- slices.Insert of one element, anywhere in a row of one's own. -/
theorem l_insert (A : Option Addr) (n c i vb : Nat) (l : List Lf) (e : Lf) (base : Nat) (w : World) (h : w.ownsRow base 78 3 (.slice A n c) n (l.flatMap Lf.cells)) (hn : n = l.length) (hi : i ≤ n) (hsm : n ≤ 1000000) (hbase : base ≤ w.heap.size)
    (hv : w.heap[vb]? = some (.cells e.cells.toArray 78 (0, 0))) (hvA : ∀ a, A = some a → vb ≠ a.block) :
    Calls Tryd.prog 52 #[.slice A n c, .int .i64 (i : Int), .slice (some ⟨vb, 0, none⟩) 1 1] w (lIns base (l.take i ++ e :: l.drop i) w A n c) := by
  rcases Nat.lt_or_ge i n with h1 | h1
  · obtain ⟨g, rfl, _, hbg, hgw, hnc, hcm, _⟩ := own_parts h (by omega)
    by_cases hroom : n + 1 ≤ c
    · exact l_ins_room g n c i vb l e base w h hn hsm hv (hvA _ rfl) h1 hroom
    · exact l_ins_grow g n c i vb l e base w h hn hsm hbase hv h1 (by omega)
  · obtain rfl : i = n := by omega
    have := l_ins_end A i c vb l e base w h hn hsm hbase hv
    rwa [hn, List.take_length, List.drop_length] at *
end Go.Proofs.YtbdiamhhlabojaaDoor
