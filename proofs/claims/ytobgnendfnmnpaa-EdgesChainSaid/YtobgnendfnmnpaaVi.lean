/- slices.Insert of one element, whole. -/
import Derived.Test.YtobgnendfnmnpaaVib
import Derived.Test.YtobgnendfnmnpaaVic
import Derived.Test.YtobgnendfnmnpaaVid
namespace Go.Proofs.Ytobgnendfnmnpaa
open Go.RowKit
set_option linter.unusedVariables false
set_option linter.unusedSimpArgs false
set_option maxRecDepth 100000

/-- slices.Insert of one element, anywhere in a row of one's own. -/
theorem g_insert (A : Option Addr) (n c i vb : Nat) (l : List Eg) (e : Eg) (base : Nat) (w : World) (h : w.ownsRow base 36 4 (.slice A n c) n (l.flatMap Eg.cells)) (hn : n = l.length) (hi : i ≤ n) (hsm : n ≤ 1000000) (hbase : base ≤ w.heap.size)
    (hv : w.heap[vb]? = some (.cells e.cells.toArray 36 (0, 0))) (hvA : ∀ a, A = some a → vb ≠ a.block) :
    Calls Try.prog 17 #[.slice A n c, .int .i64 (i : Int), .slice (some ⟨vb, 0, none⟩) 1 1] w (gIns base (l.take i ++ e :: l.drop i) w A n c) := by
  rcases Nat.lt_or_ge i n with h1 | h1
  · obtain ⟨g, rfl, _, hbg, hgw, hnc, hcm, _⟩ := own_parts h (by omega)
    by_cases hroom : n + 1 ≤ c
    · exact g_ins_room g n c i vb l e base w h hn hsm hv (hvA _ rfl) h1 hroom
    · exact g_ins_grow g n c i vb l e base w h hn hsm hbase hv h1 (by omega)
  · obtain rfl : i = n := by omega
    have := g_ins_end A i c vb l e base w h hn hsm hbase hv
    rwa [hn, List.take_length, List.drop_length] at *
end Go.Proofs.Ytobgnendfnmnpaa
