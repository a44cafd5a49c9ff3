/- The code's put: a policy's bytes behind others, in memory of one's own. -/
import Derived.Test.YtgiahfjndononaaDoorGr
import Derived.Test.YtgiahfjndononaaDoorPut
import Derived.Test.YtgiahfjndononaaDoorRp
namespace Go.Proofs.YtgiahfjndononaaDoor
open Go.RowKit
set_option linter.unusedVariables false
set_option linter.unusedSimpArgs false
set_option maxRecDepth 100000

theorem app1c {w : World} {ty : TypeId} {base n : Nat} {v : Value} {l : List UInt8} {y : Int} {x : UInt8} (h : w.ownsRow base 5 1 v n (l.map B8)) (hx : Value.int .u8 y = B8 x) (hb : base ≤ w.heap.size) (hn : n ≤ 10000000) {g : Nat} (hg : w.heap.size = g) :
    ∃ v' w', (Builtin.append_ #[50, 50] ty #[v, .slice (some ⟨g, 0, none⟩) 1 1]).run Tryd.prog (w.alloc (.cells #[.int .u8 y] 5)) = .ok v' w' ∧ (w'.ownsRow base 5 1 v' (n + 1) ((l ++ [x]).map B8) ∧ Grew w w' v v') := by
  subst hg
  obtain ⟨i0, hi, hz0, hz1, hz2⟩ := info_parts infoB
  have hs : (w.alloc (.cells #[.int .u8 y] 5)).heap.size = w.heap.size + 1 := by simp
  obtain ⟨v', w', r1, r2, r3⟩ := run_append_rd (P := Tryd.prog) (w.alloc (.cells #[.int .u8 y] 5)) base 50 ty 5 i0 _ 1 1 Tryd.underlying50 hi hz0 hz1 hz2 rfl v n (l.map B8) (h.alloc _) (w.heap.size + 1) (some ⟨w.heap.size, 0, none⟩) 1 1 [.int .u8 y] rfl (Rd.one w _ _) (by simp [Value.oneCell']) (by unfold maxLen; omega) (by omega) (by omega)
  refine ⟨v', w', r1, ?_, r3.alloc⟩
  rw [hx] at r2
  simpa using r2
theorem box_grew {w w' : World} {base n b : Nat} {v v' : Value} {xs : List Value} (ho : w.ownsRow base 5 1 v n xs) (hg : Grew w w' v v') {cs : Array Value} {t : TypeId} {fr : Nat × Nat} (hr : w.heap[b]? = some (.cells cs t fr)) (ht : t ≠ 5) : w'.heap[b]? = some (.cells cs t fr) :=
  (hg.grown.block b (in_heap hr) (Ne.symm (own_not ho hr ht))).trans hr
theorem btsL_ge {l : List Rt} {j : Nat} {r : Rt} (h : l[j]? = some r) : (btsL (l.take j)).length + r.bts.length ≤ (btsL l).length := by
  have h2 := btsL_add (l.take (j + 1)) (l.drop (j + 1))
  rw [List.take_append_drop, btsL_take h] at h2
  rw [h2]
  simp only [List.length_append]
  omega
/-- What put hands back. -/
def PutOf (base : Nat) (v : Value) (l : List UInt8) (W : World) (e : Ending) (w' : World) : Prop := ∃ v', e = .returned v' ∧ w'.ownsRow base 5 1 v' l.length (l.map B8) ∧ Grew W w' v v'
end Go.Proofs.YtgiahfjndononaaDoor
