/- A span more in a counter. -/
import Derived.Test.YtkhhcnpmobgdgaaDoorBj
namespace Go.Proofs.YtkhhcnpmobgdgaaDoor
open Go.RowKit

theorem Cv_ex (x : List Int) : ∃ x0 x1 x2 x3 x4 x5 x6 x7 x8 x9 : Int, Cv x = #[.int .i64 x0, .int .i64 x1, .int .i64 x2, .int .i64 x3, .int .i64 x4, .int .i64 x5, .int .i64 x6, .int .i64 x7, .int .i64 x8, .int .i64 x9] := ⟨_, _, _, _, _, _, _, _, _, _, rfl⟩
/-- A span alone, as a counter. -/
def oneC (k : Nat) (e : Bool) : List Int := [1, if e then 1 else 0] ++ (List.range 8).map fun i => if i = k then 1 else 0
theorem oneC_ok (k : Nat) (e : Bool) (hk : k < 8) : okC (oneC k e) := by
  have : k = 0 ∨ k = 1 ∨ k = 2 ∨ k = 3 ∨ k = 4 ∨ k = 5 ∨ k = 6 ∨ k = 7 := by omega
  intro i
  rcases this with rfl | rfl | rfl | rfl | rfl | rfl | rfl | rfl <;> cases e <;> (rcases i with _ | _ | _ | _ | _ | _ | _ | _ | _ | _ | _ <;> simp [oneC, List.range, List.range.loop])
theorem third (w : World) (A S Z O : Obj) : ((((w.alloc A).alloc S).alloc Z).alloc O).heap[w.heap.size + 1 + 1]? = some Z := by
  have h := heap_alloc_old (((w.alloc A).alloc S).alloc Z) O (show w.heap.size + 1 + 1 < _ by simp)
  rw [h]
  have := heap_alloc_new ((w.alloc A).alloc S) Z
  simpa using this
theorem four (w : World) (A S Z O : Obj) : Below w.heap.size w ((((w.alloc A).alloc S).alloc Z).alloc O) := ((((Below.refl _ _).alloc (Nat.le_refl _) _).alloc (by simp) _).alloc (by simp; omega) _).alloc (by simp; omega) _
theorem bcell8 {W w1 : World} (hb : Below W.heap.size W w1) : (∀ b o, b < W.heap.size → w1.cell? ⟨b, o, none⟩ = W.cell? ⟨b, o, none⟩) ∧ (∀ b o, b < W.heap.size → w1.frozen? ⟨b, o, none⟩ = W.frozen? ⟨b, o, none⟩) :=
  ⟨fun b o h => hb.cell (p := ⟨b, o, none⟩) h, fun b o h => hb.frozen (p := ⟨b, o, none⟩) h⟩

end Go.Proofs.YtkhhcnpmobgdgaaDoor
