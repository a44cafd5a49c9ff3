/- A span more in a counter. -/
import Derived.Test.YtkmcdeejkcncpaaDoorBj
namespace Go.Proofs.YtkmcdeejkcncpaaDoor
open Go.RowKit

theorem Cv_ex (x : List Int) : ∃ x0 x1 x2 x3 x4 x5 x6 x7 x8 x9 : Int, Cv x = #[.int .i64 x0, .int .i64 x1, .int .i64 x2, .int .i64 x3, .int .i64 x4, .int .i64 x5, .int .i64 x6, .int .i64 x7, .int .i64 x8, .int .i64 x9] := ⟨_, _, _, _, _, _, _, _, _, _, rfl⟩
/-- A span alone, as a counter. -/
def oneC (k : Nat) (e : Bool) : List Int := [1, if e then 1 else 0] ++ (List.range 8).map fun i => if i = k then 1 else 0
theorem oneC_ok (k : Nat) (e : Bool) (hk : k < 8) : okC (oneC k e) := by
  have : k = 0 ∨ k = 1 ∨ k = 2 ∨ k = 3 ∨ k = 4 ∨ k = 5 ∨ k = 6 ∨ k = 7 := by omega
  intro i
  rcases this with rfl | rfl | rfl | rfl | rfl | rfl | rfl | rfl <;> cases e <;> (rcases i with _ | _ | _ | _ | _ | _ | _ | _ | _ | _ | _ <;> simp [oneC, List.range, List.range.loop])
theorem third (w : World) (A S Z O : Obj) : ((((w.alloc A).alloc S).alloc Z).alloc O).heap[w.heap.size + 1 + 1]? = some Z := by
  have h := heap_alloc_old (((w.alloc A).alloc S).alloc Z) O (show w.heap.size + 1 + 1 < _ by simp)
  rw [h]
  have := heap_alloc_new ((w.alloc A).alloc S) Z
  simpa using this
theorem four (w : World) (A S Z O : Obj) : Below w.heap.size w ((((w.alloc A).alloc S).alloc Z).alloc O) := ((((Below.refl _ _).alloc (Nat.le_refl _) _).alloc (by simp) _).alloc (by simp; omega) _).alloc (by simp; omega) _
theorem bcell {W w1 : World} (hb : Below W.heap.size W w1) : (∀ b o, b < W.heap.size → w1.cell? ⟨b, o, none⟩ = W.cell? ⟨b, o, none⟩) ∧ (∀ b o, b < W.heap.size → w1.frozen? ⟨b, o, none⟩ = W.frozen? ⟨b, o, none⟩) :=
  ⟨fun b o h => hb.cell (p := ⟨b, o, none⟩) h, fun b o h => hb.frozen (p := ⟨b, o, none⟩) h⟩

set_option maxHeartbeats 4000000 in
set_option maxRecDepth 100000 in
theorem add_any (x : List Int) (th tl id pa : Int) (sv op : ByteArray) (st d : Int) (e : Bool) (aA : Option Addr) (an ac : Nat) (m : Int) (w : World) (T : Bnds w) (hx : okC x) (hm : m ≤ 9223372036854775807) :
    Calls Tryd.prog 12 #[.agg (Cv x), .agg #[.int .u64 th, .int .u64 tl, .int .u64 id, .int .u64 pa, .string sv, .string op, .int .i64 st, .int .i64 d, .bool e, .slice aA an ac], .int .i64 m] w fun en w' => en = .returned (.agg (Cv (joinC x (oneC (Bm.of d) e) m))) ∧ Below w.heap.size w w' := by
  have hk := Bm.of_le d
  obtain ⟨k, hkd⟩ : ∃ k, k = Bm.of d := ⟨_, rfl⟩
  rw [← hkd] at hk ⊢
  have OF := fun W (T : Bnds W) => Lib.hid (of_any8 d W T)
  rw [← hkd] at OF
  clear hkd
  have HT := Lib.hid T
  have J0 := fun W => join_all x (oneC k e) m W hx (oneC_ok k e (by omega)) hm
  obtain ⟨x0, x1, x2, x3, x4, x5, x6, x7, x8, x9, hxx⟩ := Cv_ex x
  obtain ⟨z0, z1, z2, z3, z4, z5, z6, z7, z8, z9, hzz⟩ := Cv_ex (joinC x (oneC k e) m)
  rw [hxx] at J0 ⊢
  rw [hzz] at J0 ⊢
  have J := fun W => Lib.hid (J0 W)
  clear J0 hxx hzz T hx
  have hk7 : k = 0 ∨ k = 1 ∨ k = 2 ∨ k = 3 ∨ k = 4 ∨ k = 5 ∨ k = 6 ∨ k = 7 := by omega
  clear hk
  rcases hk7 with rfl | rfl | rfl | rfl | rfl | rfl | rfl | rfl <;> cases e
  all_goals
    go_enter Tryd.func12, Tryd.ntmps12
    go_wp2_with (first
      | (go_at_call 10; refine (OF _ ((((HT.out.alloc _).alloc _).alloc _).alloc _)).out.mono ?_; rintro en w1 ⟨rfl, rfl⟩)
      | (go_at_call 14; refine (J _).out.mono ?_; rintro en w1 ⟨rfl, hb1⟩; have hO := (hb1.block (w.heap.size + 1 + 1) (by simp)).trans (third _ _ _ _ _); have HB := Lib.hid ((four w _ _ _ _).trans (hb1.mono (four w _ _ _ _).size)); clear hb1; have o0 : w1.cell? ⟨w.heap.size + 1 + 1, 0, none⟩ = some (.int .i64 0) := cell_of_row _ _ 0 _ 24 (0, 0) hO; have q0 : w1.frozen? ⟨w.heap.size + 1 + 1, 0, none⟩ = false := (by simp [World.frozen?, hO]); have o1 : w1.cell? ⟨w.heap.size + 1 + 1, 1, none⟩ = some (.int .i64 0) := cell_of_row _ _ 1 _ 24 (0, 0) hO; have q1 : w1.frozen? ⟨w.heap.size + 1 + 1, 1, none⟩ = false := (by simp [World.frozen?, hO]); have o2 : w1.cell? ⟨w.heap.size + 1 + 1, 2, none⟩ = some (.int .i64 0) := cell_of_row _ _ 2 _ 24 (0, 0) hO; have q2 : w1.frozen? ⟨w.heap.size + 1 + 1, 2, none⟩ = false := (by simp [World.frozen?, hO]); have o3 : w1.cell? ⟨w.heap.size + 1 + 1, 3, none⟩ = some (.int .i64 0) := cell_of_row _ _ 3 _ 24 (0, 0) hO; have q3 : w1.frozen? ⟨w.heap.size + 1 + 1, 3, none⟩ = false := (by simp [World.frozen?, hO]); have o4 : w1.cell? ⟨w.heap.size + 1 + 1, 4, none⟩ = some (.int .i64 0) := cell_of_row _ _ 4 _ 24 (0, 0) hO; have q4 : w1.frozen? ⟨w.heap.size + 1 + 1, 4, none⟩ = false := (by simp [World.frozen?, hO]); have o5 : w1.cell? ⟨w.heap.size + 1 + 1, 5, none⟩ = some (.int .i64 0) := cell_of_row _ _ 5 _ 24 (0, 0) hO; have q5 : w1.frozen? ⟨w.heap.size + 1 + 1, 5, none⟩ = false := (by simp [World.frozen?, hO]); have o6 : w1.cell? ⟨w.heap.size + 1 + 1, 6, none⟩ = some (.int .i64 0) := cell_of_row _ _ 6 _ 24 (0, 0) hO; have q6 : w1.frozen? ⟨w.heap.size + 1 + 1, 6, none⟩ = false := (by simp [World.frozen?, hO]); have o7 : w1.cell? ⟨w.heap.size + 1 + 1, 7, none⟩ = some (.int .i64 0) := cell_of_row _ _ 7 _ 24 (0, 0) hO; have q7 : w1.frozen? ⟨w.heap.size + 1 + 1, 7, none⟩ = false := (by simp [World.frozen?, hO]); have o8 : w1.cell? ⟨w.heap.size + 1 + 1, 8, none⟩ = some (.int .i64 0) := cell_of_row _ _ 8 _ 24 (0, 0) hO; have q8 : w1.frozen? ⟨w.heap.size + 1 + 1, 8, none⟩ = false := (by simp [World.frozen?, hO]); have o9 : w1.cell? ⟨w.heap.size + 1 + 1, 9, none⟩ = some (.int .i64 0) := cell_of_row _ _ 9 _ 24 (0, 0) hO; have q9 : w1.frozen? ⟨w.heap.size + 1 + 1, 9, none⟩ = false := (by simp [World.frozen?, hO]); clear hO))
    refine bodyPost_ret (v := .agg #[.int .i64 z0, .int .i64 z1, .int .i64 z2, .int .i64 z3, .int .i64 z4, .int .i64 z5, .int .i64 z6, .int .i64 z7, .int .i64 z8, .int .i64 z9]) (by simp [results, Tryd.results12, go_sem, o0, o1, o2, o3, o4, o5, o6, o7, o8, o9]) rfl ?_
    refine ⟨rfl, ?_⟩
    exact ((((((((((HB.out.setCell (by simp; omega) _).setCell (by simp; omega) _).setCell (by simp; omega) _).setCell (by simp; omega) _).setCell (by simp; omega) _).setCell (by simp; omega) _).setCell (by simp; omega) _).setCell (by simp; omega) _).setCell (by simp; omega) _).setCell (by simp; omega) _)
end Go.Proofs.YtkmcdeejkcncpaaDoor
