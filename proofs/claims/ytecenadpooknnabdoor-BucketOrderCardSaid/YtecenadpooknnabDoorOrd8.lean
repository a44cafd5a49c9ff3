/- BucketOrder: the example of chapter 8, and the walk. -/
import Derived.Test.YtecenadpooknnabDoorJoin
namespace Go.Proofs.YtecenadpooknnabDoor
open Go.RowKit
theorem of7 : Bm.of 7 = 2 := by decide
theorem of0 : Bm.of 0 = 0 := by decide
theorem ofv1 : Bm.of 1 = 1 := by decide
theorem ofv0 : Bm.of 0 = 0 := by decide
theorem ofv5 : Bm.of 5 = 2 := by decide
theorem ofv4 : Bm.of 4 = 1 := by decide
theorem ofv10 : Bm.of 10 = 3 := by decide
theorem ofv9 : Bm.of 9 = 2 := by decide
theorem ofv50 : Bm.of 50 = 4 := by decide
theorem ofv49 : Bm.of 49 = 3 := by decide
theorem ofv100 : Bm.of 100 = 5 := by decide
theorem ofv99 : Bm.of 99 = 4 := by decide
theorem ofv500 : Bm.of 500 = 6 := by decide
theorem ofv499 : Bm.of 499 = 5 := by decide
theorem ofv1000 : Bm.of 1000 = 7 := by decide
theorem ofv999 : Bm.of 999 = 6 := by decide
theorem okZ : okC [0, 0, 0, 0, 0, 0, 0, 0, 0, 0] := fun i => by
  rcases i with _ | _ | _ | _ | _ | _ | _ | _ | _ | _ | _ <;> simp
theorem okO : okC [1, 1, 0, 0, 1, 0, 0, 0, 0, 0] := fun i => by
  rcases i with _ | _ | _ | _ | _ | _ | _ | _ | _ | _ | _ <;> simp
theorem joinO : joinC [0, 0, 0, 0, 0, 0, 0, 0, 0, 0] [1, 1, 0, 0, 1, 0, 0, 0, 0, 0] 9 = [1, 1, 0, 0, 1, 0, 0, 0, 0, 0] := by decide
theorem third (w : World) (A S Z O : Obj) : ((((w.alloc A).alloc S).alloc Z).alloc O).heap[w.heap.size + 1 + 1]? = some Z := by
  have h := heap_alloc_old (((w.alloc A).alloc S).alloc Z) O (show w.heap.size + 1 + 1 < _ by simp)
  rw [h]
  have := heap_alloc_new ((w.alloc A).alloc S) Z
  simpa using this
theorem four (w : World) (A S Z O : Obj) : Below w.heap.size w ((((w.alloc A).alloc S).alloc Z).alloc O) := ((((Below.refl _ _).alloc (Nat.le_refl _) _).alloc (by simp) _).alloc (by simp; omega) _).alloc (by simp; omega) _

set_option maxHeartbeats 1000000 in
set_option maxRecDepth 100000 in
theorem add7_calls (w : World) (T : Bnds w) : Calls Tryd.prog 36 #[.agg #[.int .i64 0, .int .i64 0, .int .i64 0, .int .i64 0, .int .i64 0, .int .i64 0, .int .i64 0, .int .i64 0, .int .i64 0, .int .i64 0], .agg #[.int .u64 0, .int .u64 0, .int .u64 0, .int .u64 0, .string { data := #[] }, .string { data := #[] }, .int .i64 0, .int .i64 7, .bool true, .slice none 0 0], .int .i64 9] w fun e w' => e = .returned (.agg #[.int .i64 1, .int .i64 1, .int .i64 0, .int .i64 0, .int .i64 1, .int .i64 0, .int .i64 0, .int .i64 0, .int .i64 0, .int .i64 0]) ∧ Below w.heap.size w w' := by
  go_enter Tryd.func36, Tryd.ntmps36
  go_wp2_with (first
    | (go_at_call 13; refine (of_any8 7 _ ((((T.alloc _).alloc _).alloc _).alloc _)).mono ?_; rw [of7]; rintro e w1 ⟨rfl, rfl⟩)
    | (go_at_call 46; refine (join_any [0, 0, 0, 0, 0, 0, 0, 0, 0, 0] [1, 1, 0, 0, 1, 0, 0, 0, 0, 0] 9 _ okZ okO (by decide) (by decide)).mono ?_; rw [joinO]; rintro e w1 ⟨rfl, hb1⟩; simp only [Cv]; have hO := (hb1.block (w.heap.size + 1 + 1) (by simp)).trans (third _ _ _ _ _); have HB := Lib.hid ((four w _ _ _ _).trans (hb1.mono (four w _ _ _ _).size)); clear hb1; have o0 : w1.cell? ⟨w.heap.size + 1 + 1, 0, none⟩ = some (.int .i64 0) := cell_of_row _ _ 0 _ 52 (0, 0) hO; have z0 : w1.frozen? ⟨w.heap.size + 1 + 1, 0, none⟩ = false := (by simp [World.frozen?, hO]); have o1 : w1.cell? ⟨w.heap.size + 1 + 1, 1, none⟩ = some (.int .i64 0) := cell_of_row _ _ 1 _ 52 (0, 0) hO; have z1 : w1.frozen? ⟨w.heap.size + 1 + 1, 1, none⟩ = false := (by simp [World.frozen?, hO]); have o2 : w1.cell? ⟨w.heap.size + 1 + 1, 2, none⟩ = some (.int .i64 0) := cell_of_row _ _ 2 _ 52 (0, 0) hO; have z2 : w1.frozen? ⟨w.heap.size + 1 + 1, 2, none⟩ = false := (by simp [World.frozen?, hO]); have o3 : w1.cell? ⟨w.heap.size + 1 + 1, 3, none⟩ = some (.int .i64 0) := cell_of_row _ _ 3 _ 52 (0, 0) hO; have z3 : w1.frozen? ⟨w.heap.size + 1 + 1, 3, none⟩ = false := (by simp [World.frozen?, hO]); have o4 : w1.cell? ⟨w.heap.size + 1 + 1, 4, none⟩ = some (.int .i64 0) := cell_of_row _ _ 4 _ 52 (0, 0) hO; have z4 : w1.frozen? ⟨w.heap.size + 1 + 1, 4, none⟩ = false := (by simp [World.frozen?, hO]); have o5 : w1.cell? ⟨w.heap.size + 1 + 1, 5, none⟩ = some (.int .i64 0) := cell_of_row _ _ 5 _ 52 (0, 0) hO; have z5 : w1.frozen? ⟨w.heap.size + 1 + 1, 5, none⟩ = false := (by simp [World.frozen?, hO]); have o6 : w1.cell? ⟨w.heap.size + 1 + 1, 6, none⟩ = some (.int .i64 0) := cell_of_row _ _ 6 _ 52 (0, 0) hO; have z6 : w1.frozen? ⟨w.heap.size + 1 + 1, 6, none⟩ = false := (by simp [World.frozen?, hO]); have o7 : w1.cell? ⟨w.heap.size + 1 + 1, 7, none⟩ = some (.int .i64 0) := cell_of_row _ _ 7 _ 52 (0, 0) hO; have z7 : w1.frozen? ⟨w.heap.size + 1 + 1, 7, none⟩ = false := (by simp [World.frozen?, hO]); have o8 : w1.cell? ⟨w.heap.size + 1 + 1, 8, none⟩ = some (.int .i64 0) := cell_of_row _ _ 8 _ 52 (0, 0) hO; have z8 : w1.frozen? ⟨w.heap.size + 1 + 1, 8, none⟩ = false := (by simp [World.frozen?, hO]); have o9 : w1.cell? ⟨w.heap.size + 1 + 1, 9, none⟩ = some (.int .i64 0) := cell_of_row _ _ 9 _ 52 (0, 0) hO; have z9 : w1.frozen? ⟨w.heap.size + 1 + 1, 9, none⟩ = false := (by simp [World.frozen?, hO]); clear hO))
  refine bodyPost_ret (v := .agg #[.int .i64 1, .int .i64 1, .int .i64 0, .int .i64 0, .int .i64 1, .int .i64 0, .int .i64 0, .int .i64 0, .int .i64 0, .int .i64 0]) (by simp [results, Tryd.results36, go_sem, o0, o1, o2, o3, o4, o5, o6, o7, o8, o9]) rfl ?_
  refine ⟨rfl, ?_⟩
  exact (((((((((((HB.out.setCell (by simp; omega) _).setCell (by simp; omega) _).setCell (by simp; omega) _).setCell (by simp; omega) _).setCell (by simp; omega) _).setCell (by simp; omega) _).setCell (by simp; omega) _).setCell (by simp; omega) _).setCell (by simp; omega) _).setCell (by simp; omega) _))

set_option maxHeartbeats 1000000 in
set_option maxRecDepth 100000 in
theorem alive8_calls (w : World) (T : Bnds w) : Calls Tryd.prog 12 #[] w fun e w' => e = .returned (.bool true) ∧ Below w.heap.size w w' := by
  go_enter Tryd.func12, Tryd.ntmps12
  go_wp2_with (first
    | (go_at_call 36; refine (add7_calls w T).mono ?_; rintro e w1 ⟨rfl, hb1⟩; have T1 := Bnds.below T hb1 T.lt)
    | (go_at_call 13; refine (of_any8 0 _ (T1.alloc _)).mono ?_; rw [of0]; rintro e w2 ⟨rfl, rfl⟩))
  go_ret
  exact ⟨rfl, hb1.alloc hb1.size _⟩

set_option maxHeartbeats 2000000 in
set_option maxRecDepth 100000 in
theorem order8 (a b : Int) (w : World) (T : Bnds w) : Calls Tryd.prog 3 #[.int .i64 a, .int .i64 b] w fun e w' => e = .returned (.bool true) ∧ Below w.heap.size w w' := by
  go_enter Tryd.func3, Tryd.ntmps3
  go_wp2_with (go_at_call 12; refine (alive8_calls _ T).mono ?_; rintro e w1 ⟨rfl, hb1⟩; have T1 := Bnds.below T hb1 T.lt)
  have hx : ∀ i, (w1.alloc (.cells #[.int .i64 1, .int .i64 5, .int .i64 10, .int .i64 50, .int .i64 100, .int .i64 500, .int .i64 1000] 3)).cell? ⟨w1.heap.size, i, none⟩ = (#[.int .i64 1, .int .i64 5, .int .i64 10, .int .i64 50, .int .i64 100, .int .i64 500, .int .i64 1000] : Array Value)[i]? := fun i => cell_of_row _ _ i _ 3 (0, 0) (heap_alloc_new w1 _)
  have T2 := T1.alloc (.cells #[.int .i64 1, .int .i64 5, .int .i64 10, .int .i64 50, .int .i64 100, .int .i64 500, .int .i64 1000] 3)
  have B2 := Lib.hid (hb1.alloc hb1.size (.cells #[.int .i64 1, .int .i64 5, .int .i64 10, .int .i64 50, .int .i64 100, .int .i64 500, .int .i64 1000] 3))
  generalize w1.alloc (.cells #[.int .i64 1, .int .i64 5, .int .i64 10, .int .i64 50, .int .i64 100, .int .i64 500, .int .i64 1000] 3) = W2 at *
  generalize w1.heap.size = C at *
  have c0 : W2.cell? ⟨C, 0, none⟩ = some (.int .i64 1) := hx 0
  have c1 : W2.cell? ⟨C, 1, none⟩ = some (.int .i64 5) := hx 1
  have c2 : W2.cell? ⟨C, 2, none⟩ = some (.int .i64 10) := hx 2
  have c3 : W2.cell? ⟨C, 3, none⟩ = some (.int .i64 50) := hx 3
  have c4 : W2.cell? ⟨C, 4, none⟩ = some (.int .i64 100) := hx 4
  have c5 : W2.cell? ⟨C, 5, none⟩ = some (.int .i64 500) := hx 5
  have c6 : W2.cell? ⟨C, 6, none⟩ = some (.int .i64 1000) := hx 6
  have HT := Lib.hid T2
  clear hx T2 T1 hb1
  go_loop [7] (fun i => ∃ k : Nat, k ≤ 7 ∧ i = .int .i64 k) (fun i => 7 - (intOf i).toNat)
  case atStart => exact ⟨0, by omega, rfl⟩
  case round =>
    obtain ⟨k, hk, rfl⟩ := hrel
    by_cases hlt : k < 7
    · have hc : k = 0 ∨ k = 1 ∨ k = 2 ∨ k = 3 ∨ k = 4 ∨ k = 5 ∨ k = 6 := by omega
      rcases hc with rfl | rfl | rfl | rfl | rfl | rfl | rfl
      all_goals
        go_wp2_with (go_at_call 13; refine (of_any8 _ _ HT.out).mono ?_; simp only [ofv1, ofv0, ofv5, ofv4, ofv10, ofv9, ofv50, ofv49, ofv100, ofv99, ofv500, ofv499, ofv1000, ofv999]; rintro e w3 ⟨rfl, rfl⟩)
        go_round
        case rel => first | exact ⟨1, by omega, by go_num⟩ | exact ⟨2, by omega, by go_num⟩ | exact ⟨3, by omega, by go_num⟩ | exact ⟨4, by omega, by go_num⟩ | exact ⟨5, by omega, by go_num⟩ | exact ⟨6, by omega, by go_num⟩ | exact ⟨7, by omega, by go_num⟩
        case measure => simp [intOf]
    · obtain rfl : k = 7 := by omega
      have ha := Bm.of_le a
      have hb := Bm.of_le b
      have hm : a ≤ b → Bm.of a ≤ Bm.of b := Bm.of_mono
      obtain ⟨x, hx⟩ : ∃ x, x = Bm.of a := ⟨_, rfl⟩
      obtain ⟨y, hy⟩ : ∃ y, y = Bm.of b := ⟨_, rfl⟩
      rw [← hx] at ha hm
      rw [← hy] at hb hm
      have HX := Lib.hid hx
      have HY := Lib.hid hy
      clear hx hy
      have hc : (a ≤ b ∧ (x : Int) ≤ y) ∨ b < a := by omega
      clear hm
      have hx0 : (0 : Int) ≤ x := by omega
      have hx8 : (x : Int) < 8 := by omega
      have hy0 : (0 : Int) ≤ y := by omega
      have hy8 : (y : Int) < 8 := by omega
      clear ha hb
      rcases hc with ⟨h1, h2⟩ | h1
      all_goals
        go_wp2_with (first
          | (go_at_call_of 13 a; refine (of_any8 a _ HT.out).mono ?_; rw [← HX.out]; rintro e w3 ⟨rfl, rfl⟩)
          | (go_at_call 13; refine (of_any8 b _ HT.out).mono ?_; rw [← HY.out]; rintro e w3 ⟨rfl, rfl⟩))
        go_ret
        refine ⟨?_, B2.out⟩
        first
          | rfl
          | (have h3 : ¬ y < x := (by omega); simp [h3])
end Go.Proofs.YtecenadpooknnabDoor
