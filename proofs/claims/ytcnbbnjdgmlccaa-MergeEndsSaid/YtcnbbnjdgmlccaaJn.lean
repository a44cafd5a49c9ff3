/- merge.Join of two blocks without episodes. -/
import Derived.Test.YtcnbbnjdgmlccaaPk
import Derived.Laws.MakeOwn
namespace Go.Proofs.Ytcnbbnjdgmlccaa
open Go.RowKit
set_option linter.unusedVariables false
set_option linter.unusedSimpArgs false
set_option maxRecDepth 100000

theorem b_infoEp : (Try.prog.info? 64).map (fun i => (i.zero, i.size, i.bytes)) = some (some (.agg #[.int .u64 0, .int .u64 0, .int .i64 0, .int .i64 0, .bool false, .slice none 0 0]), 6, 64) := by kernel_rfl
theorem ins_none (A : Option Addr) (c : Nat) (v : Value) (w : World) : Calls Try.prog 43 #[.slice A 0 c, .int .i64 0, .int .i64 0, v] w fun e w' => e = .returned (.tuple #[]) ∧ w' = w := by
  go_enter Try.func43, Try.ntmps43
  go_wp2
  refine wp_loop_rounds 1 ?_
  rw [rounds_succ]
  go_wp2
  all_goals first | (exfalso; omega) | (go_end0; exact ⟨rfl, rfl⟩)
theorem stable_none (A : Option Addr) (c : Nat) (v : Value) (w : World) : Calls Try.prog 38 #[.slice A 0 c, .int .i64 0, v] w fun e w' => e = .returned (.tuple #[]) ∧ w' = w := by
  go_enter Try.func38, Try.ntmps38
  go_wp2
  refine wp_loop_rounds 1 ?_
  rw [rounds_succ]
  go_wp2_with (go_at_call 43; refine (ins_none A c v _).mono ?_; rintro e w1 ⟨rfl, rfl⟩)
  refine wp_loop_rounds 1 ?_
  rw [rounds_succ]
  go_wp2
  all_goals first | (exfalso; omega) | (go_end0; exact ⟨rfl, rfl⟩)
theorem sort_none (A : Option Addr) (c : Nat) (v : Value) (w : World) : Calls Try.prog 29 #[.slice A 0 c, v] w fun e w' => e = .returned (.tuple #[]) ∧ w' = w := by
  go_enter Try.func29, Try.ntmps29
  go_wp2_with (go_at_call 38; refine (stable_none A c v _).mono ?_; rintro e w1 ⟨rfl, rfl⟩)
  go_end0
  exact ⟨rfl, rfl⟩
theorem copies_none (A : Option Addr) (c : Nat) (w : World) : Calls Try.prog 28 #[.slice A 0 c] w fun e w' => ∃ (A' : Option Addr) (c' : Nat), e = .returned (.slice A' 0 c') ∧ Below w.heap.size w w' := by
  obtain ⟨i0, hi0, hz0, hz1, hz2⟩ := info_parts b_infoEp
  obtain ⟨wm, hm1, hm2, hm3⟩ := run_make_own (P := Try.prog) w w.heap.size 45 64 i0 _ 6 Try.underlying45 hi0 hz0 hz1 .i64 .i64 0 (by omega) (by unfold maxLen; omega) (Nat.le_refl _)
  have HM3 := Lib.hid (show Below w.heap.size w wm from ⟨hm3.os, hm3.tape, hm3.output, hm3.size, fun i hi => hm3.block i hi (by simp)⟩)
  clear hm2 hm3 hi0 hz0 hz1 hz2
  have hm1' : (Instr.makeSlice 45 (.int .i64 0) (.int .i64 0)).run Try.prog w = .ok (.slice (some ⟨w.heap.size, 0, none⟩) 0 0) wm := hm1
  clear hm1
  go_enter Try.func28, Try.ntmps28
  go_wp2
  refine wp_loop_rounds 1 ?_
  rw [rounds_succ]
  go_wp2
  go_ret
  exact ⟨_, _, rfl, HM3.out⟩
theorem grow_none (w : World) : Calls Try.prog 27 #[.slice none 0 0, .int .i64 0] w fun e w' => e = .returned (.slice none 0 0) ∧ w' = w := by
  go_enter Try.func27, Try.ntmps27
  go_wp2
  go_ret
  exact ⟨rfl, rfl⟩
set_option maxHeartbeats 4000000 in
theorem concat_none (g : Nat) (A1 A2 : Option Addr) (c1 c2 : Nat) (w : World) (h0 : w.cell? ⟨g, 0, none⟩ = some (.slice A1 0 c1)) (h1 : w.cell? ⟨g, 1, none⟩ = some (.slice A2 0 c2)) (hg : g < w.heap.size) :
    Calls Try.prog 20 #[.slice (some ⟨g, 0, none⟩) 2 2] w fun e w' => ∃ (A' : Option Addr) (c' : Nat), e = .returned (.slice A' 0 c') ∧ Below w.heap.size w w' := by
  obtain ⟨i0, hi0, hz0, hz1, hz2⟩ := info_parts b_infoEp
  have HAP := Lib.hid (fun (W : World) (ty : TypeId) (A : Option Addr) (c : Nat) (A' : Option Addr) (c' : Nat) (h : W.ownsRow w.heap.size 64 6 (.slice A 0 c) 0 []) (hb : w.heap.size ≤ W.heap.size) =>
    run_append_rd (P := Try.prog) W w.heap.size 45 ty 64 i0 _ 6 64 Try.underlying45 hi0 hz0 hz1 hz2 rfl (.slice A 0 c) 0 [] h W.heap.size A' 0 c' [] rfl Rd.nil (fun u hu => by cases hu) (by unfold maxLen; omega) (by omega) hb)
  have ha : ∀ k : Nat, (⟨g, 0, none⟩ : Addr).add k = ⟨g, k, none⟩ := fun k => by rw [Addr.add_lit, Nat.zero_add]
  clear hi0 hz0 hz1 hz2
  go_enter Try.func20, Try.ntmps20
  go_wp2
  go_loop [3, 11] (fun s i => ∃ k : Nat, k ≤ 2 ∧ i = .int .i64 k ∧ s = .int .i64 0) (fun _ i => 2 - (intOf i).toNat)
  case atStart => exact ⟨0, Nat.zero_le _, rfl, rfl⟩
  case round =>
    obtain ⟨k, hk, rfl, rfl⟩ := hrel
    rcases (show k = 0 ∨ k = 1 ∨ k = 2 by omega) with rfl | rfl | rfl
    · go_wp2_with fail
      go_round
      case rel => exact ⟨1, by omega, by go_num, by go_num⟩
      case measure => simp [intOf]
    · go_wp2_with fail
      go_round
      case rel => exact ⟨2, by omega, by go_num, by go_num⟩
      case measure => simp [intOf]
    · go_wp2_with (go_at_call 27; refine (grow_none _).mono ?_; rintro e w1 ⟨rfl, hw1⟩; subst w1)
      go_loopw [6, 27] (fun o i wr => ∃ (k : Nat) (A : Option Addr) (c : Nat), k ≤ 2 ∧ i = .int .i64 k ∧ o = .slice A 0 c ∧ Hid (wr.ownsRow w.heap.size 64 6 (.slice A 0 c) 0 []) ∧ Hid (Below w.heap.size w wr)) (fun _ i _ => 2 - (intOf i).toNat)
      case atStart => exact ⟨0, none, 0, Nat.zero_le _, rfl, rfl, World.ownsRow_nil _ _ _ _, Lib.hid (Below.refl _ _)⟩
      case round =>
        obtain ⟨k, A, c, hk, rfl, rfl, HO, HB⟩ := hrel
        have hws := HB.out.size
        have y0 : wr.cell? ⟨g, 0, none⟩ = some (.slice A1 0 c1) := (HB.out.cell (p := ⟨g, 0, none⟩) hg).trans h0
        have y1 : wr.cell? ⟨g, 1, none⟩ = some (.slice A2 0 c2) := (HB.out.cell (p := ⟨g, 1, none⟩) hg).trans h1
        rcases (show k = 0 ∨ k = 1 ∨ k = 2 by omega) with rfl | rfl | rfl
        · go_wp2_with (at_builtin; refine wpList_app rfl (.tmp 31) (.tmp 32) _ _ rfl rfl rfl (HAP.out wr _ A c A1 c1 HO.out hws) ?_; rintro v8 w8 ⟨ho8, hg8⟩; obtain ⟨A8, c8, rfl, _, _⟩ := own_rd ho8; have HO8 := Lib.hid ho8; have HG8 := Lib.hid hg8; clear ho8 hg8)
          go_roundw
          case rel => exact ⟨1, A8, c8, by omega, by go_num, rfl, HO8, Lib.hid (HB.out.grown HG8.out.grown hws (fun r hr => own_block_ge HO.out r hr))⟩
          case measure => simp [intOf]
        · go_wp2_with (at_builtin; refine wpList_app rfl (.tmp 31) (.tmp 32) _ _ rfl rfl rfl (HAP.out wr _ A c A2 c2 HO.out hws) ?_; rintro v8 w8 ⟨ho8, hg8⟩; obtain ⟨A8, c8, rfl, _, _⟩ := own_rd ho8; have HO8 := Lib.hid ho8; have HG8 := Lib.hid hg8; clear ho8 hg8)
          go_roundw
          case rel => exact ⟨2, A8, c8, by omega, by go_num, rfl, HO8, Lib.hid (HB.out.grown HG8.out.grown hws (fun r hr => own_block_ge HO.out r hr))⟩
          case measure => simp [intOf]
        · go_wp2_with fail
          go_ret
          exact ⟨A, c, rfl, HB.out⟩
def b_zero : Array Value := #[.int .i64 0, .int .i64 0, .int .i64 0, .slice none 0 0]
/-- Four cells stored into a block of one's own. -/
theorem four_set (w : World) (g : Nat) (t : TypeId) (z0 z1 z2 z3 v0 v1 v2 v3 : Value) (h : w.heap[g]? = some (.cells #[z0, z1, z2, z3] t (0, 0))) :
    ((((w.setCell ⟨g, 0, none⟩ v0).setCell ⟨g, 1, none⟩ v1).setCell ⟨g, 2, none⟩ v2).setCell ⟨g, 3, none⟩ v3).heap[g]? = some (.cells #[v0, v1, v2, v3] t (0, 0)) :=
  heap_setCell_same _ _ 3 _ _ _ (heap_setCell_same _ _ 2 _ _ _ (heap_setCell_same _ _ 1 _ _ _ (heap_setCell_same _ _ 0 _ _ _ h)))
theorem four_below {B g : Nat} {a w : World} (hg : B ≤ g) (h : Below B a w) (v0 v1 v2 v3 : Value) : Below B a ((((w.setCell ⟨g, 0, none⟩ v0).setCell ⟨g, 1, none⟩ v1).setCell ⟨g, 2, none⟩ v2).setCell ⟨g, 3, none⟩ v3) :=
  (((h.setCell (p := ⟨g, 0, none⟩) hg _).setCell (p := ⟨g, 1, none⟩) hg _).setCell (p := ⟨g, 2, none⟩) hg _).setCell (p := ⟨g, 3, none⟩) hg _
set_option maxHeartbeats 4000000 in
theorem make_none (nu bo ti : Int) (A : Option Addr) (c : Nat) (w : World) : Calls Try.prog 21 #[.int .i64 nu, .int .i64 bo, .int .i64 ti, .slice A 0 c] w fun e w' => ∃ (A' : Option Addr) (c' : Nat), e = .returned (.agg #[.int .i64 nu, .int .i64 bo, .int .i64 ti, .slice A' 0 c']) ∧ Below w.heap.size w w' := by
  have hb0 := (Below.refl w.heap.size w).alloc (Nat.le_refl _) (.cells #[.int .i64 0, .int .i64 0, .int .i64 0, .slice none 0 0] 47)
  have hq0 := heap_alloc_new w (.cells #[.int .i64 0, .int .i64 0, .int .i64 0, .slice none 0 0] 47)
  have hz0 : (w.alloc (.cells #[.int .i64 0, .int .i64 0, .int .i64 0, .slice none 0 0] 47)).heap.size = w.heap.size + 1 := by simp
  obtain ⟨W, hW⟩ : ∃ W, W = w.alloc (.cells #[.int .i64 0, .int .i64 0, .int .i64 0, .slice none 0 0] 47) := ⟨_, rfl⟩
  have HW := Lib.hid hW
  rw [← hW] at hb0 hq0 hz0
  go_enter Try.func21, Try.ntmps21
  go_upto_region 1 with fail
  rw [← HW.out]
  clear hW
  go_upto_region 3 with (first
    | (go_at_call 28; refine (copies_none A c W).mono ?_; rintro e w1 ⟨A1, c1, rfl, hb1⟩; have HB1 := Lib.hid hb1; clear hb1)
    | (go_at_call 29; refine (sort_none _ _ _ _).mono ?_; rintro e w2 ⟨rfl, hw2⟩; subst w2))
  have hq1 : w1.heap[w.heap.size]? = some (.cells #[.int .i64 0, .int .i64 0, .int .i64 0, .slice none 0 0] 47 (0, 0)) := (HB1.out.block w.heap.size (by omega)).trans hq0
  have f0 : w1.frozen? ⟨w.heap.size, 0, none⟩ = false := by simp only [World.frozen?, hq1]; rfl
  have f1 : w1.frozen? ⟨w.heap.size, 1, none⟩ = false := by simp only [World.frozen?, hq1]; rfl
  have f2 : w1.frozen? ⟨w.heap.size, 2, none⟩ = false := by simp only [World.frozen?, hq1]; rfl
  have f3 : w1.frozen? ⟨w.heap.size, 3, none⟩ = false := by simp only [World.frozen?, hq1]; rfl
  have k0 : w1.cell? ⟨w.heap.size, 0, none⟩ = some (.int .i64 0) := cell_of_row _ _ 0 _ _ (0, 0) hq1
  have k1 : w1.cell? ⟨w.heap.size, 1, none⟩ = some (.int .i64 0) := cell_of_row _ _ 1 _ _ (0, 0) hq1
  have k2 : w1.cell? ⟨w.heap.size, 2, none⟩ = some (.int .i64 0) := cell_of_row _ _ 2 _ _ (0, 0) hq1
  have k3 : w1.cell? ⟨w.heap.size, 3, none⟩ = some (.slice none 0 0) := cell_of_row _ _ 3 _ _ (0, 0) hq1
  have H4 := Lib.hid (four_set w1 w.heap.size 47 _ _ _ _ (.int .i64 nu) (.int .i64 bo) (.int .i64 ti) (.slice A1 0 c1) hq1)
  have HBE := Lib.hid (hb0.trans (HB1.out.mono (by omega)))
  have HB4 := Lib.hid (four_below (Nat.le_refl _) HBE.out (.int .i64 nu) (.int .i64 bo) (.int .i64 ti) (.slice A1 0 c1))
  clear hq1 hq0 hb0 hz0
  go_wp2_with fail
  have z0 := cell_of_row _ _ 0 _ _ (0, 0) H4.out
  have z1 := cell_of_row _ _ 1 _ _ (0, 0) H4.out
  have z2 := cell_of_row _ _ 2 _ _ (0, 0) H4.out
  have z3 := cell_of_row _ _ 3 _ _ (0, 0) H4.out
  refine bodyPost_ret (v := .agg #[.int .i64 nu, .int .i64 bo, .int .i64 ti, .slice A1 0 c1]) (by simp [results, Try.results21, go_sem, z0, z1, z2, z3]) rfl ?_
  exact ⟨A1, c1, rfl, HB4.out⟩
end Go.Proofs.Ytcnbbnjdgmlccaa
