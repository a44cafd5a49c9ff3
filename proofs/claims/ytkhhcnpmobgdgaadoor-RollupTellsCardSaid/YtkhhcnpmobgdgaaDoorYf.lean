/- The rollup's meter is read. -/
import Derived.Test.YtkhhcnpmobgdgaaDoorYe
import Derived.Deep.RegionHeld3
import Derived.Deep.DeepCutAuto
namespace Go.Proofs.YtkhhcnpmobgdgaaDoor
open Go.RowKit
set_option linter.unusedVariables false
set_option linter.unusedSimpArgs false
set_option maxRecDepth 100000

set_option maxHeartbeats 4000000 in
theorem mread_any (M : Nat) (x : List Int) (w : World) (hM : w.heap[M]? = some (.cells (Cv x) 93)) :
    Calls Tryd.prog 60 #[.pointer (some ⟨M, 0, none⟩)] w fun en w' => en = .returned (.agg (Cv x)) ∧ Below w.heap.size w w' := by
  have hMs : M < w.heap.size := by
    rcases Nat.lt_or_ge M w.heap.size with h | h
    · exact h
    · rw [Array.getElem?_eq_none h] at hM; cases hM
  obtain ⟨G, hG⟩ : ∃ G, G = w.heap.size := ⟨_, rfl⟩
  obtain ⟨W0, hW0⟩ : ∃ W0, W0 = w.alloc (.cells #[.int .i64 0, .int .i64 0, .int .i64 0, .int .i64 0, .int .i64 0, .int .i64 0, .int .i64 0, .int .i64 0, .int .i64 0, .int .i64 0] 46) := ⟨_, rfl⟩
  have hB0 : Below G w W0 := by rw [hW0, hG]; exact (Below.refl w.heap.size w).alloc (Nat.le_refl _) _
  have hM0 : W0.heap[M]? = some (.cells (Cv x) 93) := (hB0.block M (by omega)).trans hM
  have hO0 : W0.heap[G]? = some (.cells #[.int .i64 0, .int .i64 0, .int .i64 0, .int .i64 0, .int .i64 0, .int .i64 0, .int .i64 0, .int .i64 0, .int .i64 0, .int .i64 0] 46) := by rw [hW0, hG]; exact heap_alloc_new w _
  have hZ0 : W0.heap.size = G + 1 := by rw [hW0, hG]; simp
  have hMG : M < G := by omega
  have HM := Lib.hid hM0
  have HO := Lib.hid hO0
  have HB := Lib.hid hB0
  have HPT := Lib.hid hW0
  have HPG := Lib.hid hG
  have L0 := Lib.hid (fun (W : World) (h : W.heap[M]? = some (.cells (Cv x) 93)) i (hi : i < 10) => loadO_any M i (x.getD i 0) W (by rw [cell_of_row _ _ i _ _ (0, 0) h, Cv_at x i hi]))
  have HX : Hid (Cv x = #[.int .i64 (x.getD 0 0), .int .i64 (x.getD 1 0), .int .i64 (x.getD 2 0), .int .i64 (x.getD 3 0), .int .i64 (x.getD 4 0), .int .i64 (x.getD 5 0), .int .i64 (x.getD 6 0), .int .i64 (x.getD 7 0), .int .i64 (x.getD 8 0), .int .i64 (x.getD 9 0)]) := rfl
  obtain ⟨p0, e0⟩ : ∃ p, p = x.getD 0 0 := ⟨_, rfl⟩
  obtain ⟨p1, e1⟩ : ∃ p, p = x.getD 1 0 := ⟨_, rfl⟩
  have P0 := Lib.hid (L0.out W0.drew hM0 0 (by decide))
  have P1 := Lib.hid (L0.out W0.drew hM0 1 (by decide))
  rw [← e0] at P0
  rw [← e1] at P1
  have E0 := Lib.hid e0
  have E1 := Lib.hid e1
  clear hM hMs hB0 hM0 hO0 hW0 hG e0 e1
  rw [← HPG.out]
  go_enter Tryd.func60, Tryd.ntmps60
  go_upto_region 1 with fail
  rw [← HPT.out, ← HPG.out]
  have c0 : W0.cell? ⟨M, 0, none⟩ = some (.int .i64 p0) := by rw [cell_of_row _ _ 0 _ _ (0, 0) HM.out, Cv_at x 0 (by decide), E0.out]
  have c1 : W0.cell? ⟨M, 1, none⟩ = some (.int .i64 p1) := by rw [cell_of_row _ _ 1 _ _ (0, 0) HM.out, Cv_at x 1 (by decide), E1.out]
  have HZ := Lib.hid hZ0
  have CA0 := Lib.hid (fun (W : World) (h : W.cell? ⟨M, 0, none⟩ = some (.int .i64 p0)) => show (W.alloc (.cells #[.int .i64 0, .int .i64 0, .int .i64 0, .int .i64 0, .int .i64 0, .int .i64 0, .int .i64 0, .int .i64 0, .int .i64 0, .int .i64 0] 46)).drew.cell? ⟨M, 0, none⟩ = some (.int .i64 p0) from (World.cell?_alloc_lt W _ ⟨M, 0, none⟩ (cell_lt h)).trans h)
  have CA1 := Lib.hid (fun (W : World) (h : W.cell? ⟨M, 1, none⟩ = some (.int .i64 p1)) => show (W.alloc (.cells #[.int .i64 0, .int .i64 0, .int .i64 0, .int .i64 0, .int .i64 0, .int .i64 0, .int .i64 0, .int .i64 0, .int .i64 0, .int .i64 0] 46)).drew.cell? ⟨M, 1, none⟩ = some (.int .i64 p1) from (World.cell?_alloc_lt W _ ⟨M, 1, none⟩ (cell_lt h)).trans h)
  clear P0 P1 hZ0 HPT
  go_cut [3] (fun s3 wx => s3 = .pointer (some ⟨G + 1, 0, none⟩) ∧ Hid (∃ k, wx = (W0.alloc (.cells #[.int .i64 p0, .int .i64 p1, .int .i64 0, .int .i64 0, .int .i64 0, .int .i64 0, .int .i64 0, .int .i64 0, .int .i64 0, .int .i64 0] 46)).drewN k))
  case first =>
    all_goals
      go_region_held3 (fun W' => W'.cell? ⟨M, 0, none⟩ = some (.int .i64 p0) ∧ W'.cell? ⟨M, 1, none⟩ = some (.int .i64 p1))
        (first | go_keep)
        ((first | (go_at_call 78; refine (loadO_any M 0 p0 _ (by first | assumption | exact CA0.out _ (by assumption))).mono ?_; rintro e w1 ⟨rfl, hw⟩; subst hw) | (go_at_call 78; refine (loadO_any M 1 p1 _ (by first | assumption | exact CA1.out _ (by assumption))).mono ?_; rintro e w1 ⟨rfl, hw⟩; subst hw)))
    all_goals
      go_wp2_with fail
      go_meet
      exact ⟨by first | rfl | (rw [HZ.out]), ⟨1, rfl⟩⟩
  case rest =>
    obtain ⟨rfl, HW⟩ := hcut
    have JM : Hid (wc.heap[M]? = some (.cells (Cv x) 93)) := by
      obtain ⟨k, rfl⟩ := HW.out
      exact (((Below.refl W0.heap.size W0).alloc (Nat.le_refl _) _).block M (by have := HZ.out; omega)).trans HM.out
    have JO : Hid (wc.heap[G]? = some (.cells #[.int .i64 0, .int .i64 0, .int .i64 0, .int .i64 0, .int .i64 0, .int .i64 0, .int .i64 0, .int .i64 0, .int .i64 0, .int .i64 0] 46)) := by
      obtain ⟨k, rfl⟩ := HW.out
      exact (((Below.refl W0.heap.size W0).alloc (Nat.le_refl _) _).block G (by have := HZ.out; omega)).trans HO.out
    have JR : Hid (wc.heap[G + 1]? = some (.cells (outA (fun i => x.getD i 0) 0) 46)) := by
      obtain ⟨k, rfl⟩ := HW.out
      have := heap_alloc_new W0 (.cells #[.int .i64 p0, .int .i64 p1, .int .i64 0, .int .i64 0, .int .i64 0, .int .i64 0, .int .i64 0, .int .i64 0, .int .i64 0, .int .i64 0] 46)
      rw [HZ.out] at this
      rw [outA_zero, ← E0.out, ← E1.out]
      exact this
    have JB : Hid (Below G w wc) := by
      obtain ⟨k, rfl⟩ := HW.out
      exact (HB.out.alloc (by have := HZ.out; omega) _).trans ⟨rfl, rfl, rfl, Nat.le_refl _, fun _ _ => rfl⟩
    clear HW HM HO HB HZ E0 E1 c0 c1 CA0 CA1
    go_wp2_with fail
    go_loopw [14] (fun i wr => ∃ k : Nat, i = .int .i64 k ∧ k ≤ 8 ∧ Hid (wr.heap[M]? = some (.cells (Cv x) 93)) ∧ Hid (wr.heap[G]? = some (.cells #[.int .i64 0, .int .i64 0, .int .i64 0, .int .i64 0, .int .i64 0, .int .i64 0, .int .i64 0, .int .i64 0, .int .i64 0, .int .i64 0] 46)) ∧ Hid (wr.heap[G + 1]? = some (.cells (outA (fun i => x.getD i 0) k) 46)) ∧ Hid (Below G w wr)) (fun i _ => 8 - (intOf i).toNat)
    case atStart => exact ⟨0, rfl, Nat.zero_le _, JM, JO, JR, JB⟩
    case round =>
      obtain ⟨k, rfl, hk, KM, KO, KR, KB⟩ := hrel
      by_cases hlt : k < 8
      · have cr := (cell_of_row _ _ (2 + k) _ 46 (0, 0) KR.out).trans (outA_at _ k (2 + k) (by omega))
        rw [if_neg (by omega)] at cr
        have fz : wr.frozen? ⟨G + 1, 2 + k, none⟩ = false := by have h := KR.out; simp [World.frozen?, h]
        have LD := Lib.hid (L0.out wr KM.out (2 + k) (by omega))
        obtain ⟨p, hp⟩ : ∃ p, p = x.getD (2 + k) 0 := ⟨_, rfl⟩
        rw [← hp] at LD
        have HP := Lib.hid hp
        clear hp
        have kk0 : (0 : Int) ≤ (k : Int) := by omega
        have kk1 : (k : Int) < 8 := by omega
        go_wp2_with (go_at_call 78; (with_reducible refine LD.out.mono ?_); rintro e w1 ⟨rfl, hw⟩; subst hw)
        go_roundw
        case rel => exact ⟨k + 1, by go_num, by omega, Lib.hid ((Below.heap_setCell _ _ _ _ (by first | (simp; done) | (simp; omega))).trans KM.out), Lib.hid ((Below.heap_setCell _ _ _ _ (by first | (simp; done) | (simp; omega))).trans KO.out), Lib.hid (by have := Go.Joins.block_setCell (i := 2 + k) KR.out (.int .i64 (x.getD (2 + k) 0)); rw [outA_set (fun i => x.getD i 0) k, ← HP.out] at this; exact this), Lib.hid (KB.out.setCell (by simp; try omega) _)⟩
        case measure => simp [intOf]; omega
      · obtain rfl : k = 8 := by omega
        have r : ∀ i, i < 10 → wr.cell? ⟨G + 1, i, none⟩ = some (.int .i64 (x.getD i 0)) := fun i hi => by
          rw [cell_of_row _ _ i _ 46 (0, 0) KR.out, outA_at _ 8 i hi, if_pos (by omega)]
        have r0 := r 0 (by decide)
        have o0 : wr.cell? ⟨G, 0, none⟩ = some (.int .i64 0) := cell_of_row _ _ 0 _ 46 (0, 0) KO.out
        have z0 : wr.frozen? ⟨G, 0, none⟩ = false := by have h := KO.out; simp [World.frozen?, h]
        have r1 := r 1 (by decide)
        have o1 : wr.cell? ⟨G, 1, none⟩ = some (.int .i64 0) := cell_of_row _ _ 1 _ 46 (0, 0) KO.out
        have z1 : wr.frozen? ⟨G, 1, none⟩ = false := by have h := KO.out; simp [World.frozen?, h]
        have r2 := r 2 (by decide)
        have o2 : wr.cell? ⟨G, 2, none⟩ = some (.int .i64 0) := cell_of_row _ _ 2 _ 46 (0, 0) KO.out
        have z2 : wr.frozen? ⟨G, 2, none⟩ = false := by have h := KO.out; simp [World.frozen?, h]
        have r3 := r 3 (by decide)
        have o3 : wr.cell? ⟨G, 3, none⟩ = some (.int .i64 0) := cell_of_row _ _ 3 _ 46 (0, 0) KO.out
        have z3 : wr.frozen? ⟨G, 3, none⟩ = false := by have h := KO.out; simp [World.frozen?, h]
        have r4 := r 4 (by decide)
        have o4 : wr.cell? ⟨G, 4, none⟩ = some (.int .i64 0) := cell_of_row _ _ 4 _ 46 (0, 0) KO.out
        have z4 : wr.frozen? ⟨G, 4, none⟩ = false := by have h := KO.out; simp [World.frozen?, h]
        have r5 := r 5 (by decide)
        have o5 : wr.cell? ⟨G, 5, none⟩ = some (.int .i64 0) := cell_of_row _ _ 5 _ 46 (0, 0) KO.out
        have z5 : wr.frozen? ⟨G, 5, none⟩ = false := by have h := KO.out; simp [World.frozen?, h]
        have r6 := r 6 (by decide)
        have o6 : wr.cell? ⟨G, 6, none⟩ = some (.int .i64 0) := cell_of_row _ _ 6 _ 46 (0, 0) KO.out
        have z6 : wr.frozen? ⟨G, 6, none⟩ = false := by have h := KO.out; simp [World.frozen?, h]
        have r7 := r 7 (by decide)
        have o7 : wr.cell? ⟨G, 7, none⟩ = some (.int .i64 0) := cell_of_row _ _ 7 _ 46 (0, 0) KO.out
        have z7 : wr.frozen? ⟨G, 7, none⟩ = false := by have h := KO.out; simp [World.frozen?, h]
        have r8 := r 8 (by decide)
        have o8 : wr.cell? ⟨G, 8, none⟩ = some (.int .i64 0) := cell_of_row _ _ 8 _ 46 (0, 0) KO.out
        have z8 : wr.frozen? ⟨G, 8, none⟩ = false := by have h := KO.out; simp [World.frozen?, h]
        have r9 := r 9 (by decide)
        have o9 : wr.cell? ⟨G, 9, none⟩ = some (.int .i64 0) := cell_of_row _ _ 9 _ 46 (0, 0) KO.out
        have z9 : wr.frozen? ⟨G, 9, none⟩ = false := by have h := KO.out; simp [World.frozen?, h]
        have HBK := Lib.hid KB.out
        clear r KM KO KR L0 KB
        generalize x.getD 0 0 = v0 at *
        generalize x.getD 1 0 = v1 at *
        generalize x.getD 2 0 = v2 at *
        generalize x.getD 3 0 = v3 at *
        generalize x.getD 4 0 = v4 at *
        generalize x.getD 5 0 = v5 at *
        generalize x.getD 6 0 = v6 at *
        generalize x.getD 7 0 = v7 at *
        generalize x.getD 8 0 = v8 at *
        generalize x.getD 9 0 = v9 at *
        go_wp2_with fail
        refine bodyPost_ret (v := .agg #[.int .i64 v0, .int .i64 v1, .int .i64 v2, .int .i64 v3, .int .i64 v4, .int .i64 v5, .int .i64 v6, .int .i64 v7, .int .i64 v8, .int .i64 v9]) (by simp [results, Tryd.results60, go_sem, o0, o1, o2, o3, o4, o5, o6, o7, o8, o9]) rfl ?_
        refine ⟨by rw [HX.out], ?_⟩
        exact ((((((((((HBK.out.setCell (by show _ ≤ _; simp) _).setCell (by simp) _).setCell (by simp) _).setCell (by simp) _).setCell (by simp) _).setCell (by simp) _).setCell (by simp) _).setCell (by simp) _).setCell (by simp) _).setCell (by simp) _)
end Go.Proofs.YtkhhcnpmobgdgaaDoor
