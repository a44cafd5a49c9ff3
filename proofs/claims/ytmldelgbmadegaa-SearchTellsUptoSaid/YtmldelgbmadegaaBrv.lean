/- The document's Match. -/
import Derived.Test.YtmldelgbmadegaaBrf
import Derived.RegionTactic
import Derived.ChangeAlike
import Derived.BigRegion
import Derived.Deep.Cut
import Derived.Deep.DeepCutAuto
namespace Go.Proofs.Ytmldelgbmadegaa
open Go.RowKit
set_option linter.unusedVariables false
set_option linter.unusedSimpArgs false
set_option maxRecDepth 100000

theorem match_split : ∀ (c1 c2 c3 c4 h c8 c9 er xe : Bool), ((c1 || c2) && (c3 || c4) && h && (c8 || !c9) && (!er || xe)) = (!((!c1 && !c2) || (!c3 && !c4) || (!c8 && c9) || (er && !xe)) && h) := by decide
set_option maxHeartbeats 32000000 in
theorem dmatch_lit (sv op ky vl : ByteArray) (du : Int) (er : Bool) (hi lo id pa : Int) (xs xo : ByteArray) (st xd : Int) (xe : Bool) (ats : List (ByteArray × ByteArray)) (aA : Option Addr) (m ac B : Nat) (w : World) (hm : m = ats.length) (hy : Rd w B aA (ats.flatMap atC)) (hB : B ≤ w.heap.size) (hl : m ≤ 100000) :
    Calls Try.prog 45 #[.agg #[.string sv, .string op, .string ky, .string vl, .int .i64 du, .bool er], .agg #[.int .u64 hi, .int .u64 lo, .int .u64 id, .int .u64 pa, .string xs, .string xo, .int .i64 st, .int .i64 xd, .bool xe, .slice aA m ac]] w fun e w' => e = .returned (.bool (Qm.mt ⟨sv, op, ky, vl, du, er⟩ ⟨hi, lo, id, pa, xs, xo, st, xd, xe, ats⟩)) ∧ Below w.heap.size w w' := by
  have hb0 := (Below.refl w.heap.size w).alloc (Nat.le_refl _) (.cells #[.string sv, .string op, .string ky, .string vl, .int .i64 du, .bool er] 68)
  have hb1 := hb0.alloc (by simp) (.cells #[.int .u64 hi, .int .u64 lo, .int .u64 id, .int .u64 pa, .string xs, .string xo, .int .i64 st, .int .i64 xd, .bool xe, .slice aA m ac] 71)
  have hz1 : (w.alloc (.cells #[.string sv, .string op, .string ky, .string vl, .int .i64 du, .bool er] 68)).heap.size = w.heap.size + 1 := by simp
  have q0 : ((w.alloc (.cells #[.string sv, .string op, .string ky, .string vl, .int .i64 du, .bool er] 68)).alloc (.cells #[.int .u64 hi, .int .u64 lo, .int .u64 id, .int .u64 pa, .string xs, .string xo, .int .i64 st, .int .i64 xd, .bool xe, .slice aA m ac] 71)).heap[w.heap.size]? = some (.cells #[.string sv, .string op, .string ky, .string vl, .int .i64 du, .bool er] 68) := (heap_alloc_old _ _ (by simp)).trans (heap_alloc_new w _)
  have q1 := heap_alloc_new (w.alloc (.cells #[.string sv, .string op, .string ky, .string vl, .int .i64 du, .bool er] 68)) (.cells #[.int .u64 hi, .int .u64 lo, .int .u64 id, .int .u64 pa, .string xs, .string xo, .int .i64 st, .int .i64 xd, .bool xe, .slice aA m ac] 71)
  rw [hz1] at q1
  have HB0 := Lib.hid hb1
  have HM := Lib.hid hm
  have HY := Lib.hid hy
  obtain ⟨c1, f1⟩ : ∃ x, sv.toList.isEmpty = x := ⟨_, rfl⟩
  obtain ⟨c2, f2⟩ : ∃ x, (sv.toList == xs.toList) = x := ⟨_, rfl⟩
  obtain ⟨c3, f3⟩ : ∃ x, op.toList.isEmpty = x := ⟨_, rfl⟩
  obtain ⟨c4, f4⟩ : ∃ x, (op.toList == xo.toList) = x := ⟨_, rfl⟩
  obtain ⟨c5, f5⟩ : ∃ x, ky.toList.isEmpty = x := ⟨_, rfl⟩
  obtain ⟨c6, f6⟩ : ∃ x, vl.toList.isEmpty = x := ⟨_, rfl⟩
  obtain ⟨c8, f8⟩ : ∃ x, (du == 0) = x := ⟨_, rfl⟩
  obtain ⟨c9, f9⟩ : ∃ x, decide (xd < du) = x := ⟨_, rfl⟩
  obtain ⟨res, hres⟩ : ∃ r, Qm.mt ⟨sv, op, ky, vl, du, er⟩ ⟨hi, lo, id, pa, xs, xo, st, xd, xe, ats⟩ = r := ⟨_, rfl⟩
  have HRES : Hid (res = ((c1 || c2) && (c3 || c4) && (c5 && c6 || hasAt ky vl ats) && (c8 || !c9) && (!er || xe))) := Lib.hid (by
    rw [← hres]
    unfold Qm.mt nilB eqB
    simp only
    rw [f1, f2, f3, f4, f5, f6, f8, ← f9]
    congr 2
    congr 1
    rw [Bool.eq_iff_iff]
    simp)
  rw [hres]
  have HF5 := Lib.hid f5
  have HF6 := Lib.hid f6
  obtain ⟨bad, hbad⟩ : ∃ b, ((!c1 && !c2) || (!c3 && !c4) || (!c8 && c9) || (er && !xe)) = b := ⟨_, rfl⟩
  have HRES := Lib.hid (HRES.out.trans (match_split c1 c2 c3 c4 (c5 && c6 || hasAt ky vl ats) c8 c9 er xe))
  rw [hbad] at HRES
  clear hm hy hb0 hb1 hz1 hres
  go_enter Try.func45, Try.ntmps45
  go_upto_region 1 with fail
  generalize ((w.alloc (.cells #[.string sv, .string op, .string ky, .string vl, .int .i64 du, .bool er] 68)).alloc (.cells #[.int .u64 hi, .int .u64 lo, .int .u64 id, .int .u64 pa, .string xs, .string xo, .int .i64 st, .int .i64 xd, .bool xe, .slice aA m ac] 71)) = W at *
  have HQ0 := Lib.hid q0
  have HQ1 := Lib.hid q1
  have p0 : W.cell? ⟨w.heap.size, 0, none⟩ = some (.string sv) := cell_of_row _ _ 0 _ _ (0, 0) q0
  have p1 : W.cell? ⟨w.heap.size, 1, none⟩ = some (.string op) := cell_of_row _ _ 1 _ _ (0, 0) q0
  have p2 : W.cell? ⟨w.heap.size, 2, none⟩ = some (.string ky) := cell_of_row _ _ 2 _ _ (0, 0) q0
  have p3 : W.cell? ⟨w.heap.size, 3, none⟩ = some (.string vl) := cell_of_row _ _ 3 _ _ (0, 0) q0
  have p4 : W.cell? ⟨w.heap.size, 4, none⟩ = some (.int .i64 du) := cell_of_row _ _ 4 _ _ (0, 0) q0
  have p5 : W.cell? ⟨w.heap.size, 5, none⟩ = some (.bool er) := cell_of_row _ _ 5 _ _ (0, 0) q0
  have r0 : W.cell? ⟨w.heap.size + 1, 0, none⟩ = some (.int .u64 hi) := cell_of_row _ _ 0 _ _ (0, 0) q1
  have r1 : W.cell? ⟨w.heap.size + 1, 1, none⟩ = some (.int .u64 lo) := cell_of_row _ _ 1 _ _ (0, 0) q1
  have r2 : W.cell? ⟨w.heap.size + 1, 2, none⟩ = some (.int .u64 id) := cell_of_row _ _ 2 _ _ (0, 0) q1
  have r3 : W.cell? ⟨w.heap.size + 1, 3, none⟩ = some (.int .u64 pa) := cell_of_row _ _ 3 _ _ (0, 0) q1
  have r4 : W.cell? ⟨w.heap.size + 1, 4, none⟩ = some (.string xs) := cell_of_row _ _ 4 _ _ (0, 0) q1
  have r5 : W.cell? ⟨w.heap.size + 1, 5, none⟩ = some (.string xo) := cell_of_row _ _ 5 _ _ (0, 0) q1
  have r6 : W.cell? ⟨w.heap.size + 1, 6, none⟩ = some (.int .i64 st) := cell_of_row _ _ 6 _ _ (0, 0) q1
  have r7 : W.cell? ⟨w.heap.size + 1, 7, none⟩ = some (.int .i64 xd) := cell_of_row _ _ 7 _ _ (0, 0) q1
  have r8 : W.cell? ⟨w.heap.size + 1, 8, none⟩ = some (.bool xe) := cell_of_row _ _ 8 _ _ (0, 0) q1
  have r9 : W.cell? ⟨w.heap.size + 1, 9, none⟩ = some (.slice aA m ac) := cell_of_row _ _ 9 _ _ (0, 0) q1
  clear q0 q1
  go_cut [49] (fun s49 wx => s49 = .bool bad ∧ W = wx)
  case first =>
    by_cases hd0 : du = 0
    · subst hd0
      obtain rfl : c8 = true := by rw [← f8]; rfl
      cases er <;> cases xe
      all_goals
        go_wp2_with fail
        all_goals
          first
            | (go_meet
               refine ⟨?_, rfl⟩
               rw [← hbad]
               simp_all; done)
            | (exfalso; simp_all; done)
    · obtain rfl : c8 = false := by rw [← f8]; simpa using hd0
      have f8n : (du != 0) = true := by simp [bne, f8]
      cases er <;> cases xe
      all_goals
        go_wp2_with fail
        all_goals
          first
            | (go_meet
               refine ⟨?_, rfl⟩
               rw [← hbad]
               simp_all; done)
            | (exfalso; simp_all; done)
  case rest =>
  obtain ⟨rfl, rfl⟩ := hcut
  clear f1 f2 f3 f4 f8 f9 hbad
  cases bad
  · go_upto_region 3 with fail
    go_cut [5] (fun s5 wx => s5 = .bool (c5 && c6) ∧ W = wx)
    case first =>
      go_wp2_with fail
      all_goals
        go_meet
        refine ⟨?_, rfl⟩
        simp_all
    case rest =>
    obtain ⟨rfl, rfl⟩ := hcut
    clear f5 f6
    go_wp2_with fail
    go_loopw [5, 6] (fun b i wr => ∃ (bb : Bool) (k : Nat), b = .bool bb ∧ i = .int .i64 k ∧ k ≤ m ∧ Hid (bb = (c5 && c6 || hasAt ky vl (ats.take k))) ∧ Hid (Below w.heap.size w wr ∧ wr.heap[w.heap.size]? = some (.cells #[.string sv, .string op, .string ky, .string vl, .int .i64 du, .bool er] 68) ∧ wr.heap[w.heap.size + 1]? = some (.cells #[.int .u64 hi, .int .u64 lo, .int .u64 id, .int .u64 pa, .string xs, .string xo, .int .i64 st, .int .i64 xd, .bool xe, .slice aA m ac] 71))) (fun _ i _ => m - (intOf i).toNat)
    case atStart => exact ⟨_, 0, rfl, rfl, Nat.zero_le _, Lib.hid (by simp [hasAt]), Lib.hid ⟨HB0.out, HQ0.out, HQ1.out⟩⟩
    case round =>
      obtain ⟨bb, k, rfl, rfl, hk, HBB, HBW⟩ := hrel
      have p0 : wr.cell? ⟨w.heap.size, 0, none⟩ = some (.string sv) := cell_of_row _ _ 0 _ _ (0, 0) HBW.out.2.1
      have p1 : wr.cell? ⟨w.heap.size, 1, none⟩ = some (.string op) := cell_of_row _ _ 1 _ _ (0, 0) HBW.out.2.1
      have p2 : wr.cell? ⟨w.heap.size, 2, none⟩ = some (.string ky) := cell_of_row _ _ 2 _ _ (0, 0) HBW.out.2.1
      have p3 : wr.cell? ⟨w.heap.size, 3, none⟩ = some (.string vl) := cell_of_row _ _ 3 _ _ (0, 0) HBW.out.2.1
      have p4 : wr.cell? ⟨w.heap.size, 4, none⟩ = some (.int .i64 du) := cell_of_row _ _ 4 _ _ (0, 0) HBW.out.2.1
      have p5 : wr.cell? ⟨w.heap.size, 5, none⟩ = some (.bool er) := cell_of_row _ _ 5 _ _ (0, 0) HBW.out.2.1
      have r0 : wr.cell? ⟨w.heap.size + 1, 0, none⟩ = some (.int .u64 hi) := cell_of_row _ _ 0 _ _ (0, 0) HBW.out.2.2
      have r1 : wr.cell? ⟨w.heap.size + 1, 1, none⟩ = some (.int .u64 lo) := cell_of_row _ _ 1 _ _ (0, 0) HBW.out.2.2
      have r2 : wr.cell? ⟨w.heap.size + 1, 2, none⟩ = some (.int .u64 id) := cell_of_row _ _ 2 _ _ (0, 0) HBW.out.2.2
      have r3 : wr.cell? ⟨w.heap.size + 1, 3, none⟩ = some (.int .u64 pa) := cell_of_row _ _ 3 _ _ (0, 0) HBW.out.2.2
      have r4 : wr.cell? ⟨w.heap.size + 1, 4, none⟩ = some (.string xs) := cell_of_row _ _ 4 _ _ (0, 0) HBW.out.2.2
      have r5 : wr.cell? ⟨w.heap.size + 1, 5, none⟩ = some (.string xo) := cell_of_row _ _ 5 _ _ (0, 0) HBW.out.2.2
      have r6 : wr.cell? ⟨w.heap.size + 1, 6, none⟩ = some (.int .i64 st) := cell_of_row _ _ 6 _ _ (0, 0) HBW.out.2.2
      have r7 : wr.cell? ⟨w.heap.size + 1, 7, none⟩ = some (.int .i64 xd) := cell_of_row _ _ 7 _ _ (0, 0) HBW.out.2.2
      have r8 : wr.cell? ⟨w.heap.size + 1, 8, none⟩ = some (.bool xe) := cell_of_row _ _ 8 _ _ (0, 0) HBW.out.2.2
      have r9 : wr.cell? ⟨w.heap.size + 1, 9, none⟩ = some (.slice aA m ac) := cell_of_row _ _ 9 _ _ (0, 0) HBW.out.2.2
      by_cases hlt : k < m
      · have HB2 := Lib.hid (show Below w.heap.size w wr.drew ∧ wr.drew.heap[w.heap.size]? = some (.cells #[.string sv, .string op, .string ky, .string vl, .int .i64 du, .bool er] 68) ∧ wr.drew.heap[w.heap.size + 1]? = some (.cells #[.int .u64 hi, .int .u64 lo, .int .u64 id, .int .u64 pa, .string xs, .string xo, .int .i64 st, .int .i64 xd, .bool xe, .slice aA m ac] 71) from ⟨HBW.out.1.drew, HBW.out.2.1, HBW.out.2.2⟩)
        obtain ⟨x, hx⟩ : ∃ x, ats[k]? = some x := ⟨_, List.getElem?_eq_getElem (by rw [← HM.out]; exact hlt)⟩
        have HSTP : Hid (hasAt ky vl (ats.take (k + 1)) = (hasAt ky vl (ats.take k) || (eqB x.1 ky && eqB x.2 vl))) := Lib.hid (by unfold hasAt; rw [List.take_add_one, hx]; simp)
        cases bb
        · obtain ⟨a, ha, hab, hc⟩ := (HY.out.below (HBW.out.1.mono hB)) (by rw [flatMap_len _ 2 atC_len, ← HM.out]; omega)
          subst ha
          have g0 := flatMap_at atC 2 atC_len ats k 0 (by omega)
          have g1 := flatMap_at atC 2 atC_len ats k 1 (by omega)
          rw [hx] at g0 g1
          obtain ⟨y1, y2⟩ := x
          have a0 : wr.cell? (a.add (k * 2)) = some (.string y1) := hc (k * 2) _ g0
          have a1 : wr.cell? ⟨(a.add (k * 2)).block, (a.add (k * 2)).off + 1, none⟩ = some (.string y2) := cell_far (hc (k * 2 + 1) _ g1) (by omega)
          clear g0 g1 hc hx
          rcases (show ((y1.toList == ky.toList) = false) ∨ ((y1.toList == ky.toList) = true ∧ (y2.toList == vl.toList) = false) ∨ ((y1.toList == ky.toList) = true ∧ (y2.toList == vl.toList) = true) from by cases (y1.toList == ky.toList) <;> cases (y2.toList == vl.toList) <;> simp) with h1 | ⟨h1, h2⟩ | ⟨h1, h2⟩
          · have HN : Hid (false = (c5 && c6 || hasAt ky vl (ats.take (k + 1)))) := Lib.hid (by rw [HSTP.out, ← Bool.or_assoc, ← HBB.out]; simp [eqB, h1])
            go_wp2_with fail
            go_region
            go_wp2_with fail
            go_roundw
            case rel => exact ⟨false, k + 1, rfl, by go_num, by omega, HN, HB2⟩
            case measure => simp [intOf]; omega
          · have HN : Hid (false = (c5 && c6 || hasAt ky vl (ats.take (k + 1)))) := Lib.hid (by rw [HSTP.out, ← Bool.or_assoc, ← HBB.out]; simp [eqB, h1, h2])
            go_wp2_with fail
            go_region
            go_wp2_with fail
            go_roundw
            case rel => exact ⟨false, k + 1, rfl, by go_num, by omega, HN, HB2⟩
            case measure => simp [intOf]; omega
          · have HN : Hid (true = (c5 && c6 || hasAt ky vl (ats.take (k + 1)))) := Lib.hid (by rw [HSTP.out, ← Bool.or_assoc, ← HBB.out]; simp [eqB, h1, h2])
            go_wp2_with fail
            go_region
            go_wp2_with fail
            go_roundw
            case rel => exact ⟨true, k + 1, rfl, by go_num, by omega, HN, HB2⟩
            case measure => simp [intOf]; omega
        · have HN : Hid (true = (c5 && c6 || hasAt ky vl (ats.take (k + 1)))) := Lib.hid (by rw [HSTP.out, ← Bool.or_assoc, ← HBB.out]; simp)
          clear hx
          go_wp2_with fail
          go_region
          go_wp2_with fail
          go_roundw
          case rel => exact ⟨true, k + 1, rfl, by go_num, by omega, HN, HB2⟩
          case measure => simp [intOf]; omega
      · obtain rfl : k = m := by omega
        have HTK : Hid (ats.take k = ats) := Lib.hid (List.take_of_length_le (by rw [HM.out]; exact Nat.le_refl _))
        go_wp2_with fail
        go_ret
        exact ⟨by rw [HRES.out, HBB.out, HTK.out] <;> rfl, HBW.out.1⟩
  · go_wp2_with fail
    go_ret
    exact ⟨by rw [HRES.out] <;> rfl, HB0.out⟩

theorem dmatch_any (q : Qm) (x : Ls) (B : Nat) (w : World) (hy : RdL w B x) (hB : B ≤ w.heap.size) (hl : x.s.ats.length ≤ 100000) :
    Calls Try.prog 45 #[.agg q.cells.toArray, .agg x.cells.toArray] w fun e w' => e = .returned (.bool (q.mt x.s)) ∧ Below w.heap.size w w' := by
  obtain ⟨sv, op, ky, vl, du, er⟩ := q
  obtain ⟨⟨hi, lo, id, pa, xs, xo, st, xd, xe, ats⟩, aA, ac⟩ := x
  exact dmatch_lit sv op ky vl du er hi lo id pa xs xo st xd xe ats aA ats.length ac B w rfl hy.rd hB hl
end Go.Proofs.Ytmldelgbmadegaa
