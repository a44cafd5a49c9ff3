/- search.Match: is a span all that a query asks for? -/
import Derived.Test.YtmldelgbmadegaaBra
import Derived.Test.YtmldelgbmadegaaSr
import Derived.RegionTactic
import Derived.ChangeAlike
import Derived.BigRegion
namespace Go.Proofs.Ytmldelgbmadegaa
open Go.RowKit
set_option linter.unusedVariables false
set_option linter.unusedSimpArgs false
set_option maxRecDepth 100000

def hasV (ky vl : ByteArray) (l : List (ByteArray × ByteArray)) : Bool := l.any fun a => (ky.toList == a.1.toList) && (vl.toList == a.2.toList)
theorem hasV_eq (ky vl : ByteArray) (l : List (ByteArray × ByteArray)) : hasV ky vl l = hasAt ky vl l := by
  unfold hasV hasAt eqB
  congr 1
  funext a
  rw [Bool.beq_comm (a := ky.toList), Bool.beq_comm (a := vl.toList)]
set_option maxHeartbeats 4000000 in
theorem atindex_any (A : Option Addr) (l : List (ByteArray × ByteArray)) (n c B : Nat) (ky vl : ByteArray) (w : World) (hn : n = l.length) (hy : Rd w B A (l.flatMap atC)) (hB : B ≤ w.heap.size) (hl : n ≤ 100000) :
    Calls Try.prog 128 #[.slice A n c, .agg #[.string ky, .string vl]] w fun e w' => ∃ z : Int, e = .returned (.int .i64 z) ∧ decide (0 ≤ z) = hasV ky vl l ∧ Below w.heap.size w w' := by
  have HN := Lib.hid hn
  have HY := Lib.hid hy
  have HF : Hid (hasV ky vl l = l.any fun a => (ky.toList == a.1.toList) && (vl.toList == a.2.toList)) := Lib.hid rfl
  generalize hasV ky vl l = b at *
  clear hn hy
  go_enter Try.func128, Try.ntmps128
  go_wp2_with fail
  have hbx := heap_alloc_new w (.cells #[.string ky, .string vl] 116)
  have HB0 := Lib.hid ((Below.refl w.heap.size w).alloc (Nat.le_refl _) (.cells #[.string ky, .string vl] 116))
  generalize w.alloc (.cells #[.string ky, .string vl] 116) = W at *
  have HBX := Lib.hid hbx
  clear hbx
  go_loopw [8] (fun i wr => ∃ k : Nat, i = .int .i64 k ∧ k ≤ n ∧ Hid ((l.take k).any (fun a => (ky.toList == a.1.toList) && (vl.toList == a.2.toList)) = false) ∧ Hid (Below w.heap.size w wr ∧ wr.heap[w.heap.size]? = some (.cells #[.string ky, .string vl] 116))) (fun i _ => n - (intOf i).toNat)
  case atStart => exact ⟨0, rfl, Nat.zero_le _, Lib.hid (by simp), Lib.hid ⟨HB0.out, HBX.out⟩⟩
  case round =>
    obtain ⟨k, rfl, hk, HK, HB⟩ := hrel
    have b0 : wr.cell? ⟨w.heap.size, 0, none⟩ = some (.string ky) := cell_of_row _ _ 0 _ _ (0, 0) HB.out.2
    have b1 : wr.cell? ⟨w.heap.size, 1, none⟩ = some (.string vl) := cell_of_row _ _ 1 _ _ (0, 0) HB.out.2
    by_cases hlt : k < n
    · obtain ⟨x, hx⟩ : ∃ x, l[k]? = some x := ⟨_, List.getElem?_eq_getElem (by rw [← HN.out]; exact hlt)⟩
      obtain ⟨a, ha, hab, hc⟩ := (HY.out.below (HB.out.1.mono hB)) (by rw [flatMap_len _ 2 atC_len, ← HN.out]; omega)
      subst ha
      have g0 := flatMap_at atC 2 atC_len l k 0 (by omega)
      have g1 := flatMap_at atC 2 atC_len l k 1 (by omega)
      rw [hx] at g0 g1
      obtain ⟨y1, y2⟩ := x
      have c0 : wr.cell? (a.add (k * 2)) = some (.string y1) := hc (k * 2) _ g0
      have c1 : wr.cell? ⟨(a.add (k * 2)).block, (a.add (k * 2)).off + 1, none⟩ = some (.string y2) := cell_far (hc (k * 2 + 1) _ g1) (by omega)
      have HX := Lib.hid hx
      have HB2 := Lib.hid (show Below w.heap.size w wr.drew ∧ wr.drew.heap[w.heap.size]? = some (.cells #[.string ky, .string vl] 116) from ⟨HB.out.1.drew, HB.out.2⟩)
      clear g0 g1 hc hx
      rcases (show ((ky.toList == y1.toList) = false) ∨ ((ky.toList == y1.toList) = true ∧ (vl.toList == y2.toList) = false) ∨ ((ky.toList == y1.toList) = true ∧ (vl.toList == y2.toList) = true) from by cases (ky.toList == y1.toList) <;> cases (vl.toList == y2.toList) <;> simp) with h1 | ⟨h1, h2⟩ | ⟨h1, h2⟩
      · have HK2 : Hid ((l.take (k + 1)).any (fun a => (ky.toList == a.1.toList) && (vl.toList == a.2.toList)) = false) := Lib.hid (by rw [List.take_add_one, HX.out]; simp [HK.out, h1])
        go_wp2_with fail
        go_region
        go_wp2_with fail
        go_roundw
        case rel => exact ⟨k + 1, by go_num, by omega, HK2, HB2⟩
        case measure => simp [intOf]; omega
      · have HK2 : Hid ((l.take (k + 1)).any (fun a => (ky.toList == a.1.toList) && (vl.toList == a.2.toList)) = false) := Lib.hid (by rw [List.take_add_one, HX.out]; simp [HK.out, h1, h2])
        go_wp2_with fail
        go_region
        go_wp2_with fail
        go_roundw
        case rel => exact ⟨k + 1, by go_num, by omega, HK2, HB2⟩
        case measure => simp [intOf]; omega
      · have HQ : Hid (b = true) := Lib.hid (by rw [HF.out, List.any_eq_true]; exact ⟨_, List.mem_of_getElem? HX.out, by simp [h1, h2]⟩)
        go_wp2_with fail
        go_region
        go_wp2_with fail
        go_ret
        exact ⟨_, rfl, by rw [HQ.out]; exact decide_eq_true (by omega), HB2.out.1⟩
    · obtain rfl : k = n := by omega
      have HQ : Hid (b = false) := Lib.hid (by rw [HF.out]; have := HK.out; rwa [List.take_of_length_le (by rw [← HN.out]; exact Nat.le_refl _)] at this)
      go_wp2_with fail
      go_ret
      exact ⟨_, rfl, by rw [HQ.out]; rfl, HB.out.1⟩
set_option maxHeartbeats 4000000 in
theorem atcontains_any (A : Option Addr) (l : List (ByteArray × ByteArray)) (n c B : Nat) (ky vl : ByteArray) (w : World) (hn : n = l.length) (hy : Rd w B A (l.flatMap atC)) (hB : B ≤ w.heap.size) (hl : n ≤ 100000) :
    Calls Try.prog 110 #[.slice A n c, .agg #[.string ky, .string vl]] w fun e w' => e = .returned (.bool (hasAt ky vl l)) ∧ Below w.heap.size w w' := by
  have hb0 := (Below.refl w.heap.size w).alloc (Nat.le_refl _) (.cells #[.string ky, .string vl] 116)
  have hbx := heap_alloc_new w (.cells #[.string ky, .string vl] 116)
  have HC := Lib.hid (atindex_any A l n c B ky vl (w.alloc (.cells #[.string ky, .string vl] 116)) hn (hy.below (hb0.mono hB)) (Nat.le_trans hB hb0.size) hl)
  rw [hasV_eq] at HC
  generalize hasAt ky vl l = b at *
  have HB0 := Lib.hid hb0
  clear hn hy hb0
  go_enter Try.func110, Try.ntmps110
  go_wp2_with fail
  generalize w.alloc (.cells #[.string ky, .string vl] 116) = W at *
  have b0 : W.cell? ⟨w.heap.size, 0, none⟩ = some (.string ky) := cell_of_row _ _ 0 _ _ (0, 0) hbx
  have b1 : W.cell? ⟨w.heap.size, 1, none⟩ = some (.string vl) := cell_of_row _ _ 1 _ _ (0, 0) hbx
  clear hbx
  go_wp2_with (go_at_call 128; (with_reducible refine HC.out.mono ?_); rintro e w1 ⟨z, rfl, hz, hb1⟩; have HB1 := Lib.hid (HB0.out.trans (hb1.mono HB0.out.size)); have HZ := Lib.hid hz; clear hb1 hz)
  all_goals
    go_ret
    exact ⟨by rw [← HZ.out] <;> rfl, HB1.out⟩
set_option maxHeartbeats 4000000 in
theorem hasattr_any (A : Option Addr) (l : List (ByteArray × ByteArray)) (n c B : Nat) (ky vl : ByteArray) (w : World) (hn : n = l.length) (hy : Rd w B A (l.flatMap atC)) (hB : B ≤ w.heap.size) (hl : n ≤ 100000) :
    Calls Try.prog 82 #[.slice A n c, .string ky, .string vl] w fun e w' => e = .returned (.bool (hasAt ky vl l)) ∧ Below w.heap.size w w' := by
  have HC := Lib.hid (atcontains_any A l n c B ky vl w hn hy hB hl)
  clear hn hy
  go_enter Try.func82, Try.ntmps82
  go_wp2_with (go_at_call 110; (with_reducible refine HC.out.mono ?_); rintro e w1 ⟨rfl, hb1⟩; have HB1 := Lib.hid hb1; clear hb1)
  go_ret
  exact ⟨rfl, HB1.out⟩
set_option maxHeartbeats 16000000 in
theorem match_lit (sv op ky vl : ByteArray) (du : Int) (er : Bool) (hi lo id pa : Int) (xs xo : ByteArray) (st xd : Int) (xe : Bool) (ats : List (ByteArray × ByteArray)) (aA : Option Addr) (m ac B : Nat) (w : World) (hm : m = ats.length) (hy : Rd w B aA (ats.flatMap atC)) (hB : B ≤ w.heap.size) (hl : m ≤ 100000) :
    Calls Try.prog 44 #[.agg #[.string sv, .string op, .string ky, .string vl, .int .i64 du, .bool er], .agg #[.int .u64 hi, .int .u64 lo, .int .u64 id, .int .u64 pa, .string xs, .string xo, .int .i64 st, .int .i64 xd, .bool xe, .slice aA m ac]] w fun e w' => e = .returned (.bool (Qm.mt ⟨sv, op, ky, vl, du, er⟩ ⟨hi, lo, id, pa, xs, xo, st, xd, xe, ats⟩)) ∧ Below w.heap.size w w' := by
  have hb0 := (Below.refl w.heap.size w).alloc (Nat.le_refl _) (.cells #[.string sv, .string op, .string ky, .string vl, .int .i64 du, .bool er] 68)
  have hb1 := hb0.alloc (by simp) (.cells #[.int .u64 hi, .int .u64 lo, .int .u64 id, .int .u64 pa, .string xs, .string xo, .int .i64 st, .int .i64 xd, .bool xe, .slice aA m ac] 71)
  have hz1 : (w.alloc (.cells #[.string sv, .string op, .string ky, .string vl, .int .i64 du, .bool er] 68)).heap.size = w.heap.size + 1 := by simp
  have q0 : ((w.alloc (.cells #[.string sv, .string op, .string ky, .string vl, .int .i64 du, .bool er] 68)).alloc (.cells #[.int .u64 hi, .int .u64 lo, .int .u64 id, .int .u64 pa, .string xs, .string xo, .int .i64 st, .int .i64 xd, .bool xe, .slice aA m ac] 71)).heap[w.heap.size]? = some (.cells #[.string sv, .string op, .string ky, .string vl, .int .i64 du, .bool er] 68) := (heap_alloc_old _ _ (by simp)).trans (heap_alloc_new w _)
  have q1 := heap_alloc_new (w.alloc (.cells #[.string sv, .string op, .string ky, .string vl, .int .i64 du, .bool er] 68)) (.cells #[.int .u64 hi, .int .u64 lo, .int .u64 id, .int .u64 pa, .string xs, .string xo, .int .i64 st, .int .i64 xd, .bool xe, .slice aA m ac] 71)
  rw [hz1] at q1
  have HC := Lib.hid (hasattr_any aA ats m ac B ky vl ((w.alloc (.cells #[.string sv, .string op, .string ky, .string vl, .int .i64 du, .bool er] 68)).alloc (.cells #[.int .u64 hi, .int .u64 lo, .int .u64 id, .int .u64 pa, .string xs, .string xo, .int .i64 st, .int .i64 xd, .bool xe, .slice aA m ac] 71)) hm (hy.below (hb1.mono hB)) (Nat.le_trans hB hb1.size) hl)
  have HB0 := Lib.hid hb1
  unfold Qm.mt
  simp only
  obtain ⟨c1, hc1⟩ : ∃ x, nilB sv = x := ⟨_, rfl⟩
  obtain ⟨c2, hc2⟩ : ∃ x, eqB sv xs = x := ⟨_, rfl⟩
  obtain ⟨c3, hc3⟩ : ∃ x, nilB op = x := ⟨_, rfl⟩
  obtain ⟨c4, hc4⟩ : ∃ x, eqB op xo = x := ⟨_, rfl⟩
  obtain ⟨c5, hc5⟩ : ∃ x, nilB ky = x := ⟨_, rfl⟩
  obtain ⟨c6, hc6⟩ : ∃ x, nilB vl = x := ⟨_, rfl⟩
  obtain ⟨c7, hc7⟩ : ∃ x, hasAt ky vl ats = x := ⟨_, rfl⟩
  obtain ⟨c8, hc8⟩ : ∃ x, (du == 0) = x := ⟨_, rfl⟩
  obtain ⟨c9, hc9⟩ : ∃ x, decide (du ≤ xd) = x := ⟨_, rfl⟩
  rw [hc1, hc2, hc3, hc4, hc5, hc6, hc7, hc8, hc9]
  rw [hc7] at HC
  unfold nilB at hc1 hc3 hc5 hc6
  unfold eqB at hc2 hc4
  clear hm hy hb0 hb1 hz1 hc7
  go_enter Try.func44, Try.ntmps44
  go_upto_region 1 with fail
  generalize ((w.alloc (.cells #[.string sv, .string op, .string ky, .string vl, .int .i64 du, .bool er] 68)).alloc (.cells #[.int .u64 hi, .int .u64 lo, .int .u64 id, .int .u64 pa, .string xs, .string xo, .int .i64 st, .int .i64 xd, .bool xe, .slice aA m ac] 71)) = W at *
  have p0 : W.cell? ⟨w.heap.size, 0, none⟩ = some (.string sv) := cell_of_row _ _ 0 _ _ (0, 0) q0
  have p1 : W.cell? ⟨w.heap.size, 1, none⟩ = some (.string op) := cell_of_row _ _ 1 _ _ (0, 0) q0
  have p2 : W.cell? ⟨w.heap.size, 2, none⟩ = some (.string ky) := cell_of_row _ _ 2 _ _ (0, 0) q0
  have p3 : W.cell? ⟨w.heap.size, 3, none⟩ = some (.string vl) := cell_of_row _ _ 3 _ _ (0, 0) q0
  have p4 : W.cell? ⟨w.heap.size, 4, none⟩ = some (.int .i64 du) := cell_of_row _ _ 4 _ _ (0, 0) q0
  have p5 : W.cell? ⟨w.heap.size, 5, none⟩ = some (.bool er) := cell_of_row _ _ 5 _ _ (0, 0) q0
  have r0 : W.cell? ⟨w.heap.size + 1, 0, none⟩ = some (.int .u64 hi) := cell_of_row _ _ 0 _ _ (0, 0) q1
  have r1 : W.cell? ⟨w.heap.size + 1, 1, none⟩ = some (.int .u64 lo) := cell_of_row _ _ 1 _ _ (0, 0) q1
  have r2 : W.cell? ⟨w.heap.size + 1, 2, none⟩ = some (.int .u64 id) := cell_of_row _ _ 2 _ _ (0, 0) q1
  have r3 : W.cell? ⟨w.heap.size + 1, 3, none⟩ = some (.int .u64 pa) := cell_of_row _ _ 3 _ _ (0, 0) q1
  have r4 : W.cell? ⟨w.heap.size + 1, 4, none⟩ = some (.string xs) := cell_of_row _ _ 4 _ _ (0, 0) q1
  have r5 : W.cell? ⟨w.heap.size + 1, 5, none⟩ = some (.string xo) := cell_of_row _ _ 5 _ _ (0, 0) q1
  have r6 : W.cell? ⟨w.heap.size + 1, 6, none⟩ = some (.int .i64 st) := cell_of_row _ _ 6 _ _ (0, 0) q1
  have r7 : W.cell? ⟨w.heap.size + 1, 7, none⟩ = some (.int .i64 xd) := cell_of_row _ _ 7 _ _ (0, 0) q1
  have r8 : W.cell? ⟨w.heap.size + 1, 8, none⟩ = some (.bool xe) := cell_of_row _ _ 8 _ _ (0, 0) q1
  have r9 : W.cell? ⟨w.heap.size + 1, 9, none⟩ = some (.slice aA m ac) := cell_of_row _ _ 9 _ _ (0, 0) q1
  have HQ0 := Lib.hid q0
  have HQ1 := Lib.hid q1
  clear q0 q1
  go_wp2_with (go_at_call 82; (with_reducible refine HC.out.mono ?_); rintro e w1 ⟨rfl, hb1⟩; have HB1 := Lib.hid (HB0.out.trans (hb1.mono HB0.out.size)); have hq0 := (hb1.block _ (in_heap HQ0.out)).trans HQ0.out; have hq1 := (hb1.block _ (in_heap HQ1.out)).trans HQ1.out; clear p0 p1 p2 p3 p4 p5 r0 r1 r2 r3 r4 r5 r6 r7 r8 r9;  have p0 : w1.cell? ⟨w.heap.size, 0, none⟩ = some (.string sv) := cell_of_row _ _ 0 _ _ (0, 0) hq0;  have p1 : w1.cell? ⟨w.heap.size, 1, none⟩ = some (.string op) := cell_of_row _ _ 1 _ _ (0, 0) hq0;  have p2 : w1.cell? ⟨w.heap.size, 2, none⟩ = some (.string ky) := cell_of_row _ _ 2 _ _ (0, 0) hq0;  have p3 : w1.cell? ⟨w.heap.size, 3, none⟩ = some (.string vl) := cell_of_row _ _ 3 _ _ (0, 0) hq0;  have p4 : w1.cell? ⟨w.heap.size, 4, none⟩ = some (.int .i64 du) := cell_of_row _ _ 4 _ _ (0, 0) hq0;  have p5 : w1.cell? ⟨w.heap.size, 5, none⟩ = some (.bool er) := cell_of_row _ _ 5 _ _ (0, 0) hq0;  have r0 : w1.cell? ⟨w.heap.size + 1, 0, none⟩ = some (.int .u64 hi) := cell_of_row _ _ 0 _ _ (0, 0) hq1;  have r1 : w1.cell? ⟨w.heap.size + 1, 1, none⟩ = some (.int .u64 lo) := cell_of_row _ _ 1 _ _ (0, 0) hq1;  have r2 : w1.cell? ⟨w.heap.size + 1, 2, none⟩ = some (.int .u64 id) := cell_of_row _ _ 2 _ _ (0, 0) hq1;  have r3 : w1.cell? ⟨w.heap.size + 1, 3, none⟩ = some (.int .u64 pa) := cell_of_row _ _ 3 _ _ (0, 0) hq1;  have r4 : w1.cell? ⟨w.heap.size + 1, 4, none⟩ = some (.string xs) := cell_of_row _ _ 4 _ _ (0, 0) hq1;  have r5 : w1.cell? ⟨w.heap.size + 1, 5, none⟩ = some (.string xo) := cell_of_row _ _ 5 _ _ (0, 0) hq1;  have r6 : w1.cell? ⟨w.heap.size + 1, 6, none⟩ = some (.int .i64 st) := cell_of_row _ _ 6 _ _ (0, 0) hq1;  have r7 : w1.cell? ⟨w.heap.size + 1, 7, none⟩ = some (.int .i64 xd) := cell_of_row _ _ 7 _ _ (0, 0) hq1;  have r8 : w1.cell? ⟨w.heap.size + 1, 8, none⟩ = some (.bool xe) := cell_of_row _ _ 8 _ _ (0, 0) hq1;  have r9 : w1.cell? ⟨w.heap.size + 1, 9, none⟩ = some (.slice aA m ac) := cell_of_row _ _ 9 _ _ (0, 0) hq1;  clear hb1 hq0 hq1)
  all_goals
    first
      | (go_ret
         refine ⟨?_, by first | exact HB1.out | exact HB0.out⟩
         clear HC HB0
         simp_all; done)
      | (go_ret
         refine ⟨?_, by first | exact HB1.out | exact HB0.out⟩
         clear HC HB0
         simp_all)
end Go.Proofs.Ytmldelgbmadegaa
