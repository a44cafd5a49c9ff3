/- Chapter 30, path: when a span begins and ends; are all right. -/
import Derived.Test.YtgldjjmpjaegfaaRi
import Derived.Test.YtgldjjmpjaegfaaRr
import Derived.Test.YtgldjjmpjaegfaaRsp
import Derived.Test.YtgldjjmpjaegfaaLx
import Derived.Test.YtgldjjmpjaegfaaSzl
namespace Go.Proofs.Ytgldjjmpjaegfaa
open Go.RowKit
set_option linter.unusedVariables false
set_option linter.unusedSimpArgs false
set_option maxRecDepth 100000

def endB (s : Sp) : Int := if right s = true then s.st * 1000 else 0
def endE (s : Sp) : Int := if right s = true then s.st * 1000 + s.du else 0
set_option maxHeartbeats 8000000 in
theorem ends_lit (x0 x1 x2 x3 : Int) (x4 x5 : ByteArray) (x6 x7 : Int) (x8 : Bool) (ats : List (ByteArray × ByteArray)) (xA : Option Addr) (xc n B : Nat) (w : World) (hn : n = ats.length) (hy : RdL w B ⟨⟨x0, x1, x2, x3, x4, x5, x6, x7, x8, ats⟩, xA, xc⟩) (hB : B ≤ w.heap.size) :
    Calls Try.prog 23 #[.agg #[.int .u64 x0, .int .u64 x1, .int .u64 x2, .int .u64 x3, .string x4, .string x5, .int .i64 x6, .int .i64 x7, .bool x8, .slice xA n xc]] w fun e w' => e = .returned (.tuple #[.int .i64 (endB ⟨x0, x1, x2, x3, x4, x5, x6, x7, x8, ats⟩), .int .i64 (endE ⟨x0, x1, x2, x3, x4, x5, x6, x7, x8, ats⟩)]) ∧ Below w.heap.size w w' := by
  obtain ⟨eB, heB⟩ : ∃ eB, eB = endB ⟨x0, x1, x2, x3, x4, x5, x6, x7, x8, ats⟩ := ⟨_, rfl⟩
  obtain ⟨eE, heE⟩ : ∃ eE, eE = endE ⟨x0, x1, x2, x3, x4, x5, x6, x7, x8, ats⟩ := ⟨_, rfl⟩
  rw [← heB, ← heE]
  have HE := Lib.hid (And.intro heB heE)
  clear heB heE
  obtain ⟨g0, hg0⟩ : ∃ g0, g0 = w.heap.size := ⟨_, rfl⟩
  have hC := heap_alloc_new w (.cells #[.int .u64 x0, .int .u64 x1, .int .u64 x2, .int .u64 x3, .string x4, .string x5, .int .i64 x6, .int .i64 x7, .bool x8, .slice xA n xc] 34)
  have hB0 := (Below.refl w.heap.size w).alloc (Nat.le_refl _) (.cells #[.int .u64 x0, .int .u64 x1, .int .u64 x2, .int .u64 x3, .string x4, .string x5, .int .i64 x6, .int .i64 x7, .bool x8, .slice xA n xc] 34)
  have hs0 : (w.alloc (.cells #[.int .u64 x0, .int .u64 x1, .int .u64 x2, .int .u64 x3, .string x4, .string x5, .int .i64 x6, .int .i64 x7, .bool x8, .slice xA n xc] 34)).heap.size = w.heap.size + 1 := by simp
  have RC0 := Lib.hid (right_lit x0 x1 x2 x3 x4 x5 x6 x7 x8 ats xA xc n B _ hn (hy.below (hB0.mono hB)) (by rw [hs0]; omega))
  have HR := Lib.hid (show right ⟨x0, x1, x2, x3, x4, x5, x6, x7, x8, ats⟩ = true → 0 ≤ x6 ∧ x6 ≤ 1099511627776 ∧ 0 ≤ x7 ∧ x7 ≤ 1073741824 from fun h => by
    unfold right at h
    simp only [Bool.and_eq_true, decide_eq_true_eq] at h
    exact ⟨h.2.2.1, h.2.2.2.1, h.2.2.2.2.1, h.2.2.2.2.2.1⟩)
  rw [← hg0] at hC hs0 hB0 ⊢
  have HSZ := Lib.hid hs0
  have HB0 := Lib.hid hB0
  have HC0 := Lib.hid hC
  have HG0 := Lib.hid hg0
  obtain ⟨W0, hW0⟩ : ∃ W0, W0 = w.alloc (.cells #[.int .u64 x0, .int .u64 x1, .int .u64 x2, .int .u64 x3, .string x4, .string x5, .int .i64 x6, .int .i64 x7, .bool x8, .slice xA n xc] 34) := ⟨_, rfl⟩
  rw [← hW0] at HSZ HB0 HC0 RC0
  have HW0 := Lib.hid hW0
  clear hC hB0 hs0 hg0 hW0 hy hn
  have y0 : W0.cell? ⟨g0, 0, none⟩ = some (.int .u64 x0) := cell_of_row _ _ 0 _ _ (0, 0) HC0.out
  have y1 : W0.cell? ⟨g0, 1, none⟩ = some (.int .u64 x1) := cell_of_row _ _ 1 _ _ (0, 0) HC0.out
  have y2 : W0.cell? ⟨g0, 2, none⟩ = some (.int .u64 x2) := cell_of_row _ _ 2 _ _ (0, 0) HC0.out
  have y3 : W0.cell? ⟨g0, 3, none⟩ = some (.int .u64 x3) := cell_of_row _ _ 3 _ _ (0, 0) HC0.out
  have y4 : W0.cell? ⟨g0, 4, none⟩ = some (.string x4) := cell_of_row _ _ 4 _ _ (0, 0) HC0.out
  have y5 : W0.cell? ⟨g0, 5, none⟩ = some (.string x5) := cell_of_row _ _ 5 _ _ (0, 0) HC0.out
  have y6 : W0.cell? ⟨g0, 6, none⟩ = some (.int .i64 x6) := cell_of_row _ _ 6 _ _ (0, 0) HC0.out
  have y7 : W0.cell? ⟨g0, 7, none⟩ = some (.int .i64 x7) := cell_of_row _ _ 7 _ _ (0, 0) HC0.out
  have y8 : W0.cell? ⟨g0, 8, none⟩ = some (.bool x8) := cell_of_row _ _ 8 _ _ (0, 0) HC0.out
  have y9 : W0.cell? ⟨g0, 9, none⟩ = some (.slice xA n xc) := cell_of_row _ _ 9 _ _ (0, 0) HC0.out
  go_enter Try.func23, Try.ntmps23
  go_upto_region 1 with fail
  rw [← HW0.out]
  rw [← HG0.out]
  obtain ⟨b, hb⟩ : ∃ b, b = right ⟨x0, x1, x2, x3, x4, x5, x6, x7, x8, ats⟩ := ⟨_, rfl⟩
  rw [← hb] at RC0 HR
  cases b
  · have RC := RC0
    clear RC0
    have hE : endB ⟨x0, x1, x2, x3, x4, x5, x6, x7, x8, ats⟩ = 0 ∧ endE ⟨x0, x1, x2, x3, x4, x5, x6, x7, x8, ats⟩ = 0 := by unfold endB endE; rw [← hb]; exact ⟨rfl, rfl⟩
    obtain rfl : eB = 0 := by rw [HE.out.1, hE.1]
    obtain rfl : eE = 0 := by rw [HE.out.2, hE.2]
    clear hb hE
    go_wp2_with (go_at_call 35; (with_reducible refine RC.out.mono ?_); rintro ex w1 ⟨rfl, hb1⟩; have HB1 := Lib.hid hb1; have HC1 := Lib.hid ((HB1.out.block _ (by rw [HSZ.out]; omega)).trans HC0.out); have c6 : w1.cell? ⟨g0, 6, none⟩ = some (.int .i64 x6) := cell_of_row _ _ 6 _ _ (0, 0) HC1.out; have c7 : w1.cell? ⟨g0, 7, none⟩ = some (.int .i64 x7) := cell_of_row _ _ 7 _ _ (0, 0) HC1.out; clear hb1)
    go_ret2
    exact ⟨rfl, HB0.out.trans (HB1.out.mono (by rw [HSZ.out]; omega))⟩
  · have RC := RC0
    clear RC0
    obtain ⟨bI, hbI⟩ : ∃ bI, bI = x6 * 1000 := ⟨_, rfl⟩
    obtain ⟨eI, heI⟩ : ∃ eI, eI = bI + x7 := ⟨_, rfl⟩
    have hr := HR.out rfl
    have e1 : IntKind.i64.wrap (x6 * 1000) = bI := by rw [IntKind.wrap_i64] <;> omega
    have e2 : IntKind.i64.wrap (bI + x7) = eI := by rw [IntKind.wrap_i64] <;> omega
    have hE : endB ⟨x0, x1, x2, x3, x4, x5, x6, x7, x8, ats⟩ = bI ∧ endE ⟨x0, x1, x2, x3, x4, x5, x6, x7, x8, ats⟩ = eI := by unfold endB endE; rw [← hb, if_pos rfl, if_pos rfl]; exact ⟨hbI.symm, by rw [heI, hbI]⟩
    obtain rfl : eB = bI := by rw [HE.out.1, hE.1]
    obtain rfl : eE = eI := by rw [HE.out.2, hE.2]
    clear hb hE hbI heI hr
    go_upto_region 4 with (go_at_call 35; (with_reducible refine RC.out.mono ?_); rintro ex w1 ⟨rfl, hb1⟩; have HB1 := Lib.hid hb1; have HC1 := Lib.hid ((HB1.out.block _ (by rw [HSZ.out]; omega)).trans HC0.out); have c6 : w1.cell? ⟨g0, 6, none⟩ = some (.int .i64 x6) := cell_of_row _ _ 6 _ _ (0, 0) HC1.out; have c7 : w1.cell? ⟨g0, 7, none⟩ = some (.int .i64 x7) := cell_of_row _ _ 7 _ _ (0, 0) HC1.out; clear hb1)
    refine wp_region_quiet_lex (by kernel_rfl) (by kernel_rfl) ?_
    repeat (go_big_quiet_step (fail))
    refine wpQuiet_nil ?_
    intro _ hw'
    obtain ⟨nq, hw''⟩ := hw'
    subst hw''
    go_wp2_with fail
    go_ret2
    exact ⟨rfl, (HB0.out.trans (HB1.out.mono (by rw [HSZ.out]; omega))).trans ⟨rfl, rfl, rfl, Nat.le_refl _, fun _ _ => rfl⟩⟩
set_option maxHeartbeats 8000000 in
theorem refends_lit (x0 x1 x2 x3 : Int) (x4 x5 : ByteArray) (x6 x7 : Int) (x8 : Bool) (ats : List (ByteArray × ByteArray)) (xA : Option Addr) (xc n B : Nat) (w : World) (hn : n = ats.length) (hy : RdL w B ⟨⟨x0, x1, x2, x3, x4, x5, x6, x7, x8, ats⟩, xA, xc⟩) (hB : B ≤ w.heap.size) :
    Calls Try.prog 24 #[.agg #[.int .u64 x0, .int .u64 x1, .int .u64 x2, .int .u64 x3, .string x4, .string x5, .int .i64 x6, .int .i64 x7, .bool x8, .slice xA n xc]] w fun e w' => e = .returned (.tuple #[.int .i64 (endB ⟨x0, x1, x2, x3, x4, x5, x6, x7, x8, ats⟩), .int .i64 (endE ⟨x0, x1, x2, x3, x4, x5, x6, x7, x8, ats⟩)]) ∧ Below w.heap.size w w' := by
  obtain ⟨eB, heB⟩ : ∃ eB, eB = endB ⟨x0, x1, x2, x3, x4, x5, x6, x7, x8, ats⟩ := ⟨_, rfl⟩
  obtain ⟨eE, heE⟩ : ∃ eE, eE = endE ⟨x0, x1, x2, x3, x4, x5, x6, x7, x8, ats⟩ := ⟨_, rfl⟩
  rw [← heB, ← heE]
  have HE := Lib.hid (And.intro heB heE)
  clear heB heE
  obtain ⟨g0, hg0⟩ : ∃ g0, g0 = w.heap.size := ⟨_, rfl⟩
  have hC := heap_alloc_new w (.cells #[.int .u64 x0, .int .u64 x1, .int .u64 x2, .int .u64 x3, .string x4, .string x5, .int .i64 x6, .int .i64 x7, .bool x8, .slice xA n xc] 34)
  have hB0 := (Below.refl w.heap.size w).alloc (Nat.le_refl _) (.cells #[.int .u64 x0, .int .u64 x1, .int .u64 x2, .int .u64 x3, .string x4, .string x5, .int .i64 x6, .int .i64 x7, .bool x8, .slice xA n xc] 34)
  have hs0 : (w.alloc (.cells #[.int .u64 x0, .int .u64 x1, .int .u64 x2, .int .u64 x3, .string x4, .string x5, .int .i64 x6, .int .i64 x7, .bool x8, .slice xA n xc] 34)).heap.size = w.heap.size + 1 := by simp
  have RC0 := Lib.hid (rightspan_lit x0 x1 x2 x3 x4 x5 x6 x7 x8 ats xA xc n B _ hn (hy.below (hB0.mono hB)) (by rw [hs0]; omega))
  have HR := Lib.hid (show right ⟨x0, x1, x2, x3, x4, x5, x6, x7, x8, ats⟩ = true → 0 ≤ x6 ∧ x6 ≤ 1099511627776 ∧ 0 ≤ x7 ∧ x7 ≤ 1073741824 from fun h => by
    unfold right at h
    simp only [Bool.and_eq_true, decide_eq_true_eq] at h
    exact ⟨h.2.2.1, h.2.2.2.1, h.2.2.2.2.1, h.2.2.2.2.2.1⟩)
  rw [← hg0] at hC hs0 hB0 ⊢
  have HSZ := Lib.hid hs0
  have HB0 := Lib.hid hB0
  have HC0 := Lib.hid hC
  have HG0 := Lib.hid hg0
  obtain ⟨W0, hW0⟩ : ∃ W0, W0 = w.alloc (.cells #[.int .u64 x0, .int .u64 x1, .int .u64 x2, .int .u64 x3, .string x4, .string x5, .int .i64 x6, .int .i64 x7, .bool x8, .slice xA n xc] 34) := ⟨_, rfl⟩
  rw [← hW0] at HSZ HB0 HC0 RC0
  have HW0 := Lib.hid hW0
  clear hC hB0 hs0 hg0 hW0 hy hn
  have y0 : W0.cell? ⟨g0, 0, none⟩ = some (.int .u64 x0) := cell_of_row _ _ 0 _ _ (0, 0) HC0.out
  have y1 : W0.cell? ⟨g0, 1, none⟩ = some (.int .u64 x1) := cell_of_row _ _ 1 _ _ (0, 0) HC0.out
  have y2 : W0.cell? ⟨g0, 2, none⟩ = some (.int .u64 x2) := cell_of_row _ _ 2 _ _ (0, 0) HC0.out
  have y3 : W0.cell? ⟨g0, 3, none⟩ = some (.int .u64 x3) := cell_of_row _ _ 3 _ _ (0, 0) HC0.out
  have y4 : W0.cell? ⟨g0, 4, none⟩ = some (.string x4) := cell_of_row _ _ 4 _ _ (0, 0) HC0.out
  have y5 : W0.cell? ⟨g0, 5, none⟩ = some (.string x5) := cell_of_row _ _ 5 _ _ (0, 0) HC0.out
  have y6 : W0.cell? ⟨g0, 6, none⟩ = some (.int .i64 x6) := cell_of_row _ _ 6 _ _ (0, 0) HC0.out
  have y7 : W0.cell? ⟨g0, 7, none⟩ = some (.int .i64 x7) := cell_of_row _ _ 7 _ _ (0, 0) HC0.out
  have y8 : W0.cell? ⟨g0, 8, none⟩ = some (.bool x8) := cell_of_row _ _ 8 _ _ (0, 0) HC0.out
  have y9 : W0.cell? ⟨g0, 9, none⟩ = some (.slice xA n xc) := cell_of_row _ _ 9 _ _ (0, 0) HC0.out
  go_enter Try.func24, Try.ntmps24
  go_upto_region 1 with fail
  rw [← HW0.out]
  rw [← HG0.out]
  obtain ⟨b, hb⟩ : ∃ b, b = right ⟨x0, x1, x2, x3, x4, x5, x6, x7, x8, ats⟩ := ⟨_, rfl⟩
  rw [← hb] at RC0 HR
  cases b
  · have RC := RC0
    clear RC0
    have hE : endB ⟨x0, x1, x2, x3, x4, x5, x6, x7, x8, ats⟩ = 0 ∧ endE ⟨x0, x1, x2, x3, x4, x5, x6, x7, x8, ats⟩ = 0 := by unfold endB endE; rw [← hb]; exact ⟨rfl, rfl⟩
    obtain rfl : eB = 0 := by rw [HE.out.1, hE.1]
    obtain rfl : eE = 0 := by rw [HE.out.2, hE.2]
    clear hb hE
    go_wp2_with (go_at_call 36; (with_reducible refine RC.out.mono ?_); rintro ex w1 ⟨rfl, hb1⟩; have HB1 := Lib.hid hb1; have HC1 := Lib.hid ((HB1.out.block _ (by rw [HSZ.out]; omega)).trans HC0.out); have c6 : w1.cell? ⟨g0, 6, none⟩ = some (.int .i64 x6) := cell_of_row _ _ 6 _ _ (0, 0) HC1.out; have c7 : w1.cell? ⟨g0, 7, none⟩ = some (.int .i64 x7) := cell_of_row _ _ 7 _ _ (0, 0) HC1.out; clear hb1)
    go_ret2
    exact ⟨rfl, HB0.out.trans (HB1.out.mono (by rw [HSZ.out]; omega))⟩
  · have RC := RC0
    clear RC0
    obtain ⟨bI, hbI⟩ : ∃ bI, bI = x6 * 1000 := ⟨_, rfl⟩
    obtain ⟨eI, heI⟩ : ∃ eI, eI = bI + x7 := ⟨_, rfl⟩
    have hr := HR.out rfl
    have e1 : IntKind.i64.wrap (x6 * 1000) = bI := by rw [IntKind.wrap_i64] <;> omega
    have e2 : IntKind.i64.wrap (bI + x7) = eI := by rw [IntKind.wrap_i64] <;> omega
    have hE : endB ⟨x0, x1, x2, x3, x4, x5, x6, x7, x8, ats⟩ = bI ∧ endE ⟨x0, x1, x2, x3, x4, x5, x6, x7, x8, ats⟩ = eI := by unfold endB endE; rw [← hb, if_pos rfl, if_pos rfl]; exact ⟨hbI.symm, by rw [heI, hbI]⟩
    obtain rfl : eB = bI := by rw [HE.out.1, hE.1]
    obtain rfl : eE = eI := by rw [HE.out.2, hE.2]
    clear hb hE hbI heI hr
    go_upto_region 3 with (go_at_call 36; (with_reducible refine RC.out.mono ?_); rintro ex w1 ⟨rfl, hb1⟩; have HB1 := Lib.hid hb1; have HC1 := Lib.hid ((HB1.out.block _ (by rw [HSZ.out]; omega)).trans HC0.out); have c6 : w1.cell? ⟨g0, 6, none⟩ = some (.int .i64 x6) := cell_of_row _ _ 6 _ _ (0, 0) HC1.out; have c7 : w1.cell? ⟨g0, 7, none⟩ = some (.int .i64 x7) := cell_of_row _ _ 7 _ _ (0, 0) HC1.out; clear hb1)
    refine wp_region_quiet_lex (by kernel_rfl) (by kernel_rfl) ?_
    repeat (go_big_quiet_step (fail))
    refine wpQuiet_nil ?_
    intro _ hw'
    obtain ⟨nq, hw''⟩ := hw'
    subst hw''
    go_wp2_with fail
    go_ret2
    exact ⟨rfl, (HB0.out.trans (HB1.out.mono (by rw [HSZ.out]; omega))).trans ⟨rfl, rfl, rfl, Nat.le_refl _, fun _ _ => rfl⟩⟩

set_option maxHeartbeats 8000000 in
theorem pright_any (A : Option Addr) (l : List Ls) (n c B : Nat) (w : World) (hn : n = l.length) (hy : RdSps w B A l) (hB : B ≤ w.heap.size) (hl : n ≤ 100000) :
    Calls Try.prog 37 #[.slice A n c] w fun e w' => e = .returned (.bool (l.all fun x => right x.s)) ∧ Below w.heap.size w w' := by
  have HN := Lib.hid hn
  generalize hfw : (l.all fun x => right x.s) = fw at *
  have HQ : Hid (fw = l.all fun x => right x.s) := Lib.hid hfw.symm
  have HY := Lib.hid hy
  clear hy hn hfw
  go_enter Try.func37, Try.ntmps37
  go_upto_region 2 with fail
  go_loopw [4, 7] (fun v4 i wr => ∃ k : Nat, i = .int .i64 k ∧ k ≤ n ∧ Hid ((l.take k).all (fun x => right x.s) = true) ∧ Hid (Below w.heap.size w wr)) (fun _ i _ => n - (intOf i).toNat)
  case atStart => exact ⟨0, rfl, by omega, Lib.hid (by simp), Lib.hid (Below.refl _ _)⟩
  case round =>
    obtain ⟨k, rfl, hk, HK, HB⟩ := hrel
    by_cases hlt : k < n
    · obtain ⟨x, hx⟩ : ∃ x, l[k]? = some x := ⟨_, List.getElem?_eq_getElem (by rw [← HN.out]; exact hlt)⟩
      have HR : Hid (RdSps wr B A l) := Lib.hid (HY.out.below (HB.out.mono hB))
      obtain ⟨a, ha, _, hc, hl2⟩ := HR.out.at_ hx
      subst ha
      obtain ⟨⟨x0, x1, x2, x3, x4, x5, x6, x7, x8, ats⟩, xA, xc⟩ := x
      have c0 := hc 0 _ rfl
      have c1 := cell_far (hc 1 _ rfl) (by omega)
      have c2 := cell_far (hc 2 _ rfl) (by omega)
      have c3 := cell_far (hc 3 _ rfl) (by omega)
      have c4 := cell_far (hc 4 _ rfl) (by omega)
      have c5 := cell_far (hc 5 _ rfl) (by omega)
      have c6 := cell_far (hc 6 _ rfl) (by omega)
      have c7 := cell_far (hc 7 _ rfl) (by omega)
      have c8 := cell_far (hc 8 _ rfl) (by omega)
      obtain ⟨m, hm⟩ : ∃ m, m = ats.length := ⟨_, rfl⟩
      have c9 : wr.cell? ⟨(a.add (k * 10)).block, (a.add (k * 10)).off + 9, none⟩ = some (.slice xA m xc) := by rw [hm]; exact cell_far (hc 9 _ rfl) (by omega)
      simp only [Nat.add_zero] at c0
      have HX := Lib.hid hx
      have hB5 := (Below.refl wr.heap.size wr).alloc (Nat.le_refl _) (.cells #[.int .u64 x0, .int .u64 x1, .int .u64 x2, .int .u64 x3, .string x4, .string x5, .int .i64 x6, .int .i64 x7, .bool x8, .slice xA m xc] 34)
      have F := Lib.hid (right_lit x0 x1 x2 x3 x4 x5 x6 x7 x8 ats xA xc m B _ hm (hl2.below (hB5.mono (Nat.le_trans hB HB.out.size))) (by simp; have := HB.out.size; omega))
      have HB5 := Lib.hid (HB.out.trans (hB5.mono HB.out.size))
      have HZ5 := Lib.hid hB5.size
      have i0 : (0 : Int) ≤ (k : Int) := by omega
      have i1 : (k : Int) < (n : Int) := by omega
      clear hc hl2 hx hm hB5
      cases hfx : right ⟨x0, x1, x2, x3, x4, x5, x6, x7, x8, ats⟩
      · have HP := Lib.hid (all_not (fun x : Ls => right x.s) l k _ HX.out hfx)
        rw [hfx] at F
        clear hfx
        go_wp2_with (go_at_call 35; (with_reducible refine (F.out).mono ?_); rintro e w1 ⟨rfl, hb1⟩; have HB1 := Lib.hid (HB5.out.trans (hb1.mono (Nat.le_trans HB.out.size HZ5.out))); clear hb1)
        go_ret
        exact ⟨by rw [HQ.out, HP.out] <;> rfl, HB1.out⟩
      · have HP := Lib.hid (all_take_succ (fun x : Ls => right x.s) l k _ HX.out HK.out hfx)
        rw [hfx] at F
        clear hfx
        go_wp2_with (go_at_call 35; (with_reducible refine (F.out).mono ?_); rintro e w1 ⟨rfl, hb1⟩; have HB1 := Lib.hid (HB5.out.trans (hb1.mono (Nat.le_trans HB.out.size HZ5.out))); clear hb1)
        go_roundw
        case rel => exact ⟨k + 1, by go_num, by omega, HP, HB1⟩
        case measure => simp [intOf]; omega
    · obtain rfl : n = k := by omega
      clear hlt
      go_wp2_with fail
      go_ret
      have h := HK.out
      rw [List.take_of_length_le (by rw [← HN.out]; exact Nat.le_refl _)] at h
      exact ⟨by rw [HQ.out, h] <;> rfl, HB.out⟩
end Go.Proofs.Ytgldjjmpjaegfaa
