/- Whether a span is right. -/
import Derived.Test.YtgldjjmpjaegfaaSr
import Derived.Test.YtgldjjmpjaegfaaSo
import Derived.Test.YtgldjjmpjaegfaaSc
namespace Go.Proofs.Ytgldjjmpjaegfaa
open Go.RowKit
set_option linter.unusedVariables false
set_option maxRecDepth 100000

def right (s : Sp) : Bool := nameB s.sv && (nameB s.op && (decide (0 ≤ s.st) && (decide (s.st ≤ 1099511627776) && (decide (0 ≤ s.du) && (decide (s.du ≤ 1073741824) && rightAts s.ats)))))
set_option maxHeartbeats 8000000 in
theorem right_lit (x0 x1 x2 x3 : Int) (x4 x5 : ByteArray) (x6 x7 : Int) (x8 : Bool) (ats : List (ByteArray × ByteArray)) (xA : Option Addr) (xc n B : Nat) (w : World) (hn : n = ats.length) (hy : RdL w B ⟨⟨x0, x1, x2, x3, x4, x5, x6, x7, x8, ats⟩, xA, xc⟩) (hB : B ≤ w.heap.size) :
    Calls Try.prog 35 #[.agg #[.int .u64 x0, .int .u64 x1, .int .u64 x2, .int .u64 x3, .string x4, .string x5, .int .i64 x6, .int .i64 x7, .bool x8, .slice xA n xc]] w fun e w' => e = .returned (.bool (right ⟨x0, x1, x2, x3, x4, x5, x6, x7, x8, ats⟩)) ∧ Below w.heap.size w w' := by
  have HF : Hid (right ⟨x0, x1, x2, x3, x4, x5, x6, x7, x8, ats⟩ = (nameB x4 && (nameB x5 && (decide (0 ≤ x6) && (decide (x6 ≤ 1099511627776) && (decide (0 ≤ x7) && (decide (x7 ≤ 1073741824) && rightAts ats))))))) := rfl
  generalize right ⟨x0, x1, x2, x3, x4, x5, x6, x7, x8, ats⟩ = b at *
  have hst := hy.ok.st
  have hdu := hy.ok.du
  simp only at hst hdu
  have HW := Lib.hid ((Below.refl w.heap.size w).alloc (Nat.le_refl _) (.cells #[.int .u64 x0, .int .u64 x1, .int .u64 x2, .int .u64 x3, .string x4, .string x5, .int .i64 x6, .int .i64 x7, .bool x8, .slice xA n xc] 34))
  have N1 := fun W => Lib.hid (name_any x4 W hy.ok.sv)
  have N2 := fun W => Lib.hid (name_any x5 W hy.ok.op)
  have hcap := hy.cap
  simp only at hcap
  have hzz : B ≤ (w.alloc (.cells #[.int .u64 x0, .int .u64 x1, .int .u64 x2, .int .u64 x3, .string x4, .string x5, .int .i64 x6, .int .i64 x7, .bool x8, .slice xA n xc] 34)).heap.size := by simp; omega
  have RA := Lib.hid (rightattrs_any xA ats n xc B (w.alloc (.cells #[.int .u64 x0, .int .u64 x1, .int .u64 x2, .int .u64 x3, .string x4, .string x5, .int .i64 x6, .int .i64 x7, .bool x8, .slice xA n xc] 34)) hn (hy.rd.alloc hB _) hzz (by rw [hn]; exact hcap) hy.ok.ats.2)
  clear hy hn hcap hzz
  have hcc : nameB x4 = false ∨ (nameB x4 = true ∧ nameB x5 = false) ∨ ((nameB x4 = true ∧ nameB x5 = true) ∧ x6 < 0) ∨ ((nameB x4 = true ∧ nameB x5 = true) ∧ 0 ≤ x6 ∧ 1099511627776 < x6) ∨ ((nameB x4 = true ∧ nameB x5 = true) ∧ 0 ≤ x6 ∧ x6 ≤ 1099511627776 ∧ x7 < 0) ∨ ((nameB x4 = true ∧ nameB x5 = true) ∧ 0 ≤ x6 ∧ x6 ≤ 1099511627776 ∧ 0 ≤ x7 ∧ 1073741824 < x7) ∨ ((nameB x4 = true ∧ nameB x5 = true) ∧ 0 ≤ x6 ∧ x6 ≤ 1099511627776 ∧ 0 ≤ x7 ∧ x7 ≤ 1073741824) := by
    cases nameB x4 <;> cases nameB x5 <;> simp <;> omega
  rcases hcc with g1 | ⟨g1, g2⟩ | ⟨⟨g1, g2⟩, g3⟩ | ⟨⟨g1, g2⟩, g3, g4⟩ | ⟨⟨g1, g2⟩, g3, g4, g5⟩ | ⟨⟨g1, g2⟩, g3, g4, g5, g6⟩ | ⟨⟨g1, g2⟩, g3, g4, g5, g6⟩
  · have HQ : Hid (b = false) := Lib.hid (by rw [HF.out]; simp [g1])
    rw [g1] at N1
    clear HF g1
    go_enter Try.func35, Try.ntmps35
    go_wp2_with (first | (go_at_call 43; (with_reducible refine (N1 _).out.mono ?_); rintro e w1 ⟨rfl, rfl⟩) | (go_at_call 43; (with_reducible refine (N2 _).out.mono ?_); rintro e w1 ⟨rfl, rfl⟩) | (go_at_call 44; (with_reducible refine (RA.out).mono ?_); rintro e w2 ⟨rfl, hb2⟩; have HB2 := Lib.hid (HW.out.trans (hb2.mono HW.out.size)); clear hb2))
    go_ret
    exact ⟨by rw [HQ.out] <;> rfl, HW.out⟩
  · have HQ : Hid (b = false) := Lib.hid (by rw [HF.out]; simp [g1, g2])
    rw [g1] at N1
    rw [g2] at N2
    clear HF g1 g2
    go_enter Try.func35, Try.ntmps35
    go_wp2_with (first | (go_at_call 43; (with_reducible refine (N1 _).out.mono ?_); rintro e w1 ⟨rfl, rfl⟩) | (go_at_call 43; (with_reducible refine (N2 _).out.mono ?_); rintro e w1 ⟨rfl, rfl⟩) | (go_at_call 44; (with_reducible refine (RA.out).mono ?_); rintro e w2 ⟨rfl, hb2⟩; have HB2 := Lib.hid (HW.out.trans (hb2.mono HW.out.size)); clear hb2))
    go_ret
    exact ⟨by rw [HQ.out] <;> rfl, HW.out⟩
  · have HQ : Hid (b = false) := Lib.hid (by rw [HF.out]; simp [g1, g2]; omega)
    rw [g1] at N1
    rw [g2] at N2
    clear HF g1 g2
    go_enter Try.func35, Try.ntmps35
    go_wp2_with (first | (go_at_call 43; (with_reducible refine (N1 _).out.mono ?_); rintro e w1 ⟨rfl, rfl⟩) | (go_at_call 43; (with_reducible refine (N2 _).out.mono ?_); rintro e w1 ⟨rfl, rfl⟩) | (go_at_call 44; (with_reducible refine (RA.out).mono ?_); rintro e w2 ⟨rfl, hb2⟩; have HB2 := Lib.hid (HW.out.trans (hb2.mono HW.out.size)); clear hb2))
    go_ret
    exact ⟨by rw [HQ.out] <;> rfl, HW.out⟩
  · have HQ : Hid (b = false) := Lib.hid (by rw [HF.out]; simp [g1, g2]; omega)
    rw [g1] at N1
    rw [g2] at N2
    clear HF g1 g2
    go_enter Try.func35, Try.ntmps35
    go_wp2_with (first | (go_at_call 43; (with_reducible refine (N1 _).out.mono ?_); rintro e w1 ⟨rfl, rfl⟩) | (go_at_call 43; (with_reducible refine (N2 _).out.mono ?_); rintro e w1 ⟨rfl, rfl⟩) | (go_at_call 44; (with_reducible refine (RA.out).mono ?_); rintro e w2 ⟨rfl, hb2⟩; have HB2 := Lib.hid (HW.out.trans (hb2.mono HW.out.size)); clear hb2))
    go_ret
    exact ⟨by rw [HQ.out] <;> rfl, HW.out⟩
  · have HQ : Hid (b = false) := Lib.hid (by rw [HF.out]; simp [g1, g2]; omega)
    rw [g1] at N1
    rw [g2] at N2
    clear HF g1 g2
    go_enter Try.func35, Try.ntmps35
    go_wp2_with (first | (go_at_call 43; (with_reducible refine (N1 _).out.mono ?_); rintro e w1 ⟨rfl, rfl⟩) | (go_at_call 43; (with_reducible refine (N2 _).out.mono ?_); rintro e w1 ⟨rfl, rfl⟩) | (go_at_call 44; (with_reducible refine (RA.out).mono ?_); rintro e w2 ⟨rfl, hb2⟩; have HB2 := Lib.hid (HW.out.trans (hb2.mono HW.out.size)); clear hb2))
    go_ret
    exact ⟨by rw [HQ.out] <;> rfl, HW.out⟩
  · have HQ : Hid (b = false) := Lib.hid (by rw [HF.out]; simp [g1, g2]; omega)
    rw [g1] at N1
    rw [g2] at N2
    clear HF g1 g2
    go_enter Try.func35, Try.ntmps35
    go_wp2_with (first | (go_at_call 43; (with_reducible refine (N1 _).out.mono ?_); rintro e w1 ⟨rfl, rfl⟩) | (go_at_call 43; (with_reducible refine (N2 _).out.mono ?_); rintro e w1 ⟨rfl, rfl⟩) | (go_at_call 44; (with_reducible refine (RA.out).mono ?_); rintro e w2 ⟨rfl, hb2⟩; have HB2 := Lib.hid (HW.out.trans (hb2.mono HW.out.size)); clear hb2))
    go_ret
    exact ⟨by rw [HQ.out] <;> rfl, HW.out⟩
  · have HQ : Hid (b = rightAts ats) := Lib.hid (by rw [HF.out]; simp [g1, g2, g3, g4, g5, g6])
    rw [g1] at N1
    rw [g2] at N2
    clear HF g1 g2
    go_enter Try.func35, Try.ntmps35
    go_wp2_with (first | (go_at_call 43; (with_reducible refine (N1 _).out.mono ?_); rintro e w1 ⟨rfl, rfl⟩) | (go_at_call 43; (with_reducible refine (N2 _).out.mono ?_); rintro e w1 ⟨rfl, rfl⟩) | (go_at_call 44; (with_reducible refine (RA.out).mono ?_); rintro e w2 ⟨rfl, hb2⟩; have HB2 := Lib.hid (HW.out.trans (hb2.mono HW.out.size)); clear hb2))
    go_ret
    exact ⟨by rw [HQ.out] <;> rfl, HB2.out⟩
end Go.Proofs.Ytgldjjmpjaegfaa
