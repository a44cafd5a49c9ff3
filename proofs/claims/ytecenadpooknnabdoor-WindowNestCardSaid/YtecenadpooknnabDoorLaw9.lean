/- The three laws of chapter 9, walked. -/
import Derived.Test.YtecenadpooknnabDoorUp
namespace Go.Proofs.YtecenadpooknnabDoor
open Go.RowKit

set_option maxHeartbeats 1000000 in
set_option maxRecDepth 100000 in
theorem wtells (l s n : Int) (w : World) (T : Lens w) : Calls Tryd.prog 4 #[.int .i64 l, .int .i64 s, .int .i64 n] w fun e w' => e = .returned (.bool true) ∧ ∃ k, w' = w.drewN k := by
  have HT := Lib.hid T
  clear T
  go_enter Tryd.func4, Tryd.ntmps4
  go_wp2_with (first
    | (go_at_call 14; refine (alive9 _ (by first | exact HT.out | exact HT.out.drewN _)).mono ?_; rintro e w1 ⟨rfl, rfl⟩)
    | (go_at_call 15; refine (span_any _ _ _ (by first | exact HT.out | exact HT.out.drewN _)).mono ?_; rintro e w1 ⟨rfl, rfl⟩)
    | (go_at_call 16; refine (lasts_any _ _ _).mono ?_; rintro e w1 ⟨rfl, rfl⟩)
    | (go_at_call 17; refine (up_any _ _ _ (by first | exact HT.out | exact HT.out.drewN _)).mono ?_; rintro e w1 ⟨rfl, rfl⟩)
    | (go_at_call 18; refine (rup_any _ _ _).mono ?_; rintro e w1 ⟨rfl, k, rfl⟩)
    | (go_at_call 19; refine (of_any _ _ _ (by first | exact HT.out | exact HT.out.drewN _)).mono ?_; rintro e w1 ⟨rfl, rfl⟩)
    | (go_at_call 20; refine (window_any _ _ _).mono ?_; rintro e w1 ⟨rfl, rfl⟩))
  go_ret
  exact ⟨rfl, _, rfl⟩

set_option maxHeartbeats 1000000 in
theorem wholds_out (l s : Int) (w : World) (T : Lens w) (h : l < 0 ∨ 2 < l ∨ s < 0 ∨ 1099511627776 < s) : Calls Tryd.prog 5 #[.int .i64 l, .int .i64 s] w fun e w' => e = .returned (.bool true) ∧ ∃ k, w' = w.drewN k := by
  have HT := Lib.hid T
  clear T
  have hh : (l < 0) ∨ (¬ l < 0 ∧ 2 < l) ∨ (¬ l < 0 ∧ ¬ 2 < l ∧ s < 0) ∨ (¬ l < 0 ∧ ¬ 2 < l ∧ ¬ s < 0 ∧ 1099511627776 < s) := by omega
  clear h
  rcases hh with h1 | ⟨h1, h2⟩ | ⟨h1, h2, h3⟩ | ⟨h1, h2, h3, h4⟩
  all_goals
    go_enter Tryd.func5, Tryd.ntmps5
    go_wp2_with (go_at_call 14; refine (alive9 _ HT.out).mono ?_; rintro e w1 ⟨rfl, rfl⟩)
    go_ret
    exact ⟨rfl, 0, rfl⟩

set_option maxHeartbeats 1000000 in
set_option maxRecDepth 100000 in
theorem wholds_0 (s : Int) (w : World) (T : Lens w) (h1 : 0 ≤ s) (h2 : s ≤ 1099511627776) : Calls Tryd.prog 5 #[.int .i64 0, .int .i64 s] w fun e w' => e = .returned (.bool true) ∧ ∃ k, w' = w.drewN k := by
  have HT := Lib.hid T
  have hL : Wm.isLevel 0 := by decide
  have hM : Wm.isLevel 1 := by decide
  have hw := Wm.win_of hL rfl h1 h2
  have hv := Wm.win_of hM rfl h1 h2
  rw [show Wm.lens 0 = 60 from rfl] at hw
  rw [show Wm.lens 1 = 3600 from rfl] at hv
  have hn : 0 ≤ s / 60 ∧ s / 60 ≤ 1099511627776 / 60 ∧ s / 60 * 60 ≤ s ∧ s < s / 60 * 60 + 60 := by omega
  obtain ⟨n, hN⟩ : ∃ n, n = s / 60 := ⟨_, rfl⟩
  rw [← hN] at hw hn
  have hm : n * 60 / 3600 = s / 3600 := by omega
  have hm2 : 0 ≤ s / 3600 ∧ s / 3600 ≤ 1099511627776 / 3600 ∧ s / 3600 * 3600 ≤ n * 60 ∧ n * 60 + 60 ≤ s / 3600 * 3600 + 3600 := by omega
  obtain ⟨m, hM2⟩ : ∃ m, m = s / 3600 := ⟨_, rfl⟩
  rw [← hM2] at hv hm hm2
  clear hN hM2
  obtain ⟨n0, n1, n2, n3⟩ := hn
  obtain ⟨m0, m1, m2, m3⟩ := hm2
  have S1 := Lib.hid (Wm.span_of hL (q := 60) rfl n0 n1)
  have S3 := Lib.hid (Wm.span_of hM (q := 3600) rfl m0 m1)
  have U := Wm.up_of hL (q := 60) (r := 3600) rfl rfl n0 n1 (by decide)
  rw [hm] at U
  have HU := Lib.hid U
  have HW := Lib.hid hw
  have HV := Lib.hid hv
  clear T hL hM U hw hv hm
  by_cases hz : 0 < n
  · have S2 := Lib.hid (Wm.span_of (l := 0) (n := n - 1) (q := 60) (by decide) rfl (by omega) (by omega))
    have hne : (((n - 1) * 60 + 60 : Int) != n * 60) = false := by rw [bne_eq_false_iff_eq]; omega
    go_enter Tryd.func5, Tryd.ntmps5
    go_wp2_with (first
      | (go_at_call 14; refine (alive9 _ HT.out).mono ?_; rintro e w1 ⟨rfl, rfl⟩)
      | (go_at_call 15; refine (span_any _ _ _ HT.out).mono ?_; (first | rw [S1.out] | rw [S2.out] | rw [S3.out]); rintro e w1 ⟨rfl, rfl⟩)
      | (go_at_call 17; refine (up_any _ _ _ HT.out).mono ?_; rw [HU.out]; rintro e w1 ⟨rfl, rfl⟩)
      | (go_at_call 19; refine (of_any _ _ _ HT.out).mono ?_; (first | rw [HW.out] | rw [HV.out]); rintro e w1 ⟨rfl, rfl⟩))
    go_ret
    exact ⟨rfl, 0, rfl⟩
  · have S2 := Lib.hid (Wm.span_neg (l := 0) (n := n - 1) (by omega))
    go_enter Tryd.func5, Tryd.ntmps5
    go_wp2_with (first
      | (go_at_call 14; refine (alive9 _ HT.out).mono ?_; rintro e w1 ⟨rfl, rfl⟩)
      | (go_at_call 15; refine (span_any _ _ _ HT.out).mono ?_; (first | rw [S1.out] | rw [S2.out] | rw [S3.out]); rintro e w1 ⟨rfl, rfl⟩)
      | (go_at_call 17; refine (up_any _ _ _ HT.out).mono ?_; rw [HU.out]; rintro e w1 ⟨rfl, rfl⟩)
      | (go_at_call 19; refine (of_any _ _ _ HT.out).mono ?_; (first | rw [HW.out] | rw [HV.out]); rintro e w1 ⟨rfl, rfl⟩))
    go_ret
    exact ⟨rfl, 0, rfl⟩

set_option maxHeartbeats 1000000 in
set_option maxRecDepth 100000 in
theorem wholds_1 (s : Int) (w : World) (T : Lens w) (h1 : 0 ≤ s) (h2 : s ≤ 1099511627776) : Calls Tryd.prog 5 #[.int .i64 1, .int .i64 s] w fun e w' => e = .returned (.bool true) ∧ ∃ k, w' = w.drewN k := by
  have HT := Lib.hid T
  have hL : Wm.isLevel 1 := by decide
  have hM : Wm.isLevel 2 := by decide
  have hw := Wm.win_of hL rfl h1 h2
  have hv := Wm.win_of hM rfl h1 h2
  rw [show Wm.lens 1 = 3600 from rfl] at hw
  rw [show Wm.lens 2 = 86400 from rfl] at hv
  have hn : 0 ≤ s / 3600 ∧ s / 3600 ≤ 1099511627776 / 3600 ∧ s / 3600 * 3600 ≤ s ∧ s < s / 3600 * 3600 + 3600 := by omega
  obtain ⟨n, hN⟩ : ∃ n, n = s / 3600 := ⟨_, rfl⟩
  rw [← hN] at hw hn
  have hm : n * 3600 / 86400 = s / 86400 := by omega
  have hm2 : 0 ≤ s / 86400 ∧ s / 86400 ≤ 1099511627776 / 86400 ∧ s / 86400 * 86400 ≤ n * 3600 ∧ n * 3600 + 3600 ≤ s / 86400 * 86400 + 86400 := by omega
  obtain ⟨m, hM2⟩ : ∃ m, m = s / 86400 := ⟨_, rfl⟩
  rw [← hM2] at hv hm hm2
  clear hN hM2
  obtain ⟨n0, n1, n2, n3⟩ := hn
  obtain ⟨m0, m1, m2, m3⟩ := hm2
  have S1 := Lib.hid (Wm.span_of hL (q := 3600) rfl n0 n1)
  have S3 := Lib.hid (Wm.span_of hM (q := 86400) rfl m0 m1)
  have U := Wm.up_of hL (q := 3600) (r := 86400) rfl rfl n0 n1 (by decide)
  rw [hm] at U
  have HU := Lib.hid U
  have HW := Lib.hid hw
  have HV := Lib.hid hv
  clear T hL hM U hw hv hm
  by_cases hz : 0 < n
  · have S2 := Lib.hid (Wm.span_of (l := 1) (n := n - 1) (q := 3600) (by decide) rfl (by omega) (by omega))
    have hne : (((n - 1) * 3600 + 3600 : Int) != n * 3600) = false := by rw [bne_eq_false_iff_eq]; omega
    go_enter Tryd.func5, Tryd.ntmps5
    go_wp2_with (first
      | (go_at_call 14; refine (alive9 _ HT.out).mono ?_; rintro e w1 ⟨rfl, rfl⟩)
      | (go_at_call 15; refine (span_any _ _ _ HT.out).mono ?_; (first | rw [S1.out] | rw [S2.out] | rw [S3.out]); rintro e w1 ⟨rfl, rfl⟩)
      | (go_at_call 17; refine (up_any _ _ _ HT.out).mono ?_; rw [HU.out]; rintro e w1 ⟨rfl, rfl⟩)
      | (go_at_call 19; refine (of_any _ _ _ HT.out).mono ?_; (first | rw [HW.out] | rw [HV.out]); rintro e w1 ⟨rfl, rfl⟩))
    go_ret
    exact ⟨rfl, 0, rfl⟩
  · have S2 := Lib.hid (Wm.span_neg (l := 1) (n := n - 1) (by omega))
    go_enter Tryd.func5, Tryd.ntmps5
    go_wp2_with (first
      | (go_at_call 14; refine (alive9 _ HT.out).mono ?_; rintro e w1 ⟨rfl, rfl⟩)
      | (go_at_call 15; refine (span_any _ _ _ HT.out).mono ?_; (first | rw [S1.out] | rw [S2.out] | rw [S3.out]); rintro e w1 ⟨rfl, rfl⟩)
      | (go_at_call 17; refine (up_any _ _ _ HT.out).mono ?_; rw [HU.out]; rintro e w1 ⟨rfl, rfl⟩)
      | (go_at_call 19; refine (of_any _ _ _ HT.out).mono ?_; (first | rw [HW.out] | rw [HV.out]); rintro e w1 ⟨rfl, rfl⟩))
    go_ret
    exact ⟨rfl, 0, rfl⟩

set_option maxHeartbeats 1000000 in
set_option maxRecDepth 100000 in
theorem wholds_2 (s : Int) (w : World) (T : Lens w) (h1 : 0 ≤ s) (h2 : s ≤ 1099511627776) : Calls Tryd.prog 5 #[.int .i64 2, .int .i64 s] w fun e w' => e = .returned (.bool true) ∧ ∃ k, w' = w.drewN k := by
  have HT := Lib.hid T
  have hL : Wm.isLevel 2 := by decide
  have hw := Wm.win_of hL rfl h1 h2
  rw [show Wm.lens 2 = 86400 from rfl] at hw
  have hn : 0 ≤ s / 86400 ∧ s / 86400 ≤ 1099511627776 / 86400 ∧ s / 86400 * 86400 ≤ s ∧ s < s / 86400 * 86400 + 86400 := by omega
  generalize s / 86400 = n at *
  obtain ⟨n0, n1, n2, n3⟩ := hn
  have S1 := Lib.hid (Wm.span_of hL (q := 86400) rfl n0 n1)
  have HW := Lib.hid hw
  clear T hL hw
  by_cases hz : 0 < n
  · have S2 := Lib.hid (Wm.span_of (l := 2) (n := n - 1) (q := 86400) (by decide) rfl (by omega) (by omega))
    have hne : (((n - 1) * 86400 + 86400 : Int) != n * 86400) = false := by rw [bne_eq_false_iff_eq]; omega
    go_enter Tryd.func5, Tryd.ntmps5
    go_wp2_with (first
      | (go_at_call 14; refine (alive9 _ HT.out).mono ?_; rintro e w1 ⟨rfl, rfl⟩)
      | (go_at_call 15; refine (span_any _ _ _ HT.out).mono ?_; (first | rw [S1.out] | rw [S2.out]); rintro e w1 ⟨rfl, rfl⟩)
      | (go_at_call 19; refine (of_any _ _ _ HT.out).mono ?_; rw [HW.out]; rintro e w1 ⟨rfl, rfl⟩))
    go_ret
    exact ⟨rfl, 0, rfl⟩
  · have S2 := Lib.hid (Wm.span_neg (l := 2) (n := n - 1) (by omega))
    go_enter Tryd.func5, Tryd.ntmps5
    go_wp2_with (first
      | (go_at_call 14; refine (alive9 _ HT.out).mono ?_; rintro e w1 ⟨rfl, rfl⟩)
      | (go_at_call 15; refine (span_any _ _ _ HT.out).mono ?_; (first | rw [S1.out] | rw [S2.out]); rintro e w1 ⟨rfl, rfl⟩)
      | (go_at_call 19; refine (of_any _ _ _ HT.out).mono ?_; rw [HW.out]; rintro e w1 ⟨rfl, rfl⟩))
    go_ret
    exact ⟨rfl, 0, rfl⟩
end Go.Proofs.YtecenadpooknnabDoor
