/- WindowNest, walked. -/
import Derived.Test.YtecenadpooknnabDoorLaw9
namespace Go.Proofs.YtecenadpooknnabDoor
open Go.RowKit

set_option maxHeartbeats 1000000 in
theorem wnest_out (l n : Int) (w : World) (T : Lens w) (h : l < 0 ∨ 1 < l ∨ n < 0 ∨ 16777216 < n) : Calls Tryd.prog 6 #[.int .i64 l, .int .i64 n] w fun e w' => e = .returned (.bool true) ∧ Below w.heap.size w w' := by
  have HT := Lib.hid T
  clear T
  have hh : (l < 0) ∨ (¬ l < 0 ∧ 1 < l) ∨ (¬ l < 0 ∧ ¬ 1 < l ∧ n < 0) ∨ (¬ l < 0 ∧ ¬ 1 < l ∧ ¬ n < 0 ∧ 16777216 < n) := by omega
  clear h
  rcases hh with h1 | ⟨h1, h2⟩ | ⟨h1, h2, h3⟩ | ⟨h1, h2, h3, h4⟩
  all_goals
    go_enter Tryd.func6, Tryd.ntmps6
    go_wp2_with (go_at_call 14; refine (alive9 _ HT.out).mono ?_; rintro e w1 ⟨rfl, rfl⟩)
    go_ret
    exact ⟨rfl, Below.refl _ _⟩

set_option maxHeartbeats 1000000 in
set_option maxRecDepth 100000 in
theorem wnest_0 (n : Int) (w : World) (T : Lens w) (h1 : 0 ≤ n) (h2 : n ≤ 16777216) : Calls Tryd.prog 6 #[.int .i64 0, .int .i64 n] w fun e w' => e = .returned (.bool true) ∧ Below w.heap.size w w' := by
  have HT := Lib.hid T
  have HT2 := Lib.hid T.alloc
  have hL : Wm.isLevel 0 := by decide
  have hM : Wm.isLevel 1 := by decide
  have hm : 0 ≤ n * 60 / 3600 ∧ n * 60 / 3600 ≤ 16777216 ∧ n * 60 / 3600 * 3600 ≤ n * 60 ∧ n * 60 + 60 ≤ n * 60 / 3600 * 3600 + 3600 := by omega
  have hy : (n + 1) * 60 / 3600 = n * 60 / 3600 ∨ ((n + 1) * 60 / 3600 = n * 60 / 3600 + 1 ∧ n * 60 + 60 = n * 60 / 3600 * 3600 + 3600) := by omega
  have U1 := Wm.up_of hL (n := n) (q := 60) (r := 3600) rfl rfl h1 (by omega) (by decide)
  have U2 := Wm.up_of hL (n := n + 1) (q := 60) (r := 3600) rfl rfl (by omega) (by omega) (by decide)
  have S1 := Wm.span_of hL (n := n) (q := 60) rfl h1 (by omega)
  have V1 := Wm.win_of hM (s := n * 60) (q := 3600) rfl (by omega) (by omega)
  have V2 := Wm.win_of hM (s := n * 60 + 60 - 1) (q := 3600) rfl (by omega) (by omega)
  have e2 : (n * 60 + 60 - 1) / 3600 = n * 60 / 3600 := by omega
  rw [e2] at V2
  generalize n * 60 / 3600 = m at *
  generalize (n + 1) * 60 / 3600 = y at *
  obtain ⟨m0, m1, m2, m3⟩ := hm
  have S3 := Lib.hid (Wm.span_of hM (n := m) (q := 3600) rfl m0 (by omega))
  have HU1 := Lib.hid U1
  have HU2 := Lib.hid U2
  have HS1 := Lib.hid S1
  have HV1 := Lib.hid V1
  have HV2 := Lib.hid V2
  have hne : ((m * 3600 + 3600 - m * 3600 : Int) != 60 * (n * 60 + 60 - n * 60)) = false := by rw [bne_eq_false_iff_eq]; omega
  clear T hL hM U1 U2 S1 V1 V2 e2
  rcases hy with hy | ⟨hy, hy2⟩
  · have b1 : ((y : Int) == m) = true := by rw [beq_iff_eq]; exact hy
    clear hy
    go_enter Tryd.func6, Tryd.ntmps6
    go_wp2_with (first
      | (go_at_call 14; refine (alive9 _ HT.out).mono ?_; rintro e w1 ⟨rfl, rfl⟩)
      | (go_at_call 15; refine (span_any _ _ _ HT.out).mono ?_; (first | rw [HS1.out] | rw [S3.out]); rintro e w1 ⟨rfl, rfl⟩)
      | (go_at_call 17; refine (up_any _ _ _ (by first | exact HT.out | exact HT2.out _)).mono ?_; (first | rw [HU1.out] | rw [HU2.out]); rintro e w1 ⟨rfl, rfl⟩)
      | (go_at_call 19; refine (of_any _ _ _ (by first | exact HT.out | exact HT2.out _)).mono ?_; (first | rw [HV1.out] | rw [HV2.out]); rintro e w1 ⟨rfl, rfl⟩))
    go_ret
    exact ⟨rfl, (Below.refl _ _).alloc (Nat.le_refl _) _⟩
  · have b1 : ((y : Int) == m) = false := by rw [beq_eq_false_iff_ne]; omega
    have b2 : ((y : Int) == m + 1) = true := by rw [beq_iff_eq]; exact hy
    have b3 : ((n * 60 + 60 : Int) == m * 3600 + 3600) = true := by rw [beq_iff_eq]; exact hy2
    clear hy hy2
    go_enter Tryd.func6, Tryd.ntmps6
    go_wp2_with (first
      | (go_at_call 14; refine (alive9 _ HT.out).mono ?_; rintro e w1 ⟨rfl, rfl⟩)
      | (go_at_call 15; refine (span_any _ _ _ HT.out).mono ?_; (first | rw [HS1.out] | rw [S3.out]); rintro e w1 ⟨rfl, rfl⟩)
      | (go_at_call 17; refine (up_any _ _ _ (by first | exact HT.out | exact HT2.out _)).mono ?_; (first | rw [HU1.out] | rw [HU2.out]); rintro e w1 ⟨rfl, rfl⟩)
      | (go_at_call 19; refine (of_any _ _ _ (by first | exact HT.out | exact HT2.out _)).mono ?_; (first | rw [HV1.out] | rw [HV2.out]); rintro e w1 ⟨rfl, rfl⟩))
    go_ret
    exact ⟨rfl, (Below.refl _ _).alloc (Nat.le_refl _) _⟩

set_option maxHeartbeats 1000000 in
set_option maxRecDepth 100000 in
theorem wnest_1 (n : Int) (w : World) (T : Lens w) (h1 : 0 ≤ n) (h2 : n ≤ 16777216) : Calls Tryd.prog 6 #[.int .i64 1, .int .i64 n] w fun e w' => e = .returned (.bool true) ∧ Below w.heap.size w w' := by
  have HT := Lib.hid T
  have HT2 := Lib.hid T.alloc
  have hL : Wm.isLevel 1 := by decide
  have hM : Wm.isLevel 2 := by decide
  have hm : 0 ≤ n * 3600 / 86400 ∧ n * 3600 / 86400 ≤ 16777216 ∧ n * 3600 / 86400 * 86400 ≤ n * 3600 ∧ n * 3600 + 3600 ≤ n * 3600 / 86400 * 86400 + 86400 := by omega
  have hy : (n + 1) * 3600 / 86400 = n * 3600 / 86400 ∨ ((n + 1) * 3600 / 86400 = n * 3600 / 86400 + 1 ∧ n * 3600 + 3600 = n * 3600 / 86400 * 86400 + 86400) := by omega
  have U1 := Wm.up_of hL (n := n) (q := 3600) (r := 86400) rfl rfl h1 (by omega) (by decide)
  have U2 := Wm.up_of hL (n := n + 1) (q := 3600) (r := 86400) rfl rfl (by omega) (by omega) (by decide)
  have S1 := Wm.span_of hL (n := n) (q := 3600) rfl h1 (by omega)
  have V1 := Wm.win_of hM (s := n * 3600) (q := 86400) rfl (by omega) (by omega)
  have V2 := Wm.win_of hM (s := n * 3600 + 3600 - 1) (q := 86400) rfl (by omega) (by omega)
  have e2 : (n * 3600 + 3600 - 1) / 86400 = n * 3600 / 86400 := by omega
  rw [e2] at V2
  generalize n * 3600 / 86400 = m at *
  generalize (n + 1) * 3600 / 86400 = y at *
  obtain ⟨m0, m1, m2, m3⟩ := hm
  have S3 := Lib.hid (Wm.span_of hM (n := m) (q := 86400) rfl m0 (by omega))
  have HU1 := Lib.hid U1
  have HU2 := Lib.hid U2
  have HS1 := Lib.hid S1
  have HV1 := Lib.hid V1
  have HV2 := Lib.hid V2
  have hne : ((m * 86400 + 86400 - m * 86400 : Int) != 24 * (n * 3600 + 3600 - n * 3600)) = false := by rw [bne_eq_false_iff_eq]; omega
  clear T hL hM U1 U2 S1 V1 V2 e2
  rcases hy with hy | ⟨hy, hy2⟩
  · have b1 : ((y : Int) == m) = true := by rw [beq_iff_eq]; exact hy
    clear hy
    go_enter Tryd.func6, Tryd.ntmps6
    go_wp2_with (first
      | (go_at_call 14; refine (alive9 _ HT.out).mono ?_; rintro e w1 ⟨rfl, rfl⟩)
      | (go_at_call 15; refine (span_any _ _ _ HT.out).mono ?_; (first | rw [HS1.out] | rw [S3.out]); rintro e w1 ⟨rfl, rfl⟩)
      | (go_at_call 17; refine (up_any _ _ _ (by first | exact HT.out | exact HT2.out _)).mono ?_; (first | rw [HU1.out] | rw [HU2.out]); rintro e w1 ⟨rfl, rfl⟩)
      | (go_at_call 19; refine (of_any _ _ _ (by first | exact HT.out | exact HT2.out _)).mono ?_; (first | rw [HV1.out] | rw [HV2.out]); rintro e w1 ⟨rfl, rfl⟩))
    go_ret
    exact ⟨rfl, (Below.refl _ _).alloc (Nat.le_refl _) _⟩
  · have b1 : ((y : Int) == m) = false := by rw [beq_eq_false_iff_ne]; omega
    have b2 : ((y : Int) == m + 1) = true := by rw [beq_iff_eq]; exact hy
    have b3 : ((n * 3600 + 3600 : Int) == m * 86400 + 86400) = true := by rw [beq_iff_eq]; exact hy2
    clear hy hy2
    go_enter Tryd.func6, Tryd.ntmps6
    go_wp2_with (first
      | (go_at_call 14; refine (alive9 _ HT.out).mono ?_; rintro e w1 ⟨rfl, rfl⟩)
      | (go_at_call 15; refine (span_any _ _ _ HT.out).mono ?_; (first | rw [HS1.out] | rw [S3.out]); rintro e w1 ⟨rfl, rfl⟩)
      | (go_at_call 17; refine (up_any _ _ _ (by first | exact HT.out | exact HT2.out _)).mono ?_; (first | rw [HU1.out] | rw [HU2.out]); rintro e w1 ⟨rfl, rfl⟩)
      | (go_at_call 19; refine (of_any _ _ _ (by first | exact HT.out | exact HT2.out _)).mono ?_; (first | rw [HV1.out] | rw [HV2.out]); rintro e w1 ⟨rfl, rfl⟩))
    go_ret
    exact ⟨rfl, (Below.refl _ _).alloc (Nat.le_refl _) _⟩
end Go.Proofs.YtecenadpooknnabDoor
