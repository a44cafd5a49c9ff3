/- When a window begins and ends, by the code and by the document. -/
import Derived.Test.YtkhhcnpmobgdgaaDoorWin
namespace Go.Proofs.YtkhhcnpmobgdgaaDoor
open Go.RowKit

set_option maxHeartbeats 1000000 in
theorem span_no (l n : Int) (w : World) (h : ¬ Wm.isLevel l) : Calls Tryd.prog 35 #[.int .i64 l, .int .i64 n] w fun e w' => e = .returned (.tuple #[.int .i64 0, .int .i64 0, .bool false]) ∧ w = w' := by
  have HG := Lib.hid (length_out l w h)
  clear h
  go_enter Tryd.func35, Tryd.ntmps35
  go_wp2_with (go_at_call 62; refine HG.out.mono ?_; rintro e w1 ⟨rfl, rfl⟩)
  go_ret3
  exact ⟨rfl, rfl⟩
set_option maxHeartbeats 1000000 in
theorem span_any (l n : Int) (w : World) (T : Lens w) : Calls Tryd.prog 35 #[.int .i64 l, .int .i64 n] w fun e w' => e = .returned (.tuple #[.int .i64 (Wm.span l n).1, .int .i64 (Wm.span l n).2.1, .bool (Wm.span l n).2.2]) ∧ w = w' := by
  by_cases h : Wm.isLevel l
  · have HG := Lib.hid (length_in l w h T)
    clear T
    have HL := Lib.hid h
    obtain ⟨q1, q2⟩ := Wm.lens_bd h
    obtain ⟨q3, q4⟩ := Wm.quo_bd q1
    clear h
    by_cases h1 : 0 ≤ n ∧ n ≤ 1099511627776 / Wm.lens l
    · obtain ⟨⟨b1, b2⟩, b3, b4⟩ := Wm.bounds q1 q2 h1.1 h1.2
      have H : Hid (Wm.span l n = (n * Wm.lens l, n * Wm.lens l + Wm.lens l, true)) := by unfold Wm.span; rw [if_pos ⟨HL.out, h1⟩]; rfl
      obtain ⟨h2, h3⟩ := h1
      have B3 := Lib.hid b3
      have b5 : 0 ≤ (n + 1) * Wm.lens l := by omega
      have b6 : (n + 1) * Wm.lens l ≤ 1099511714176 := by omega
      clear b3 HL
      generalize Wm.lens l = q at *
      go_enter Tryd.func35, Tryd.ntmps35
      go_wp2_with (first | (go_at_call 62; refine HG.out.mono ?_; rintro e w1 ⟨rfl, rfl⟩))
      go_ret3
      exact ⟨by rw [H.out]; first | rfl | (rw [← B3.out]; rfl), rfl⟩
    · have H : Hid (Wm.span l n = (0, 0, false)) := by unfold Wm.span; rw [if_neg (fun x => h1 x.2)]; rfl
      have hh : n < 0 ∨ (0 ≤ n ∧ 1099511627776 / Wm.lens l < n) := by omega
      clear h1 HL
      generalize Wm.lens l = q at *
      rcases hh with hh | ⟨hh0, hh⟩
      all_goals
        go_enter Tryd.func35, Tryd.ntmps35
        go_wp2_with (first | (go_at_call 62; refine HG.out.mono ?_; rintro e w1 ⟨rfl, rfl⟩))
        go_ret3
        exact ⟨by rw [H.out]; rfl, rfl⟩
  · refine (span_no l n w h).mono ?_
    rintro e w1 ⟨rfl, rfl⟩
    have H : Wm.span l n = (0, 0, false) := by unfold Wm.span; rw [if_neg (fun x => h x.1)]
    exact ⟨by rw [H], rfl⟩

set_option maxHeartbeats 1000000 in
theorem lasts_no (l n : Int) (w : World) (h : ¬ Wm.isLevel l) : Calls Tryd.prog 27 #[.int .i64 l, .int .i64 n] w fun e w' => e = .returned (.tuple #[.int .i64 0, .int .i64 0, .bool false]) ∧ w = w' := by
  have hz := Wm.lens_out h; have G := long_any l w; rw [hz] at G; have HG := Lib.hid G; clear G hz
  clear h
  go_enter Tryd.func27, Tryd.ntmps27
  go_wp2_with (go_at_call 38; refine HG.out.mono ?_; rintro e w1 ⟨rfl, rfl⟩)
  go_ret3
  exact ⟨rfl, rfl⟩
set_option maxHeartbeats 1000000 in
theorem lasts_any (l n : Int) (w : World) : Calls Tryd.prog 27 #[.int .i64 l, .int .i64 n] w fun e w' => e = .returned (.tuple #[.int .i64 (Wm.span l n).1, .int .i64 (Wm.span l n).2.1, .bool (Wm.span l n).2.2]) ∧ w = w' := by
  by_cases h : Wm.isLevel l
  · have HG := Lib.hid (long_any l w)
    skip
    have HL := Lib.hid h
    obtain ⟨q1, q2⟩ := Wm.lens_bd h
    obtain ⟨q3, q4⟩ := Wm.quo_bd q1
    clear h
    by_cases h1 : 0 ≤ n ∧ n ≤ 1099511627776 / Wm.lens l
    · obtain ⟨⟨b1, b2⟩, b3, b4⟩ := Wm.bounds q1 q2 h1.1 h1.2
      have H : Hid (Wm.span l n = (n * Wm.lens l, n * Wm.lens l + Wm.lens l, true)) := by unfold Wm.span; rw [if_pos ⟨HL.out, h1⟩]; rfl
      obtain ⟨h2, h3⟩ := h1
      have B3 := Lib.hid b3
      have b5 : 0 ≤ (n + 1) * Wm.lens l := by omega
      have b6 : (n + 1) * Wm.lens l ≤ 1099511714176 := by omega
      clear b3 HL
      generalize Wm.lens l = q at *
      go_enter Tryd.func27, Tryd.ntmps27
      go_wp2_with (first | (go_at_call 38; refine HG.out.mono ?_; rintro e w1 ⟨rfl, rfl⟩) | (go_at_call 40; refine (within_yes _ _ _ _ (by omega) (by omega)).mono ?_; rintro e w1 ⟨rfl, rfl⟩))
      go_ret3
      exact ⟨by rw [H.out]; first | rfl | (rw [← B3.out]; rfl), rfl⟩
    · have H : Hid (Wm.span l n = (0, 0, false)) := by unfold Wm.span; rw [if_neg (fun x => h1 x.2)]; rfl
      have hh : n < 0 ∨ (0 ≤ n ∧ 1099511627776 / Wm.lens l < n) := by omega
      clear h1 HL
      generalize Wm.lens l = q at *
      rcases hh with hh | ⟨hh0, hh⟩
      all_goals
        go_enter Tryd.func27, Tryd.ntmps27
        go_wp2_with (first | (go_at_call 38; refine HG.out.mono ?_; rintro e w1 ⟨rfl, rfl⟩) | (go_at_call 40; refine (within_no _ _ _ _ (by omega)).mono ?_; rintro e w1 ⟨rfl, rfl⟩))
        go_ret3
        exact ⟨by rw [H.out]; rfl, rfl⟩
  · refine (lasts_no l n w h).mono ?_
    rintro e w1 ⟨rfl, rfl⟩
    have H : Wm.span l n = (0, 0, false) := by unfold Wm.span; rw [if_neg (fun x => h x.1)]
    exact ⟨by rw [H], rfl⟩
end Go.Proofs.YtkhhcnpmobgdgaaDoor
