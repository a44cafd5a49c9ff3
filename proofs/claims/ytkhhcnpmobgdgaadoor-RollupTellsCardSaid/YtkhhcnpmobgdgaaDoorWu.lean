/- Which window a second is in, and which one above has a window, by the code and by the document. -/
import Derived.Test.YtkhhcnpmobgdgaaDoorSpn
namespace Go.Proofs.YtkhhcnpmobgdgaaDoor
open Go.RowKit

set_option maxHeartbeats 1000000 in
theorem of_any (l s : Int) (w : World) (T : Lens w) : Calls Tryd.prog 57 #[.int .i64 l, .int .i64 s] w fun e w' => e = .returned (.int .i64 (Wm.win l s)) ∧ w = w' := by
  by_cases h : Wm.isLevel l
  · exact of_in l s w h T
  · exact of_out l s w h

set_option maxHeartbeats 1000000 in
theorem window_any (l s : Int) (w : World) : Calls Tryd.prog 25 #[.int .i64 l, .int .i64 s] w fun e w' => e = .returned (.int .i64 (Wm.win l s)) ∧ w = w' := by
  have HG := Lib.hid (long_any l w)
  by_cases h : Wm.isLevel l
  · obtain ⟨q1, q2⟩ := Wm.lens_bd h
    by_cases h1 : 0 ≤ s ∧ s ≤ 1099511627776
    · have H : Hid (Wm.win l s = s / Wm.lens l) := by unfold Wm.win; rw [if_pos ⟨h, h1⟩]; rfl
      obtain ⟨h2, h3⟩ := h1
      clear h
      generalize Wm.lens l = q at *
      have hq0 : (q == 0) = false := by rw [beq_eq_false_iff_ne]; omega
      go_enter Tryd.func25, Tryd.ntmps25
      go_wp2_with (first | (go_at_call 38; refine HG.out.mono ?_; rintro e w1 ⟨rfl, rfl⟩) | (go_at_call 40; refine (within_yes _ _ _ _ (by omega) (by omega)).mono ?_; rintro e w1 ⟨rfl, rfl⟩))
      go_ret
      exact ⟨by rw [H.out]; rfl, rfl⟩
    · have H : Hid (Wm.win l s = -1) := by unfold Wm.win; rw [if_neg (fun x => h1 x.2)]; rfl
      have hs : s < 0 ∨ 1099511627776 < s := by omega
      clear h h1
      generalize Wm.lens l = q at *
      have hq0 : (q == 0) = false := by rw [beq_eq_false_iff_ne]; omega
      go_enter Tryd.func25, Tryd.ntmps25
      go_wp2_with (first | (go_at_call 38; refine HG.out.mono ?_; rintro e w1 ⟨rfl, rfl⟩) | (go_at_call 40; refine (within_no _ _ _ _ (by omega)).mono ?_; rintro e w1 ⟨rfl, rfl⟩))
      go_ret
      exact ⟨by rw [H.out]; rfl, rfl⟩
  · have H : Hid (Wm.win l s = -1) := by unfold Wm.win; rw [if_neg (fun x => h x.1)]; rfl
    have hz := Wm.lens_out h
    rw [hz] at HG
    clear hz h
    go_enter Tryd.func25, Tryd.ntmps25
    go_wp2_with (first | (go_at_call 38; refine HG.out.mono ?_; rintro e w1 ⟨rfl, rfl⟩))
    go_ret
    exact ⟨by rw [H.out]; rfl, rfl⟩

set_option maxHeartbeats 1000000 in
theorem rup_any (l n : Int) (w : World) : Calls Tryd.prog 22 #[.int .i64 l, .int .i64 n] w fun e w' => e = .returned (.tuple #[.int .i64 (Wm.up l n).1, .int .i64 (Wm.up l n).2.1, .bool (Wm.up l n).2.2]) ∧ ∃ k, w' = w.drewN k := by
  have G := lasts_any l n w
  by_cases h : Wm.isLevel l ∧ 0 ≤ n ∧ n ≤ 1099511627776 / Wm.lens l
  · have HS : Wm.span l n = (n * Wm.lens l, n * Wm.lens l + Wm.lens l, true) := by unfold Wm.span; rw [if_pos h]
    rw [HS] at G
    have HG := Lib.hid G
    obtain ⟨q1, q2⟩ := Wm.lens_bd h.1
    obtain ⟨⟨b1, b2⟩, _, _⟩ := Wm.bounds q1 q2 h.2.1 h.2.2
    clear G HS
    by_cases h2 : l = 2
    · have H : Hid (Wm.up l n = (0, 0, false)) := by unfold Wm.up; rw [if_neg (fun x => x.2 h2)]; rfl
      have hb : (l == 2) = true := by rw [beq_iff_eq]; exact h2
      clear h h2 q1 q2 b1 b2
      go_enter Tryd.func22, Tryd.ntmps22
      go_wp2_with (go_at_call 27; refine HG.out.mono ?_; rintro e w1 ⟨rfl, rfl⟩)
      go_ret3
      exact ⟨by rw [H.out]; rfl, 0, rfl⟩
    · have H : Hid (Wm.up l n = (l + 1, n * Wm.lens l / Wm.lens (l + 1), true)) := by unfold Wm.up; rw [if_pos ⟨h, h2⟩]; rfl
      have hl1 : 0 ≤ l ∧ l ≤ 1 := by have := h.1; unfold Wm.isLevel at *; omega
      have hb : (l == 2) = false := by rw [beq_eq_false_iff_ne]; exact h2
      have hl2 : Wm.isLevel (l + 1) := by have := h.1; unfold Wm.isLevel at *; omega
      obtain ⟨q5, q6⟩ := Wm.lens_bd hl2
      have HL := fun W => Lib.hid (long_any (l + 1) W)
      clear h h2 hl2
      obtain ⟨l0, l1⟩ := hl1
      generalize n * Wm.lens l = x at *
      generalize Wm.lens (l + 1) = y at *
      have hy0 : (y == 0) = false := by rw [beq_eq_false_iff_ne]; omega
      go_enter Tryd.func22, Tryd.ntmps22
      go_wp2_with (first | (go_at_call 27; refine HG.out.mono ?_; rintro e w1 ⟨rfl, rfl⟩))
      go_quiet ((go_at_call 38; exact Calls.quiet_of_same (((HL _).out).mono fun _ _ hh => ⟨hh.1, hh.2.symm⟩)))
      go_wp2
      go_ret3
      exact ⟨by rw [H.out]; rfl, _, rfl⟩
  · have H : Hid (Wm.up l n = (0, 0, false)) := by unfold Wm.up; rw [if_neg (fun x => h x.1)]; rfl
    have HS : Wm.span l n = (0, 0, false) := by unfold Wm.span; rw [if_neg h]
    rw [HS] at G
    have HG := Lib.hid G
    clear G HS h
    go_enter Tryd.func22, Tryd.ntmps22
    go_wp2_with (go_at_call 27; refine HG.out.mono ?_; rintro e w1 ⟨rfl, rfl⟩)
    go_ret3
    exact ⟨by rw [H.out]; rfl, 0, rfl⟩

end Go.Proofs.YtkhhcnpmobgdgaaDoor
