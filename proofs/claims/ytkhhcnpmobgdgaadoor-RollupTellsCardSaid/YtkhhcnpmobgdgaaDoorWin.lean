/- What the code and the document answer of windows: the same plain functions. -/
import Derived.Test.YtkhhcnpmobgdgaaDoorRows
import Derived.WalkKit
import Derived.WalkSpells
import Derived.WalkLawsBesides
import Derived.Lib.Hide
import Derived.BigQuiet
import Derived.Deep.QuietTactic
import Derived.Test.YtkhhcnpmobgdgaaDoorWm
namespace Go.Proofs.YtkhhcnpmobgdgaaDoor
open Go.RowKit

/-- The table of the windows' lengths lies there. -/
def Lens (w : World) : Prop := w.cell? ⟨1, 0, none⟩ = some (.int .i64 60) ∧ w.cell? ⟨1, 1, none⟩ = some (.int .i64 3600) ∧ w.cell? ⟨1, 2, none⟩ = some (.int .i64 86400)

theorem Lens.drewN {w : World} (h : Lens w) (k : Nat) : Lens (w.drewN k) := by unfold Lens at *; simpa using h
theorem Lens.lt {w : World} (h : Lens w) : 1 < w.heap.size := by
  rcases Nat.lt_or_ge 1 w.heap.size with h1 | h1
  · exact h1
  · have := h.1
    unfold World.cell? at this
    rw [Array.getElem?_eq_none h1] at this
    cases this
theorem Lens.alloc {w : World} (h : Lens w) (o : Obj) : Lens (w.alloc o) :=
  ⟨(World.cell?_alloc_lt w o ⟨_, 0, none⟩ h.lt).trans h.1, (World.cell?_alloc_lt w o ⟨_, 1, none⟩ h.lt).trans h.2.1, (World.cell?_alloc_lt w o ⟨_, 2, none⟩ h.lt).trans h.2.2⟩
theorem Lens.below {w w' : World} {B : Nat} (h : Lens w) (hb : Below B w w') (hB : 1 < B) : Lens w' :=
  ⟨(hb.cell (p := ⟨_, 0, none⟩) hB).trans h.1, (hb.cell (p := ⟨_, 1, none⟩) hB).trans h.2.1, (hb.cell (p := ⟨_, 2, none⟩) hB).trans h.2.2⟩

set_option maxHeartbeats 400000 in
theorem length_out (l : Int) (w : World) (h : ¬ Wm.isLevel l) : Calls Tryd.prog 62 #[.int .i64 l] w fun e w' => e = .returned (.tuple #[.int .i64 0, .bool false]) ∧ w = w' := by
  rcases Wm.out_lt h with h1 | h1
  · clear h
    go_enter Tryd.func62, Tryd.ntmps62
    go_wp2
    go_ret2
    exact ⟨rfl, rfl⟩
  · have h2 : ¬ l < 0 := by omega
    clear h
    go_enter Tryd.func62, Tryd.ntmps62
    go_wp2
    go_ret2
    exact ⟨rfl, rfl⟩
set_option maxHeartbeats 400000 in
theorem length_in (l : Int) (w : World) (h : Wm.isLevel l) (T : Lens w) : Calls Tryd.prog 62 #[.int .i64 l] w fun e w' => e = .returned (.tuple #[.int .i64 (Wm.lens l), .bool true]) ∧ w = w' := by
  obtain ⟨c0, c1, c2⟩ := T
  rcases h with rfl | rfl | rfl
  all_goals
    go_enter Tryd.func62, Tryd.ntmps62
    go_wp2
    go_ret2
    exact ⟨rfl, rfl⟩
set_option maxHeartbeats 400000 in
theorem long_any (l : Int) (w : World) : Calls Tryd.prog 38 #[.int .i64 l] w fun e w' => e = .returned (.int .i64 (Wm.lens l)) ∧ w = w' := by
  rcases Wm.level_cases l with rfl | rfl | rfl | h
  · go_enter Tryd.func38, Tryd.ntmps38
    go_wp2
    go_ret
    exact ⟨rfl, rfl⟩
  · go_enter Tryd.func38, Tryd.ntmps38
    go_wp2
    go_ret
    exact ⟨rfl, rfl⟩
  · go_enter Tryd.func38, Tryd.ntmps38
    go_wp2
    go_ret
    exact ⟨rfl, rfl⟩
  · have h0 : (l == 0) = false := by rw [beq_eq_false_iff_ne]; unfold Wm.isLevel at h; omega
    have h1 : (l == 1) = false := by rw [beq_eq_false_iff_ne]; unfold Wm.isLevel at h; omega
    have h2 : (l == 2) = false := by rw [beq_eq_false_iff_ne]; unfold Wm.isLevel at h; omega
    have H := Lib.hid (Wm.lens_out h)
    clear h
    go_enter Tryd.func38, Tryd.ntmps38
    go_wp2
    go_ret
    exact ⟨by rw [H.out]; rfl, rfl⟩
theorem within_yes (n a b : Int) (w : World) (h1 : a ≤ n) (h2 : n ≤ b) : Calls Tryd.prog 40 #[.int .i64 n, .int .i64 a, .int .i64 b] w fun e w' => e = .returned (.bool true) ∧ w = w' := by
  go_enter Tryd.func40, Tryd.ntmps40
  go_wp2
  go_ret
  exact ⟨by first | rfl | (simp; done) | (simp; omega), rfl⟩
theorem within_no (n a b : Int) (w : World) (h : n < a ∨ b < n) : Calls Tryd.prog 40 #[.int .i64 n, .int .i64 a, .int .i64 b] w fun e w' => e = .returned (.bool false) ∧ w = w' := by
  by_cases h1 : a ≤ n
  · have h2 : b < n := by omega
    go_enter Tryd.func40, Tryd.ntmps40
    go_wp2
    go_ret
    exact ⟨by first | rfl | (simp; done) | (simp; omega), rfl⟩
  · go_enter Tryd.func40, Tryd.ntmps40
    go_wp2
    go_ret
    exact ⟨by first | rfl | (simp; done) | (simp; omega), rfl⟩

set_option maxHeartbeats 1000000 in
theorem of_out (l s : Int) (w : World) (h : ¬ Wm.isLevel l) : Calls Tryd.prog 57 #[.int .i64 l, .int .i64 s] w fun e w' => e = .returned (.int .i64 (Wm.win l s)) ∧ w = w' := by
  have H : Hid (Wm.win l s = -1) := by unfold Wm.win; rw [if_neg (fun x => h x.1)]; rfl
  go_enter Tryd.func57, Tryd.ntmps57
  go_wp2_with (go_at_call 62; refine (length_out _ _ h).mono ?_; rintro e w1 ⟨rfl, rfl⟩)
  go_ret
  exact ⟨by rw [H.out]; rfl, rfl⟩
set_option maxHeartbeats 1000000 in
theorem of_in (l s : Int) (w : World) (h : Wm.isLevel l) (T : Lens w) : Calls Tryd.prog 57 #[.int .i64 l, .int .i64 s] w fun e w' => e = .returned (.int .i64 (Wm.win l s)) ∧ w = w' := by
  have HG := Lib.hid (length_in l w h T)
  have HL := Lib.hid h
  clear T
  have hq : 60 ≤ Wm.lens l ∧ Wm.lens l ≤ 86400 := by rcases h with rfl | rfl | rfl <;> decide
  clear h
  obtain ⟨q1, q2⟩ := hq
  by_cases h1 : 0 ≤ s
  · by_cases h2 : s ≤ 1099511627776
    · have H : Hid (Wm.win l s = s / Wm.lens l) := by unfold Wm.win; rw [if_pos ⟨HL.out, h1, h2⟩]; rfl
      generalize Wm.lens l = q at *
      go_enter Tryd.func57, Tryd.ntmps57
      go_wp2_with (go_at_call 62; refine HG.out.mono ?_; rintro e w1 ⟨rfl, rfl⟩)
      go_ret
      exact ⟨by rw [H.out]; rfl, rfl⟩
    · have H : Hid (Wm.win l s = -1) := by unfold Wm.win; rw [if_neg (fun x => h2 x.2.2)]; rfl
      go_enter Tryd.func57, Tryd.ntmps57
      go_wp2_with (go_at_call 62; refine HG.out.mono ?_; rintro e w1 ⟨rfl, rfl⟩)
      go_ret
      exact ⟨by rw [H.out]; rfl, rfl⟩
  · have H : Hid (Wm.win l s = -1) := by unfold Wm.win; rw [if_neg (fun x => h1 x.2.1)]; rfl
    go_enter Tryd.func57, Tryd.ntmps57
    go_wp2_with (go_at_call 62; refine HG.out.mono ?_; rintro e w1 ⟨rfl, rfl⟩)
    go_ret
    exact ⟨by rw [H.out]; rfl, rfl⟩
end Go.Proofs.YtkhhcnpmobgdgaaDoor
