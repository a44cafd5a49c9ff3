/- A device's small methods; where a file stands. -/
import Derived.Test.YtbdiamhhlabojaaDoorUb
import Derived.Laws.LoneSync
import Derived.BigQuiet
namespace Go.Proofs.YtbdiamhhlabojaaDoor
open Go.RowKit
set_option linter.unusedVariables false
set_option linter.unusedSimpArgs false
set_option maxRecDepth 100000

theorem addI_any (D : Nat) (x y s : Int) (w : World) (hc : w.cell? ⟨D, 1, none⟩ = some (.int .i64 x)) (hz : w.frozen? ⟨D, 1, none⟩ = false) (hs : x + y = s) (hr : -9223372036854775808 ≤ s ∧ s ≤ 9223372036854775807) :
    Calls Tryd.prog 41 #[.pointer (some ⟨D, 1, none⟩), .int .i64 y] w fun e w' => e = .returned (.int .i64 s) ∧ w' = w.setCell ⟨D, 1, none⟩ (.int .i64 s) := by
  have hw : IntKind.i64.wrap (x + y) = s := by rw [hs, IntKind.wrap_i64]; omega
  have hadd := run_call_add (P := Tryd.prog) Tryd.func65 (by kernel_rfl) (by kernel_rfl) (by kernel_rfl) .i64 (by kernel_rfl) (a := ⟨D, 1, none⟩) (x := x) (y := y) (s := s) hc hz (by simp [Op.intArith, hw])
  clear hw hs
  go_enter Tryd.func41, Tryd.ntmps41
  go_wp2
  go_ret
  exact ⟨rfl, rfl⟩
theorem loadI_any (D : Nat) (x : Int) (w : World) (hc : w.cell? ⟨D, 1, none⟩ = some (.int .i64 x)) :
    Calls Tryd.prog 72 #[.pointer (some ⟨D, 1, none⟩)] w fun e w' => e = .returned (.int .i64 x) ∧ w' = w := by
  have hl := run_call_load (P := Tryd.prog) Tryd.func81 (by kernel_rfl) (by kernel_rfl) (by kernel_rfl) .i64 (by kernel_rfl) hc
  go_enter Tryd.func72, Tryd.ntmps72
  go_wp2
  go_ret
  exact ⟨rfl, rfl⟩
section
variable {w : World} {base : Nat} {d : Dv}
theorem DvAt.c0 (h : DvAt w base d) : w.cell? ⟨d.D, 0, none⟩ = some (.int .i64 d.room) := cell_of_row _ _ 0 _ _ (0, 0) h.row
theorem DvAt.c1 (h : DvAt w base d) : w.cell? ⟨d.D, 1, none⟩ = some (.int .i64 d.us) := cell_of_row _ _ 1 _ _ (0, 0) h.row
theorem DvAt.c2 (h : DvAt w base d) : w.cell? ⟨d.D, 2, none⟩ = some (.slice d.A d.fs.length d.c) := cell_of_row _ _ 2 _ _ (0, 0) h.row
theorem DvAt.c3 (h : DvAt w base d) : w.cell? ⟨d.D, 3, none⟩ = some (.bool d.fu) := cell_of_row _ _ 3 _ _ (0, 0) h.row
theorem DvAt.c4 (h : DvAt w base d) : w.cell? ⟨d.D, 4, none⟩ = some (.int .i64 d.lf) := cell_of_row _ _ 4 _ _ (0, 0) h.row
theorem DvAt.fz (h : DvAt w base d) (j : Nat) : w.frozen? ⟨d.D, j, none⟩ = false := by simp [World.frozen?, h.row]
end
theorem used_any (base : Nat) (d : Dv) (w : World) (h : DvAt w base d) :
    Calls Tryd.prog 51 #[.pointer (some ⟨d.D, 0, none⟩)] w fun e w' => e = .returned (.int .i64 d.us) ∧ w' = w := by
  have h1 := h.c1
  go_enter Tryd.func51, Tryd.ntmps51
  go_wp2_with (go_at_call 72; (with_reducible refine (loadI_any _ _ _ h1).mono ?_); rintro e w1 ⟨rfl, hw1⟩; subst hw1)
  go_ret
  exact ⟨rfl, rfl⟩
def Dv.dead (d : Dv) : Bool := d.fu && decide (d.lf = 0)
theorem dead_any (base : Nat) (d : Dv) (w : World) (h : DvAt w base d) :
    Calls Tryd.prog 50 #[.pointer (some ⟨d.D, 0, none⟩)] w fun e w' => e = .returned (.bool d.dead) ∧ w' = w := by
  have h3 := h.c3
  have h4 := h.c4
  have hd : d.dead = (d.fu && decide (d.lf = 0)) := rfl
  generalize d.dead = b at *
  generalize d.D = D at *
  generalize d.lf = lf at *
  generalize d.fu = fu at *
  cases fu
  · go_enter Tryd.func50, Tryd.ntmps50
    go_wp2
    go_ret
    exact ⟨by first | rfl | (rw [hd]; rfl), rfl⟩
  · by_cases hl : lf = 0
    · subst hl
      go_enter Tryd.func50, Tryd.ntmps50
      go_wp2
      go_ret
      exact ⟨by first | rfl | (rw [hd]; rfl), rfl⟩
    · have e1 : (lf == 0) = false := beq_eq_false_iff_ne.2 hl
      have hb : b = false := by rw [hd]; simp [hl]
      go_enter Tryd.func50, Tryd.ntmps50
      go_wp2
      go_ret
      exact ⟨by first | rfl | (rw [hb]; rfl), rfl⟩
/-- What a call that went through leaves of the fuse. -/
def Dv.burnt (d : Dv) : Dv := if d.fu = true then { d with lf := d.lf - 1 } else d
def Went (base : Nat) (d d' : Dv) (v : Value) (w : World) (e : Ending) (w' : World) : Prop := e = .returned v ∧ DvAt w' base d' ∧ Kept w w' d.has d'.has
theorem burn_any (base : Nat) (d : Dv) (w : World) (h : DvAt w base d) (hl : -9223372036854775807 ≤ d.lf ∧ d.lf ≤ 9223372036854775807) :
    Calls Tryd.prog 53 #[.pointer (some ⟨d.D, 0, none⟩)] w (Went base d d.burnt (.int .i64 0) w) := by
  have h3 := h.c3
  have h4 := h.c4
  have f4 := h.fz 4
  have HD := Lib.hid h
  have HS := Lib.hid (h.setLf (d.lf - 1))
  clear h
  unfold Dv.burnt Went
  cases hfu : d.fu
  · rw [hfu] at h3
    go_enter Tryd.func53, Tryd.ntmps53
    go_wp2
    go_ret
    exact ⟨rfl, HD.out, Kept.refl _ _⟩
  · rw [hfu] at h3
    obtain ⟨l1, hl1⟩ : ∃ l1, l1 = d.lf - 1 := ⟨_, rfl⟩
    rw [← hl1] at HS
    have i1 : d.lf - 1 = l1 := hl1.symm
    have i2 : IntKind.i64.wrap l1 = l1 := by rw [IntKind.wrap_i64]; omega
    have i3 : -9223372036854775808 ≤ l1 := by omega
    have i4 : l1 ≤ 9223372036854775807 := by omega
    clear hl1
    generalize hD : d.D = D at *
    go_enter Tryd.func53, Tryd.ntmps53
    go_wp2
    go_ret
    have h9 := HS.out
    rw [hfu] at h9
    exact ⟨rfl, h9.1, h9.2⟩
end Go.Proofs.YtbdiamhhlabojaaDoor
