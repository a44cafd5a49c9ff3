/- A reader's Flag. -/
import Derived.Test.YtchcjbapbdfhkaaRd
namespace Go.Proofs.Ytchcjbapbdfhkaa
open Go.RowKit
set_option linter.unusedVariables false
set_option maxRecDepth 100000

set_option maxHeartbeats 4000000 in
theorem flag_any (g B : Nat) (r : Rm.R) (w : World) (h : RSt w B g r) :
    Calls Try.prog 87 #[.pointer (some ⟨g, 0, none⟩)] w fun e w' => e = .returned (.bool (Rm.flag r).1) ∧ RSt w' B g (Rm.flag r).2 ∧ w.grownBy w' (some g) := by
  have HW := Lib.hid (num_any g B r w h)
  have hlt := num_lt r
  have HM : Hid (Rm.flag r = (decide ((Rm.num r).1 = 1), if 1 < (Rm.num r).1 then Rm.fail else (Rm.num r).2)) := rfl
  clear h
  rcases hg : Rm.num r with ⟨v, r1⟩
  rw [hg] at HW HM hlt
  simp only at HW HM hlt
  have hcc : 1 < v ∨ v = 1 ∨ v = 0 := by omega
  rcases hcc with hv | hv | hv
  · have HM2 : Hid (Rm.flag r = (false, Rm.fail)) := Lib.hid (by rw [HM.out, if_pos hv, decide_eq_false (by omega)])
    rw [HM2.out]
    have hd : decide ((1 : Int) < (v : Int)) = true := decide_eq_true (by omega)
    have he : ((v : Int) == 1) = false := by simp; omega
    clear hv hg HM hlt
    generalize (v : Int) = vi at *
    go_enter Try.func87, Try.ntmps87
    go_wp2_with (first
      | (go_at_call 51; (with_reducible refine (HW.out).mono ?_); rintro e w1 ⟨rfl, hr1, hg1⟩; have HG1 := Lib.hid hg1; have HF := Lib.hid (fail_any g B r1 w1 hr1); clear hr1 hg1)
      | (go_at_call 86; (with_reducible refine (HF.out).mono ?_); rintro e w2 ⟨rfl, hr2, hg2⟩; have HR2 := Lib.hid hr2; have HG2 := Lib.hid hg2; clear hr2 hg2))
    go_ret
    exact ⟨rfl, HR2.out, grown_trans HG1.out HG2.out⟩
  · have HM2 : Hid (Rm.flag r = (true, r1)) := Lib.hid (by rw [HM.out, if_neg (by omega), decide_eq_true hv])
    rw [HM2.out]
    subst hv
    clear hg HM hlt HM2
    go_enter Try.func87, Try.ntmps87
    go_wp2_with (go_at_call 51; (with_reducible refine (HW.out).mono ?_); rintro e w1 ⟨rfl, hr1, hg1⟩; have HG1 := Lib.hid hg1; have HR1 := Lib.hid hr1; clear hr1 hg1)
    go_ret
    exact ⟨rfl, HR1.out, HG1.out⟩
  · have HM2 : Hid (Rm.flag r = (false, r1)) := Lib.hid (by rw [HM.out, if_neg (by omega), decide_eq_false (by omega)])
    rw [HM2.out]
    subst hv
    clear hg HM hlt HM2
    go_enter Try.func87, Try.ntmps87
    go_wp2_with (go_at_call 51; (with_reducible refine (HW.out).mono ?_); rintro e w1 ⟨rfl, hr1, hg1⟩; have HG1 := Lib.hid hg1; have HR1 := Lib.hid hr1; clear hr1 hg1)
    go_ret
    exact ⟨rfl, HR1.out, HG1.out⟩
end Go.Proofs.Ytchcjbapbdfhkaa
