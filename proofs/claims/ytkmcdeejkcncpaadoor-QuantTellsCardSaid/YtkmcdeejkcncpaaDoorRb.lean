/- The rate of errors: the code's, and the document's digit by digit. -/
import Derived.Test.YtkmcdeejkcncpaaDoorQt
import Derived.Test.YtkmcdeejkcncpaaDoorRa
import Derived.Test.YtkmcdeejkcncpaaDoorRef8
import Derived.BigQuiet
import Derived.Deep.QuietTactic
import Derived.RegionTactic
import Derived.ChangeAlike
import Derived.IntWalk
namespace Go.Proofs.YtkmcdeejkcncpaaDoor
open Go.RowKit
set_option linter.unusedVariables false

/-- What Rate hands back. -/
def RetR (q : Int × Bool) (e : Ending) : Prop := e = .returned (.tuple #[.int .i64 q.1, .bool q.2])

theorem rate_zero (c e : Int) (h : c ≤ 0) : Qm.rate c e = (0, false) := by unfold Qm.rate; rw [if_pos h]
theorem rate_all (c e : Int) (h : 0 < c) (h2 : c ≤ e) : Qm.rate c e = (1000, true) := by unfold Qm.rate; rw [if_neg (by omega), if_pos h2]
theorem rate_none (c e : Int) (h : 0 < c) (h2 : e ≤ 0) : Qm.rate c e = (0, true) := by unfold Qm.rate; rw [if_neg (by omega), if_neg (by omega), if_pos h2]
theorem rate_some (c e : Nat) (h : 0 < c) (h2 : e < c) : Qm.rate c e = (((e * 1000 / c : Nat) : Int), true) := by
  unfold Qm.rate
  rw [if_neg (by omega), if_neg (by omega)]
  split
  · have : e = 0 := by omega
    subst this
    simp
  · rw [Int.natCast_ediv, Int.natCast_mul]; rfl

set_option maxHeartbeats 4000000 in
set_option maxRecDepth 100000 in
theorem rate_any (x : List Int) (w : World) (hx : okC x) : Calls Tryd.prog 19 #[.agg (Cv x)] w fun e w' => RetR (Qm.rate (x.getD 0 0) (x.getD 1 0)) e ∧ Below w.heap.size w w' := by
  have h0 := hx 0
  have h1 := hx 1
  have HC := Lib.hid (fun i (h : i < 10) => (cell_of_row (w.alloc (.cells (Cv x) 24)) w.heap.size i (Cv x) 24 (0, 0) (heap_alloc_new w _)).trans (Cv_at x i h))
  have HB := Lib.hid ((Below.refl w.heap.size w).alloc (Nat.le_refl _) (.cells (Cv x) 24))
  have cl0 := HC.out 0 (by omega)
  have cl1 := HC.out 1 (by omega)
  clear hx HC
  generalize x.getD 0 0 = c at *
  generalize x.getD 1 0 = r at *
  have RZ := Lib.hid (rate_zero c r)
  have RA := Lib.hid (rate_all c r)
  have RN := Lib.hid (rate_none c r)
  have hc : c < 0 ∨ c = 0 ∨ 0 < c := by omega
  have hr : r < 0 ∨ 0 ≤ r := by omega
  go_enter Tryd.func19, Tryd.ntmps19
  go_wp2_with fail
  generalize hW : w.alloc (.cells (Cv x) 24) = W at *
  have HW := Lib.hid hW
  clear hW
  generalize hB0 : w.heap.size = B at *
  have HB0 := Lib.hid hB0
  clear hB0
  have HWB : Hid (∀ n, Below w.heap.size w (W.drewN n)) := Lib.hid (fun n => by rw [HB0.out]; exact HB.out.trans ⟨rfl, rfl, rfl, Nat.le_refl _, fun _ _ => rfl⟩)
  have HWC : Hid (∀ n w', Below (W.drewN n).heap.size (W.drewN n) w' → Below w.heap.size w w') := Lib.hid (fun n w' h => (HWB.out n).trans (h.mono (HWB.out n).size))
  rcases hc with hc | hc | hc
  · have HQ := Lib.hid (RZ.out (by omega))
    rcases hr with hr | hr
    all_goals
      go_quiet (fail)
      go_wp2_with fail
      go_ret2
      exact ⟨by rw [HQ.out]; rfl, HWB.out _⟩
  · subst hc
    have HQ := Lib.hid (RZ.out (by omega))
    rcases hr with hr | hr
    all_goals
      go_quiet (fail)
      go_wp2_with fail
      go_ret2
      exact ⟨by rw [HQ.out]; rfl, HWB.out _⟩
  · have hne : (c == 0) = false := by simp; omega
    rcases hr with hr | hr
    · have HQ := Lib.hid (RN.out hc (by omega))
      obtain ⟨c, rfl⟩ := Int.eq_ofNat_of_zero_le (show 0 ≤ c by omega)
      have hc0 : 0 < c := by omega
      have hcl : c < 9223372036854775808 := by omega
      have M := fun W => Lib.hid (show Calls Tryd.prog 28 #[.int .u64 0, .int .u64 1000] W fun e w' => e = .returned (.tuple #[.int .u64 0, .int .u64 0]) ∧ W = w' from (mul64_calls 0 1000 (by omega) (by omega) W).mono fun e w' h => ⟨h.1.trans (by simp), h.2⟩)
      have D := fun W => Lib.hid (show Calls Tryd.prog 29 #[.int .u64 0, .int .u64 0, .int .u64 (c : Int)] W fun e w' => RetQ 0 e ∧ Below W.heap.size W w' from (div64_low 0 c W (by omega) (by omega) hcl).mono fun e w' h => ⟨by simpa using h.1, h.2⟩)
      have hmx : max r 0 = 0 := by omega
      go_quiet (fail)
      go_wp2_with (first | (go_at_call 28; (with_reducible refine (M _).out.mono ?_); rintro e w1 ⟨rfl, rfl⟩) | (go_at_call 29; (with_reducible refine (D _).out.mono ?_); rintro e w2 ⟨⟨rr, rfl⟩, hb2⟩; have HB2 := Lib.hid hb2; clear hb2))
      go_ret2
      exact ⟨by rw [HQ.out]; rfl, HWC.out _ _ HB2.out⟩
    · obtain ⟨c, rfl⟩ := Int.eq_ofNat_of_zero_le (show 0 ≤ c by omega)
      obtain ⟨r, rfl⟩ := Int.eq_ofNat_of_zero_le hr
      have hcl : c < 9223372036854775808 := by omega
      have hrl : r < 9223372036854775808 := by omega
      have hc0 : 0 < c := by omega
      have hcr : c ≤ r ∨ r < c := by omega
      rcases hcr with hcr | hcr
      · have HQ := Lib.hid (RA.out hc (by omega))
        go_quiet (fail)
        go_wp2_with fail
        go_ret2
        exact ⟨by rw [HQ.out]; rfl, HWB.out _⟩
      · have HQ := Lib.hid (rate_some c r hc0 hcr)
        have hql : r * 1000 / c < 1000 := by rw [Nat.div_lt_iff_lt_mul hc0]; omega
        have M0 := fun W => mul64_calls r 1000 (by omega) (by omega) W
        obtain ⟨hi, hhi⟩ : ∃ hi, hi = r * 1000 / 18446744073709551616 := ⟨_, rfl⟩
        obtain ⟨lo, hlo⟩ : ∃ lo, lo = r * 1000 % 18446744073709551616 := ⟨_, rfl⟩
        rw [← hhi, ← hlo] at M0
        have M := fun W => Lib.hid (show Calls Tryd.prog 28 #[.int .u64 r, .int .u64 1000] W fun e w' => e = .returned (.tuple #[.int .u64 hi, .int .u64 lo]) ∧ W = w' from M0 W)
        have hN : hi * 18446744073709551616 + lo = r * 1000 := by omega
        have hlol : lo < 18446744073709551616 := by omega
        have hhil : hi < 1000 := by omega
        have D := fun W => Lib.hid (show Calls Tryd.prog 29 #[.int .u64 (hi : Int), .int .u64 (lo : Int), .int .u64 (c : Int)] W fun e w' => RetQ (r * 1000 / c) e ∧ Below W.heap.size W w' from by
          by_cases h0 : hi = 0
          · subst h0
            have := div64_low lo c W hlol (by omega) hcl
            rw [show lo = r * 1000 from by omega] at this
            rw [show lo = r * 1000 from by omega]
            exact this
          · have := div64_high hi lo c W (by omega) hlol (by omega) hcl (by omega)
            rw [hN] at this
            exact this)
        clear M0 hN hhi hlo
        generalize r * 1000 / c = q at *
        go_quiet (fail)
        go_wp2_with (first | (go_at_call 28; (with_reducible refine (M _).out.mono ?_); rintro e w1 ⟨rfl, rfl⟩) | (go_at_call 29; (with_reducible refine (D _).out.mono ?_); rintro e w2 ⟨⟨rr, rfl⟩, hb2⟩; have HB2 := Lib.hid hb2; clear hb2))
        go_ret2
        exact ⟨by rw [HQ.out]; rfl, HWC.out _ _ HB2.out⟩
end Go.Proofs.YtkmcdeejkcncpaaDoor
