/- The rate of errors as the document works it out, digit by digit. -/
import Derived.Test.YtkmcdeejkcncpaaDoorRb
namespace Go.Proofs.YtkmcdeejkcncpaaDoor
open Go.RowKit
set_option linter.unusedVariables false

namespace Qm
/-- What holds of the digits so far, and of what is left. -/
def DgInv (E N i q r : Nat) : Prop := q * N + r = 10 ^ i * E ∧ r ≤ N ∧ q ≤ 1000 ∧ (1 ≤ i → r < N)
theorem dg_zero (E N : Nat) (h : E ≤ N) : DgInv E N 0 0 E := ⟨by omega, h, by omega, fun h => by omega⟩
theorem dg_step (E N i q r d t : Nat) (hE : E ≤ N) (hN : 0 < N) (hi : i < 3) (h : DgInv E N i q r) (hd : t + d * N = 10 * r) (ht : t < N) : DgInv E N (i + 1) (10 * q + d) t := by
  obtain ⟨h1, h2, h3, h4⟩ := h
  have e := dig_out E N q r d t (10 ^ i) h1 hd
  have hp : 10 * 10 ^ i = 10 ^ (i + 1) := by rw [Nat.pow_succ, Nat.mul_comm]
  rw [hp] at e
  refine ⟨e, by omega, ?_, fun _ => ht⟩
  have h10 : 10 ^ (i + 1) ≤ 1000 := by
    have : i = 0 ∨ i = 1 ∨ i = 2 := by omega
    rcases this with rfl | rfl | rfl <;> decide
  have h5 : (10 * q + d) * N ≤ 1000 * N := by
    have := Nat.mul_le_mul h10 hE
    omega
  exact Nat.le_of_mul_le_mul_right h5 hN
theorem dg_end (E N q r : Nat) (h : DgInv E N 3 q r) : q = E * 1000 / N := dig_end E N q r h.1 (h.2.2.2 (by omega))
/-- What holds inside a digit. -/
def DkInv (N r k d t : Nat) : Prop := t + d * N = k * r ∧ t < N ∧ d ≤ 10
theorem dk_step (N r k d t : Nat) (hr : r ≤ N) (hk : k < 10) (h : DkInv N r k d t) : (N ≤ t + r → DkInv N r (k + 1) (d + 1) (t + r - N)) ∧ (t + r < N → DkInv N r (k + 1) d (t + r)) := by
  obtain ⟨h1, h2, h3⟩ := h
  obtain ⟨a, b⟩ := dig_step r N t d k hr (by omega) h1 h2
  refine ⟨fun h => ?_, fun h => ⟨b h, h, h3⟩⟩
  obtain ⟨a1, a2⟩ := a h
  exact ⟨a1, a2, dig_le r N _ (d + 1) (k + 1) hr (by omega) a1 (by omega)⟩
end Qm

set_option maxHeartbeats 4000000 in
set_option maxRecDepth 100000 in
theorem rrate_any (x : List Int) (w : World) (hx : okC x) : Calls Tryd.prog 20 #[.agg (Cv x)] w fun e w' => RetR (Qm.rate (x.getD 0 0) (x.getD 1 0)) e ∧ Below w.heap.size w w' := by
  have h0 := hx 0
  have h1 := hx 1
  have HC := Lib.hid (fun i (h : i < 10) => (cell_of_row (w.alloc (.cells (Cv x) 24)) w.heap.size i (Cv x) 24 (0, 0) (heap_alloc_new w _)).trans (Cv_at x i h))
  have HB := Lib.hid ((Below.refl w.heap.size w).alloc (Nat.le_refl _) (.cells (Cv x) 24))
  have cl0 := HC.out 0 (by omega)
  have cl1 := HC.out 1 (by omega)
  clear hx HC
  generalize x.getD 0 0 = c at *
  generalize x.getD 1 0 = r at *
  obtain ⟨N, hN⟩ : ∃ N : Nat, (N : Int) = (if c < 0 then 0 else if 9223372036854775807 < c then 9223372036854775807 else c) := ⟨(if c < 0 then 0 else if 9223372036854775807 < c then 9223372036854775807 else c).toNat, by split <;> (try split) <;> omega⟩
  obtain ⟨E, hE⟩ : ∃ E : Nat, (E : Int) = (if r < 0 then 0 else if (N : Int) < r then (N : Int) else r) := ⟨(if r < 0 then 0 else if (N : Int) < r then (N : Int) else r).toNat, by split <;> (try split) <;> omega⟩
  have C1 := fun W => Lib.hid (cap_any c 0 9223372036854775807 W)
  have C2 := fun W => Lib.hid (cap_any r 0 N W)
  rw [← hN] at C1
  rw [← hE] at C2
  have hn1 : N < 9223372036854775808 := by split at hN <;> (try split at hN) <;> omega
  have hn2 : (N = 0 ∧ c ≤ 0) ∨ (0 < N ∧ c = N) := by split at hN <;> (try split at hN) <;> omega
  have he : E ≤ N ∧ (E < N → (r ≤ 0 ∧ E = 0) ∨ r = E) ∧ (E = N → 0 < N → (N : Int) ≤ r) := by split at hE <;> (try split at hE) <;> omega
  clear hN hE h0 h1
  obtain ⟨he1, he2, he3⟩ := he
  have RZ := Lib.hid (rate_zero c r)
  have RA := Lib.hid (rate_all c r)
  have RS := Lib.hid (fun (h : 0 < N) (h2 : E < N) => rate_some N E h h2)
  have RN := Lib.hid (rate_none c r)
  have HE2 := Lib.hid he2
  have HE3 := Lib.hid he3
  clear he2 he3
  rcases hn2 with ⟨hz, hc⟩ | ⟨hz, hc⟩
  · subst hz
    have HQ := Lib.hid (RZ.out hc)
    have C1' := fun W => Lib.hid (show Calls Tryd.prog 30 #[.int .i64 c, .int .i64 0, .int .i64 9223372036854775807] W fun e w' => e = .returned (.int .i64 0) ∧ W = w' from (C1 W).out)
    have C2' := fun W => Lib.hid (show Calls Tryd.prog 30 #[.int .i64 r, .int .i64 0, .int .i64 0] W fun e w' => e = .returned (.int .i64 (E : Int)) ∧ W = w' from (C2 W).out)
    clear C1 C2
    go_enter Tryd.func20, Tryd.ntmps20
    go_wp2_with (go_at_call 30; (first | (with_reducible refine (C1' _).out.mono ?_) | (with_reducible refine (C2' _).out.mono ?_)); rintro e w1 ⟨rfl, rfl⟩)
    go_ret2
    exact ⟨by rw [HQ.out]; rfl, HB.out⟩
  · have hN0 : ((N : Int) == 0) = false := by simp; omega
    have HCE := Lib.hid hc
    clear hc
    go_enter Tryd.func20, Tryd.ntmps20
    go_wp2_with (go_at_call 30; (first | (with_reducible refine (C1 _).out.mono ?_) | (with_reducible refine (C2 _).out.mono ?_)); rintro e w1 ⟨rfl, rfl⟩)
    clear C1 C2 hN0
    go_loop [6, 7, 8] (fun q r i => ∃ iv qv rv : Nat, q = .int .i64 qv ∧ r = .int .i64 rv ∧ i = .int .i64 iv ∧ iv ≤ 3 ∧ Hid (Qm.DgInv E N iv qv rv)) (fun _ _ i => 3 - (intOf i).toNat)
    case atStart => exact ⟨0, 0, E, rfl, rfl, rfl, by omega, Lib.hid (Qm.dg_zero E N he1)⟩
    case round =>
      obtain ⟨i, q, r', rfl, rfl, rfl, hi, HI⟩ := hrel
      by_cases hlt : i < 3
      · have hr' := HI.out.2.1
        have hq' := HI.out.2.2.1
        go_wp2_with fail
        go_loop [9, 12, 13] (fun d t k => ∃ kv dv tv : Nat, d = .int .i64 dv ∧ t = .int .u64 tv ∧ k = .int .i64 kv ∧ kv ≤ 10 ∧ Hid (Qm.DkInv N r' kv dv tv)) (fun _ _ k => 10 - (intOf k).toNat)
        case atStart => exact ⟨0, 0, 0, rfl, rfl, rfl, by omega, Lib.hid ⟨by omega, hz, by omega⟩⟩
        case round =>
          obtain ⟨k, d, t, rfl, rfl, rfl, hk, HK⟩ := hrel
          have ht := HK.out.2.1
          have hd := HK.out.2.2
          by_cases hlk : k < 10
          · obtain ⟨S1, S2⟩ := Qm.dk_step N r' k d t hr' hlk HK.out
            have hcc : N ≤ t + r' ∨ t + r' < N := by omega
            rcases hcc with hcc | hcc
            · have HS := Lib.hid (S1 hcc)
              have hci : (N : Int) ≤ (t : Int) + (r' : Int) := by omega
              have hsub : (t : Int) + (r' : Int) - (N : Int) = ((t + r' - N : Nat) : Int) := by omega
              have HSUB := Lib.hid hsub
              clear S1 S2 hsub
              go_wp2_with fail
              go_round
              case rel => exact ⟨k + 1, d + 1, t + r' - N, by go_num, by rw [HSUB.out], by go_num, by omega, HS⟩
              case measure => simp [intOf]; omega
            · have HS := Lib.hid (S2 hcc)
              have hci : (t : Int) + (r' : Int) < (N : Int) := by omega
              clear S1 S2
              go_wp2_with fail
              go_round
              case rel => exact ⟨k + 1, d, t + r', by go_num, by go_num, by go_num, by omega, HS⟩
              case measure => simp [intOf]; omega
          · obtain rfl : k = 10 := by omega
            have HS := Lib.hid (Qm.dg_step E N i q r' d t he1 hz hlt HI.out HK.out.1 ht)
            go_wp2_with fail
            go_round
            case rel => exact ⟨i + 1, 10 * q + d, t, by go_num, by go_num, by go_num, by omega, HS⟩
            case measure => simp [intOf]; omega
      · obtain rfl : i = 3 := by omega
        have hq := Lib.hid (Qm.dg_end E N q r' HI.out)
        by_cases heq : E = N
        · have hb : ((E : Int) == (N : Int)) = true := by simp; omega
          have HQ := Lib.hid (RA.out (by rw [HCE.out]; omega) (by rw [HCE.out]; exact HE3.out heq hz))
          have HEQ := Lib.hid heq
          clear heq
          go_wp2_with fail
          go_ret2
          exact ⟨by rw [HQ.out]; rfl, HB.out⟩
        · have hb : ((E : Int) == (N : Int)) = false := by simp; omega
          have HQ : Hid (Qm.rate c r = ((q : Int), true)) := Lib.hid (by
            rw [hq.out]
            rcases HE2.out (by omega) with ⟨h1, h2⟩ | h1
            · rw [RN.out (by rw [HCE.out]; omega) h1, h2]; simp
            · rw [h1, HCE.out]; exact RS.out hz (by omega))
          clear hq
          go_wp2_with fail
          go_ret2
          exact ⟨by rw [HQ.out]; rfl, HB.out⟩
end Go.Proofs.YtkmcdeejkcncpaaDoor
