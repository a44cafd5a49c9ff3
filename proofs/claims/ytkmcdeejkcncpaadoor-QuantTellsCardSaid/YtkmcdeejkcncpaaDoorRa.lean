/- The rate of errors, as the code works it out: how long a number is, a quotient of two halves, Rate. -/
import Derived.Test.YtkmcdeejkcncpaaDoorLib
import Derived.Test.YtkmcdeejkcncpaaDoorRl
import Derived.Test.YtkmcdeejkcncpaaDoorProg
import Derived.Test.YtkmcdeejkcncpaaDoorRt
import Derived.Lib.Strings
import Derived.Lib.Slices
import Derived.Lib.Small
import Derived.Lib.Walk
import Derived.Lib.BitFns
import Derived.Lib.ItoaNum
import Derived.Shelf.Bits.Mul64
import Derived.LoopTactic
import Derived.BigQuiet
import Derived.Deep.QuietTactic
import Derived.IntWalk
import Derived.Laws.Bits64b
namespace Go.Proofs.YtkmcdeejkcncpaaDoor
open Go.RowKit
set_option linter.unusedVariables false

theorem bitLen_bd (y : Nat) (h : 1 ≤ y) (h2 : y < 9223372036854775808) : 1 ≤ Lib.bitLen y ∧ Lib.bitLen y ≤ 63 ∧ 2 ^ (Lib.bitLen y - 1) ≤ y ∧ y < 2 ^ Lib.bitLen y := by
  obtain ⟨a, b, c⟩ := Lib.bitLenAux_bounds 64 y (by omega) (by omega)
  exact ⟨a, Lib.bitLen_le y 63 (by omega) (by omega), b, c⟩

/-- How far y is shifted. -/
theorem lead_bd (y : Nat) (h : 1 ≤ y) (h2 : y < 9223372036854775808) : ∃ s : Nat, (64 : Int) - (Lib.bitLen y : Int) = (s : Int) ∧ 1 ≤ s ∧ s ≤ 63 ∧ 9223372036854775808 ≤ y * 2 ^ s ∧ y * 2 ^ s < 18446744073709551616 := by
  obtain ⟨a, b, c, d⟩ := bitLen_bd y h h2
  refine ⟨64 - Lib.bitLen y, by omega, by omega, by omega, ?_, ?_⟩
  · have e : (2 : Nat) ^ (Lib.bitLen y - 1) * 2 ^ (64 - Lib.bitLen y) = 9223372036854775808 := by
      rw [← Nat.pow_add, show Lib.bitLen y - 1 + (64 - Lib.bitLen y) = 63 from by omega]
    rw [← e]
    exact Nat.mul_le_mul_right _ c
  · have e : (2 : Nat) ^ Lib.bitLen y * 2 ^ (64 - Lib.bitLen y) = 18446744073709551616 := by
      rw [← Nat.pow_add, show Lib.bitLen y + (64 - Lib.bitLen y) = 64 from by omega]
    rw [← e]
    exact Nat.mul_lt_mul_of_pos_right d (Nat.two_pow_pos _)

theorem lead_any (y : Nat) (w : World) (h : 1 ≤ y) (h2 : y < 9223372036854775808) :
    Calls Tryd.prog 31 #[.int .u64 y] w fun e w' => e = .returned (.int .i64 (64 - (Lib.bitLen y : Int))) ∧ w = w' := by
  have L := fun W => Lib.hid (len64_any (y : Int) W (by omega) (by omega))
  have hb := bitLen_bd y h h2
  rw [Int.toNat_natCast] at L
  generalize Lib.bitLen y = b at *
  obtain ⟨b1, b2, _, _⟩ := hb
  go_enter Tryd.func31, Tryd.ntmps31
  go_wp2_with (go_at_call 32; refine (L _).out.mono ?_; rintro e w1 ⟨rfl, rfl⟩)
  go_ret
  exact ⟨rfl, rfl⟩

/-- What Div64 hands back: the quotient, and some rest. -/
def RetQ (q : Nat) (e : Ending) : Prop := ∃ r : Int, e = .returned (.tuple #[.int .u64 (q : Int), .int .u64 r])

set_option maxHeartbeats 4000000 in
set_option maxRecDepth 100000 in
theorem div64_low (lo y : Nat) (w : World) (hlo : lo < 18446744073709551616) (hy : 1 ≤ y) (hy2 : y < 9223372036854775808) :
    Calls Tryd.prog 29 #[.int .u64 0, .int .u64 lo, .int .u64 y] w fun e w' => RetQ (lo / y) e ∧ Below w.heap.size w w' := by
  have hq : IntKind.u64.wrap ((lo : Int) / (y : Int)) = ((lo / y : Nat) : Int) := by
    rw [← Int.natCast_ediv]
    have := Nat.div_le_self lo y
    exact Mul64.wrapN _ (by omega)
  generalize lo / y = q at *
  have e1 : ((y : Int) == 0) = false := by simp; omega
  have e2 : decide ((y : Int) ≤ 0) = false := by simp; omega
  have e3 : (1 : Int) ≤ (y : Int) := by omega
  have e4 : (0 : Int) ≤ (lo : Int) := by omega
  go_enter Tryd.func29, Tryd.ntmps29
  go_wp2_with fail
  go_quiet (fail)
  go_wp2_with fail
  go_ret2
  refine ⟨⟨_, rfl⟩, ?_⟩
  exact ⟨rfl, rfl, rfl, Nat.le_refl _, fun _ _ => rfl⟩

set_option maxHeartbeats 4000000 in
set_option maxRecDepth 100000 in
theorem div64_high (hi lo y : Nat) (w : World) (hh : 1 ≤ hi) (hlo : lo < 18446744073709551616) (hy : 1 ≤ y) (hy2 : y < 9223372036854775808) (hN : hi * 18446744073709551616 + lo < 1000 * y) :
    Calls Tryd.prog 29 #[.int .u64 hi, .int .u64 lo, .int .u64 y] w fun e w' => RetQ ((hi * 18446744073709551616 + lo) / y) e ∧ Below w.heap.size w w' := by
  have L := fun W => Lib.hid (lead_any y W hy hy2)
  obtain ⟨s, hs, s1, s2, hY1, hY2⟩ := lead_bd y hy hy2
  rw [hs] at L
  clear hs
  obtain ⟨Y, hY⟩ : ∃ Y, Y = y * 2 ^ s := ⟨_, rfl⟩
  obtain ⟨a, ha⟩ : ∃ a, a = hi * 2 ^ s := ⟨_, rfl⟩
  obtain ⟨m, hm⟩ : ∃ m, m = lo * 2 ^ s := ⟨_, rfl⟩
  rw [← hY] at hY1 hY2
  have hU : a + m / 18446744073709551616 < 1000 := by rw [ha, hm]; exact Qm.dv_un32 hlo hN (by rw [← hY]; exact hY2)
  have hW : (hi * 18446744073709551616 + lo) * 2 ^ s = (a + m / 18446744073709551616) * 18446744073709551616 + m % 18446744073709551616 := by rw [ha, hm]; exact Qm.dv_whole
  have hQ : (hi * 18446744073709551616 + lo) / y = ((a + m / 18446744073709551616) * 18446744073709551616 + m % 18446744073709551616) / Y := by
    rw [← hW, hY]
    exact Qm.dv_end.symm
  have hb : lo / 2 ^ (64 - s) = m / 18446744073709551616 := by
    rw [hm, show (18446744073709551616 : Nat) = 2 ^ (64 - s) * 2 ^ s from by rw [← Nat.pow_add, show 64 - s + s = 64 from by omega]]
    exact (Nat.mul_div_mul_right _ _ (Nat.two_pow_pos s)).symm
  have hor : a ||| m / 18446744073709551616 = a + m / 18446744073709551616 := by
    have h1 : m / 18446744073709551616 < 2 ^ s := by
      rw [← hb, Nat.div_lt_iff_lt_mul (Nat.two_pow_pos _), ← Nat.pow_add, show s + (64 - s) = 64 from by omega]
      exact hlo
    have h2 := Nat.shiftLeft_add_eq_or_of_lt h1 hi
    rw [Nat.shiftLeft_eq, ← ha] at h2
    exact h2.symm
  have HQ := Lib.hid hQ
  have HN : (a + m / 18446744073709551616) * 18446744073709551616 + m % 18446744073709551616 < 1000 * Y := by
    rw [← hW, hY, ← Nat.mul_assoc]
    exact Nat.mul_lt_mul_of_pos_right hN (Nat.two_pow_pos s)
  have E1 : IntKind.u64.wrap ((y : Int) * 2 ^ s) = (Y : Int) := by
    have : (y : Int) * 2 ^ s = ((y * 2 ^ s : Nat) : Int) := by push_cast; rfl
    rw [this, ← hY]
    exact Mul64.wrapN Y hY2
  have E2 : (Y : Int) / 4294967296 = ((Y / 4294967296 : Nat) : Int) := by omega
  have E3 : bits .and .u64 (Y : Int) 4294967295 = ((Y % 4294967296 : Nat) : Int) := Mul64.maskN Y hY2
  have E4 : IntKind.u64.wrap ((hi : Int) * 2 ^ s) = (a : Int) := by
    have : (hi : Int) * 2 ^ s = ((hi * 2 ^ s : Nat) : Int) := by push_cast; rfl
    rw [this, ← ha]
    exact Mul64.wrapN a (by omega)
  have E5 : (lo : Int) / 2 ^ (64 - s) = ((m / 18446744073709551616 : Nat) : Int) := by
    rw [← hb]; push_cast; rfl
  have E6 : bits .or .u64 (a : Int) ((m / 18446744073709551616 : Nat) : Int) = ((a + m / 18446744073709551616 : Nat) : Int) := by
    rw [← hor]
    exact bits_or_u64_nat a (m / 18446744073709551616) (by omega) (by omega)
  have E7 : IntKind.u64.wrap ((lo : Int) * 2 ^ s) = ((m % 18446744073709551616 : Nat) : Int) := by
    have : (lo : Int) * 2 ^ s = ((lo * 2 ^ s : Nat) : Int) := by push_cast; rfl
    rw [this, ← hm]
    exact Mul64.wrapM m
  have dm : m % 18446744073709551616 < 18446744073709551616 := Nat.mod_lt _ (by omega)
  have bY1 : 2147483648 ≤ Y / 4294967296 := by omega
  generalize a + m / 18446744073709551616 = c at *
  generalize m / 18446744073709551616 = b at *
  generalize m % 18446744073709551616 = d at *
  have E8 : (d : Int) / 4294967296 = ((d / 4294967296 : Nat) : Int) := by omega
  have E9 : bits .and .u64 (d : Int) 4294967295 = ((d % 4294967296 : Nat) : Int) := Mul64.maskN d dm
  have bn1 : Y / 4294967296 < 4294967296 := by omega
  have bn0 : Y % 4294967296 < 4294967296 := by omega
  have bd1 : d / 4294967296 < 4294967296 := by omega
  have bd0 : d % 4294967296 < 4294967296 := by omega
  have hlt : hi < y := by omega
  clear hW hb hor hQ hN ha hm hY
  have e1 : ((y : Int) == 0) = false := by simp; omega
  have e2 : decide ((y : Int) ≤ (hi : Int)) = false := by simp; omega
  have e3 : ((hi : Int) == 0) = false := by simp; omega
  obtain ⟨n1, hn1⟩ : ∃ n1, n1 = Y / 4294967296 := ⟨_, rfl⟩
  obtain ⟨n0, hn0⟩ : ∃ n0, n0 = Y % 4294967296 := ⟨_, rfl⟩
  obtain ⟨d1, hd1⟩ : ∃ d1, d1 = d / 4294967296 := ⟨_, rfl⟩
  obtain ⟨d0, hd0⟩ : ∃ d0, d0 = d % 4294967296 := ⟨_, rfl⟩
  rw [← hn1] at E2 bY1 bn1
  rw [← hn0] at E3 bn0
  rw [← hd1] at E8 bd1
  rw [← hd0] at E9 bd0
  have E10 : (c : Int) / (n1 : Int) = 0 := Int.ediv_eq_zero_of_lt (by omega) (by omega)
  have E11 : (1 : Int) ≤ (n1 : Int) := by omega
  obtain ⟨u, hu⟩ : ∃ u, u = c * 4294967296 + d1 := ⟨_, rfl⟩
  have E12 : (c : Int) * 4294967296 + (d1 : Int) = (u : Int) := by omega
  have hU1 : (c * 18446744073709551616 + d) / 4294967296 = u := by rw [hu, hd1]; omega
  have hU0 : (c * 18446744073709551616 + d) % 4294967296 = d0 := by rw [hd0]; omega
  have hUY : c * 18446744073709551616 + d < 1000 * Y := HN
  have hst := Qm.dv_start hY1 hUY hY2
  have hQ := HQ.out
  clear HQ
  obtain ⟨U, hUd⟩ : ∃ U, U = c * 18446744073709551616 + d := ⟨_, rfl⟩
  rw [← hUd] at hU1 hU0 hUY hst hQ
  have HQ := Lib.hid hQ
  clear hQ hUd
  rw [hU1, ← hn1] at hst
  obtain ⟨q0, hq0⟩ : ∃ q0, q0 = u / n1 := ⟨_, rfl⟩
  rw [← hq0] at hst
  obtain ⟨r0, hr0⟩ : ∃ r0, r0 = u - q0 * n1 := ⟨_, rfl⟩
  rw [← hr0] at hst
  have E13 : (u : Int) / (n1 : Int) = (q0 : Int) := by rw [hq0, Int.natCast_ediv]
  have hle : q0 * n1 ≤ u := by rw [hq0]; exact Nat.div_mul_le_self u n1
  have hrn : r0 < n1 := by
    have h1 := Nat.div_add_mod u n1
    have h2 := Nat.mod_lt u (show 0 < n1 by omega)
    rw [← hq0, Nat.mul_comm] at h1
    omega
  have E14 : (q0 : Int) * (n1 : Int) = ((q0 * n1 : Nat) : Int) := (Int.natCast_mul _ _).symm
  generalize q0 * n1 = qn at *
  have E15 : (u : Int) - (qn : Int) = (r0 : Int) := by omega
  have bu : u < 4294967296000 := by omega
  have IS : Hid (Qm.DvInv U Y q0 r0) := Lib.hid hst
  have IL : Hid (∀ q r, Qm.DvInv U Y q r → q * n0 ≤ 4294967296 * r + d0 → q = U / Y) := Lib.hid (fun q r h hc => Qm.dv_le h (by rw [← hn0, hU0]; exact hc) (by omega))
  have IB : Hid (∀ q r, Qm.DvInv U Y q r → 4294967296 ≤ r → q = U / Y) := Lib.hid (fun q r h hc => Qm.dv_break h hc (by omega))
  have IP : Hid (∀ q r, Qm.DvInv U Y q r → 4294967296 * r + d0 < q * n0 → 1 ≤ q ∧ Qm.DvInv U Y (q - 1) (r + n1)) := Lib.hid (fun q r h hc => by
    have := Qm.dv_step h (by rw [← hn0, hU0]; exact hc) (by omega)
    rw [← hn1] at this
    exact this)
  have IQ : Hid (∀ q r, Qm.DvInv U Y q r → q ≤ 2000) := Lib.hid (fun q r h => h.2.2)
  have HBW : Hid (Below w.heap.size w w) := Lib.hid (Below.refl _ _)
  have bq0 := IQ.out _ _ hst
  clear hn1 hn0 hd1 hd0 hst hU1 hU0 hUY HN hr0 hq0 hu
  go_enter Tryd.func29, Tryd.ntmps29
  go_wp2_with (go_at_call 31; refine (L _).out.mono ?_; rintro e w1 ⟨rfl, rfl⟩)
  clear L E1 E2 E3 E4 E5 E6 E7 E8 E9 e1 e2 e3
  go_loop [15, 16] (fun q r => q = .int .u64 0 ∧ r = .int .u64 c) (fun _ _ => 0)
  case atStart => exact ⟨rfl, rfl⟩
  case round =>
    obtain ⟨rfl, rfl⟩ := hrel
    go_wp2_with fail
    clear E10 E12 E13 E14 E15
    go_loop [18, 16] (fun q r => ∃ qv rv : Nat, q = .int .u64 qv ∧ r = .int .u64 rv ∧ Hid (Qm.DvInv U Y qv rv) ∧ rv < 4294967296) (fun q _ => (intOf q).toNat)
    case atStart => exact ⟨q0, r0, rfl, rfl, IS, by omega⟩
    case round =>
      obtain ⟨q, r, rfl, rfl, HI, hr⟩ := hrel
      have hq2 := IQ.out _ _ HI.out
      have bq : (q : Int) < 4294967296 := by omega
      have E16 : (q : Int) * (n0 : Int) = ((q * n0 : Nat) : Int) := (Int.natCast_mul _ _).symm
      have bqn : q * n0 ≤ 2000 * 4294967296 := Nat.mul_le_mul hq2 (by omega)
      have hc : q * n0 ≤ 4294967296 * r + d0 ∨ 4294967296 * r + d0 < q * n0 := by omega
      obtain ⟨pr, hpr⟩ : ∃ pr, pr = 4294967296 * r := ⟨_, rfl⟩
      have E17 : (4294967296 : Int) * (r : Int) = (pr : Int) := by omega
      have bpr : (pr : Int) ≤ 18446744069414584320 := by omega
      have HPR := Lib.hid hpr
      have HR := Lib.hid hr
      clear hr
      rcases hc with hc | hc
      · have hfin := Lib.hid (IL.out _ _ HI.out hc)
        generalize q * n0 = qp at *
        have hci : (qp : Int) ≤ (pr : Int) + (d0 : Int) := by omega
        have bqi : (qp : Int) ≤ 8589934592000 := by omega
        have hq2i : (q : Int) ≤ 2000 := by omega
        have hq0i : (0 : Int) ≤ (q : Int) := by omega
        clear hc bqn hpr hq2
        generalize hqi : (q : Int) = qi at *
        generalize hri : (r : Int) = ri at *
        have HQI := Lib.hid hqi
        clear hqi hri
        obtain ⟨z1, hz1⟩ : ∃ z1 : Int, IntKind.u64.wrap ((u : Int) * 4294967296) = z1 := ⟨_, rfl⟩
        obtain ⟨z2, hz2⟩ : ∃ z2 : Int, IntKind.u64.wrap (z1 + (d0 : Int)) = z2 := ⟨_, rfl⟩
        obtain ⟨z3, hz3⟩ : ∃ z3 : Int, IntKind.u64.wrap (qi * (Y : Int)) = z3 := ⟨_, rfl⟩
        obtain ⟨z4, hz4⟩ : ∃ z4 : Int, IntKind.u64.wrap (z2 - z3) = z4 := ⟨_, rfl⟩
        obtain ⟨z5, hz5⟩ : ∃ z5 : Int, z4 / 2 ^ s = z5 := ⟨_, rfl⟩
        go_wp2_with fail
        go_ret2
        exact ⟨⟨_, by rw [HQ.out, ← hfin.out, HQI.out]; rfl⟩, HBW.out⟩
      · obtain ⟨hq1, hnx⟩ := IP.out _ _ HI.out hc
        have HNX := Lib.hid hnx
        clear hnx
        generalize q * n0 = qp at *
        have hci : (pr : Int) + (d0 : Int) < (qp : Int) := by omega
        have bqi : (qp : Int) ≤ 8589934592000 := by omega
        have hq2i : (q : Int) ≤ 2000 := by omega
        have hq0i : (1 : Int) ≤ (q : Int) := by omega
        have hr0i : (0 : Int) ≤ (r : Int) := by omega
        have hr1i : (r : Int) < 4294967296 := by have := HR.out; omega
        have hc2 : 4294967296 ≤ r + n1 ∨ r + n1 < 4294967296 := by omega
        clear hc bqn hpr hq2
        rcases hc2 with hc2 | hc2
        · have hfin := Lib.hid (IB.out _ _ HNX.out hc2)
          have hc2i : (4294967296 : Int) ≤ (r : Int) + (n1 : Int) := by omega
          have hq1i : (q : Int) - 1 = ((q - 1 : Nat) : Int) := by omega
          clear hc2 hq1
          generalize hqi : (q : Int) = qi at *
          generalize hri : (r : Int) = ri at *
          have HQI := Lib.hid hq1i
          clear hqi hri hq1i
          obtain ⟨z1, hz1⟩ : ∃ z1 : Int, IntKind.u64.wrap ((u : Int) * 4294967296) = z1 := ⟨_, rfl⟩
          obtain ⟨z2, hz2⟩ : ∃ z2 : Int, IntKind.u64.wrap (z1 + (d0 : Int)) = z2 := ⟨_, rfl⟩
          obtain ⟨z3, hz3⟩ : ∃ z3 : Int, IntKind.u64.wrap ((qi - 1) * (Y : Int)) = z3 := ⟨_, rfl⟩
          obtain ⟨z4, hz4⟩ : ∃ z4 : Int, IntKind.u64.wrap (z2 - z3) = z4 := ⟨_, rfl⟩
          obtain ⟨z5, hz5⟩ : ∃ z5 : Int, z4 / 2 ^ s = z5 := ⟨_, rfl⟩
          go_wp2_with fail
          go_ret2
          exact ⟨⟨_, by rw [HQ.out, ← hfin.out, HQI.out]; rfl⟩, HBW.out⟩
        · have hc2i : (r : Int) + (n1 : Int) < (4294967296 : Int) := by omega
          have hc3 := Lib.hid hc2
          have hq1i : (q : Int) - 1 = ((q - 1 : Nat) : Int) := by omega
          have hr1i' : (r : Int) + (n1 : Int) = ((r + n1 : Nat) : Int) := by omega
          clear hc2 hq1
          generalize hqi : (q : Int) = qi at *
          generalize hri : (r : Int) = ri at *
          have HQI := Lib.hid hq1i
          have HRI := Lib.hid hr1i'
          have HQE := Lib.hid hqi
          clear hqi hri hq1i hr1i'
          go_wp2_with fail
          go_round
          case rel => exact ⟨q - 1, r + n1, by rw [HQI.out], by rw [HRI.out], HNX, hc3.out⟩
          case measure =>
            have h1 := HQE.out
            have h2 := HQI.out
            simp [intOf]
            omega
end Go.Proofs.YtkmcdeejkcncpaaDoor
