/- CheckRest: any bytes with their own sum behind them have one and the same sum. -/
import Derived.Test.YthgcellfibkpfaaCr
namespace Go.Proofs.Ythgcellfibkpfaa
open Go.RowKit
set_option linter.unusedVariables false

theorem sumN (A : Option Addr) (l : List UInt8) (n c B : Nat) (w : World) (hn : n = l.length) (hb : Rd w B A (l.map B8)) (hl : l.length ≤ 140737488355328) :
    Calls Try.prog 8 #[.slice A n c] w fun e w' => e = .returned (.int .u32 (Cm.sum l : Nat)) ∧ w = w' := by
  subst hn; exact sum_calls A l c B w hb hl
theorem moreN (s : Nat) (hs : s < 4294967296) (A : Option Addr) (l : List UInt8) (n c B : Nat) (w : World) (hn : n = l.length) (hb : Rd w B A (l.map B8)) (hl : l.length ≤ 140737488355328) :
    Calls Try.prog 10 #[.int .u32 s, .slice A n c] w fun e w' => e = .returned (.int .u32 (Cm.more s l : Nat)) ∧ w = w' := by
  subst hn; exact more_calls s hs A l c B w hb hl

theorem and255 (m : Nat) (hm : m < 4294967296) : bits .and .u32 (m : Int) 255 = ((m % 256 : Nat) : Int) := by
  rw [show (255 : Int) = ((255 : Nat) : Int) from rfl, u32_and_nat m 255 hm (by omega), nat_mask8]

set_option maxHeartbeats 1000000 in
set_option maxRecDepth 100000 in
theorem rest_out (A : Option Addr) (l : List UInt8) (c : Nat) (w : World) (h : 300 < l.length) (hl : l.length ≤ maxLen) :
    Calls Try.prog 6 #[.slice A l.length c] w fun e w' => e = .returned (.bool true) ∧ Below w.heap.size w w' := by
  unfold maxLen at hl
  go_enter Try.func6, Try.ntmps6
  go_wp2_with (go_at_call 7; refine (alive2_calls _).mono ?_; rintro e w1 ⟨rfl, hb1⟩)
  go_ret
  exact ⟨rfl, hb1⟩

set_option maxHeartbeats 1000000 in
set_option maxRecDepth 100000 in
theorem rest_in (A : Option Addr) (l : List UInt8) (c : Nat) (w : World) (hl : l.length ≤ 300) (hb : Rd w w.heap.size A (l.map B8)) :
    Calls Try.prog 6 #[.slice A l.length c] w fun e w' => e = .returned (.bool true) ∧ Below w.heap.size w w' := by
  have hx := Cm.sum_lt l
  have HS := Lib.hid (fun W (h : Below w.heap.size w W) => sum_calls A l c _ W (hb.below h) (by omega))
  have HR := Lib.hid (Cm.rest (Cm.sum l) hx)
  clear hb
  generalize Cm.sum l = x at *
  have HM := Lib.hid (fun W B hb => moreN x hx (some ⟨W, 0, none⟩) (Cm.le4 x) 4 4 B · rfl hb (by simp [Cm.le4]))
  have e0 := and255 x hx
  have e1 := and255 (x / 256) (by omega)
  have e2 := and255 (x / 65536) (by omega)
  have d1 : (x : Int) / 256 = ((x / 256 : Nat) : Int) := by omega
  have d2 : (x : Int) / 65536 = ((x / 65536 : Nat) : Int) := by omega
  have d3 : (x : Int) / 16777216 = ((x / 16777216 : Nat) : Int) := by omega
  have HL : Hid ((Cm.le4 x).map B8 = [.int .u8 ((x % 256 : Nat) : Int), .int .u8 ((x / 256 % 256 : Nat) : Int), .int .u8 ((x / 65536 % 256 : Nat) : Int), .int .u8 ((x / 16777216 : Nat) : Int)]) := by
    show (Cm.le4 x).map B8 = _
    have h3 : x / 16777216 % 256 = x / 16777216 := by omega
    simp only [Cm.le4, List.map_cons, List.map_nil, B8, Cm.toNat_mod]
    rw [h3]
  have q0 : x % 256 < 256 := by omega
  have q1 : x / 256 % 256 < 256 := by omega
  have q2 : x / 65536 % 256 < 256 := by omega
  have q3 : x / 16777216 < 256 := by omega
  generalize x % 256 = u0 at *
  generalize x / 256 % 256 = u1 at *
  generalize x / 65536 % 256 = u2 at *
  generalize x / 16777216 = u3 at *
  have y1 : x / 256 < 4294967296 := by omega
  have y2 : x / 65536 < 4294967296 := by omega
  generalize x / 256 = z1 at *
  generalize x / 65536 = z2 at *
  go_enter Try.func6, Try.ntmps6
  go_wp2_with (first
    | (go_at_call 7; refine (alive2_calls _).mono ?_; rintro e w1 ⟨rfl, hb1⟩; have B1 := Lib.hid hb1; clear hb1)
    | (go_at_call 8; refine (HS.out _ B1.out).mono ?_; rintro e w2 ⟨rfl, rfl⟩)
    | (go_at_call 10; refine (moreN x hx _ (Cm.le4 x) _ _ _ _ rfl (by rw [HL.out]; exact Rd.lit w1 _ _) (by simp [Cm.le4])).mono ?_; rw [HR.out]; rintro e w3 ⟨rfl, rfl⟩))
  go_ret
  exact ⟨rfl, B1.out.alloc B1.out.size _⟩
end Go.Proofs.Ythgcellfibkpfaa
