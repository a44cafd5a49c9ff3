/- Names of numbers below 100. -/
import Derived.Test.YtbdiamhhlabojaaDoorLk
namespace Go.Proofs.YtbdiamhhlabojaaDoor
open Go.RowKit
set_option linter.unusedVariables false
set_option linter.unusedSimpArgs false
set_option maxRecDepth 100000

/-- The digits of a number below 100. -/
def dgJ (n : Nat) : ByteArray := if n < 10 then ⟨#[UInt8.ofNat (48 + n)]⟩ else ⟨#[UInt8.ofNat (48 + n / 10), UInt8.ofNat (48 + n % 10)]⟩
def dig36 : ByteArray := ⟨#[48, 49, 50, 51, 52, 53, 54, 55, 56, 57, 97, 98, 99, 100, 101, 102, 103, 104, 105, 106, 107, 108, 109, 110, 111, 112, 113, 114, 115, 116, 117, 118, 119, 120, 121, 122]⟩
theorem dig_lo : (List.range 10).all (fun n => decide (dig36.extract n (n + 1) = dgJ n)) = true := by decide +kernel
theorem small_lo (n : Nat) (h : n < 10) (w : World) : Calls Tryd.prog 84 #[.int .i64 (n : Int)] w fun e w' => e = .returned (.string (dgJ n)) ∧ w' = w := by
  have d1 : decide ((n : Int) < 10) = true := decide_eq_true (by omega)
  obtain ⟨m, hm⟩ : ∃ m, m = n + 1 := ⟨_, rfl⟩
  have im : (n : Int) + 1 = (m : Int) := by omega
  have HD : Hid (dig36.extract n m = dgJ n) := Lib.hid (by rw [hm]; exact of_decide_eq_true (List.all_eq_true.1 dig_lo n (List.mem_range.2 h)))
  have j1 : n ≤ m := by omega
  have j2 : m ≤ 36 := by omega
  have HM := Lib.hid hm
  clear hm
  go_enter Tryd.func84, Tryd.ntmps84
  go_wp2_with fail
  go_ret
  refine ⟨?_, rfl⟩
  rw [← HD.out]
  rfl
def dig200 : ByteArray := ⟨#[48, 48, 48, 49, 48, 50, 48, 51, 48, 52, 48, 53, 48, 54, 48, 55, 48, 56, 48, 57, 49, 48, 49, 49, 49, 50, 49, 51, 49, 52, 49, 53, 49, 54, 49, 55, 49, 56, 49, 57, 50, 48, 50, 49, 50, 50, 50, 51, 50, 52, 50, 53, 50, 54, 50, 55, 50, 56, 50, 57, 51, 48, 51, 49, 51, 50, 51, 51, 51, 52, 51, 53, 51, 54, 51, 55, 51, 56, 51, 57, 52, 48, 52, 49, 52, 50, 52, 51, 52, 52, 52, 53, 52, 54, 52, 55, 52, 56, 52, 57, 53, 48, 53, 49, 53, 50, 53, 51, 53, 52, 53, 53, 53, 54, 53, 55, 53, 56, 53, 57, 54, 48, 54, 49, 54, 50, 54, 51, 54, 52, 54, 53, 54, 54, 54, 55, 54, 56, 54, 57, 55, 48, 55, 49, 55, 50, 55, 51, 55, 52, 55, 53, 55, 54, 55, 55, 55, 56, 55, 57, 56, 48, 56, 49, 56, 50, 56, 51, 56, 52, 56, 53, 56, 54, 56, 55, 56, 56, 56, 57, 57, 48, 57, 49, 57, 50, 57, 51, 57, 52, 57, 53, 57, 54, 57, 55, 57, 56, 57, 57]⟩
theorem dig_hi : (List.range 100).all (fun n => decide (n < 10) || decide (dig200.extract (n * 2) (n * 2 + 2) = dgJ n)) = true := by decide +kernel
theorem small_hi (n : Nat) (h : n < 100) (h2 : ¬ n < 10) (w : World) : Calls Tryd.prog 84 #[.int .i64 (n : Int)] w fun e w' => e = .returned (.string (dgJ n)) ∧ w' = w := by
  have d1 : decide ((n : Int) < 10) = false := decide_eq_false (by omega)
  have n0 : n ≤ 99 := by omega
  go_enter Tryd.func84, Tryd.ntmps84
  have HD : Hid (dig200.extract (n * 2) (n * 2 + 2) = dgJ n) := Lib.hid (by
    have h3 := List.all_eq_true.1 dig_hi n (List.mem_range.2 h)
    rw [decide_eq_false h2, Bool.false_or] at h3
    exact of_decide_eq_true h3)
  go_wp2_with fail
  go_ret
  refine ⟨?_, rfl⟩
  rw [← HD.out]
  rfl
theorem small_any (n : Nat) (h : n < 100) (w : World) : Calls Tryd.prog 84 #[.int .i64 (n : Int)] w fun e w' => e = .returned (.string (dgJ n)) ∧ w' = w := by
  by_cases h2 : n < 10
  · exact small_lo n h2 w
  · exact small_hi n h h2 w
theorem fmt_any (n : Nat) (h : n < 100) (w : World) : Calls Tryd.prog 80 #[.int .i64 (n : Int), .int .i64 10] w fun e w' => e = .returned (.string (dgJ n)) ∧ w' = w := by
  have d1 : decide ((n : Int) < 100) = true := decide_eq_true (by omega)
  have d2 : decide ((0 : Int) ≤ (n : Int)) = true := decide_eq_true (by omega)
  go_enter Tryd.func80, Tryd.ntmps80
  go_wp2_with (go_at_call 84; (with_reducible refine (small_any n h _).mono ?_); rintro e wi ⟨rfl, hwi⟩; subst hwi)
  go_ret
  exact ⟨rfl, rfl⟩
theorem iitoa_any (n : Nat) (h : n < 100) (w : World) : Calls Tryd.prog 71 #[.int .i64 (n : Int)] w fun e w' => e = .returned (.string (dgJ n)) ∧ w' = w := by
  go_enter Tryd.func71, Tryd.ntmps71
  go_wp2_with (go_at_call 80; (with_reducible refine (fmt_any n h _).mono ?_); rintro e wi ⟨rfl, hwi⟩; subst hwi)
  go_ret
  exact ⟨rfl, rfl⟩
theorem itoa_any (n : Nat) (h : n < 100) (w : World) : Calls Tryd.prog 48 #[.int .i64 (n : Int)] w fun e w' => e = .returned (.string (dgJ n)) ∧ w' = w := by
  go_enter Tryd.func48, Tryd.ntmps48
  go_wp2_with (go_at_call 71; (with_reducible refine (iitoa_any n h _).mono ?_); rintro e wi ⟨rfl, hwi⟩; subst hwi)
  go_ret
  exact ⟨rfl, rfl⟩
/-- A letter and a number. -/
def nmL (c : ByteArray) (n : Nat) : ByteArray := c ++ dgJ n
def nmJ (n : Nat) : ByteArray := nmL ⟨#[106]⟩ n
theorem dg_size {n : Nat} (h : n < 100) : (dgJ n).size ≤ 2 := by unfold dgJ; split <;> simp [ByteArray.size]
theorem nmJ_all : (List.range 100).all (fun a => (List.range 100).all fun b => decide (a = b) || !decide (nmJ a = nmJ b)) = true := by decide +kernel
theorem nmJ_inj {a b : Nat} (ha : a < 100) (hb : b < 100) (h : nmJ a = nmJ b) : a = b := by
  have h1 := List.all_eq_true.1 (List.all_eq_true.1 nmJ_all a (List.mem_range.2 ha)) b (List.mem_range.2 hb)
  rw [decide_eq_true h] at h1
  simpa using h1
theorem nmJ_nes : (List.range 100).all (fun n => !((nmJ n).toList == ([] : List UInt8))) = true := by decide +kernel
theorem nmJ_ne {n : Nat} (h : n < 100) : ((nmJ n).toList == ([] : List UInt8)) = false := by
  have h1 := List.all_eq_true.1 nmJ_nes n (List.mem_range.2 h)
  simpa using h1
theorem name_any (n : Nat) (h : n < 100) (w : World) : Calls Tryd.prog 21 #[.int .i64 (n : Int)] w fun e w' => e = .returned (.string (nmJ n)) ∧ w' = w := by
  have d1 : decide ((n : Int) < 0) = false := decide_eq_false (by omega)
  have hc : ∀ W, (Op.stringOp .add ⟨#[106]⟩ (dgJ n)).run Tryd.prog W = .ok (.string (nmJ n)) W := fun W => by
    rw [run_string_add_sum (P := Tryd.prog) W _ _ (by have := dg_size h; show 1 + _ ≤ _; omega)]; rfl
  go_enter Tryd.func21, Tryd.ntmps21
  go_wp2_with (go_at_call 48; (with_reducible refine (itoa_any n h _).mono ?_); rintro e wi ⟨rfl, hwi⟩; subst hwi)
  go_ret
  exact ⟨rfl, rfl⟩
end Go.Proofs.YtbdiamhhlabojaaDoor
