/- What the code's Get and the document's Get answer, of any bytes: the same plain function. -/
import Derived.Test.YtchcjbapbdfhkaaRows
import Derived.Test.YtchcjbapbdfhkaaBs
import Derived.Test.YtchcjbapbdfhkaaPl
namespace Go.Proofs.Ytchcjbapbdfhkaa
open Go.RowKit

set_option maxHeartbeats 1000000 in
set_option maxRecDepth 100000 in
theorem get_calls (A : Option Addr) (l : List UInt8) (c B : Nat) (w : World) (hb : Rd w B A (l.map B8)) (hl : l.length ≤ 140737488355328) :
    Calls Try.prog 105 #[.slice A l.length c] w fun e w' => e = .returned (.tuple #[.int .u64 (Mi.get l).1, .int .i64 (Mi.get l).2.1, .bool (Mi.get l).2.2]) ∧ w = w' := by
  go_enter Try.func105, Try.ntmps105
  go_wp2
  go_loop [5, 10] (fun n i => ∃ k acc : Nat, k ≤ 9 ∧ k ≤ l.length ∧ i = .int .i64 k ∧ n = .int .u64 acc ∧ acc < 128 ^ k ∧ Hid (Mi.getAux k acc (l.drop k) = Mi.get l)) (fun _ i => l.length - (intOf i).toNat)
  case atStart => exact ⟨0, 0, by omega, by omega, rfl, rfl, by decide, rfl⟩
  case round =>
    obtain ⟨k, acc, hk, hkl, rfl, rfl, hacc, H⟩ := hrel
    by_cases hlt : k < l.length
    · obtain ⟨a, rfl, _, hcell⟩ := hb.byte hlt
      have hcb : (l.getD k 0).toNat < 256 := (l.getD k 0).toNat_lt
      have H2 : Hid (Mi.getAux k acc (l.getD k 0 :: l.drop (k + 1)) = Mi.get l) := by rw [← Mi.drop_step l k hlt]; exact H.out
      clear hb H
      unfold Mi.getAux at H2
      generalize hu : (l.getD k 0).toNat = u at *
      clear hu
      have e1 := Mi.and127 u hcb
      by_cases h9 : 9 ≤ k ∧ 1 < u
      · have hb9 : ((k : Int) == 9) = true := by rw [beq_iff_eq]; omega
        have hu9 := h9.2
        have H3 : Hid (Mi.get l = (0, 0, false)) := by rw [← H2.out, if_pos ⟨by omega, hu9⟩]; rfl
        clear H2 h9
        go_wp2
        go_ret3
        exact ⟨by rw [H3.out]; rfl, rfl⟩
      · have e3 := Mi.or_step acc u k hk (by intro e; omega) hacc
        have hst := Mi.step_lt acc u k hacc
        have hE : ¬ (k = 9 ∧ 1 < u) := by omega
        have H3 := H2.out
        rw [if_neg hE] at H3
        have H4 := Lib.hid H3
        clear H2 H3 hE
        generalize acc + u % 128 * 128 ^ k = acc2 at *
        by_cases h128 : 128 ≤ u
        · have e2 : (bits .and .u8 (u : Int) 128 != 0) = true := by
            rw [Mi.and128 u hcb, bne_iff_ne]; omega
          have hk9 : k < 9 := by omega
          have hb9 : ((k : Int) == 9) = false := by rw [beq_eq_false_iff_ne]; omega
          have H5 := H4.out
          rw [if_pos h128] at H5
          have H6 := Lib.hid H5
          clear H4 H5 h9
          go_wp2
          go_round
          case rel => exact ⟨k + 1, acc2, by omega, by omega, by go_num, rfl, hst, H6.out⟩
          case measure => simp [intOf]; omega
        · have e2 : (bits .and .u8 (u : Int) 128 != 0) = false := by
            rw [Mi.and128 u hcb, bne_eq_false_iff_eq]; omega
          have H5 := H4.out
          rw [if_neg h128] at H5
          have hd : (((k : Int) == 9) = false) ∨ (((k : Int) == 9) = true ∧ u ≤ 1) := by
            rcases Nat.lt_or_ge k 9 with h | h
            · left; rw [beq_eq_false_iff_ne]; omega
            · right; exact ⟨by rw [beq_iff_eq]; omega, by omega⟩
          clear h9
          by_cases hz : u = 0 ∧ 0 < k
          · rw [if_pos hz] at H5
            have H6 := Lib.hid H5
            have hk0 := hz.2
            have hu0 : ((u : Int) == 0) = true := by rw [beq_iff_eq]; omega
            clear H4 H5 hz
            rcases hd with hb9 | ⟨hb9, hu1⟩
            all_goals
              go_wp2
              go_ret3
              exact ⟨by rw [← H6.out]; rfl, rfl⟩
          · rw [if_neg hz] at H5
            have H6 := Lib.hid H5
            clear H4 H5
            have hq : (((u : Int) == 0) = false) ∨ (((u : Int) == 0) = true ∧ k < 1) := by
              rcases Nat.lt_or_ge 0 u with h | h
              · left; rw [beq_eq_false_iff_ne]; omega
              · right; exact ⟨by rw [beq_iff_eq]; omega, by omega⟩
            clear hz
            rcases hd with hb9 | ⟨hb9, hu1⟩ <;> rcases hq with hu0 | ⟨hu0, hk0⟩
            all_goals
              go_wp2
              all_goals
                go_ret3
                exact ⟨by rw [← H6.out]; rfl, rfl⟩
    · have H3 : Hid (Mi.get l = (0, 0, false)) := by rw [← H.out, List.drop_eq_nil_of_le (by omega)]; rfl
      clear H hb
      go_wp2
      go_ret3
      exact ⟨by rw [H3.out]; rfl, rfl⟩

set_option maxHeartbeats 1000000 in
set_option maxRecDepth 100000 in
theorem rget_calls (A : Option Addr) (l : List UInt8) (c B : Nat) (w : World) (hb : Rd w B A (l.map B8)) (hl : l.length ≤ 140737488355328) :
    Calls Try.prog 73 #[.slice A l.length c] w fun e w' => e = .returned (.tuple #[.int .u64 (Mi.get l).1, .int .i64 (Mi.get l).2.1, .bool (Mi.get l).2.2]) ∧ w = w' := by
  go_enter Try.func73, Try.ntmps73
  go_wp2
  go_loop [5, 6] (fun n i => ∃ k acc : Nat, k ≤ 9 ∧ k ≤ l.length ∧ i = .int .i64 k ∧ n = .int .u64 acc ∧ acc < 128 ^ k ∧ Hid (Mi.getAux k acc (l.drop k) = Mi.get l)) (fun _ i => l.length - (intOf i).toNat)
  case atStart => exact ⟨0, 0, by omega, by omega, rfl, rfl, by decide, rfl⟩
  case round =>
    obtain ⟨k, acc, hk, hkl, rfl, rfl, hacc, H⟩ := hrel
    by_cases hlt : k < l.length
    · obtain ⟨a, rfl, _, hcell⟩ := hb.byte hlt
      have hcb : (l.getD k 0).toNat < 256 := (l.getD k 0).toNat_lt
      have H2 : Hid (Mi.getAux k acc (l.getD k 0 :: l.drop (k + 1)) = Mi.get l) := by rw [← Mi.drop_step l k hlt]; exact H.out
      clear hb H
      unfold Mi.getAux at H2
      generalize hu : (l.getD k 0).toNat = u at *
      clear hu
      have e1 := Mi.and127 u hcb
      by_cases h9 : 9 ≤ k ∧ 1 < u
      · have hb9 : ((k : Int) == 9) = true := by rw [beq_iff_eq]; omega
        have hu9 := h9.2
        have H3 : Hid (Mi.get l = (0, 0, false)) := by rw [← H2.out, if_pos ⟨by omega, hu9⟩]; rfl
        clear H2 h9
        go_wp2
        go_ret3
        exact ⟨by rw [H3.out]; rfl, rfl⟩
      · have e3 := Mi.or_step acc u k hk (by intro e; omega) hacc
        have hst := Mi.step_lt acc u k hacc
        have hE : ¬ (k = 9 ∧ 1 < u) := by omega
        have H3 := H2.out
        rw [if_neg hE] at H3
        have H4 := Lib.hid H3
        clear H2 H3 hE
        generalize acc + u % 128 * 128 ^ k = acc2 at *
        by_cases h128 : 128 ≤ u
        · have e2 : (bits .and .u8 (u : Int) 128 != 0) = true := by
            rw [Mi.and128 u hcb, bne_iff_ne]; omega
          have hk9 : k < 9 := by omega
          have hb9 : ((k : Int) == 9) = false := by rw [beq_eq_false_iff_ne]; omega
          have H5 := H4.out
          rw [if_pos h128] at H5
          have H6 := Lib.hid H5
          clear H4 H5 h9
          go_wp2
          go_round
          case rel => exact ⟨k + 1, acc2, by omega, by omega, by go_num, rfl, hst, H6.out⟩
          case measure => simp [intOf]; omega
        · have e2 : (bits .and .u8 (u : Int) 128 != 0) = false := by
            rw [Mi.and128 u hcb, bne_eq_false_iff_eq]; omega
          have H5 := H4.out
          rw [if_neg h128] at H5
          have hd : (((k : Int) == 9) = false) ∨ (((k : Int) == 9) = true ∧ u ≤ 1) := by
            rcases Nat.lt_or_ge k 9 with h | h
            · left; rw [beq_eq_false_iff_ne]; omega
            · right; exact ⟨by rw [beq_iff_eq]; omega, by omega⟩
          clear h9
          by_cases hz : u = 0 ∧ 0 < k
          · rw [if_pos hz] at H5
            have H6 := Lib.hid H5
            have hk0 := hz.2
            have hu0 : ((u : Int) == 0) = true := by rw [beq_iff_eq]; omega
            clear H4 H5 hz
            rcases hd with hb9 | ⟨hb9, hu1⟩
            all_goals
              go_wp2
              go_ret3
              exact ⟨by rw [← H6.out]; rfl, rfl⟩
          · rw [if_neg hz] at H5
            have H6 := Lib.hid H5
            clear H4 H5
            have hq : (((u : Int) == 0) = false) ∨ (((u : Int) == 0) = true ∧ k < 1) := by
              rcases Nat.lt_or_ge 0 u with h | h
              · left; rw [beq_eq_false_iff_ne]; omega
              · right; exact ⟨by rw [beq_iff_eq]; omega, by omega⟩
            clear hz
            rcases hd with hb9 | ⟨hb9, hu1⟩ <;> rcases hq with hu0 | ⟨hu0, hk0⟩
            all_goals
              go_wp2
              all_goals
                go_ret3
                exact ⟨by rw [← H6.out]; rfl, rfl⟩
    · have H3 : Hid (Mi.get l = (0, 0, false)) := by rw [← H.out, List.drop_eq_nil_of_le (by omega)]; rfl
      clear H hb
      go_wp2
      go_ret3
      exact ⟨by rw [H3.out]; rfl, rfl⟩

theorem getN (A : Option Addr) (l : List UInt8) (n c B : Nat) (w : World) (hn : n = l.length) (hb : Rd w B A (l.map B8)) (hl : l.length ≤ 140737488355328) :
    Calls Try.prog 105 #[.slice A n c] w fun e w' => e = .returned (.tuple #[.int .u64 (Mi.get l).1, .int .i64 (Mi.get l).2.1, .bool (Mi.get l).2.2]) ∧ w = w' := by
  subst hn; exact get_calls A l c B w hb hl

end Go.Proofs.Ytchcjbapbdfhkaa
