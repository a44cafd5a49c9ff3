/- The document's sum: the same plain function. -/
import Derived.Test.YtchcjbapbdfhkaaCk
namespace Go.Proofs.Ytchcjbapbdfhkaa
open Go.RowKit
set_option linter.unusedVariables false

theorem and1 (m : Nat) (hm : m < 4294967296) : bits .and .u32 (m : Int) 1 = ((m % 2 : Nat) : Int) := by
  rw [show (1 : Int) = ((1 : Nat) : Int) from rfl, u32_and_nat m 1 hm (by omega), nat_mask1]

set_option maxHeartbeats 1000000 in
set_option maxRecDepth 100000 in
theorem rmore_calls (s : Nat) (hs : s < 4294967296) (A : Option Addr) (l : List UInt8) (c B : Nat) (w : World) (hb : Rd w B A (l.map B8)) (hl : l.length ≤ 140737488355328) :
    Calls Try.prog 107 #[.int .u32 s, .slice A l.length c] w fun e w' => e = .returned (.int .u32 (Cm.more s l : Nat)) ∧ w = w' := by
  have N1 := not32 s hs
  have hm := Cm.xor_lt (a := 4294967295) (b := s) (by omega) hs
  have HM := Lib.hid (show Cm.more s l = 4294967295 ^^^ Cm.fold (4294967295 ^^^ s) l from rfl)
  generalize 4294967295 ^^^ s = m0 at *
  go_enter Try.func107, Try.ntmps107
  go_wp2
  go_loop [5, 6] (fun x i => ∃ k m : Nat, k ≤ l.length ∧ i = .int .i64 k ∧ x = .int .u32 m ∧ m < 4294967296 ∧ Hid (Cm.fold m (l.drop k) = Cm.fold m0 l)) (fun _ i => l.length - (intOf i).toNat)
  case atStart => exact ⟨0, m0, by omega, rfl, by go_num, hm, rfl⟩
  case round =>
    obtain ⟨k, m, hk, rfl, rfl, hx, H⟩ := hrel
    by_cases hlt : k < l.length
    · obtain ⟨a, rfl, _, hcell⟩ := hb.byte hlt
      have hcb : (l.getD k 0).toNat < 256 := (l.getD k 0).toNat_lt
      have h2 : Cm.fold (Cm.turn (m ^^^ (l.getD k 0).toNat)) (l.drop (k + 1)) = Cm.fold m0 l := by
        rw [← H.out, List.drop_eq_getElem_cons hlt]
        simp [Cm.fold, List.getD, hlt]
      have H2 := Lib.hid h2
      clear h2 hb H
      generalize (l.getD k 0).toNat = u at *
      have e1 : bits .xor .u32 (m : Int) (u : Int) = ((m ^^^ u : Nat) : Int) := u32_xor_nat m u hx (by omega)
      have hy := Cm.xor_lt (a := m) (b := u) hx (by omega)
      generalize m ^^^ u = m2 at *
      have hz := Cm.turn_lt m2 hy
      go_wp2
      go_loop [5, 7] (fun x i => ∃ j y : Nat, j ≤ 8 ∧ i = .int .i64 j ∧ x = .int .u32 y ∧ y < 4294967296 ∧ Hid (Cm.it (8 - j) y = Cm.turn m2)) (fun _ i => 8 - (intOf i).toNat)
      case atStart => exact ⟨0, m2, by omega, rfl, by go_num, hy, rfl⟩
      case round =>
        obtain ⟨j, y, hj, rfl, rfl, hyl, J⟩ := hrel
        by_cases hj8 : j < 8
        · have q1 := and1 y hyl
          have hx2 := Cm.bit1_lt y hyl
          have J2 : Hid (Cm.it (8 - (j + 1)) (Cm.bit1 y) = Cm.turn m2) := by rw [← J.out, show 8 - j = (8 - (j + 1)) + 1 from by omega]; rfl
          have q3 : y % 2 = 1 → bits .xor .u32 ((y : Int) / 2) 3988292384 = ((Cm.bit1 y : Nat) : Int) := by
            intro h
            rw [show ((y : Int) / 2) = ((y / 2 : Nat) : Int) from by omega, show (3988292384 : Int) = ((3988292384 : Nat) : Int) from rfl, u32_xor_nat _ _ (by omega) (by omega)]
            unfold Cm.bit1
            rw [if_pos h]
          have q4 : ¬ y % 2 = 1 → ((y : Int) / 2) = ((Cm.bit1 y : Nat) : Int) := by
            intro h
            unfold Cm.bit1
            rw [if_neg h, Nat.xor_zero]; omega
          clear J
          generalize Cm.bit1 y = y2 at *
          by_cases hp : y % 2 = 1
          · have q5 := q3 hp
            have q6 : (((y % 2 : Nat) : Int) == 1) = true := by rw [beq_iff_eq]; omega
            clear q3 q4
            go_wp2
            go_round
            case rel => exact ⟨j + 1, y2, by omega, by go_num, by go_num, hx2, J2.out⟩
            case measure => simp [intOf]; omega
          · have q5 := q4 hp
            have q6 : (((y % 2 : Nat) : Int) == 1) = false := by rw [beq_eq_false_iff_ne]; omega
            clear q3 q4
            go_wp2
            go_round
            case rel => exact ⟨j + 1, y2, by omega, by go_num, by go_num, hx2, J2.out⟩
            case measure => simp [intOf]; omega
        · have hj8 : j = 8 := by omega
          subst hj8
          have E : Hid (y = Cm.turn m2) := by rw [← J.out]; rfl
          clear J
          go_wp2
          go_round
          case rel => exact ⟨k + 1, y, by omega, by go_num, by go_num, hyl, by rw [E.out]; exact H2.out⟩
          case measure => simp [intOf]; omega
    · have E : Hid (m = Cm.fold m0 l) := by rw [← H.out, List.drop_eq_nil_of_le (by omega)]; rfl
      have N2 := not32 m hx
      clear H hb
      go_wp2
      go_ret
      exact ⟨by rw [HM.out, ← E.out]; go_num, rfl⟩

theorem rsum_calls (A : Option Addr) (l : List UInt8) (c B : Nat) (w : World) (hb : Rd w B A (l.map B8)) (hl : l.length ≤ 140737488355328) :
    Calls Try.prog 90 #[.slice A l.length c] w fun e w' => e = .returned (.int .u32 (Cm.sum l : Nat)) ∧ w = w' := by
  have H := Lib.hid (fun W (h : w = W) => rmore_calls 0 (by omega) A l c B W (h ▸ hb) hl)
  clear hb
  go_enter Try.func90, Try.ntmps90
  go_wp2_with (go_at_call 107; refine (H.out _ rfl).mono ?_; rintro e w1 ⟨rfl, rfl⟩)
  go_ret
  exact ⟨rfl, rfl⟩

end Go.Proofs.Ytchcjbapbdfhkaa
