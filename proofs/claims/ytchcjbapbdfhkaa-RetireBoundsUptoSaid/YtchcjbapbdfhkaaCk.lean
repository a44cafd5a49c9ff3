/- The code's sum and the document's: the same plain function. -/
import Derived.Test.YtchcjbapbdfhkaaRows
import Derived.Test.YtchcjbapbdfhkaaBs
import Derived.Test.YtchcjbapbdfhkaaPl
namespace Go.Proofs.Ytchcjbapbdfhkaa
open Go.RowKit
set_option linter.unusedVariables false

set_option maxHeartbeats 1000000 in
set_option maxRecDepth 100000 in
theorem turn_calls (n : Nat) (hn : n < 4294967296) (w : World) :
    Calls Try.prog 116 #[.int .u32 n] w fun e w' => e = .returned (.int .u32 (Cm.turn n : Nat)) ∧ w = w' := by
  go_enter Try.func116, Try.ntmps116
  go_wp2
  go_loop [0, 3] (fun x i => ∃ k m : Nat, k ≤ 8 ∧ i = .int .i64 k ∧ x = .int .u32 m ∧ m < 4294967296 ∧ Hid (Cm.it (8 - k) m = Cm.turn n)) (fun _ i => 8 - (intOf i).toNat)
  case atStart => exact ⟨0, n, by omega, rfl, rfl, hn, rfl⟩
  case round =>
    obtain ⟨k, m, hk, rfl, rfl, hm, H⟩ := hrel
    by_cases hlt : k < 8
    · have hx := Cm.bit1_lt m hm
      have H2 : Hid (Cm.it (8 - (k + 1)) (Cm.bit1 m) = Cm.turn n) := by rw [← H.out, show 8 - k = (8 - (k + 1)) + 1 from by omega]; rfl
      have e0 : bits .and .u32 (m : Int) 1 = ((m % 2 : Nat) : Int) := by
        rw [show (1 : Int) = ((1 : Nat) : Int) from rfl, u32_and_nat m 1 hm (by omega), nat_mask1]
      have e3 : bits .xor .u32 ((m : Int) / 2) (bits .and .u32 3988292384 (-((m : Int) % 2) % 4294967296)) = ((Cm.bit1 m : Nat) : Int) := by
        rw [show ((m : Int) / 2) = ((m / 2 : Nat) : Int) from by omega]
        have h2 : m % 2 = 0 ∨ m % 2 = 1 := by omega
        rcases h2 with h2 | h2
        · rw [show (m : Int) % 2 = 0 from by omega, show bits .and .u32 3988292384 (-0 % 4294967296) = ((0 : Nat) : Int) from by decide, u32_xor_nat _ _ (by omega) (by omega)]
          unfold Cm.bit1
          rw [if_neg (by omega)]
        · rw [show (m : Int) % 2 = 1 from by omega, show bits .and .u32 3988292384 (-1 % 4294967296) = ((3988292384 : Nat) : Int) from by decide, u32_xor_nat _ _ (by omega) (by omega)]
          unfold Cm.bit1
          rw [if_pos h2]
      generalize Cm.bit1 m = m2 at *
      clear H
      go_wp2
      go_round
      case rel => exact ⟨k + 1, m2, by omega, by go_num, by go_num, hx, H2.out⟩
      case measure => simp [intOf]; omega
    · have hk8 : k = 8 := by omega
      subst hk8
      have E : Hid (m = Cm.turn n) := by rw [← H.out]; rfl
      clear H hlt
      go_wp2
      go_ret
      exact ⟨by rw [← E.out]; rfl, rfl⟩

theorem not32 (a : Nat) (ha : a < 4294967296) : bits .xor .u32 IntKind.u32.max (a : Int) = ((4294967295 ^^^ a : Nat) : Int) := by
  rw [show IntKind.u32.max = ((4294967295 : Nat) : Int) from by decide, u32_xor_nat _ _ (by omega) ha]

set_option maxHeartbeats 1000000 in
set_option maxRecDepth 100000 in
theorem more_calls (s : Nat) (hs : s < 4294967296) (A : Option Addr) (l : List UInt8) (c B : Nat) (w : World) (hb : Rd w B A (l.map B8)) (hl : l.length ≤ 140737488355328) :
    Calls Try.prog 104 #[.int .u32 s, .slice A l.length c] w fun e w' => e = .returned (.int .u32 (Cm.more s l : Nat)) ∧ w = w' := by
  have N1 := not32 s hs
  have hm := Cm.xor_lt (a := 4294967295) (b := s) (by omega) hs
  have HM := Lib.hid (show Cm.more s l = 4294967295 ^^^ Cm.fold (4294967295 ^^^ s) l from rfl)
  generalize 4294967295 ^^^ s = m0 at *
  go_enter Try.func104, Try.ntmps104
  go_wp2
  go_loop [5, 12] (fun x i => ∃ k m : Nat, k ≤ l.length ∧ i = .int .i64 k ∧ x = .int .u32 m ∧ m < 4294967296 ∧ Hid (Cm.fold m (l.drop k) = Cm.fold m0 l)) (fun _ i => l.length - (intOf i).toNat)
  case atStart => exact ⟨0, m0, by omega, rfl, by go_num, hm, rfl⟩
  case round =>
    obtain ⟨k, m, hk, rfl, rfl, hx, H⟩ := hrel
    by_cases hlt : k < l.length
    · obtain ⟨a, rfl, _, hcell⟩ := hb.byte hlt
      have hcb : (l.getD k 0).toNat < 256 := (l.getD k 0).toNat_lt
      have h2 : Cm.fold (Cm.turn (m ^^^ (l.getD k 0).toNat)) (l.drop (k + 1)) = Cm.fold m0 l := by
        rw [← H.out, List.drop_eq_getElem_cons hlt]
        simp [Cm.fold, List.getD, hlt]
      have H2 := Lib.hid h2
      clear h2
      clear hb H
      generalize (l.getD k 0).toNat = u at *
      have e1 : bits .xor .u32 (m : Int) (u : Int) = ((m ^^^ u : Nat) : Int) := u32_xor_nat m u hx (by omega)
      have hy := Cm.xor_lt (a := m) (b := u) hx (by omega)
      generalize m ^^^ u = m2 at *
      have hz := Cm.turn_lt m2 hy
      go_wp2_with (go_at_call 116; refine (turn_calls m2 hy _).mono ?_; rintro e w1 ⟨rfl, rfl⟩)
      go_round
      case rel => exact ⟨k + 1, _, by omega, by go_num, rfl, hz, H2.out⟩
      case measure => simp [intOf]; omega
    · have E : Hid (m = Cm.fold m0 l) := by rw [← H.out, List.drop_eq_nil_of_le (by omega)]; rfl
      have N2 := not32 m hx
      clear H hb
      go_wp2
      go_ret
      exact ⟨by rw [HM.out, ← E.out]; go_num, rfl⟩

theorem sum_calls (A : Option Addr) (l : List UInt8) (c B : Nat) (w : World) (hb : Rd w B A (l.map B8)) (hl : l.length ≤ 140737488355328) :
    Calls Try.prog 83 #[.slice A l.length c] w fun e w' => e = .returned (.int .u32 (Cm.sum l : Nat)) ∧ w = w' := by
  have H := Lib.hid (fun W (h : w = W) => more_calls 0 (by omega) A l c B W (h ▸ hb) hl)
  clear hb
  go_enter Try.func83, Try.ntmps83
  go_wp2_with (go_at_call 104; refine (H.out _ rfl).mono ?_; rintro e w1 ⟨rfl, rfl⟩)
  go_ret
  exact ⟨rfl, rfl⟩

theorem sumN (A : Option Addr) (l : List UInt8) (n c B : Nat) (w : World) (hn : n = l.length) (hb : Rd w B A (l.map B8)) (hl : l.length ≤ 140737488355328) :
    Calls Try.prog 83 #[.slice A n c] w fun e w' => e = .returned (.int .u32 (Cm.sum l : Nat)) ∧ w = w' := by
  subst hn; exact sum_calls A l c B w hb hl
theorem moreN (s : Nat) (hs : s < 4294967296) (A : Option Addr) (l : List UInt8) (n c B : Nat) (w : World) (hn : n = l.length) (hb : Rd w B A (l.map B8)) (hl : l.length ≤ 140737488355328) :
    Calls Try.prog 104 #[.int .u32 s, .slice A n c] w fun e w' => e = .returned (.int .u32 (Cm.more s l : Nat)) ∧ w = w' := by
  subst hn; exact more_calls s hs A l c B w hb hl

theorem and255 (m : Nat) (hm : m < 4294967296) : bits .and .u32 (m : Int) 255 = ((m % 256 : Nat) : Int) := by
  rw [show (255 : Int) = ((255 : Nat) : Int) from rfl, u32_and_nat m 255 hm (by omega), nat_mask8]

theorem Rd.litm (w : World) (cs : Array Value) (t : TypeId) (fr : Nat × Nat) : Rd (w.alloc (.cells cs t fr)) (w.heap.size + 1) (some ⟨w.heap.size, 0, none⟩) cs.toList := fun _ => by
  refine ⟨_, rfl, Nat.lt_succ_self _, fun j x hj => ?_⟩
  have e : (⟨w.heap.size, 0, none⟩ : Addr).add j = ⟨w.heap.size, j, none⟩ := by unfold Addr.add; split <;> simp_all
  rw [e, cell_of_row _ w.heap.size j cs t fr (heap_alloc_new w _)]
  simpa using hj

end Go.Proofs.Ytchcjbapbdfhkaa
