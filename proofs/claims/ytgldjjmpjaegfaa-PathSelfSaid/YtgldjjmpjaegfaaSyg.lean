/- slices.SortStableFunc of places, any length. -/
import Derived.Test.YtgldjjmpjaegfaaSye
import Derived.Test.YtgldjjmpjaegfaaSyf
namespace Go.Proofs.Ytgldjjmpjaegfaa
open Go.RowKit
set_option linter.unusedVariables false
set_option linter.unusedSimpArgs false
set_option maxRecDepth 100000

set_option maxHeartbeats 16000000 in
theorem stable_any (O : Sy.Ord Nat) (PTR : Value) (B0 U : Nat) (w0 : World) (CMP : CmpOkN O PTR B0 U w0) (L : List Nat) (base g n cap : Nat) (w : World) (hO : w.ownsRow base 3 1 (.slice (some ⟨g, 0, none⟩) n cap) n ((L).map encN)) (hU : ∀ x ∈ L, x < U) (hW : Below B0 w0 w) (hB0 : B0 ≤ base) (hbase : base ≤ w.heap.size) (hsm : n ≤ 1000000) (hT : Sy.Raw O L 0) : Calls Try.prog 50 #[.slice (some ⟨g, 0, none⟩) n cap, .int .i64 (n : Int), FV PTR] w (SymOf O L base g n cap 0 n w) := by
  have HO := Lib.hid hO
  have HU := Lib.hid hU
  have HW0 := Lib.hid hW
  have HT := Lib.hid hT
  have HCM := Lib.hid CMP
  clear hO hU hW hT CMP
  go_enter Try.func50, Try.ntmps50
  go_wp2_with fail
  go_loopw [7, 8] (fun va vb wq => ∃ (t a b : Nat) (M : List Nat), va = .int .i64 (a : Int) ∧ vb = .int .i64 (b : Int) ∧ Hid (a = t * 20 ∧ b = a + 20 ∧ a ≤ n) ∧ Hid (Sy.First O M 20 t) ∧ Hid (Sy.SameOn L M 0 n) ∧ Hid (wq.ownsRow base 3 1 (.slice (some ⟨g, 0, none⟩) n cap) n ((M).map encN)) ∧ Hid (Below base w wq)) (fun va _ _ => n - (intOf va).toNat)
  case atStart => exact ⟨0, 0, 20, L, rfl, rfl, Lib.hid ⟨rfl, rfl, Nat.zero_le _⟩, Lib.hid ⟨fun s hs => by omega, by rw [Nat.zero_mul]; exact HT.out⟩, Lib.hid (Sy.SameOn.refl _ _ _), HO, Lib.hid (Below.refl _ _)⟩
  case round =>
    obtain ⟨t, a, b, M, rfl, rfl, HAB, HF, HS, HR, HBB⟩ := hrel
    by_cases hbn : b ≤ n
    · as_aux_lemma =>
      have hab := HAB.out
      have hraw : Sy.Raw O M a := by rw [hab.1]; exact HF.out.2
      have IC := Lib.hid (ins_any O PTR B0 U w0 HCM.out M base g n cap a b wr HR.out (HS.out.all HU.out) (HW0.out.trans (HBB.out.mono hB0)) hB0 (Nat.le_trans hbase HBB.out.size) (by omega) (by omega) hsm (fun i j x y h1 h2 h3 hx hy => by rw [hraw i x (by omega) hx, hraw j y (by omega) hy]; exact h2))
      have g1 : decide ((b : Int) ≤ (n : Int)) = true := decide_eq_true (by omega)
      have g2 : decide (b ≤ n) = true := decide_eq_true hbn
      obtain ⟨nb, hnb⟩ : ∃ nb, nb = b + 20 := ⟨_, rfl⟩
      have HNB := Lib.hid hnb
      have HBN := Lib.hid hbn
      have e1 : IntKind.i64.wrap ((b : Int) + 20) = (nb : Int) := by rw [IntKind.wrap_i64] <;> omega
      clear hraw hnb hab hbn
      go_wp2_with (go_at_call 52; (with_reducible refine IC.out.mono ?_); rintro ex w3 ⟨rfl, M1, hs1, hd1, ho1, hb1⟩)
      have hab := HAB.out
      have HF1 := Lib.hid (HF.out.next O hab.1 (by rw [← hab.2.1]; exact hs1) (by rw [← hab.2.1]; exact hd1))
      have HS1 := Lib.hid (HS.out.trans (hs1.wide (Nat.zero_le _) (by omega) HBN.out))
      have HR1 := Lib.hid ho1
      have HB1 := Lib.hid (HBB.out.trans hb1)
      clear hs1 hd1 ho1 hb1 hab
      go_wp2_with fail
      go_roundw
      case rel => exact ⟨t + 1, b, nb, M1, rfl, rfl, Lib.hid ⟨by have := HAB.out; omega, HNB.out, HBN.out⟩, HF1, HS1, HR1, HB1⟩
      case measure => have := HAB.out; have := HBN.out; simp [intOf]; omega
    · as_aux_lemma =>
      have hab := HAB.out
      have hraw : Sy.Raw O M a := by rw [hab.1]; exact HF.out.2
      have IC := Lib.hid (ins_any O PTR B0 U w0 HCM.out M base g n cap a n wr HR.out (HS.out.all HU.out) (HW0.out.trans (HBB.out.mono hB0)) hB0 (Nat.le_trans hbase HBB.out.size) (by omega) (by omega) hsm (fun i j x y h1 h2 h3 hx hy => by rw [hraw i x (by omega) hx, hraw j y (by omega) hy]; exact h2))
      have g1 : decide ((b : Int) ≤ (n : Int)) = false := decide_eq_false (by omega)
      have g2 : decide (b ≤ n) = false := decide_eq_false hbn
      have HBN := Lib.hid hbn
      clear hraw hab hbn
      go_wp2_with (go_at_call 52; (with_reducible refine IC.out.mono ?_); rintro ex w3 ⟨rfl, M1, hs1, hd1, ho1, hb1⟩)
      have hab := HAB.out
      have HST := Lib.hid (HF.out.stage O hab.1 hab.2.2 (by have := HBN.out; omega) hs1 hd1)
      have HS1 := Lib.hid (HS.out.trans (hs1.wide (Nat.zero_le _) hab.2.2 (Nat.le_refl _)))
      have HR1 := Lib.hid ho1
      have HB1 := Lib.hid (HBB.out.trans hb1)
      clear hs1 hd1 ho1 hb1 hab HS HR HBB HF IC g1 g2
      generalize w3 = wy at *
      go_wp2_with fail
      go_loopw [6] (fun v wq => ∃ (c : Nat) (M : List Nat), v = .int .i64 (c : Int) ∧ Hid (20 ≤ c) ∧ Hid (Sy.Stage O M c n) ∧ Hid (Sy.SameOn L M 0 n) ∧ Hid (wq.ownsRow base 3 1 (.slice (some ⟨g, 0, none⟩) n cap) n ((M).map encN)) ∧ Hid (Below base w wq)) (fun v _ => n - (intOf v).toNat)
      case atStart => exact ⟨20, M1, rfl, Lib.hid (Nat.le_refl _), HST, HS1, HR1, HB1⟩
      clear HST HS1 HR1 HB1
      case round =>
        obtain ⟨c, M0, rfl, HC, HST, HS0, HR0, HBB0⟩ := hrel
        by_cases hcn : c < n
        · as_aux_lemma =>
          have g1 : decide ((c : Int) < (n : Int)) = true := decide_eq_true (by omega)
          have g2 : decide (c < n) = true := decide_eq_true hcn
          have hc := HC.out
          obtain ⟨c2, hc2⟩ : ∃ c2, c2 = 2 * c := ⟨_, rfl⟩
          have HC2 := Lib.hid hc2
          have HCN := Lib.hid hcn
          have e1 : IntKind.i64.wrap (2 * (c : Int)) = (c2 : Int) := by rw [IntKind.wrap_i64] <;> omega
          clear hc hc2 hcn
          go_wp2_with fail
          clear e1 g1 g2
          generalize wr = wz at *
          go_loopw [7, 8] (fun va vb wq => ∃ (t a b : Nat) (M : List Nat), va = .int .i64 (a : Int) ∧ vb = .int .i64 (b : Int) ∧ Hid (a = t * (2 * c) ∧ b = a + 2 * c ∧ a ≤ n) ∧ Hid (Sy.Mid O M c n t) ∧ Hid (Sy.SameOn L M 0 n) ∧ Hid (wq.ownsRow base 3 1 (.slice (some ⟨g, 0, none⟩) n cap) n ((M).map encN)) ∧ Hid (Below base w wq)) (fun va _ _ => n - (intOf va).toNat)
          case atStart => exact ⟨0, 0, c2, M0, rfl, rfl, Lib.hid ⟨by rw [Nat.zero_mul], by rw [HC2.out, Nat.zero_add], Nat.zero_le _⟩, Lib.hid (HST.out.mid O), HS0, HR0, HBB0⟩
          clear HS0 HR0 HBB0 HST
          case round =>
            obtain ⟨t, a, b, M, rfl, rfl, HAB, HM, HS, HR, HBB⟩ := hrel
            by_cases hbn : b ≤ n
            · as_aux_lemma =>
              have hab := HAB.out
              have hc := HC.out
              obtain ⟨m, hm⟩ : ∃ m, m = a + c := ⟨_, rfl⟩
              have hp := HM.out.parts O (by omega) hab.1 (by omega)
              rw [← hab.2.1, Nat.min_eq_left hbn, ← hm] at hp
              have IC := Lib.hid (symmerge_any O PTR B0 U w0 HCM.out base g n cap hB0 hsm b M a m b wr (Nat.sub_le _ _) HR.out (HS.out.all HU.out) (HW0.out.trans (HBB.out.mono hB0)) (Nat.le_trans hbase HBB.out.size) (by omega) (by omega) (by omega) hp.1.1 hp.2.1 (hp.1.cross O hp.2))
              have g1 : decide ((b : Int) ≤ (n : Int)) = true := decide_eq_true (by omega)
              have g2 : decide (b ≤ n) = true := decide_eq_true hbn
              obtain ⟨nb, hnb⟩ : ∃ nb, nb = b + 2 * c := ⟨_, rfl⟩
              have HNB := Lib.hid hnb
              have HBN := Lib.hid hbn
              have e0 : IntKind.i64.wrap ((a : Int) + (c : Int)) = (m : Int) := by rw [IntKind.wrap_i64] <;> omega
              have e1 : IntKind.i64.wrap (2 * (c : Int)) = (c2 : Int) := by have := HC2.out; have := HCN.out; rw [IntKind.wrap_i64] <;> omega
              have e2 : IntKind.i64.wrap ((b : Int) + (c2 : Int)) = (nb : Int) := by have := HC2.out; have := HCN.out; rw [IntKind.wrap_i64] <;> omega
              clear hnb hab hbn hc hm hp
              go_wp2_with (go_at_call 53; (with_reducible refine IC.out.mono ?_); rintro ex w3 ⟨rfl, M1, hs1, hd1, ho1, hb1⟩)
              have hab := HAB.out
              have HM1 := Lib.hid (HM.out.next O (by have := HC.out; omega) hab.1 (by rw [← hab.2.1]; exact HBN.out) (by rw [← hab.2.1]; exact hs1) (by rw [← hab.2.1]; exact hd1))
              have HS1 := Lib.hid (HS.out.trans (hs1.wide (Nat.zero_le _) (by omega) HBN.out))
              have HR1 := Lib.hid ho1
              have HB1 := Lib.hid (HBB.out.trans hb1)
              clear hs1 hd1 ho1 hb1 hab
              go_wp2_with fail
              go_roundw
              case rel => exact ⟨t + 1, b, nb, M1, rfl, rfl, Lib.hid ⟨by have := HAB.out; rw [Nat.succ_mul]; omega, HNB.out, HBN.out⟩, HM1, HS1, HR1, HB1⟩
              case measure => have := HAB.out; have := HBN.out; have := HC.out; simp [intOf]; omega
            · as_aux_lemma =>
              have hab := HAB.out
              have hc := HC.out
              have g1 : decide ((b : Int) ≤ (n : Int)) = false := decide_eq_false (by omega)
              have g2 : decide (b ≤ n) = false := decide_eq_false hbn
              obtain ⟨m, hm⟩ : ∃ m, m = a + c := ⟨_, rfl⟩
              have hcn := HCN.out
              have e0 : IntKind.i64.wrap ((a : Int) + (c : Int)) = (m : Int) := by rw [IntKind.wrap_i64] <;> omega
              have e3 : IntKind.i64.wrap ((c : Int) * 2) = (c2 : Int) := by have := HC2.out; rw [IntKind.wrap_i64] <;> omega
              by_cases hmn : m < n
              · have hp := HM.out.parts O (by omega) hab.1 (by omega)
                rw [Nat.min_eq_right (by omega), ← hm] at hp
                have IC := Lib.hid (symmerge_any O PTR B0 U w0 HCM.out base g n cap hB0 hsm n M a m n wr (Nat.sub_le _ _) HR.out (HS.out.all HU.out) (HW0.out.trans (HBB.out.mono hB0)) (Nat.le_trans hbase HBB.out.size) (by omega) (by omega) (by omega) hp.1.1 hp.2.1 (hp.1.cross O hp.2))
                have f1 : decide ((m : Int) < (n : Int)) = true := decide_eq_true (by omega)
                have f2 : decide (m < n) = true := decide_eq_true hmn
                have HBN := Lib.hid (show n < a + 2 * c ∧ a + c < n from by omega)
                clear hab hbn hc hm hp hmn hcn
                go_wp2_with (go_at_call 53; (with_reducible refine IC.out.mono ?_); rintro ex w3 ⟨rfl, M1, hs1, hd1, ho1, hb1⟩)
                have HST := Lib.hid (HM.out.stage O (by have := HC.out; omega) HAB.out.1 HAB.out.2.2 HBN.out.1 (.inl ⟨HBN.out.2, hs1, hd1⟩))
                have HS1 := Lib.hid (HS.out.trans (hs1.wide (Nat.zero_le _) HAB.out.2.2 (Nat.le_refl _)))
                have HR1 := Lib.hid ho1
                have HB1 := Lib.hid (HBB.out.trans hb1)
                clear hs1 hd1 ho1 hb1
                go_wp2_with fail
                go_roundw
                case rel => exact ⟨c2, M1, rfl, Lib.hid (by have := HC.out; have := HC2.out; omega), by rw [HC2.out]; exact HST, HS1, HR1, HB1⟩
                case measure => have := HC.out; have := HC2.out; have := HCN.out; simp [intOf]; omega
              · have f1 : decide ((m : Int) < (n : Int)) = false := decide_eq_false (by omega)
                have f2 : decide (m < n) = false := decide_eq_false hmn
                have HST := Lib.hid (HM.out.stage O (M := M) (by omega) hab.1 hab.2.2 (by omega) (.inr ⟨by omega, rfl⟩))
                clear hab hbn hc hm hmn hcn
                go_wp2_with fail
                go_roundw
                case rel => exact ⟨c2, M, rfl, Lib.hid (by have := HC.out; have := HC2.out; omega), by rw [HC2.out]; exact HST, HS, HR, HBB⟩
                case measure => have := HC.out; have := HC2.out; have := HCN.out; simp [intOf]; omega
        · as_aux_lemma =>
          have g1 : decide ((c : Int) < (n : Int)) = false := decide_eq_false (by omega)
          have g2 : decide (c < n) = false := decide_eq_false hcn
          have HNC := Lib.hid (show n ≤ c from by omega)
          clear hcn
          go_wp2_with fail
          go_end0
          exact ⟨rfl, M0, HS0.out, HST.out.fin O HNC.out, HR0.out, HBB0.out⟩
theorem sortstable_any (O : Sy.Ord Nat) (PTR : Value) (B0 U : Nat) (w0 : World) (CMP : CmpOkN O PTR B0 U w0) (L : List Nat) (base g n cap : Nat) (w : World) (hO : w.ownsRow base 3 1 (.slice (some ⟨g, 0, none⟩) n cap) n ((L).map encN)) (hU : ∀ x ∈ L, x < U) (hW : Below B0 w0 w) (hB0 : B0 ≤ base) (hbase : base ≤ w.heap.size) (hsm : n ≤ 1000000) (hT : Sy.Raw O L 0) : Calls Try.prog 46 #[.slice (some ⟨g, 0, none⟩) n cap, FV PTR] w (SymOf O L base g n cap 0 n w) := by
  have ST := Lib.hid (stable_any O PTR B0 U w0 CMP L base g n cap w hO hU hW hB0 hbase hsm hT)
  clear hO hU hW hT CMP
  go_enter Try.func46, Try.ntmps46
  go_wp2_with (go_at_call 50; (with_reducible refine ST.out.mono ?_); rintro ex w3 ⟨rfl, HH⟩)
  go_end0
  exact ⟨rfl, HH⟩
end Go.Proofs.Ytgldjjmpjaegfaa
