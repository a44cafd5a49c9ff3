/- insertionSort of slices' stable sort. -/
import Derived.Test.YtgldjjmpjaegfaaSyd
namespace Go.Proofs.Ytgldjjmpjaegfaa
open Go.RowKit
set_option linter.unusedVariables false
set_option linter.unusedSimpArgs false
set_option maxRecDepth 100000

set_option maxHeartbeats 16000000 in
theorem ins_any (O : Sy.Ord Nat) (PTR : Value) (B0 U : Nat) (w0 : World) (CMP : CmpOkN O PTR B0 U w0) (L : List Nat) (base g n cap a b : Nat) (w : World) (hO : w.ownsRow base 3 1 (.slice (some ⟨g, 0, none⟩) n cap) n ((L).map encN)) (hU : ∀ x ∈ L, x < U) (hW : Below B0 w0 w) (hB0 : B0 ≤ base) (hbase : base ≤ w.heap.size) (hab : a ≤ b) (hbn : b ≤ n) (hsm : n ≤ 1000000) (hT : ∀ i j x y, a ≤ i → i < j → j < b → L[i]? = some x → L[j]? = some y → O.tag x < O.tag y) : Calls Try.prog 52 #[.slice (some ⟨g, 0, none⟩) n cap, .int .i64 (a : Int), .int .i64 (b : Int), FV PTR] w (SymOf O L base g n cap a b w) := by
  have HO := Lib.hid hO
  have HU := Lib.hid hU
  have HW0 := Lib.hid hW
  have HT := Lib.hid hT
  have HCM := Lib.hid CMP
  have HLN := Lib.hid (own_lenN hO)
  have hadd : ∀ q : Nat, (⟨g, 0, none⟩ : Addr).add q = ⟨g, q, none⟩ := fun q => by rw [Addr.add_lit, Nat.zero_add]
  have hadd : Hid (∀ q : Nat, (⟨g, 0, none⟩ : Addr).add q = ⟨g, q, none⟩) := Lib.hid hadd
  clear hO hU hW hT CMP
  obtain ⟨a1, ha1⟩ : ∃ a1, a1 = a + 1 := ⟨_, rfl⟩
  have HA1 := Lib.hid ha1
  have e0 : IntKind.i64.wrap ((a : Int) + 1) = (a1 : Int) := by rw [IntKind.wrap_i64] <;> omega
  clear ha1
  go_enter Try.func52, Try.ntmps52
  go_wp2_with fail
  clear e0
  go_loopw [8] (fun vi wq => ∃ (i : Nat) (M : List Nat), vi = .int .i64 (i : Int) ∧ Hid (a < i) ∧ Hid (i ≤ b ∨ (b = a ∧ M = L)) ∧ Hid (Sy.SameOn L M a i) ∧ Hid (Sy.SortedOn O M a i) ∧ Hid (wq.ownsRow base 3 1 (.slice (some ⟨g, 0, none⟩) n cap) n ((M).map encN)) ∧ Hid (Below base w wq)) (fun vi _ => b - (intOf vi).toNat)
  case atStart => exact ⟨a1, L, rfl, Lib.hid (by have := HA1.out; omega), Lib.hid (by have := HA1.out; exact (Nat.lt_or_ge b a1).elim (fun h => .inr ⟨by omega, rfl⟩) .inl), Lib.hid (Sy.SameOn.refl _ _ _), Lib.hid (fun i j x y h1 h2 h3 => by have := HA1.out; omega), HO, Lib.hid (Below.refl _ _)⟩
  case round =>
    obtain ⟨i, M0, rfl, HAI, HIB, HS, HD, HR0, HBB0⟩ := hrel
    by_cases hib : i < b
    · have g1 : decide ((i : Int) < (b : Int)) = true := decide_eq_true (by omega)
      have g2 : decide (i < b) = true := decide_eq_true hib
      obtain ⟨x, hx⟩ : ∃ x, M0[i]? = some x := ⟨_, List.getElem?_eq_getElem (by have := own_lenN HR0.out; omega)⟩
      have HX := Lib.hid hx
      have HLX := Lib.hid (show L[i]? = some x from by rw [← HS.out.2.1 i (.inr (Nat.le_refl _))]; exact hx)
      have HI := Lib.hid (show i < b ∧ i < n from by omega)
      clear hx hib
      go_wp2_with fail
      clear g1 g2
      generalize wr = wz at *
      go_loopw [9] (fun v wq => ∃ (k : Nat) (M : List Nat), v = .int .i64 (k : Int) ∧ Hid (a ≤ k ∧ k ≤ i) ∧ Hid (Sy.ByF (Sy.rotF k i (i + 1)) M0 M) ∧ Hid (k = i ∨ ∃ y, M0[k]? = some y ∧ O.lt x y) ∧ Hid (wq.ownsRow base 3 1 (.slice (some ⟨g, 0, none⟩) n cap) n ((M).map encN)) ∧ Hid (Below base w wq)) (fun v _ => (intOf v).toNat)
      case atStart => exact ⟨i, M0, rfl, Lib.hid ⟨by have := HAI.out; omega, Nat.le_refl _⟩, Lib.hid (Sy.rot_id2 M0 i (i + 1)), Lib.hid (.inl rfl), HR0, HBB0⟩
      clear HR0 HBB0
      case round =>
        obtain ⟨k, M, rfl, HK, HM, HL2, HR, HBB⟩ := hrel
        by_cases hak : a < k
        · have hk := HK.out
          have hi := HI.out
          obtain ⟨q, hq⟩ : ∃ q, k = q + 1 := ⟨k - 1, by omega⟩
          have hu : M[k]? = some x := by
            rw [HM.out.2]; unfold Sy.rotF
            rw [if_pos (by omega), show k + (i - k) = i by omega]; exact HX.out
          obtain ⟨v, hv0⟩ : ∃ v, M0[q]? = some v := ⟨_, List.getElem?_eq_getElem (by have := HM.out.1; have := own_lenN HR.out; omega)⟩
          have hv : M[q]? = some v := by
            rw [HM.out.2]; unfold Sy.rotF
            rw [if_neg (by omega), if_neg (by omega)]; exact hv0
          have HV0 := Lib.hid hv0
          have HST := Lib.hid (show Sy.ByF (Sy.rotF q i (i + 1)) M0 ((M.set k v).set q x) from by
            have hu2 := hu
            rw [hq] at hu2 ⊢
            exact Sy.rot_pull (by have h := HM.out; rw [hq] at h; exact h) (by omega) hu2 hv)
          have hin : Sy.InOn L a i v := (HS.out.2.2 v).1 ⟨q, by omega, by omega, hv0⟩
          have htag : O.tag v < O.tag x := by
            obtain ⟨p, p1, p2, p3⟩ := hin
            exact HT.out p i v x p1 p2 hi.1 p3 HLX.out
          have hUx : x < U := HU.out _ (List.mem_of_getElem? HLX.out)
          have hUv : v < U := by
            obtain ⟨p, p1, p2, p3⟩ := hin
            exact HU.out _ (List.mem_of_getElem? p3)
          obtain ⟨u0, u1⟩ := own_atN HR.out hu
          obtain ⟨v0, v1⟩ := own_atN HR.out hv
          have HUM := Lib.hid hu
          have HVM := Lib.hid hv
          have CM := fun p : NowB wr => Lib.hid (HCM.out p.W (HW0.out.trans ((HBB.out.trans (p.h.mono (Nat.le_trans hbase HBB.out.size))).mono (by omega))) x v hUx hUv)
          have e3 : IntKind.i64.wrap ((k : Int) - 1) = (q : Int) := by rw [IntKind.wrap_i64] <;> omega
          have p0 : (0 : Int) ≤ (k : Int) := by omega
          have p1 : (k : Int) < (n : Int) := by omega
          have q0 : (0 : Int) ≤ (q : Int) := by omega
          have q1 : (q : Int) < (n : Int) := by omega
          have hne : k ≠ q := by omega
          have HPQ := Lib.hid (show k < n ∧ q < n from by omega)
          have HQ := Lib.hid hq
          have HAK := Lib.hid hak
          have f1 : decide ((a : Int) < (k : Int)) = true := decide_eq_true (by omega)
          have f2 : decide (a < k) = true := decide_eq_true hak
          by_cases hc : O.cf x v < 0
          · have d1 : decide (O.cf x v < 0) = true := decide_eq_true hc
            have HLT := Lib.hid (O.low htag hc)
            clear hu hv hv0 hq hin htag hUx hUv hc hk hi hak u1 v1
            generalize O.cf x v = oo at *
            go_wp2_with fail
            have n0 := fun p : NowB wr => p.cell u0
            have n1 := fun p : NowB wr => p.cell v0
            clear u0 v0
            refine wp_region_quiet_below (by kernel_rfl) (by kernel_rfl) ?_
            repeat (go_big_quiet_step ((go_at_call 47; with_reducible exact Calls.now_of (CM _).out)))
            refine wpQuiet_nil ?_
            intro _ hw'
            obtain ⟨pp, hw''⟩ := hw'
            subst hw''
            have HR9 := Lib.hid (own_below HR.out pp.h)
            have HB9 := Lib.hid (HBB.out.trans (pp.h.mono (Nat.le_trans hbase HBB.out.size)))
            clear HR HBB
            have HP9 := Lib.hid pp.h
            generalize pp.W = w9 at *
            clear CM n0 n1 f1 f2 d1 HP9
            go_wp2_with fail
            obtain ⟨u0, u1⟩ := own_atN HR9.out HUM.out
            obtain ⟨v0, v1⟩ := own_atN HR9.out HVM.out
            go_wp2_with fail
            go_region
            obtain ⟨w8, hw8⟩ : ∃ w8, w8 = ((w9.setCell ⟨g, k, none⟩ (.int .i64 (v : Int))).setCell ⟨g, q, none⟩ (.int .i64 (x : Int))).drew := ⟨_, rfl⟩
            rw [← hw8]
            have HR7 := Lib.hid (show w8.ownsRow base 3 1 (.slice (some ⟨g, 0, none⟩) n cap) n (((M.set k v).set q x).map encN) from by
              rw [hw8]
              have h1 := own_setN HR9.out HPQ.out.1 v
              have h2 := own_setN h1 HPQ.out.2 x
              with_reducible exact own_drewY h2)
            have HB7 := Lib.hid (show Below base w w8 from by
              rw [hw8]
              have hg := (own_baseY HR9.out).1
              have h := (HB9.out.setCell (p := ⟨g, k, none⟩) hg (.int .i64 (v : Int))).setCell (p := ⟨g, q, none⟩) hg (.int .i64 (x : Int))
              with_reducible exact Below.drewY h)
            clear hw8 u0 u1 v0 v1 HR9 HB9
            go_wp2_with fail
            go_roundw
            case rel => exact ⟨q, (M.set k v).set q x, by first | rfl | go_num, Lib.hid (by have := HK.out; have := HQ.out; have := HAK.out; omega), HST, Lib.hid (.inr ⟨v, HV0.out, HLT.out⟩), HR7, HB7⟩
            case measure => have := HQ.out; simp [intOf]; omega
          · have d1 : decide (O.cf x v < 0) = false := decide_eq_false hc
            have HLT := Lib.hid (O.not htag hc)
            clear hu hv hv0 hq hin htag hUx hUv hc hk hi hak u1 v1
            generalize O.cf x v = oo at *
            go_wp2_with fail
            have n0 := fun p : NowB wr => p.cell u0
            have n1 := fun p : NowB wr => p.cell v0
            clear u0 v0
            refine wp_region_quiet_below (by kernel_rfl) (by kernel_rfl) ?_
            repeat (go_big_quiet_step ((go_at_call 47; with_reducible exact Calls.now_of (CM _).out)))
            refine wpQuiet_nil ?_
            intro _ hw'
            obtain ⟨pp, hw''⟩ := hw'
            subst hw''
            have HR9 := Lib.hid (own_below HR.out pp.h)
            have HB9 := Lib.hid (HBB.out.trans (pp.h.mono (Nat.le_trans hbase HBB.out.size)))
            clear HR HBB
            have HP9 := Lib.hid pp.h
            generalize pp.W = w9 at *
            clear CM n0 n1 f1 f2 d1 HP9
            have h9 := Sy.ins_last O rfl HK.out.1 HK.out.2 HD.out HX.out (.inr ⟨v, by rw [HQ.out, Nat.add_sub_cancel]; exact HV0.out, HLT.out⟩) HL2.out HM.out
            have HSS := Lib.hid ((HS.out.wide (Nat.le_refl _) (by have := HAI.out; omega) (Nat.le_succ i)).trans h9.1)
            have HDD := Lib.hid h9.2
            clear h9
            have hib : (i : Int) < 1000000 := by have := HI.out; omega
            go_wp2_with fail
            go_roundw
            case rel => exact ⟨i + 1, M, by go_num, Lib.hid (by have := HAI.out; omega), Lib.hid (.inl HI.out.1), HSS, HDD, HR9, HB9⟩
            case measure => have := HI.out; simp [intOf]; omega
        · have HKA := Lib.hid (show k = a from by have := HK.out; omega)
          have f1 : decide ((a : Int) < (k : Int)) = false := decide_eq_false (by omega)
          have f2 : decide (a < k) = false := decide_eq_false hak
          clear hak
          go_wp2_with fail
          refine wp_region_quiet_below (by kernel_rfl) (by kernel_rfl) ?_
          repeat (go_big_quiet_step ((fail)))
          refine wpQuiet_nil ?_
          intro _ hw'
          obtain ⟨pp, hw''⟩ := hw'
          subst hw''
          have HR9 := Lib.hid (own_below HR.out pp.h)
          have HB9 := Lib.hid (HBB.out.trans (pp.h.mono (Nat.le_trans hbase HBB.out.size)))
          clear HR HBB
          have HP9 := Lib.hid pp.h
          generalize pp.W = w9 at *
          clear f1 f2 HP9
          have h9 := Sy.ins_last O rfl HK.out.1 HK.out.2 HD.out HX.out (.inl HKA.out) HL2.out HM.out
          have HSS := Lib.hid ((HS.out.wide (Nat.le_refl _) (by have := HAI.out; omega) (Nat.le_succ i)).trans h9.1)
          have HDD := Lib.hid h9.2
          clear h9
          have hib : (i : Int) < 1000000 := by have := HI.out; omega
          go_wp2_with fail
          go_roundw
          case rel => exact ⟨i + 1, M, by go_num, Lib.hid (by have := HAI.out; omega), Lib.hid (.inl HI.out.1), HSS, HDD, HR9, HB9⟩
          case measure => have := HI.out; simp [intOf]; omega
    · have g1 : decide ((i : Int) < (b : Int)) = false := decide_eq_false (by omega)
      have g2 : decide (i < b) = false := decide_eq_false hib
      have HNI := Lib.hid hib
      clear hib
      go_wp2_with fail
      go_end0
      refine ⟨rfl, M0, ?_, fun p r y z h1 h2 h3 hy hz => HD.out p r y z h1 h2 (by have := HNI.out; omega) hy hz, HR0.out, HBB0.out⟩
      rcases HIB.out with h | ⟨h, rfl⟩
      · have := HS.out; have e : i = b := by have := HNI.out; omega
        rw [e] at this; exact this
      · exact Sy.SameOn.refl _ _ _
end Go.Proofs.Ytgldjjmpjaegfaa
