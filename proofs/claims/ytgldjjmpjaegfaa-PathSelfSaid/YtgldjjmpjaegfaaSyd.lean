/- symMerge of slices' stable sort: one into a sorted part. -/
import Derived.Test.YtgldjjmpjaegfaaSyc
import Derived.Test.YtgldjjmpjaegfaaQb
import Derived.Deep.DeepCutAuto
import Derived.Deep.Cut
namespace Go.Proofs.Ytgldjjmpjaegfaa
open Go.RowKit
set_option linter.unusedVariables false
set_option linter.unusedSimpArgs false
set_option maxRecDepth 100000

namespace Sy
theorem rot_push {α : Type} {L M : List α} {a k : Nat} {u v : α} (h : ByF (rotF a (a + 1) (k + 1)) L M) (hak : a ≤ k) (hu : M[k]? = some u) (hv : M[k + 1]? = some v) : ByF (rotF a (a + 1) (k + 2)) L ((M.set k v).set (k + 1) u) := by
  have hl1 := (List.getElem?_eq_some_iff.1 hu).1
  have hl2 := (List.getElem?_eq_some_iff.1 hv).1
  refine ⟨by rw [List.length_set, List.length_set]; exact h.1, fun q => ?_⟩
  rw [h.2] at hu hv
  rw [List.getElem?_set, List.getElem?_set, List.length_set]
  by_cases h1 : k + 1 = q
  · subst h1
    rw [if_pos rfl, if_pos hl2, ← hu]
    congr 1
    unfold rotF
    repeat' split
    all_goals omega
  · rw [if_neg h1]
    by_cases h2 : k = q
    · subst h2
      rw [if_pos rfl, if_pos hl1, ← hv]
      congr 1
      unfold rotF
      repeat' split
      all_goals omega
    · rw [if_neg h2, h.2]
      congr 1
      unfold rotF
      repeat' split
      all_goals omega
theorem rot_pull {α : Type} {L M : List α} {m k : Nat} {u v : α} (h : ByF (rotF (k + 1) m (m + 1)) L M) (hkm : k + 1 ≤ m) (hu : M[k + 1]? = some u) (hv : M[k]? = some v) : ByF (rotF k m (m + 1)) L ((M.set (k + 1) v).set k u) := by
  have hl1 := (List.getElem?_eq_some_iff.1 hu).1
  have hl2 := (List.getElem?_eq_some_iff.1 hv).1
  refine ⟨by rw [List.length_set, List.length_set]; exact h.1, fun q => ?_⟩
  rw [h.2] at hu hv
  rw [List.getElem?_set, List.getElem?_set, List.length_set]
  by_cases h1 : k = q
  · subst h1
    rw [if_pos rfl, if_pos hl2, ← hu]
    congr 1
    unfold rotF
    repeat' split
    all_goals omega
  · rw [if_neg h1]
    by_cases h2 : k + 1 = q
    · subst h2
      rw [if_pos rfl, if_pos hl1, ← hv]
      congr 1
      unfold rotF
      repeat' split
      all_goals omega
    · rw [if_neg h2, h.2]
      congr 1
      unfold rotF
      repeat' split
      all_goals omega
theorem rot_id1 {α : Type} (L : List α) (a : Nat) : ByF (rotF a (a + 1) (a + 1)) L L := (ByF.refl L).congr fun q => by unfold rotF; (repeat' split) <;> omega
theorem rot_id2 {α : Type} (L : List α) (m b : Nat) : ByF (rotF m m b) L L := (ByF.refl L).congr fun q => by unfold rotF; (repeat' split) <;> omega
theorem rot_id3 {α : Type} (L : List α) (s m : Nat) : ByF (rotF s m m) L L := (ByF.refl L).congr fun q => by unfold rotF; (repeat' split) <;> omega
theorem SameOn.all {α : Type} {L M : List α} {a b : Nat} {P : α → Prop} (s : SameOn L M a b) (h : ∀ x ∈ L, P x) : ∀ x ∈ M, P x := fun x hx => by
  obtain ⟨q, hq⟩ := List.getElem?_of_mem hx
  by_cases h1 : a ≤ q ∧ q < b
  · obtain ⟨p, _, _, hp⟩ := (s.2.2 x).1 ⟨q, h1.1, h1.2, hq⟩
    exact h x (List.mem_of_getElem? hp)
  · rw [s.2.1 q (by omega)] at hq
    exact h x (List.mem_of_getElem? hq)
end Sy
/-- What a comparison of places answers, wherever the sort may be. -/
def CmpOkN (O : Sy.Ord Nat) (PTR : Value) (B0 U : Nat) (w0 : World) : Prop := ∀ W, Below B0 w0 W → ∀ x y : Nat, x < U → y < U → Calls Try.prog 47 #[.int .i64 (x : Int), .int .i64 (y : Int), PTR] W fun e w' => e = .returned (.int .i64 (O.cf x y)) ∧ Below W.heap.size W w'
abbrev FV (PTR : Value) : Value := .func (.func 47) #[] #[PTR]
def SymOf (O : Sy.Ord Nat) (L : List Nat) (base g n cap a b : Nat) (w : World) (e : Ending) (w' : World) : Prop := e = .returned (.tuple #[]) ∧ ∃ M, Sy.SameOn L M a b ∧ Sy.SortedOn O M a b ∧ w'.ownsRow base 3 1 (.slice (some ⟨g, 0, none⟩) n cap) n ((M).map encN) ∧ Below base w w'
set_option maxHeartbeats 16000000 in
theorem sym_left (O : Sy.Ord Nat) (PTR : Value) (B0 U : Nat) (w0 : World) (CMP : CmpOkN O PTR B0 U w0) (L : List Nat) (base g n cap a m b : Nat) (w : World) (hO : w.ownsRow base 3 1 (.slice (some ⟨g, 0, none⟩) n cap) n ((L).map encN)) (hU : ∀ x ∈ L, x < U) (hW : Below B0 w0 w) (hB0 : B0 ≤ base) (hbase : base ≤ w.heap.size) (ham : a < m) (hmb : m < b) (hbn : b ≤ n) (hsm : n ≤ 1000000) (hA : Sy.SortedOn O L a m) (hB : Sy.SortedOn O L m b) (hC : Sy.Cross O L a m b) (hm : m = a + 1) : Calls Try.prog 53 #[.slice (some ⟨g, 0, none⟩) n cap, .int .i64 (a : Int), .int .i64 (m : Int), .int .i64 (b : Int), FV PTR] w (SymOf O L base g n cap a b w) := by
  have HO := Lib.hid hO
  have HU := Lib.hid hU
  have HW0 := Lib.hid hW
  have HA := Lib.hid hA
  have HBS := Lib.hid hB
  have HC := Lib.hid hC
  have HCM := Lib.hid CMP
  have hLn := own_lenN hO
  have HLN := Lib.hid hLn
  have hadd : ∀ q : Nat, (⟨g, 0, none⟩ : Addr).add q = ⟨g, q, none⟩ := fun q => by rw [Addr.add_lit, Nat.zero_add]
  have hadd : Hid (∀ q : Nat, (⟨g, 0, none⟩ : Addr).add q = ⟨g, q, none⟩) := Lib.hid hadd
  clear hO hU hW hA hB hC CMP
  obtain ⟨x, hx⟩ : ∃ x, L[a]? = some x := ⟨_, List.getElem?_eq_getElem (by omega)⟩
  have HX := Lib.hid hx
  have em : IntKind.i64.wrap ((m : Int) - (a : Int)) = 1 := by rw [IntKind.wrap_i64] <;> omega
  have HMA := Lib.hid hm
  have hbz : Hid (base ≤ w.heap.size) := hbase
  clear hx hm
  go_enter Try.func53, Try.ntmps53
  go_wp2_with fail
  clear em
  go_loopw [10, 11] (fun vi vj wq => ∃ i j : Nat, vi = .int .i64 (i : Int) ∧ vj = .int .i64 (j : Int) ∧ i ≤ j ∧ j ≤ b ∧ Hid (m ≤ i) ∧ Hid (i = m ∨ ∃ y, L[i - 1]? = some y ∧ O.lt y x) ∧ Hid (j = b ∨ ∃ y, L[j]? = some y ∧ O.lt x y) ∧ Hid (Below w.heap.size w wq)) (fun vi vj _ => (intOf vj).toNat - (intOf vi).toNat)
  case atStart => exact ⟨m, b, rfl, rfl, by omega, Nat.le_refl _, Lib.hid (Nat.le_refl _), Lib.hid (.inl rfl), Lib.hid (.inl rfl), Lib.hid (Below.refl _ _)⟩
  case round =>
    obtain ⟨i, j, rfl, rfl, hij, hjb, HMI, HL1, HL2, HW⟩ := hrel
    have hws := HW.out.size
    by_cases hlt : i < j
    · obtain ⟨h, hh⟩ : ∃ h, h = (i + j) / 2 := ⟨_, rfl⟩
      have e1 : ((i : Int) + (j : Int)) / 2 = (h : Int) := by omega
      have hh1 : i ≤ h ∧ h < j := by omega
      obtain ⟨y, hy⟩ : ∃ y, L[h]? = some y := ⟨_, List.getElem?_eq_getElem (by have := HLN.out; omega)⟩
      have HY := Lib.hid hy
      have hOw := own_below HO.out HW.out
      obtain ⟨x0, _⟩ := own_atN hOw HX.out
      obtain ⟨y0, _⟩ := own_atN hOw hy
      have htag : O.tag x < O.tag y := HC.out a h x y (Nat.le_refl _) (by have := HMA.out; omega) (by have := HMI.out; omega) (by omega) HX.out hy
      have CM := fun p : NowB wr => Lib.hid (HCM.out p.W (HW0.out.trans ((HW.out.trans (p.h.mono HW.out.size)).mono (by omega))) y x (HU.out _ (List.mem_of_getElem? HY.out)) (HU.out _ (List.mem_of_getElem? HX.out)))
      have a0 : (0 : Int) ≤ (a : Int) := by omega
      have a1 : (a : Int) < (n : Int) := by omega
      have h0 : (0 : Int) ≤ (h : Int) := by omega
      have h1 : (h : Int) < (n : Int) := by omega
      have HHH := Lib.hid hh1
      have ij : (i : Int) < (j : Int) := by omega
      have nn : (n : Int) ≤ 1000000 := by omega
      by_cases hc : O.cf y x < 0
      · have d1 : decide (O.cf y x < 0) = true := decide_eq_true hc
        have HLT := Lib.hid (O.low htag hc)
        clear hh hy hc htag hOw hh1
        generalize O.cf y x = oo at *
        go_wp2_with fail
        have n0 := fun p : NowB wr => p.cell x0
        have n1 := fun p : NowB wr => p.cell y0
        clear x0 y0
        refine wp_region_quiet_below (by kernel_rfl) (by kernel_rfl) ?_
        repeat (go_big_quiet_step ((go_at_call 47; with_reducible exact Calls.now_of (CM _).out)))
        refine wpQuiet_nil ?_
        intro _ hw'
        obtain ⟨pp, hw''⟩ := hw'
        subst hw''
        have HW9 := Lib.hid (HW.out.trans (pp.h.mono HW.out.size))
        have HP9 := Lib.hid pp.h
        generalize pp.W = w9 at *
        go_wp2_with fail
        go_roundw
        case rel => exact ⟨h + 1, j, by go_num, rfl, by have := HHH.out; omega, by omega, Lib.hid (by have := HHH.out; have := HMI.out; omega), Lib.hid (.inr ⟨y, by simpa using HY.out, HLT.out⟩), HL2, HW9⟩
        case measure => have := HHH.out; simp [intOf]; omega
      · have d1 : decide (O.cf y x < 0) = false := decide_eq_false hc
        have HLT := Lib.hid (O.not htag hc)
        clear hh hy hc htag hOw hh1
        generalize O.cf y x = oo at *
        go_wp2_with fail
        have n0 := fun p : NowB wr => p.cell x0
        have n1 := fun p : NowB wr => p.cell y0
        clear x0 y0
        refine wp_region_quiet_below (by kernel_rfl) (by kernel_rfl) ?_
        repeat (go_big_quiet_step ((go_at_call 47; with_reducible exact Calls.now_of (CM _).out)))
        refine wpQuiet_nil ?_
        intro _ hw'
        obtain ⟨pp, hw''⟩ := hw'
        subst hw''
        have HW9 := Lib.hid (HW.out.trans (pp.h.mono HW.out.size))
        have HP9 := Lib.hid pp.h
        generalize pp.W = w9 at *
        go_wp2_with fail
        go_roundw
        case rel => exact ⟨i, h, rfl, rfl, by have := HHH.out; omega, by have := HHH.out; omega, HMI, HL1, Lib.hid (.inr ⟨y, HY.out, HLT.out⟩), HW9⟩
        case measure => have := HHH.out; simp [intOf]; omega
    · obtain rfl : i = j := by omega
      have HOw := Lib.hid (own_below HO.out HW.out)
      have HBW := Lib.hid (show Below base w wr from HW.out.mono hbase)
      have hmi := HMI.out
      have hma := HMA.out
      have e2 : IntKind.i64.wrap ((i : Int) - 1) = ((i - 1 : Nat) : Int) := by rw [IntKind.wrap_i64] <;> omega
      obtain ⟨i1, hi1⟩ : ∃ i1, i1 = i - 1 := ⟨_, rfl⟩
      rw [← hi1] at e2
      have HI1 := Lib.hid (show i = i1 + 1 ∧ a ≤ i1 from by omega)
      clear hlt hij hmi hma hi1 hws
      go_upto_region 9 with fail
      go_loopw [13] (fun v wq => ∃ (k : Nat) (M : List Nat), v = .int .i64 (k : Int) ∧ k ≤ i1 ∧ Hid (a ≤ k) ∧ Hid (Sy.ByF (Sy.rotF a m (k + 1)) L M) ∧ Hid (wq.ownsRow base 3 1 (.slice (some ⟨g, 0, none⟩) n cap) n ((M).map encN)) ∧ Hid (Below base w wq)) (fun v _ => i1 - (intOf v).toNat)
      case atStart => exact ⟨a, L, rfl, HI1.out.2, Lib.hid (Nat.le_refl _), Lib.hid (by rw [HMA.out]; exact Sy.rot_id1 L a), HOw, HBW⟩
      clear HOw HBW
      case round =>
        obtain ⟨k, M, rfl, hk, HAK, HM, HR, HBB⟩ := hrel
        by_cases hkl : k < i1
        · have hML := own_lenN HR.out
          obtain ⟨u, hu⟩ : ∃ u, M[k]? = some u := ⟨_, List.getElem?_eq_getElem (by have := HI1.out; omega)⟩
          obtain ⟨v, hv⟩ : ∃ v, M[k + 1]? = some v := ⟨_, List.getElem?_eq_getElem (by have := HI1.out; omega)⟩
          obtain ⟨q, hq⟩ : ∃ q, q = k + 1 := ⟨_, rfl⟩
          have HST := Lib.hid (Sy.rot_push (by have h := HM.out; rw [HMA.out] at h; exact h) HAK.out hu hv)
          rw [← hq] at HST hv
          obtain ⟨u0, u1⟩ := own_atN HR.out hu
          obtain ⟨v0, v1⟩ := own_atN HR.out hv
          have e3 : IntKind.i64.wrap ((k : Int) + 1) = (q : Int) := by rw [IntKind.wrap_i64] <;> (have := HI1.out; omega)
          have p0 : (0 : Int) ≤ (k : Int) := by omega
          have p1 : (k : Int) < (n : Int) := by have := HI1.out; omega
          have q0 : (0 : Int) ≤ (q : Int) := by omega
          have q1 : (q : Int) < (n : Int) := by have := HI1.out; omega
          have hne : k ≠ q := by omega
          have HLT := Lib.hid hkl
          have HPQ := Lib.hid (show k < n ∧ q < n from by omega)
          have HQ := Lib.hid hq
          have g1 : decide ((k : Int) < (i1 : Int)) = true := decide_eq_true (by omega)
          have g2 : decide (k < i1) = true := decide_eq_true hkl
          clear hu hv hq hML hkl hk
          go_wp2_with fail
          go_region
          obtain ⟨w9, hw9⟩ : ∃ w9, w9 = ((wr.setCell ⟨g, k, none⟩ (.int .i64 (v : Int))).setCell ⟨g, q, none⟩ (.int .i64 (u : Int))).drew := ⟨_, rfl⟩
          rw [← hw9]
          have HR9 := Lib.hid (show w9.ownsRow base 3 1 (.slice (some ⟨g, 0, none⟩) n cap) n (((M.set k v).set q u).map encN) from by
            rw [hw9]
            have h1 := own_setN HR.out HPQ.out.1 v
            have h2 := own_setN h1 HPQ.out.2 u
            with_reducible exact own_drewY h2)
          have HB9 := Lib.hid (show Below base w w9 from by
            rw [hw9]
            have hg := (own_baseY HR.out).1
            have h := (HBB.out.setCell (p := ⟨g, k, none⟩) hg (.int .i64 (v : Int))).setCell (p := ⟨g, q, none⟩) hg (.int .i64 (u : Int))
            with_reducible exact Below.drewY h)
          clear hw9 u0 u1 v0 v1 HR HBB
          go_wp2_with fail
          go_roundw
          case rel => exact ⟨q, (M.set k v).set q u, by first | rfl | go_num, by have := HLT.out; have := HQ.out; omega, Lib.hid (by have := HAK.out; have := HQ.out; omega), Lib.hid (by have h := HST.out; rw [HMA.out, HQ.out]; rw [HQ.out] at h; exact h), HR9, HB9⟩
          case measure => have := HLT.out; have := HQ.out; simp [intOf]; omega
        · obtain rfl : k = i1 := by omega
          have g1 : decide ((k : Int) < (k : Int)) = false := decide_eq_false (by omega)
          have g2 : decide (k < k) = false := decide_eq_false (by omega)
          clear hkl hk
          go_wp2_with fail
          go_end0
          have h9 := Sy.ins_first O HMA.out HMI.out hjb HBS.out HX.out HL1.out HL2.out (by rw [HI1.out.1]; exact HM.out)
          exact ⟨rfl, M, h9.1, h9.2, HR.out, HBB.out⟩
set_option maxHeartbeats 16000000 in
theorem sym_right (O : Sy.Ord Nat) (PTR : Value) (B0 U : Nat) (w0 : World) (CMP : CmpOkN O PTR B0 U w0) (L : List Nat) (base g n cap a m b : Nat) (w : World) (hO : w.ownsRow base 3 1 (.slice (some ⟨g, 0, none⟩) n cap) n ((L).map encN)) (hU : ∀ x ∈ L, x < U) (hW : Below B0 w0 w) (hB0 : B0 ≤ base) (hbase : base ≤ w.heap.size) (ham : a < m) (hmb : m < b) (hbn : b ≤ n) (hsm : n ≤ 1000000) (hA : Sy.SortedOn O L a m) (hB : Sy.SortedOn O L m b) (hC : Sy.Cross O L a m b) (hm0 : m ≠ a + 1) (hm : b = m + 1) : Calls Try.prog 53 #[.slice (some ⟨g, 0, none⟩) n cap, .int .i64 (a : Int), .int .i64 (m : Int), .int .i64 (b : Int), FV PTR] w (SymOf O L base g n cap a b w) := by
  have HO := Lib.hid hO
  have HU := Lib.hid hU
  have HW0 := Lib.hid hW
  have HA := Lib.hid hA
  have HBS := Lib.hid hB
  have HC := Lib.hid hC
  have HCM := Lib.hid CMP
  have hLn := own_lenN hO
  have HLN := Lib.hid hLn
  have hadd : ∀ q : Nat, (⟨g, 0, none⟩ : Addr).add q = ⟨g, q, none⟩ := fun q => by rw [Addr.add_lit, Nat.zero_add]
  have hadd : Hid (∀ q : Nat, (⟨g, 0, none⟩ : Addr).add q = ⟨g, q, none⟩) := Lib.hid hadd
  clear hO hU hW hA hB hC CMP
  obtain ⟨x, hx⟩ : ∃ x, L[m]? = some x := ⟨_, List.getElem?_eq_getElem (by omega)⟩
  have HX := Lib.hid hx
  have em : IntKind.i64.wrap ((m : Int) - (a : Int)) = ((m - a : Nat) : Int) := by rw [IntKind.wrap_i64] <;> omega
  have em2 : (((m - a : Nat) : Int) == 1) = false := beq_eq_false_iff_ne.2 (by omega)
  have em3 : (m - a == 1) = false := beq_eq_false_iff_ne.2 (by omega)
  have eb : IntKind.i64.wrap ((b : Int) - (m : Int)) = 1 := by rw [IntKind.wrap_i64] <;> omega
  have HMB := Lib.hid hm
  have hbz : Hid (base ≤ w.heap.size) := hbase
  clear hx hm hm0
  obtain ⟨dm, hdm⟩ : ∃ dm, dm = m - a := ⟨_, rfl⟩
  rw [← hdm] at em em2 em3
  clear hdm
  go_enter Try.func53, Try.ntmps53
  go_wp2_with fail
  clear em em2 em3 eb
  go_loopw [14, 15] (fun vi vj wq => ∃ i j : Nat, vi = .int .i64 (i : Int) ∧ vj = .int .i64 (j : Int) ∧ i ≤ j ∧ j ≤ m ∧ Hid (a ≤ i) ∧ Hid (i = a ∨ ∃ y, L[i - 1]? = some y ∧ O.lt y x) ∧ Hid (j = m ∨ ∃ y, L[j]? = some y ∧ O.lt x y) ∧ Hid (Below w.heap.size w wq)) (fun vi vj _ => (intOf vj).toNat - (intOf vi).toNat)
  case atStart => exact ⟨a, m, rfl, rfl, by omega, Nat.le_refl _, Lib.hid (Nat.le_refl _), Lib.hid (.inl rfl), Lib.hid (.inl rfl), Lib.hid (Below.refl _ _)⟩
  case round =>
    obtain ⟨i, j, rfl, rfl, hij, hjm, HAI, HL1, HL2, HW⟩ := hrel
    have hws := HW.out.size
    by_cases hlt : i < j
    · obtain ⟨h, hh⟩ : ∃ h, h = (i + j) / 2 := ⟨_, rfl⟩
      have e1 : ((i : Int) + (j : Int)) / 2 = (h : Int) := by omega
      have hh1 : i ≤ h ∧ h < j := by omega
      obtain ⟨y, hy⟩ : ∃ y, L[h]? = some y := ⟨_, List.getElem?_eq_getElem (by have := HLN.out; omega)⟩
      have HY := Lib.hid hy
      have hOw := own_below HO.out HW.out
      obtain ⟨x0, _⟩ := own_atN hOw HX.out
      obtain ⟨y0, _⟩ := own_atN hOw hy
      have htag : O.tag y < O.tag x := HC.out h m y x (by have := HAI.out; omega) (by omega) (Nat.le_refl _) (by omega) hy HX.out
      have CM := fun p : NowB wr => Lib.hid (HCM.out p.W (HW0.out.trans ((HW.out.trans (p.h.mono HW.out.size)).mono (by omega))) x y (HU.out _ (List.mem_of_getElem? HX.out)) (HU.out _ (List.mem_of_getElem? HY.out)))
      have a0 : (0 : Int) ≤ (m : Int) := by omega
      have a1 : (m : Int) < (n : Int) := by omega
      have h0 : (0 : Int) ≤ (h : Int) := by omega
      have h1 : (h : Int) < (n : Int) := by omega
      have HHH := Lib.hid hh1
      have ij : (i : Int) < (j : Int) := by omega
      have nn : (n : Int) ≤ 1000000 := by omega
      by_cases hc : O.cf x y < 0
      · have d1 : decide (O.cf x y < 0) = true := decide_eq_true hc
        have HLT := Lib.hid (O.low htag hc)
        clear hh hy hc htag hOw hh1
        generalize O.cf x y = oo at *
        go_wp2_with fail
        have n0 := fun p : NowB wr => p.cell x0
        have n1 := fun p : NowB wr => p.cell y0
        clear x0 y0
        refine wp_region_quiet_below (by kernel_rfl) (by kernel_rfl) ?_
        repeat (go_big_quiet_step ((go_at_call 47; with_reducible exact Calls.now_of (CM _).out)))
        refine wpQuiet_nil ?_
        intro _ hw'
        obtain ⟨pp, hw''⟩ := hw'
        subst hw''
        have HW9 := Lib.hid (HW.out.trans (pp.h.mono HW.out.size))
        have HP9 := Lib.hid pp.h
        generalize pp.W = w9 at *
        go_wp2_with fail
        go_roundw
        case rel => exact ⟨i, h, rfl, rfl, by have := HHH.out; omega, by have := HHH.out; omega, HAI, HL1, Lib.hid (.inr ⟨y, HY.out, HLT.out⟩), HW9⟩
        case measure => have := HHH.out; simp [intOf]; omega
      · have d1 : decide (O.cf x y < 0) = false := decide_eq_false hc
        have HLT := Lib.hid (O.not htag hc)
        clear hh hy hc htag hOw hh1
        generalize O.cf x y = oo at *
        go_wp2_with fail
        have n0 := fun p : NowB wr => p.cell x0
        have n1 := fun p : NowB wr => p.cell y0
        clear x0 y0
        refine wp_region_quiet_below (by kernel_rfl) (by kernel_rfl) ?_
        repeat (go_big_quiet_step ((go_at_call 47; with_reducible exact Calls.now_of (CM _).out)))
        refine wpQuiet_nil ?_
        intro _ hw'
        obtain ⟨pp, hw''⟩ := hw'
        subst hw''
        have HW9 := Lib.hid (HW.out.trans (pp.h.mono HW.out.size))
        have HP9 := Lib.hid pp.h
        generalize pp.W = w9 at *
        go_wp2_with fail
        go_roundw
        case rel => exact ⟨h + 1, j, by go_num, rfl, by have := HHH.out; omega, by omega, Lib.hid (by have := HHH.out; have := HAI.out; omega), Lib.hid (.inr ⟨y, by simpa using HY.out, HLT.out⟩), HL2, HW9⟩
        case measure => have := HHH.out; simp [intOf]; omega
    · obtain rfl : i = j := by omega
      have HOw := Lib.hid (own_below HO.out HW.out)
      have HBW := Lib.hid (show Below base w wr from HW.out.mono hbase)
      clear hlt hij hws
      go_upto_region 21 with fail
      go_loopw [17] (fun v wq => ∃ (k : Nat) (M : List Nat), v = .int .i64 (k : Int) ∧ i ≤ k ∧ Hid (k ≤ m) ∧ Hid (Sy.ByF (Sy.rotF k m (m + 1)) L M) ∧ Hid (wq.ownsRow base 3 1 (.slice (some ⟨g, 0, none⟩) n cap) n ((M).map encN)) ∧ Hid (Below base w wq)) (fun v _ => (intOf v).toNat)
      case atStart => exact ⟨m, L, rfl, hjm, Lib.hid (Nat.le_refl _), Lib.hid (Sy.rot_id2 L m (m + 1)), HOw, HBW⟩
      clear HOw HBW
      case round =>
        obtain ⟨k, M, rfl, hk, HKM, HM, HR, HBB⟩ := hrel
        by_cases hkl : i < k
        · have hML := own_lenN HR.out
          have hkm := HKM.out
          obtain ⟨q, hq⟩ : ∃ q, k = q + 1 := ⟨k - 1, by omega⟩
          obtain ⟨u, hu⟩ : ∃ u, M[k]? = some u := ⟨_, List.getElem?_eq_getElem (by omega)⟩
          obtain ⟨v, hv⟩ : ∃ v, M[q]? = some v := ⟨_, List.getElem?_eq_getElem (by omega)⟩
          have HST := Lib.hid (show Sy.ByF (Sy.rotF q m (m + 1)) L ((M.set k v).set q u) from by
            rw [hq] at hu ⊢
            exact Sy.rot_pull (by have h := HM.out; rw [hq] at h; exact h) (by omega) hu hv)
          obtain ⟨u0, u1⟩ := own_atN HR.out hu
          obtain ⟨v0, v1⟩ := own_atN HR.out hv
          have e3 : IntKind.i64.wrap ((k : Int) - 1) = (q : Int) := by rw [IntKind.wrap_i64] <;> omega
          have p0 : (0 : Int) ≤ (k : Int) := by omega
          have p1 : (k : Int) < (n : Int) := by omega
          have q0 : (0 : Int) ≤ (q : Int) := by omega
          have q1 : (q : Int) < (n : Int) := by omega
          have hne : k ≠ q := by omega
          have HLT := Lib.hid hkl
          have HPQ := Lib.hid (show k < n ∧ q < n from by omega)
          have HQ := Lib.hid hq
          have g1 : decide ((i : Int) < (k : Int)) = true := decide_eq_true (by omega)
          have g2 : decide (i < k) = true := decide_eq_true hkl
          clear hu hv hq hML hkl hk hkm
          go_wp2_with fail
          go_region
          obtain ⟨w9, hw9⟩ : ∃ w9, w9 = ((wr.setCell ⟨g, k, none⟩ (.int .i64 (v : Int))).setCell ⟨g, q, none⟩ (.int .i64 (u : Int))).drew := ⟨_, rfl⟩
          rw [← hw9]
          have HR9 := Lib.hid (show w9.ownsRow base 3 1 (.slice (some ⟨g, 0, none⟩) n cap) n (((M.set k v).set q u).map encN) from by
            rw [hw9]
            have h1 := own_setN HR.out HPQ.out.1 v
            have h2 := own_setN h1 HPQ.out.2 u
            with_reducible exact own_drewY h2)
          have HB9 := Lib.hid (show Below base w w9 from by
            rw [hw9]
            have hg := (own_baseY HR.out).1
            have h := (HBB.out.setCell (p := ⟨g, k, none⟩) hg (.int .i64 (v : Int))).setCell (p := ⟨g, q, none⟩) hg (.int .i64 (u : Int))
            with_reducible exact Below.drewY h)
          clear hw9 u0 u1 v0 v1 HR HBB
          go_wp2_with fail
          go_roundw
          case rel => exact ⟨q, (M.set k v).set q u, by first | rfl | go_num, by have := HLT.out; have := HQ.out; omega, Lib.hid (by have := HKM.out; have := HQ.out; omega), HST, HR9, HB9⟩
          case measure => have := HLT.out; have := HQ.out; simp [intOf]; omega
        · obtain rfl : i = k := by omega
          have g1 : decide ((i : Int) < (i : Int)) = false := decide_eq_false (by omega)
          have g2 : decide (i < i) = false := decide_eq_false (by omega)
          clear hkl hk
          go_wp2_with fail
          go_end0
          have h9 := Sy.ins_last O HMB.out HAI.out hjm HA.out HX.out HL1.out HL2.out (by rw [HMB.out]; exact HM.out)
          exact ⟨rfl, M, h9.1, h9.2, HR.out, HBB.out⟩
end Go.Proofs.Ytgldjjmpjaegfaa
