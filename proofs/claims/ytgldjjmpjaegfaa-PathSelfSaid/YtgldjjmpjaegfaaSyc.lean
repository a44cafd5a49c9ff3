/- Rows of one's own of places; exchanges of ranges and rotations, as slices' stable sort does them. -/
import Derived.Test.YtgldjjmpjaegfaaSyb
import Derived.Test.YtgldjjmpjaegfaaBs
import Derived.Test.YtgldjjmpjaegfaaProg
import Derived.RegionTactic
import Derived.ChangeAlike
import Derived.BigRegion
import Derived.BigQuiet
import Derived.Deep.QuietTactic
namespace Go.Proofs.Ytgldjjmpjaegfaa
open Go.RowKit
set_option linter.unusedVariables false
set_option linter.unusedSimpArgs false
set_option maxRecDepth 100000

def encN (p : Nat) : Value := .int .i64 (p : Int)
theorem own_setY {w : World} {base g cap n size : Nat} {e : TypeId} {xs : List Value} (h : w.ownsRow base e size (.slice (some ⟨g, 0, none⟩) n cap) n xs) {i : Nat} (hi : i < n * size) (u : Value) :
    w.frozen? ⟨g, i, none⟩ = false ∧ w.cell? ⟨g, i, none⟩ = xs[i]? ∧ (w.setCell ⟨g, i, none⟩ u).ownsRow base e size (.slice (some ⟨g, 0, none⟩) n cap) n (xs.set i u) := by
  rcases h.2 with ⟨h0, _⟩ | ⟨g', cap', cur, hv, hb, hg, hnc, hcm, hcs, htake⟩
  · cases h0
  · simp only [Value.slice.injEq, Option.some.injEq, Addr.mk.injEq] at hv
    obtain ⟨⟨rfl, _⟩, _, rfl⟩ := hv
    have hset := setCell_eq_setRow w g i cur e (0, 0) u hg
    have hi2 : i < cur.size := by rw [hcs]; exact Nat.lt_of_lt_of_le hi (Nat.mul_le_mul_right _ hnc)
    have hcell : w.cell? ⟨g, i, none⟩ = xs[i]? := by
      rw [cell_of_row w g i cur e (0, 0) hg, ← htake, List.getElem?_take, if_pos hi]
      simp
    refine ⟨by simp [World.frozen?, hg], hcell, ⟨by rw [List.length_set]; exact h.1, .inr ⟨g, cap, cur.setIfInBounds i u, rfl, hb, ?_, hnc, hcm, ?_, ?_⟩⟩⟩
    · rw [hset]; exact setRow_heap w g cur _ e _ hg
    · simpa using hcs
    · rw [← htake, Array.toList_setIfInBounds, List.take_set]
theorem own_placeY {w : World} {base size n c : Nat} {e : TypeId} {A : Option Addr} {xs : List Value} (h : w.ownsRow base e size (.slice A n c) n xs) (hn : 0 < n) : ∃ g, A = some ⟨g, 0, none⟩ ∧ base ≤ g ∧ g < w.heap.size := by
  rcases h.2 with ⟨h0, h1⟩ | ⟨g, cap, cur, h0, hb, hg, _⟩
  · omega
  · injection h0 with h0
    exact ⟨g, h0, hb, (Array.getElem?_eq_some_iff.1 hg).1⟩
theorem own_baseY {w : World} {base size n c g : Nat} {e : TypeId} {xs : List Value} (h : w.ownsRow base e size (.slice (some ⟨g, 0, none⟩) n c) n xs) : base ≤ g ∧ g < w.heap.size := by
  rcases h.2 with ⟨h0, h1⟩ | ⟨g', cap, cur, h0, hb, hg, _⟩
  · cases h0
  · simp only [Value.slice.injEq, Option.some.injEq, Addr.mk.injEq] at h0
    obtain ⟨⟨rfl, _⟩, _, rfl⟩ := h0
    exact ⟨hb, (Array.getElem?_eq_some_iff.1 hg).1⟩
theorem own_lenN {w : World} {base g cap n : Nat} {L : List Nat} (h : w.ownsRow base 3 1 (.slice (some ⟨g, 0, none⟩) n cap) n ((L).map encN)) : L.length = n := by have := h.1; rw [List.length_map] at this; omega
theorem own_atN {w : World} {base g cap n i x : Nat} {L : List Nat} (h : w.ownsRow base 3 1 (.slice (some ⟨g, 0, none⟩) n cap) n ((L).map encN)) (hx : L[i]? = some x) : w.cell? ⟨g, i, none⟩ = some (.int .i64 (x : Int)) ∧ w.frozen? ⟨g, i, none⟩ = false := by
  have hl := own_lenN h
  have hi := (List.getElem?_eq_some_iff.1 hx).1
  have s := own_setY h (i := i) (by omega) (.bool true)
  exact ⟨by rw [s.2.1, List.getElem?_map, hx]; rfl, s.1⟩
theorem own_setN {w : World} {base g cap n i : Nat} {L : List Nat} (h : w.ownsRow base 3 1 (.slice (some ⟨g, 0, none⟩) n cap) n ((L).map encN)) (hi : i < n) (x : Nat) : (w.setCell ⟨g, i, none⟩ (.int .i64 (x : Int))).ownsRow base 3 1 (.slice (some ⟨g, 0, none⟩) n cap) n ((L.set i x).map encN) := by
  have s := (own_setY h (i := i) (by omega) (.int .i64 (x : Int))).2.2
  rw [List.map_set]
  exact s
theorem Below.drewY {B : Nat} {a w : World} (h : Below B a w) : Below B a w.drew := ⟨h.os, h.tape, h.output, h.size, h.block⟩
theorem own_drewY {w : World} {b e z q : Nat} {v : Value} {xs : List Value} (h : w.ownsRow b e z v q xs) : w.drew.ownsRow b e z v q xs := h
theorem Sy.rot_exists {α : Type} (L : List α) (f : Nat → Nat) (hf : ∀ q, q < L.length → f q < L.length) (hid : ∀ q, L.length ≤ q → f q = q) : ∃ R, Sy.ByF f L R := by
  refine ⟨(List.range L.length).pmap (fun q hq => L[f q]'(hf q hq)) (fun q hq => List.mem_range.1 hq), by simp, fun q => ?_⟩
  by_cases hq : q < L.length
  · rw [List.getElem?_eq_getElem (by simpa using hq), List.getElem?_eq_getElem (hf q hq)]
    simp
  · rw [List.getElem?_eq_none (by simpa using hq), hid q (by omega), List.getElem?_eq_none (by omega)]
theorem Sy.rot_next_l {α : Type} {M N R : List α} {m i j : Nat} (h : 0 < i ∧ i ≤ m ∧ 0 < j) (hlt : j < i) (h1 : Sy.ByF (Sy.rotF (m - i) m (m + j)) M R) (h2 : Sy.ByF (Sy.swapF (m - i) m j) M N) : Sy.ByF (Sy.rotF (m - (i - j)) m (m + j)) N R := by
  refine ⟨h1.1.trans h2.1.symm, fun q => ?_⟩
  rw [h1.2, h2.2, Sy.rot_left m i j q h.2.1 hlt h.2.2]
theorem Sy.rot_next_r {α : Type} {M N R : List α} {m i j : Nat} (h : 0 < i ∧ i ≤ m ∧ 0 < j) (hlt : i < j) (h1 : Sy.ByF (Sy.rotF (m - i) m (m + j)) M R) (h2 : Sy.ByF (Sy.swapF (m - i) (m + j - i) i) M N) : Sy.ByF (Sy.rotF (m - i) m (m + (j - i))) N R := by
  refine ⟨h1.1.trans h2.1.symm, fun q => ?_⟩
  rw [h1.2, h2.2, Sy.rot_right m i j q h.2.1 hlt h.1]
set_option maxHeartbeats 8000000 in
theorem swaprange_any (fv : Value) (L : List Nat) (base g n cap a b t : Nat) (w : World) (hO : w.ownsRow base 3 1 (.slice (some ⟨g, 0, none⟩) n cap) n ((L).map encN)) (hab : a + t ≤ b) (hbn : b + t ≤ n) (hsm : n ≤ 1000000) :
    Calls Try.prog 55 #[.slice (some ⟨g, 0, none⟩) n cap, .int .i64 (a : Int), .int .i64 (b : Int), .int .i64 (t : Int), fv] w fun e w' => e = .returned (.tuple #[]) ∧ ∃ M, Sy.ByF (Sy.swapF a b t) L M ∧ w'.ownsRow base 3 1 (.slice (some ⟨g, 0, none⟩) n cap) n ((M).map encN) ∧ Below base w w' := by
  have HO := Lib.hid hO
  have HL := Lib.hid (own_lenN hO)
  have hadd : ∀ q : Nat, (⟨g, 0, none⟩ : Addr).add q = ⟨g, q, none⟩ := fun q => by rw [Addr.add_lit, Nat.zero_add]
  clear hO
  go_enter Try.func55, Try.ntmps55
  go_wp2_with fail
  go_loopw [10] (fun v wr => ∃ (i : Nat) (M : List Nat), v = .int .i64 (i : Int) ∧ i ≤ t ∧ Hid (Sy.ByF (Sy.swapF a b i) L M) ∧ Hid (wr.ownsRow base 3 1 (.slice (some ⟨g, 0, none⟩) n cap) n ((M).map encN)) ∧ Hid (Below base w wr)) (fun v _ => t - (intOf v).toNat)
  case atStart => exact ⟨0, L, rfl, Nat.zero_le _, Lib.hid ((Sy.ByF.refl L).congr fun q => (Sy.swapF_zero a b q).symm), HO, Lib.hid (Below.refl _ _)⟩
  case round =>
    obtain ⟨i, M, rfl, hi, HM, HR, HB⟩ := hrel
    by_cases hlt : i < t
    · have hML := own_lenN HR.out
      obtain ⟨x, hx⟩ : ∃ x, M[a + i]? = some x := ⟨_, List.getElem?_eq_getElem (by omega)⟩
      obtain ⟨y, hy⟩ : ∃ y, M[b + i]? = some y := ⟨_, List.getElem?_eq_getElem (by omega)⟩
      obtain ⟨p, hp⟩ : ∃ p, p = a + i := ⟨_, rfl⟩
      obtain ⟨q, hq⟩ : ∃ q, q = b + i := ⟨_, rfl⟩
      have HST := Lib.hid (Sy.swap_step HM.out (by omega) hx hy)
      rw [← hp, ← hq] at HST
      rw [← hp] at hx
      rw [← hq] at hy
      obtain ⟨x0, x1⟩ := own_atN HR.out hx
      obtain ⟨y0, y1⟩ := own_atN HR.out hy
      have e1 : IntKind.i64.wrap ((a : Int) + (i : Int)) = (p : Int) := by rw [IntKind.wrap_i64] <;> omega
      have e2 : IntKind.i64.wrap ((b : Int) + (i : Int)) = (q : Int) := by rw [IntKind.wrap_i64] <;> omega
      have p0 : (0 : Int) ≤ (p : Int) := by omega
      have p1 : (p : Int) < (n : Int) := by omega
      have q0 : (0 : Int) ≤ (q : Int) := by omega
      have q1 : (q : Int) < (n : Int) := by omega
      have hne : p ≠ q := by omega
      have HLT := Lib.hid hlt
      have HPQ := Lib.hid (show p < n ∧ q < n from by omega)
      have it : (i : Int) < (t : Int) := by omega
      have ttn : (t : Int) ≤ 1000000 := by omega
      clear hx hy hp hq hML hlt hi
      go_wp2_with fail
      go_region
      obtain ⟨w9, hw9⟩ : ∃ w9, w9 = ((wr.setCell ⟨g, p, none⟩ (.int .i64 (y : Int))).setCell ⟨g, q, none⟩ (.int .i64 (x : Int))).drew := ⟨_, rfl⟩
      rw [← hw9]
      have HR9 := Lib.hid (show w9.ownsRow base 3 1 (.slice (some ⟨g, 0, none⟩) n cap) n (((M.set p y).set q x).map encN) from by
        rw [hw9]
        have h1 := own_setN HR.out HPQ.out.1 y
        have h2 := own_setN h1 HPQ.out.2 x
        with_reducible exact own_drewY h2)
      have HB9 := Lib.hid (show Below base w w9 from by
        rw [hw9]
        have hg := (own_baseY HR.out).1
        have h := (HB.out.setCell (p := ⟨g, p, none⟩) hg (.int .i64 (y : Int))).setCell (p := ⟨g, q, none⟩) hg (.int .i64 (x : Int))
        with_reducible exact Below.drewY h)
      clear hw9 x0 x1 y0 y1 HR HB
      go_wp2_with fail
      go_roundw
      case rel => exact ⟨i + 1, (M.set p y).set q x, by go_num, HLT.out, HST, HR9, HB9⟩
      case measure => have := HLT.out; simp [intOf]; omega
    · obtain rfl : i = t := by omega
      go_wp2_with fail
      go_end0
      exact ⟨rfl, M, HM.out, HR.out, HB.out⟩
set_option maxHeartbeats 8000000 in
theorem rotate_any (fv : Value) (L : List Nat) (base g n cap a m b : Nat) (w : World) (hO : w.ownsRow base 3 1 (.slice (some ⟨g, 0, none⟩) n cap) n ((L).map encN)) (ham : a < m) (hmb : m < b) (hbn : b ≤ n) (hsm : n ≤ 1000000) (hbase : base ≤ w.heap.size) :
    Calls Try.prog 54 #[.slice (some ⟨g, 0, none⟩) n cap, .int .i64 (a : Int), .int .i64 (m : Int), .int .i64 (b : Int), fv] w fun e w' => e = .returned (.tuple #[]) ∧ ∃ M, Sy.ByF (Sy.rotF a m b) L M ∧ w'.ownsRow base 3 1 (.slice (some ⟨g, 0, none⟩) n cap) n ((M).map encN) ∧ Below base w w' := by
  have HO := Lib.hid hO
  obtain ⟨i0, hi0⟩ : ∃ i, i = m - a := ⟨_, rfl⟩
  obtain ⟨j0, hj0⟩ : ∃ j, j = b - m := ⟨_, rfl⟩
  have e1 : IntKind.i64.wrap ((m : Int) - (a : Int)) = (i0 : Int) := by rw [IntKind.wrap_i64] <;> omega
  have e2 : IntKind.i64.wrap ((b : Int) - (m : Int)) = (j0 : Int) := by rw [IntKind.wrap_i64] <;> omega
  have HI := Lib.hid (show 0 < i0 ∧ i0 ≤ m ∧ 0 < j0 ∧ m + j0 ≤ n ∧ m - i0 = a ∧ m + j0 = b from by omega)
  have HMN := Lib.hid (show m ≤ 1000000 from by omega)
  clear hO hi0 hj0 ham hmb hbn
  go_enter Try.func54, Try.ntmps54
  go_wp2_with fail
  go_loopw [10, 11] (fun vi vj wr => ∃ (i j : Nat) (M R : List Nat), vi = .int .i64 (i : Int) ∧ vj = .int .i64 (j : Int) ∧ Hid (0 < i ∧ i ≤ m ∧ 0 < j ∧ m + j ≤ n ∧ i + j ≤ i0 + j0) ∧ Hid (Sy.ByF (Sy.rotF a m b) L R) ∧ Hid (Sy.ByF (Sy.rotF (m - i) m (m + j)) M R) ∧ Hid (wr.ownsRow base 3 1 (.slice (some ⟨g, 0, none⟩) n cap) n ((M).map encN)) ∧ Hid (Below base w wr)) (fun vi vj _ => (intOf vi).toNat + (intOf vj).toNat)
  case atStart =>
    have hl := own_lenN HO.out
    have hI := HI.out
    obtain ⟨R, hR⟩ := Sy.rot_exists L (Sy.rotF a m b) (fun q hq => by unfold Sy.rotF; (repeat' split) <;> omega) (fun q hq => by unfold Sy.rotF; rw [if_neg (by omega), if_neg (by omega)])
    exact ⟨i0, j0, L, R, rfl, rfl, Lib.hid (by omega), Lib.hid hR, Lib.hid (by rw [hI.2.2.2.2.1, hI.2.2.2.2.2]; exact hR), HO, Lib.hid (Below.refl _ _)⟩
  case round =>
    obtain ⟨i, j, M, R, rfl, rfl, HIJ, HRR, HMR, HR, HB⟩ := hrel
    have hij := HIJ.out
    have hws : base ≤ wr.heap.size := by have := HB.out.size; omega
    by_cases hne : i = j
    · subst hne
      have d1 : ((i : Int) == (i : Int)) = true := beq_self_eq_true _
      have c1 : IntKind.i64.wrap ((m : Int) - (i : Int)) = ((m - i : Nat) : Int) := by rw [IntKind.wrap_i64] <;> (have := HMN.out; omega)
      have SW := Lib.hid (swaprange_any fv M base g n cap (m - i) m i wr HR.out (by omega) (by omega) hsm)
      have HIJ2 := HIJ
      clear hij
      go_wp2_with (go_at_call 55; (with_reducible refine SW.out.mono ?_); rintro ex w3 ⟨rfl, N, hN, hoN, hbN⟩)
      go_end0
      refine ⟨rfl, N, ?_, hoN, HB.out.trans hbN⟩
      have h2 : Sy.ByF (Sy.rotF (m - i) m (m + i)) M N := hN.congr fun q => Sy.rot_last m i q (by have := HIJ2.out; omega)
      rw [show N = R from h2.ext HMR.out]
      exact HRR.out
    · have d1 : ((i : Int) == (j : Int)) = false := beq_eq_false_iff_ne.2 (by omega)
      have d1' : (i == j) = false := beq_eq_false_iff_ne.2 hne
      have c1 : IntKind.i64.wrap ((m : Int) - (i : Int)) = ((m - i : Nat) : Int) := by rw [IntKind.wrap_i64] <;> (have := HMN.out; omega)
      by_cases hlt : j < i
      · have d2 : decide (j < i) = true := decide_eq_true hlt
        have d2' : decide ((j : Int) < (i : Int)) = true := decide_eq_true (by omega)
        have c2 : IntKind.i64.wrap ((i : Int) - (j : Int)) = ((i - j : Nat) : Int) := by rw [IntKind.wrap_i64] <;> (have := HMN.out; omega)
        have SW := Lib.hid (swaprange_any fv M base g n cap (m - i) m j wr HR.out (by omega) (by omega) hsm)
        have HNE := Lib.hid hne
        have HLT := Lib.hid hlt
        clear hij hne hlt
        go_wp2_with (go_at_call 55; (with_reducible refine SW.out.mono ?_); rintro ex w3 ⟨rfl, N, hN, hoN, hbN⟩; have HN := Lib.hid hN; have HON := Lib.hid hoN; have HBN := Lib.hid hbN; clear hN hoN hbN)
        go_roundw
        case rel => exact ⟨i - j, j, N, R, by first | rfl | go_num, rfl, Lib.hid (by have := HIJ.out; have := HLT.out; omega), HRR, Lib.hid (by have := HIJ.out; exact Sy.rot_next_l ⟨this.1, this.2.1, this.2.2.1⟩ HLT.out HMR.out HN.out), HON, Lib.hid (HB.out.trans HBN.out)⟩
        case measure => have := HIJ.out; have := HLT.out; simp [intOf]; omega
      · have d2 : decide (j < i) = false := decide_eq_false hlt
        have d2' : decide ((j : Int) < (i : Int)) = false := decide_eq_false (by omega)
        have c2 : IntKind.i64.wrap ((j : Int) - (i : Int)) = ((j - i : Nat) : Int) := by rw [IntKind.wrap_i64] <;> (have := HIJ.out; omega)
        have c3 : IntKind.i64.wrap ((m : Int) + (j : Int)) = ((m + j : Nat) : Int) := by rw [IntKind.wrap_i64] <;> (have := HIJ.out; omega)
        have c4 : IntKind.i64.wrap (((m + j : Nat) : Int) - (i : Int)) = ((m + j - i : Nat) : Int) := by rw [IntKind.wrap_i64] <;> (have := HIJ.out; omega)
        have SW := Lib.hid (swaprange_any fv M base g n cap (m - i) (m + j - i) i wr HR.out (by omega) (by omega) hsm)
        have HLT := Lib.hid (show i < j from by omega)
        clear hij hne hlt
        obtain ⟨mj, hmj⟩ : ∃ q, q = m + j := ⟨_, rfl⟩
        rw [← hmj] at c3 c4 SW
        have HMJ := Lib.hid hmj
        clear hmj
        go_wp2_with (go_at_call 55; (with_reducible refine SW.out.mono ?_); rintro ex w3 ⟨rfl, N, hN, hoN, hbN⟩; have HN := Lib.hid hN; have HON := Lib.hid hoN; have HBN := Lib.hid hbN; clear hN hoN hbN)
        go_roundw
        case rel => exact ⟨i, j - i, N, R, rfl, by first | rfl | go_num, Lib.hid (by have := HIJ.out; have := HLT.out; omega), HRR, Lib.hid (by have := HIJ.out; have h2 := HN.out; rw [HMJ.out] at h2; exact Sy.rot_next_r ⟨this.1, this.2.1, this.2.2.1⟩ HLT.out HMR.out h2), HON, Lib.hid (HB.out.trans HBN.out)⟩
        case measure => have := HIJ.out; have := HLT.out; simp [intOf]; omega
end Go.Proofs.Ytgldjjmpjaegfaa
