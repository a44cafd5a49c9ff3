/- tree.reversed: a list from its end on. -/
import Derived.Test.YtgldjjmpjaegfaaSyh
namespace Go.Proofs.Ytgldjjmpjaegfaa
open Go.RowKit
set_option linter.unusedVariables false
set_option linter.unusedSimpArgs false
set_option maxRecDepth 100000

theorem encN_one (L : List Nat) : ∀ u ∈ L.map encN, u.oneCell' = true := by
  intro u hu
  obtain ⟨x, _, rfl⟩ := List.mem_map.1 hu
  rfl
set_option maxHeartbeats 1000000 in
theorem clone_ints (A : Option Addr) (L : List Nat) (n c B : Nat) (w : World) (hn : n = L.length) (hb : Rd w B A (L.map encN)) (hB : B ≤ w.heap.size) (hl : n ≤ 1000000) :
    Calls Try.prog 41 #[.slice A n c] w fun e w' => ∃ v', e = .returned v' ∧ w'.ownsRow w.heap.size 3 1 v' n (L.map encN) ∧ Below w.heap.size w w' := by
  obtain ⟨i0, hi, hz0, hz1, hz2⟩ := info_parts info_int
  have heq := fun (W : World) (A' : Option Addr) (n' c' : Nat) => Lib.run_eql_slice_nil (P := Try.prog) W 26 3 A' n' c' 0 0 Try.underlying26
  have hfl : (L.map encN).length = n * 1 := by rw [List.length_map, hn]; omega
  rcases A with _ | a
  · have h0 : L = [] := by
      rcases L with _ | ⟨x, r⟩
      · rfl
      · obtain ⟨a, h, _⟩ := hb (by rw [hfl, hn]; simp); cases h
    subst h0
    obtain rfl : n = 0 := hn
    go_enter Try.func41, Try.ntmps41
    go_wp2
    go_ret
    exact ⟨_, rfl, World.ownsRow_nil _ _ _ _, Below.refl _ _⟩
  · have HB := Lib.hid hb
    have HL := Lib.hid hfl
    have H1 := Lib.hid (encN_one L)
    clear hb hfl hn
    generalize L.map encN = xs at *
    go_enter Try.func41, Try.ntmps41
    go_wp2_with (at_builtin; refine wpList_app rfl (.tmp 5) (.tmp 6) _ _ rfl rfl rfl (run_append_rd _ w.heap.size _ _ 3 i0 _ 1 8 Try.underlying26 hi hz0 hz1 hz2 rfl (.slice (some ⟨w.heap.size, 0, none⟩) 0 0) 0 [] (World.ownsRow_made w #[] 0 (Nat.le_refl _) (Nat.zero_le _) rfl) B (some a) n c xs HL.out (HB.out.alloc hB _) H1.out (by unfold maxLen; omega) (by omega) (by simp)) ?_; rintro v1 w1 ⟨ho1, hg1⟩)
    go_ret
    have hg2 := hg1.alloc
    exact ⟨v1, rfl, by simpa using ho1, ⟨hg2.grown.os, hg2.grown.tape, hg2.grown.output, hg2.grown.size, fun i hi => hg2.grown.block i hi (by simp [Value.ownBlock]; omega)⟩⟩
/-- The first i and the last i exchanged. -/
def revF (n i q : Nat) : Nat := if q < i then n - 1 - q else if n ≤ q + i ∧ q < n then n - 1 - q else q
theorem rev_step {L M : List Nat} {n i j x y : Nat} (h : Sy.ByF (revF n i) L M) (hij : i < j) (hn : i + j + 1 = n) (hx : M[i]? = some x) (hy : M[j]? = some y) : Sy.ByF (revF n (i + 1)) L ((M.set i y).set j x) := by
  have hl1 := (List.getElem?_eq_some_iff.1 hx).1
  have hl2 := (List.getElem?_eq_some_iff.1 hy).1
  refine ⟨by rw [List.length_set, List.length_set]; exact h.1, fun q => ?_⟩
  rw [h.2] at hx hy
  rw [List.getElem?_set, List.getElem?_set, List.length_set]
  by_cases h1 : j = q
  · subst h1
    rw [if_pos rfl, if_pos hl2, ← hx]
    congr 1
    unfold revF
    repeat' split
    all_goals omega
  · rw [if_neg h1]
    by_cases h2 : i = q
    · subst h2
      rw [if_pos rfl, if_pos hl1, ← hy]
      congr 1
      unfold revF
      repeat' split
      all_goals omega
    · rw [if_neg h2, h.2]
      congr 1
      unfold revF
      repeat' split
      all_goals omega
theorem rev_fin {L M : List Nat} {n i : Nat} (h : Sy.ByF (revF n i) L M) (hn : L.length = n) (hi : n ≤ 2 * i + 1) (hin : i ≤ n) : M = L.reverse := by
  apply List.ext_getElem?
  intro q
  rw [h.2]
  rcases Nat.lt_or_ge q n with hq | hq
  · rw [List.getElem?_reverse (by omega)]
    congr 1
    unfold revF
    repeat' split
    all_goals omega
  · rw [List.getElem?_eq_none (l := L.reverse) (by simp; omega), List.getElem?_eq_none]
    unfold revF
    repeat' split
    all_goals omega
theorem rev_start (L : List Nat) (n : Nat) : Sy.ByF (revF n 0) L L := (Sy.ByF.refl L).congr fun q => by
  unfold revF
  repeat' split
  all_goals omega
set_option maxHeartbeats 1000000 in
theorem reverse_none (A : Option Addr) (c : Nat) (w : World) : Calls Try.prog 42 #[.slice A (0 : Nat) c] w fun e w' => e = .returned (.tuple #[]) ∧ w' = w := by
  go_enter Try.func42, Try.ntmps42
  go_wp2_with fail
  go_loopw [2, 3] (fun vi vj wq => vi = .int .i64 0 ∧ vj = .int .i64 (-1) ∧ w = wq) (fun _ _ _ => 0)
  case atStart => exact ⟨rfl, rfl, rfl⟩
  case round =>
    obtain ⟨rfl, rfl, hw⟩ := hrel
    subst hw
    go_wp2_with fail
    go_end0
    exact ⟨rfl, rfl⟩
set_option maxHeartbeats 8000000 in
theorem reverse_any (L : List Nat) (base g n cap : Nat) (w : World) (hO : w.ownsRow base 3 1 (.slice (some ⟨g, 0, none⟩) n cap) n ((L).map encN)) (hn : 0 < n) (hsm : n ≤ 1000000) :
    Calls Try.prog 42 #[.slice (some ⟨g, 0, none⟩) n cap] w fun e w' => e = .returned (.tuple #[]) ∧ w'.ownsRow base 3 1 (.slice (some ⟨g, 0, none⟩) n cap) n ((L.reverse).map encN) ∧ Below base w w' := by
  have HO := Lib.hid hO
  have HL := Lib.hid (own_lenN hO)
  obtain ⟨n1, hn1⟩ : ∃ n1, n = n1 + 1 := ⟨n - 1, by omega⟩
  have HN1 := Lib.hid hn1
  have e0 : IntKind.i64.wrap ((n : Int) - 1) = (n1 : Int) := by rw [IntKind.wrap_i64] <;> omega
  clear hO hn1 hn
  go_enter Try.func42, Try.ntmps42
  go_wp2_with fail
  clear e0
  go_loopw [2, 3] (fun vi vj wr => ∃ (i j : Nat) (M : List Nat), vi = .int .i64 (i : Int) ∧ vj = .int .i64 (j : Int) ∧ Hid (i + j + 1 = n) ∧ Hid (Sy.ByF (revF n i) L M) ∧ Hid (wr.ownsRow base 3 1 (.slice (some ⟨g, 0, none⟩) n cap) n ((M).map encN)) ∧ Hid (Below base w wr)) (fun _ vj _ => (intOf vj).toNat)
  case atStart => exact ⟨0, n1, L, rfl, rfl, Lib.hid (by have := HN1.out; omega), Lib.hid (rev_start L n), HO, Lib.hid (Below.refl _ _)⟩
  case round =>
    obtain ⟨i, j, M, rfl, rfl, HIJ, HM, HR, HB⟩ := hrel
    by_cases hlt : i < j
    · have hij := HIJ.out
      have hML := own_lenN HR.out
      obtain ⟨x, hx⟩ : ∃ x, M[i]? = some x := ⟨_, List.getElem?_eq_getElem (by omega)⟩
      obtain ⟨y, hy⟩ : ∃ y, M[j]? = some y := ⟨_, List.getElem?_eq_getElem (by omega)⟩
      have HST := Lib.hid (rev_step HM.out hlt hij hx hy)
      obtain ⟨x0, x1⟩ := own_atN HR.out hx
      obtain ⟨y0, y1⟩ := own_atN HR.out hy
      obtain ⟨i1, hi1⟩ : ∃ i1, i1 = i + 1 := ⟨_, rfl⟩
      obtain ⟨j1, hj1⟩ : ∃ j1, j = j1 + 1 := ⟨j - 1, by omega⟩
      have e1 : IntKind.i64.wrap ((i : Int) + 1) = (i1 : Int) := by rw [IntKind.wrap_i64] <;> omega
      have e2 : IntKind.i64.wrap ((j : Int) - 1) = (j1 : Int) := by rw [IntKind.wrap_i64] <;> omega
      have d0 : decide ((i : Int) < (j : Int)) = true := decide_eq_true (by omega)
      have d1 : decide (i < j) = true := decide_eq_true hlt
      have p0 : (0 : Int) ≤ (i : Int) := by omega
      have p1 : (i : Int) < (n : Int) := by omega
      have q0 : (0 : Int) ≤ (j : Int) := by omega
      have q1 : (j : Int) < (n : Int) := by omega
      have hne : i ≠ j := by omega
      have HPQ := Lib.hid (show i < n ∧ j < n from by omega)
      have HI1 := Lib.hid hi1
      have HJ1 := Lib.hid hj1
      clear hx hy hML hlt hij hi1 hj1
      go_wp2_with fail
      go_region
      obtain ⟨w9, hw9⟩ : ∃ w9, w9 = ((wr.setCell ⟨g, i, none⟩ (.int .i64 (y : Int))).setCell ⟨g, j, none⟩ (.int .i64 (x : Int))).drew := ⟨_, rfl⟩
      rw [← hw9]
      have HR9 := Lib.hid (show w9.ownsRow base 3 1 (.slice (some ⟨g, 0, none⟩) n cap) n (((M.set i y).set j x).map encN) from by
        rw [hw9]
        have h1 := own_setN HR.out HPQ.out.1 y
        have h2 := own_setN h1 HPQ.out.2 x
        with_reducible exact own_drewY h2)
      have HB9 := Lib.hid (show Below base w w9 from by
        rw [hw9]
        have hg := (own_baseY HR.out).1
        have h := (HB.out.setCell (p := ⟨g, i, none⟩) hg (.int .i64 (y : Int))).setCell (p := ⟨g, j, none⟩) hg (.int .i64 (x : Int))
        with_reducible exact Below.drewY h)
      clear hw9 x0 x1 y0 y1 HR HB
      go_wp2_with fail
      go_roundw
      case rel => exact ⟨i1, j1, (M.set i y).set j x, rfl, rfl, Lib.hid (by have := HIJ.out; have := HI1.out; have := HJ1.out; omega), by rw [HI1.out]; exact HST, HR9, HB9⟩
      case measure => have := HJ1.out; simp [intOf]; omega
    · have d0 : decide ((i : Int) < (j : Int)) = false := decide_eq_false (by omega)
      have d1 : decide (i < j) = false := decide_eq_false hlt
      have HNL := Lib.hid hlt
      clear hlt
      go_wp2_with fail
      go_end0
      have e := rev_fin HM.out HL.out (by have := HNL.out; have := HIJ.out; omega) (by have := HIJ.out; omega)
      exact ⟨rfl, by rw [← e]; exact HR.out, HB.out⟩
set_option maxHeartbeats 2000000 in
theorem reversed_any (A : Option Addr) (L : List Nat) (n c B : Nat) (w : World) (hn : n = L.length) (hb : Rd w B A (L.map encN)) (hB : B ≤ w.heap.size) (hl : n ≤ 1000000) :
    Calls Try.prog 33 #[.slice A n c] w fun e w' => ∃ A' c', e = .returned (.slice A' n c') ∧ w'.ownsRow w.heap.size 3 1 (.slice A' n c') n (L.reverse.map encN) ∧ Below w.heap.size w w' := by
  have CC := Lib.hid (clone_ints A L n c B w hn hb hB hl)
  have HN := Lib.hid hn
  clear hn hb hB
  obtain ⟨b0, hb0⟩ : ∃ b0, b0 = w.heap.size := ⟨_, rfl⟩
  have HB0 := Lib.hid hb0
  rw [← hb0] at CC ⊢
  clear hb0
  have RV : ∀ (v1 : Value) (w1 : World), w1.ownsRow b0 3 1 v1 n (L.map encN) → ∃ A1 c1, v1 = .slice A1 n c1 ∧ Hid (Calls Try.prog 42 #[.slice A1 n c1] w1 fun e w' => e = .returned (.tuple #[]) ∧ w'.ownsRow b0 3 1 (.slice A1 n c1) n (L.reverse.map encN) ∧ Below b0 w1 w') := fun v1 w1 ho => by
    obtain ⟨A1, c1, rfl, _, _⟩ := own_rd ho
    refine ⟨A1, c1, rfl, ?_⟩
    rcases Nat.eq_zero_or_pos n with h0 | h0
    · subst h0
      have hL : L = [] := List.eq_nil_of_length_eq_zero HN.out.symm
      subst hL
      exact Lib.hid ((reverse_none A1 c1 w1).mono (fun e w' h => ⟨h.1, by rw [h.2]; exact ho, by rw [h.2]; exact Below.refl _ _⟩))
    · obtain ⟨g, rfl, _⟩ := own_placeY ho h0
      exact Lib.hid (reverse_any L b0 g n c1 w1 ho h0 hl)
  have HRV := Lib.hid RV
  clear RV
  go_enter Try.func33, Try.ntmps33
  go_wp2_with (first
    | (go_at_call 42; (with_reducible refine RW.out.mono ?_); rintro ex w2 ⟨rfl, ho2, hb2⟩; have HO2 := Lib.hid ho2; have HB2 := Lib.hid hb2; clear ho2 hb2)
    | (go_at_call 41; (with_reducible refine CC.out.mono ?_); rintro ex w1 ⟨v1, rfl, ho1, hb1⟩; have HB1 := Lib.hid hb1; obtain ⟨A1, c1, rfl, RW⟩ := HRV.out v1 w1 ho1; clear ho1 hb1))
  go_ret
  exact ⟨A1, c1, rfl, HO2.out, by have h := HB1.out.trans HB2.out; rw [HB0.out] at h ⊢; exact h⟩
end Go.Proofs.Ytgldjjmpjaegfaa
