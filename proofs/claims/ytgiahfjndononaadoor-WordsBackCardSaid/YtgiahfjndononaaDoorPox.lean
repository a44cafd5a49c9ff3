/- WordsBack: a policy is read as it was written. -/
import Derived.Test.YtgiahfjndononaaDoorPor
import Derived.Test.YtgiahfjndononaaDoorPow
import Derived.Test.YtgiahfjndononaaDoorSg
namespace Go.Proofs.YtgiahfjndononaaDoor
open Go.RowKit
set_option linter.unusedVariables false
set_option linter.unusedSimpArgs false
set_option maxRecDepth 100000

set_option maxHeartbeats 32000000 in
theorem back28 (t : Rt) (cs : List Value) (pA : Option Addr) (pad : List Int) (pn pc : Nat) (cut : Int) (W : World) (h : RdR W W.heap.size t cs) (hpn : pn = pad.length) (hrd : Rd W W.heap.size pA (pad.map (Value.int .i64))) (hpc : pn ≤ pc) (hpm : pc ≤ maxLen) (hcut : cut ≤ 9223372036854775807) (hT : Lib.TabIs Tryd.prog W "internal/strconv.uint64pow10" .u64 Lib.pow10Tab) :
    Calls Tryd.prog 4 #[.agg cs.toArray, .slice pA pn pc, .int .i64 cut] W fun e w' => e = .returned (.bool true) ∧ Below W.heap.size W w' := by
  have HT := Lib.hid hT
  have HAL := Lib.hid (fun V (hV : Below W.heap.size W V) => alive28_calls V (tab_below HT.out hV))
  have HFE := Lib.hid (fun V (hV : Below W.heap.size W V) => few13_any h V hV (Below.size hV))
  have HRR := Lib.hid (fun V (hV : Below W.heap.size W V) => refright_all h V hV (Below.size hV))
  have HPR := Lib.hid (fun V (hV : Below W.heap.size W V) => print_any h V hV (Below.size hV) (tab_below HT.out hV))
  have HSA := Lib.hid (fun (d : List Value) V V' (hV : Below W.heap.size W V) (hu : RdR V V.heap.size t d) (hV' : Below V.heap.size V V') => (refsame_rec hu t cs ((h.low hV).more (Below.size hV)) V' hV' (Below.size hV')).mono (fun e w' hh => (by obtain ⟨b, he, hb, hl⟩ := hh; exact ⟨by rw [he, hb.2 rfl], hl⟩ : e = .returned (.bool true) ∧ Below V'.heap.size V' w')))
  have HPN := Lib.hid hpn
  have HRD := Lib.hid hrd
  simp only [maxLen] at hpm
  obtain ⟨k, n, key, val, kids, kA, kc, htk, hck⟩ := h.inv
  subst hck
  generalize hm : kids.length = m at *
  have HTK := Lib.hid htk
  clear htk hm
  have HR0 := Lib.hid (heap_alloc_new W (.cells #[.int .i64 k, .int .i64 n, .string key, .string val, .slice kA m kc] 24))
  have HB0 := Lib.hid ((Below.refl W.heap.size W).alloc (Nat.le_refl _) (.cells #[.int .i64 k, .int .i64 n, .string key, .string val, .slice kA m kc] 24))
  clear h hT hpn hrd
  simp only [rcs] at *
  rcases (show few13 t = false ∨ (few13 t = true ∧ t.right = false) ∨ (few13 t = true ∧ t.right = true ∧ 20 < pn) ∨ (few13 t = true ∧ t.right = true ∧ ¬ 20 < pn ∧ cut < 0) ∨ (few13 t = true ∧ t.right = true ∧ ¬ 20 < pn ∧ ¬ cut < 0) from by
    cases few13 t <;> cases t.right <;> by_cases h1 : 20 < pn <;> by_cases h2 : cut < 0 <;> simp [h1, h2]) with hq | ⟨hq, hq2⟩ | ⟨hq, hq2, hq3⟩ | ⟨hq, hq2, hq3, hq4⟩ | ⟨hq, hq2, hq3, hq4⟩
  · rw [hq] at HFE
    clear hq
    go_enter Tryd.func4, Tryd.ntmps4
    go_wp2_with (first
      | (have hd2 := done2; clear done2; go_at_call 15; (with_reducible refine (HRR.out _ HB2.out).mono ?_); rintro e3 w3 ⟨rfl, hb3⟩; have HB3 := Lib.hid (HB2.out.trans (hb3.mono HB2.out.size)); have HR3 := Lib.hid ((hb3.block _ (in_heap HR2.out)).trans HR2.out); clear hb3; (try clear c0 c1 c2 c3 c4); have c0 : w3.cell? ⟨W.heap.size, 0, none⟩ = some (.int .i64 k) := cell_of_row _ _ 0 _ _ (0, 0) HR3.out; have c1 : w3.cell? ⟨W.heap.size, 1, none⟩ = some (.int .i64 n) := cell_of_row _ _ 1 _ _ (0, 0) HR3.out; have c2 : w3.cell? ⟨W.heap.size, 2, none⟩ = some (.string key) := cell_of_row _ _ 2 _ _ (0, 0) HR3.out; have c3 : w3.cell? ⟨W.heap.size, 3, none⟩ = some (.string val) := cell_of_row _ _ 3 _ _ (0, 0) HR3.out; have c4 : w3.cell? ⟨W.heap.size, 4, none⟩ = some (.slice kA m kc) := cell_of_row _ _ 4 _ _ (0, 0) HR3.out; have done3 := trivial)
      | (have hd1 := done1; clear done1; go_at_call 8; (with_reducible refine (HFE.out _ HB1.out).mono ?_); rintro e2 w2 ⟨rfl, hb2⟩; have HB2 := Lib.hid (HB1.out.trans (hb2.mono HB1.out.size)); have HR2 := Lib.hid ((hb2.block _ (in_heap HR1.out)).trans HR1.out); clear hb2; (try clear c0 c1 c2 c3 c4); have c0 : w2.cell? ⟨W.heap.size, 0, none⟩ = some (.int .i64 k) := cell_of_row _ _ 0 _ _ (0, 0) HR2.out; have c1 : w2.cell? ⟨W.heap.size, 1, none⟩ = some (.int .i64 n) := cell_of_row _ _ 1 _ _ (0, 0) HR2.out; have c2 : w2.cell? ⟨W.heap.size, 2, none⟩ = some (.string key) := cell_of_row _ _ 2 _ _ (0, 0) HR2.out; have c3 : w2.cell? ⟨W.heap.size, 3, none⟩ = some (.string val) := cell_of_row _ _ 3 _ _ (0, 0) HR2.out; have c4 : w2.cell? ⟨W.heap.size, 4, none⟩ = some (.slice kA m kc) := cell_of_row _ _ 4 _ _ (0, 0) HR2.out; have done2 := trivial)
      | (go_at_call 7; (with_reducible refine (HAL.out _ HB0.out).mono ?_); rintro e1 w1 ⟨rfl, hb1⟩; have HB1 := Lib.hid (HB0.out.trans (hb1.mono HB0.out.size)); have HR1 := Lib.hid ((hb1.block _ (in_heap HR0.out)).trans HR0.out); clear hb1; (try clear c0 c1 c2 c3 c4); have c0 : w1.cell? ⟨W.heap.size, 0, none⟩ = some (.int .i64 k) := cell_of_row _ _ 0 _ _ (0, 0) HR1.out; have c1 : w1.cell? ⟨W.heap.size, 1, none⟩ = some (.int .i64 n) := cell_of_row _ _ 1 _ _ (0, 0) HR1.out; have c2 : w1.cell? ⟨W.heap.size, 2, none⟩ = some (.string key) := cell_of_row _ _ 2 _ _ (0, 0) HR1.out; have c3 : w1.cell? ⟨W.heap.size, 3, none⟩ = some (.string val) := cell_of_row _ _ 3 _ _ (0, 0) HR1.out; have c4 : w1.cell? ⟨W.heap.size, 4, none⟩ = some (.slice kA m kc) := cell_of_row _ _ 4 _ _ (0, 0) HR1.out; have done1 := trivial))
    all_goals
      go_ret
    exact ⟨rfl, HB2.out⟩
  · rw [hq] at HFE
    rw [hq2] at HRR
    clear hq hq2
    go_enter Tryd.func4, Tryd.ntmps4
    go_wp2_with (first
      | (have hd2 := done2; clear done2; go_at_call 15; (with_reducible refine (HRR.out _ HB2.out).mono ?_); rintro e3 w3 ⟨rfl, hb3⟩; have HB3 := Lib.hid (HB2.out.trans (hb3.mono HB2.out.size)); have HR3 := Lib.hid ((hb3.block _ (in_heap HR2.out)).trans HR2.out); clear hb3; (try clear c0 c1 c2 c3 c4); have c0 : w3.cell? ⟨W.heap.size, 0, none⟩ = some (.int .i64 k) := cell_of_row _ _ 0 _ _ (0, 0) HR3.out; have c1 : w3.cell? ⟨W.heap.size, 1, none⟩ = some (.int .i64 n) := cell_of_row _ _ 1 _ _ (0, 0) HR3.out; have c2 : w3.cell? ⟨W.heap.size, 2, none⟩ = some (.string key) := cell_of_row _ _ 2 _ _ (0, 0) HR3.out; have c3 : w3.cell? ⟨W.heap.size, 3, none⟩ = some (.string val) := cell_of_row _ _ 3 _ _ (0, 0) HR3.out; have c4 : w3.cell? ⟨W.heap.size, 4, none⟩ = some (.slice kA m kc) := cell_of_row _ _ 4 _ _ (0, 0) HR3.out; have done3 := trivial)
      | (have hd1 := done1; clear done1; go_at_call 8; (with_reducible refine (HFE.out _ HB1.out).mono ?_); rintro e2 w2 ⟨rfl, hb2⟩; have HB2 := Lib.hid (HB1.out.trans (hb2.mono HB1.out.size)); have HR2 := Lib.hid ((hb2.block _ (in_heap HR1.out)).trans HR1.out); clear hb2; (try clear c0 c1 c2 c3 c4); have c0 : w2.cell? ⟨W.heap.size, 0, none⟩ = some (.int .i64 k) := cell_of_row _ _ 0 _ _ (0, 0) HR2.out; have c1 : w2.cell? ⟨W.heap.size, 1, none⟩ = some (.int .i64 n) := cell_of_row _ _ 1 _ _ (0, 0) HR2.out; have c2 : w2.cell? ⟨W.heap.size, 2, none⟩ = some (.string key) := cell_of_row _ _ 2 _ _ (0, 0) HR2.out; have c3 : w2.cell? ⟨W.heap.size, 3, none⟩ = some (.string val) := cell_of_row _ _ 3 _ _ (0, 0) HR2.out; have c4 : w2.cell? ⟨W.heap.size, 4, none⟩ = some (.slice kA m kc) := cell_of_row _ _ 4 _ _ (0, 0) HR2.out; have done2 := trivial)
      | (go_at_call 7; (with_reducible refine (HAL.out _ HB0.out).mono ?_); rintro e1 w1 ⟨rfl, hb1⟩; have HB1 := Lib.hid (HB0.out.trans (hb1.mono HB0.out.size)); have HR1 := Lib.hid ((hb1.block _ (in_heap HR0.out)).trans HR0.out); clear hb1; (try clear c0 c1 c2 c3 c4); have c0 : w1.cell? ⟨W.heap.size, 0, none⟩ = some (.int .i64 k) := cell_of_row _ _ 0 _ _ (0, 0) HR1.out; have c1 : w1.cell? ⟨W.heap.size, 1, none⟩ = some (.int .i64 n) := cell_of_row _ _ 1 _ _ (0, 0) HR1.out; have c2 : w1.cell? ⟨W.heap.size, 2, none⟩ = some (.string key) := cell_of_row _ _ 2 _ _ (0, 0) HR1.out; have c3 : w1.cell? ⟨W.heap.size, 3, none⟩ = some (.string val) := cell_of_row _ _ 3 _ _ (0, 0) HR1.out; have c4 : w1.cell? ⟨W.heap.size, 4, none⟩ = some (.slice kA m kc) := cell_of_row _ _ 4 _ _ (0, 0) HR1.out; have done1 := trivial))
    all_goals
      go_ret
    exact ⟨rfl, HB3.out⟩
  · rw [hq] at HFE
    rw [hq2] at HRR
    have d1 : decide (20 < (pn : Int)) = true := decide_eq_true (by omega)
    have d2 : decide (20 < pn) = true := decide_eq_true (by omega)
    clear hq hq2
    go_enter Tryd.func4, Tryd.ntmps4
    go_wp2_with (first
      | (have hd2 := done2; clear done2; go_at_call 15; (with_reducible refine (HRR.out _ HB2.out).mono ?_); rintro e3 w3 ⟨rfl, hb3⟩; have HB3 := Lib.hid (HB2.out.trans (hb3.mono HB2.out.size)); have HR3 := Lib.hid ((hb3.block _ (in_heap HR2.out)).trans HR2.out); clear hb3; (try clear c0 c1 c2 c3 c4); have c0 : w3.cell? ⟨W.heap.size, 0, none⟩ = some (.int .i64 k) := cell_of_row _ _ 0 _ _ (0, 0) HR3.out; have c1 : w3.cell? ⟨W.heap.size, 1, none⟩ = some (.int .i64 n) := cell_of_row _ _ 1 _ _ (0, 0) HR3.out; have c2 : w3.cell? ⟨W.heap.size, 2, none⟩ = some (.string key) := cell_of_row _ _ 2 _ _ (0, 0) HR3.out; have c3 : w3.cell? ⟨W.heap.size, 3, none⟩ = some (.string val) := cell_of_row _ _ 3 _ _ (0, 0) HR3.out; have c4 : w3.cell? ⟨W.heap.size, 4, none⟩ = some (.slice kA m kc) := cell_of_row _ _ 4 _ _ (0, 0) HR3.out; have done3 := trivial)
      | (have hd1 := done1; clear done1; go_at_call 8; (with_reducible refine (HFE.out _ HB1.out).mono ?_); rintro e2 w2 ⟨rfl, hb2⟩; have HB2 := Lib.hid (HB1.out.trans (hb2.mono HB1.out.size)); have HR2 := Lib.hid ((hb2.block _ (in_heap HR1.out)).trans HR1.out); clear hb2; (try clear c0 c1 c2 c3 c4); have c0 : w2.cell? ⟨W.heap.size, 0, none⟩ = some (.int .i64 k) := cell_of_row _ _ 0 _ _ (0, 0) HR2.out; have c1 : w2.cell? ⟨W.heap.size, 1, none⟩ = some (.int .i64 n) := cell_of_row _ _ 1 _ _ (0, 0) HR2.out; have c2 : w2.cell? ⟨W.heap.size, 2, none⟩ = some (.string key) := cell_of_row _ _ 2 _ _ (0, 0) HR2.out; have c3 : w2.cell? ⟨W.heap.size, 3, none⟩ = some (.string val) := cell_of_row _ _ 3 _ _ (0, 0) HR2.out; have c4 : w2.cell? ⟨W.heap.size, 4, none⟩ = some (.slice kA m kc) := cell_of_row _ _ 4 _ _ (0, 0) HR2.out; have done2 := trivial)
      | (go_at_call 7; (with_reducible refine (HAL.out _ HB0.out).mono ?_); rintro e1 w1 ⟨rfl, hb1⟩; have HB1 := Lib.hid (HB0.out.trans (hb1.mono HB0.out.size)); have HR1 := Lib.hid ((hb1.block _ (in_heap HR0.out)).trans HR0.out); clear hb1; (try clear c0 c1 c2 c3 c4); have c0 : w1.cell? ⟨W.heap.size, 0, none⟩ = some (.int .i64 k) := cell_of_row _ _ 0 _ _ (0, 0) HR1.out; have c1 : w1.cell? ⟨W.heap.size, 1, none⟩ = some (.int .i64 n) := cell_of_row _ _ 1 _ _ (0, 0) HR1.out; have c2 : w1.cell? ⟨W.heap.size, 2, none⟩ = some (.string key) := cell_of_row _ _ 2 _ _ (0, 0) HR1.out; have c3 : w1.cell? ⟨W.heap.size, 3, none⟩ = some (.string val) := cell_of_row _ _ 3 _ _ (0, 0) HR1.out; have c4 : w1.cell? ⟨W.heap.size, 4, none⟩ = some (.slice kA m kc) := cell_of_row _ _ 4 _ _ (0, 0) HR1.out; have done1 := trivial))
    all_goals
      go_ret
    exact ⟨rfl, HB3.out⟩
  · rw [hq] at HFE
    rw [hq2] at HRR
    have d1 : decide (20 < (pn : Int)) = false := decide_eq_false (by omega)
    have d2 : decide (20 < pn) = false := decide_eq_false (by omega)
    have d3 : decide (cut < 0) = true := decide_eq_true hq4
    clear hq hq2
    go_enter Tryd.func4, Tryd.ntmps4
    go_wp2_with (first
      | (have hd2 := done2; clear done2; go_at_call 15; (with_reducible refine (HRR.out _ HB2.out).mono ?_); rintro e3 w3 ⟨rfl, hb3⟩; have HB3 := Lib.hid (HB2.out.trans (hb3.mono HB2.out.size)); have HR3 := Lib.hid ((hb3.block _ (in_heap HR2.out)).trans HR2.out); clear hb3; (try clear c0 c1 c2 c3 c4); have c0 : w3.cell? ⟨W.heap.size, 0, none⟩ = some (.int .i64 k) := cell_of_row _ _ 0 _ _ (0, 0) HR3.out; have c1 : w3.cell? ⟨W.heap.size, 1, none⟩ = some (.int .i64 n) := cell_of_row _ _ 1 _ _ (0, 0) HR3.out; have c2 : w3.cell? ⟨W.heap.size, 2, none⟩ = some (.string key) := cell_of_row _ _ 2 _ _ (0, 0) HR3.out; have c3 : w3.cell? ⟨W.heap.size, 3, none⟩ = some (.string val) := cell_of_row _ _ 3 _ _ (0, 0) HR3.out; have c4 : w3.cell? ⟨W.heap.size, 4, none⟩ = some (.slice kA m kc) := cell_of_row _ _ 4 _ _ (0, 0) HR3.out; have done3 := trivial)
      | (have hd1 := done1; clear done1; go_at_call 8; (with_reducible refine (HFE.out _ HB1.out).mono ?_); rintro e2 w2 ⟨rfl, hb2⟩; have HB2 := Lib.hid (HB1.out.trans (hb2.mono HB1.out.size)); have HR2 := Lib.hid ((hb2.block _ (in_heap HR1.out)).trans HR1.out); clear hb2; (try clear c0 c1 c2 c3 c4); have c0 : w2.cell? ⟨W.heap.size, 0, none⟩ = some (.int .i64 k) := cell_of_row _ _ 0 _ _ (0, 0) HR2.out; have c1 : w2.cell? ⟨W.heap.size, 1, none⟩ = some (.int .i64 n) := cell_of_row _ _ 1 _ _ (0, 0) HR2.out; have c2 : w2.cell? ⟨W.heap.size, 2, none⟩ = some (.string key) := cell_of_row _ _ 2 _ _ (0, 0) HR2.out; have c3 : w2.cell? ⟨W.heap.size, 3, none⟩ = some (.string val) := cell_of_row _ _ 3 _ _ (0, 0) HR2.out; have c4 : w2.cell? ⟨W.heap.size, 4, none⟩ = some (.slice kA m kc) := cell_of_row _ _ 4 _ _ (0, 0) HR2.out; have done2 := trivial)
      | (go_at_call 7; (with_reducible refine (HAL.out _ HB0.out).mono ?_); rintro e1 w1 ⟨rfl, hb1⟩; have HB1 := Lib.hid (HB0.out.trans (hb1.mono HB0.out.size)); have HR1 := Lib.hid ((hb1.block _ (in_heap HR0.out)).trans HR0.out); clear hb1; (try clear c0 c1 c2 c3 c4); have c0 : w1.cell? ⟨W.heap.size, 0, none⟩ = some (.int .i64 k) := cell_of_row _ _ 0 _ _ (0, 0) HR1.out; have c1 : w1.cell? ⟨W.heap.size, 1, none⟩ = some (.int .i64 n) := cell_of_row _ _ 1 _ _ (0, 0) HR1.out; have c2 : w1.cell? ⟨W.heap.size, 2, none⟩ = some (.string key) := cell_of_row _ _ 2 _ _ (0, 0) HR1.out; have c3 : w1.cell? ⟨W.heap.size, 3, none⟩ = some (.string val) := cell_of_row _ _ 3 _ _ (0, 0) HR1.out; have c4 : w1.cell? ⟨W.heap.size, 4, none⟩ = some (.slice kA m kc) := cell_of_row _ _ 4 _ _ (0, 0) HR1.out; have done1 := trivial))
    all_goals
      go_ret
    exact ⟨rfl, HB3.out⟩
  · rw [hq] at HFE
    rw [hq2] at HRR
    rw [hq2, if_pos rfl] at HPR
    have HRI := Lib.hid hq2
    have d1 : decide (20 < (pn : Int)) = false := decide_eq_false (by omega)
    have d2 : decide (20 < pn) = false := decide_eq_false (by omega)
    have d3 : decide (cut < 0) = false := decide_eq_false hq4
    obtain ⟨cn, rfl⟩ : ∃ cn : Nat, cut = (cn : Int) := ⟨cut.toNat, by omega⟩
    obtain ⟨sS, hsS⟩ : ∃ s, S8 (Wm.shw t) = s := ⟨_, rfl⟩
    rw [hsS] at HPR
    have HSL : Hid (sS.data.toList = Wm.shw t) := Lib.hid (by rw [← hsS]; rfl)
    have hri := t.right_iff.1 hq2
    have hsm := shw_small t hri.2.2
    have hsn : sS.size = (Wm.shw t).length := by rw [← hsS, s8_len]
    have hpos : 0 < (Wm.shw t).length := by
      rw [Wm.shw_tail, List.length_append]
      have h1 := hri.2.2
      have h2 : 1 ≤ Wm.kd t ∧ Wm.kd t ≤ 9 := by
        obtain ⟨k, n, key, val, kids⟩ := t
        rw [Rt.all_mk, Bool.and_eq_true] at h1
        exact one_range h1.1
      have := List.length_pos_iff.2 (Wm.wd_ne (Wm.kd t).toNat (by omega) (by omega))
      omega
    obtain ⟨N, hN⟩ : ∃ N, sS.size = N := ⟨_, rfl⟩
    have HN := Lib.hid hN
    have HNL : Hid (N = (Wm.shw t).length) := Lib.hid (by rw [← hN, hsn])
    have hN1 : 0 < N := by omega
    have hN2 : N ≤ 1800 := by have := hri.2.1; omega
    have k1 : ((N : Int) == 0) = false := by rw [beq_eq_false_iff_ne]; omega
    have k2 : (N == 0) = false := by rw [beq_eq_false_iff_ne]; omega
    clear hq hq2 hsS hri hsm hsn hpos hq4
    go_enter Tryd.func4, Tryd.ntmps4
    go_wp2_with (first
      | (have hd3 := done3; clear done3; go_at_call 11; (with_reducible refine (HPR.out _ HB3.out).mono ?_); rintro e4 w4 ⟨rfl, hb4⟩; have HB4 := Lib.hid (HB3.out.trans (hb4.mono HB3.out.size)); have HR4 := Lib.hid ((hb4.block _ (in_heap HR3.out)).trans HR3.out); clear hb4; (try clear c0 c1 c2 c3 c4); have c0 : w4.cell? ⟨W.heap.size, 0, none⟩ = some (.int .i64 k) := cell_of_row _ _ 0 _ _ (0, 0) HR4.out; have c1 : w4.cell? ⟨W.heap.size, 1, none⟩ = some (.int .i64 n) := cell_of_row _ _ 1 _ _ (0, 0) HR4.out; have c2 : w4.cell? ⟨W.heap.size, 2, none⟩ = some (.string key) := cell_of_row _ _ 2 _ _ (0, 0) HR4.out; have c3 : w4.cell? ⟨W.heap.size, 3, none⟩ = some (.string val) := cell_of_row _ _ 3 _ _ (0, 0) HR4.out; have c4 : w4.cell? ⟨W.heap.size, 4, none⟩ = some (.slice kA m kc) := cell_of_row _ _ 4 _ _ (0, 0) HR4.out; have done4 := trivial)
      | (have hd2 := done2; clear done2; go_at_call 15; (with_reducible refine (HRR.out _ HB2.out).mono ?_); rintro e3 w3 ⟨rfl, hb3⟩; have HB3 := Lib.hid (HB2.out.trans (hb3.mono HB2.out.size)); have HR3 := Lib.hid ((hb3.block _ (in_heap HR2.out)).trans HR2.out); clear hb3; (try clear c0 c1 c2 c3 c4); have c0 : w3.cell? ⟨W.heap.size, 0, none⟩ = some (.int .i64 k) := cell_of_row _ _ 0 _ _ (0, 0) HR3.out; have c1 : w3.cell? ⟨W.heap.size, 1, none⟩ = some (.int .i64 n) := cell_of_row _ _ 1 _ _ (0, 0) HR3.out; have c2 : w3.cell? ⟨W.heap.size, 2, none⟩ = some (.string key) := cell_of_row _ _ 2 _ _ (0, 0) HR3.out; have c3 : w3.cell? ⟨W.heap.size, 3, none⟩ = some (.string val) := cell_of_row _ _ 3 _ _ (0, 0) HR3.out; have c4 : w3.cell? ⟨W.heap.size, 4, none⟩ = some (.slice kA m kc) := cell_of_row _ _ 4 _ _ (0, 0) HR3.out; have done3 := trivial)
      | (have hd1 := done1; clear done1; go_at_call 8; (with_reducible refine (HFE.out _ HB1.out).mono ?_); rintro e2 w2 ⟨rfl, hb2⟩; have HB2 := Lib.hid (HB1.out.trans (hb2.mono HB1.out.size)); have HR2 := Lib.hid ((hb2.block _ (in_heap HR1.out)).trans HR1.out); clear hb2; (try clear c0 c1 c2 c3 c4); have c0 : w2.cell? ⟨W.heap.size, 0, none⟩ = some (.int .i64 k) := cell_of_row _ _ 0 _ _ (0, 0) HR2.out; have c1 : w2.cell? ⟨W.heap.size, 1, none⟩ = some (.int .i64 n) := cell_of_row _ _ 1 _ _ (0, 0) HR2.out; have c2 : w2.cell? ⟨W.heap.size, 2, none⟩ = some (.string key) := cell_of_row _ _ 2 _ _ (0, 0) HR2.out; have c3 : w2.cell? ⟨W.heap.size, 3, none⟩ = some (.string val) := cell_of_row _ _ 3 _ _ (0, 0) HR2.out; have c4 : w2.cell? ⟨W.heap.size, 4, none⟩ = some (.slice kA m kc) := cell_of_row _ _ 4 _ _ (0, 0) HR2.out; have done2 := trivial)
      | (go_at_call 7; (with_reducible refine (HAL.out _ HB0.out).mono ?_); rintro e1 w1 ⟨rfl, hb1⟩; have HB1 := Lib.hid (HB0.out.trans (hb1.mono HB0.out.size)); have HR1 := Lib.hid ((hb1.block _ (in_heap HR0.out)).trans HR0.out); clear hb1; (try clear c0 c1 c2 c3 c4); have c0 : w1.cell? ⟨W.heap.size, 0, none⟩ = some (.int .i64 k) := cell_of_row _ _ 0 _ _ (0, 0) HR1.out; have c1 : w1.cell? ⟨W.heap.size, 1, none⟩ = some (.int .i64 n) := cell_of_row _ _ 1 _ _ (0, 0) HR1.out; have c2 : w1.cell? ⟨W.heap.size, 2, none⟩ = some (.string key) := cell_of_row _ _ 2 _ _ (0, 0) HR1.out; have c3 : w1.cell? ⟨W.heap.size, 3, none⟩ = some (.string val) := cell_of_row _ _ 3 _ _ (0, 0) HR1.out; have c4 : w1.cell? ⟨W.heap.size, 4, none⟩ = some (.slice kA m kc) := cell_of_row _ _ 4 _ _ (0, 0) HR1.out; have done1 := trivial))
    have HB4D := HB4
    go_loopw [9, 10, 11] (fun va vb x wr => ∃ (A B : List UInt8) (i : Nat), va = .string (S8 A) ∧ vb = .string (S8 B) ∧ x = .int .i64 (i : Int) ∧ i ≤ pn ∧ Hid (Wm.Bln A ∧ Wm.Bln B ∧ A.length + B.length = i) ∧ Hid (wr = w4)) (fun _ _ x _ => pn - (intOf x).toNat)
    case atStart => exact ⟨[], [], 0, rfl, rfl, rfl, by omega, Lib.hid ⟨Wm.bln_nil, Wm.bln_nil, rfl⟩, Lib.hid rfl⟩
    case round =>
      obtain ⟨A, B, i, rfl, rfl, rfl, hi, HAB, HWR⟩ := hrel
      have hwr := HWR.out
      subst hwr
      obtain ⟨sa, hsa⟩ : ∃ s, s = S8 A := ⟨_, rfl⟩
      obtain ⟨sb, hsb⟩ : ∃ s, s = S8 B := ⟨_, rfl⟩
      have hla : sa.size ≤ 20 := by rw [hsa, s8_len]; have := HAB.out.2.2; omega
      have hlb : sb.size ≤ 20 := by rw [hsb, s8_len]; have := HAB.out.2.2; omega
      rw [← hsa, ← hsb]
      have HSA2 := Lib.hid hsa
      have HSB2 := Lib.hid hsb
      clear hsa hsb
      by_cases hlt : i < pn
      · obtain ⟨z, hz⟩ : ∃ z, pad[i]? = some z := ⟨_, List.getElem?_eq_getElem (by rw [← HPN.out]; exact hlt)⟩
        obtain ⟨pa, hpa, hpb, hpc2⟩ := HRD.out (by have := HPN.out; simp; omega)
        subst hpa
        have hcz : wr.cell? (pa.add i) = some (.int .i64 z) := (HB4.out.cell (by rw [block_add]; exact hpb)).trans (hpc2 i _ (by rw [List.getElem?_map, hz]; rfl))
        have hadd1 : ∀ V, (Op.stringOp .add sa ⟨#[32]⟩).run Tryd.prog V = .ok (.string (S8 (A ++ [32]))) V := fun V => by
          rw [run_string_add_sum (P := Tryd.prog) V _ _ (by have : (⟨#[32]⟩ : ByteArray).size = 1 := rfl; omega), HSA2.out]
          congr 2
        have hadd2 : ∀ V, (Op.stringOp .add sb ⟨#[10]⟩).run Tryd.prog V = .ok (.string (S8 (B ++ [10]))) V := fun V => by
          rw [run_string_add_sum (P := Tryd.prog) V _ _ (by have : (⟨#[10]⟩ : ByteArray).size = 1 := rfl; omega), HSB2.out]
          congr 2
        clear hz hpc2 hla hlb
        go_wp2_with fail
        · go_roundw
          case rel => exact ⟨A ++ [32], B, i + 1, by first | rfl | trivial, by rw [HSB2.out], by go_num, by omega, Lib.hid ⟨Wm.bln_app HAB.out.1 (fun c hc => by rw [List.mem_singleton] at hc; rw [hc]; rfl), HAB.out.2.1, by have := HAB.out.2.2; rw [List.length_append, List.length_singleton]; omega⟩, Lib.hid (by first | trivial | rfl)⟩
          case measure => simp [intOf]; omega
        · go_roundw
          case rel => exact ⟨A, B ++ [10], i + 1, by rw [HSA2.out], by first | rfl | trivial, by go_num, by omega, Lib.hid ⟨HAB.out.1, Wm.bln_app HAB.out.2.1 (fun c hc => by rw [List.mem_singleton] at hc; rw [hc]; rfl), by have := HAB.out.2.2; rw [List.length_append, List.length_singleton]; omega⟩, Lib.hid (by first | trivial | rfl)⟩
          case measure => simp [intOf]; omega
      · obtain ⟨s1, hs1⟩ : ∃ s, s = sa ++ sS := ⟨_, rfl⟩
        obtain ⟨s2, hs2⟩ : ∃ s, s = s1 ++ sb := ⟨_, rfl⟩
        have hNN := HN.out
        have hsz1 : s1.size = sa.size + N := by rw [hs1, ByteArray.size_append, hNN]
        have hsz2 : s2.size = sa.size + N + sb.size := by rw [hs2, ByteArray.size_append, hsz1]
        have hadd1 : ∀ V, (Op.stringOp .add sa sS).run Tryd.prog V = .ok (.string s1) V := fun V => by
          rw [run_string_add_sum (P := Tryd.prog) V _ _ (by omega), hs1]
        have hadd2 : ∀ V, (Op.stringOp .add s1 sb).run Tryd.prog V = .ok (.string s2) V := fun V => by
          rw [run_string_add_sum (P := Tryd.prog) V _ _ (by omega), hs2]
        have hlist : s2.data.toList = A ++ (Wm.shw t ++ B) := by
          rw [hs2, hs1, HSA2.out, HSB2.out, ByteArray.data_append, ByteArray.data_append, Array.toList_append, Array.toList_append, HSL.out]
          simp [S8]
        have hans : Wm.ans s2.data.toList = (t, -1, 0) := by
          rw [hlist]
          refine Wm.ans_pad HRI.out HAB.out.1 HAB.out.2.1 ?_
          rw [← hlist, list_len s2 _ rfl]
          omega
        have HP1 := Lib.hid (fun V => parse_any s2 V (by omega))
        rw [hans] at HP1
        have d4 : decide (2000 < ((sa.size : Int) + (N : Int) + (sb.size : Int))) = false := decide_eq_false (by omega)
        have d5 : decide (2000 < sa.size + N + sb.size) = false := decide_eq_false (by omega)
        obtain ⟨c0', hc0'⟩ : ∃ q, q = cn % N := ⟨_, rfl⟩
        have hcm : c0' < N := by rw [hc0']; exact Nat.mod_lt _ hN1
        have hmi : (cn : Int) % (N : Int) = (c0' : Int) := by rw [hc0']; omega
        have hp2 : (sS.extract 0 c0').data.toList = (Wm.shw t).take c0' := by
          rw [ByteArray.data_extract]
          simp [HSL.out]
        have hp2s : (sS.extract 0 c0').size ≤ 800000 := by rw [← list_len _ _ rfl, hp2, List.length_take]; have := HNL.out; omega
        have hcut := Wm.ans_cut (x := (Wm.shw t).drop c0') (p := (Wm.shw t).take c0') HRI.out (List.take_append_drop _ _) (by
          intro e
          have h1 := congrArg List.length e
          rw [List.length_drop] at h1
          have := HNL.out
          simp at h1
          omega) (by rw [List.length_take]; omega)
        have HP2 := Lib.hid (fun V => parse_any (sS.extract 0 c0') V hp2s)
        rw [hp2] at HP2
        have hlt0 : ((Wm.shw t).take c0').length = c0' := by rw [List.length_take]; have := HNL.out; omega
        rw [hlt0] at hcut
        generalize Wm.ans ((Wm.shw t).take c0') = an2 at *
        obtain ⟨t2, a2, e2⟩ := an2
        have HCUT := Lib.hid hcut
        have HMI := Lib.hid hmi
        clear hs1 hs2 hlist hans hcut hp2 hp2s hlt0 hc0' hsz1 hsz2
        go_upto_region 16 with (go_at_call 9; (with_reducible refine (HP1.out _).mono ?_); rintro e5 w5 ⟨cs5, rfl, hrd5, hb5⟩; have HRD5 := Lib.hid hrd5; obtain ⟨k5, n5, y5, v5, A5, m5, q5, rfl⟩ := hrd5.inv; have HB5 := Lib.hid hb5; clear hrd5 hb5; simp only [rcs])
        have hb57 : Below w5.heap.size w5 (w5.alloc (.cells #[.int .i64 k5, .int .i64 n5, .string y5, .string v5, .slice A5 m5 q5] 24)) := (Below.refl _ _).alloc (Nat.le_refl _) _
        have HX12 := Lib.hid (heap_alloc_new w5 (.cells #[.int .i64 k5, .int .i64 n5, .string y5, .string v5, .slice A5 m5 q5] 24))
        have HB7 := Lib.hid (HB4.out.trans ((HB5.out.trans (hb57.mono HB5.out.size)).mono HB4.out.size))
        have HR7 := Lib.hid ((hb57.block _ (Nat.lt_of_lt_of_le (in_heap HR4.out) HB5.out.size)).trans ((HB5.out.block _ (in_heap HR4.out)).trans HR4.out))
        have HRD7 := Lib.hid (HRD5.out.heap fun b hb => hb57.block b hb.2)
        have HZ5 := Lib.hid (show w5.heap.size < (w5.alloc (.cells #[.int .i64 k5, .int .i64 n5, .string y5, .string v5, .slice A5 m5 q5] 24)).heap.size from by simp)
        replace HRD7 : Hid (RdP (w5.alloc (.cells #[.int .i64 k5, .int .i64 n5, .string y5, .string v5, .slice A5 m5 q5] 24)) (fun b => wr.heap.size ≤ b ∧ b < (w5.alloc (.cells #[.int .i64 k5, .int .i64 n5, .string y5, .string v5, .slice A5 m5 q5] 24)).heap.size) t (rcs k5 n5 y5 v5 A5 m5 q5)) := Lib.hid (HRD7.out.imp fun b hb => ⟨hb.1, Nat.lt_trans hb.2 HZ5.out⟩)
        generalize w5.alloc (.cells #[.int .i64 k5, .int .i64 n5, .string y5, .string v5, .slice A5 m5 q5] 24) = w7 at *
        generalize hz5 : w5.heap.size = z5 at *
        obtain ⟨d0, hd0⟩ : ∃ d, (Wm.shw t)[N - 1]? = some d := ⟨_, List.getElem?_eq_getElem (by have := HNL.out; omega)⟩
        have hbyte : ∀ V, (Instr.index 9 (.string sS) (.int .i64 ((N : Int) - 1))).run Tryd.prog V = .ok (.int .u8 (d0.toNat : Int)) V := fun V => by
          have h1 := run_byte (T := 9) Tryd.underlying9 (show sS.data.toList[N - 1]? = some d0 from by rw [HSL.out]; exact hd0) V
          rw [show ((N - 1 : Nat) : Int) = (N : Int) - 1 from by omega] at h1
          exact h1
        have HDG : Hid (Wm.numk t → Wm.digt d0 = true) := Lib.hid (fun hn => by
          obtain ⟨y, d, hy, hd⟩ := Wm.num_last hn
          have h1 := HNL.out
          rw [hy] at hd0 h1
          have h2 : N - 1 = y.length := by simp at h1; omega
          rw [h2] at hd0
          simp at hd0
          rw [← hd0]
          exact hd)
        have hmi := HMI.out
        clear hd0 hb57 hz5 c0 c1 c2 c3 c4
        rcases HCUT.out with ⟨z, hz1, hz2⟩ | ⟨hn, hz1⟩
        · injection hz1 with e1 e2
          injection e2 with e2 e3
          subst e1 e2 e3
          have f1 : decide (0 ≤ (z : Int)) = true := decide_eq_true (by omega)
          have f2 : decide ((z : Int) ≤ (c0' : Int)) = true := decide_eq_true (by omega)
          have f3 : decide (z ≤ c0') = true := decide_eq_true hz2
          clear hz2
          generalize (d0.toNat : Int) = dz at *
          rcases (show decide (48 ≤ dz) = false ∨ (decide (48 ≤ dz) = true ∧ decide (dz ≤ 57) = false) ∨ (decide (48 ≤ dz) = true ∧ decide (dz ≤ 57) = true) from by cases decide (48 ≤ dz) <;> cases decide (dz ≤ 57) <;> simp) with g1 | ⟨g1, g2⟩ | ⟨g1, g2⟩
          · go_upto_region 17 with (go_at_call 9; (with_reducible refine (HP2.out _).mono ?_); rintro e8 w8 ⟨cs8, rfl, hrd8, hb8⟩; obtain ⟨k8, n8, y8, v8, A8, m8, q8, rfl⟩ := hrd8.inv; have HB8 := Lib.hid hb8; clear hrd8 hb8; simp only [rcs])
            have hb9 : Below w7.heap.size w7 (w8.alloc (.cells #[.int .i64 k8, .int .i64 n8, .string y8, .string v8, .slice A8 m8 q8] 24)) := HB8.out.trans ((Below.refl _ _).alloc HB8.out.size _)
            have hzz9 : w8.heap.size + 1 = (w8.alloc (.cells #[.int .i64 k8, .int .i64 n8, .string y8, .string v8, .slice A8 m8 q8] 24)).heap.size := by simp
            generalize w8.alloc (.cells #[.int .i64 k8, .int .i64 n8, .string y8, .string v8, .slice A8 m8 q8] 24) = w9 at *
            have HX9 := Lib.hid ((hb9.block _ (in_heap HX12.out)).trans HX12.out)
            have HR9 := Lib.hid ((hb9.block _ (in_heap HR7.out)).trans HR7.out)
            have HB9 := Lib.hid (HB7.out.trans (hb9.mono HB7.out.size))
            have HXR := Lib.hid (((HRD7.out.heap fun b hb => hb9.block b hb.2).toR (B := w9.heap.size) (fun b hb => Nat.lt_of_lt_of_le hb.2 hb9.size)))
            have HSM := Lib.hid (HSA.out _ w9 w9 HB9.out HXR.out (Below.refl _ _))
            simp only [rcs] at HSM
            have c0 : w9.cell? ⟨W.heap.size, 0, none⟩ = some (.int .i64 k) := cell_of_row _ _ 0 _ _ (0, 0) HR9.out; have c1 : w9.cell? ⟨W.heap.size, 1, none⟩ = some (.int .i64 n) := cell_of_row _ _ 1 _ _ (0, 0) HR9.out; have c2 : w9.cell? ⟨W.heap.size, 2, none⟩ = some (.string key) := cell_of_row _ _ 2 _ _ (0, 0) HR9.out; have c3 : w9.cell? ⟨W.heap.size, 3, none⟩ = some (.string val) := cell_of_row _ _ 3 _ _ (0, 0) HR9.out; have c4 : w9.cell? ⟨W.heap.size, 4, none⟩ = some (.slice kA m kc) := cell_of_row _ _ 4 _ _ (0, 0) HR9.out; have x0 : w9.cell? ⟨z5, 0, none⟩ = some (.int .i64 k5) := cell_of_row _ _ 0 _ _ (0, 0) HX9.out; have x1 : w9.cell? ⟨z5, 1, none⟩ = some (.int .i64 n5) := cell_of_row _ _ 1 _ _ (0, 0) HX9.out; have x2 : w9.cell? ⟨z5, 2, none⟩ = some (.string y5) := cell_of_row _ _ 2 _ _ (0, 0) HX9.out; have x3 : w9.cell? ⟨z5, 3, none⟩ = some (.string v5) := cell_of_row _ _ 3 _ _ (0, 0) HX9.out; have x4 : w9.cell? ⟨z5, 4, none⟩ = some (.slice A5 m5 q5) := cell_of_row _ _ 4 _ _ (0, 0) HX9.out; clear hb9 hzz9
            go_wp2_with (first
              | (go_at_call 13; (with_reducible refine HSM.out.mono ?_); rintro eA wA ⟨rfl, hbA⟩; have HBA := Lib.hid hbA; clear hbA)
              | (go_at_call 14; (with_reducible refine (num28 _ _).mono ?_); rintro eN wN ⟨rfl, hwN⟩; subst hwN))
            all_goals
              go_ret
              exact ⟨rfl, HB9.out.trans (HBA.out.mono HB9.out.size)⟩
          · go_upto_region 17 with (go_at_call 9; (with_reducible refine (HP2.out _).mono ?_); rintro e8 w8 ⟨cs8, rfl, hrd8, hb8⟩; obtain ⟨k8, n8, y8, v8, A8, m8, q8, rfl⟩ := hrd8.inv; have HB8 := Lib.hid hb8; clear hrd8 hb8; simp only [rcs])
            have hb9 : Below w7.heap.size w7 (w8.alloc (.cells #[.int .i64 k8, .int .i64 n8, .string y8, .string v8, .slice A8 m8 q8] 24)) := HB8.out.trans ((Below.refl _ _).alloc HB8.out.size _)
            have hzz9 : w8.heap.size + 1 = (w8.alloc (.cells #[.int .i64 k8, .int .i64 n8, .string y8, .string v8, .slice A8 m8 q8] 24)).heap.size := by simp
            generalize w8.alloc (.cells #[.int .i64 k8, .int .i64 n8, .string y8, .string v8, .slice A8 m8 q8] 24) = w9 at *
            have HX9 := Lib.hid ((hb9.block _ (in_heap HX12.out)).trans HX12.out)
            have HR9 := Lib.hid ((hb9.block _ (in_heap HR7.out)).trans HR7.out)
            have HB9 := Lib.hid (HB7.out.trans (hb9.mono HB7.out.size))
            have HXR := Lib.hid (((HRD7.out.heap fun b hb => hb9.block b hb.2).toR (B := w9.heap.size) (fun b hb => Nat.lt_of_lt_of_le hb.2 hb9.size)))
            have HSM := Lib.hid (HSA.out _ w9 w9 HB9.out HXR.out (Below.refl _ _))
            simp only [rcs] at HSM
            have c0 : w9.cell? ⟨W.heap.size, 0, none⟩ = some (.int .i64 k) := cell_of_row _ _ 0 _ _ (0, 0) HR9.out; have c1 : w9.cell? ⟨W.heap.size, 1, none⟩ = some (.int .i64 n) := cell_of_row _ _ 1 _ _ (0, 0) HR9.out; have c2 : w9.cell? ⟨W.heap.size, 2, none⟩ = some (.string key) := cell_of_row _ _ 2 _ _ (0, 0) HR9.out; have c3 : w9.cell? ⟨W.heap.size, 3, none⟩ = some (.string val) := cell_of_row _ _ 3 _ _ (0, 0) HR9.out; have c4 : w9.cell? ⟨W.heap.size, 4, none⟩ = some (.slice kA m kc) := cell_of_row _ _ 4 _ _ (0, 0) HR9.out; have x0 : w9.cell? ⟨z5, 0, none⟩ = some (.int .i64 k5) := cell_of_row _ _ 0 _ _ (0, 0) HX9.out; have x1 : w9.cell? ⟨z5, 1, none⟩ = some (.int .i64 n5) := cell_of_row _ _ 1 _ _ (0, 0) HX9.out; have x2 : w9.cell? ⟨z5, 2, none⟩ = some (.string y5) := cell_of_row _ _ 2 _ _ (0, 0) HX9.out; have x3 : w9.cell? ⟨z5, 3, none⟩ = some (.string v5) := cell_of_row _ _ 3 _ _ (0, 0) HX9.out; have x4 : w9.cell? ⟨z5, 4, none⟩ = some (.slice A5 m5 q5) := cell_of_row _ _ 4 _ _ (0, 0) HX9.out; clear hb9 hzz9
            go_wp2_with (first
              | (go_at_call 13; (with_reducible refine HSM.out.mono ?_); rintro eA wA ⟨rfl, hbA⟩; have HBA := Lib.hid hbA; clear hbA)
              | (go_at_call 14; (with_reducible refine (num28 _ _).mono ?_); rintro eN wN ⟨rfl, hwN⟩; subst hwN))
            all_goals
              go_ret
              exact ⟨rfl, HB9.out.trans (HBA.out.mono HB9.out.size)⟩
          · go_upto_region 17 with (go_at_call 9; (with_reducible refine (HP2.out _).mono ?_); rintro e8 w8 ⟨cs8, rfl, hrd8, hb8⟩; obtain ⟨k8, n8, y8, v8, A8, m8, q8, rfl⟩ := hrd8.inv; have HB8 := Lib.hid hb8; clear hrd8 hb8; simp only [rcs])
            have hb9 : Below w7.heap.size w7 (w8.alloc (.cells #[.int .i64 k8, .int .i64 n8, .string y8, .string v8, .slice A8 m8 q8] 24)) := HB8.out.trans ((Below.refl _ _).alloc HB8.out.size _)
            have hzz9 : w8.heap.size + 1 = (w8.alloc (.cells #[.int .i64 k8, .int .i64 n8, .string y8, .string v8, .slice A8 m8 q8] 24)).heap.size := by simp
            generalize w8.alloc (.cells #[.int .i64 k8, .int .i64 n8, .string y8, .string v8, .slice A8 m8 q8] 24) = w9 at *
            have HX9 := Lib.hid ((hb9.block _ (in_heap HX12.out)).trans HX12.out)
            have HR9 := Lib.hid ((hb9.block _ (in_heap HR7.out)).trans HR7.out)
            have HB9 := Lib.hid (HB7.out.trans (hb9.mono HB7.out.size))
            have HXR := Lib.hid (((HRD7.out.heap fun b hb => hb9.block b hb.2).toR (B := w9.heap.size) (fun b hb => Nat.lt_of_lt_of_le hb.2 hb9.size)))
            have HSM := Lib.hid (HSA.out _ w9 w9 HB9.out HXR.out (Below.refl _ _))
            simp only [rcs] at HSM
            have c0 : w9.cell? ⟨W.heap.size, 0, none⟩ = some (.int .i64 k) := cell_of_row _ _ 0 _ _ (0, 0) HR9.out; have c1 : w9.cell? ⟨W.heap.size, 1, none⟩ = some (.int .i64 n) := cell_of_row _ _ 1 _ _ (0, 0) HR9.out; have c2 : w9.cell? ⟨W.heap.size, 2, none⟩ = some (.string key) := cell_of_row _ _ 2 _ _ (0, 0) HR9.out; have c3 : w9.cell? ⟨W.heap.size, 3, none⟩ = some (.string val) := cell_of_row _ _ 3 _ _ (0, 0) HR9.out; have c4 : w9.cell? ⟨W.heap.size, 4, none⟩ = some (.slice kA m kc) := cell_of_row _ _ 4 _ _ (0, 0) HR9.out; have x0 : w9.cell? ⟨z5, 0, none⟩ = some (.int .i64 k5) := cell_of_row _ _ 0 _ _ (0, 0) HX9.out; have x1 : w9.cell? ⟨z5, 1, none⟩ = some (.int .i64 n5) := cell_of_row _ _ 1 _ _ (0, 0) HX9.out; have x2 : w9.cell? ⟨z5, 2, none⟩ = some (.string y5) := cell_of_row _ _ 2 _ _ (0, 0) HX9.out; have x3 : w9.cell? ⟨z5, 3, none⟩ = some (.string v5) := cell_of_row _ _ 3 _ _ (0, 0) HX9.out; have x4 : w9.cell? ⟨z5, 4, none⟩ = some (.slice A5 m5 q5) := cell_of_row _ _ 4 _ _ (0, 0) HX9.out; clear hb9 hzz9
            go_wp2_with (first
              | (go_at_call 13; (with_reducible refine HSM.out.mono ?_); rintro eA wA ⟨rfl, hbA⟩; have HBA := Lib.hid hbA; clear hbA)
              | (go_at_call 14; (with_reducible refine (num28 _ _).mono ?_); rintro eN wN ⟨rfl, hwN⟩; subst hwN))
            all_goals
              go_ret
              exact ⟨rfl, HB9.out.trans (HBA.out.mono HB9.out.size)⟩
        · have hdg := HDG.out hn
          have hz1 : e2 = 0 := hz1
          subst hz1
          unfold Wm.digt at hdg
          simp only [Bool.and_eq_true, decide_eq_true_eq] at hdg
          have g1 : decide (48 ≤ (d0.toNat : Int)) = true := decide_eq_true (by omega)
          have g2 : decide ((d0.toNat : Int) ≤ 57) = true := decide_eq_true (by omega)
          generalize (d0.toNat : Int) = dz at *
          clear hdg hn
          go_upto_region 17 with (go_at_call 9; (with_reducible refine (HP2.out _).mono ?_); rintro e8 w8 ⟨cs8, rfl, hrd8, hb8⟩; obtain ⟨k8, n8, y8, v8, A8, m8, q8, rfl⟩ := hrd8.inv; have HB8 := Lib.hid hb8; clear hrd8 hb8; simp only [rcs])
          have hb9 : Below w7.heap.size w7 (w8.alloc (.cells #[.int .i64 k8, .int .i64 n8, .string y8, .string v8, .slice A8 m8 q8] 24)) := HB8.out.trans ((Below.refl _ _).alloc HB8.out.size _)
          have hzz9 : w8.heap.size + 1 = (w8.alloc (.cells #[.int .i64 k8, .int .i64 n8, .string y8, .string v8, .slice A8 m8 q8] 24)).heap.size := by simp
          generalize w8.alloc (.cells #[.int .i64 k8, .int .i64 n8, .string y8, .string v8, .slice A8 m8 q8] 24) = w9 at *
          have HX9 := Lib.hid ((hb9.block _ (in_heap HX12.out)).trans HX12.out)
          have HR9 := Lib.hid ((hb9.block _ (in_heap HR7.out)).trans HR7.out)
          have HB9 := Lib.hid (HB7.out.trans (hb9.mono HB7.out.size))
          have HXR := Lib.hid (((HRD7.out.heap fun b hb => hb9.block b hb.2).toR (B := w9.heap.size) (fun b hb => Nat.lt_of_lt_of_le hb.2 hb9.size)))
          have HSM := Lib.hid (HSA.out _ w9 w9 HB9.out HXR.out (Below.refl _ _))
          simp only [rcs] at HSM
          have c0 : w9.cell? ⟨W.heap.size, 0, none⟩ = some (.int .i64 k) := cell_of_row _ _ 0 _ _ (0, 0) HR9.out; have c1 : w9.cell? ⟨W.heap.size, 1, none⟩ = some (.int .i64 n) := cell_of_row _ _ 1 _ _ (0, 0) HR9.out; have c2 : w9.cell? ⟨W.heap.size, 2, none⟩ = some (.string key) := cell_of_row _ _ 2 _ _ (0, 0) HR9.out; have c3 : w9.cell? ⟨W.heap.size, 3, none⟩ = some (.string val) := cell_of_row _ _ 3 _ _ (0, 0) HR9.out; have c4 : w9.cell? ⟨W.heap.size, 4, none⟩ = some (.slice kA m kc) := cell_of_row _ _ 4 _ _ (0, 0) HR9.out; have x0 : w9.cell? ⟨z5, 0, none⟩ = some (.int .i64 k5) := cell_of_row _ _ 0 _ _ (0, 0) HX9.out; have x1 : w9.cell? ⟨z5, 1, none⟩ = some (.int .i64 n5) := cell_of_row _ _ 1 _ _ (0, 0) HX9.out; have x2 : w9.cell? ⟨z5, 2, none⟩ = some (.string y5) := cell_of_row _ _ 2 _ _ (0, 0) HX9.out; have x3 : w9.cell? ⟨z5, 3, none⟩ = some (.string v5) := cell_of_row _ _ 3 _ _ (0, 0) HX9.out; have x4 : w9.cell? ⟨z5, 4, none⟩ = some (.slice A5 m5 q5) := cell_of_row _ _ 4 _ _ (0, 0) HX9.out; clear hb9 hzz9
          go_wp2_with (first
            | (go_at_call 13; (with_reducible refine HSM.out.mono ?_); rintro eA wA ⟨rfl, hbA⟩; have HBA := Lib.hid hbA; clear hbA)
            | (go_at_call 14; (with_reducible refine (num28 _ _).mono ?_); rintro eN wN ⟨rfl, hwN⟩; subst hwN))
          all_goals
            go_ret
            exact ⟨rfl, HB9.out.trans (HBA.out.mono HB9.out.size)⟩
end Go.Proofs.YtgiahfjndononaaDoor
