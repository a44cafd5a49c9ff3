/- WordsBlank: blanks between the tokens of a policy without attributes turn nothing. -/
import Derived.Test.YtgiahfjndononaaDoorPor
import Derived.Test.YtgiahfjndononaaDoorPoy
import Derived.Test.YtgiahfjndononaaDoorPow
import Derived.Test.YtgiahfjndononaaDoorSg
namespace Go.Proofs.YtgiahfjndononaaDoor
open Go.RowKit
set_option linter.unusedVariables false
set_option linter.unusedSimpArgs false
set_option maxRecDepth 100000

namespace Wm
/-- Blanks have been laid between. -/
def Sp28 (l T : List UInt8) : Prop := ∃ h, Gap h ∧ T = spc h 0 l
theorem spc_ext {h h' : Nat → UInt8 → List UInt8} : ∀ (l : List UInt8) (i : Nat), (∀ j, i ≤ j → j < i + l.length → h j = h' j) → spc h i l = spc h' i l
  | [], i, _ => rfl
  | c :: l, i, hj => by
    rw [spc, spc, hj i (Nat.le_refl _) (by simp), spc_ext l (i + 1) (fun j h1 h2 => hj j (by omega) (by simp only [List.length_cons]; omega))]
theorem sp_nil : Sp28 [] [] := ⟨fun _ c => [c], id_gap, rfl⟩
theorem sp_step {l T P : List UInt8} {c : UInt8} (hs : Sp28 l T) (h1 : sgn c = false → c ≠ 32 → P = [c]) (h2 : sgn c = true → ∃ a b, Bln a ∧ Bln b ∧ P = a ++ c :: b) (h3 : c = 32 → ∃ b, Bln b ∧ P = 32 :: b) : Sp28 (l ++ [c]) (T ++ P) := by
  obtain ⟨h, g, rfl⟩ := hs
  refine ⟨fun i d => if i = l.length then (if d = c then P else [d]) else h i d, ⟨fun i d hd hd2 => ?_, fun i d hd => ?_, fun i => ?_⟩, ?_⟩
  · by_cases hi : i = l.length
    · rw [if_pos hi]
      by_cases hc : d = c
      · rw [if_pos hc, hc]; rw [hc] at hd hd2; exact h1 hd hd2
      · rw [if_neg hc]
    · rw [if_neg hi]; exact g.other i d hd hd2
  · by_cases hi : i = l.length
    · rw [if_pos hi]
      by_cases hc : d = c
      · rw [if_pos hc, hc]; rw [hc] at hd; exact h2 hd
      · rw [if_neg hc]; exact ⟨[], [], bln_nil, bln_nil, rfl⟩
    · rw [if_neg hi]; exact g.sign i d hd
  · by_cases hi : i = l.length
    · rw [if_pos hi]
      by_cases hc : (32 : UInt8) = c
      · rw [if_pos hc]; exact h3 hc.symm
      · rw [if_neg hc]; exact ⟨[], bln_nil, rfl⟩
    · rw [if_neg hi]; exact g.space i
  · rw [spc_app, Nat.zero_add]
    congr 1
    · refine spc_ext l 0 (fun j _ hj => ?_)
      funext d
      rw [if_neg (by omega)]
    · simp [spc]
mutual
theorem noAt_of : (t : Rt) → t.all = true → (34 : UInt8) ∉ shw t → noAt t = true
  | .mk k n key val kids, ha, hn => by
    rw [Rt.all_mk, Bool.and_eq_true] at ha
    have hr := one_range ha.1
    obtain ⟨o5, o6, o1, o3, on⟩ := one_kids ha.1
    rw [shw_mk] at hn
    rw [noAt]
    by_cases h6 : (k == 6) = true
    · exfalso
      have e6 := eq_of_beq h6
      subst e6
      apply hn
      rw [if_neg (by decide), if_pos (by decide)]
      simp [quo]
    · have hkn : noAtL kids = true := by
        by_cases h7 : (k == 1 || k == 2 || k == 3) = true
        · have h5 : ¬ (k == 5) = true := by intro e; have := eq_of_beq e; subst this; simp at h7
          rw [if_neg h5, if_neg h6, if_pos h7] at hn
          have hn2 : (34 : UInt8) ∉ shwL kids := fun e => hn (by simp [e])
          cases kids with
          | nil => rfl
          | cons r l =>
            rw [allL, Bool.and_eq_true] at ha
            rw [shwL_cons] at hn2
            rw [noAtL, Bool.and_eq_true]
            exact ⟨noAt_of r ha.2.1 (fun e => hn2 (by simp [e])), noAtL_of l ha.2.2 (fun e => hn2 (by simp [e]))⟩
        · have hk0 : kids = [] := by
            simp at h7 h6
            rcases (show k = 5 ∨ (k = 4 ∨ k = 7 ∨ k = 8 ∨ k = 9) from by omega) with e | e
            · exact List.length_eq_zero_iff.1 (o5 e).2.2.2
            · exact List.length_eq_zero_iff.1 (on e).2.2.1
          subst hk0
          rfl
      simp at h6
      simp [h6, hkn]
theorem noAtL_of : (l : List Rt) → allL l = true → (34 : UInt8) ∉ shwT l → noAtL l = true
  | [], _, _ => rfl
  | r :: l, ha, hn => by
    rw [allL, Bool.and_eq_true] at ha
    rw [shwT_cons] at hn
    rw [noAtL, Bool.and_eq_true]
    exact ⟨noAt_of r ha.1 (fun e => hn (by simp [e])), noAtL_of l ha.2 (fun e => hn (by simp [e]))⟩
end
end Wm
set_option maxHeartbeats 32000000 in
theorem blank28 (t : Rt) (cs : List Value) (pA : Option Addr) (pad : List Int) (pn pc : Nat) (W : World) (h : RdR W W.heap.size t cs) (hpn : pn = pad.length) (hrd : Rd W W.heap.size pA (pad.map (Value.int .i64))) (hpc : pn ≤ pc) (hpm : pc ≤ maxLen) (hT : Lib.TabIs Tryd.prog W "internal/strconv.uint64pow10" .u64 Lib.pow10Tab) :
    Calls Tryd.prog 6 #[.agg cs.toArray, .slice pA pn pc] W fun e w' => e = .returned (.bool true) ∧ Below W.heap.size W w' := by
  have HT := Lib.hid hT
  have HAL := Lib.hid (fun V (hV : Below W.heap.size W V) => alive28_calls V (tab_below HT.out hV))
  have HFE := Lib.hid (fun V (hV : Below W.heap.size W V) => few13_any h V hV (Below.size hV))
  have HPR := Lib.hid (fun V (hV : Below W.heap.size W V) => dprint_any h V hV (Below.size hV))
  have HSA := Lib.hid (fun (d : List Value) V V' (hV : Below W.heap.size W V) (hu : RdR V V.heap.size t d) (hV' : Below V.heap.size V V') => (refsame_rec hu t cs ((h.low hV).more (Below.size hV)) V' hV' (Below.size hV')).mono (fun e w' hh => (by obtain ⟨b, he, hb, hl⟩ := hh; exact ⟨by rw [he, hb.2 rfl], hl⟩ : e = .returned (.bool true) ∧ Below V'.heap.size V' w')))
  have HPN := Lib.hid hpn
  have HRD := Lib.hid hrd
  simp only [maxLen] at hpm
  obtain ⟨k, n, key, val, kids, kA, kc, htk, hck⟩ := h.inv
  subst hck
  generalize hm : kids.length = m at *
  have HTK := Lib.hid htk
  clear htk hm
  have HR0 := Lib.hid (heap_alloc_new W (.cells #[.int .i64 k, .int .i64 n, .string key, .string val, .slice kA m kc] 24))
  have HB0 := Lib.hid ((Below.refl W.heap.size W).alloc (Nat.le_refl _) (.cells #[.int .i64 k, .int .i64 n, .string key, .string val, .slice kA m kc] 24))
  clear h hT hpn hrd
  simp only [rcs] at *
  obtain ⟨sS, hsS⟩ : ∃ s, S8 (if t.right = true then Wm.shw t else []) = s := ⟨_, rfl⟩
  rw [hsS] at HPR
  obtain ⟨N, hN⟩ : ∃ N, sS.size = N := ⟨_, rfl⟩
  rcases (show few13 t = false ∨ (few13 t = true ∧ N = 0) ∨ (few13 t = true ∧ 0 < N ∧ pn < N) ∨ (few13 t = true ∧ 0 < N ∧ ¬ pn < N) from by
    cases few13 t <;> by_cases h1 : pn < N <;> rcases Nat.eq_zero_or_pos N with h2 | h2 <;> simp [h1, h2] <;> omega) with hq | ⟨hq, hq2⟩ | ⟨hq, hq2, hq3⟩ | ⟨hq, hq2, hq3⟩
  · rw [hq] at HFE
    clear hq hsS hN
    go_enter Tryd.func6, Tryd.ntmps6
    go_wp2_with (first
      | (have hd2 := done2; clear done2; go_at_call 8; (with_reducible refine (HFE.out _ HB2.out).mono ?_); rintro e3 w3 ⟨rfl, hb3⟩; have HB3 := Lib.hid (HB2.out.trans (hb3.mono HB2.out.size)); have HR3 := Lib.hid ((hb3.block _ (in_heap HR2.out)).trans HR2.out); clear hb3; (try clear c0 c1 c2 c3 c4); have c0 : w3.cell? ⟨W.heap.size, 0, none⟩ = some (.int .i64 k) := cell_of_row _ _ 0 _ _ (0, 0) HR3.out; have c1 : w3.cell? ⟨W.heap.size, 1, none⟩ = some (.int .i64 n) := cell_of_row _ _ 1 _ _ (0, 0) HR3.out; have c2 : w3.cell? ⟨W.heap.size, 2, none⟩ = some (.string key) := cell_of_row _ _ 2 _ _ (0, 0) HR3.out; have c3 : w3.cell? ⟨W.heap.size, 3, none⟩ = some (.string val) := cell_of_row _ _ 3 _ _ (0, 0) HR3.out; have c4 : w3.cell? ⟨W.heap.size, 4, none⟩ = some (.slice kA m kc) := cell_of_row _ _ 4 _ _ (0, 0) HR3.out; have done3 := trivial)
      | (have hd1 := done1; clear done1; go_at_call 12; (with_reducible refine (HPR.out _ HB1.out).mono ?_); rintro e2 w2 ⟨rfl, hb2⟩; have HB2 := Lib.hid (HB1.out.trans (hb2.mono HB1.out.size)); have HR2 := Lib.hid ((hb2.block _ (in_heap HR1.out)).trans HR1.out); clear hb2; (try clear c0 c1 c2 c3 c4); have c0 : w2.cell? ⟨W.heap.size, 0, none⟩ = some (.int .i64 k) := cell_of_row _ _ 0 _ _ (0, 0) HR2.out; have c1 : w2.cell? ⟨W.heap.size, 1, none⟩ = some (.int .i64 n) := cell_of_row _ _ 1 _ _ (0, 0) HR2.out; have c2 : w2.cell? ⟨W.heap.size, 2, none⟩ = some (.string key) := cell_of_row _ _ 2 _ _ (0, 0) HR2.out; have c3 : w2.cell? ⟨W.heap.size, 3, none⟩ = some (.string val) := cell_of_row _ _ 3 _ _ (0, 0) HR2.out; have c4 : w2.cell? ⟨W.heap.size, 4, none⟩ = some (.slice kA m kc) := cell_of_row _ _ 4 _ _ (0, 0) HR2.out; have done2 := trivial)
      | (go_at_call 7; (with_reducible refine (HAL.out _ HB0.out).mono ?_); rintro e1 w1 ⟨rfl, hb1⟩; have HB1 := Lib.hid (HB0.out.trans (hb1.mono HB0.out.size)); have HR1 := Lib.hid ((hb1.block _ (in_heap HR0.out)).trans HR0.out); clear hb1; (try clear c0 c1 c2 c3 c4); have c0 : w1.cell? ⟨W.heap.size, 0, none⟩ = some (.int .i64 k) := cell_of_row _ _ 0 _ _ (0, 0) HR1.out; have c1 : w1.cell? ⟨W.heap.size, 1, none⟩ = some (.int .i64 n) := cell_of_row _ _ 1 _ _ (0, 0) HR1.out; have c2 : w1.cell? ⟨W.heap.size, 2, none⟩ = some (.string key) := cell_of_row _ _ 2 _ _ (0, 0) HR1.out; have c3 : w1.cell? ⟨W.heap.size, 3, none⟩ = some (.string val) := cell_of_row _ _ 3 _ _ (0, 0) HR1.out; have c4 : w1.cell? ⟨W.heap.size, 4, none⟩ = some (.slice kA m kc) := cell_of_row _ _ 4 _ _ (0, 0) HR1.out; have done1 := trivial))
    all_goals
      go_ret
    exact ⟨rfl, HB3.out⟩
  · rw [hq] at HFE
    rw [hq2] at hN
    clear hq hsS hq2
    go_enter Tryd.func6, Tryd.ntmps6
    go_wp2_with (first
      | (have hd2 := done2; clear done2; go_at_call 8; (with_reducible refine (HFE.out _ HB2.out).mono ?_); rintro e3 w3 ⟨rfl, hb3⟩; have HB3 := Lib.hid (HB2.out.trans (hb3.mono HB2.out.size)); have HR3 := Lib.hid ((hb3.block _ (in_heap HR2.out)).trans HR2.out); clear hb3; (try clear c0 c1 c2 c3 c4); have c0 : w3.cell? ⟨W.heap.size, 0, none⟩ = some (.int .i64 k) := cell_of_row _ _ 0 _ _ (0, 0) HR3.out; have c1 : w3.cell? ⟨W.heap.size, 1, none⟩ = some (.int .i64 n) := cell_of_row _ _ 1 _ _ (0, 0) HR3.out; have c2 : w3.cell? ⟨W.heap.size, 2, none⟩ = some (.string key) := cell_of_row _ _ 2 _ _ (0, 0) HR3.out; have c3 : w3.cell? ⟨W.heap.size, 3, none⟩ = some (.string val) := cell_of_row _ _ 3 _ _ (0, 0) HR3.out; have c4 : w3.cell? ⟨W.heap.size, 4, none⟩ = some (.slice kA m kc) := cell_of_row _ _ 4 _ _ (0, 0) HR3.out; have done3 := trivial)
      | (have hd1 := done1; clear done1; go_at_call 12; (with_reducible refine (HPR.out _ HB1.out).mono ?_); rintro e2 w2 ⟨rfl, hb2⟩; have HB2 := Lib.hid (HB1.out.trans (hb2.mono HB1.out.size)); have HR2 := Lib.hid ((hb2.block _ (in_heap HR1.out)).trans HR1.out); clear hb2; (try clear c0 c1 c2 c3 c4); have c0 : w2.cell? ⟨W.heap.size, 0, none⟩ = some (.int .i64 k) := cell_of_row _ _ 0 _ _ (0, 0) HR2.out; have c1 : w2.cell? ⟨W.heap.size, 1, none⟩ = some (.int .i64 n) := cell_of_row _ _ 1 _ _ (0, 0) HR2.out; have c2 : w2.cell? ⟨W.heap.size, 2, none⟩ = some (.string key) := cell_of_row _ _ 2 _ _ (0, 0) HR2.out; have c3 : w2.cell? ⟨W.heap.size, 3, none⟩ = some (.string val) := cell_of_row _ _ 3 _ _ (0, 0) HR2.out; have c4 : w2.cell? ⟨W.heap.size, 4, none⟩ = some (.slice kA m kc) := cell_of_row _ _ 4 _ _ (0, 0) HR2.out; have done2 := trivial)
      | (go_at_call 7; (with_reducible refine (HAL.out _ HB0.out).mono ?_); rintro e1 w1 ⟨rfl, hb1⟩; have HB1 := Lib.hid (HB0.out.trans (hb1.mono HB0.out.size)); have HR1 := Lib.hid ((hb1.block _ (in_heap HR0.out)).trans HR0.out); clear hb1; (try clear c0 c1 c2 c3 c4); have c0 : w1.cell? ⟨W.heap.size, 0, none⟩ = some (.int .i64 k) := cell_of_row _ _ 0 _ _ (0, 0) HR1.out; have c1 : w1.cell? ⟨W.heap.size, 1, none⟩ = some (.int .i64 n) := cell_of_row _ _ 1 _ _ (0, 0) HR1.out; have c2 : w1.cell? ⟨W.heap.size, 2, none⟩ = some (.string key) := cell_of_row _ _ 2 _ _ (0, 0) HR1.out; have c3 : w1.cell? ⟨W.heap.size, 3, none⟩ = some (.string val) := cell_of_row _ _ 3 _ _ (0, 0) HR1.out; have c4 : w1.cell? ⟨W.heap.size, 4, none⟩ = some (.slice kA m kc) := cell_of_row _ _ 4 _ _ (0, 0) HR1.out; have done1 := trivial))
    all_goals
      go_ret
    exact ⟨rfl, HB3.out⟩
  · rw [hq] at HFE
    have d1 : decide ((pn : Int) < (N : Int)) = true := decide_eq_true (by omega)
    have d2 : decide (pn < N) = true := decide_eq_true (by omega)
    have k1 : ((N : Int) == 0) = false := by rw [beq_eq_false_iff_ne]; omega
    have k2 : (N == 0) = false := by rw [beq_eq_false_iff_ne]; omega
    clear hq hsS
    go_enter Tryd.func6, Tryd.ntmps6
    go_wp2_with (first
      | (have hd2 := done2; clear done2; go_at_call 8; (with_reducible refine (HFE.out _ HB2.out).mono ?_); rintro e3 w3 ⟨rfl, hb3⟩; have HB3 := Lib.hid (HB2.out.trans (hb3.mono HB2.out.size)); have HR3 := Lib.hid ((hb3.block _ (in_heap HR2.out)).trans HR2.out); clear hb3; (try clear c0 c1 c2 c3 c4); have c0 : w3.cell? ⟨W.heap.size, 0, none⟩ = some (.int .i64 k) := cell_of_row _ _ 0 _ _ (0, 0) HR3.out; have c1 : w3.cell? ⟨W.heap.size, 1, none⟩ = some (.int .i64 n) := cell_of_row _ _ 1 _ _ (0, 0) HR3.out; have c2 : w3.cell? ⟨W.heap.size, 2, none⟩ = some (.string key) := cell_of_row _ _ 2 _ _ (0, 0) HR3.out; have c3 : w3.cell? ⟨W.heap.size, 3, none⟩ = some (.string val) := cell_of_row _ _ 3 _ _ (0, 0) HR3.out; have c4 : w3.cell? ⟨W.heap.size, 4, none⟩ = some (.slice kA m kc) := cell_of_row _ _ 4 _ _ (0, 0) HR3.out; have done3 := trivial)
      | (have hd1 := done1; clear done1; go_at_call 12; (with_reducible refine (HPR.out _ HB1.out).mono ?_); rintro e2 w2 ⟨rfl, hb2⟩; have HB2 := Lib.hid (HB1.out.trans (hb2.mono HB1.out.size)); have HR2 := Lib.hid ((hb2.block _ (in_heap HR1.out)).trans HR1.out); clear hb2; (try clear c0 c1 c2 c3 c4); have c0 : w2.cell? ⟨W.heap.size, 0, none⟩ = some (.int .i64 k) := cell_of_row _ _ 0 _ _ (0, 0) HR2.out; have c1 : w2.cell? ⟨W.heap.size, 1, none⟩ = some (.int .i64 n) := cell_of_row _ _ 1 _ _ (0, 0) HR2.out; have c2 : w2.cell? ⟨W.heap.size, 2, none⟩ = some (.string key) := cell_of_row _ _ 2 _ _ (0, 0) HR2.out; have c3 : w2.cell? ⟨W.heap.size, 3, none⟩ = some (.string val) := cell_of_row _ _ 3 _ _ (0, 0) HR2.out; have c4 : w2.cell? ⟨W.heap.size, 4, none⟩ = some (.slice kA m kc) := cell_of_row _ _ 4 _ _ (0, 0) HR2.out; have done2 := trivial)
      | (go_at_call 7; (with_reducible refine (HAL.out _ HB0.out).mono ?_); rintro e1 w1 ⟨rfl, hb1⟩; have HB1 := Lib.hid (HB0.out.trans (hb1.mono HB0.out.size)); have HR1 := Lib.hid ((hb1.block _ (in_heap HR0.out)).trans HR0.out); clear hb1; (try clear c0 c1 c2 c3 c4); have c0 : w1.cell? ⟨W.heap.size, 0, none⟩ = some (.int .i64 k) := cell_of_row _ _ 0 _ _ (0, 0) HR1.out; have c1 : w1.cell? ⟨W.heap.size, 1, none⟩ = some (.int .i64 n) := cell_of_row _ _ 1 _ _ (0, 0) HR1.out; have c2 : w1.cell? ⟨W.heap.size, 2, none⟩ = some (.string key) := cell_of_row _ _ 2 _ _ (0, 0) HR1.out; have c3 : w1.cell? ⟨W.heap.size, 3, none⟩ = some (.string val) := cell_of_row _ _ 3 _ _ (0, 0) HR1.out; have c4 : w1.cell? ⟨W.heap.size, 4, none⟩ = some (.slice kA m kc) := cell_of_row _ _ 4 _ _ (0, 0) HR1.out; have done1 := trivial))
    all_goals
      go_ret
    exact ⟨rfl, HB3.out⟩
  · rw [hq] at HFE
    have d1 : decide ((pn : Int) < (N : Int)) = false := decide_eq_false (by omega)
    have d2 : decide (pn < N) = false := decide_eq_false (by omega)
    have k1 : ((N : Int) == 0) = false := by rw [beq_eq_false_iff_ne]; omega
    have k2 : (N == 0) = false := by rw [beq_eq_false_iff_ne]; omega
    have hri : t.right = true := by
      cases hr : t.right
      · rw [hr] at hsS
        rw [← hN, ← hsS] at hq2
        simp [S8, ByteArray.size] at hq2
      · rfl
    rw [hri, if_pos rfl] at hsS
    have HRI := Lib.hid hri
    have HSL : Hid (sS.data.toList = Wm.shw t) := Lib.hid (by rw [← hsS]; rfl)
    have hr3 := t.right_iff.1 hri
    have hsm := shw_small t hr3.2.2
    have hsn : sS.size = (Wm.shw t).length := by rw [← hsS, s8_len]
    have HNL : Hid (N = (Wm.shw t).length) := Lib.hid (by rw [← hN, hsn])
    have hN2 : N ≤ 1800 := by have := hr3.2.1; omega
    have hpnN : N ≤ pn := by omega
    clear hq hsS hri hr3 hsm hsn hq3
    go_enter Tryd.func6, Tryd.ntmps6
    go_wp2_with (first
      | (have hd2 := done2; clear done2; go_at_call 8; (with_reducible refine (HFE.out _ HB2.out).mono ?_); rintro e3 w3 ⟨rfl, hb3⟩; have HB3 := Lib.hid (HB2.out.trans (hb3.mono HB2.out.size)); have HR3 := Lib.hid ((hb3.block _ (in_heap HR2.out)).trans HR2.out); clear hb3; (try clear c0 c1 c2 c3 c4); have c0 : w3.cell? ⟨W.heap.size, 0, none⟩ = some (.int .i64 k) := cell_of_row _ _ 0 _ _ (0, 0) HR3.out; have c1 : w3.cell? ⟨W.heap.size, 1, none⟩ = some (.int .i64 n) := cell_of_row _ _ 1 _ _ (0, 0) HR3.out; have c2 : w3.cell? ⟨W.heap.size, 2, none⟩ = some (.string key) := cell_of_row _ _ 2 _ _ (0, 0) HR3.out; have c3 : w3.cell? ⟨W.heap.size, 3, none⟩ = some (.string val) := cell_of_row _ _ 3 _ _ (0, 0) HR3.out; have c4 : w3.cell? ⟨W.heap.size, 4, none⟩ = some (.slice kA m kc) := cell_of_row _ _ 4 _ _ (0, 0) HR3.out; have done3 := trivial)
      | (have hd1 := done1; clear done1; go_at_call 12; (with_reducible refine (HPR.out _ HB1.out).mono ?_); rintro e2 w2 ⟨rfl, hb2⟩; have HB2 := Lib.hid (HB1.out.trans (hb2.mono HB1.out.size)); have HR2 := Lib.hid ((hb2.block _ (in_heap HR1.out)).trans HR1.out); clear hb2; (try clear c0 c1 c2 c3 c4); have c0 : w2.cell? ⟨W.heap.size, 0, none⟩ = some (.int .i64 k) := cell_of_row _ _ 0 _ _ (0, 0) HR2.out; have c1 : w2.cell? ⟨W.heap.size, 1, none⟩ = some (.int .i64 n) := cell_of_row _ _ 1 _ _ (0, 0) HR2.out; have c2 : w2.cell? ⟨W.heap.size, 2, none⟩ = some (.string key) := cell_of_row _ _ 2 _ _ (0, 0) HR2.out; have c3 : w2.cell? ⟨W.heap.size, 3, none⟩ = some (.string val) := cell_of_row _ _ 3 _ _ (0, 0) HR2.out; have c4 : w2.cell? ⟨W.heap.size, 4, none⟩ = some (.slice kA m kc) := cell_of_row _ _ 4 _ _ (0, 0) HR2.out; have done2 := trivial)
      | (go_at_call 7; (with_reducible refine (HAL.out _ HB0.out).mono ?_); rintro e1 w1 ⟨rfl, hb1⟩; have HB1 := Lib.hid (HB0.out.trans (hb1.mono HB0.out.size)); have HR1 := Lib.hid ((hb1.block _ (in_heap HR0.out)).trans HR0.out); clear hb1; (try clear c0 c1 c2 c3 c4); have c0 : w1.cell? ⟨W.heap.size, 0, none⟩ = some (.int .i64 k) := cell_of_row _ _ 0 _ _ (0, 0) HR1.out; have c1 : w1.cell? ⟨W.heap.size, 1, none⟩ = some (.int .i64 n) := cell_of_row _ _ 1 _ _ (0, 0) HR1.out; have c2 : w1.cell? ⟨W.heap.size, 2, none⟩ = some (.string key) := cell_of_row _ _ 2 _ _ (0, 0) HR1.out; have c3 : w1.cell? ⟨W.heap.size, 3, none⟩ = some (.string val) := cell_of_row _ _ 3 _ _ (0, 0) HR1.out; have c4 : w1.cell? ⟨W.heap.size, 4, none⟩ = some (.slice kA m kc) := cell_of_row _ _ 4 _ _ (0, 0) HR1.out; have done1 := trivial))
    generalize hL : Wm.shw t = L at *
    have HL := Lib.hid hL
    clear hL
    go_loopw [7, 8, 9] (fun tv x _ wr => ∃ (T : List UInt8) (j : Nat), tv = .string (S8 T) ∧ x = .int .i64 (j : Int) ∧ j ≤ N ∧ Hid (Wm.Sp28 (L.take j) T ∧ T.length ≤ 5 * j ∧ ∀ c ∈ L.take j, c ≠ 34) ∧ Hid (wr = w3)) (fun _ x _ _ => N - (intOf x).toNat)
    case atStart => exact ⟨[], 0, rfl, rfl, by omega, Lib.hid ⟨by rw [List.take_zero]; exact Wm.sp_nil, by simp, by simp⟩, Lib.hid rfl⟩
    case round =>
      obtain ⟨T, j, rfl, rfl, hj, HSP, HWR⟩ := hrel
      have hwr := HWR.out
      subst hwr
      have hT5 : T.length ≤ 9000 := by have := HSP.out.2.1; omega
      by_cases hlt : j < N
      · obtain ⟨c, hc⟩ : ∃ c, L[j]? = some c := ⟨_, List.getElem?_eq_getElem (by have := HNL.out; omega)⟩
        have hx9 := run_byte (T := 9) Tryd.underlying9 (show sS.data.toList[j]? = some c from by rw [HSL.out]; exact hc)
        have hsub := sub8 HSL.out hc
        have HTK2 : Hid (L.take (j + 1) = L.take j ++ [c]) := Lib.hid (by rw [List.take_add_one, hc]; rfl)
        obtain ⟨z, hz⟩ : ∃ z, pad[j]? = some z := ⟨_, List.getElem?_eq_getElem (by have := HPN.out; omega)⟩
        obtain ⟨pa, hpa, hpb, hpc2⟩ := HRD.out (by have := HPN.out; simp; omega)
        have hcz : wr.cell? (pa.add j) = some (.int .i64 z) := (HB3.out.cell (by rw [block_add]; exact hpb)).trans (hpc2 j _ (by rw [List.getElem?_map, hz]; rfl))
        have HNE : Hid (c ≠ 34 → ∀ d ∈ L.take (j + 1), d ≠ 34) := Lib.hid (fun hc d hd => by
          rw [HTK2.out] at hd
          rcases List.mem_append.1 hd with h1 | h1
          · exact HSP.out.2.2 d h1
          · rw [List.mem_singleton] at h1; rw [h1]; exact hc)
        have hb2 : Wm.Bln [32, 10] := fun c hc => by simp at hc; rcases hc with rfl | rfl <;> decide
        have hb3 : Wm.Bln [32, 32] := fun c hc => by simp at hc; rw [hc]; decide
        obtain ⟨tv, htv⟩ : ∃ s, s = S8 T := ⟨_, rfl⟩
        rw [← htv]
        subst hpa
        clear hc hz hpc2
        rcases (show c = 34 ∨ (c ≠ 34 ∧ Wm.sgn c = true) ∨ (c ≠ 34 ∧ Wm.sgn c = false ∧ c = 32) ∨ (c ≠ 34 ∧ Wm.sgn c = false ∧ c ≠ 32) from by by_cases h1 : c = 34 <;> by_cases h2 : c = 32 <;> cases h3 : Wm.sgn c <;> simp [h1, h2]) with hk | ⟨hk, hk2⟩ | ⟨hk, hk2, hk3⟩ | ⟨hk, hk2, hk3⟩
        · have k34 : ((c.toNat : Int) == 34) = true := by rw [hk]; rfl
          clear hk htv hsub
          go_wp2_with fail
          go_ret
          exact ⟨rfl, HB3.out⟩
        · have HNE2 := Lib.hid (HNE.out hk)
          have k34 : ((c.toNat : Int) == 34) = false := by rw [beq_eq_false_iff_ne]; intro e; exact hk (by rw [← UInt8.toNat_inj]; simp; omega)
          have HS1 : Hid (Wm.Sp28 (L.take (j + 1)) (T ++ [c])) := Lib.hid (by rw [HTK2.out]; exact Wm.sp_step HSP.out.1 (fun h _ => absurd (hk2.symm.trans h) (by decide)) (fun _ => ⟨[], [], Wm.bln_nil, Wm.bln_nil, rfl⟩) (fun h => by subst h; exact absurd hk2 (by decide)))
          have HS2 : Hid (Wm.Sp28 (L.take (j + 1)) (T ++ [32, 10] ++ [c])) := Lib.hid (by rw [HTK2.out, List.append_assoc]; exact Wm.sp_step HSP.out.1 (fun h _ => absurd (hk2.symm.trans h) (by decide)) (fun _ => ⟨[32, 10], [], hb2, Wm.bln_nil, rfl⟩) (fun h => by subst h; exact absurd hk2 (by decide)))
          have HS3 : Hid (Wm.Sp28 (L.take (j + 1)) (T ++ [c] ++ [32, 32])) := Lib.hid (by rw [HTK2.out, List.append_assoc]; exact Wm.sp_step HSP.out.1 (fun h _ => absurd (hk2.symm.trans h) (by decide)) (fun _ => ⟨[], [32, 32], Wm.bln_nil, hb3, rfl⟩) (fun h => by subst h; exact absurd hk2 (by decide)))
          have HS4 : Hid (Wm.Sp28 (L.take (j + 1)) (T ++ [32, 10] ++ [c] ++ [32, 32])) := Lib.hid (by rw [HTK2.out, List.append_assoc, List.append_assoc]; exact Wm.sp_step HSP.out.1 (fun h _ => absurd (hk2.symm.trans h) (by decide)) (fun _ => ⟨[32, 10], [32, 32], hb2, hb3, rfl⟩) (fun h => by subst h; exact absurd hk2 (by decide)))
          have hcs : (c.toNat : Int) = 40 ∨ (c.toNat : Int) = 41 ∨ (c.toNat : Int) = 44 := by
            unfold Wm.sgn at hk2
            simp only [Bool.or_eq_true, beq_iff_eq] at hk2
            rcases hk2 with (rfl | rfl) | rfl <;> simp
          have hadd1 := add8 (b := ⟨#[32, 10]⟩) (y := [32, 10]) htv rfl (by omega) (by simp)
          have hadd2 := add8 (b := sS.extract j (j + 1)) (y := [c]) htv hsub (by omega) (by simp)
          have hadd3 := add8 (a := S8 (T ++ [32, 10])) (b := sS.extract j (j + 1)) (y := [c]) rfl hsub (by simp; omega) (by simp)
          have hadd4 := add8 (a := S8 (T ++ [c])) (b := ⟨#[32, 32]⟩) (y := [32, 32]) rfl rfl (by simp; omega) (by simp)
          have hadd5 := add8 (a := S8 (T ++ [32, 10] ++ [c])) (b := ⟨#[32, 32]⟩) (y := [32, 32]) rfl rfl (by simp; omega) (by simp)
          have HL1 : Hid ((T ++ [c]).length ≤ 5 * (j + 1)) := Lib.hid (by have := HSP.out.2.1; simp; omega)
          have HL2 : Hid ((T ++ [32, 10] ++ [c]).length ≤ 5 * (j + 1)) := Lib.hid (by have := HSP.out.2.1; simp; omega)
          have HL3 : Hid ((T ++ [c] ++ [32, 32]).length ≤ 5 * (j + 1)) := Lib.hid (by have := HSP.out.2.1; simp; omega)
          have HL4 : Hid ((T ++ [32, 10] ++ [c] ++ [32, 32]).length ≤ 5 * (j + 1)) := Lib.hid (by have := HSP.out.2.1; simp; omega)
          generalize T ++ [32, 10] ++ [c] ++ [32, 32] = X4 at *
          generalize T ++ [c] ++ [32, 32] = X3 at *
          generalize T ++ [32, 10] ++ [c] = X2 at *
          generalize T ++ [32, 10] = X5 at *
          generalize T ++ [c] = X1 at *
          generalize (c.toNat : Int) = cn at *
          clear hk hk2 hsub hb2 hb3 htv
          rcases (show (cn == 40) = true ∨ ((cn == 40) = false ∧ (cn == 41) = true) ∨ ((cn == 40) = false ∧ (cn == 41) = false ∧ (cn == 44) = true) from by rcases hcs with h | h | h <;> subst h <;> simp) with k40 | ⟨k40, k41⟩ | ⟨k40, k41, k44⟩
          · clear hcs
            go_wp2_with fail
            all_goals
              go_roundw
              case rel => first
                | exact ⟨_, j + 1, rfl, by go_num, by omega, Lib.hid ⟨HS1.out, HL1.out, HNE2.out⟩, Lib.hid (by first | trivial | rfl)⟩
                | exact ⟨_, j + 1, rfl, by go_num, by omega, Lib.hid ⟨HS2.out, HL2.out, HNE2.out⟩, Lib.hid (by first | trivial | rfl)⟩
                | exact ⟨_, j + 1, rfl, by go_num, by omega, Lib.hid ⟨HS3.out, HL3.out, HNE2.out⟩, Lib.hid (by first | trivial | rfl)⟩
                | exact ⟨_, j + 1, rfl, by go_num, by omega, Lib.hid ⟨HS4.out, HL4.out, HNE2.out⟩, Lib.hid (by first | trivial | rfl)⟩
              case measure => simp [intOf]; omega

          · clear hcs
            go_wp2_with fail
            all_goals
              go_roundw
              case rel => first
                | exact ⟨_, j + 1, rfl, by go_num, by omega, Lib.hid ⟨HS1.out, HL1.out, HNE2.out⟩, Lib.hid (by first | trivial | rfl)⟩
                | exact ⟨_, j + 1, rfl, by go_num, by omega, Lib.hid ⟨HS2.out, HL2.out, HNE2.out⟩, Lib.hid (by first | trivial | rfl)⟩
                | exact ⟨_, j + 1, rfl, by go_num, by omega, Lib.hid ⟨HS3.out, HL3.out, HNE2.out⟩, Lib.hid (by first | trivial | rfl)⟩
                | exact ⟨_, j + 1, rfl, by go_num, by omega, Lib.hid ⟨HS4.out, HL4.out, HNE2.out⟩, Lib.hid (by first | trivial | rfl)⟩
              case measure => simp [intOf]; omega

          · clear hcs
            go_wp2_with fail
            all_goals
              go_roundw
              case rel => first
                | exact ⟨_, j + 1, rfl, by go_num, by omega, Lib.hid ⟨HS1.out, HL1.out, HNE2.out⟩, Lib.hid (by first | trivial | rfl)⟩
                | exact ⟨_, j + 1, rfl, by go_num, by omega, Lib.hid ⟨HS2.out, HL2.out, HNE2.out⟩, Lib.hid (by first | trivial | rfl)⟩
                | exact ⟨_, j + 1, rfl, by go_num, by omega, Lib.hid ⟨HS3.out, HL3.out, HNE2.out⟩, Lib.hid (by first | trivial | rfl)⟩
                | exact ⟨_, j + 1, rfl, by go_num, by omega, Lib.hid ⟨HS4.out, HL4.out, HNE2.out⟩, Lib.hid (by first | trivial | rfl)⟩
              case measure => simp [intOf]; omega

        · have HNE2 := Lib.hid (HNE.out hk)
          have HS1 : Hid (Wm.Sp28 (L.take (j + 1)) (T ++ [c] ++ [32, 32])) := Lib.hid (by rw [HTK2.out, List.append_assoc]; exact Wm.sp_step HSP.out.1 (fun _ h => absurd hk3 h) (fun h => absurd (hk2.symm.trans h) (by decide)) (fun h => ⟨[32, 32], hb3, by subst h; rfl⟩))
          have HL1 : Hid ((T ++ [c] ++ [32, 32]).length ≤ 5 * (j + 1)) := Lib.hid (by have := HSP.out.2.1; simp; omega)
          have hadd2 := add8 (b := sS.extract j (j + 1)) (y := [c]) htv hsub (by omega) (by simp)
          have hadd4 := add8 (a := S8 (T ++ [c])) (b := ⟨#[32, 32]⟩) (y := [32, 32]) rfl rfl (by simp; omega) (by simp)
          have hcn : (c.toNat : Int) = 32 := by rw [hk3]; rfl
          generalize T ++ [c] ++ [32, 32] = X3 at *
          generalize T ++ [c] = X1 at *
          rw [hcn] at hx9
          clear hk hk2 hk3 hsub hb2 hb3 htv hcn
          go_wp2_with fail
          go_roundw
          case rel => exact ⟨_, j + 1, rfl, by go_num, by omega, Lib.hid ⟨HS1.out, HL1.out, HNE2.out⟩, Lib.hid (by first | trivial | rfl)⟩
          case measure => simp [intOf]; omega
        · have HNE2 := Lib.hid (HNE.out hk)
          have HS1 : Hid (Wm.Sp28 (L.take (j + 1)) (T ++ [c])) := Lib.hid (by rw [HTK2.out]; exact Wm.sp_step HSP.out.1 (fun _ _ => rfl) (fun h => absurd (hk2.symm.trans h) (by decide)) (fun h => absurd h hk3))
          have HL1 : Hid ((T ++ [c]).length ≤ 5 * (j + 1)) := Lib.hid (by have := HSP.out.2.1; simp; omega)
          have hadd2 := add8 (b := sS.extract j (j + 1)) (y := [c]) htv hsub (by omega) (by simp)
          have e : ∀ d : UInt8, c ≠ d → ((c.toNat : Int) == (d.toNat : Int)) = false := fun d h => by rw [beq_eq_false_iff_ne]; intro e; exact h (by rw [← UInt8.toNat_inj]; omega)
          have hsg : c ≠ 40 ∧ c ≠ 41 ∧ c ≠ 44 := by
            unfold Wm.sgn at hk2
            simp only [Bool.or_eq_false_iff, beq_eq_false_iff_ne] at hk2
            exact ⟨hk2.1.1, hk2.1.2, hk2.2⟩
          have k34 : ((c.toNat : Int) == 34) = false := e 34 hk
          have k40 : ((c.toNat : Int) == 40) = false := e 40 hsg.1
          have k41 : ((c.toNat : Int) == 41) = false := e 41 hsg.2.1
          have k44 : ((c.toNat : Int) == 44) = false := e 44 hsg.2.2
          have k32 : ((c.toNat : Int) == 32) = false := e 32 hk3
          generalize T ++ [c] = X1 at *
          generalize (c.toNat : Int) = cn at *
          clear hk hk2 hk3 hsub hb2 hb3 htv e hsg
          go_wp2_with fail
          go_roundw
          case rel => exact ⟨_, j + 1, rfl, by go_num, by omega, Lib.hid ⟨HS1.out, HL1.out, HNE2.out⟩, Lib.hid (by first | trivial | rfl)⟩
          case measure => simp [intOf]; omega
      · obtain rfl : j = N := by omega
        have HTA : Hid (L.take j = L) := Lib.hid (List.take_of_length_le (by have := HNL.out; omega))
        have hsp := HSP.out
        rw [HTA.out] at hsp
        obtain ⟨⟨hh, hg, hTe⟩, _, h34⟩ := hsp
        have hno : Wm.noAt t = true := Wm.noAt_of t (t.right_iff.1 HRI.out).2.2 (fun e => h34 34 (by rw [← HL.out]; exact e) rfl)
        have hans : T.length ≤ 2000 → Wm.ans T = (t, -1, 0) := fun hl => by
          rw [hTe, ← HL.out] at hl ⊢
          exact Wm.ans_spc hg HRI.out hno hl
        obtain ⟨tv, htv⟩ : ∃ s, S8 T = s := ⟨_, rfl⟩
        have hts : tv.size = T.length := by rw [← htv, s8_len]
        have htl : tv.data.toList = T := by rw [← htv]; rfl
        have HP := Lib.hid (fun V => parse_any tv V (by omega))
        rw [htl] at HP
        rw [htv]
        clear htl hh hg hTe h34 hno
        obtain ⟨tl, htl2⟩ : ∃ z, tv.size = z := ⟨_, rfl⟩
        rcases (show 2000 < tl ∨ ¬ 2000 < tl from by omega) with hbig | hbig
        · have d4 : decide (2000 < (tl : Int)) = true := decide_eq_true (by omega)
          have d5 : decide (2000 < tl) = true := decide_eq_true (by omega)
          generalize Wm.ans T = an at *
          obtain ⟨t2, a2, e2⟩ := an
          clear hans htv hts hbig
          go_upto_region 18 with (go_at_call 9; (with_reducible refine (HP.out _).mono ?_); rintro e5 w5 ⟨cs5, rfl, hrd5, hb5⟩; have HRD5 := Lib.hid hrd5; obtain ⟨k5, n5, y5, v5, A5, m5, q5, rfl⟩ := hrd5.inv; have HB5 := Lib.hid hb5; clear hrd5 hb5; simp only [rcs])
          have HB7 := Lib.hid (HB3.out.trans ((HB5.out.alloc HB5.out.size (.cells #[.int .i64 k5, .int .i64 n5, .string y5, .string v5, .slice A5 m5 q5] 24)).mono HB3.out.size))
          generalize w5.alloc (.cells #[.int .i64 k5, .int .i64 n5, .string y5, .string v5, .slice A5 m5 q5] 24) = w7 at *
          go_wp2_with fail
          go_ret
          exact ⟨rfl, HB7.out⟩
        · have d4 : decide (2000 < (tl : Int)) = false := decide_eq_false (by omega)
          have d5 : decide (2000 < tl) = false := decide_eq_false (by omega)
          rw [hans (by omega)] at HP
          clear hans htv hts hbig
          go_upto_region 18 with (go_at_call 9; (with_reducible refine (HP.out _).mono ?_); rintro e5 w5 ⟨cs5, rfl, hrd5, hb5⟩; have HRD5 := Lib.hid hrd5; obtain ⟨k5, n5, y5, v5, A5, m5, q5, rfl⟩ := hrd5.inv; have HB5 := Lib.hid hb5; clear hrd5 hb5; simp only [rcs])
          have hb57 : Below w5.heap.size w5 (w5.alloc (.cells #[.int .i64 k5, .int .i64 n5, .string y5, .string v5, .slice A5 m5 q5] 24)) := (Below.refl _ _).alloc (Nat.le_refl _) _
          have HX12 := Lib.hid (heap_alloc_new w5 (.cells #[.int .i64 k5, .int .i64 n5, .string y5, .string v5, .slice A5 m5 q5] 24))
          have HB7 := Lib.hid (HB3.out.trans ((HB5.out.trans (hb57.mono HB5.out.size)).mono HB3.out.size))
          have HR7 := Lib.hid ((hb57.block _ (Nat.lt_of_lt_of_le (in_heap HR3.out) HB5.out.size)).trans ((HB5.out.block _ (in_heap HR3.out)).trans HR3.out))
          have HXR := Lib.hid ((HRD5.out.heap fun b hb => hb57.block b hb.2).toR (B := (w5.alloc (.cells #[.int .i64 k5, .int .i64 n5, .string y5, .string v5, .slice A5 m5 q5] 24)).heap.size) (fun b hb => Nat.lt_of_lt_of_le hb.2 hb57.size))
          generalize w5.alloc (.cells #[.int .i64 k5, .int .i64 n5, .string y5, .string v5, .slice A5 m5 q5] 24) = w7 at *
          generalize hz5 : w5.heap.size = z5 at *
          have HSM := Lib.hid (HSA.out _ w7 w7 HB7.out HXR.out (Below.refl _ _))
          simp only [rcs] at HSM
          clear hb57 hz5 c0 c1 c2 c3 c4
          have c0 : w7.cell? ⟨W.heap.size, 0, none⟩ = some (.int .i64 k) := cell_of_row _ _ 0 _ _ (0, 0) HR7.out; have c1 : w7.cell? ⟨W.heap.size, 1, none⟩ = some (.int .i64 n) := cell_of_row _ _ 1 _ _ (0, 0) HR7.out; have c2 : w7.cell? ⟨W.heap.size, 2, none⟩ = some (.string key) := cell_of_row _ _ 2 _ _ (0, 0) HR7.out; have c3 : w7.cell? ⟨W.heap.size, 3, none⟩ = some (.string val) := cell_of_row _ _ 3 _ _ (0, 0) HR7.out; have c4 : w7.cell? ⟨W.heap.size, 4, none⟩ = some (.slice kA m kc) := cell_of_row _ _ 4 _ _ (0, 0) HR7.out; have x0 : w7.cell? ⟨z5, 0, none⟩ = some (.int .i64 k5) := cell_of_row _ _ 0 _ _ (0, 0) HX12.out; have x1 : w7.cell? ⟨z5, 1, none⟩ = some (.int .i64 n5) := cell_of_row _ _ 1 _ _ (0, 0) HX12.out; have x2 : w7.cell? ⟨z5, 2, none⟩ = some (.string y5) := cell_of_row _ _ 2 _ _ (0, 0) HX12.out; have x3 : w7.cell? ⟨z5, 3, none⟩ = some (.string v5) := cell_of_row _ _ 3 _ _ (0, 0) HX12.out; have x4 : w7.cell? ⟨z5, 4, none⟩ = some (.slice A5 m5 q5) := cell_of_row _ _ 4 _ _ (0, 0) HX12.out; skip
          go_wp2_with (first
            | (go_at_call 13; (with_reducible refine HSM.out.mono ?_); rintro eA wA ⟨rfl, hbA⟩; have HBA := Lib.hid hbA; clear hbA)
            | (go_at_call 14; (with_reducible refine (num28 _ _).mono ?_); rintro eN wN ⟨rfl, hwN⟩; subst hwN))
          go_ret
          exact ⟨rfl, HB7.out.trans (HBA.out.mono HB7.out.size)⟩
end Go.Proofs.YtgiahfjndononaaDoor
