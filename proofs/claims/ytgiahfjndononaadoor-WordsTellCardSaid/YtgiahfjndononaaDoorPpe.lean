/- WordsTell: how any policy is written, and which policy any text is, or where it is none. -/
import Derived.Test.YtgiahfjndononaaDoorPpc
import Derived.Test.YtgiahfjndononaaDoorPpd
import Derived.Test.YtgiahfjndononaaDoorPor
import Derived.Test.YtgiahfjndononaaDoorPoy
import Derived.Test.YtgiahfjndononaaDoorSg
namespace Go.Proofs.YtgiahfjndononaaDoor
open Go.RowKit
set_option linter.unusedVariables false
set_option linter.unusedSimpArgs false
set_option maxRecDepth 100000

theorem drule_any (s : ByteArray) (L : List UInt8) (P : Nat) (hL : s.data.toList = L) (hs : s.size ≤ 1000000) : ∀ f, f ≤ 900000 → DRuleCalls f P s L
  | 0, _ => fun l w hl _ => absurd hl (Nat.not_lt_zero _)
  | f + 1, hf => fun l w hl h => drule_step f s L P hL hs l w h hl (drule_any s L P hL hs f (by omega)) (by omega)
theorem parse_doc (s : ByteArray) (W : World) (hs : s.size ≤ 800000) : Calls Tryd.prog 10 #[.string s] W (AnsOf (Wm.ans s.data.toList) W) :=
  dparse_any s W hs (drule_any s _ _ rfl (by omega) _ (by have := list_len s _ rfl; omega))
def WtF (B0 z5 z8 : Nat) (k n : Int) (key val : ByteArray) (kA : Option Addr) (m kc : Nat) (k5 n5 : Int) (y5 v5 : ByteArray) (A5 : Option Addr) (m5 q5 : Nat) (k8 n8 : Int) (y8 v8 : ByteArray) (A8 : Option Addr) (m8 q8 : Nat) (S : ByteArray) (a1 a2 : Int) : Nat → Value → World → Prop
  | 0, v, _ => v = .agg #[.int .i64 k, .int .i64 n, .string key, .string val, .slice kA m kc]
  | 1, v, _ => v = .string S
  | 2, v, _ => v = .agg #[.int .i64 k, .int .i64 n, .string key, .string val, .slice kA m kc]
  | 3, v, _ => v = .string S
  | 4, v, _ => v = .bool true
  | 5, v, _ => v = .bool true
  | 6, v, _ => v = .agg #[.int .i64 k5, .int .i64 n5, .string y5, .string v5, .slice A5 m5 q5]
  | 7, v, _ => v = .agg #[.int .i64 k8, .int .i64 n8, .string y8, .string v8, .slice A8 m8 q8]
  | 8, v, _ => v = .bool true
  | 9, v, _ => v = .bool true
  | 10, v, _ => v = .bool true
  | 11, v, _ => v = .int .i64 a1
  | 12, v, _ => v = .int .i64 a1
  | 13, v, _ => v = .bool true
  | 14, v, _ => v = .bool true
  | 15, v, _ => v = .bool true
  | 16, v, _ => v = .int .i64 a2
  | 17, v, _ => v = .int .i64 a2
  | 18, v, _ => v = .int .i64 a2
  | 19, v, _ => v = .bool true
  | 20, v, _ => v = .bool true
  | 21, v, _ => v = .bool true
  | _, _, _ => True
theorem WtF.keep {B0 z5 z8 : Nat} {k n : Int} {key val : ByteArray} {kA : Option Addr} {m kc : Nat} {k5 n5 : Int} {y5 v5 : ByteArray} {A5 : Option Addr} {m5 q5 : Nat} {k8 n8 : Int} {y8 v8 : ByteArray} {A8 : Option Addr} {m8 q8 : Nat} {S : ByteArray} {a1 a2 : Int} {w w' : World} {i : Nat} {v : Value} (h : WtF B0 z5 z8 k n key val kA m kc k5 n5 y5 v5 A5 m5 q5 k8 n8 y8 v8 A8 m8 q8 S a1 a2 i v w) : WtF B0 z5 z8 k n key val kA m kc k5 n5 y5 v5 A5 m5 q5 k8 n8 y8 v8 A8 m8 q8 S a1 a2 i v w' := by
  match i, h with
  | 0, h => exact h
  | 1, h => exact h
  | 2, h => exact h
  | 3, h => exact h
  | 4, h => exact h
  | 5, h => exact h
  | 6, h => exact h
  | 7, h => exact h
  | 8, h => exact h
  | 9, h => exact h
  | 10, h => exact h
  | 11, h => exact h
  | 12, h => exact h
  | 13, h => exact h
  | 14, h => exact h
  | 15, h => exact h
  | 16, h => exact h
  | 17, h => exact h
  | 18, h => exact h
  | 19, h => exact h
  | 20, h => exact h
  | 21, h => exact h
  | _ + 22, h => trivial
set_option maxHeartbeats 32000000 in
theorem tell28 (t : Rt) (cs : List Value) (s : ByteArray) (W : World) (h : RdR W W.heap.size t cs) (hsm : s.size ≤ maxLen) (hT : Lib.TabIs Tryd.prog W "internal/strconv.uint64pow10" .u64 Lib.pow10Tab) :
    Calls Tryd.prog 3 #[.agg cs.toArray, .string s] W fun e w' => e = .returned (.bool true) ∧ Below W.heap.size W w' := by
  have HT := Lib.hid hT
  have HAL := Lib.hid (fun V (hV : Below W.heap.size W V) => alive28_calls V (tab_below HT.out hV))
  have HFE := Lib.hid (fun V (hV : Below W.heap.size W V) => few13_any h V hV (Below.size hV))
  have HPR := Lib.hid (fun V (hV : Below W.heap.size W V) => print_any h V hV (Below.size hV) (tab_below HT.out hV))
  have HDP := Lib.hid (fun V (hV : Below W.heap.size W V) => dprint_any h V hV (Below.size hV))
  generalize S8 (if t.right = true then Wm.shw t else []) = S at HPR HDP
  simp only [maxLen] at hsm
  obtain ⟨k, n, key, val, kids, kA, kc, htk, hck⟩ := h.inv
  subst hck
  generalize hm : kids.length = m at *
  clear htk hm
  have HR0 := Lib.hid (heap_alloc_new W (.cells #[.int .i64 k, .int .i64 n, .string key, .string val, .slice kA m kc] 24))
  have HB0 := Lib.hid ((Below.refl W.heap.size W).alloc (Nat.le_refl _) (.cells #[.int .i64 k, .int .i64 n, .string key, .string val, .slice kA m kc] 24))
  clear h hT
  simp only [rcs] at *
  obtain ⟨sz, hsz⟩ : ∃ z, s.size = z := ⟨_, rfl⟩
  have HSZ := Lib.hid hsz
  rw [hsz] at hsm
  generalize hf : few13 t = bT at HFE
  clear hf
  cases bT
  · clear hsz
    go_enter Tryd.func3, Tryd.ntmps3
    go_wp2_with (first
      | (have hd1 := done1; clear done1; go_at_call 8; (with_reducible refine (HFE.out _ HB1.out).mono ?_); rintro e2 w2 ⟨rfl, hb2⟩; have HB2 := Lib.hid (HB1.out.trans (hb2.mono HB1.out.size)); have HR2 := Lib.hid ((hb2.block _ (in_heap HR1.out)).trans HR1.out); clear hb2; (try clear c0 c1 c2 c3 c4); have c0 : w2.cell? ⟨W.heap.size, 0, none⟩ = some (.int .i64 k) := cell_of_row _ _ 0 _ _ (0, 0) HR2.out; have c1 : w2.cell? ⟨W.heap.size, 1, none⟩ = some (.int .i64 n) := cell_of_row _ _ 1 _ _ (0, 0) HR2.out; have c2 : w2.cell? ⟨W.heap.size, 2, none⟩ = some (.string key) := cell_of_row _ _ 2 _ _ (0, 0) HR2.out; have c3 : w2.cell? ⟨W.heap.size, 3, none⟩ = some (.string val) := cell_of_row _ _ 3 _ _ (0, 0) HR2.out; have c4 : w2.cell? ⟨W.heap.size, 4, none⟩ = some (.slice kA m kc) := cell_of_row _ _ 4 _ _ (0, 0) HR2.out; have done2 := trivial)
      | (go_at_call 7; (with_reducible refine (HAL.out _ HB0.out).mono ?_); rintro e1 w1 ⟨rfl, hb1⟩; have HB1 := Lib.hid (HB0.out.trans (hb1.mono HB0.out.size)); have HR1 := Lib.hid ((hb1.block _ (in_heap HR0.out)).trans HR0.out); clear hb1; (try clear c0 c1 c2 c3 c4); have c0 : w1.cell? ⟨W.heap.size, 0, none⟩ = some (.int .i64 k) := cell_of_row _ _ 0 _ _ (0, 0) HR1.out; have c1 : w1.cell? ⟨W.heap.size, 1, none⟩ = some (.int .i64 n) := cell_of_row _ _ 1 _ _ (0, 0) HR1.out; have c2 : w1.cell? ⟨W.heap.size, 2, none⟩ = some (.string key) := cell_of_row _ _ 2 _ _ (0, 0) HR1.out; have c3 : w1.cell? ⟨W.heap.size, 3, none⟩ = some (.string val) := cell_of_row _ _ 3 _ _ (0, 0) HR1.out; have c4 : w1.cell? ⟨W.heap.size, 4, none⟩ = some (.slice kA m kc) := cell_of_row _ _ 4 _ _ (0, 0) HR1.out; have done1 := trivial))
    go_ret
    exact ⟨rfl, HB2.out⟩
  · by_cases hbig : 2500 < sz
    · have d1 : decide (2500 < (sz : Int)) = true := decide_eq_true (by omega)
      have d2 : decide (2500 < sz) = true := decide_eq_true (by omega)
      go_enter Tryd.func3, Tryd.ntmps3
      go_wp2_with (first
        | (have hd1 := done1; clear done1; go_at_call 8; (with_reducible refine (HFE.out _ HB1.out).mono ?_); rintro e2 w2 ⟨rfl, hb2⟩; have HB2 := Lib.hid (HB1.out.trans (hb2.mono HB1.out.size)); have HR2 := Lib.hid ((hb2.block _ (in_heap HR1.out)).trans HR1.out); clear hb2; (try clear c0 c1 c2 c3 c4); have c0 : w2.cell? ⟨W.heap.size, 0, none⟩ = some (.int .i64 k) := cell_of_row _ _ 0 _ _ (0, 0) HR2.out; have c1 : w2.cell? ⟨W.heap.size, 1, none⟩ = some (.int .i64 n) := cell_of_row _ _ 1 _ _ (0, 0) HR2.out; have c2 : w2.cell? ⟨W.heap.size, 2, none⟩ = some (.string key) := cell_of_row _ _ 2 _ _ (0, 0) HR2.out; have c3 : w2.cell? ⟨W.heap.size, 3, none⟩ = some (.string val) := cell_of_row _ _ 3 _ _ (0, 0) HR2.out; have c4 : w2.cell? ⟨W.heap.size, 4, none⟩ = some (.slice kA m kc) := cell_of_row _ _ 4 _ _ (0, 0) HR2.out; have done2 := trivial)
        | (go_at_call 7; (with_reducible refine (HAL.out _ HB0.out).mono ?_); rintro e1 w1 ⟨rfl, hb1⟩; have HB1 := Lib.hid (HB0.out.trans (hb1.mono HB0.out.size)); have HR1 := Lib.hid ((hb1.block _ (in_heap HR0.out)).trans HR0.out); clear hb1; (try clear c0 c1 c2 c3 c4); have c0 : w1.cell? ⟨W.heap.size, 0, none⟩ = some (.int .i64 k) := cell_of_row _ _ 0 _ _ (0, 0) HR1.out; have c1 : w1.cell? ⟨W.heap.size, 1, none⟩ = some (.int .i64 n) := cell_of_row _ _ 1 _ _ (0, 0) HR1.out; have c2 : w1.cell? ⟨W.heap.size, 2, none⟩ = some (.string key) := cell_of_row _ _ 2 _ _ (0, 0) HR1.out; have c3 : w1.cell? ⟨W.heap.size, 3, none⟩ = some (.string val) := cell_of_row _ _ 3 _ _ (0, 0) HR1.out; have c4 : w1.cell? ⟨W.heap.size, 4, none⟩ = some (.slice kA m kc) := cell_of_row _ _ 4 _ _ (0, 0) HR1.out; have done1 := trivial))
      go_ret
      exact ⟨rfl, HB2.out⟩
    · have d1 : decide (2500 < (sz : Int)) = false := decide_eq_false (by omega)
      have d2 : decide (2500 < sz) = false := decide_eq_false (by omega)
      have HP := Lib.hid (fun V => parse_any s V (by rw [HSZ.out]; omega))
      have HD := Lib.hid (fun V => parse_doc s V (by rw [HSZ.out]; omega))
      generalize Wm.ans s.data.toList = an at *
      obtain ⟨t5, a1, a2⟩ := an
      clear hbig
      go_enter Tryd.func3, Tryd.ntmps3
      go_upto_region 4 with (first
        | (have hd1 := done1; clear done1; go_at_call 8; (with_reducible refine (HFE.out _ HB1.out).mono ?_); rintro e2 w2 ⟨rfl, hb2⟩; have HB2 := Lib.hid (HB1.out.trans (hb2.mono HB1.out.size)); have HR2 := Lib.hid ((hb2.block _ (in_heap HR1.out)).trans HR1.out); clear hb2; (try clear c0 c1 c2 c3 c4); have c0 : w2.cell? ⟨W.heap.size, 0, none⟩ = some (.int .i64 k) := cell_of_row _ _ 0 _ _ (0, 0) HR2.out; have c1 : w2.cell? ⟨W.heap.size, 1, none⟩ = some (.int .i64 n) := cell_of_row _ _ 1 _ _ (0, 0) HR2.out; have c2 : w2.cell? ⟨W.heap.size, 2, none⟩ = some (.string key) := cell_of_row _ _ 2 _ _ (0, 0) HR2.out; have c3 : w2.cell? ⟨W.heap.size, 3, none⟩ = some (.string val) := cell_of_row _ _ 3 _ _ (0, 0) HR2.out; have c4 : w2.cell? ⟨W.heap.size, 4, none⟩ = some (.slice kA m kc) := cell_of_row _ _ 4 _ _ (0, 0) HR2.out; have done2 := trivial)
        | (go_at_call 7; (with_reducible refine (HAL.out _ HB0.out).mono ?_); rintro e1 w1 ⟨rfl, hb1⟩; have HB1 := Lib.hid (HB0.out.trans (hb1.mono HB0.out.size)); have HR1 := Lib.hid ((hb1.block _ (in_heap HR0.out)).trans HR0.out); clear hb1; (try clear c0 c1 c2 c3 c4); have c0 : w1.cell? ⟨W.heap.size, 0, none⟩ = some (.int .i64 k) := cell_of_row _ _ 0 _ _ (0, 0) HR1.out; have c1 : w1.cell? ⟨W.heap.size, 1, none⟩ = some (.int .i64 n) := cell_of_row _ _ 1 _ _ (0, 0) HR1.out; have c2 : w1.cell? ⟨W.heap.size, 2, none⟩ = some (.string key) := cell_of_row _ _ 2 _ _ (0, 0) HR1.out; have c3 : w1.cell? ⟨W.heap.size, 3, none⟩ = some (.string val) := cell_of_row _ _ 3 _ _ (0, 0) HR1.out; have c4 : w1.cell? ⟨W.heap.size, 4, none⟩ = some (.slice kA m kc) := cell_of_row _ _ 4 _ _ (0, 0) HR1.out; have done1 := trivial))
      go_upto_region 5 with (go_at_call 9; (with_reducible refine (HP.out _).mono ?_); rintro e5 w5 ⟨cs5, rfl, hrd5, hb5⟩; have HRD5 := Lib.hid hrd5; obtain ⟨k5, n5, y5, v5, A5, m5, q5, rfl⟩ := hrd5.inv; have HB5 := Lib.hid hb5; clear hrd5 hb5; simp only [rcs])
      have hb57 : Below w5.heap.size w5 (w5.alloc (.cells #[.int .i64 k5, .int .i64 n5, .string y5, .string v5, .slice A5 m5 q5] 24)) := (Below.refl _ _).alloc (Nat.le_refl _) _
      have HX7 := Lib.hid (heap_alloc_new w5 (.cells #[.int .i64 k5, .int .i64 n5, .string y5, .string v5, .slice A5 m5 q5] 24))
      have HB7 := Lib.hid (HB2.out.trans ((HB5.out.trans (hb57.mono HB5.out.size)).mono HB2.out.size))
      have HR7 := Lib.hid ((hb57.block _ (Nat.lt_of_lt_of_le (in_heap HR2.out) HB5.out.size)).trans ((HB5.out.block _ (in_heap HR2.out)).trans HR2.out))
      have HT7 := Lib.hid ((HRD5.out.heap fun b hb => hb57.block b hb.2).toR (B := (w5.alloc (.cells #[.int .i64 k5, .int .i64 n5, .string y5, .string v5, .slice A5 m5 q5] 24)).heap.size) (fun b hb => Nat.lt_of_lt_of_le hb.2 hb57.size))
      generalize w5.alloc (.cells #[.int .i64 k5, .int .i64 n5, .string y5, .string v5, .slice A5 m5 q5] 24) = w7 at *
      generalize hz5 : w5.heap.size = z5 at *
      clear hb57 hz5 c0 c1 c2 c3 c4 HRD5 HB5
      go_upto_region 6 with (go_at_call 10; (with_reducible refine (HD.out _).mono ?_); rintro e8 w8 ⟨cs8, rfl, hrd8, hb8⟩; have HRD8 := Lib.hid hrd8; obtain ⟨k8, n8, y8, v8, A8, m8, q8, rfl⟩ := hrd8.inv; have HB8 := Lib.hid hb8; clear hrd8 hb8; simp only [rcs])
      have hb89 : Below w8.heap.size w8 (w8.alloc (.cells #[.int .i64 k8, .int .i64 n8, .string y8, .string v8, .slice A8 m8 q8] 24)) := (Below.refl _ _).alloc (Nat.le_refl _) _
      have HX9 := Lib.hid (heap_alloc_new w8 (.cells #[.int .i64 k8, .int .i64 n8, .string y8, .string v8, .slice A8 m8 q8] 24))
      have hb79 : Below w7.heap.size w7 (w8.alloc (.cells #[.int .i64 k8, .int .i64 n8, .string y8, .string v8, .slice A8 m8 q8] 24)) := HB8.out.trans (hb89.mono HB8.out.size)
      have HB9 := Lib.hid (HB7.out.trans (hb79.mono HB7.out.size))
      have HR9 := Lib.hid ((hb79.block _ (in_heap HR7.out)).trans HR7.out)
      have HXX := Lib.hid ((hb79.block _ (in_heap HX7.out)).trans HX7.out)
      have HT9 := Lib.hid ((HRD8.out.heap fun b hb => hb89.block b hb.2).toR (B := (w8.alloc (.cells #[.int .i64 k8, .int .i64 n8, .string y8, .string v8, .slice A8 m8 q8] 24)).heap.size) (fun b hb => Nat.lt_of_lt_of_le hb.2 hb89.size))
      have HTX := Lib.hid ((HT7.out.low hb79).more hb79.size)
      generalize w8.alloc (.cells #[.int .i64 k8, .int .i64 n8, .string y8, .string v8, .slice A8 m8 q8] 24) = w9 at *
      generalize hz8 : w8.heap.size = z8 at *
      have HSM0 := Lib.hid (fun V' (hV' : Below w9.heap.size w9 V') => (refsame_rec HTX.out _ _ HT9.out V' hV' (Below.size hV')).mono (fun e w' hh => (by obtain ⟨b, he, hb, hl⟩ := hh; exact ⟨by rw [he, hb.2 rfl], hl⟩ : e = .returned (.bool true) ∧ Below V'.heap.size V' w')))
      clear hb89 hb79 hz8 HRD8 HB8
      generalize hB0 : W.heap.size = B0 at *
      have HBZ := Lib.hid hB0
      clear hB0
      go_wp2_with fail
      obtain ⟨WD, hW⟩ : ∃ U, U = w9.drew := ⟨_, rfl⟩
      have hWr : Below w9.heap.size w9 WD := by rw [hW]; exact ⟨rfl, rfl, rfl, Nat.le_refl _, fun _ _ => rfl⟩
      have HST := Lib.hid (show ∀ V, Below WD.heap.size WD V → V.heap[B0]? = some (.cells #[.int .i64 k, .int .i64 n, .string key, .string val, .slice kA m kc] 24) ∧ V.heap[z5]? = some (.cells #[.int .i64 k5, .int .i64 n5, .string y5, .string v5, .slice A5 m5 q5] 24) ∧ V.heap[z8]? = some (.cells #[.int .i64 k8, .int .i64 n8, .string y8, .string v8, .slice A8 m8 q8] 24) ∧ Below w9.heap.size w9 V ∧ Below B0 W V from fun V hV => by
        have h1 := hWr.trans (hV.mono hWr.size)
        have hz9 : B0 ≤ w9.heap.size := by rw [← HBZ.out]; exact HB9.out.size
        have hA := HB9.out.trans (h1.mono hz9)
        have hR := (h1.block _ (in_heap HR9.out)).trans HR9.out
        exact ⟨by first | exact hR | (rw [← HBZ.out]; exact hR), (h1.block _ (in_heap HXX.out)).trans HXX.out, (h1.block _ (in_heap HX9.out)).trans HX9.out, h1, by first | exact hA | (rw [← HBZ.out]; exact hA)⟩)
      have HSM := Lib.hid HSM0.out
      simp only [rcs] at HSM
      refine PI.wp_region_persG (R := (fun w w' => Below w.heap.size w w')) (G := fun _ _ => True) (I := fun _ _ _ => True) [(1, 0), (3, 2), (4, 1), (4, 3), (5, 4), (6, 5), (7, 5), (8, 5), (8, 6), (8, 7), (9, 5), (9, 8), (10, 9), (11, 10), (12, 10), (13, 10), (13, 11), (13, 12), (14, 10), (14, 13), (15, 14), (16, 15), (17, 15), (17, 16), (18, 15), (19, 15), (19, 17), (19, 18), (20, 15), (20, 19), (21, 20)] [21] (by kernel_rfl) (PI.formed_of (by kernel_rfl)) ⟨fun w => Below.refl _ w, fun _ _ _ h k => h.trans (k.mono h.size)⟩ (fun _ => trivial) (WtF B0 z5 z8 k n key val kA m kc k5 n5 y5 v5 A5 m5 q5 k8 n8 y8 v8 A8 m8 q8 S a1 a2) trivial ?_ ?_
      · rw [← hW]
        intro i o ho
        rcases i with _ | _ | _ | _ | _ | _ | _ | _ | _ | _ | _ | _ | _ | _ | _ | _ | _ | _ | _ | _ | _ | _ | i
        · obtain rfl := Option.some.inj (show some _ = some o from ho)
          refine PI.shown_val rfl fun a w5 L0 hr T => ?_
          have h1 : a.eval (.tmp 2) = .pointer (some ⟨B0, 0, none⟩) := T.was 2 (by kernel_rfl)
          have g0 := HST.out w5 hr
          have g1 : w5.cell? ⟨B0, 0, none⟩ = some (.int .i64 k) := cell_of_row _ _ 0 _ _ (0, 0) g0.1
          have g2 : w5.cell? ⟨B0, 1, none⟩ = some (.int .i64 n) := cell_of_row _ _ 1 _ _ (0, 0) g0.1
          have g3 : w5.cell? ⟨B0, 2, none⟩ = some (.string key) := cell_of_row _ _ 2 _ _ (0, 0) g0.1
          have g4 : w5.cell? ⟨B0, 3, none⟩ = some (.string val) := cell_of_row _ _ 3 _ _ (0, 0) g0.1
          have g5 : w5.cell? ⟨B0, 4, none⟩ = some (.slice kA m kc) := cell_of_row _ _ 4 _ _ (0, 0) g0.1
          exact ⟨.agg #[.int .i64 k, .int .i64 n, .string key, .string val, .slice kA m kc], w5, by simp only [execOp, h1]; simp [go_sem, g1, g2, g3, g4, g5], PI.Post.pure ⟨fun w => Below.refl _ w, fun _ _ _ h k => h.trans (k.mono h.size)⟩ rfl trivial⟩
        · obtain rfl := Option.some.inj (show some _ = some o from ho)
          refine PI.shown_call rfl 11 fun a w5 L0 hr T => ?_
          have h0 : a.eval (.tmp 38) = .agg #[.int .i64 k, .int .i64 n, .string key, .string val, .slice kA m kc] := T.at_ 0 38 (by kernel_rfl) (by kernel_rfl) (by kernel_rfl)
          refine ⟨#[.agg #[.int .i64 k, .int .i64 n, .string key, .string val, .slice kA m kc]], by simp only [execOp, resolve, List.map_toArray, List.map_cons, List.map_nil, h0]; simp [go_sem, Act.eval], ?_⟩
          refine (HPR.out w5 (by first | exact (HST.out w5 hr).2.2.2.2 | (rw [HBZ.out]; exact (HST.out w5 hr).2.2.2.2))).mono fun e w6 hh => ?_
          obtain ⟨rfl, hb6⟩ := hh
          exact ⟨_, rfl, hb6, rfl, fun _ _ h => h, fun j v _ _ _ _ h => WtF.keep h, trivial⟩
        · obtain rfl := Option.some.inj (show some _ = some o from ho)
          refine PI.shown_val rfl fun a w5 L0 hr T => ?_
          have h1 : a.eval (.tmp 2) = .pointer (some ⟨B0, 0, none⟩) := T.was 2 (by kernel_rfl)
          have g0 := HST.out w5 hr
          have g1 : w5.cell? ⟨B0, 0, none⟩ = some (.int .i64 k) := cell_of_row _ _ 0 _ _ (0, 0) g0.1
          have g2 : w5.cell? ⟨B0, 1, none⟩ = some (.int .i64 n) := cell_of_row _ _ 1 _ _ (0, 0) g0.1
          have g3 : w5.cell? ⟨B0, 2, none⟩ = some (.string key) := cell_of_row _ _ 2 _ _ (0, 0) g0.1
          have g4 : w5.cell? ⟨B0, 3, none⟩ = some (.string val) := cell_of_row _ _ 3 _ _ (0, 0) g0.1
          have g5 : w5.cell? ⟨B0, 4, none⟩ = some (.slice kA m kc) := cell_of_row _ _ 4 _ _ (0, 0) g0.1
          exact ⟨.agg #[.int .i64 k, .int .i64 n, .string key, .string val, .slice kA m kc], w5, by simp only [execOp, h1]; simp [go_sem, g1, g2, g3, g4, g5], PI.Post.pure ⟨fun w => Below.refl _ w, fun _ _ _ h k => h.trans (k.mono h.size)⟩ rfl trivial⟩
        · obtain rfl := Option.some.inj (show some _ = some o from ho)
          refine PI.shown_call rfl 12 fun a w5 L0 hr T => ?_
          have h0 : a.eval (.tmp 40) = .agg #[.int .i64 k, .int .i64 n, .string key, .string val, .slice kA m kc] := T.at_ 2 40 (by kernel_rfl) (by kernel_rfl) (by kernel_rfl)
          refine ⟨#[.agg #[.int .i64 k, .int .i64 n, .string key, .string val, .slice kA m kc]], by simp only [execOp, resolve, List.map_toArray, List.map_cons, List.map_nil, h0]; simp [go_sem, Act.eval], ?_⟩
          refine (HDP.out w5 (by first | exact (HST.out w5 hr).2.2.2.2 | (rw [HBZ.out]; exact (HST.out w5 hr).2.2.2.2))).mono fun e w6 hh => ?_
          obtain ⟨rfl, hb6⟩ := hh
          exact ⟨_, rfl, hb6, rfl, fun _ _ h => h, fun j v _ _ _ _ h => WtF.keep h, trivial⟩
        · obtain rfl := Option.some.inj (show some _ = some o from ho)
          refine PI.shown_val rfl fun a w5 L0 hr T => ?_
          have h1 : a.eval (.tmp 39) = .string S := T.at_ 1 39 (by kernel_rfl) (by kernel_rfl) (by kernel_rfl)
          have h2 : a.eval (.tmp 41) = .string S := T.at_ 3 41 (by kernel_rfl) (by kernel_rfl) (by kernel_rfl)
          exact ⟨.bool true, w5, by simp only [execOp, h1, h2]; simp [go_sem, Act.eval], PI.Post.pure ⟨fun w => Below.refl _ w, fun _ _ _ h k => h.trans (k.mono h.size)⟩ rfl trivial⟩
        · obtain rfl := Option.some.inj (show some _ = some o from ho)
          refine PI.shown_val rfl fun a w5 L0 hr T => ?_
          have h1 : a.eval (.tmp 42) = .bool true := T.at_ 4 42 (by kernel_rfl) (by kernel_rfl) (by kernel_rfl)
          exact ⟨.bool true, w5, by simp only [execOp, h1]; simp [go_sem], PI.Post.pure ⟨fun w => Below.refl _ w, fun _ _ _ h k => h.trans (k.mono h.size)⟩ rfl trivial⟩
        · obtain rfl := Option.some.inj (show some _ = some o from ho)
          refine PI.shown_val_if 5 43 true rfl (by kernel_rfl) (by kernel_rfl) (by kernel_rfl) (fun v w h => h) fun a w5 L0 hr T => ?_
          have h1 : a.eval (.tmp 6) = .pointer (some ⟨z5, 0, none⟩) := T.was 6 (by kernel_rfl)
          have g0 := HST.out w5 hr
          have g1 : w5.cell? ⟨z5, 0, none⟩ = some (.int .i64 k5) := cell_of_row _ _ 0 _ _ (0, 0) g0.2.1
          have g2 : w5.cell? ⟨z5, 1, none⟩ = some (.int .i64 n5) := cell_of_row _ _ 1 _ _ (0, 0) g0.2.1
          have g3 : w5.cell? ⟨z5, 2, none⟩ = some (.string y5) := cell_of_row _ _ 2 _ _ (0, 0) g0.2.1
          have g4 : w5.cell? ⟨z5, 3, none⟩ = some (.string v5) := cell_of_row _ _ 3 _ _ (0, 0) g0.2.1
          have g5 : w5.cell? ⟨z5, 4, none⟩ = some (.slice A5 m5 q5) := cell_of_row _ _ 4 _ _ (0, 0) g0.2.1
          exact ⟨.agg #[.int .i64 k5, .int .i64 n5, .string y5, .string v5, .slice A5 m5 q5], w5, by simp only [execOp, h1]; simp [go_sem, g1, g2, g3, g4, g5], PI.Post.pure ⟨fun w => Below.refl _ w, fun _ _ _ h k => h.trans (k.mono h.size)⟩ rfl trivial⟩
        · obtain rfl := Option.some.inj (show some _ = some o from ho)
          refine PI.shown_val_if 5 43 true rfl (by kernel_rfl) (by kernel_rfl) (by kernel_rfl) (fun v w h => h) fun a w5 L0 hr T => ?_
          have h1 : a.eval (.tmp 9) = .pointer (some ⟨z8, 0, none⟩) := T.was 9 (by kernel_rfl)
          have g0 := HST.out w5 hr
          have g1 : w5.cell? ⟨z8, 0, none⟩ = some (.int .i64 k8) := cell_of_row _ _ 0 _ _ (0, 0) g0.2.2.1
          have g2 : w5.cell? ⟨z8, 1, none⟩ = some (.int .i64 n8) := cell_of_row _ _ 1 _ _ (0, 0) g0.2.2.1
          have g3 : w5.cell? ⟨z8, 2, none⟩ = some (.string y8) := cell_of_row _ _ 2 _ _ (0, 0) g0.2.2.1
          have g4 : w5.cell? ⟨z8, 3, none⟩ = some (.string v8) := cell_of_row _ _ 3 _ _ (0, 0) g0.2.2.1
          have g5 : w5.cell? ⟨z8, 4, none⟩ = some (.slice A8 m8 q8) := cell_of_row _ _ 4 _ _ (0, 0) g0.2.2.1
          exact ⟨.agg #[.int .i64 k8, .int .i64 n8, .string y8, .string v8, .slice A8 m8 q8], w5, by simp only [execOp, h1]; simp [go_sem, g1, g2, g3, g4, g5], PI.Post.pure ⟨fun w => Below.refl _ w, fun _ _ _ h k => h.trans (k.mono h.size)⟩ rfl trivial⟩
        · obtain rfl := Option.some.inj (show some _ = some o from ho)
          refine PI.shown_call_if 5 43 true rfl (by kernel_rfl) (by kernel_rfl) (by kernel_rfl) (fun v w h => h) 13 fun a w5 L0 hr T => ?_
          have h0 : a.eval (.tmp 44) = .agg #[.int .i64 k5, .int .i64 n5, .string y5, .string v5, .slice A5 m5 q5] := T.at_ 6 44 (by kernel_rfl) (by kernel_rfl) (by kernel_rfl)
          have h1 : a.eval (.tmp 45) = .agg #[.int .i64 k8, .int .i64 n8, .string y8, .string v8, .slice A8 m8 q8] := T.at_ 7 45 (by kernel_rfl) (by kernel_rfl) (by kernel_rfl)
          refine ⟨#[.agg #[.int .i64 k5, .int .i64 n5, .string y5, .string v5, .slice A5 m5 q5], .agg #[.int .i64 k8, .int .i64 n8, .string y8, .string v8, .slice A8 m8 q8]], by simp only [execOp, resolve, List.map_toArray, List.map_cons, List.map_nil, h0, h1]; simp [go_sem, Act.eval], ?_⟩
          refine (HSM.out w5 (HST.out w5 hr).2.2.2.1).mono fun e w6 hh => ?_
          obtain ⟨rfl, hb6⟩ := hh
          exact ⟨_, rfl, hb6, rfl, fun _ _ h => h, fun j v _ _ _ _ h => WtF.keep h, trivial⟩
        · obtain rfl := Option.some.inj (show some _ = some o from ho)
          refine PI.shown_val rfl fun a w5 L0 hr T => ?_
          have h0 : a.eval (.tmp 43) = .bool true := T.at_ 5 43 (by kernel_rfl) (by kernel_rfl) (by kernel_rfl)
          have h1 : a.eval (.tmp 46) = .bool true := T.at_ 8 46 (by kernel_rfl) (by kernel_rfl) (by kernel_rfl)
          exact ⟨.bool true, w5, by simp only [execOp, h0, h1]; simp [go_sem, Act.eval], PI.Post.pure ⟨fun w => Below.refl _ w, fun _ _ _ h k => h.trans (k.mono h.size)⟩ rfl trivial⟩
        · obtain rfl := Option.some.inj (show some _ = some o from ho)
          refine PI.shown_val rfl fun a w5 L0 hr T => ?_
          have h1 : a.eval (.tmp 47) = .bool true := T.at_ 9 47 (by kernel_rfl) (by kernel_rfl) (by kernel_rfl)
          exact ⟨.bool true, w5, by simp only [execOp, h1]; simp [go_sem], PI.Post.pure ⟨fun w => Below.refl _ w, fun _ _ _ h k => h.trans (k.mono h.size)⟩ rfl trivial⟩
        · obtain rfl := Option.some.inj (show some _ = some o from ho)
          refine PI.shown_val_if 10 48 true rfl (by kernel_rfl) (by kernel_rfl) (by kernel_rfl) (fun v w h => h) fun a w5 L0 hr T => ?_
          have h1 : a.eval (.tmp 7) = .int .i64 a1 := T.was 7 (by kernel_rfl)
          exact ⟨.int .i64 a1, w5, by simp only [execOp, h1]; simp [go_sem], PI.Post.pure ⟨fun w => Below.refl _ w, fun _ _ _ h k => h.trans (k.mono h.size)⟩ rfl trivial⟩
        · obtain rfl := Option.some.inj (show some _ = some o from ho)
          refine PI.shown_val_if 10 48 true rfl (by kernel_rfl) (by kernel_rfl) (by kernel_rfl) (fun v w h => h) fun a w5 L0 hr T => ?_
          have h1 : a.eval (.tmp 10) = .int .i64 a1 := T.was 10 (by kernel_rfl)
          exact ⟨.int .i64 a1, w5, by simp only [execOp, h1]; simp [go_sem], PI.Post.pure ⟨fun w => Below.refl _ w, fun _ _ _ h k => h.trans (k.mono h.size)⟩ rfl trivial⟩
        · obtain rfl := Option.some.inj (show some _ = some o from ho)
          refine PI.shown_val_if 10 48 true rfl (by kernel_rfl) (by kernel_rfl) (by kernel_rfl) (fun v w h => h) fun a w5 L0 hr T => ?_
          have h1 : a.eval (.tmp 49) = .int .i64 a1 := T.at_ 11 49 (by kernel_rfl) (by kernel_rfl) (by kernel_rfl)
          have h2 : a.eval (.tmp 50) = .int .i64 a1 := T.at_ 12 50 (by kernel_rfl) (by kernel_rfl) (by kernel_rfl)
          exact ⟨.bool true, w5, by simp only [execOp, h1, h2]; simp [go_sem, Act.eval], PI.Post.pure ⟨fun w => Below.refl _ w, fun _ _ _ h k => h.trans (k.mono h.size)⟩ rfl trivial⟩
        · obtain rfl := Option.some.inj (show some _ = some o from ho)
          refine PI.shown_val rfl fun a w5 L0 hr T => ?_
          have h0 : a.eval (.tmp 48) = .bool true := T.at_ 10 48 (by kernel_rfl) (by kernel_rfl) (by kernel_rfl)
          have h1 : a.eval (.tmp 51) = .bool true := T.at_ 13 51 (by kernel_rfl) (by kernel_rfl) (by kernel_rfl)
          exact ⟨.bool true, w5, by simp only [execOp, h0, h1]; simp [go_sem, Act.eval], PI.Post.pure ⟨fun w => Below.refl _ w, fun _ _ _ h k => h.trans (k.mono h.size)⟩ rfl trivial⟩
        · obtain rfl := Option.some.inj (show some _ = some o from ho)
          refine PI.shown_val rfl fun a w5 L0 hr T => ?_
          have h1 : a.eval (.tmp 52) = .bool true := T.at_ 14 52 (by kernel_rfl) (by kernel_rfl) (by kernel_rfl)
          exact ⟨.bool true, w5, by simp only [execOp, h1]; simp [go_sem], PI.Post.pure ⟨fun w => Below.refl _ w, fun _ _ _ h k => h.trans (k.mono h.size)⟩ rfl trivial⟩
        · obtain rfl := Option.some.inj (show some _ = some o from ho)
          refine PI.shown_val_if 15 53 true rfl (by kernel_rfl) (by kernel_rfl) (by kernel_rfl) (fun v w h => h) fun a w5 L0 hr T => ?_
          have h1 : a.eval (.tmp 8) = .int .i64 a2 := T.was 8 (by kernel_rfl)
          exact ⟨.int .i64 a2, w5, by simp only [execOp, h1]; simp [go_sem], PI.Post.pure ⟨fun w => Below.refl _ w, fun _ _ _ h k => h.trans (k.mono h.size)⟩ rfl trivial⟩
        · obtain rfl := Option.some.inj (show some _ = some o from ho)
          refine PI.shown_call_if 15 53 true rfl (by kernel_rfl) (by kernel_rfl) (by kernel_rfl) (fun v w h => h) 14 fun a w5 L0 hr T => ?_
          have h0 : a.eval (.tmp 54) = .int .i64 a2 := T.at_ 16 54 (by kernel_rfl) (by kernel_rfl) (by kernel_rfl)
          refine ⟨#[.int .i64 a2], by simp only [execOp, resolve, List.map_toArray, List.map_cons, List.map_nil, h0]; simp [go_sem, Act.eval], ?_⟩
          refine ((num28 a2 w5).mono (fun e w6 hh => (⟨hh.1, hh.2 ▸ Below.refl _ _⟩ : e = .returned (.int .i64 a2) ∧ Below w5.heap.size w5 w6))).mono fun e w6 hh => ?_
          obtain ⟨rfl, hb6⟩ := hh
          exact ⟨_, rfl, hb6, rfl, fun _ _ h => h, fun j v _ _ _ _ h => WtF.keep h, trivial⟩
        · obtain rfl := Option.some.inj (show some _ = some o from ho)
          refine PI.shown_val_if 15 53 true rfl (by kernel_rfl) (by kernel_rfl) (by kernel_rfl) (fun v w h => h) fun a w5 L0 hr T => ?_
          have h1 : a.eval (.tmp 11) = .int .i64 a2 := T.was 11 (by kernel_rfl)
          exact ⟨.int .i64 a2, w5, by simp only [execOp, h1]; simp [go_sem], PI.Post.pure ⟨fun w => Below.refl _ w, fun _ _ _ h k => h.trans (k.mono h.size)⟩ rfl trivial⟩
        · obtain rfl := Option.some.inj (show some _ = some o from ho)
          refine PI.shown_val_if 15 53 true rfl (by kernel_rfl) (by kernel_rfl) (by kernel_rfl) (fun v w h => h) fun a w5 L0 hr T => ?_
          have h1 : a.eval (.tmp 55) = .int .i64 a2 := T.at_ 17 55 (by kernel_rfl) (by kernel_rfl) (by kernel_rfl)
          have h2 : a.eval (.tmp 56) = .int .i64 a2 := T.at_ 18 56 (by kernel_rfl) (by kernel_rfl) (by kernel_rfl)
          exact ⟨.bool true, w5, by simp only [execOp, h1, h2]; simp [go_sem, Act.eval], PI.Post.pure ⟨fun w => Below.refl _ w, fun _ _ _ h k => h.trans (k.mono h.size)⟩ rfl trivial⟩
        · obtain rfl := Option.some.inj (show some _ = some o from ho)
          refine PI.shown_val rfl fun a w5 L0 hr T => ?_
          have h0 : a.eval (.tmp 53) = .bool true := T.at_ 15 53 (by kernel_rfl) (by kernel_rfl) (by kernel_rfl)
          have h1 : a.eval (.tmp 57) = .bool true := T.at_ 19 57 (by kernel_rfl) (by kernel_rfl) (by kernel_rfl)
          exact ⟨.bool true, w5, by simp only [execOp, h0, h1]; simp [go_sem, Act.eval], PI.Post.pure ⟨fun w => Below.refl _ w, fun _ _ _ h k => h.trans (k.mono h.size)⟩ rfl trivial⟩
        · obtain rfl := Option.some.inj (show some _ = some o from ho)
          refine PI.shown_val rfl fun a w5 L0 hr T => ?_
          have h1 : a.eval (.tmp 58) = .bool true := T.at_ 20 58 (by kernel_rfl) (by kernel_rfl) (by kernel_rfl)
          exact ⟨.bool true, w5, by simp only [execOp, h1]; simp [go_sem], PI.Post.pure ⟨fun w => Below.refl _ w, fun _ _ _ h k => h.trans (k.mono h.size)⟩ rfl trivial⟩
        · cases ho
      · rw [← hW]
        intro x wE hr hf he _
        have h21 := hf 21 _ 4 rfl rfl (by decide)
        have hx21 : x 21 = .bool true := h21
        have HBE := Lib.hid (HST.out wE hr).2.2.2.2
        clear hf he hr h21
        simp only [PI.putAll, Act.put, List.setIfInBounds_toArray, List.set_cons_zero, List.set_cons_succ]
        rw [hx21]
        go_wp2_with fail
        go_ret
        exact ⟨rfl, by first | exact HBE.out | (rw [HBZ.out]; exact HBE.out)⟩
end Go.Proofs.YtgiahfjndononaaDoor
