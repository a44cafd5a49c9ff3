/- QuantOrder: the walk. -/
import Derived.Test.YtkmcdeejkcncpaaDoorQa
import Derived.Test.YtkmcdeejkcncpaaDoorQo
import Derived.Test.YtkmcdeejkcncpaaDoorRef8
import Derived.Test.YtkmcdeejkcncpaaDoorLib
import Derived.IntWalk
import Derived.Deep.DeepCutAuto
namespace Go.Proofs.YtkmcdeejkcncpaaDoor
open Go.RowKit
set_option linter.unusedVariables false

theorem and16 (z : Int) : 0 ≤ bits .and .i64 z 65535 ∧ bits .and .i64 z 65535 ≤ 65535 := by
  have h : (BitVec.ofInt 64 z &&& BitVec.ofInt 64 65535).toNat ≤ 65535 := by
    rw [BitVec.toNat_and]
    exact Nat.le_trans Nat.and_le_right (by decide)
  have e : bits .and .i64 z 65535 = IntKind.i64.wrap ((BitVec.ofInt 64 z &&& BitVec.ofInt 64 65535).toNat : Int) := rfl
  rw [e, IntWalk.i64_in _ (by omega)]
  omega
theorem Lows.setc {w : World} {a : Addr} (h : Lows w) (hne : a.block ≠ 1) (v : Value) : Lows (w.setCell a v) := fun i hi => (World.cell?_setCell_far _ _ _ _ hne).trans (h i hi)
/-- The ten numbers as a list. -/
def tenL (t : Nat → Int) : List Int := (List.range 10).map t
theorem tenL_at (t : Nat → Int) (i : Nat) (h : i < 10) : (tenL t).getD i 0 = t i := by simp [tenL, List.getD, h]
theorem tenL_off (t : Nat → Int) (i : Nat) (h : ¬ i < 10) : (tenL t).getD i 0 = 0 := by simp [tenL, List.getD, h]
theorem outA_eight (t : Nat → Int) : outA t 8 = Cv (tenL t) := by
  unfold outA Cv tenL
  rw [show Array.range 10 = #[0, 1, 2, 3, 4, 5, 6, 7, 8, 9] from rfl]
  simp [List.range, List.range.loop]

set_option maxHeartbeats 1000000 in
set_option maxRecDepth 100000 in
theorem order31_out (bA : Option Addr) (bn bc : Nat) (p q : Int) (w : World) (T : Lows w) (h : bn < 8 ∨ p < 0 ∨ q < p ∨ 1000 < q) (hb : bn ≤ maxLen) :
    Calls Tryd.prog 6 #[.slice bA bn bc, .int .i64 p, .int .i64 q] w fun e w' => e = .returned (.bool true) ∧ Below w.heap.size w w' := by
  unfold maxLen at hb
  have hh : (bn < 8) ∨ (¬ bn < 8 ∧ p < 0) ∨ (¬ bn < 8 ∧ ¬ p < 0 ∧ q < p) ∨ (¬ bn < 8 ∧ ¬ p < 0 ∧ ¬ q < p ∧ 1000 < q) := by omega
  clear h
  have HT := Lib.hid T
  clear T
  rcases hh with h1 | ⟨h1, h2⟩ | ⟨h1, h2, h3⟩ | ⟨h1, h2, h3, h4⟩
  all_goals
    go_enter Tryd.func6, Tryd.ntmps6
    go_wp2_with (go_at_call 16; refine (alive31_calls _ HT.out).mono ?_; rintro e w1 ⟨rfl, hb1⟩)
    go_ret
    exact ⟨rfl, hb1⟩

set_option maxHeartbeats 8000000 in
set_option maxRecDepth 100000 in
theorem order31_in (bA : Option Addr) (l : List Int) (bn bc : Nat) (p q : Int) (w : World) (T : Lows w) (h1 : 8 ≤ bn) (h2 : 0 ≤ p) (h3 : p ≤ q) (h4 : q ≤ 1000) (hl : bn = l.length) (hb : bn ≤ maxLen)
    (rb : Rd w w.heap.size bA (l.map (Value.int .i64))) :
    Calls Tryd.prog 6 #[.slice bA bn bc, .int .i64 p, .int .i64 q] w fun e w' => e = .returned (.bool true) ∧ Below w.heap.size w w' := by
  unfold maxLen at hb
  obtain ⟨t, ht⟩ : ∃ t : Nat → Int, ∀ i, t i = if i < 2 then 0 else bits .and .i64 (l.getD (i - 2) 0) 65535 := ⟨_, fun _ => rfl⟩
  obtain ⟨t2, ht2⟩ : ∃ t2 : Nat → Int, ∀ i, t2 i = 2 * t i := ⟨_, fun _ => rfl⟩
  have bt : ∀ i, 0 ≤ t i ∧ t i ≤ 65535 := fun i => by
    rw [ht]
    split
    · omega
    · exact and16 _
  have bL : ∀ i, 0 ≤ (tenL t).getD i 0 ∧ (tenL t).getD i 0 ≤ 65535 := fun i => by
    by_cases hi : i < 10
    · rw [tenL_at t i hi]; exact bt i
    · rw [tenL_off t i hi]; omega
  have dL : ∀ i, (tenL t2).getD i 0 = 2 * (tenL t).getD i 0 := fun i => by
    by_cases hi : i < 10
    · rw [tenL_at t i hi, tenL_at t2 i hi]; exact ht2 i
    · rw [tenL_off t i hi, tenL_off t2 i hi]; omega
  have o1 : okC (tenL t) := fun i => by have := bL i; omega
  have o2 : okC (tenL t2) := fun i => by have := bL i; have := dL i; omega
  have QA := fun W T => Lib.hid (quantile_any (tenL t) p W T o1)
  have QB := fun W T => Lib.hid (quantile_any (tenL t) q W T o1)
  have QX := fun W T => Lib.hid (quantile_any (tenL t2) q W T o2)
  rw [Qm.quant_double (tenL t) (tenL t2) bL dL q] at QX
  have HT := Lib.hid T
  have RB := Lib.hid rb
  have HL := Lib.hid hl
  have BT := Lib.hid bt
  have BL := Lib.hid bL
  have TT := Lib.hid ht
  have TT2 := Lib.hid ht2
  clear T rb hl bt bL dL o1 o2 ht ht2
  have g1 : decide ((bn : Int) < 8) = false := by simp; omega
  have g2 : decide (p < 0) = false := by simp; omega
  have g3 : decide (q < p) = false := by simp; omega
  have g4 : decide (1000 < q) = false := by simp; omega
  go_enter Tryd.func6, Tryd.ntmps6
  go_wp2_with (go_at_call 16; refine (alive31_calls _ HT.out).mono ?_; rintro e w1 ⟨rfl, hb1⟩)
  have h8 : ((w1.alloc (.cells #[.int .i64 0, .int .i64 0, .int .i64 0, .int .i64 0, .int .i64 0, .int .i64 0, .int .i64 0, .int .i64 0, .int .i64 0, .int .i64 0] 24)).alloc (.cells #[.int .i64 0, .int .i64 0, .int .i64 0, .int .i64 0, .int .i64 0, .int .i64 0, .int .i64 0, .int .i64 0, .int .i64 0, .int .i64 0] 24)).heap[w1.heap.size]? = some (.cells #[.int .i64 0, .int .i64 0, .int .i64 0, .int .i64 0, .int .i64 0, .int .i64 0, .int .i64 0, .int .i64 0, .int .i64 0, .int .i64 0] 24) := (heap_alloc_old _ _ (by simp)).trans (heap_alloc_new _ _)
  have h9 : ((w1.alloc (.cells #[.int .i64 0, .int .i64 0, .int .i64 0, .int .i64 0, .int .i64 0, .int .i64 0, .int .i64 0, .int .i64 0, .int .i64 0, .int .i64 0] 24)).alloc (.cells #[.int .i64 0, .int .i64 0, .int .i64 0, .int .i64 0, .int .i64 0, .int .i64 0, .int .i64 0, .int .i64 0, .int .i64 0, .int .i64 0] 24)).heap[w1.heap.size + 1]? = some (.cells #[.int .i64 0, .int .i64 0, .int .i64 0, .int .i64 0, .int .i64 0, .int .i64 0, .int .i64 0, .int .i64 0, .int .i64 0, .int .i64 0] 24) := by
    have := heap_alloc_new (w1.alloc (.cells #[.int .i64 0, .int .i64 0, .int .i64 0, .int .i64 0, .int .i64 0, .int .i64 0, .int .i64 0, .int .i64 0, .int .i64 0, .int .i64 0] 24)) (.cells #[.int .i64 0, .int .i64 0, .int .i64 0, .int .i64 0, .int .i64 0, .int .i64 0, .int .i64 0, .int .i64 0, .int .i64 0, .int .i64 0] 24)
    simpa using this
  have hB := (hb1.alloc hb1.size (.cells #[.int .i64 0, .int .i64 0, .int .i64 0, .int .i64 0, .int .i64 0, .int .i64 0, .int .i64 0, .int .i64 0, .int .i64 0, .int .i64 0] 24)).alloc (by simp; have := hb1.size; omega) (.cells #[.int .i64 0, .int .i64 0, .int .i64 0, .int .i64 0, .int .i64 0, .int .i64 0, .int .i64 0, .int .i64 0, .int .i64 0, .int .i64 0] 24)
  have hT := ((HT.out.below hb1 HT.out.lt).alloc (.cells #[.int .i64 0, .int .i64 0, .int .i64 0, .int .i64 0, .int .i64 0, .int .i64 0, .int .i64 0, .int .i64 0, .int .i64 0, .int .i64 0] 24)).alloc (.cells #[.int .i64 0, .int .i64 0, .int .i64 0, .int .i64 0, .int .i64 0, .int .i64 0, .int .i64 0, .int .i64 0, .int .i64 0, .int .i64 0] 24)
  have hz : w1.heap.size + 1 < ((w1.alloc (.cells #[.int .i64 0, .int .i64 0, .int .i64 0, .int .i64 0, .int .i64 0, .int .i64 0, .int .i64 0, .int .i64 0, .int .i64 0, .int .i64 0] 24)).alloc (.cells #[.int .i64 0, .int .i64 0, .int .i64 0, .int .i64 0, .int .i64 0, .int .i64 0, .int .i64 0, .int .i64 0, .int .i64 0, .int .i64 0] 24)).heap.size := by simp
  have hC : w.heap.size ≤ w1.heap.size := hb1.size
  have hTlt : 1 < w.heap.size := HT.out.lt
  generalize (w1.alloc (.cells #[.int .i64 0, .int .i64 0, .int .i64 0, .int .i64 0, .int .i64 0, .int .i64 0, .int .i64 0, .int .i64 0, .int .i64 0, .int .i64 0] 24)).alloc (.cells #[.int .i64 0, .int .i64 0, .int .i64 0, .int .i64 0, .int .i64 0, .int .i64 0, .int .i64 0, .int .i64 0, .int .i64 0, .int .i64 0] 24) = W1 at *
  generalize w1.heap.size = C at *
  generalize hB0 : w.heap.size = B at *
  have HB0 := Lib.hid hB0
  have H8 := Lib.hid h8
  have H9 := Lib.hid h9
  have HBW := Lib.hid hB
  have HTW := Lib.hid hT
  have HZ := Lib.hid hz
  have HCB := Lib.hid hC
  have hBnd := Lib.hid hTlt
  clear hB0 h8 h9 hB hT hz hC hb1 HT hTlt
  go_loopw [10, 11] (fun a i wr => ∃ k : Nat, k ≤ 8 ∧ i = .int .i64 k ∧ a = .bool (Qm.anyB (tenL t) k) ∧ Hid (wr.heap[C]? = some (.cells (outA t k) 24)) ∧ Hid (wr.heap[C + 1]? = some (.cells (outA t2 k) 24)) ∧ Hid (Below B w wr ∧ Lows wr ∧ C + 1 < wr.heap.size)) (fun _ i _ => 8 - (intOf i).toNat)
  case atStart =>
    have e0 : t 0 = 0 := by rw [TT.out]; rfl
    have e1 : t 1 = 0 := by rw [TT.out]; rfl
    exact ⟨0, by omega, rfl, rfl, by rw [outA_zero, e0, e1]; exact H8, by rw [outA_zero, TT2.out, TT2.out, e0, e1]; exact H9, Lib.hid ⟨HBW.out, HTW.out, HZ.out⟩⟩
  case round =>
    obtain ⟨k, hk, rfl, rfl, K8, K9, KK⟩ := hrel
    clear H8 H9 HBW HTW HZ
    by_cases hlt : k < 8
    · have kd : k < l.length := by rw [← HL.out]; omega
      obtain ⟨a, rfl, ba, hca⟩ := (RB.out.below KK.out.1).at_ (k := k) (by simpa using kd)
      rw [List.getElem_map] at hca
      have htk : t (2 + k) = bits .and .i64 l[k] 65535 := by
        rw [TT.out, if_neg (by omega), show 2 + k - 2 = k from by omega, List.getD_eq_getElem?_getD, List.getElem?_eq_getElem kd]
        rfl
      have ht2k := TT2.out (2 + k)
      have byk := BT.out (2 + k)
      have HA : Hid (Qm.anyB (tenL t) (k + 1) = (Qm.anyB (tenL t) k || decide (0 < t (2 + k)))) := by
        show _ = _
        rw [← tenL_at t (2 + k) (by omega)]
        rfl
      generalize l[k] = zk at *
      obtain ⟨yk, hyk⟩ : ∃ yk, yk = t (2 + k) := ⟨_, rfl⟩
      rw [← hyk] at htk ht2k byk HA
      have HYK := Lib.hid hyk
      have HT2K := Lib.hid ht2k
      have hand := htk.symm
      clear hyk ht2k htk kd
      have cr := (cell_of_row _ _ (2 + k) _ 24 (0, 0) K8.out).trans (outA_at t k (2 + k) (by omega))
      rw [if_neg (by omega)] at cr
      have fz : wr.frozen? ⟨C, 2 + k, none⟩ = false := by have h := K8.out; simp [World.frozen?, h]
      have cr2 := (cell_of_row _ _ (2 + k) _ 24 (0, 0) K9.out).trans (outA_at t2 k (2 + k) (by omega))
      rw [if_neg (by omega)] at cr2
      have fz2 : wr.frozen? ⟨C + 1, 2 + k, none⟩ = false := by have h := K9.out; simp [World.frozen?, h]
      have ik0 : (0 : Int) ≤ (k : Int) := by omega
      have ik1 : (k : Int) < 8 := by omega
      have ik2 : (k : Int) < (bn : Int) := by omega
      have F8 : ∀ v : Int, v = 2 * yk → Hid (((wr.setCell ⟨C, 2 + k, none⟩ (.int .i64 yk)).setCell ⟨C + 1, 2 + k, none⟩ (.int .i64 v)).heap[C]? = some (.cells (outA t (k + 1)) 24) ∧ ((wr.setCell ⟨C, 2 + k, none⟩ (.int .i64 yk)).setCell ⟨C + 1, 2 + k, none⟩ (.int .i64 v)).heap[C + 1]? = some (.cells (outA t2 (k + 1)) 24) ∧ (Below B w ((wr.setCell ⟨C, 2 + k, none⟩ (.int .i64 yk)).setCell ⟨C + 1, 2 + k, none⟩ (.int .i64 v)) ∧ Lows ((wr.setCell ⟨C, 2 + k, none⟩ (.int .i64 yk)).setCell ⟨C + 1, 2 + k, none⟩ (.int .i64 v)) ∧ C + 1 < ((wr.setCell ⟨C, 2 + k, none⟩ (.int .i64 yk)).setCell ⟨C + 1, 2 + k, none⟩ (.int .i64 v)).heap.size)) := fun v hv => by
        have hcb := HCB.out
        have hbd := hBnd.out
        refine Lib.hid ⟨?_, ?_, (KK.out.1.setCell (show B ≤ C from hcb) _).setCell (show B ≤ C + 1 by omega) _, (KK.out.2.1.setc (show C ≠ _ by omega) _).setc (show C + 1 ≠ _ by omega) _, by simpa using KK.out.2.2⟩
        · rw [← outA_set t k, ← HYK.out]
          exact (Below.heap_setCell _ _ _ _ (by simp)).trans (Go.Joins.block_setCell (i := 2 + k) K8.out _)
        · rw [← outA_set t2 k, HT2K.out, ← hv]
          exact Go.Joins.block_setCell (i := 2 + k) ((Below.heap_setCell _ _ _ _ (by simp)).trans K9.out) _
      have FF := Lib.hid F8
      clear F8
      cases hak : Qm.anyB (tenL t) k
      all_goals
        rw [hak] at HA
        clear hak
        have hyc : 0 < yk ∨ yk ≤ 0 := by omega
        rcases hyc with hy | hy
        all_goals
          go_wp2_with fail
          go_roundw
          case rel => exact ⟨k + 1, by omega, by go_num, by rw [HA.out]; first | rfl | (simp [hy]; done) | (rw [decide_eq_false (by omega)]; rfl) | (rw [decide_eq_true hy]; rfl), Lib.hid (FF.out _ rfl).out.1, Lib.hid (FF.out _ rfl).out.2.1, Lib.hid (FF.out _ rfl).out.2.2⟩
          case measure => simp [intOf]; omega
    · obtain rfl : k = 8 := by omega
      have h8 := K8.out
      have h9 := K9.out
      rw [outA_eight] at h8 h9
      obtain ⟨x0, x1, x2, x3, x4, x5, x6, x7, x8, x9, hxx, _⟩ := Cv_ex8 (tenL t)
      obtain ⟨y0, y1, y2, y3, y4, y5, y6, y7, y8, y9, hyy, _⟩ := Cv_ex8 (tenL t2)
      rw [hxx] at h8 QA QB
      rw [hyy] at h9 QX
      have s0 : wr.cell? ⟨C, 0, none⟩ = some (.int .i64 x0) := cell_of_row _ _ 0 _ 24 (0, 0) h8
      have s1 : wr.cell? ⟨C, 1, none⟩ = some (.int .i64 x1) := cell_of_row _ _ 1 _ 24 (0, 0) h8
      have s2 : wr.cell? ⟨C, 2, none⟩ = some (.int .i64 x2) := cell_of_row _ _ 2 _ 24 (0, 0) h8
      have s3 : wr.cell? ⟨C, 3, none⟩ = some (.int .i64 x3) := cell_of_row _ _ 3 _ 24 (0, 0) h8
      have s4 : wr.cell? ⟨C, 4, none⟩ = some (.int .i64 x4) := cell_of_row _ _ 4 _ 24 (0, 0) h8
      have s5 : wr.cell? ⟨C, 5, none⟩ = some (.int .i64 x5) := cell_of_row _ _ 5 _ 24 (0, 0) h8
      have s6 : wr.cell? ⟨C, 6, none⟩ = some (.int .i64 x6) := cell_of_row _ _ 6 _ 24 (0, 0) h8
      have s7 : wr.cell? ⟨C, 7, none⟩ = some (.int .i64 x7) := cell_of_row _ _ 7 _ 24 (0, 0) h8
      have s8 : wr.cell? ⟨C, 8, none⟩ = some (.int .i64 x8) := cell_of_row _ _ 8 _ 24 (0, 0) h8
      have s9 : wr.cell? ⟨C, 9, none⟩ = some (.int .i64 x9) := cell_of_row _ _ 9 _ 24 (0, 0) h8
      have H8 := Lib.hid h8
      have H9 := Lib.hid h9
      have hz : C + 1 < wr.heap.size := KK.out.2.2
      have hzC : C < wr.heap.size := by omega
      have KBs : Hid (B ≤ wr.heap.size) := Lib.hid (by have := HCB.out; omega)
      clear h8 h9 hxx hyy
      cases hak : Qm.anyB (tenL t) 8
      · rw [Qm.quant_zero _ BL.out p hak] at QA
        rw [Qm.quant_zero _ BL.out q hak] at QB QX
        clear hak
        have hcb := HCB.out
        go_wp2_with (first
          | (have hd := done2; clear done2; go_at_call 17; refine (QX _ G2.out.2.1).out.mono ?_; rintro e w4 ⟨rfl, hb4⟩; have hz4 : C + 1 < w4.heap.size := (by have := hb4.size; omega); have hy4 : C < w4.heap.size := (by omega); have G3 : Hid (Below B w w4) := Lib.hid (G2.out.1.trans (hb4.mono G2.out.2.2)); clear hb4; clear v0 v1 v2 v3 v4 v5 v6 v7 v8 v9)
          | (have hd := done1; clear done1; go_at_call 17; refine (QB _ G1.out.2.1).out.mono ?_; rintro e w3 ⟨rfl, hb3⟩; have hz3 : C + 1 < w3.heap.size := (by have := hb3.size; omega); have hy3 : C < w3.heap.size := (by omega); have G2 : Hid (Below B w w3 ∧ Lows w3 ∧ B ≤ w3.heap.size) := Lib.hid ⟨G1.out.1.trans (hb3.mono G1.out.2.2), G1.out.2.1.below hb3 G1.out.2.1.lt, Nat.le_trans G1.out.2.2 hb3.size⟩; have e9 := Lib.hid ((hb3.block (C + 1) hz2).trans b9.out); clear hb3; have v0 : w3.cell? ⟨C + 1, 0, none⟩ = some (.int .i64 y0) := cell_of_row _ _ 0 _ 24 (0, 0) e9.out; have v1 : w3.cell? ⟨C + 1, 1, none⟩ = some (.int .i64 y1) := cell_of_row _ _ 1 _ 24 (0, 0) e9.out; have v2 : w3.cell? ⟨C + 1, 2, none⟩ = some (.int .i64 y2) := cell_of_row _ _ 2 _ 24 (0, 0) e9.out; have v3 : w3.cell? ⟨C + 1, 3, none⟩ = some (.int .i64 y3) := cell_of_row _ _ 3 _ 24 (0, 0) e9.out; have v4 : w3.cell? ⟨C + 1, 4, none⟩ = some (.int .i64 y4) := cell_of_row _ _ 4 _ 24 (0, 0) e9.out; have v5 : w3.cell? ⟨C + 1, 5, none⟩ = some (.int .i64 y5) := cell_of_row _ _ 5 _ 24 (0, 0) e9.out; have v6 : w3.cell? ⟨C + 1, 6, none⟩ = some (.int .i64 y6) := cell_of_row _ _ 6 _ 24 (0, 0) e9.out; have v7 : w3.cell? ⟨C + 1, 7, none⟩ = some (.int .i64 y7) := cell_of_row _ _ 7 _ 24 (0, 0) e9.out; have v8 : w3.cell? ⟨C + 1, 8, none⟩ = some (.int .i64 y8) := cell_of_row _ _ 8 _ 24 (0, 0) e9.out; have v9 : w3.cell? ⟨C + 1, 9, none⟩ = some (.int .i64 y9) := cell_of_row _ _ 9 _ 24 (0, 0) e9.out; clear u0 u1 u2 u3 u4 u5 u6 u7 u8 u9; have done2 := trivial)
          | (go_at_call 17; refine (QA _ KK.out.2.1).out.mono ?_; rintro e w2 ⟨rfl, hb2⟩; have hz2 : C + 1 < w2.heap.size := (by have := hb2.size; omega); have hy2 : C < w2.heap.size := (by omega); have G1 : Hid (Below B w w2 ∧ Lows w2 ∧ B ≤ w2.heap.size) := Lib.hid ⟨KK.out.1.trans (hb2.mono KBs.out), KK.out.2.1.below hb2 KK.out.2.1.lt, Nat.le_trans KBs.out hb2.size⟩; have b8 := Lib.hid ((hb2.block C hzC).trans H8.out); have b9 := Lib.hid ((hb2.block (C + 1) hz).trans H9.out); clear hb2; have u0 : w2.cell? ⟨C, 0, none⟩ = some (.int .i64 x0) := cell_of_row _ _ 0 _ 24 (0, 0) b8.out; have u1 : w2.cell? ⟨C, 1, none⟩ = some (.int .i64 x1) := cell_of_row _ _ 1 _ 24 (0, 0) b8.out; have u2 : w2.cell? ⟨C, 2, none⟩ = some (.int .i64 x2) := cell_of_row _ _ 2 _ 24 (0, 0) b8.out; have u3 : w2.cell? ⟨C, 3, none⟩ = some (.int .i64 x3) := cell_of_row _ _ 3 _ 24 (0, 0) b8.out; have u4 : w2.cell? ⟨C, 4, none⟩ = some (.int .i64 x4) := cell_of_row _ _ 4 _ 24 (0, 0) b8.out; have u5 : w2.cell? ⟨C, 5, none⟩ = some (.int .i64 x5) := cell_of_row _ _ 5 _ 24 (0, 0) b8.out; have u6 : w2.cell? ⟨C, 6, none⟩ = some (.int .i64 x6) := cell_of_row _ _ 6 _ 24 (0, 0) b8.out; have u7 : w2.cell? ⟨C, 7, none⟩ = some (.int .i64 x7) := cell_of_row _ _ 7 _ 24 (0, 0) b8.out; have u8 : w2.cell? ⟨C, 8, none⟩ = some (.int .i64 x8) := cell_of_row _ _ 8 _ 24 (0, 0) b8.out; have u9 : w2.cell? ⟨C, 9, none⟩ = some (.int .i64 x9) := cell_of_row _ _ 9 _ 24 (0, 0) b8.out; clear s0 s1 s2 s3 s4 s5 s6 s7 s8 s9; have done1 := trivial))
        go_ret
        rw [HB0.out]
        exact ⟨rfl, G3.out⟩
      · have htot := (Qm.anyB_tot _ BL.out 8 (by omega)).mp hak
        obtain ⟨i, hi, hfi, hqi, hpi⟩ := Qm.quant_in _ BL.out p h2 (by omega) htot
        obtain ⟨j, hj, hfj, hqj, hpj⟩ := Qm.quant_in _ BL.out q (by omega) h4 htot
        have hij := Qm.quant_mono _ BL.out p q h2 h3 h4 htot i j hfi hfj
        have hlo := Qm.lows_mono i j hij hj
        rw [hqi] at QA
        rw [hqj] at QB QX
        have OI := fun W => Lib.hid (ofref_any (Qm.lows.getD i 0) W)
        have OJ := fun W => Lib.hid (ofref_any (Qm.lows.getD j 0) W)
        rw [Qm.of_lows i hi] at OI
        rw [Qm.of_lows j hj] at OJ
        rw [tenL_at t (2 + i) (by omega)] at hpi
        rw [tenL_at t (2 + j) (by omega)] at hpj
        have ci := (cell_of_row _ _ (2 + i) _ 24 (0, 0) K8.out).trans (outA_at t 8 (2 + i) (by omega))
        rw [if_pos (by omega)] at ci
        have cj := (cell_of_row _ _ (2 + j) _ 24 (0, 0) K8.out).trans (outA_at t 8 (2 + j) (by omega))
        rw [if_pos (by omega)] at cj
        generalize t (2 + i) = ti at *
        generalize t (2 + j) = tj at *
        generalize Qm.lows.getD i 0 = li at *
        generalize Qm.lows.getD j 0 = lj at *
        have II := Lib.hid ci
        have JJ := Lib.hid cj
        clear ci cj
        clear hak hfi hfj hqi hqj htot K8 K9
        have ii0 : (0 : Int) ≤ (i : Int) := by omega
        have ii1 : (i : Int) < 8 := by omega
        have jj0 : (0 : Int) ≤ (j : Int) := by omega
        have jj1 : (j : Int) < 8 := by omega
        have hcb := HCB.out
        have hqc : q < 1000 ∨ 1000 ≤ q := by omega
        rcases hqc with hq1 | hq1
        all_goals
          go_wp2_with (first
          | (have hd := done2; clear done2; go_at_call 17; refine (QX _ G2.out.2.1).out.mono ?_; rintro e w4 ⟨rfl, hb4⟩; have J4 := Lib.hid ((hb4.cell (p := ⟨C, 2 + j, none⟩) hy3).trans J3.out); have I4 := Lib.hid ((hb4.cell (p := ⟨C, 2 + i, none⟩) hy3).trans I3.out); have hz4 : C + 1 < w4.heap.size := (by have := hb4.size; omega); have hy4 : C < w4.heap.size := (by omega); have G3 : Hid (Below B w w4) := Lib.hid (G2.out.1.trans (hb4.mono G2.out.2.2)); clear hb4; clear v0 v1 v2 v3 v4 v5 v6 v7 v8 v9)
          | (have hd := done1; clear done1; go_at_call 17; refine (QB _ G1.out.2.1).out.mono ?_; rintro e w3 ⟨rfl, hb3⟩; have J3 := Lib.hid ((hb3.cell (p := ⟨C, 2 + j, none⟩) hy2).trans J2.out); have I3 := Lib.hid ((hb3.cell (p := ⟨C, 2 + i, none⟩) hy2).trans I2.out); have hz3 : C + 1 < w3.heap.size := (by have := hb3.size; omega); have hy3 : C < w3.heap.size := (by omega); have G2 : Hid (Below B w w3 ∧ Lows w3 ∧ B ≤ w3.heap.size) := Lib.hid ⟨G1.out.1.trans (hb3.mono G1.out.2.2), G1.out.2.1.below hb3 G1.out.2.1.lt, Nat.le_trans G1.out.2.2 hb3.size⟩; have e9 := Lib.hid ((hb3.block (C + 1) hz2).trans b9.out); clear hb3; have v0 : w3.cell? ⟨C + 1, 0, none⟩ = some (.int .i64 y0) := cell_of_row _ _ 0 _ 24 (0, 0) e9.out; have v1 : w3.cell? ⟨C + 1, 1, none⟩ = some (.int .i64 y1) := cell_of_row _ _ 1 _ 24 (0, 0) e9.out; have v2 : w3.cell? ⟨C + 1, 2, none⟩ = some (.int .i64 y2) := cell_of_row _ _ 2 _ 24 (0, 0) e9.out; have v3 : w3.cell? ⟨C + 1, 3, none⟩ = some (.int .i64 y3) := cell_of_row _ _ 3 _ 24 (0, 0) e9.out; have v4 : w3.cell? ⟨C + 1, 4, none⟩ = some (.int .i64 y4) := cell_of_row _ _ 4 _ 24 (0, 0) e9.out; have v5 : w3.cell? ⟨C + 1, 5, none⟩ = some (.int .i64 y5) := cell_of_row _ _ 5 _ 24 (0, 0) e9.out; have v6 : w3.cell? ⟨C + 1, 6, none⟩ = some (.int .i64 y6) := cell_of_row _ _ 6 _ 24 (0, 0) e9.out; have v7 : w3.cell? ⟨C + 1, 7, none⟩ = some (.int .i64 y7) := cell_of_row _ _ 7 _ 24 (0, 0) e9.out; have v8 : w3.cell? ⟨C + 1, 8, none⟩ = some (.int .i64 y8) := cell_of_row _ _ 8 _ 24 (0, 0) e9.out; have v9 : w3.cell? ⟨C + 1, 9, none⟩ = some (.int .i64 y9) := cell_of_row _ _ 9 _ 24 (0, 0) e9.out; clear u0 u1 u2 u3 u4 u5 u6 u7 u8 u9; have done2 := trivial)
          | (go_at_call 17; refine (QA _ KK.out.2.1).out.mono ?_; rintro e w2 ⟨rfl, hb2⟩; have J2 := Lib.hid ((hb2.cell (p := ⟨C, 2 + j, none⟩) hzC).trans JJ.out); have I2 := Lib.hid ((hb2.cell (p := ⟨C, 2 + i, none⟩) hzC).trans II.out); have hz2 : C + 1 < w2.heap.size := (by have := hb2.size; omega); have hy2 : C < w2.heap.size := (by omega); have G1 : Hid (Below B w w2 ∧ Lows w2 ∧ B ≤ w2.heap.size) := Lib.hid ⟨KK.out.1.trans (hb2.mono KBs.out), KK.out.2.1.below hb2 KK.out.2.1.lt, Nat.le_trans KBs.out hb2.size⟩; have b8 := Lib.hid ((hb2.block C hzC).trans H8.out); have b9 := Lib.hid ((hb2.block (C + 1) hz).trans H9.out); clear hb2; have u0 : w2.cell? ⟨C, 0, none⟩ = some (.int .i64 x0) := cell_of_row _ _ 0 _ 24 (0, 0) b8.out; have u1 : w2.cell? ⟨C, 1, none⟩ = some (.int .i64 x1) := cell_of_row _ _ 1 _ 24 (0, 0) b8.out; have u2 : w2.cell? ⟨C, 2, none⟩ = some (.int .i64 x2) := cell_of_row _ _ 2 _ 24 (0, 0) b8.out; have u3 : w2.cell? ⟨C, 3, none⟩ = some (.int .i64 x3) := cell_of_row _ _ 3 _ 24 (0, 0) b8.out; have u4 : w2.cell? ⟨C, 4, none⟩ = some (.int .i64 x4) := cell_of_row _ _ 4 _ 24 (0, 0) b8.out; have u5 : w2.cell? ⟨C, 5, none⟩ = some (.int .i64 x5) := cell_of_row _ _ 5 _ 24 (0, 0) b8.out; have u6 : w2.cell? ⟨C, 6, none⟩ = some (.int .i64 x6) := cell_of_row _ _ 6 _ 24 (0, 0) b8.out; have u7 : w2.cell? ⟨C, 7, none⟩ = some (.int .i64 x7) := cell_of_row _ _ 7 _ 24 (0, 0) b8.out; have u8 : w2.cell? ⟨C, 8, none⟩ = some (.int .i64 x8) := cell_of_row _ _ 8 _ 24 (0, 0) b8.out; have u9 : w2.cell? ⟨C, 9, none⟩ = some (.int .i64 x9) := cell_of_row _ _ 9 _ 24 (0, 0) b8.out; clear s0 s1 s2 s3 s4 s5 s6 s7 s8 s9; have done1 := trivial)
          | (have hd := doneo; clear doneo; go_at_call 11; refine (OI _).out.mono ?_; rintro e w6 ⟨rfl, hb6⟩; have i6 : w6.cell? ⟨C, 2 + i, none⟩ = some (.int .i64 ti) := (hb6.cell (p := ⟨C, 2 + i, none⟩) hy5).trans I5.out; have G5 : Hid (Below B w w6) := Lib.hid (G4.out.trans (hb6.mono (by omega))); clear hb6)
          | (go_at_call 11; refine (OJ _).out.mono ?_; rintro e w5 ⟨rfl, hb5⟩; have j5 : w5.cell? ⟨C, 2 + j, none⟩ = some (.int .i64 tj) := (hb5.cell (p := ⟨C, 2 + j, none⟩) hy4).trans J4.out; have I5 := Lib.hid ((hb5.cell (p := ⟨C, 2 + i, none⟩) hy4).trans I4.out); have hz5 : C + 1 < w5.heap.size := (by have := hb5.size; omega); have hy5 : C < w5.heap.size := (by omega); have G4 : Hid (Below B w w5) := Lib.hid (G3.out.trans (hb5.mono (by omega))); clear hb5; have doneo := trivial))
          go_ret
          rw [HB0.out]
          refine ⟨?_, G5.out⟩
          first | rfl | (simp; done) | (simp; omega)
end Go.Proofs.YtkmcdeejkcncpaaDoor
