/- search.Find, Count: the first traces that a query asks for, and how many there are. -/
import Derived.Test.YtmldelgbmadegaaBrh
namespace Go.Proofs.Ytmldelgbmadegaa
open Go.RowKit
set_option linter.unusedVariables false
set_option linter.unusedSimpArgs false
set_option maxRecDepth 100000

theorem allq_len (q : Qm) (l : List Bl) : (q.all l).length ≤ (l.flatMap Bl.l).length := all_len q l
set_option maxHeartbeats 4000000 in
theorem count_lit (sv op ky vl : ByteArray) (du : Int) (er : Bool) (A : Option Addr) (l : List Bl) (n c B : Nat) (W : World) (hn : n = l.length) (hy : RdBls W B A l) (hB : B ≤ W.heap.size) (hsm : SmallBls l) :
    Calls Try.prog 49 #[.slice A n c, .agg #[.string sv, .string op, .string ky, .string vl, .int .i64 du, .bool er]] W fun e w' => e = .returned (.int .i64 ((Qm.all ⟨sv, op, ky, vl, du, er⟩ l).length : Int)) ∧ Below W.heap.size W w' := by
  have hb1 := (Below.refl W.heap.size W).alloc (Nat.le_refl _) (.cells #[.string sv, .string op, .string ky, .string vl, .int .i64 du, .bool er] 68)
  have hq1 := heap_alloc_new W (.cells #[.string sv, .string op, .string ky, .string vl, .int .i64 du, .bool er] 68)
  have HC := Lib.hid (all_lit sv op ky vl du er A l n c B (W.alloc (.cells #[.string sv, .string op, .string ky, .string vl, .int .i64 du, .bool er] 68)) hn (hy.below (hb1.mono hB)) (Nat.le_trans hB hb1.size) hsm)
  generalize Qm.all ⟨sv, op, ky, vl, du, er⟩ l = R at *
  have HB1 := Lib.hid hb1
  clear hb1 hn hy hsm
  go_enter Try.func49, Try.ntmps49
  go_upto_region 1 with fail
  generalize W.alloc (.cells #[.string sv, .string op, .string ky, .string vl, .int .i64 du, .bool er] 68) = W1 at *
  have p0 : W1.cell? ⟨W.heap.size, 0, none⟩ = some (.string sv) := cell_of_row _ _ 0 _ _ (0, 0) hq1
  have p1 : W1.cell? ⟨W.heap.size, 1, none⟩ = some (.string op) := cell_of_row _ _ 1 _ _ (0, 0) hq1
  have p2 : W1.cell? ⟨W.heap.size, 2, none⟩ = some (.string ky) := cell_of_row _ _ 2 _ _ (0, 0) hq1
  have p3 : W1.cell? ⟨W.heap.size, 3, none⟩ = some (.string vl) := cell_of_row _ _ 3 _ _ (0, 0) hq1
  have p4 : W1.cell? ⟨W.heap.size, 4, none⟩ = some (.int .i64 du) := cell_of_row _ _ 4 _ _ (0, 0) hq1
  have p5 : W1.cell? ⟨W.heap.size, 5, none⟩ = some (.bool er) := cell_of_row _ _ 5 _ _ (0, 0) hq1
  clear hq1
  go_wp2_with (go_at_call 83; (with_reducible refine HC.out.mono ?_); rintro e1 w1 ⟨v1, rfl, ho1, hb1⟩; have HB2 := Lib.hid (HB1.out.trans (hb1.mono HB1.out.size)); obtain ⟨A1, c1, hv1, _, _⟩ := own_rd ho1; subst hv1; clear hb1 ho1)
  go_ret
  exact ⟨rfl, HB2.out⟩
def cutN (z : Int) (m : Nat) : Nat := (min (m : Int) (max z 0)).toNat
theorem cutN_le (z : Int) (m : Nat) : cutN z m ≤ m := by unfold cutN; omega
set_option maxHeartbeats 4000000 in
theorem find_lit (sv op ky vl : ByteArray) (du : Int) (er : Bool) (A : Option Addr) (l : List Bl) (n c B : Nat) (z : Int) (W : World) (hn : n = l.length) (hy : RdBls W B A l) (hB : B ≤ W.heap.size) (hsm : SmallBls l) (hz : -9223372036854775808 ≤ z ∧ z ≤ 9223372036854775807) :
    Calls Try.prog 47 #[.slice A n c, .agg #[.string sv, .string op, .string ky, .string vl, .int .i64 du, .bool er], .int .i64 z] W (AllOf ((Qm.all ⟨sv, op, ky, vl, du, er⟩ l).take (cutN z (Qm.all ⟨sv, op, ky, vl, du, er⟩ l).length)) W) := by
  have hb1 := (Below.refl W.heap.size W).alloc (Nat.le_refl _) (.cells #[.string sv, .string op, .string ky, .string vl, .int .i64 du, .bool er] 68)
  have hq1 := heap_alloc_new W (.cells #[.string sv, .string op, .string ky, .string vl, .int .i64 du, .bool er] 68)
  have hml := allq_len ⟨sv, op, ky, vl, du, er⟩ l
  have hme := hsm.eps
  have HC := Lib.hid (all_lit sv op ky vl du er A l n c B (W.alloc (.cells #[.string sv, .string op, .string ky, .string vl, .int .i64 du, .bool er] 68)) hn (hy.below (hb1.mono hB)) (Nat.le_trans hB hb1.size) hsm)
  generalize Qm.all ⟨sv, op, ky, vl, du, er⟩ l = R at *
  have hm5 : R.length ≤ 100000 := by omega
  have HB1 := Lib.hid hb1
  clear hb1 hn hy hsm hml hme
  obtain ⟨m, hm⟩ : ∃ m, R.length = m := ⟨_, rfl⟩
  rw [hm] at hm5 ⊢
  have HM := Lib.hid hm
  obtain ⟨k, hk⟩ : ∃ k, cutN z m = k := ⟨_, rfl⟩
  rw [hk]
  have hkm : k ≤ m := by rw [← hk]; exact cutN_le z m
  have HK := Lib.hid hk
  go_enter Try.func47, Try.ntmps47
  go_upto_region 1 with fail
  generalize W.alloc (.cells #[.string sv, .string op, .string ky, .string vl, .int .i64 du, .bool er] 68) = W1 at *
  have p0 : W1.cell? ⟨W.heap.size, 0, none⟩ = some (.string sv) := cell_of_row _ _ 0 _ _ (0, 0) hq1
  have p1 : W1.cell? ⟨W.heap.size, 1, none⟩ = some (.string op) := cell_of_row _ _ 1 _ _ (0, 0) hq1
  have p2 : W1.cell? ⟨W.heap.size, 2, none⟩ = some (.string ky) := cell_of_row _ _ 2 _ _ (0, 0) hq1
  have p3 : W1.cell? ⟨W.heap.size, 3, none⟩ = some (.string vl) := cell_of_row _ _ 3 _ _ (0, 0) hq1
  have p4 : W1.cell? ⟨W.heap.size, 4, none⟩ = some (.int .i64 du) := cell_of_row _ _ 4 _ _ (0, 0) hq1
  have p5 : W1.cell? ⟨W.heap.size, 5, none⟩ = some (.bool er) := cell_of_row _ _ 5 _ _ (0, 0) hq1
  clear hq1
  go_upto_region 2 with (go_at_call 83; (with_reducible refine HC.out.mono ?_); rintro e1 w1 ⟨v1, rfl, ho1, hb1⟩; have HB2 := Lib.hid (HB1.out.trans (hb1.mono HB1.out.size)); rw [hm] at ho1; have HO1 := Lib.hid ho1; obtain ⟨A1, c1, hv1, hcc1, hrd1⟩ := own_rd ho1; have hcq1 := hv1 ▸ ho1; have hcc2 := (own_capq hcq1).2; clear hcq1; subst hv1; have HRD := Lib.hid hrd1; clear hb1 ho1 hrd1)
  clear hm hk
  have HRK : Hid (Rd w1 w1.heap.size A1 ((R.take k).flatMap trC)) := Lib.hid (by rw [← flatT_take]; exact HRD.out.take _)
  have HCL := Lib.hid (trclone_any A1 (R.take k) k c1 w1.heap.size w1 (by rw [List.length_take, HM.out]; omega) HRK.out (Nat.le_refl _) (by omega))
  have hkd : (min (m : Int) (max z 0)).toNat = k := HK.out
  go_wp2_with (go_at_call 84; (with_reducible refine HCL.out.mono ?_); rintro e2 w2 ⟨v2, rfl, ho2, hb2⟩; have HO2 := Lib.hid ho2; have HB3 := Lib.hid (HB2.out.trans (hb2.mono HB2.out.size)); clear ho2 hb2)
  go_ret
  exact ⟨_, rfl, by rw [List.length_take, HM.out, Nat.min_eq_left hkm]; exact own_mono HO2.out HB2.out.size, HB3.out⟩


theorem find_any (q : Qm) (A : Option Addr) (l : List Bl) (n c B : Nat) (z : Int) (W : World) (hn : n = l.length) (hy : RdBls W B A l) (hB : B ≤ W.heap.size) (hsm : SmallBls l) (hz : -9223372036854775808 ≤ z ∧ z ≤ 9223372036854775807) :
    Calls Try.prog 47 #[.slice A n c, .agg q.cells.toArray, .int .i64 z] W (AllOf ((q.all l).take (cutN z (q.all l).length)) W) := by
  obtain ⟨sv, op, ky, vl, du, er⟩ := q
  exact find_lit sv op ky vl du er A l n c B z W hn hy hB hsm hz
theorem count_any32 (q : Qm) (A : Option Addr) (l : List Bl) (n c B : Nat) (W : World) (hn : n = l.length) (hy : RdBls W B A l) (hB : B ≤ W.heap.size) (hsm : SmallBls l) :
    Calls Try.prog 49 #[.slice A n c, .agg q.cells.toArray] W fun e w' => e = .returned (.int .i64 ((q.all l).length : Int)) ∧ Below W.heap.size W w' := by
  obtain ⟨sv, op, ky, vl, du, er⟩ := q
  exact count_lit sv op ky vl du er A l n c B W hn hy hB hsm
/-- Are a query's texts short enough? -/
def Qm.few (q : Qm) : Bool := decide (q.sv.size ≤ 60) && (decide (q.op.size ≤ 60) && (decide (q.ky.size ≤ 60) && decide (q.vl.size ≤ 60)))
set_option maxHeartbeats 4000000 in
theorem fewq_lit (sv op ky vl : ByteArray) (du : Int) (er : Bool) (W : World) (h1 : sv.size ≤ maxLen) (h2 : op.size ≤ maxLen) (h3 : ky.size ≤ maxLen) (h4 : vl.size ≤ maxLen) :
    Calls Try.prog 42 #[.agg #[.string sv, .string op, .string ky, .string vl, .int .i64 du, .bool er]] W fun e w' => e = .returned (.bool (Qm.few ⟨sv, op, ky, vl, du, er⟩)) ∧ Below W.heap.size W w' := by
  simp only [maxLen] at h1 h2 h3 h4
  unfold Qm.few
  simp only
  have hb1 := (Below.refl W.heap.size W).alloc (Nat.le_refl _) (.cells #[.string sv, .string op, .string ky, .string vl, .int .i64 du, .bool er] 68)
  have hq1 := heap_alloc_new W (.cells #[.string sv, .string op, .string ky, .string vl, .int .i64 du, .bool er] 68)
  have HB1 := Lib.hid hb1
  clear hb1
  obtain ⟨n1, hn1⟩ : ∃ n, sv.size = n := ⟨_, rfl⟩
  obtain ⟨n2, hn2⟩ : ∃ n, op.size = n := ⟨_, rfl⟩
  obtain ⟨n3, hn3⟩ : ∃ n, ky.size = n := ⟨_, rfl⟩
  obtain ⟨n4, hn4⟩ : ∃ n, vl.size = n := ⟨_, rfl⟩
  rw [hn1, hn2, hn3, hn4]
  rw [hn1] at h1
  rw [hn2] at h2
  rw [hn3] at h3
  rw [hn4] at h4
  obtain ⟨b1, hb1⟩ : ∃ b, decide (n1 ≤ 60) = b := ⟨_, rfl⟩
  obtain ⟨b2, hb2⟩ : ∃ b, decide (n2 ≤ 60) = b := ⟨_, rfl⟩
  obtain ⟨b3, hb3⟩ : ∃ b, decide (n3 ≤ 60) = b := ⟨_, rfl⟩
  obtain ⟨b4, hb4⟩ : ∃ b, decide (n4 ≤ 60) = b := ⟨_, rfl⟩
  have hc1 : decide ((n1 : Int) ≤ 60) = b1 := by rw [← hb1]; exact decide_eq_decide.2 (by omega)
  have hc2 : decide ((n2 : Int) ≤ 60) = b2 := by rw [← hb2]; exact decide_eq_decide.2 (by omega)
  have hc3 : decide ((n3 : Int) ≤ 60) = b3 := by rw [← hb3]; exact decide_eq_decide.2 (by omega)
  have hc4 : decide ((n4 : Int) ≤ 60) = b4 := by rw [← hb4]; exact decide_eq_decide.2 (by omega)
  rw [hb1, hb2, hb3, hb4]
  go_enter Try.func42, Try.ntmps42
  go_upto_region 1 with fail
  generalize W.alloc (.cells #[.string sv, .string op, .string ky, .string vl, .int .i64 du, .bool er] 68) = W1 at *
  have p0 : W1.cell? ⟨W.heap.size, 0, none⟩ = some (.string sv) := cell_of_row _ _ 0 _ _ (0, 0) hq1
  have p1 : W1.cell? ⟨W.heap.size, 1, none⟩ = some (.string op) := cell_of_row _ _ 1 _ _ (0, 0) hq1
  have p2 : W1.cell? ⟨W.heap.size, 2, none⟩ = some (.string ky) := cell_of_row _ _ 2 _ _ (0, 0) hq1
  have p3 : W1.cell? ⟨W.heap.size, 3, none⟩ = some (.string vl) := cell_of_row _ _ 3 _ _ (0, 0) hq1
  clear hq1
  cases b1 <;> cases b2 <;> cases b3 <;> cases b4
  all_goals
    go_wp2_with fail
    go_ret
    exact ⟨rfl, HB1.out⟩
end Go.Proofs.Ytmldelgbmadegaa
