/- The document's Find and Count. -/
import Derived.Test.YtmldelgbmadegaaBrw
namespace Go.Proofs.Ytmldelgbmadegaa
open Go.RowKit
set_option linter.unusedVariables false
set_option linter.unusedSimpArgs false
set_option maxRecDepth 100000

theorem capq_any (n a b : Int) (w : World) : Calls Try.prog 86 #[.int .i64 n, .int .i64 a, .int .i64 b] w fun e w' => ∃ x, e = .returned (.int .i64 x) ∧ (n < a → x = a) ∧ (a ≤ n → b < n → x = b) ∧ (a ≤ n → n ≤ b → x = n) ∧ w = w' := by
  rcases Int.lt_or_le n a with h | h
  · go_enter Try.func86, Try.ntmps86
    go_wp2
    go_ret
    exact ⟨_, rfl, by omega, by omega, by omega, rfl⟩
  · rcases Int.lt_or_le b n with h2 | h2
    · go_enter Try.func86, Try.ntmps86
      go_wp2
      go_ret
      exact ⟨_, rfl, by omega, by omega, by omega, rfl⟩
    · go_enter Try.func86, Try.ntmps86
      go_wp2
      go_ret
      exact ⟨_, rfl, by omega, by omega, by omega, rfl⟩

set_option maxHeartbeats 4000000 in
theorem dcount_lit (sv op ky vl : ByteArray) (du : Int) (er : Bool) (A : Option Addr) (l : List Bl) (n c B : Nat) (W : World) (hn : n = l.length) (hy : RdBls W B A l) (hB : B ≤ W.heap.size) (hsm : SmallBls l) :
    Calls Try.prog 50 #[.slice A n c, .agg #[.string sv, .string op, .string ky, .string vl, .int .i64 du, .bool er]] W fun e w' => e = .returned (.int .i64 ((Qm.all ⟨sv, op, ky, vl, du, er⟩ l).length : Int)) ∧ Below W.heap.size W w' := by
  have hb1 := (Below.refl W.heap.size W).alloc (Nat.le_refl _) (.cells #[.string sv, .string op, .string ky, .string vl, .int .i64 du, .bool er] 68)
  have hq1 := heap_alloc_new W (.cells #[.string sv, .string op, .string ky, .string vl, .int .i64 du, .bool er] 68)
  have HC := Lib.hid (dall_lit sv op ky vl du er A l n c B (W.alloc (.cells #[.string sv, .string op, .string ky, .string vl, .int .i64 du, .bool er] 68)) hn (hy.below (hb1.mono hB)) (Nat.le_trans hB hb1.size) hsm)
  generalize Qm.all ⟨sv, op, ky, vl, du, er⟩ l = R at *
  have HB1 := Lib.hid hb1
  clear hb1 hn hy hsm
  go_enter Try.func50, Try.ntmps50
  go_upto_region 1 with fail
  generalize W.alloc (.cells #[.string sv, .string op, .string ky, .string vl, .int .i64 du, .bool er] 68) = W1 at *
  have p0 : W1.cell? ⟨W.heap.size, 0, none⟩ = some (.string sv) := cell_of_row _ _ 0 _ _ (0, 0) hq1
  have p1 : W1.cell? ⟨W.heap.size, 1, none⟩ = some (.string op) := cell_of_row _ _ 1 _ _ (0, 0) hq1
  have p2 : W1.cell? ⟨W.heap.size, 2, none⟩ = some (.string ky) := cell_of_row _ _ 2 _ _ (0, 0) hq1
  have p3 : W1.cell? ⟨W.heap.size, 3, none⟩ = some (.string vl) := cell_of_row _ _ 3 _ _ (0, 0) hq1
  have p4 : W1.cell? ⟨W.heap.size, 4, none⟩ = some (.int .i64 du) := cell_of_row _ _ 4 _ _ (0, 0) hq1
  have p5 : W1.cell? ⟨W.heap.size, 5, none⟩ = some (.bool er) := cell_of_row _ _ 5 _ _ (0, 0) hq1
  clear hq1
  go_wp2_with (go_at_call 85; (with_reducible refine HC.out.mono ?_); rintro e1 w1 ⟨v1, rfl, ho1, hb1⟩; have HB2 := Lib.hid (HB1.out.trans (hb1.mono HB1.out.size)); obtain ⟨A1, c1, hv1, _, _⟩ := own_rd ho1; subst hv1; clear hb1 ho1)
  go_ret
  exact ⟨rfl, HB2.out⟩
/-- A list lies there. -/
def ListOf (R : List Tc) (W : World) (e : Ending) (w' : World) : Prop := ∃ A c, e = .returned (.slice A R.length c) ∧ Rd w' w'.heap.size A (R.flatMap trC) ∧ Below W.heap.size W w'
set_option maxHeartbeats 4000000 in
theorem dfind_lit (sv op ky vl : ByteArray) (du : Int) (er : Bool) (A : Option Addr) (l : List Bl) (n c B : Nat) (z : Int) (W : World) (hn : n = l.length) (hy : RdBls W B A l) (hB : B ≤ W.heap.size) (hsm : SmallBls l) (hz : -9223372036854775808 ≤ z ∧ z ≤ 9223372036854775807) :
    Calls Try.prog 48 #[.slice A n c, .agg #[.string sv, .string op, .string ky, .string vl, .int .i64 du, .bool er], .int .i64 z] W (ListOf ((Qm.all ⟨sv, op, ky, vl, du, er⟩ l).take (cutN z (Qm.all ⟨sv, op, ky, vl, du, er⟩ l).length)) W) := by
  have hb1 := (Below.refl W.heap.size W).alloc (Nat.le_refl _) (.cells #[.string sv, .string op, .string ky, .string vl, .int .i64 du, .bool er] 68)
  have hq1 := heap_alloc_new W (.cells #[.string sv, .string op, .string ky, .string vl, .int .i64 du, .bool er] 68)
  have hml := allq_len ⟨sv, op, ky, vl, du, er⟩ l
  have hme := hsm.eps
  have HC := Lib.hid (dall_lit sv op ky vl du er A l n c B (W.alloc (.cells #[.string sv, .string op, .string ky, .string vl, .int .i64 du, .bool er] 68)) hn (hy.below (hb1.mono hB)) (Nat.le_trans hB hb1.size) hsm)
  generalize Qm.all ⟨sv, op, ky, vl, du, er⟩ l = R at *
  have hm5 : R.length ≤ 100000 := by omega
  have HB1 := Lib.hid hb1
  clear hb1 hn hy hsm hml hme
  obtain ⟨m, hm⟩ : ∃ m, R.length = m := ⟨_, rfl⟩
  rw [hm] at hm5 ⊢
  have HM := Lib.hid hm
  obtain ⟨k, hk⟩ : ∃ k, cutN z m = k := ⟨_, rfl⟩
  rw [hk]
  have hkm : k ≤ m := by rw [← hk]; exact cutN_le z m
  have HCP := Lib.hid (fun W => (capq_any z 0 (m : Int) W).mono (fun e w' hh => (by
    obtain ⟨x, h1, h2, h3, h4, h5⟩ := hh
    refine ⟨?_, h5⟩
    rw [h1]
    congr 2
    rw [← hk]
    unfold cutN
    rcases Int.lt_or_le z 0 with g | g
    · rw [h2 g]; omega
    · rcases Int.lt_or_le (m : Int) z with g2 | g2
      · rw [h3 g g2]; omega
      · rw [h4 g g2]; omega : e = .returned (.int .i64 (k : Int)) ∧ W = w')))
  go_enter Try.func48, Try.ntmps48
  go_upto_region 1 with fail
  generalize W.alloc (.cells #[.string sv, .string op, .string ky, .string vl, .int .i64 du, .bool er] 68) = W1 at *
  have p0 : W1.cell? ⟨W.heap.size, 0, none⟩ = some (.string sv) := cell_of_row _ _ 0 _ _ (0, 0) hq1
  have p1 : W1.cell? ⟨W.heap.size, 1, none⟩ = some (.string op) := cell_of_row _ _ 1 _ _ (0, 0) hq1
  have p2 : W1.cell? ⟨W.heap.size, 2, none⟩ = some (.string ky) := cell_of_row _ _ 2 _ _ (0, 0) hq1
  have p3 : W1.cell? ⟨W.heap.size, 3, none⟩ = some (.string vl) := cell_of_row _ _ 3 _ _ (0, 0) hq1
  have p4 : W1.cell? ⟨W.heap.size, 4, none⟩ = some (.int .i64 du) := cell_of_row _ _ 4 _ _ (0, 0) hq1
  have p5 : W1.cell? ⟨W.heap.size, 5, none⟩ = some (.bool er) := cell_of_row _ _ 5 _ _ (0, 0) hq1
  clear hq1
  go_upto_region 2 with (go_at_call 85; (with_reducible refine HC.out.mono ?_); rintro e1 w1 ⟨v1, rfl, ho1, hb1⟩; have HB2 := Lib.hid (HB1.out.trans (hb1.mono HB1.out.size)); rw [hm] at ho1; obtain ⟨A1, c1, hv1, hcc1, hrd1⟩ := own_rd ho1; have hcq1 := hv1 ▸ ho1; have hcc2 := (own_capq hcq1).2; clear hcq1; subst hv1; have HRD := Lib.hid hrd1; clear hb1 ho1 hrd1)
  clear hm hk
  have i1 : (0 : Int) ≤ (k : Int) := by omega
  have i2 : (k : Int) ≤ (c1 : Int) := by omega
  have i3 : k ≤ c1 := by omega
  have HRK : Hid (Rd w1 w1.heap.size A1 ((R.take k).flatMap trC)) := Lib.hid (by rw [← flatT_take]; exact HRD.out.take _)
  have HLK : Hid ((R.take k).length = k) := Lib.hid (by rw [List.length_take, HM.out, Nat.min_eq_left hkm])
  go_wp2_with (go_at_call 86; (with_reducible refine (HCP.out _).mono ?_); rintro e2 w2 ⟨rfl, rfl⟩)
  all_goals
    go_ret
    exact ⟨_, _, by rw [HLK.out] <;> rfl, HRK.out, HB2.out⟩
end Go.Proofs.Ytmldelgbmadegaa
