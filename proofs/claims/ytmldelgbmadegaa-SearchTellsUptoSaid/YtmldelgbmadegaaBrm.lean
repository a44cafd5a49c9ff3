/- SearchFirst: the first so many are the beginning of all. -/
import Derived.Test.YtmldelgbmadegaaBrj
namespace Go.Proofs.Ytmldelgbmadegaa
open Go.RowKit
set_option linter.unusedVariables false
set_option linter.unusedSimpArgs false
set_option maxRecDepth 100000

theorem small_good {l : List Bl} (h : GoodBls l) : SmallBls l := ⟨by have := h.1; omega, by have := h.2.1; omega, fun x hx e he => by
  have h1 : fewAll e.l = true := h.2.2 e (List.mem_flatMap.2 ⟨x, hx, he⟩)
  refine ⟨by have := fewAll_len h1; omega, fun y hy => ?_⟩
  have := fewAll_ats h1 y hy
  omega⟩
theorem incC_next {l : List Tc} (h : IncC l) : ∀ {j : Nat} {x y : Tc}, l[j]? = some x → l[j + 1]? = some y → ltC x y := by
  induction l with
  | nil => intro j x y hx; simp at hx
  | cons a l ih =>
    intro j x y hx hy
    cases j with
    | zero =>
      simp at hx hy
      subst hx
      exact h.above y (List.mem_of_getElem? hy)
    | succ j => exact ih h.tail (by simpa using hx) (by simpa using hy)
theorem cutN_nat (z m : Nat) : cutN (z : Int) m = min m z := by unfold cutN; omega
set_option maxHeartbeats 32000000 in
theorem first32 (A : Option Addr) (l : List Bl) (n c : Nat) (sv op ky vl : ByteArray) (du : Int) (er : Bool) (z : Int) (w : World) (hn : n = l.length) (hy : RdBls w w.heap.size A l) (hok : ∀ x ∈ l, x.ok) (hb : ∀ x ∈ l, x.l.length ≤ 1048576) (hq1 : sv.size ≤ maxLen) (hq2 : op.size ≤ maxLen) (hq3 : ky.size ≤ maxLen) (hq4 : vl.size ≤ maxLen) (hz : -9223372036854775808 ≤ z ∧ z ≤ 9223372036854775807) :
    Calls Try.prog 14 #[.slice A n c, .agg #[.string sv, .string op, .string ky, .string vl, .int .i64 du, .bool er], .int .i64 z] w fun e w' => e = .returned (.bool true) ∧ Below w.heap.size w w' := by
  have HFW := Lib.hid (fun W (hW : Below w.heap.size w W) => few19_any A l n c w.heap.size W hn (hy.below hW) hok hW.size hb)
  have HN := Lib.hid hn
  have HY := Lib.hid hy
  have HFQ := Lib.hid (fun W => fewq_lit sv op ky vl du er W hq1 hq2 hq3 hq4)
  have HR0 := Lib.hid (heap_alloc_new w (.cells #[.string sv, .string op, .string ky, .string vl, .int .i64 du, .bool er] 68))
  have HB0 := Lib.hid ((Below.refl w.heap.size w).alloc (Nat.le_refl _) (.cells #[.string sv, .string op, .string ky, .string vl, .int .i64 du, .bool er] 68))
  generalize Qm.few ⟨sv, op, ky, vl, du, er⟩ = bq at *
  clear hn hy hok hb hq1 hq2 hq3 hq4
  go_enter Try.func14, Try.ntmps14
  go_upto_region 1 with fail
  generalize w.alloc (.cells #[.string sv, .string op, .string ky, .string vl, .int .i64 du, .bool er] 68) = w0 at *
  have p0 : w0.cell? ⟨w.heap.size, 0, none⟩ = some (.string sv) := cell_of_row _ _ 0 _ _ (0, 0) HR0.out
  have p1 : w0.cell? ⟨w.heap.size, 1, none⟩ = some (.string op) := cell_of_row _ _ 1 _ _ (0, 0) HR0.out
  have p2 : w0.cell? ⟨w.heap.size, 2, none⟩ = some (.string ky) := cell_of_row _ _ 2 _ _ (0, 0) HR0.out
  have p3 : w0.cell? ⟨w.heap.size, 3, none⟩ = some (.string vl) := cell_of_row _ _ 3 _ _ (0, 0) HR0.out
  have p4 : w0.cell? ⟨w.heap.size, 4, none⟩ = some (.int .i64 du) := cell_of_row _ _ 4 _ _ (0, 0) HR0.out
  have p5 : w0.cell? ⟨w.heap.size, 5, none⟩ = some (.bool er) := cell_of_row _ _ 5 _ _ (0, 0) HR0.out
  go_wp2_with fail
  refine (alive32_calls _).mono ?_
  rintro e w1 ⟨rfl, hb1⟩
  have HB1 := Lib.hid (HB0.out.trans (hb1.mono HB0.out.size))
  have HR1 := Lib.hid ((hb1.block _ (in_heap HR0.out)).trans HR0.out)
  clear hb1 p0 p1 p2 p3 p4 p5
  have p0 : w1.cell? ⟨w.heap.size, 0, none⟩ = some (.string sv) := cell_of_row _ _ 0 _ _ (0, 0) HR1.out
  have p1 : w1.cell? ⟨w.heap.size, 1, none⟩ = some (.string op) := cell_of_row _ _ 1 _ _ (0, 0) HR1.out
  have p2 : w1.cell? ⟨w.heap.size, 2, none⟩ = some (.string ky) := cell_of_row _ _ 2 _ _ (0, 0) HR1.out
  have p3 : w1.cell? ⟨w.heap.size, 3, none⟩ = some (.string vl) := cell_of_row _ _ 3 _ _ (0, 0) HR1.out
  have p4 : w1.cell? ⟨w.heap.size, 4, none⟩ = some (.int .i64 du) := cell_of_row _ _ 4 _ _ (0, 0) HR1.out
  have p5 : w1.cell? ⟨w.heap.size, 5, none⟩ = some (.bool er) := cell_of_row _ _ 5 _ _ (0, 0) HR1.out
  go_wp2_with fail
  refine (HFW.out w1 HB1.out).mono ?_
  rintro e w2 ⟨fb, rfl, hfb, hb2⟩
  have HB2 := Lib.hid (HB1.out.trans (hb2.mono HB1.out.size))
  have HR2 := Lib.hid ((hb2.block _ (in_heap HR1.out)).trans HR1.out)
  clear hb2 p0 p1 p2 p3 p4 p5
  have p0 : w2.cell? ⟨w.heap.size, 0, none⟩ = some (.string sv) := cell_of_row _ _ 0 _ _ (0, 0) HR2.out
  have p1 : w2.cell? ⟨w.heap.size, 1, none⟩ = some (.string op) := cell_of_row _ _ 1 _ _ (0, 0) HR2.out
  have p2 : w2.cell? ⟨w.heap.size, 2, none⟩ = some (.string ky) := cell_of_row _ _ 2 _ _ (0, 0) HR2.out
  have p3 : w2.cell? ⟨w.heap.size, 3, none⟩ = some (.string vl) := cell_of_row _ _ 3 _ _ (0, 0) HR2.out
  have p4 : w2.cell? ⟨w.heap.size, 4, none⟩ = some (.int .i64 du) := cell_of_row _ _ 4 _ _ (0, 0) HR2.out
  have p5 : w2.cell? ⟨w.heap.size, 5, none⟩ = some (.bool er) := cell_of_row _ _ 5 _ _ (0, 0) HR2.out
  cases fb
  · go_wp2_with fail
    go_ret
    exact ⟨rfl, HB2.out⟩
  have hgood : GoodBls l := hfb rfl
  have HSM := Lib.hid (small_good hgood)
  have HM120 : (l.flatMap Bl.l).length ≤ 120 := hgood.2.1
  clear hfb hgood
  go_wp2_with fail
  refine (HFQ.out w2).mono ?_
  rintro e w3 ⟨rfl, hb3⟩
  have HB3 := Lib.hid (HB2.out.trans (hb3.mono HB2.out.size))
  have HR3 := Lib.hid ((hb3.block _ (in_heap HR2.out)).trans HR2.out)
  clear hb3 p0 p1 p2 p3 p4 p5
  have p0 : w3.cell? ⟨w.heap.size, 0, none⟩ = some (.string sv) := cell_of_row _ _ 0 _ _ (0, 0) HR3.out
  have p1 : w3.cell? ⟨w.heap.size, 1, none⟩ = some (.string op) := cell_of_row _ _ 1 _ _ (0, 0) HR3.out
  have p2 : w3.cell? ⟨w.heap.size, 2, none⟩ = some (.string ky) := cell_of_row _ _ 2 _ _ (0, 0) HR3.out
  have p3 : w3.cell? ⟨w.heap.size, 3, none⟩ = some (.string vl) := cell_of_row _ _ 3 _ _ (0, 0) HR3.out
  have p4 : w3.cell? ⟨w.heap.size, 4, none⟩ = some (.int .i64 du) := cell_of_row _ _ 4 _ _ (0, 0) HR3.out
  have p5 : w3.cell? ⟨w.heap.size, 5, none⟩ = some (.bool er) := cell_of_row _ _ 5 _ _ (0, 0) HR3.out
  cases bq
  · go_wp2_with fail
    go_ret
    exact ⟨rfl, HB3.out⟩
  have HFI := Lib.hid (fun W z (hW : Below w.heap.size w W) (hz : -9223372036854775808 ≤ z ∧ z ≤ 9223372036854775807) => find_lit sv op ky vl du er A l n c w.heap.size z W HN.out (HY.out.below hW) hW.size HSM.out hz)
  have HINC : Hid (IncC (Qm.all ⟨sv, op, ky, vl, du, er⟩ l)) := Lib.hid (setC_inc _)
  have hml := allq_len ⟨sv, op, ky, vl, du, er⟩ l
  generalize Qm.all ⟨sv, op, ky, vl, du, er⟩ l = R at *
  obtain ⟨m, hm⟩ : ∃ m, R.length = m := ⟨_, rfl⟩
  rw [hm] at hml HFI
  have HM := Lib.hid hm
  have hm5 : m ≤ 120 := by omega
  clear hml hm
  by_cases hz0 : z < 0
  · have d0 : decide (z < 0) = true := decide_eq_true hz0
    go_wp2_with fail
    go_ret
    exact ⟨rfl, HB3.out⟩
  have d0 : decide (z < 0) = false := decide_eq_false hz0
  by_cases hz1 : 1000 < z
  · have d1 : decide (1000 < z) = true := decide_eq_true hz1
    go_wp2_with fail
    go_ret
    exact ⟨rfl, HB3.out⟩
  have d1 : decide (1000 < z) = false := decide_eq_false hz1
  obtain ⟨zn, rfl⟩ : ∃ k : Nat, z = (k : Int) := ⟨z.toNat, by omega⟩
  have hzn : zn ≤ 1000 := by omega
  clear hz0 hz1 hz
  go_wp2_with fail
  refine (HFI.out w3 (zn : Int) HB3.out (by omega)).mono ?_
  rintro e w4 ⟨v4, rfl, ho4, hb4⟩
  rw [cutN_nat] at ho4
  obtain ⟨k, hk⟩ : ∃ k, min m zn = k := ⟨_, rfl⟩
  rw [hk, List.length_take, HM.out, Nat.min_eq_left (by omega)] at ho4
  obtain ⟨A4, c4, rfl, hcc4, hrd4⟩ := own_rd ho4
  have HRD4 := Lib.hid hrd4
  have HK := Lib.hid hk
  have HB45 := Lib.hid hb4
  clear hrd4 ho4 hk
  have HB4 := Lib.hid (HB3.out.trans (hb4.mono HB3.out.size))
  have HR4 := Lib.hid ((hb4.block _ (in_heap HR3.out)).trans HR3.out)
  clear hb4 p0 p1 p2 p3 p4 p5
  have p0 : w4.cell? ⟨w.heap.size, 0, none⟩ = some (.string sv) := cell_of_row _ _ 0 _ _ (0, 0) HR4.out
  have p1 : w4.cell? ⟨w.heap.size, 1, none⟩ = some (.string op) := cell_of_row _ _ 1 _ _ (0, 0) HR4.out
  have p2 : w4.cell? ⟨w.heap.size, 2, none⟩ = some (.string ky) := cell_of_row _ _ 2 _ _ (0, 0) HR4.out
  have p3 : w4.cell? ⟨w.heap.size, 3, none⟩ = some (.string vl) := cell_of_row _ _ 3 _ _ (0, 0) HR4.out
  have p4 : w4.cell? ⟨w.heap.size, 4, none⟩ = some (.int .i64 du) := cell_of_row _ _ 4 _ _ (0, 0) HR4.out
  have p5 : w4.cell? ⟨w.heap.size, 5, none⟩ = some (.bool er) := cell_of_row _ _ 5 _ _ (0, 0) HR4.out
  go_wp2_with fail
  refine (HFI.out w4 1000 HB4.out (by omega)).mono ?_
  rintro e w5 ⟨v5, rfl, ho5, hb5⟩
  have hc5 : cutN 1000 m = m := by unfold cutN; omega
  rw [hc5, List.length_take, HM.out, Nat.min_self, List.take_of_length_le (by rw [HM.out]; exact Nat.le_refl _)] at ho5
  obtain ⟨A5, c5, rfl, hcc5, hrd5⟩ := own_rd ho5
  have hcm5 := (own_capq ho5).2
  have HRD5 := Lib.hid hrd5
  have HRD45 := Lib.hid ((HRD4.out.below hb5).more (B' := w5.heap.size) hb5.size)
  clear hrd5 ho5 hc5
  have HB5 := Lib.hid (HB4.out.trans (hb5.mono HB4.out.size))
  have HR5 := Lib.hid ((hb5.block _ (in_heap HR4.out)).trans HR4.out)
  clear hb5 p0 p1 p2 p3 p4 p5
  have p0 : w5.cell? ⟨w.heap.size, 0, none⟩ = some (.string sv) := cell_of_row _ _ 0 _ _ (0, 0) HR5.out
  have p1 : w5.cell? ⟨w.heap.size, 1, none⟩ = some (.string op) := cell_of_row _ _ 1 _ _ (0, 0) HR5.out
  have p2 : w5.cell? ⟨w.heap.size, 2, none⟩ = some (.string ky) := cell_of_row _ _ 2 _ _ (0, 0) HR5.out
  have p3 : w5.cell? ⟨w.heap.size, 3, none⟩ = some (.string vl) := cell_of_row _ _ 3 _ _ (0, 0) HR5.out
  have p4 : w5.cell? ⟨w.heap.size, 4, none⟩ = some (.int .i64 du) := cell_of_row _ _ 4 _ _ (0, 0) HR5.out
  have p5 : w5.cell? ⟨w.heap.size, 5, none⟩ = some (.bool er) := cell_of_row _ _ 5 _ _ (0, 0) HR5.out
  clear p0 p1 p2 p3 p4 p5
  clear d0 d1
  go_wp2_with fail
  go_loopw [10] (fun i wr => ∃ j : Nat, i = .int .i64 (j : Int) ∧ 1 ≤ j ∧ j ≤ m + 1 ∧ Hid (Below w5.heap.size w5 wr)) (fun i _ => m + 1 - (intOf i).toNat)
  case atStart => exact ⟨1, rfl, by omega, by omega, Lib.hid (Below.refl _ _)⟩
  case round =>
    obtain ⟨j, rfl, hj1, hj, HBr⟩ := hrel
    by_cases hlt : j < m
    · obtain ⟨j, rfl⟩ : ∃ i, j = i + 1 := ⟨j - 1, by omega⟩
      obtain ⟨x, hx⟩ : ∃ x, R[j]? = some x := ⟨_, List.getElem?_eq_getElem (by rw [HM.out]; omega)⟩
      obtain ⟨y, hy⟩ : ∃ x, R[j + 1]? = some x := ⟨_, List.getElem?_eq_getElem (by rw [HM.out]; omega)⟩
      have hlt2 := incC_next HINC.out hx hy
      obtain ⟨a1, ha1, hab1, b0, b1⟩ := tr_at (HRD5.out.below HBr.out) hx
      obtain ⟨a2, ha2, hab2, c0, c1⟩ := tr_at (HRD5.out.below HBr.out) hy
      subst ha1
      obtain rfl := Option.some.inj ha2
      have HLT := Lib.hid (fun W => dlessT_lit x.1 x.2 y.1 y.2 W)
      rw [ltC_dec, decide_eq_true hlt2] at HLT
      clear hx hy hlt2 ha2
      go_wp2_with fail
      have e1 : ((j : Int) + 1 - 1) = j := by omega
      have i1 : (j : Int) < (m : Int) := by omega
      have i2 : (j : Int) + 1 < (m : Int) := by omega
      have i3 : (0 : Int) ≤ (j : Int) + 1 := by omega
      have iw : IntKind.i64.wrap (j : Int) = (j : Int) := by rw [IntKind.wrap_i64] <;> omega
      go_still_tail 9, (by kernel_rfl)
      change wpList _ _ _ _ _ wr.drew
      have HBd := Lib.hid (HBr.out.drew)
      generalize wr.drew = wd at *
      go_wp2_with (go_at_call 32; (with_reducible refine (HLT.out _).mono ?_); rintro e6 w6 ⟨rfl, hb6⟩; have HB6 := Lib.hid (HBd.out.trans (hb6.mono HBd.out.size)); clear hb6)
      go_roundw
      case rel => exact ⟨j + 1 + 1, by go_num, by omega, by omega, HB6⟩
      case measure => simp [intOf]; omega
    · have d9 : decide ((j : Int) < (m : Int)) = false := decide_eq_false (by omega)
      have HLAST := Lib.hid (fun A' c' (h : Rd wr wr.heap.size A' ((R.take k).flatMap trC)) => sametr_same A4 A' (R.take k) k c4 c' wr.heap.size wr (by rw [List.length_take, HM.out]; have := HK.out; omega) ((HRD45.out.below HBr.out).more HBr.out.size) h (Nat.le_refl _) (by have := HK.out; omega))
      have HRK := Lib.hid (show Rd wr wr.heap.size A5 ((R.take k).flatMap trC) from by rw [← flatT_take]; exact (((HRD5.out.below HBr.out).more HBr.out.size).take _))
      by_cases hmz : m < zn
      · obtain rfl : m = k := by have := HK.out; omega
        have d8 : decide ((m : Int) < (zn : Int)) = true := decide_eq_true (by omega)
        go_wp2_with (go_at_call 46; (with_reducible refine (HLAST.out _ _ HRK.out).mono ?_); rintro e7 w7 ⟨rfl, hb7⟩; have HB7 := Lib.hid (HBr.out.trans (hb7.mono HBr.out.size)); clear hb7)
        go_ret
        exact ⟨rfl, HB5.out.trans (HB7.out.mono HB5.out.size)⟩
      · obtain rfl : zn = k := by have := HK.out; omega
        have d8 : decide ((m : Int) < (zn : Int)) = false := decide_eq_false (by omega)
        go_wp2_with (go_at_call 46; (with_reducible refine (HLAST.out _ _ HRK.out).mono ?_); rintro e7 w7 ⟨rfl, hb7⟩; have HB7 := Lib.hid (HBr.out.trans (hb7.mono HBr.out.size)); clear hb7)
        go_ret
        exact ⟨rfl, HB5.out.trans (HB7.out.mono HB5.out.size)⟩

end Go.Proofs.Ytmldelgbmadegaa
