/- LessRow, Ordered, SameRows of equal rows. -/
import Derived.Test.YtkhhcnpmobgdgaaDoorYl
import Derived.Test.YtkhhcnpmobgdgaaDoorWu
import Derived.Test.YtkhhcnpmobgdgaaDoorEq8
namespace Go.Proofs.YtkhhcnpmobgdgaaDoor
open Go.RowKit
set_option linter.unusedVariables false
set_option linter.unusedSimpArgs false
set_option maxRecDepth 100000

set_option maxHeartbeats 4000000 in
theorem rowneq_same (lv wi : Int) (sv op : ByteArray) (o0 o1 o2 o3 o4 o5 o6 o7 o8 o9 : Int) (w : World) : (binOp .neq 48 (.agg #[.int .i64 lv, .int .i64 wi, .string sv, .string op, .int .i64 o0, .int .i64 o1, .int .i64 o2, .int .i64 o3, .int .i64 o4, .int .i64 o5, .int .i64 o6, .int .i64 o7, .int .i64 o8, .int .i64 o9]) (.agg #[.int .i64 lv, .int .i64 wi, .string sv, .string op, .int .i64 o0, .int .i64 o1, .int .i64 o2, .int .i64 o3, .int .i64 o4, .int .i64 o5, .int .i64 o6, .int .i64 o7, .int .i64 o8, .int .i64 o9])).run Tryd.prog w = .ok (.bool false) w := by
  have E8 := fun (d : Nat) => eq8 d
  have hS : Tryd.prog.underlying 48 = some (.struct (Tryd.prog.fieldsOf 48)) := by kernel_rfl
  have hp : Tryd.prog.stoodInHeld 48 = false := by kernel_rfl
  rw [run_neq_struct, show (10000 : Nat) = 9999 + 1 from rfl, run_equalIn_agg w 9999 48 _ _ hS hp]
  simp only [Program.fieldsOf, Tryd.underlying48]
  go_simp
set_option maxHeartbeats 4000000 in
theorem cntneq_same (o0 o1 o2 o3 o4 o5 o6 o7 o8 o9 : Int) (w : World) : (binOp .neq 46 (.agg #[.int .i64 o0, .int .i64 o1, .int .i64 o2, .int .i64 o3, .int .i64 o4, .int .i64 o5, .int .i64 o6, .int .i64 o7, .int .i64 o8, .int .i64 o9]) (.agg #[.int .i64 o0, .int .i64 o1, .int .i64 o2, .int .i64 o3, .int .i64 o4, .int .i64 o5, .int .i64 o6, .int .i64 o7, .int .i64 o8, .int .i64 o9])).run Tryd.prog w = .ok (.bool false) w := by
  have E8 := fun (d : Nat) => eq8 d
  have hS : Tryd.prog.underlying 46 = some (.struct (Tryd.prog.fieldsOf 46)) := by kernel_rfl
  have hp : Tryd.prog.stoodInHeld 46 = false := by kernel_rfl
  rw [run_neq_struct, show (10000 : Nat) = 9999 + 1 from rfl, run_equalIn_agg w 9999 46 _ _ hS hp]
  simp only [Program.fieldsOf, Tryd.underlying46]
  go_simp
theorem less_cmpy : ∀ (a b : List UInt8), Op.bytesLess a b = decide (Lib.compareBytes a b < 0)
  | [], [] => rfl
  | [], _ :: _ => rfl
  | _ :: _, [] => rfl
  | x :: a, y :: b => by
    have ih := less_cmpy a b
    unfold Op.bytesLess Lib.compareBytes
    by_cases h1 : x < y
    · simp [h1]
    · by_cases h2 : y < x
      · have h3 : x ≠ y := fun h => by subst h; exact absurd h2 (UInt8.lt_irrefl _)
        simp [h1, h2, h3]
      · have h3 : x = y := UInt8.le_antisymm (UInt8.not_lt.1 h2) (UInt8.not_lt.1 h1)
        subst h3
        simp [h1, ih]
theorem toLy (s : ByteArray) : s.toList = s.data.toList := by
  obtain ⟨⟨l⟩⟩ := s
  exact ByteArray.toList_mk l
theorem less_Ty (a b : ByteArray) : Op.bytesLess a.toList b.toList = decide (cmpT a b < 0) := by rw [toLy, toLy]; exact less_cmpy _ _

set_option maxHeartbeats 8000000 in
theorem lessrow_lit (alv awi : Int) (asv aop : ByteArray) (a0 a1 a2 a3 a4 a5 a6 a7 a8 a9 : Int) (blv bwi : Int) (bsv bop : ByteArray) (b0 b1 b2 b3 b4 b5 b6 b7 b8 b9 : Int) (w : World) : Calls Tryd.prog 32 #[.agg #[.int .i64 alv, .int .i64 awi, .string asv, .string aop, .int .i64 a0, .int .i64 a1, .int .i64 a2, .int .i64 a3, .int .i64 a4, .int .i64 a5, .int .i64 a6, .int .i64 a7, .int .i64 a8, .int .i64 a9], .agg #[.int .i64 blv, .int .i64 bwi, .string bsv, .string bop, .int .i64 b0, .int .i64 b1, .int .i64 b2, .int .i64 b3, .int .i64 b4, .int .i64 b5, .int .i64 b6, .int .i64 b7, .int .i64 b8, .int .i64 b9]] w fun e w' => e = .returned (.bool (decide (ordK ⟨alv, awi, asv, aop⟩ ⟨blv, bwi, bsv, bop⟩ < 0))) ∧ Below w.heap.size w w' := by
  have HB := Lib.hid (((Below.refl w.heap.size w).alloc (Nat.le_refl _) (.cells #[.int .i64 alv, .int .i64 awi, .string asv, .string aop, .int .i64 a0, .int .i64 a1, .int .i64 a2, .int .i64 a3, .int .i64 a4, .int .i64 a5, .int .i64 a6, .int .i64 a7, .int .i64 a8, .int .i64 a9] 48)).alloc (by simp) (.cells #[.int .i64 blv, .int .i64 bwi, .string bsv, .string bop, .int .i64 b0, .int .i64 b1, .int .i64 b2, .int .i64 b3, .int .i64 b4, .int .i64 b5, .int .i64 b6, .int .i64 b7, .int .i64 b8, .int .i64 b9] 48))
  have HO : Hid (ordK ⟨alv, awi, asv, aop⟩ ⟨blv, bwi, bsv, bop⟩ = or2 (cmpI alv blv) (or2 (cmpI awi bwi) (or2 (cmpT asv bsv) (cmpT aop bop)))) := rfl
  generalize ordK ⟨alv, awi, asv, aop⟩ ⟨blv, bwi, bsv, bop⟩ = oo at *
  by_cases c1 : alv = blv
  · have z1 := (cmpI_zero alv blv).2 c1
    subst c1
    by_cases c2 : awi = bwi
    · have z2 := (cmpI_zero awi bwi).2 c2
      subst c2
      by_cases c3 : asv = bsv
      · have z3 := (cmpT_zero asv bsv).2 c3
        subst c3
        have HD : Hid (decide (oo < 0) = Op.bytesLess aop.toList bop.toList) := by rw [HO.out, z1, z2, z3, less_Ty]; rfl
        clear z1 z2 z3 HO
        go_enter Tryd.func32, Tryd.ntmps32
        go_wp2_with fail
        go_ret
        exact ⟨by rw [HD.out]; rfl, HB.out⟩
      · have z3 : ¬ cmpT asv bsv = 0 := fun h => c3 ((cmpT_zero _ _).1 h)
        have e3 : (asv.toList == bsv.toList) = false := beq_eq_false_iff_ne.2 (fun h => c3 (stry_inj h))
        have HD : Hid (decide (oo < 0) = Op.bytesLess asv.toList bsv.toList) := by rw [HO.out, z1, z2, less_Ty]; show decide ((if cmpT asv bsv = 0 then cmpT aop bop else cmpT asv bsv) < 0) = _; rw [if_neg z3]
        clear z1 z2 z3 c3 HO
        go_enter Tryd.func32, Tryd.ntmps32
        go_wp2_with fail
        go_ret
        exact ⟨by rw [HD.out]; rfl, HB.out⟩
    · have z2 : ¬ cmpI awi bwi = 0 := fun h => c2 ((cmpI_zero _ _).1 h)
      have e2 : (awi == bwi) = false := beq_eq_false_iff_ne.2 c2
      have HD : Hid (decide (oo < 0) = decide (awi < bwi)) := by
        rw [HO.out, z1]
        show decide ((if cmpI awi bwi = 0 then or2 (cmpT asv bsv) (cmpT aop bop) else cmpI awi bwi) < 0) = _
        rw [if_neg z2]
        exact decide_eq_decide.2 (cmpI_lt _ _)
      clear z1 z2 c2 HO
      go_enter Tryd.func32, Tryd.ntmps32
      go_wp2_with fail
      go_ret
      exact ⟨by rw [HD.out]; rfl, HB.out⟩
  · have z1 : ¬ cmpI alv blv = 0 := fun h => c1 ((cmpI_zero _ _).1 h)
    have e1 : (alv == blv) = false := beq_eq_false_iff_ne.2 c1
    have HD : Hid (decide (oo < 0) = decide (alv < blv)) := by
      rw [HO.out]
      show decide ((if cmpI alv blv = 0 then or2 (cmpI awi bwi) (or2 (cmpT asv bsv) (cmpT aop bop)) else cmpI alv blv) < 0) = _
      rw [if_neg z1]
      exact decide_eq_decide.2 (cmpI_lt _ _)
    clear z1 c1 HO
    go_enter Tryd.func32, Tryd.ntmps32
    go_wp2_with fail
    go_ret
    exact ⟨by rw [HD.out]; rfl, HB.out⟩
theorem lessrow_calls (a b : Rw) (w : World) : Calls Tryd.prog 32 #[.agg a.cells.toArray, .agg b.cells.toArray] w fun e w' => e = .returned (.bool (decide (ordK a.k b.k < 0))) ∧ Below w.heap.size w w' := by
  obtain ⟨⟨alv, awi, asv, aop⟩, act⟩ := a
  obtain ⟨⟨blv, bwi, bsv, bop⟩, bct⟩ := b
  exact lessrow_lit _ _ _ _ _ _ _ _ _ _ _ _ _ _ _ _ _ _ _ _ _ _ _ _ _ _ _ _ w
set_option maxHeartbeats 8000000 in
theorem ordered_any (A : Option Addr) (l : List Rw) (n c B : Nat) (w : World) (hn : n = l.length) (hr : Rd w B A (l.flatMap Rw.cells)) (hB : B ≤ w.heap.size) (hsm : n ≤ 1000000) :
    Calls Tryd.prog 12 #[.slice A n c] w fun e w' => ∃ b, e = .returned (.bool b) ∧ (b = true ↔ ∀ j f g, l[j]? = some f → l[j + 1]? = some g → ordK f.k g.k < 0) ∧ Below w.heap.size w w' := by
  have HN := Lib.hid hn
  have HR := Lib.hid hr
  clear hn hr
  go_enter Tryd.func12, Tryd.ntmps12
  go_wp2_with fail
  go_loopw [3] (fun a wr => ∃ k : Nat, a = .int .i64 k ∧ 1 ≤ k ∧ Hid (k ≤ n ∨ k = 1) ∧ Hid (∀ j f g, j + 1 < k → l[j]? = some f → l[j + 1]? = some g → ordK f.k g.k < 0) ∧ Hid (Below w.heap.size w wr)) (fun a _ => n - (intOf a).toNat)
  case atStart => exact ⟨1, rfl, Nat.le_refl _, Lib.hid (Or.inr rfl), Lib.hid (fun j f g hj => absurd hj (by omega)), Lib.hid (Below.refl _ _)⟩
  case round =>
    obtain ⟨k, rfl, hk1, HK, HA, HW⟩ := hrel
    by_cases hlt : k < n
    · obtain ⟨j, hj⟩ : ∃ j, k = j + 1 := ⟨k - 1, by omega⟩
      obtain ⟨g, hg⟩ : ∃ g, l[j]? = some g := ⟨_, List.getElem?_eq_getElem (by rw [← HN.out]; omega)⟩
      obtain ⟨f, hf⟩ : ∃ f, l[k]? = some f := ⟨_, List.getElem?_eq_getElem (by rw [← HN.out]; omega)⟩
      obtain ⟨a, ha, hab, x0, x1, x2, x3, x4, x5, x6, x7, x8, x9, x10, x11, x12, x13⟩ := row_cells (HR.out.below (HW.out.mono hB)) hf
      obtain ⟨a', ha', hab', y0, y1, y2, y3, y4, y5, y6, y7, y8, y9, y10, y11, y12, y13⟩ := row_cells (HR.out.below (HW.out.mono hB)) hg
      obtain rfl : a = a' := by rw [ha] at ha'; injection ha'
      subst ha
      have OC := fun W => Lib.hid (lessrow_calls g f W)
      simp only [Rw.cells] at OC
      have HG := Lib.hid hg
      have HF := Lib.hid hf
      have e2 : IntKind.i64.wrap ((k : Int) - 1) = (j : Int) := by rw [IntKind.wrap_i64]; omega
      have i1 : (j : Int) < (n : Int) := by omega
      have i2 : (k : Int) < (n : Int) := by omega
      have i3 : (0 : Int) ≤ (j : Int) := by omega
      have i5 : (0 : Int) ≤ (k : Int) := by omega
      have i6 : (n : Int) ≤ 1000000 := by omega
      have HJ := Lib.hid (show k = j + 1 ∧ k < n from ⟨hj, hlt⟩)
      clear hf hg ha' hk1 hj hlt
      have HOR := Lib.hid (show ordK g.k f.k = ordK g.k f.k from rfl)
      obtain ⟨b, hb⟩ : ∃ b, b = decide (ordK g.k f.k < 0) := ⟨_, rfl⟩
      rw [← hb] at OC
      have HBB := Lib.hid hb
      clear hb HOR
      generalize f.ct.getD 0 0 = p0 at x0 x1 x2 x3 x4 x5 x6 x7 x8 x9 x10 x11 x12 x13 OC
      generalize f.ct.getD 1 0 = p1 at x0 x1 x2 x3 x4 x5 x6 x7 x8 x9 x10 x11 x12 x13 OC
      generalize f.ct.getD 2 0 = p2 at x0 x1 x2 x3 x4 x5 x6 x7 x8 x9 x10 x11 x12 x13 OC
      generalize f.ct.getD 3 0 = p3 at x0 x1 x2 x3 x4 x5 x6 x7 x8 x9 x10 x11 x12 x13 OC
      generalize f.ct.getD 4 0 = p4 at x0 x1 x2 x3 x4 x5 x6 x7 x8 x9 x10 x11 x12 x13 OC
      generalize f.ct.getD 5 0 = p5 at x0 x1 x2 x3 x4 x5 x6 x7 x8 x9 x10 x11 x12 x13 OC
      generalize f.ct.getD 6 0 = p6 at x0 x1 x2 x3 x4 x5 x6 x7 x8 x9 x10 x11 x12 x13 OC
      generalize f.ct.getD 7 0 = p7 at x0 x1 x2 x3 x4 x5 x6 x7 x8 x9 x10 x11 x12 x13 OC
      generalize f.ct.getD 8 0 = p8 at x0 x1 x2 x3 x4 x5 x6 x7 x8 x9 x10 x11 x12 x13 OC
      generalize f.ct.getD 9 0 = p9 at x0 x1 x2 x3 x4 x5 x6 x7 x8 x9 x10 x11 x12 x13 OC
      generalize g.ct.getD 0 0 = q0 at y0 y1 y2 y3 y4 y5 y6 y7 y8 y9 y10 y11 y12 y13 OC
      generalize g.ct.getD 1 0 = q1 at y0 y1 y2 y3 y4 y5 y6 y7 y8 y9 y10 y11 y12 y13 OC
      generalize g.ct.getD 2 0 = q2 at y0 y1 y2 y3 y4 y5 y6 y7 y8 y9 y10 y11 y12 y13 OC
      generalize g.ct.getD 3 0 = q3 at y0 y1 y2 y3 y4 y5 y6 y7 y8 y9 y10 y11 y12 y13 OC
      generalize g.ct.getD 4 0 = q4 at y0 y1 y2 y3 y4 y5 y6 y7 y8 y9 y10 y11 y12 y13 OC
      generalize g.ct.getD 5 0 = q5 at y0 y1 y2 y3 y4 y5 y6 y7 y8 y9 y10 y11 y12 y13 OC
      generalize g.ct.getD 6 0 = q6 at y0 y1 y2 y3 y4 y5 y6 y7 y8 y9 y10 y11 y12 y13 OC
      generalize g.ct.getD 7 0 = q7 at y0 y1 y2 y3 y4 y5 y6 y7 y8 y9 y10 y11 y12 y13 OC
      generalize g.ct.getD 8 0 = q8 at y0 y1 y2 y3 y4 y5 y6 y7 y8 y9 y10 y11 y12 y13 OC
      generalize g.ct.getD 9 0 = q9 at y0 y1 y2 y3 y4 y5 y6 y7 y8 y9 y10 y11 y12 y13 OC
      cases b
      · go_wp2_with fail
        have n0 := fun p : NowB wr => p.cell x0
        have n1 := fun p : NowB wr => p.cell x1
        have n2 := fun p : NowB wr => p.cell x2
        have n3 := fun p : NowB wr => p.cell x3
        have n4 := fun p : NowB wr => p.cell x4
        have n5 := fun p : NowB wr => p.cell x5
        have n6 := fun p : NowB wr => p.cell x6
        have n7 := fun p : NowB wr => p.cell x7
        have n8 := fun p : NowB wr => p.cell x8
        have n9 := fun p : NowB wr => p.cell x9
        have n10 := fun p : NowB wr => p.cell x10
        have n11 := fun p : NowB wr => p.cell x11
        have n12 := fun p : NowB wr => p.cell x12
        have n13 := fun p : NowB wr => p.cell x13
        have m0 := fun p : NowB wr => p.cell y0
        have m1 := fun p : NowB wr => p.cell y1
        have m2 := fun p : NowB wr => p.cell y2
        have m3 := fun p : NowB wr => p.cell y3
        have m4 := fun p : NowB wr => p.cell y4
        have m5 := fun p : NowB wr => p.cell y5
        have m6 := fun p : NowB wr => p.cell y6
        have m7 := fun p : NowB wr => p.cell y7
        have m8 := fun p : NowB wr => p.cell y8
        have m9 := fun p : NowB wr => p.cell y9
        have m10 := fun p : NowB wr => p.cell y10
        have m11 := fun p : NowB wr => p.cell y11
        have m12 := fun p : NowB wr => p.cell y12
        have m13 := fun p : NowB wr => p.cell y13
        clear x0 x1 x2 x3 x4 x5 x6 x7 x8 x9 x10 x11 x12 x13 y0 y1 y2 y3 y4 y5 y6 y7 y8 y9 y10 y11 y12 y13
        refine wp_region_quiet_below (by kernel_rfl) (by kernel_rfl) ?_
        repeat (go_big_quiet_step ((go_at_call 32; with_reducible exact Calls.now_of (OC _).out)))
        refine wpQuiet_nil ?_
        intro _ hw'
        obtain ⟨pp, hw''⟩ := hw'
        subst hw''
        have HB1 := Lib.hid (HW.out.trans (pp.h.mono HW.out.size))
        generalize pp.W = w1 at *
        go_wp2_with fail
        go_ret
        exact ⟨false, rfl, ⟨fun h => (by cases h), fun h => by have h1 := h j _ _ HG.out (by rw [← HJ.out.1]; exact HF.out); have h2 := HBB.out; rw [decide_eq_true h1] at h2; cases h2⟩, HB1.out⟩
      · go_wp2_with fail
        have n0 := fun p : NowB wr => p.cell x0
        have n1 := fun p : NowB wr => p.cell x1
        have n2 := fun p : NowB wr => p.cell x2
        have n3 := fun p : NowB wr => p.cell x3
        have n4 := fun p : NowB wr => p.cell x4
        have n5 := fun p : NowB wr => p.cell x5
        have n6 := fun p : NowB wr => p.cell x6
        have n7 := fun p : NowB wr => p.cell x7
        have n8 := fun p : NowB wr => p.cell x8
        have n9 := fun p : NowB wr => p.cell x9
        have n10 := fun p : NowB wr => p.cell x10
        have n11 := fun p : NowB wr => p.cell x11
        have n12 := fun p : NowB wr => p.cell x12
        have n13 := fun p : NowB wr => p.cell x13
        have m0 := fun p : NowB wr => p.cell y0
        have m1 := fun p : NowB wr => p.cell y1
        have m2 := fun p : NowB wr => p.cell y2
        have m3 := fun p : NowB wr => p.cell y3
        have m4 := fun p : NowB wr => p.cell y4
        have m5 := fun p : NowB wr => p.cell y5
        have m6 := fun p : NowB wr => p.cell y6
        have m7 := fun p : NowB wr => p.cell y7
        have m8 := fun p : NowB wr => p.cell y8
        have m9 := fun p : NowB wr => p.cell y9
        have m10 := fun p : NowB wr => p.cell y10
        have m11 := fun p : NowB wr => p.cell y11
        have m12 := fun p : NowB wr => p.cell y12
        have m13 := fun p : NowB wr => p.cell y13
        clear x0 x1 x2 x3 x4 x5 x6 x7 x8 x9 x10 x11 x12 x13 y0 y1 y2 y3 y4 y5 y6 y7 y8 y9 y10 y11 y12 y13
        refine wp_region_quiet_below (by kernel_rfl) (by kernel_rfl) ?_
        repeat (go_big_quiet_step ((go_at_call 32; with_reducible exact Calls.now_of (OC _).out)))
        refine wpQuiet_nil ?_
        intro _ hw'
        obtain ⟨pp, hw''⟩ := hw'
        subst hw''
        have HB1 := Lib.hid (HW.out.trans (pp.h.mono HW.out.size))
        generalize pp.W = w1 at *
        go_wp2_with fail
        go_roundw
        case rel => exact ⟨k + 1, by go_num, by omega, Lib.hid (Or.inl HJ.out.2), Lib.hid (fun i f' g' hi hf' hg' => by
          rcases Nat.lt_or_ge (i + 1) k with h | h
          · exact HA.out i f' g' h hf' hg'
          · have hij : i = j := by have := HJ.out.1; omega
            subst hij
            rw [HG.out] at hf'
            rw [← HJ.out.1, HF.out] at hg'
            injection hf' with hf'
            injection hg' with hg'
            rw [← hf', ← hg']
            exact of_decide_eq_true HBB.out.symm), HB1⟩
        case measure => have := HJ.out; simp [intOf]; omega
    · go_wp2_with fail
      go_ret
      exact ⟨true, rfl, ⟨fun _ j f g hf hg => HA.out j f g (by have := (List.getElem?_eq_some_iff.1 hg).1; have := HN.out; omega) hf hg, fun _ => rfl⟩, HW.out⟩
theorem sort_of {l : List Rw} (h : ∀ j f g, l[j]? = some f → l[j + 1]? = some g → ordK f.k g.k < 0) : SortR l := by
  induction l with
  | nil => exact List.Pairwise.nil
  | cons a t ih =>
    have iht := ih (fun j f g hf hg => h (j + 1) f g (by simpa using hf) (by simpa using hg))
    refine List.pairwise_cons.2 ⟨fun x hx => ?_, iht⟩
    cases t with
    | nil => cases hx
    | cons b u =>
      have h0 := h 0 a b rfl rfl
      rcases List.mem_cons.1 hx with e | e
      · rw [e]; exact h0
      · exact ordK_trans h0 ((List.pairwise_cons.1 iht).1 x e)
theorem adj_of {l : List Rw} (h : SortR l) : ∀ j f g, l[j]? = some f → l[j + 1]? = some g → ordK f.k g.k < 0 := fun j f g hf hg => by
  have h1 := (List.pairwise_iff_getElem.1 h) j (j + 1) (List.getElem?_eq_some_iff.1 hf).1 (List.getElem?_eq_some_iff.1 hg).1 (by omega)
  rw [(List.getElem?_eq_some_iff.1 hf).2, (List.getElem?_eq_some_iff.1 hg).2] at h1
  exact h1
set_option maxHeartbeats 8000000 in
theorem samerows_same (A A2 : Option Addr) (l : List Rw) (n c c2 B : Nat) (w : World) (hn : n = l.length) (hr : Rd w B A (l.flatMap Rw.cells)) (hr2 : Rd w B A2 (l.flatMap Rw.cells)) (hB : B ≤ w.heap.size) (hsm : n ≤ 1000000) :
    Calls Tryd.prog 13 #[.slice A n c, .slice A2 n c2] w fun e w' => e = .returned (.bool true) ∧ Below w.heap.size w w' := by
  have HN := Lib.hid hn
  have HR := Lib.hid hr
  have HR2 := Lib.hid hr2
  clear hn hr hr2
  go_enter Tryd.func13, Tryd.ntmps13
  go_wp2_with fail
  go_loopw [5] (fun a wr => ∃ k : Nat, a = .int .i64 k ∧ k ≤ n ∧ Hid (Below w.heap.size w wr)) (fun a _ => n - (intOf a).toNat)
  case atStart => exact ⟨0, rfl, Nat.zero_le _, Lib.hid (Below.refl _ _)⟩
  case round =>
    obtain ⟨k, rfl, hk, HW⟩ := hrel
    by_cases hlt : k < n
    · obtain ⟨f, hf⟩ : ∃ f, l[k]? = some f := ⟨_, List.getElem?_eq_getElem (by rw [← HN.out]; omega)⟩
      obtain ⟨a, rfl, hab, x0, x1, x2, x3, x4, x5, x6, x7, x8, x9, x10, x11, x12, x13⟩ := row_cells (HR.out.below (HW.out.mono hB)) hf
      obtain ⟨a', rfl, hab', y0, y1, y2, y3, y4, y5, y6, y7, y8, y9, y10, y11, y12, y13⟩ := row_cells (HR2.out.below (HW.out.mono hB)) hf
      have i2 : (k : Int) < (n : Int) := by omega
      have i5 : (0 : Int) ≤ (k : Int) := by omega
      have i6 : (n : Int) ≤ 1000000 := by omega
      have HJ := Lib.hid hlt
      clear hf hlt hk
      obtain ⟨⟨lv, wi, sv, op⟩, ct⟩ := f
      simp only at x0 x1 x2 x3 x4 x5 x6 x7 x8 x9 x10 x11 x12 x13 y0 y1 y2 y3 y4 y5 y6 y7 y8 y9 y10 y11 y12 y13
      generalize ct.getD 0 0 = o0 at x0 x1 x2 x3 x4 x5 x6 x7 x8 x9 x10 x11 x12 x13 y0 y1 y2 y3 y4 y5 y6 y7 y8 y9 y10 y11 y12 y13
      generalize ct.getD 1 0 = o1 at x0 x1 x2 x3 x4 x5 x6 x7 x8 x9 x10 x11 x12 x13 y0 y1 y2 y3 y4 y5 y6 y7 y8 y9 y10 y11 y12 y13
      generalize ct.getD 2 0 = o2 at x0 x1 x2 x3 x4 x5 x6 x7 x8 x9 x10 x11 x12 x13 y0 y1 y2 y3 y4 y5 y6 y7 y8 y9 y10 y11 y12 y13
      generalize ct.getD 3 0 = o3 at x0 x1 x2 x3 x4 x5 x6 x7 x8 x9 x10 x11 x12 x13 y0 y1 y2 y3 y4 y5 y6 y7 y8 y9 y10 y11 y12 y13
      generalize ct.getD 4 0 = o4 at x0 x1 x2 x3 x4 x5 x6 x7 x8 x9 x10 x11 x12 x13 y0 y1 y2 y3 y4 y5 y6 y7 y8 y9 y10 y11 y12 y13
      generalize ct.getD 5 0 = o5 at x0 x1 x2 x3 x4 x5 x6 x7 x8 x9 x10 x11 x12 x13 y0 y1 y2 y3 y4 y5 y6 y7 y8 y9 y10 y11 y12 y13
      generalize ct.getD 6 0 = o6 at x0 x1 x2 x3 x4 x5 x6 x7 x8 x9 x10 x11 x12 x13 y0 y1 y2 y3 y4 y5 y6 y7 y8 y9 y10 y11 y12 y13
      generalize ct.getD 7 0 = o7 at x0 x1 x2 x3 x4 x5 x6 x7 x8 x9 x10 x11 x12 x13 y0 y1 y2 y3 y4 y5 y6 y7 y8 y9 y10 y11 y12 y13
      generalize ct.getD 8 0 = o8 at x0 x1 x2 x3 x4 x5 x6 x7 x8 x9 x10 x11 x12 x13 y0 y1 y2 y3 y4 y5 y6 y7 y8 y9 y10 y11 y12 y13
      generalize ct.getD 9 0 = o9 at x0 x1 x2 x3 x4 x5 x6 x7 x8 x9 x10 x11 x12 x13 y0 y1 y2 y3 y4 y5 y6 y7 y8 y9 y10 y11 y12 y13
      have E8 : ∀ (z2 z3 z4 z5 z6 z7 z8 z9 : Int) (w : World), (Op.equalIn 9998 44 (.agg #[.int .i64 z2, .int .i64 z3, .int .i64 z4, .int .i64 z5, .int .i64 z6, .int .i64 z7, .int .i64 z8, .int .i64 z9]) (.agg #[.int .i64 z2, .int .i64 z3, .int .i64 z4, .int .i64 z5, .int .i64 z6, .int .i64 z7, .int .i64 z8, .int .i64 z9])).run Tryd.prog w = .ok true w := fun z2 z3 z4 z5 z6 z7 z8 z9 w => eq8 9996 z2 z3 z4 z5 z6 z7 z8 z9 w
      go_wp2_with fail
      have n0 := fun p : NowB wr => p.cell x0
      have n1 := fun p : NowB wr => p.cell x1
      have n2 := fun p : NowB wr => p.cell x2
      have n3 := fun p : NowB wr => p.cell x3
      have n4 := fun p : NowB wr => p.cell x4
      have n5 := fun p : NowB wr => p.cell x5
      have n6 := fun p : NowB wr => p.cell x6
      have n7 := fun p : NowB wr => p.cell x7
      have n8 := fun p : NowB wr => p.cell x8
      have n9 := fun p : NowB wr => p.cell x9
      have n10 := fun p : NowB wr => p.cell x10
      have n11 := fun p : NowB wr => p.cell x11
      have n12 := fun p : NowB wr => p.cell x12
      have n13 := fun p : NowB wr => p.cell x13
      have m0 := fun p : NowB wr => p.cell y0
      have m1 := fun p : NowB wr => p.cell y1
      have m2 := fun p : NowB wr => p.cell y2
      have m3 := fun p : NowB wr => p.cell y3
      have m4 := fun p : NowB wr => p.cell y4
      have m5 := fun p : NowB wr => p.cell y5
      have m6 := fun p : NowB wr => p.cell y6
      have m7 := fun p : NowB wr => p.cell y7
      have m8 := fun p : NowB wr => p.cell y8
      have m9 := fun p : NowB wr => p.cell y9
      have m10 := fun p : NowB wr => p.cell y10
      have m11 := fun p : NowB wr => p.cell y11
      have m12 := fun p : NowB wr => p.cell y12
      have m13 := fun p : NowB wr => p.cell y13
      clear x0 x1 x2 x3 x4 x5 x6 x7 x8 x9 x10 x11 x12 x13 y0 y1 y2 y3 y4 y5 y6 y7 y8 y9 y10 y11 y12 y13
      refine wp_region_quiet_below (by kernel_rfl) (by kernel_rfl) ?_
      repeat (go_big_quiet_step ((fail)))
      refine wpQuiet_nil ?_
      intro _ hw'
      obtain ⟨pp, hw''⟩ := hw'
      subst hw''
      have HB1 := Lib.hid (HW.out.trans (pp.h.mono HW.out.size))
      generalize pp.W = w1 at *
      go_wp2_with fail
      go_roundw
      case rel => exact ⟨k + 1, by go_num, HJ.out, HB1⟩
      case measure => have := HJ.out; simp [intOf]; omega
    · go_wp2_with fail
      go_ret
      exact ⟨rfl, HW.out⟩
end Go.Proofs.YtkhhcnpmobgdgaaDoor
