/- Whether rows stand in order; where a row of a key stands, by halves. -/
import Derived.Test.YtkhhcnpmobgdgaaDoorYc
import Derived.Test.YtkhhcnpmobgdgaaDoorQb
namespace Go.Proofs.YtkhhcnpmobgdgaaDoor
open Go.RowKit
set_option linter.unusedVariables false
set_option linter.unusedSimpArgs false
set_option maxRecDepth 100000

theorem row_cells {w : World} {B : Nat} {A : Option Addr} {l : List Rw} (h : Rd w B A (l.flatMap Rw.cells)) {k : Nat} {e : Rw} (he : l[k]? = some e) : ∃ a, A = some a ∧ a.block < B ∧ w.cell? (a.add (k * 14)) = some (.int .i64 e.k.lv) ∧ w.cell? ⟨(a.add (k * 14)).block, (a.add (k * 14)).off + 1, none⟩ = some (.int .i64 e.k.win) ∧ w.cell? ⟨(a.add (k * 14)).block, (a.add (k * 14)).off + 2, none⟩ = some (.string e.k.sv) ∧ w.cell? ⟨(a.add (k * 14)).block, (a.add (k * 14)).off + 3, none⟩ = some (.string e.k.op) ∧ w.cell? ⟨(a.add (k * 14)).block, (a.add (k * 14)).off + 4, none⟩ = some (.int .i64 (e.ct.getD 0 0)) ∧ w.cell? ⟨(a.add (k * 14)).block, (a.add (k * 14)).off + 5, none⟩ = some (.int .i64 (e.ct.getD 1 0)) ∧ w.cell? ⟨(a.add (k * 14)).block, (a.add (k * 14)).off + 6, none⟩ = some (.int .i64 (e.ct.getD 2 0)) ∧ w.cell? ⟨(a.add (k * 14)).block, (a.add (k * 14)).off + 7, none⟩ = some (.int .i64 (e.ct.getD 3 0)) ∧ w.cell? ⟨(a.add (k * 14)).block, (a.add (k * 14)).off + 8, none⟩ = some (.int .i64 (e.ct.getD 4 0)) ∧ w.cell? ⟨(a.add (k * 14)).block, (a.add (k * 14)).off + 9, none⟩ = some (.int .i64 (e.ct.getD 5 0)) ∧ w.cell? ⟨(a.add (k * 14)).block, (a.add (k * 14)).off + 10, none⟩ = some (.int .i64 (e.ct.getD 6 0)) ∧ w.cell? ⟨(a.add (k * 14)).block, (a.add (k * 14)).off + 11, none⟩ = some (.int .i64 (e.ct.getD 7 0)) ∧ w.cell? ⟨(a.add (k * 14)).block, (a.add (k * 14)).off + 12, none⟩ = some (.int .i64 (e.ct.getD 8 0)) ∧ w.cell? ⟨(a.add (k * 14)).block, (a.add (k * 14)).off + 13, none⟩ = some (.int .i64 (e.ct.getD 9 0)) := by
  obtain ⟨a, hA, hb, hc⟩ := rw_at h he
  refine ⟨a, hA, hb, hc 0 _ rfl, cell_far (hc 1 _ rfl) (by decide), cell_far (hc 2 _ rfl) (by decide), cell_far (hc 3 _ rfl) (by decide), cell_far (hc 4 _ rfl) (by decide), cell_far (hc 5 _ rfl) (by decide), cell_far (hc 6 _ rfl) (by decide), cell_far (hc 7 _ rfl) (by decide), cell_far (hc 8 _ rfl) (by decide), cell_far (hc 9 _ rfl) (by decide), cell_far (hc 10 _ rfl) (by decide), cell_far (hc 11 _ rfl) (by decide), cell_far (hc 12 _ rfl) (by decide), cell_far (hc 13 _ rfl) (by decide)⟩
set_option maxHeartbeats 8000000 in
theorem issorted_any (A : Option Addr) (l : List Rw) (n c B : Nat) (w : World) (hn : n = l.length) (hr : Rd w B A (l.flatMap Rw.cells)) (hB : B ≤ w.heap.size) (hs : SortR l) (hsm : n ≤ 1000000) :
    Calls Tryd.prog 52 #[.slice A n c, .func (.func 53) #[] #[]] w fun e w' => e = .returned (.bool true) ∧ Below w.heap.size w w' := by
  have HN := Lib.hid hn
  have HR := Lib.hid hr
  have HS := Lib.hid hs
  clear hn hr hs
  by_cases h0 : n = 0
  · subst h0
    go_enter Tryd.func52, Tryd.ntmps52
    go_wp2_with fail
    go_loopw [5] (fun a wr => a = .int .i64 (-1) ∧ wr = w) (fun a _ => 0)
    case atStart => exact ⟨rfl, rfl⟩
    case round =>
      obtain ⟨rfl, rfl⟩ := hrel
      go_wp2_with fail
      go_ret
      exact ⟨rfl, Below.refl _ _⟩
  · obtain ⟨m, rfl⟩ : ∃ m, n = m + 1 := ⟨n - 1, by omega⟩
    have e1 : IntKind.i64.wrap (((m + 1 : Nat) : Int) - 1) = (m : Int) := by rw [IntKind.wrap_i64]; omega
    generalize hnn : m + 1 = n at *
    have HNN := Lib.hid hnn
    clear hnn h0
    go_enter Tryd.func52, Tryd.ntmps52
    go_wp2_with fail
    go_loopw [5] (fun a wr => ∃ k : Nat, a = .int .i64 k ∧ k ≤ m ∧ Hid (Below w.heap.size w wr)) (fun a _ => (intOf a).toNat)
    case atStart => exact ⟨m, by first | rfl | go_num, Nat.le_refl _, Lib.hid (Below.refl _ _)⟩
    case round =>
      obtain ⟨k, rfl, hk, HW⟩ := hrel
      have hm := HNN.out
      by_cases hk0 : k = 0
      · subst hk0
        clear hm
        go_wp2_with fail
        go_ret
        exact ⟨rfl, HW.out⟩
      · obtain ⟨j, hj⟩ : ∃ j, k = j + 1 := ⟨k - 1, by omega⟩
        obtain ⟨f, hf⟩ : ∃ f, l[j]? = some f := ⟨_, List.getElem?_eq_getElem (by rw [← HN.out]; omega)⟩
        obtain ⟨g, hg⟩ : ∃ g, l[k]? = some g := ⟨_, List.getElem?_eq_getElem (by rw [← HN.out]; omega)⟩
        have hord : ¬ ordK g.k f.k < 0 := by
          have h1 := (List.pairwise_iff_getElem.1 HS.out) j k (List.getElem?_eq_some_iff.1 hf).1 (List.getElem?_eq_some_iff.1 hg).1 (by omega)
          rw [(List.getElem?_eq_some_iff.1 hf).2, (List.getElem?_eq_some_iff.1 hg).2] at h1
          rw [ordK_flip]; omega
        have d1 : decide (ordK g.k f.k < 0) = false := decide_eq_false hord
        obtain ⟨a, ha, hab, x0, x1, x2, x3, x4, x5, x6, x7, x8, x9, x10, x11, x12, x13⟩ := row_cells (HR.out.below (HW.out.mono hB)) hf
        obtain ⟨a', ha', hab', y0, y1, y2, y3, y4, y5, y6, y7, y8, y9, y10, y11, y12, y13⟩ := row_cells (HR.out.below (HW.out.mono hB)) hg
        obtain rfl : a = a' := by rw [ha] at ha'; injection ha'
        subst ha
        have OC := fun W => Lib.hid (rorder_calls g f W)
        simp only [Rw.cells] at OC
        have e2 : IntKind.i64.wrap ((k : Int) - 1) = (j : Int) := by rw [IntKind.wrap_i64]; omega
        have i1 : (j : Int) < (n : Int) := by omega
        have i2 : (k : Int) < (n : Int) := by omega
        have i3 : (0 : Int) ≤ (j : Int) := by omega
        have i4 : (0 : Int) < (k : Int) := by omega
        have i5 : (0 : Int) ≤ (k : Int) := by omega
        have HJ := Lib.hid (show j ≤ m ∧ k = j + 1 from ⟨by omega, hj⟩)
        clear hf hg hord ha' hm hk hj hk0
        generalize ordK g.k f.k = oo at *
        generalize f.ct.getD 0 0 = p0 at *
        generalize f.ct.getD 1 0 = p1 at *
        generalize f.ct.getD 2 0 = p2 at *
        generalize f.ct.getD 3 0 = p3 at *
        generalize f.ct.getD 4 0 = p4 at *
        generalize f.ct.getD 5 0 = p5 at *
        generalize f.ct.getD 6 0 = p6 at *
        generalize f.ct.getD 7 0 = p7 at *
        generalize f.ct.getD 8 0 = p8 at *
        generalize f.ct.getD 9 0 = p9 at *
        generalize g.ct.getD 0 0 = q0 at *
        generalize g.ct.getD 1 0 = q1 at *
        generalize g.ct.getD 2 0 = q2 at *
        generalize g.ct.getD 3 0 = q3 at *
        generalize g.ct.getD 4 0 = q4 at *
        generalize g.ct.getD 5 0 = q5 at *
        generalize g.ct.getD 6 0 = q6 at *
        generalize g.ct.getD 7 0 = q7 at *
        generalize g.ct.getD 8 0 = q8 at *
        generalize g.ct.getD 9 0 = q9 at *
        go_wp2_with fail
        have n0 := fun p : NowB wr => p.cell x0
        have n1 := fun p : NowB wr => p.cell x1
        have n2 := fun p : NowB wr => p.cell x2
        have n3 := fun p : NowB wr => p.cell x3
        have n4 := fun p : NowB wr => p.cell x4
        have n5 := fun p : NowB wr => p.cell x5
        have n6 := fun p : NowB wr => p.cell x6
        have n7 := fun p : NowB wr => p.cell x7
        have n8 := fun p : NowB wr => p.cell x8
        have n9 := fun p : NowB wr => p.cell x9
        have n10 := fun p : NowB wr => p.cell x10
        have n11 := fun p : NowB wr => p.cell x11
        have n12 := fun p : NowB wr => p.cell x12
        have n13 := fun p : NowB wr => p.cell x13
        have m0 := fun p : NowB wr => p.cell y0
        have m1 := fun p : NowB wr => p.cell y1
        have m2 := fun p : NowB wr => p.cell y2
        have m3 := fun p : NowB wr => p.cell y3
        have m4 := fun p : NowB wr => p.cell y4
        have m5 := fun p : NowB wr => p.cell y5
        have m6 := fun p : NowB wr => p.cell y6
        have m7 := fun p : NowB wr => p.cell y7
        have m8 := fun p : NowB wr => p.cell y8
        have m9 := fun p : NowB wr => p.cell y9
        have m10 := fun p : NowB wr => p.cell y10
        have m11 := fun p : NowB wr => p.cell y11
        have m12 := fun p : NowB wr => p.cell y12
        have m13 := fun p : NowB wr => p.cell y13
        clear x0 x1 x2 x3 x4 x5 x6 x7 x8 x9 x10 x11 x12 x13 y0 y1 y2 y3 y4 y5 y6 y7 y8 y9 y10 y11 y12 y13
        refine wp_region_quiet_below (by kernel_rfl) (by kernel_rfl) ?_
        repeat (go_big_quiet_step ((go_at_call 53; with_reducible exact Calls.now_of (OC _).out)))
        refine wpQuiet_nil ?_
        intro _ hw'
        obtain ⟨pp, hw''⟩ := hw'
        subst hw''
        have HB1 := Lib.hid (HW.out.trans (pp.h.mono HW.out.size))
        generalize pp.W = w1 at *
        go_wp2_with fail
        go_roundw
        case rel => exact ⟨j, by first | rfl | go_num, HJ.out.1, HB1⟩
        case measure => have := HJ.out.2; simp [intOf]; omega
set_option maxHeartbeats 8000000 in
theorem rsearch_any (A : Option Addr) (l : List Rw) (n c B : Nat) (lv wi : Int) (sv op : ByteArray) (z0 z1 z2 z3 z4 z5 z6 z7 z8 z9 : Int) (w : World) (hn : n = l.length) (hr : Rd w B A (l.flatMap Rw.cells)) (hB : B ≤ w.heap.size) (hs : SortR l) (hsm : n ≤ 1000000) :
    Calls Tryd.prog 71 #[.slice A n c, .agg #[.int .i64 lv, .int .i64 wi, .string sv, .string op, .int .i64 z0, .int .i64 z1, .int .i64 z2, .int .i64 z3, .int .i64 z4, .int .i64 z5, .int .i64 z6, .int .i64 z7, .int .i64 z8, .int .i64 z9], .func (.func 53) #[] #[]] w fun e w' => e = .returned (.tuple #[.int .i64 (posR l ⟨lv, wi, sv, op⟩ : Nat), .bool (hitR l ⟨lv, wi, sv, op⟩)]) ∧ Below w.heap.size w w' := by
  have HN := Lib.hid hn
  have HR := Lib.hid hr
  have HS := Lib.hid hs
  have hpl := posR_le l (⟨lv, wi, sv, op⟩ : Ky)
  have HPL : Hid (posR l (⟨lv, wi, sv, op⟩ : Ky) ≤ n) := Lib.hid (by rw [hn]; exact hpl)
  have HPT : Hid (∀ t f, l[t]? = some f → (ordK f.k (⟨lv, wi, sv, op⟩ : Ky) < 0 ↔ t < posR l (⟨lv, wi, sv, op⟩ : Ky))) := Lib.hid (fun t f hf => posR_lt hs hf)
  have HHT : Hid (hitR l (⟨lv, wi, sv, op⟩ : Ky) = (l[posR l (⟨lv, wi, sv, op⟩ : Ky)]?).any fun f => decide (ordK f.k (⟨lv, wi, sv, op⟩ : Ky) = 0)) := Lib.hid rfl
  have OC0 := fun (f : Rw) W => Lib.hid (rorder_lit f.k.lv f.k.win f.k.sv f.k.op (f.ct.getD 0 0) (f.ct.getD 1 0) (f.ct.getD 2 0) (f.ct.getD 3 0) (f.ct.getD 4 0) (f.ct.getD 5 0) (f.ct.getD 6 0) (f.ct.getD 7 0) (f.ct.getD 8 0) (f.ct.getD 9 0) lv wi sv op z0 z1 z2 z3 z4 z5 z6 z7 z8 z9 W)
  have OC : ∀ (f : Rw) W, Hid (Calls Tryd.prog 53 #[.agg #[.int .i64 f.k.lv, .int .i64 f.k.win, .string f.k.sv, .string f.k.op, .int .i64 (f.ct.getD 0 0), .int .i64 (f.ct.getD 1 0), .int .i64 (f.ct.getD 2 0), .int .i64 (f.ct.getD 3 0), .int .i64 (f.ct.getD 4 0), .int .i64 (f.ct.getD 5 0), .int .i64 (f.ct.getD 6 0), .int .i64 (f.ct.getD 7 0), .int .i64 (f.ct.getD 8 0), .int .i64 (f.ct.getD 9 0)], .agg #[.int .i64 lv, .int .i64 wi, .string sv, .string op, .int .i64 z0, .int .i64 z1, .int .i64 z2, .int .i64 z3, .int .i64 z4, .int .i64 z5, .int .i64 z6, .int .i64 z7, .int .i64 z8, .int .i64 z9]] W fun e w' => e = .returned (.int .i64 (ordK f.k (⟨lv, wi, sv, op⟩ : Ky))) ∧ Below W.heap.size W w') := OC0
  clear OC0 hn hr hs hpl
  generalize hitR l (⟨lv, wi, sv, op⟩ : Ky) = hit at *
  generalize posR l (⟨lv, wi, sv, op⟩ : Ky) = pos at *
  generalize (⟨lv, wi, sv, op⟩ : Ky) = kk at *
  go_enter Tryd.func71, Tryd.ntmps71
  go_wp2_with fail
  have hqT := heap_alloc_new w (.cells #[.int .i64 lv, .int .i64 wi, .string sv, .string op, .int .i64 z0, .int .i64 z1, .int .i64 z2, .int .i64 z3, .int .i64 z4, .int .i64 z5, .int .i64 z6, .int .i64 z7, .int .i64 z8, .int .i64 z9] 48)
  have HB0 := Lib.hid ((Below.refl w.heap.size w).alloc (Nat.le_refl _) (.cells #[.int .i64 lv, .int .i64 wi, .string sv, .string op, .int .i64 z0, .int .i64 z1, .int .i64 z2, .int .i64 z3, .int .i64 z4, .int .i64 z5, .int .i64 z6, .int .i64 z7, .int .i64 z8, .int .i64 z9] 48))
  have hz0 : (w.alloc (.cells #[.int .i64 lv, .int .i64 wi, .string sv, .string op, .int .i64 z0, .int .i64 z1, .int .i64 z2, .int .i64 z3, .int .i64 z4, .int .i64 z5, .int .i64 z6, .int .i64 z7, .int .i64 z8, .int .i64 z9] 48)).heap.size = w.heap.size + 1 := by simp
  have HQT := Lib.hid hqT
  clear hqT
  generalize w.alloc (.cells #[.int .i64 lv, .int .i64 wi, .string sv, .string op, .int .i64 z0, .int .i64 z1, .int .i64 z2, .int .i64 z3, .int .i64 z4, .int .i64 z5, .int .i64 z6, .int .i64 z7, .int .i64 z8, .int .i64 z9] 48) = w0 at *
  go_loopw [9, 10] (fun a b wr => ∃ lo hi : Nat, a = .int .i64 lo ∧ b = .int .i64 hi ∧ lo ≤ hi ∧ hi ≤ n ∧ Hid (lo ≤ pos) ∧ Hid (pos ≤ hi) ∧ Hid (Below w0.heap.size w0 wr)) (fun a b _ => (intOf b).toNat - (intOf a).toNat)
  case atStart => exact ⟨0, n, rfl, rfl, Nat.zero_le _, Nat.le_refl _, Lib.hid (Nat.zero_le _), HPL, Lib.hid (Below.refl _ _)⟩
  case round =>
    obtain ⟨lo, hi, rfl, rfl, hlh, hin, HLO, HHI, HW⟩ := hrel
    have HWW := Lib.hid (HB0.out.trans (HW.out.mono (by omega)))
    have hT : wr.heap[w.heap.size]? = some (.cells #[.int .i64 lv, .int .i64 wi, .string sv, .string op, .int .i64 z0, .int .i64 z1, .int .i64 z2, .int .i64 z3, .int .i64 z4, .int .i64 z5, .int .i64 z6, .int .i64 z7, .int .i64 z8, .int .i64 z9] 48) := (HW.out.block w.heap.size (by omega)).trans HQT.out
    have t0 : wr.cell? ⟨w.heap.size, 0, none⟩ = some (.int .i64 lv) := cell_of_row _ _ 0 _ _ (0, 0) hT
    have t1 : wr.cell? ⟨w.heap.size, 1, none⟩ = some (.int .i64 wi) := cell_of_row _ _ 1 _ _ (0, 0) hT
    have t2 : wr.cell? ⟨w.heap.size, 2, none⟩ = some (.string sv) := cell_of_row _ _ 2 _ _ (0, 0) hT
    have t3 : wr.cell? ⟨w.heap.size, 3, none⟩ = some (.string op) := cell_of_row _ _ 3 _ _ (0, 0) hT
    have t4 : wr.cell? ⟨w.heap.size, 4, none⟩ = some (.int .i64 z0) := cell_of_row _ _ 4 _ _ (0, 0) hT
    have t5 : wr.cell? ⟨w.heap.size, 5, none⟩ = some (.int .i64 z1) := cell_of_row _ _ 5 _ _ (0, 0) hT
    have t6 : wr.cell? ⟨w.heap.size, 6, none⟩ = some (.int .i64 z2) := cell_of_row _ _ 6 _ _ (0, 0) hT
    have t7 : wr.cell? ⟨w.heap.size, 7, none⟩ = some (.int .i64 z3) := cell_of_row _ _ 7 _ _ (0, 0) hT
    have t8 : wr.cell? ⟨w.heap.size, 8, none⟩ = some (.int .i64 z4) := cell_of_row _ _ 8 _ _ (0, 0) hT
    have t9 : wr.cell? ⟨w.heap.size, 9, none⟩ = some (.int .i64 z5) := cell_of_row _ _ 9 _ _ (0, 0) hT
    have t10 : wr.cell? ⟨w.heap.size, 10, none⟩ = some (.int .i64 z6) := cell_of_row _ _ 10 _ _ (0, 0) hT
    have t11 : wr.cell? ⟨w.heap.size, 11, none⟩ = some (.int .i64 z7) := cell_of_row _ _ 11 _ _ (0, 0) hT
    have t12 : wr.cell? ⟨w.heap.size, 12, none⟩ = some (.int .i64 z8) := cell_of_row _ _ 12 _ _ (0, 0) hT
    have t13 : wr.cell? ⟨w.heap.size, 13, none⟩ = some (.int .i64 z9) := cell_of_row _ _ 13 _ _ (0, 0) hT
    have HT := Lib.hid hT
    clear hT hz0
    by_cases hlt : lo < hi
    · obtain ⟨m, hm⟩ : ∃ m, m = (lo + hi) / 2 := ⟨_, rfl⟩
      have e1 : ((lo : Int) + (hi : Int)) / 2 = (m : Int) := by omega
      have hmn : m < n := by omega
      have hm1 : lo ≤ m := by omega
      have hm2 : m < hi := by omega
      obtain ⟨f, hf⟩ : ∃ f, l[m]? = some f := ⟨_, List.getElem?_eq_getElem (by rw [← HN.out]; exact hmn)⟩
      have HPM := Lib.hid (HPT.out m f hf)
      obtain ⟨a, ha, hab, x0, x1, x2, x3, x4, x5, x6, x7, x8, x9, x10, x11, x12, x13⟩ := row_cells (HR.out.below (HWW.out.mono hB)) hf
      subst ha
      have FC := fun W => OC f W
      clear hm hf
      by_cases hc : ordK f.k kk < 0
      · have d1 : decide (ordK f.k kk < 0) = true := decide_eq_true hc
        have hlo2 : m < pos := HPM.out.1 hc
        clear HPM hc
        generalize ordK f.k kk = oo at *
        generalize f.ct.getD 0 0 = p0 at *
        generalize f.ct.getD 1 0 = p1 at *
        generalize f.ct.getD 2 0 = p2 at *
        generalize f.ct.getD 3 0 = p3 at *
        generalize f.ct.getD 4 0 = p4 at *
        generalize f.ct.getD 5 0 = p5 at *
        generalize f.ct.getD 6 0 = p6 at *
        generalize f.ct.getD 7 0 = p7 at *
        generalize f.ct.getD 8 0 = p8 at *
        generalize f.ct.getD 9 0 = p9 at *
        go_wp2_with fail
        have n0 := fun p : NowB wr => p.cell x0
        have n1 := fun p : NowB wr => p.cell x1
        have n2 := fun p : NowB wr => p.cell x2
        have n3 := fun p : NowB wr => p.cell x3
        have n4 := fun p : NowB wr => p.cell x4
        have n5 := fun p : NowB wr => p.cell x5
        have n6 := fun p : NowB wr => p.cell x6
        have n7 := fun p : NowB wr => p.cell x7
        have n8 := fun p : NowB wr => p.cell x8
        have n9 := fun p : NowB wr => p.cell x9
        have n10 := fun p : NowB wr => p.cell x10
        have n11 := fun p : NowB wr => p.cell x11
        have n12 := fun p : NowB wr => p.cell x12
        have n13 := fun p : NowB wr => p.cell x13
        have v0 := fun p : NowB wr => p.cell t0
        have v1 := fun p : NowB wr => p.cell t1
        have v2 := fun p : NowB wr => p.cell t2
        have v3 := fun p : NowB wr => p.cell t3
        have v4 := fun p : NowB wr => p.cell t4
        have v5 := fun p : NowB wr => p.cell t5
        have v6 := fun p : NowB wr => p.cell t6
        have v7 := fun p : NowB wr => p.cell t7
        have v8 := fun p : NowB wr => p.cell t8
        have v9 := fun p : NowB wr => p.cell t9
        have v10 := fun p : NowB wr => p.cell t10
        have v11 := fun p : NowB wr => p.cell t11
        have v12 := fun p : NowB wr => p.cell t12
        have v13 := fun p : NowB wr => p.cell t13
        clear x0 x1 x2 x3 x4 x5 x6 x7 x8 x9 x10 x11 x12 x13 t0 t1 t2 t3 t4 t5 t6 t7 t8 t9 t10 t11 t12 t13
        refine wp_region_quiet_below (by kernel_rfl) (by kernel_rfl) ?_
        repeat (go_big_quiet_step ((go_at_call 53; with_reducible exact Calls.now_of (FC _).out)))
        refine wpQuiet_nil ?_
        intro _ hw'
        obtain ⟨pp, hw''⟩ := hw'
        subst hw''
        have HB1 := Lib.hid (HW.out.trans (pp.h.mono HW.out.size))
        generalize pp.W = w1 at *
        go_wp2_with fail
        go_roundw
        case rel => exact ⟨m + 1, hi, by go_num, rfl, by omega, hin, Lib.hid hlo2, HHI, HB1⟩
        case measure => simp [intOf]; omega
      · have d1 : decide (ordK f.k kk < 0) = false := decide_eq_false hc
        have hlo2 : pos ≤ m := Nat.not_lt.1 (fun h => hc (HPM.out.2 h))
        clear HPM hc
        generalize ordK f.k kk = oo at *
        generalize f.ct.getD 0 0 = p0 at *
        generalize f.ct.getD 1 0 = p1 at *
        generalize f.ct.getD 2 0 = p2 at *
        generalize f.ct.getD 3 0 = p3 at *
        generalize f.ct.getD 4 0 = p4 at *
        generalize f.ct.getD 5 0 = p5 at *
        generalize f.ct.getD 6 0 = p6 at *
        generalize f.ct.getD 7 0 = p7 at *
        generalize f.ct.getD 8 0 = p8 at *
        generalize f.ct.getD 9 0 = p9 at *
        go_wp2_with fail
        have n0 := fun p : NowB wr => p.cell x0
        have n1 := fun p : NowB wr => p.cell x1
        have n2 := fun p : NowB wr => p.cell x2
        have n3 := fun p : NowB wr => p.cell x3
        have n4 := fun p : NowB wr => p.cell x4
        have n5 := fun p : NowB wr => p.cell x5
        have n6 := fun p : NowB wr => p.cell x6
        have n7 := fun p : NowB wr => p.cell x7
        have n8 := fun p : NowB wr => p.cell x8
        have n9 := fun p : NowB wr => p.cell x9
        have n10 := fun p : NowB wr => p.cell x10
        have n11 := fun p : NowB wr => p.cell x11
        have n12 := fun p : NowB wr => p.cell x12
        have n13 := fun p : NowB wr => p.cell x13
        have v0 := fun p : NowB wr => p.cell t0
        have v1 := fun p : NowB wr => p.cell t1
        have v2 := fun p : NowB wr => p.cell t2
        have v3 := fun p : NowB wr => p.cell t3
        have v4 := fun p : NowB wr => p.cell t4
        have v5 := fun p : NowB wr => p.cell t5
        have v6 := fun p : NowB wr => p.cell t6
        have v7 := fun p : NowB wr => p.cell t7
        have v8 := fun p : NowB wr => p.cell t8
        have v9 := fun p : NowB wr => p.cell t9
        have v10 := fun p : NowB wr => p.cell t10
        have v11 := fun p : NowB wr => p.cell t11
        have v12 := fun p : NowB wr => p.cell t12
        have v13 := fun p : NowB wr => p.cell t13
        clear x0 x1 x2 x3 x4 x5 x6 x7 x8 x9 x10 x11 x12 x13 t0 t1 t2 t3 t4 t5 t6 t7 t8 t9 t10 t11 t12 t13
        refine wp_region_quiet_below (by kernel_rfl) (by kernel_rfl) ?_
        repeat (go_big_quiet_step ((go_at_call 53; with_reducible exact Calls.now_of (FC _).out)))
        refine wpQuiet_nil ?_
        intro _ hw'
        obtain ⟨pp, hw''⟩ := hw'
        subst hw''
        have HB1 := Lib.hid (HW.out.trans (pp.h.mono HW.out.size))
        generalize pp.W = w1 at *
        go_wp2_with fail
        go_roundw
        case rel => exact ⟨lo, m, rfl, by first | rfl | go_num, by omega, by omega, HLO, Lib.hid hlo2, HB1⟩
        case measure => simp [intOf]; omega
    · obtain rfl : lo = hi := by omega
      have hp : pos = lo := by have := HLO.out; have := HHI.out; omega
      subst hp
      by_cases hpn : pos < n
      · obtain ⟨f, hf⟩ : ∃ f, l[pos]? = some f := ⟨_, List.getElem?_eq_getElem (by rw [← HN.out]; exact hpn)⟩
        have HH2 : Hid (hit = decide (ordK f.k kk = 0)) := Lib.hid (by rw [HHT.out, hf]; rfl)
        obtain ⟨a, ha, hab, x0, x1, x2, x3, x4, x5, x6, x7, x8, x9, x10, x11, x12, x13⟩ := row_cells (HR.out.below (HWW.out.mono hB)) hf
        subst ha
        have FC := fun W => OC f W
        clear hf HHT
        by_cases hc : ordK f.k kk = 0
        · have d1 : (ordK f.k kk == 0) = true := beq_iff_eq.2 hc
          have hh : hit = true := by rw [HH2.out, hc]; rfl
          clear HH2 hc
          generalize ordK f.k kk = oo at *
          generalize f.ct.getD 0 0 = p0 at *
          generalize f.ct.getD 1 0 = p1 at *
          generalize f.ct.getD 2 0 = p2 at *
          generalize f.ct.getD 3 0 = p3 at *
          generalize f.ct.getD 4 0 = p4 at *
          generalize f.ct.getD 5 0 = p5 at *
          generalize f.ct.getD 6 0 = p6 at *
          generalize f.ct.getD 7 0 = p7 at *
          generalize f.ct.getD 8 0 = p8 at *
          generalize f.ct.getD 9 0 = p9 at *
          go_wp2_with fail
          have n0 := fun p : NowB wr => p.cell x0
          have n1 := fun p : NowB wr => p.cell x1
          have n2 := fun p : NowB wr => p.cell x2
          have n3 := fun p : NowB wr => p.cell x3
          have n4 := fun p : NowB wr => p.cell x4
          have n5 := fun p : NowB wr => p.cell x5
          have n6 := fun p : NowB wr => p.cell x6
          have n7 := fun p : NowB wr => p.cell x7
          have n8 := fun p : NowB wr => p.cell x8
          have n9 := fun p : NowB wr => p.cell x9
          have n10 := fun p : NowB wr => p.cell x10
          have n11 := fun p : NowB wr => p.cell x11
          have n12 := fun p : NowB wr => p.cell x12
          have n13 := fun p : NowB wr => p.cell x13
          have v0 := fun p : NowB wr => p.cell t0
          have v1 := fun p : NowB wr => p.cell t1
          have v2 := fun p : NowB wr => p.cell t2
          have v3 := fun p : NowB wr => p.cell t3
          have v4 := fun p : NowB wr => p.cell t4
          have v5 := fun p : NowB wr => p.cell t5
          have v6 := fun p : NowB wr => p.cell t6
          have v7 := fun p : NowB wr => p.cell t7
          have v8 := fun p : NowB wr => p.cell t8
          have v9 := fun p : NowB wr => p.cell t9
          have v10 := fun p : NowB wr => p.cell t10
          have v11 := fun p : NowB wr => p.cell t11
          have v12 := fun p : NowB wr => p.cell t12
          have v13 := fun p : NowB wr => p.cell t13
          clear x0 x1 x2 x3 x4 x5 x6 x7 x8 x9 x10 x11 x12 x13 t0 t1 t2 t3 t4 t5 t6 t7 t8 t9 t10 t11 t12 t13
          refine wp_region_quiet_below (by kernel_rfl) (by kernel_rfl) ?_
          repeat (go_big_quiet_step ((go_at_call 53; with_reducible exact Calls.now_of (FC _).out)))
          refine wpQuiet_nil ?_
          intro _ hw'
          obtain ⟨pp, hw''⟩ := hw'
          subst hw''
          have HB1 := Lib.hid (HWW.out.trans (pp.h.mono HWW.out.size))
          generalize pp.W = w1 at *
          go_wp2_with fail
          go_ret2
          exact ⟨by rw [hh]; rfl, HB1.out⟩
        · have d1 : (ordK f.k kk == 0) = false := beq_eq_false_iff_ne.2 hc
          have hh : hit = false := by rw [HH2.out]; exact decide_eq_false hc
          clear HH2 hc
          generalize ordK f.k kk = oo at *
          generalize f.ct.getD 0 0 = p0 at *
          generalize f.ct.getD 1 0 = p1 at *
          generalize f.ct.getD 2 0 = p2 at *
          generalize f.ct.getD 3 0 = p3 at *
          generalize f.ct.getD 4 0 = p4 at *
          generalize f.ct.getD 5 0 = p5 at *
          generalize f.ct.getD 6 0 = p6 at *
          generalize f.ct.getD 7 0 = p7 at *
          generalize f.ct.getD 8 0 = p8 at *
          generalize f.ct.getD 9 0 = p9 at *
          go_wp2_with fail
          have n0 := fun p : NowB wr => p.cell x0
          have n1 := fun p : NowB wr => p.cell x1
          have n2 := fun p : NowB wr => p.cell x2
          have n3 := fun p : NowB wr => p.cell x3
          have n4 := fun p : NowB wr => p.cell x4
          have n5 := fun p : NowB wr => p.cell x5
          have n6 := fun p : NowB wr => p.cell x6
          have n7 := fun p : NowB wr => p.cell x7
          have n8 := fun p : NowB wr => p.cell x8
          have n9 := fun p : NowB wr => p.cell x9
          have n10 := fun p : NowB wr => p.cell x10
          have n11 := fun p : NowB wr => p.cell x11
          have n12 := fun p : NowB wr => p.cell x12
          have n13 := fun p : NowB wr => p.cell x13
          have v0 := fun p : NowB wr => p.cell t0
          have v1 := fun p : NowB wr => p.cell t1
          have v2 := fun p : NowB wr => p.cell t2
          have v3 := fun p : NowB wr => p.cell t3
          have v4 := fun p : NowB wr => p.cell t4
          have v5 := fun p : NowB wr => p.cell t5
          have v6 := fun p : NowB wr => p.cell t6
          have v7 := fun p : NowB wr => p.cell t7
          have v8 := fun p : NowB wr => p.cell t8
          have v9 := fun p : NowB wr => p.cell t9
          have v10 := fun p : NowB wr => p.cell t10
          have v11 := fun p : NowB wr => p.cell t11
          have v12 := fun p : NowB wr => p.cell t12
          have v13 := fun p : NowB wr => p.cell t13
          clear x0 x1 x2 x3 x4 x5 x6 x7 x8 x9 x10 x11 x12 x13 t0 t1 t2 t3 t4 t5 t6 t7 t8 t9 t10 t11 t12 t13
          refine wp_region_quiet_below (by kernel_rfl) (by kernel_rfl) ?_
          repeat (go_big_quiet_step ((go_at_call 53; with_reducible exact Calls.now_of (FC _).out)))
          refine wpQuiet_nil ?_
          intro _ hw'
          obtain ⟨pp, hw''⟩ := hw'
          subst hw''
          have HB1 := Lib.hid (HWW.out.trans (pp.h.mono HWW.out.size))
          generalize pp.W = w1 at *
          go_wp2_with fail
          go_ret2
          exact ⟨by rw [hh]; rfl, HB1.out⟩
      · have hh : hit = false := by rw [HHT.out, List.getElem?_eq_none (by rw [← HN.out]; omega)]; rfl
        go_wp2_with fail
        have v0 := fun p : NowB wr => p.cell t0
        have v1 := fun p : NowB wr => p.cell t1
        have v2 := fun p : NowB wr => p.cell t2
        have v3 := fun p : NowB wr => p.cell t3
        have v4 := fun p : NowB wr => p.cell t4
        have v5 := fun p : NowB wr => p.cell t5
        have v6 := fun p : NowB wr => p.cell t6
        have v7 := fun p : NowB wr => p.cell t7
        have v8 := fun p : NowB wr => p.cell t8
        have v9 := fun p : NowB wr => p.cell t9
        have v10 := fun p : NowB wr => p.cell t10
        have v11 := fun p : NowB wr => p.cell t11
        have v12 := fun p : NowB wr => p.cell t12
        have v13 := fun p : NowB wr => p.cell t13
        clear t0 t1 t2 t3 t4 t5 t6 t7 t8 t9 t10 t11 t12 t13
        refine wp_region_quiet_below (by kernel_rfl) (by kernel_rfl) ?_
        repeat (go_big_quiet_step ((fail)))
        refine wpQuiet_nil ?_
        intro _ hw'
        obtain ⟨pp, hw''⟩ := hw'
        subst hw''
        have HB1 := Lib.hid (HWW.out.trans (pp.h.mono HWW.out.size))
        generalize pp.W = w1 at *
        go_wp2_with fail
        go_ret2
        exact ⟨by rw [hh]; rfl, HB1.out⟩
set_option maxHeartbeats 4000000 in
theorem placesorted_any (A : Option Addr) (l : List Rw) (n c B : Nat) (lv wi : Int) (sv op : ByteArray) (z0 z1 z2 z3 z4 z5 z6 z7 z8 z9 : Int) (w : World) (hn : n = l.length) (hr : Rd w B A (l.flatMap Rw.cells)) (hB : B ≤ w.heap.size) (hs : SortR l) (hsm : n ≤ 1000000) :
    Calls Tryd.prog 54 #[.slice A n c, .agg #[.int .i64 lv, .int .i64 wi, .string sv, .string op, .int .i64 z0, .int .i64 z1, .int .i64 z2, .int .i64 z3, .int .i64 z4, .int .i64 z5, .int .i64 z6, .int .i64 z7, .int .i64 z8, .int .i64 z9]] w fun e w' => e = .returned (.tuple #[.int .i64 (posR l ⟨lv, wi, sv, op⟩ : Nat), .bool (hitR l ⟨lv, wi, sv, op⟩)]) ∧ Below w.heap.size w w' := by
  have HB0 := Lib.hid ((Below.refl w.heap.size w).alloc (Nat.le_refl _) (.cells #[.int .i64 lv, .int .i64 wi, .string sv, .string op, .int .i64 z0, .int .i64 z1, .int .i64 z2, .int .i64 z3, .int .i64 z4, .int .i64 z5, .int .i64 z6, .int .i64 z7, .int .i64 z8, .int .i64 z9] 48))
  have SC := Lib.hid (rsearch_any A l n c B lv wi sv op z0 z1 z2 z3 z4 z5 z6 z7 z8 z9 (w.alloc (.cells #[.int .i64 lv, .int .i64 wi, .string sv, .string op, .int .i64 z0, .int .i64 z1, .int .i64 z2, .int .i64 z3, .int .i64 z4, .int .i64 z5, .int .i64 z6, .int .i64 z7, .int .i64 z8, .int .i64 z9] 48)) hn (hr.below (HB0.out.mono hB)) (by simp; omega) hs hsm)
  clear hn hr hB hs hsm
  generalize hitR l (⟨lv, wi, sv, op⟩ : Ky) = hit at *
  generalize posR l (⟨lv, wi, sv, op⟩ : Ky) = pos at *
  go_enter Tryd.func54, Tryd.ntmps54
  go_wp2_with (go_at_call 71; (with_reducible refine SC.out.mono ?_); rintro e w1 ⟨rfl, hb1⟩; have HB1 := Lib.hid (HB0.out.trans (hb1.mono HB0.out.size)))
  go_ret2
  exact ⟨rfl, HB1.out⟩
end Go.Proofs.YtkhhcnpmobgdgaaDoor
