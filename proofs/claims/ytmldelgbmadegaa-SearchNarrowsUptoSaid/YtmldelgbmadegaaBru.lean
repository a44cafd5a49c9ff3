/- SearchNarrows: who asks for more finds no trace that who asks for less does not. -/
import Derived.Test.YtmldelgbmadegaaBrt
namespace Go.Proofs.Ytmldelgbmadegaa
open Go.RowKit
set_option linter.unusedVariables false
set_option linter.unusedSimpArgs false
set_option maxRecDepth 100000

theorem qfrz {w : World} {b i : Nat} {cs : Array Value} {ty : TypeId} (h : w.heap[b]? = some (.cells cs ty)) : w.frozen? ⟨b, i, none⟩ = false := by
  unfold World.frozen?
  rw [h]
  simp
theorem cutN_1000 (m : Nat) (h : m ≤ 1000) : cutN 1000 m = m := by unfold cutN; omega
theorem all_sub {q r : Qm} (l : List Bl) (h : ∀ s, q.mt s = true → r.mt s = true) : ∀ x ∈ q.all l, x ∈ r.all l := fun x hx => by
  unfold Qm.all at *
  rw [setC_mem] at *
  unfold Qm.hits at *
  obtain ⟨e, he, rfl⟩ := List.mem_map.1 hx
  obtain ⟨h1, h2⟩ := List.mem_filter.1 he
  refine List.mem_map.2 ⟨e, List.mem_filter.2 ⟨h1, ?_⟩, rfl⟩
  unfold Qm.hit at *
  obtain ⟨y, hy1, hy2⟩ := List.any_eq_true.1 h2
  exact List.any_eq_true.2 ⟨y, hy1, h _ hy2⟩
set_option maxHeartbeats 32000000 in
theorem narrows32 (A : Option Addr) (l : List Bl) (n c : Nat) (sv op ky vl : ByteArray) (du : Int) (er : Bool) (z : Int) (w : World) (hn : n = l.length) (hy : RdBls w w.heap.size A l) (hok : ∀ x ∈ l, x.ok) (hb : ∀ x ∈ l, x.l.length ≤ 1048576) (hq1 : sv.size ≤ maxLen) (hq2 : op.size ≤ maxLen) (hq3 : ky.size ≤ maxLen) (hq4 : vl.size ≤ maxLen) :
    Calls Try.prog 12 #[.slice A n c, .agg #[.string sv, .string op, .string ky, .string vl, .int .i64 du, .bool er], .int .i64 z] w fun e w' => e = .returned (.bool true) ∧ Below w.heap.size w w' := by
  have HFW := Lib.hid (fun W (hW : Below w.heap.size w W) => few19_any A l n c w.heap.size W hn (hy.below hW) hok hW.size hb)
  have HN := Lib.hid hn
  have HY := Lib.hid hy
  have HFQ := Lib.hid (fun W => fewq_lit sv op ky vl du er W hq1 hq2 hq3 hq4)
  have HR0 := Lib.hid (heap_alloc_new w (.cells #[.string sv, .string op, .string ky, .string vl, .int .i64 du, .bool er] 68))
  have HB0 := Lib.hid ((Below.refl w.heap.size w).alloc (Nat.le_refl _) (.cells #[.string sv, .string op, .string ky, .string vl, .int .i64 du, .bool er] 68))
  generalize Qm.few ⟨sv, op, ky, vl, du, er⟩ = bq at *
  clear hn hy hok hb hq1 hq2 hq3 hq4
  go_enter Try.func12, Try.ntmps12
  go_upto_region 1 with fail
  generalize w.alloc (.cells #[.string sv, .string op, .string ky, .string vl, .int .i64 du, .bool er] 68) = w0 at *
  have p0 : w0.cell? ⟨w.heap.size, 0, none⟩ = some (.string sv) := cell_of_row _ _ 0 _ _ (0, 0) HR0.out
  have p1 : w0.cell? ⟨w.heap.size, 1, none⟩ = some (.string op) := cell_of_row _ _ 1 _ _ (0, 0) HR0.out
  have p2 : w0.cell? ⟨w.heap.size, 2, none⟩ = some (.string ky) := cell_of_row _ _ 2 _ _ (0, 0) HR0.out
  have p3 : w0.cell? ⟨w.heap.size, 3, none⟩ = some (.string vl) := cell_of_row _ _ 3 _ _ (0, 0) HR0.out
  have p4 : w0.cell? ⟨w.heap.size, 4, none⟩ = some (.int .i64 du) := cell_of_row _ _ 4 _ _ (0, 0) HR0.out
  have p5 : w0.cell? ⟨w.heap.size, 5, none⟩ = some (.bool er) := cell_of_row _ _ 5 _ _ (0, 0) HR0.out
  go_wp2_with fail
  refine (alive32_calls _).mono ?_
  rintro e w1 ⟨rfl, hb1⟩
  have HB1 := Lib.hid (HB0.out.trans (hb1.mono HB0.out.size))
  have HR1 := Lib.hid ((hb1.block _ (in_heap HR0.out)).trans HR0.out)
  clear hb1 p0 p1 p2 p3 p4 p5
  have p0 : w1.cell? ⟨w.heap.size, 0, none⟩ = some (.string sv) := cell_of_row _ _ 0 _ _ (0, 0) HR1.out
  have p1 : w1.cell? ⟨w.heap.size, 1, none⟩ = some (.string op) := cell_of_row _ _ 1 _ _ (0, 0) HR1.out
  have p2 : w1.cell? ⟨w.heap.size, 2, none⟩ = some (.string ky) := cell_of_row _ _ 2 _ _ (0, 0) HR1.out
  have p3 : w1.cell? ⟨w.heap.size, 3, none⟩ = some (.string vl) := cell_of_row _ _ 3 _ _ (0, 0) HR1.out
  have p4 : w1.cell? ⟨w.heap.size, 4, none⟩ = some (.int .i64 du) := cell_of_row _ _ 4 _ _ (0, 0) HR1.out
  have p5 : w1.cell? ⟨w.heap.size, 5, none⟩ = some (.bool er) := cell_of_row _ _ 5 _ _ (0, 0) HR1.out
  go_wp2_with fail
  refine (HFW.out w1 HB1.out).mono ?_
  rintro e w2 ⟨fb, rfl, hfb, hb2⟩
  have HB2 := Lib.hid (HB1.out.trans (hb2.mono HB1.out.size))
  have HR2 := Lib.hid ((hb2.block _ (in_heap HR1.out)).trans HR1.out)
  clear hb2 p0 p1 p2 p3 p4 p5
  have p0 : w2.cell? ⟨w.heap.size, 0, none⟩ = some (.string sv) := cell_of_row _ _ 0 _ _ (0, 0) HR2.out
  have p1 : w2.cell? ⟨w.heap.size, 1, none⟩ = some (.string op) := cell_of_row _ _ 1 _ _ (0, 0) HR2.out
  have p2 : w2.cell? ⟨w.heap.size, 2, none⟩ = some (.string ky) := cell_of_row _ _ 2 _ _ (0, 0) HR2.out
  have p3 : w2.cell? ⟨w.heap.size, 3, none⟩ = some (.string vl) := cell_of_row _ _ 3 _ _ (0, 0) HR2.out
  have p4 : w2.cell? ⟨w.heap.size, 4, none⟩ = some (.int .i64 du) := cell_of_row _ _ 4 _ _ (0, 0) HR2.out
  have p5 : w2.cell? ⟨w.heap.size, 5, none⟩ = some (.bool er) := cell_of_row _ _ 5 _ _ (0, 0) HR2.out
  cases fb
  · go_wp2_with fail
    go_ret
    exact ⟨rfl, HB2.out⟩
  have hgood : GoodBls l := hfb rfl
  have HSM := Lib.hid (small_good hgood)
  have HM120 : (l.flatMap Bl.l).length ≤ 120 := hgood.2.1
  clear hfb hgood
  go_wp2_with fail
  refine (HFQ.out w2).mono ?_
  rintro e w3 ⟨rfl, hb3⟩
  have HB3 := Lib.hid (HB2.out.trans (hb3.mono HB2.out.size))
  have HR3 := Lib.hid ((hb3.block _ (in_heap HR2.out)).trans HR2.out)
  clear hb3 p0 p1 p2 p3 p4 p5
  have p0 : w3.cell? ⟨w.heap.size, 0, none⟩ = some (.string sv) := cell_of_row _ _ 0 _ _ (0, 0) HR3.out
  have p1 : w3.cell? ⟨w.heap.size, 1, none⟩ = some (.string op) := cell_of_row _ _ 1 _ _ (0, 0) HR3.out
  have p2 : w3.cell? ⟨w.heap.size, 2, none⟩ = some (.string ky) := cell_of_row _ _ 2 _ _ (0, 0) HR3.out
  have p3 : w3.cell? ⟨w.heap.size, 3, none⟩ = some (.string vl) := cell_of_row _ _ 3 _ _ (0, 0) HR3.out
  have p4 : w3.cell? ⟨w.heap.size, 4, none⟩ = some (.int .i64 du) := cell_of_row _ _ 4 _ _ (0, 0) HR3.out
  have p5 : w3.cell? ⟨w.heap.size, 5, none⟩ = some (.bool er) := cell_of_row _ _ 5 _ _ (0, 0) HR3.out
  cases bq
  · go_wp2_with fail
    go_ret
    exact ⟨rfl, HB3.out⟩
  have hb34 := (Below.refl w3.heap.size w3).alloc (Nat.le_refl _) (.cells #[.string sv, .string op, .string ky, .string vl, .int .i64 du, .bool er] 68)
  have HB4 := Lib.hid (HB3.out.trans (hb34.mono HB3.out.size))
  have HR4 := Lib.hid ((hb34.block _ (in_heap HR3.out)).trans HR3.out)
  have HRB := Lib.hid (heap_alloc_new w3 (.cells #[.string sv, .string op, .string ky, .string vl, .int .i64 du, .bool er] 68))
  have hz34 : w.heap.size < w3.heap.size := in_heap HR3.out
  clear hb34
  go_upto_region 6 with fail
  generalize hz3 : w3.heap.size = z3 at *
  generalize w3.alloc (.cells #[.string sv, .string op, .string ky, .string vl, .int .i64 du, .bool er] 68) = w4 at *
  clear p0 p1 p2 p3 p4 p5 hz3
  obtain ⟨v, hv⟩ : ∃ v, bits .and .i64 z 3 = v := ⟨_, rfl⟩
  rw [hv]
  clear hv
  rcases (show v = 0 ∨ v = 1 ∨ v = 2 ∨ v = 3 ∨ (v ≠ 0 ∧ v ≠ 1 ∧ v ≠ 2 ∧ v ≠ 3) from by omega) with hv | hv | hv | hv | hv
  · have v0 : (v == 0) = true := by rw [beq_iff_eq]; omega
    have hnar : ∀ s : Sp, Qm.mt ⟨sv, op, ky, vl, du, er⟩ s = true → Qm.mt ⟨⟨#[]⟩, op, ky, vl, du, er⟩ s = true := fun s h => by
      unfold Qm.mt at h ⊢
      simp only [Bool.and_eq_true] at h ⊢
      obtain ⟨⟨⟨⟨h1, h2⟩, h3⟩, h4⟩, h5⟩ := h
      exact ⟨⟨⟨⟨by rw [nilB_nil]; rfl, h2⟩, h3⟩, h4⟩, h5⟩
    have HSUB := Lib.hid (all_sub l hnar)
    clear hnar
    have HRR : Hid ((w4.setCell ⟨z3, 0, none⟩ (.string ⟨#[]⟩)).heap[z3]? = some (.cells #[.string ⟨#[]⟩, .string op, .string ky, .string vl, .int .i64 du, .bool er] 68)) := Lib.hid (heap_setCell_same _ _ 0 _ _ _ HRB.out)
    have HRQ : Hid ((w4.setCell ⟨z3, 0, none⟩ (.string ⟨#[]⟩)).heap[w.heap.size]? = some (.cells #[.string sv, .string op, .string ky, .string vl, .int .i64 du, .bool er] 68)) := Lib.hid ((Below.heap_setCell w4 _ _ _ (by simp; omega)).trans HR4.out)
    have HBS : Hid (Below w.heap.size w (w4.setCell ⟨z3, 0, none⟩ (.string ⟨#[]⟩))) := Lib.hid (HB4.out.setCell (by show w.heap.size ≤ z3; omega) _)
    have b0c := HRB.out
    have y0c : w4.cell? ⟨z3, 0, none⟩ = some (.string sv) := cell_of_row _ _ 0 _ _ (0, 0) b0c
    have y0f : w4.frozen? ⟨z3, 0, none⟩ = false := qfrz b0c
    clear b0c
    go_upto_region 14 with fail
    generalize (w4.setCell ⟨z3, 0, none⟩ (.string ⟨#[]⟩)) = wS at *
    clear y0c y0f
    have p0 : wS.cell? ⟨w.heap.size, 0, none⟩ = some (.string sv) := cell_of_row _ _ 0 _ _ (0, 0) HRQ.out
    have p1 : wS.cell? ⟨w.heap.size, 1, none⟩ = some (.string op) := cell_of_row _ _ 1 _ _ (0, 0) HRQ.out
    have p2 : wS.cell? ⟨w.heap.size, 2, none⟩ = some (.string ky) := cell_of_row _ _ 2 _ _ (0, 0) HRQ.out
    have p3 : wS.cell? ⟨w.heap.size, 3, none⟩ = some (.string vl) := cell_of_row _ _ 3 _ _ (0, 0) HRQ.out
    have p4 : wS.cell? ⟨w.heap.size, 4, none⟩ = some (.int .i64 du) := cell_of_row _ _ 4 _ _ (0, 0) HRQ.out
    have p5 : wS.cell? ⟨w.heap.size, 5, none⟩ = some (.bool er) := cell_of_row _ _ 5 _ _ (0, 0) HRQ.out
    have F1 := Lib.hid (fun W (hW : Below wS.heap.size wS W) => find_lit sv op ky vl du er A l n c w.heap.size 1000 W HN.out (HY.out.below (HBS.out.trans (hW.mono HBS.out.size))) (Nat.le_trans HBS.out.size hW.size) HSM.out (by omega))
    have F2 := Lib.hid (fun W (hW : Below wS.heap.size wS W) => find_lit ⟨#[]⟩ op ky vl du er A l n c w.heap.size 1000 W HN.out (HY.out.below (HBS.out.trans (hW.mono HBS.out.size))) (Nat.le_trans HBS.out.size hW.size) HSM.out (by omega))
    have F3 := Lib.hid (fun W (hW : Below wS.heap.size wS W) => find_lit ⟨#[]⟩ ⟨#[]⟩ ⟨#[]⟩ ⟨#[]⟩ 0 false A l n c w.heap.size 1000 W HN.out (HY.out.below (HBS.out.trans (hW.mono HBS.out.size))) (Nat.le_trans HBS.out.size hW.size) HSM.out (by omega))
    have SPD := Lib.hid (fun W (hW : Below wS.heap.size wS W) => spanned_any A l n c w.heap.size W HN.out (HY.out.below (HBS.out.trans (hW.mono HBS.out.size))) (Nat.le_trans HBS.out.size hW.size) HSM.out)
    have HSUB2 : Hid (∀ x ∈ Qm.all ⟨⟨#[]⟩, op, ky, vl, du, er⟩ l, x ∈ Qm.all ⟨⟨#[]⟩, ⟨#[]⟩, ⟨#[]⟩, ⟨#[]⟩, 0, false⟩ l) := Lib.hid (all_sub l (fun s _ => mt_q0 s))
    have HI1 : Hid (IncC (Qm.all ⟨sv, op, ky, vl, du, er⟩ l)) := Lib.hid (setC_inc _)
    have HI2 : Hid (IncC (Qm.all ⟨⟨#[]⟩, op, ky, vl, du, er⟩ l)) := Lib.hid (setC_inc _)
    have HI3 : Hid (IncC (Qm.all ⟨⟨#[]⟩, ⟨#[]⟩, ⟨#[]⟩, ⟨#[]⟩, 0, false⟩ l)) := Lib.hid (setC_inc _)
    have hl1 := allq_len ⟨sv, op, ky, vl, du, er⟩ l
    have hl2 := allq_len ⟨⟨#[]⟩, op, ky, vl, du, er⟩ l
    have hl3 := allq_len ⟨⟨#[]⟩, ⟨#[]⟩, ⟨#[]⟩, ⟨#[]⟩, 0, false⟩ l
    rw [cutN_1000 _ (by omega), List.take_length] at F1 F2 F3
    have SPD2 : Hid (∀ W, Below wS.heap.size wS W → Calls Try.prog 52 #[.slice A n c] W fun e w' => e = .returned (.int .i64 ((Qm.all ⟨⟨#[]⟩, ⟨#[]⟩, ⟨#[]⟩, ⟨#[]⟩, 0, false⟩ l).length : Int)) ∧ Below W.heap.size W w') := Lib.hid SPD.out
    clear SPD
    generalize Qm.all ⟨sv, op, ky, vl, du, er⟩ l = R1 at *
    generalize Qm.all ⟨⟨#[]⟩, ⟨#[]⟩, ⟨#[]⟩, ⟨#[]⟩, 0, false⟩ l = R3 at *
    generalize Qm.all ⟨⟨#[]⟩, op, ky, vl, du, er⟩ l = R2 at *
    go_wp2_with fail
    refine (F1.out wS (Below.refl _ _)).mono ?_
    rintro e u1 ⟨x1, rfl, ho1, hb1⟩
    obtain ⟨A1, c1, rfl, _, hrd1⟩ := own_rd ho1
    have HU1 := Lib.hid (hb1)
    have HD1 := Lib.hid hrd1
    clear ho1 hrd1
    have r1 := (hb1.block _ (in_heap HRR.out)).trans HRR.out
    clear hb1 p0 p1 p2 p3 p4 p5
    have p0 : u1.cell? ⟨z3, 0, none⟩ = some (.string ⟨#[]⟩) := cell_of_row _ _ 0 _ _ (0, 0) r1
    have p1 : u1.cell? ⟨z3, 1, none⟩ = some (.string op) := cell_of_row _ _ 1 _ _ (0, 0) r1
    have p2 : u1.cell? ⟨z3, 2, none⟩ = some (.string ky) := cell_of_row _ _ 2 _ _ (0, 0) r1
    have p3 : u1.cell? ⟨z3, 3, none⟩ = some (.string vl) := cell_of_row _ _ 3 _ _ (0, 0) r1
    have p4 : u1.cell? ⟨z3, 4, none⟩ = some (.int .i64 du) := cell_of_row _ _ 4 _ _ (0, 0) r1
    have p5 : u1.cell? ⟨z3, 5, none⟩ = some (.bool er) := cell_of_row _ _ 5 _ _ (0, 0) r1
    clear r1
    go_wp2_with fail
    refine (F2.out u1 HU1.out).mono ?_
    rintro e u2 ⟨x2, rfl, ho2, hb2⟩
    obtain ⟨A2, c2, rfl, _, hrd2⟩ := own_rd ho2
    have HU2 := Lib.hid (HU1.out.trans (hb2.mono HU1.out.size))
    have HD2 := Lib.hid hrd2
    clear ho2 hrd2
    have HD12 := Lib.hid ((HD1.out.below hb2).more (B' := u2.heap.size) hb2.size)
    clear hb2 p0 p1 p2 p3 p4 p5
    go_wp2_with fail
    refine (F3.out u2 HU2.out).mono ?_
    rintro e u3 ⟨x3, rfl, ho3, hb3⟩
    obtain ⟨A3, c3, rfl, _, hrd3⟩ := own_rd ho3
    have HU3 := Lib.hid (HU2.out.trans (hb3.mono HU2.out.size))
    have HD3 := Lib.hid hrd3
    clear ho3 hrd3
    have HD13 := Lib.hid ((HD12.out.below hb3).more (B' := u3.heap.size) hb3.size)
    have HD23 := Lib.hid ((HD2.out.below hb3).more (B' := u3.heap.size) hb3.size)
    clear hb3
    go_wp2_with fail
    refine (within_any A1 A2 R1 R2 R1.length R2.length c1 c2 u3.heap.size u3 rfl rfl HD13.out HD23.out (Nat.le_refl _) (by omega) (by omega) HI1.out HI2.out HSUB.out).mono ?_
    rintro e u4 ⟨rfl, hb4⟩
    have HD24 := Lib.hid ((HD23.out.below hb4).more (B' := u4.heap.size) hb4.size)
    have HD34 := Lib.hid ((HD3.out.below hb4).more (B' := u4.heap.size) hb4.size)
    have HU4 := Lib.hid (HU3.out.trans (hb4.mono HU3.out.size))
    clear hb4
    go_wp2_with fail
    refine (within_any A2 A3 R2 R3 R2.length R3.length c2 c3 u4.heap.size u4 rfl rfl HD24.out HD34.out (Nat.le_refl _) (by omega) (by omega) HI2.out HI3.out HSUB2.out).mono ?_
    rintro e u5 ⟨rfl, hb5⟩
    have HU5 := Lib.hid (HU4.out.trans (hb5.mono HU4.out.size))
    clear hb5
    go_wp2_with fail
    refine (SPD2.out u5 HU5.out).mono ?_
    rintro e u6 ⟨rfl, hb6⟩
    have HU6 := Lib.hid (HU5.out.trans (hb6.mono HU5.out.size))
    clear hb6
    go_wp2_with fail
    go_ret
    exact ⟨rfl, HBS.out.trans (HU6.out.mono HBS.out.size)⟩

  · have v0 : (v == 0) = false := by rw [beq_eq_false_iff_ne]; omega
    have v1 : (v == 1) = true := by rw [beq_iff_eq]; omega
    have hnar : ∀ s : Sp, Qm.mt ⟨sv, op, ky, vl, du, er⟩ s = true → Qm.mt ⟨sv, ⟨#[]⟩, ky, vl, du, er⟩ s = true := fun s h => by
      unfold Qm.mt at h ⊢
      simp only [Bool.and_eq_true] at h ⊢
      obtain ⟨⟨⟨⟨h1, h2⟩, h3⟩, h4⟩, h5⟩ := h
      exact ⟨⟨⟨⟨h1, by rw [nilB_nil]; rfl⟩, h3⟩, h4⟩, h5⟩
    have HSUB := Lib.hid (all_sub l hnar)
    clear hnar
    have HRR : Hid ((w4.setCell ⟨z3, 1, none⟩ (.string ⟨#[]⟩)).heap[z3]? = some (.cells #[.string sv, .string ⟨#[]⟩, .string ky, .string vl, .int .i64 du, .bool er] 68)) := Lib.hid (heap_setCell_same _ _ 1 _ _ _ HRB.out)
    have HRQ : Hid ((w4.setCell ⟨z3, 1, none⟩ (.string ⟨#[]⟩)).heap[w.heap.size]? = some (.cells #[.string sv, .string op, .string ky, .string vl, .int .i64 du, .bool er] 68)) := Lib.hid ((Below.heap_setCell w4 _ _ _ (by simp; omega)).trans HR4.out)
    have HBS : Hid (Below w.heap.size w (w4.setCell ⟨z3, 1, none⟩ (.string ⟨#[]⟩))) := Lib.hid (HB4.out.setCell (by show w.heap.size ≤ z3; omega) _)
    have b0c := HRB.out
    have y1c : w4.cell? ⟨z3, 1, none⟩ = some (.string op) := cell_of_row _ _ 1 _ _ (0, 0) b0c
    have y1f : w4.frozen? ⟨z3, 1, none⟩ = false := qfrz b0c
    clear b0c
    go_upto_region 14 with fail
    generalize (w4.setCell ⟨z3, 1, none⟩ (.string ⟨#[]⟩)) = wS at *
    clear y1c y1f
    have p0 : wS.cell? ⟨w.heap.size, 0, none⟩ = some (.string sv) := cell_of_row _ _ 0 _ _ (0, 0) HRQ.out
    have p1 : wS.cell? ⟨w.heap.size, 1, none⟩ = some (.string op) := cell_of_row _ _ 1 _ _ (0, 0) HRQ.out
    have p2 : wS.cell? ⟨w.heap.size, 2, none⟩ = some (.string ky) := cell_of_row _ _ 2 _ _ (0, 0) HRQ.out
    have p3 : wS.cell? ⟨w.heap.size, 3, none⟩ = some (.string vl) := cell_of_row _ _ 3 _ _ (0, 0) HRQ.out
    have p4 : wS.cell? ⟨w.heap.size, 4, none⟩ = some (.int .i64 du) := cell_of_row _ _ 4 _ _ (0, 0) HRQ.out
    have p5 : wS.cell? ⟨w.heap.size, 5, none⟩ = some (.bool er) := cell_of_row _ _ 5 _ _ (0, 0) HRQ.out
    have F1 := Lib.hid (fun W (hW : Below wS.heap.size wS W) => find_lit sv op ky vl du er A l n c w.heap.size 1000 W HN.out (HY.out.below (HBS.out.trans (hW.mono HBS.out.size))) (Nat.le_trans HBS.out.size hW.size) HSM.out (by omega))
    have F2 := Lib.hid (fun W (hW : Below wS.heap.size wS W) => find_lit sv ⟨#[]⟩ ky vl du er A l n c w.heap.size 1000 W HN.out (HY.out.below (HBS.out.trans (hW.mono HBS.out.size))) (Nat.le_trans HBS.out.size hW.size) HSM.out (by omega))
    have F3 := Lib.hid (fun W (hW : Below wS.heap.size wS W) => find_lit ⟨#[]⟩ ⟨#[]⟩ ⟨#[]⟩ ⟨#[]⟩ 0 false A l n c w.heap.size 1000 W HN.out (HY.out.below (HBS.out.trans (hW.mono HBS.out.size))) (Nat.le_trans HBS.out.size hW.size) HSM.out (by omega))
    have SPD := Lib.hid (fun W (hW : Below wS.heap.size wS W) => spanned_any A l n c w.heap.size W HN.out (HY.out.below (HBS.out.trans (hW.mono HBS.out.size))) (Nat.le_trans HBS.out.size hW.size) HSM.out)
    have HSUB2 : Hid (∀ x ∈ Qm.all ⟨sv, ⟨#[]⟩, ky, vl, du, er⟩ l, x ∈ Qm.all ⟨⟨#[]⟩, ⟨#[]⟩, ⟨#[]⟩, ⟨#[]⟩, 0, false⟩ l) := Lib.hid (all_sub l (fun s _ => mt_q0 s))
    have HI1 : Hid (IncC (Qm.all ⟨sv, op, ky, vl, du, er⟩ l)) := Lib.hid (setC_inc _)
    have HI2 : Hid (IncC (Qm.all ⟨sv, ⟨#[]⟩, ky, vl, du, er⟩ l)) := Lib.hid (setC_inc _)
    have HI3 : Hid (IncC (Qm.all ⟨⟨#[]⟩, ⟨#[]⟩, ⟨#[]⟩, ⟨#[]⟩, 0, false⟩ l)) := Lib.hid (setC_inc _)
    have hl1 := allq_len ⟨sv, op, ky, vl, du, er⟩ l
    have hl2 := allq_len ⟨sv, ⟨#[]⟩, ky, vl, du, er⟩ l
    have hl3 := allq_len ⟨⟨#[]⟩, ⟨#[]⟩, ⟨#[]⟩, ⟨#[]⟩, 0, false⟩ l
    rw [cutN_1000 _ (by omega), List.take_length] at F1 F2 F3
    have SPD2 : Hid (∀ W, Below wS.heap.size wS W → Calls Try.prog 52 #[.slice A n c] W fun e w' => e = .returned (.int .i64 ((Qm.all ⟨⟨#[]⟩, ⟨#[]⟩, ⟨#[]⟩, ⟨#[]⟩, 0, false⟩ l).length : Int)) ∧ Below W.heap.size W w') := Lib.hid SPD.out
    clear SPD
    generalize Qm.all ⟨sv, op, ky, vl, du, er⟩ l = R1 at *
    generalize Qm.all ⟨⟨#[]⟩, ⟨#[]⟩, ⟨#[]⟩, ⟨#[]⟩, 0, false⟩ l = R3 at *
    generalize Qm.all ⟨sv, ⟨#[]⟩, ky, vl, du, er⟩ l = R2 at *
    go_wp2_with fail
    refine (F1.out wS (Below.refl _ _)).mono ?_
    rintro e u1 ⟨x1, rfl, ho1, hb1⟩
    obtain ⟨A1, c1, rfl, _, hrd1⟩ := own_rd ho1
    have HU1 := Lib.hid (hb1)
    have HD1 := Lib.hid hrd1
    clear ho1 hrd1
    have r1 := (hb1.block _ (in_heap HRR.out)).trans HRR.out
    clear hb1 p0 p1 p2 p3 p4 p5
    have p0 : u1.cell? ⟨z3, 0, none⟩ = some (.string sv) := cell_of_row _ _ 0 _ _ (0, 0) r1
    have p1 : u1.cell? ⟨z3, 1, none⟩ = some (.string ⟨#[]⟩) := cell_of_row _ _ 1 _ _ (0, 0) r1
    have p2 : u1.cell? ⟨z3, 2, none⟩ = some (.string ky) := cell_of_row _ _ 2 _ _ (0, 0) r1
    have p3 : u1.cell? ⟨z3, 3, none⟩ = some (.string vl) := cell_of_row _ _ 3 _ _ (0, 0) r1
    have p4 : u1.cell? ⟨z3, 4, none⟩ = some (.int .i64 du) := cell_of_row _ _ 4 _ _ (0, 0) r1
    have p5 : u1.cell? ⟨z3, 5, none⟩ = some (.bool er) := cell_of_row _ _ 5 _ _ (0, 0) r1
    clear r1
    go_wp2_with fail
    refine (F2.out u1 HU1.out).mono ?_
    rintro e u2 ⟨x2, rfl, ho2, hb2⟩
    obtain ⟨A2, c2, rfl, _, hrd2⟩ := own_rd ho2
    have HU2 := Lib.hid (HU1.out.trans (hb2.mono HU1.out.size))
    have HD2 := Lib.hid hrd2
    clear ho2 hrd2
    have HD12 := Lib.hid ((HD1.out.below hb2).more (B' := u2.heap.size) hb2.size)
    clear hb2 p0 p1 p2 p3 p4 p5
    go_wp2_with fail
    refine (F3.out u2 HU2.out).mono ?_
    rintro e u3 ⟨x3, rfl, ho3, hb3⟩
    obtain ⟨A3, c3, rfl, _, hrd3⟩ := own_rd ho3
    have HU3 := Lib.hid (HU2.out.trans (hb3.mono HU2.out.size))
    have HD3 := Lib.hid hrd3
    clear ho3 hrd3
    have HD13 := Lib.hid ((HD12.out.below hb3).more (B' := u3.heap.size) hb3.size)
    have HD23 := Lib.hid ((HD2.out.below hb3).more (B' := u3.heap.size) hb3.size)
    clear hb3
    go_wp2_with fail
    refine (within_any A1 A2 R1 R2 R1.length R2.length c1 c2 u3.heap.size u3 rfl rfl HD13.out HD23.out (Nat.le_refl _) (by omega) (by omega) HI1.out HI2.out HSUB.out).mono ?_
    rintro e u4 ⟨rfl, hb4⟩
    have HD24 := Lib.hid ((HD23.out.below hb4).more (B' := u4.heap.size) hb4.size)
    have HD34 := Lib.hid ((HD3.out.below hb4).more (B' := u4.heap.size) hb4.size)
    have HU4 := Lib.hid (HU3.out.trans (hb4.mono HU3.out.size))
    clear hb4
    go_wp2_with fail
    refine (within_any A2 A3 R2 R3 R2.length R3.length c2 c3 u4.heap.size u4 rfl rfl HD24.out HD34.out (Nat.le_refl _) (by omega) (by omega) HI2.out HI3.out HSUB2.out).mono ?_
    rintro e u5 ⟨rfl, hb5⟩
    have HU5 := Lib.hid (HU4.out.trans (hb5.mono HU4.out.size))
    clear hb5
    go_wp2_with fail
    refine (SPD2.out u5 HU5.out).mono ?_
    rintro e u6 ⟨rfl, hb6⟩
    have HU6 := Lib.hid (HU5.out.trans (hb6.mono HU5.out.size))
    clear hb6
    go_wp2_with fail
    go_ret
    exact ⟨rfl, HBS.out.trans (HU6.out.mono HBS.out.size)⟩

  · have v0 : (v == 0) = false := by rw [beq_eq_false_iff_ne]; omega
    have v1 : (v == 1) = false := by rw [beq_eq_false_iff_ne]; omega
    have v2 : (v == 2) = true := by rw [beq_iff_eq]; omega
    have hnar : ∀ s : Sp, Qm.mt ⟨sv, op, ky, vl, du, er⟩ s = true → Qm.mt ⟨sv, op, ky, vl, 0, er⟩ s = true := fun s h => by
      unfold Qm.mt at h ⊢
      simp only [Bool.and_eq_true] at h ⊢
      obtain ⟨⟨⟨⟨h1, h2⟩, h3⟩, h4⟩, h5⟩ := h
      exact ⟨⟨⟨⟨h1, h2⟩, h3⟩, rfl⟩, h5⟩
    have HSUB := Lib.hid (all_sub l hnar)
    clear hnar
    have HRR : Hid ((w4.setCell ⟨z3, 4, none⟩ (.int .i64 0)).heap[z3]? = some (.cells #[.string sv, .string op, .string ky, .string vl, .int .i64 0, .bool er] 68)) := Lib.hid (heap_setCell_same _ _ 4 _ _ _ HRB.out)
    have HRQ : Hid ((w4.setCell ⟨z3, 4, none⟩ (.int .i64 0)).heap[w.heap.size]? = some (.cells #[.string sv, .string op, .string ky, .string vl, .int .i64 du, .bool er] 68)) := Lib.hid ((Below.heap_setCell w4 _ _ _ (by simp; omega)).trans HR4.out)
    have HBS : Hid (Below w.heap.size w (w4.setCell ⟨z3, 4, none⟩ (.int .i64 0))) := Lib.hid (HB4.out.setCell (by show w.heap.size ≤ z3; omega) _)
    have b0c := HRB.out
    have y4c : w4.cell? ⟨z3, 4, none⟩ = some (.int .i64 du) := cell_of_row _ _ 4 _ _ (0, 0) b0c
    have y4f : w4.frozen? ⟨z3, 4, none⟩ = false := qfrz b0c
    clear b0c
    go_upto_region 14 with fail
    generalize (w4.setCell ⟨z3, 4, none⟩ (.int .i64 0)) = wS at *
    clear y4c y4f
    have p0 : wS.cell? ⟨w.heap.size, 0, none⟩ = some (.string sv) := cell_of_row _ _ 0 _ _ (0, 0) HRQ.out
    have p1 : wS.cell? ⟨w.heap.size, 1, none⟩ = some (.string op) := cell_of_row _ _ 1 _ _ (0, 0) HRQ.out
    have p2 : wS.cell? ⟨w.heap.size, 2, none⟩ = some (.string ky) := cell_of_row _ _ 2 _ _ (0, 0) HRQ.out
    have p3 : wS.cell? ⟨w.heap.size, 3, none⟩ = some (.string vl) := cell_of_row _ _ 3 _ _ (0, 0) HRQ.out
    have p4 : wS.cell? ⟨w.heap.size, 4, none⟩ = some (.int .i64 du) := cell_of_row _ _ 4 _ _ (0, 0) HRQ.out
    have p5 : wS.cell? ⟨w.heap.size, 5, none⟩ = some (.bool er) := cell_of_row _ _ 5 _ _ (0, 0) HRQ.out
    have F1 := Lib.hid (fun W (hW : Below wS.heap.size wS W) => find_lit sv op ky vl du er A l n c w.heap.size 1000 W HN.out (HY.out.below (HBS.out.trans (hW.mono HBS.out.size))) (Nat.le_trans HBS.out.size hW.size) HSM.out (by omega))
    have F2 := Lib.hid (fun W (hW : Below wS.heap.size wS W) => find_lit sv op ky vl 0 er A l n c w.heap.size 1000 W HN.out (HY.out.below (HBS.out.trans (hW.mono HBS.out.size))) (Nat.le_trans HBS.out.size hW.size) HSM.out (by omega))
    have F3 := Lib.hid (fun W (hW : Below wS.heap.size wS W) => find_lit ⟨#[]⟩ ⟨#[]⟩ ⟨#[]⟩ ⟨#[]⟩ 0 false A l n c w.heap.size 1000 W HN.out (HY.out.below (HBS.out.trans (hW.mono HBS.out.size))) (Nat.le_trans HBS.out.size hW.size) HSM.out (by omega))
    have SPD := Lib.hid (fun W (hW : Below wS.heap.size wS W) => spanned_any A l n c w.heap.size W HN.out (HY.out.below (HBS.out.trans (hW.mono HBS.out.size))) (Nat.le_trans HBS.out.size hW.size) HSM.out)
    have HSUB2 : Hid (∀ x ∈ Qm.all ⟨sv, op, ky, vl, 0, er⟩ l, x ∈ Qm.all ⟨⟨#[]⟩, ⟨#[]⟩, ⟨#[]⟩, ⟨#[]⟩, 0, false⟩ l) := Lib.hid (all_sub l (fun s _ => mt_q0 s))
    have HI1 : Hid (IncC (Qm.all ⟨sv, op, ky, vl, du, er⟩ l)) := Lib.hid (setC_inc _)
    have HI2 : Hid (IncC (Qm.all ⟨sv, op, ky, vl, 0, er⟩ l)) := Lib.hid (setC_inc _)
    have HI3 : Hid (IncC (Qm.all ⟨⟨#[]⟩, ⟨#[]⟩, ⟨#[]⟩, ⟨#[]⟩, 0, false⟩ l)) := Lib.hid (setC_inc _)
    have hl1 := allq_len ⟨sv, op, ky, vl, du, er⟩ l
    have hl2 := allq_len ⟨sv, op, ky, vl, 0, er⟩ l
    have hl3 := allq_len ⟨⟨#[]⟩, ⟨#[]⟩, ⟨#[]⟩, ⟨#[]⟩, 0, false⟩ l
    rw [cutN_1000 _ (by omega), List.take_length] at F1 F2 F3
    have SPD2 : Hid (∀ W, Below wS.heap.size wS W → Calls Try.prog 52 #[.slice A n c] W fun e w' => e = .returned (.int .i64 ((Qm.all ⟨⟨#[]⟩, ⟨#[]⟩, ⟨#[]⟩, ⟨#[]⟩, 0, false⟩ l).length : Int)) ∧ Below W.heap.size W w') := Lib.hid SPD.out
    clear SPD
    generalize Qm.all ⟨sv, op, ky, vl, du, er⟩ l = R1 at *
    generalize Qm.all ⟨⟨#[]⟩, ⟨#[]⟩, ⟨#[]⟩, ⟨#[]⟩, 0, false⟩ l = R3 at *
    generalize Qm.all ⟨sv, op, ky, vl, 0, er⟩ l = R2 at *
    go_wp2_with fail
    refine (F1.out wS (Below.refl _ _)).mono ?_
    rintro e u1 ⟨x1, rfl, ho1, hb1⟩
    obtain ⟨A1, c1, rfl, _, hrd1⟩ := own_rd ho1
    have HU1 := Lib.hid (hb1)
    have HD1 := Lib.hid hrd1
    clear ho1 hrd1
    have r1 := (hb1.block _ (in_heap HRR.out)).trans HRR.out
    clear hb1 p0 p1 p2 p3 p4 p5
    have p0 : u1.cell? ⟨z3, 0, none⟩ = some (.string sv) := cell_of_row _ _ 0 _ _ (0, 0) r1
    have p1 : u1.cell? ⟨z3, 1, none⟩ = some (.string op) := cell_of_row _ _ 1 _ _ (0, 0) r1
    have p2 : u1.cell? ⟨z3, 2, none⟩ = some (.string ky) := cell_of_row _ _ 2 _ _ (0, 0) r1
    have p3 : u1.cell? ⟨z3, 3, none⟩ = some (.string vl) := cell_of_row _ _ 3 _ _ (0, 0) r1
    have p4 : u1.cell? ⟨z3, 4, none⟩ = some (.int .i64 0) := cell_of_row _ _ 4 _ _ (0, 0) r1
    have p5 : u1.cell? ⟨z3, 5, none⟩ = some (.bool er) := cell_of_row _ _ 5 _ _ (0, 0) r1
    clear r1
    go_wp2_with fail
    refine (F2.out u1 HU1.out).mono ?_
    rintro e u2 ⟨x2, rfl, ho2, hb2⟩
    obtain ⟨A2, c2, rfl, _, hrd2⟩ := own_rd ho2
    have HU2 := Lib.hid (HU1.out.trans (hb2.mono HU1.out.size))
    have HD2 := Lib.hid hrd2
    clear ho2 hrd2
    have HD12 := Lib.hid ((HD1.out.below hb2).more (B' := u2.heap.size) hb2.size)
    clear hb2 p0 p1 p2 p3 p4 p5
    go_wp2_with fail
    refine (F3.out u2 HU2.out).mono ?_
    rintro e u3 ⟨x3, rfl, ho3, hb3⟩
    obtain ⟨A3, c3, rfl, _, hrd3⟩ := own_rd ho3
    have HU3 := Lib.hid (HU2.out.trans (hb3.mono HU2.out.size))
    have HD3 := Lib.hid hrd3
    clear ho3 hrd3
    have HD13 := Lib.hid ((HD12.out.below hb3).more (B' := u3.heap.size) hb3.size)
    have HD23 := Lib.hid ((HD2.out.below hb3).more (B' := u3.heap.size) hb3.size)
    clear hb3
    go_wp2_with fail
    refine (within_any A1 A2 R1 R2 R1.length R2.length c1 c2 u3.heap.size u3 rfl rfl HD13.out HD23.out (Nat.le_refl _) (by omega) (by omega) HI1.out HI2.out HSUB.out).mono ?_
    rintro e u4 ⟨rfl, hb4⟩
    have HD24 := Lib.hid ((HD23.out.below hb4).more (B' := u4.heap.size) hb4.size)
    have HD34 := Lib.hid ((HD3.out.below hb4).more (B' := u4.heap.size) hb4.size)
    have HU4 := Lib.hid (HU3.out.trans (hb4.mono HU3.out.size))
    clear hb4
    go_wp2_with fail
    refine (within_any A2 A3 R2 R3 R2.length R3.length c2 c3 u4.heap.size u4 rfl rfl HD24.out HD34.out (Nat.le_refl _) (by omega) (by omega) HI2.out HI3.out HSUB2.out).mono ?_
    rintro e u5 ⟨rfl, hb5⟩
    have HU5 := Lib.hid (HU4.out.trans (hb5.mono HU4.out.size))
    clear hb5
    go_wp2_with fail
    refine (SPD2.out u5 HU5.out).mono ?_
    rintro e u6 ⟨rfl, hb6⟩
    have HU6 := Lib.hid (HU5.out.trans (hb6.mono HU5.out.size))
    clear hb6
    go_wp2_with fail
    go_ret
    exact ⟨rfl, HBS.out.trans (HU6.out.mono HBS.out.size)⟩

  · have v0 : (v == 0) = false := by rw [beq_eq_false_iff_ne]; omega
    have v1 : (v == 1) = false := by rw [beq_eq_false_iff_ne]; omega
    have v2 : (v == 2) = false := by rw [beq_eq_false_iff_ne]; omega
    have v3 : (v == 3) = true := by rw [beq_iff_eq]; omega
    have hnar : ∀ s : Sp, Qm.mt ⟨sv, op, ky, vl, du, er⟩ s = true → Qm.mt ⟨sv, op, ky, vl, du, false⟩ s = true := fun s h => by
      unfold Qm.mt at h ⊢
      simp only [Bool.and_eq_true] at h ⊢
      obtain ⟨⟨⟨⟨h1, h2⟩, h3⟩, h4⟩, h5⟩ := h
      exact ⟨⟨⟨⟨h1, h2⟩, h3⟩, h4⟩, rfl⟩
    have HSUB := Lib.hid (all_sub l hnar)
    clear hnar
    have HRR : Hid ((w4.setCell ⟨z3, 5, none⟩ (.bool false)).heap[z3]? = some (.cells #[.string sv, .string op, .string ky, .string vl, .int .i64 du, .bool false] 68)) := Lib.hid (heap_setCell_same _ _ 5 _ _ _ HRB.out)
    have HRQ : Hid ((w4.setCell ⟨z3, 5, none⟩ (.bool false)).heap[w.heap.size]? = some (.cells #[.string sv, .string op, .string ky, .string vl, .int .i64 du, .bool er] 68)) := Lib.hid ((Below.heap_setCell w4 _ _ _ (by simp; omega)).trans HR4.out)
    have HBS : Hid (Below w.heap.size w (w4.setCell ⟨z3, 5, none⟩ (.bool false))) := Lib.hid (HB4.out.setCell (by show w.heap.size ≤ z3; omega) _)
    have b0c := HRB.out
    have y5c : w4.cell? ⟨z3, 5, none⟩ = some (.bool er) := cell_of_row _ _ 5 _ _ (0, 0) b0c
    have y5f : w4.frozen? ⟨z3, 5, none⟩ = false := qfrz b0c
    clear b0c
    go_upto_region 14 with fail
    generalize (w4.setCell ⟨z3, 5, none⟩ (.bool false)) = wS at *
    clear y5c y5f
    have p0 : wS.cell? ⟨w.heap.size, 0, none⟩ = some (.string sv) := cell_of_row _ _ 0 _ _ (0, 0) HRQ.out
    have p1 : wS.cell? ⟨w.heap.size, 1, none⟩ = some (.string op) := cell_of_row _ _ 1 _ _ (0, 0) HRQ.out
    have p2 : wS.cell? ⟨w.heap.size, 2, none⟩ = some (.string ky) := cell_of_row _ _ 2 _ _ (0, 0) HRQ.out
    have p3 : wS.cell? ⟨w.heap.size, 3, none⟩ = some (.string vl) := cell_of_row _ _ 3 _ _ (0, 0) HRQ.out
    have p4 : wS.cell? ⟨w.heap.size, 4, none⟩ = some (.int .i64 du) := cell_of_row _ _ 4 _ _ (0, 0) HRQ.out
    have p5 : wS.cell? ⟨w.heap.size, 5, none⟩ = some (.bool er) := cell_of_row _ _ 5 _ _ (0, 0) HRQ.out
    have F1 := Lib.hid (fun W (hW : Below wS.heap.size wS W) => find_lit sv op ky vl du er A l n c w.heap.size 1000 W HN.out (HY.out.below (HBS.out.trans (hW.mono HBS.out.size))) (Nat.le_trans HBS.out.size hW.size) HSM.out (by omega))
    have F2 := Lib.hid (fun W (hW : Below wS.heap.size wS W) => find_lit sv op ky vl du false A l n c w.heap.size 1000 W HN.out (HY.out.below (HBS.out.trans (hW.mono HBS.out.size))) (Nat.le_trans HBS.out.size hW.size) HSM.out (by omega))
    have F3 := Lib.hid (fun W (hW : Below wS.heap.size wS W) => find_lit ⟨#[]⟩ ⟨#[]⟩ ⟨#[]⟩ ⟨#[]⟩ 0 false A l n c w.heap.size 1000 W HN.out (HY.out.below (HBS.out.trans (hW.mono HBS.out.size))) (Nat.le_trans HBS.out.size hW.size) HSM.out (by omega))
    have SPD := Lib.hid (fun W (hW : Below wS.heap.size wS W) => spanned_any A l n c w.heap.size W HN.out (HY.out.below (HBS.out.trans (hW.mono HBS.out.size))) (Nat.le_trans HBS.out.size hW.size) HSM.out)
    have HSUB2 : Hid (∀ x ∈ Qm.all ⟨sv, op, ky, vl, du, false⟩ l, x ∈ Qm.all ⟨⟨#[]⟩, ⟨#[]⟩, ⟨#[]⟩, ⟨#[]⟩, 0, false⟩ l) := Lib.hid (all_sub l (fun s _ => mt_q0 s))
    have HI1 : Hid (IncC (Qm.all ⟨sv, op, ky, vl, du, er⟩ l)) := Lib.hid (setC_inc _)
    have HI2 : Hid (IncC (Qm.all ⟨sv, op, ky, vl, du, false⟩ l)) := Lib.hid (setC_inc _)
    have HI3 : Hid (IncC (Qm.all ⟨⟨#[]⟩, ⟨#[]⟩, ⟨#[]⟩, ⟨#[]⟩, 0, false⟩ l)) := Lib.hid (setC_inc _)
    have hl1 := allq_len ⟨sv, op, ky, vl, du, er⟩ l
    have hl2 := allq_len ⟨sv, op, ky, vl, du, false⟩ l
    have hl3 := allq_len ⟨⟨#[]⟩, ⟨#[]⟩, ⟨#[]⟩, ⟨#[]⟩, 0, false⟩ l
    rw [cutN_1000 _ (by omega), List.take_length] at F1 F2 F3
    have SPD2 : Hid (∀ W, Below wS.heap.size wS W → Calls Try.prog 52 #[.slice A n c] W fun e w' => e = .returned (.int .i64 ((Qm.all ⟨⟨#[]⟩, ⟨#[]⟩, ⟨#[]⟩, ⟨#[]⟩, 0, false⟩ l).length : Int)) ∧ Below W.heap.size W w') := Lib.hid SPD.out
    clear SPD
    generalize Qm.all ⟨sv, op, ky, vl, du, er⟩ l = R1 at *
    generalize Qm.all ⟨⟨#[]⟩, ⟨#[]⟩, ⟨#[]⟩, ⟨#[]⟩, 0, false⟩ l = R3 at *
    generalize Qm.all ⟨sv, op, ky, vl, du, false⟩ l = R2 at *
    go_wp2_with fail
    refine (F1.out wS (Below.refl _ _)).mono ?_
    rintro e u1 ⟨x1, rfl, ho1, hb1⟩
    obtain ⟨A1, c1, rfl, _, hrd1⟩ := own_rd ho1
    have HU1 := Lib.hid (hb1)
    have HD1 := Lib.hid hrd1
    clear ho1 hrd1
    have r1 := (hb1.block _ (in_heap HRR.out)).trans HRR.out
    clear hb1 p0 p1 p2 p3 p4 p5
    have p0 : u1.cell? ⟨z3, 0, none⟩ = some (.string sv) := cell_of_row _ _ 0 _ _ (0, 0) r1
    have p1 : u1.cell? ⟨z3, 1, none⟩ = some (.string op) := cell_of_row _ _ 1 _ _ (0, 0) r1
    have p2 : u1.cell? ⟨z3, 2, none⟩ = some (.string ky) := cell_of_row _ _ 2 _ _ (0, 0) r1
    have p3 : u1.cell? ⟨z3, 3, none⟩ = some (.string vl) := cell_of_row _ _ 3 _ _ (0, 0) r1
    have p4 : u1.cell? ⟨z3, 4, none⟩ = some (.int .i64 du) := cell_of_row _ _ 4 _ _ (0, 0) r1
    have p5 : u1.cell? ⟨z3, 5, none⟩ = some (.bool false) := cell_of_row _ _ 5 _ _ (0, 0) r1
    clear r1
    go_wp2_with fail
    refine (F2.out u1 HU1.out).mono ?_
    rintro e u2 ⟨x2, rfl, ho2, hb2⟩
    obtain ⟨A2, c2, rfl, _, hrd2⟩ := own_rd ho2
    have HU2 := Lib.hid (HU1.out.trans (hb2.mono HU1.out.size))
    have HD2 := Lib.hid hrd2
    clear ho2 hrd2
    have HD12 := Lib.hid ((HD1.out.below hb2).more (B' := u2.heap.size) hb2.size)
    clear hb2 p0 p1 p2 p3 p4 p5
    go_wp2_with fail
    refine (F3.out u2 HU2.out).mono ?_
    rintro e u3 ⟨x3, rfl, ho3, hb3⟩
    obtain ⟨A3, c3, rfl, _, hrd3⟩ := own_rd ho3
    have HU3 := Lib.hid (HU2.out.trans (hb3.mono HU2.out.size))
    have HD3 := Lib.hid hrd3
    clear ho3 hrd3
    have HD13 := Lib.hid ((HD12.out.below hb3).more (B' := u3.heap.size) hb3.size)
    have HD23 := Lib.hid ((HD2.out.below hb3).more (B' := u3.heap.size) hb3.size)
    clear hb3
    go_wp2_with fail
    refine (within_any A1 A2 R1 R2 R1.length R2.length c1 c2 u3.heap.size u3 rfl rfl HD13.out HD23.out (Nat.le_refl _) (by omega) (by omega) HI1.out HI2.out HSUB.out).mono ?_
    rintro e u4 ⟨rfl, hb4⟩
    have HD24 := Lib.hid ((HD23.out.below hb4).more (B' := u4.heap.size) hb4.size)
    have HD34 := Lib.hid ((HD3.out.below hb4).more (B' := u4.heap.size) hb4.size)
    have HU4 := Lib.hid (HU3.out.trans (hb4.mono HU3.out.size))
    clear hb4
    go_wp2_with fail
    refine (within_any A2 A3 R2 R3 R2.length R3.length c2 c3 u4.heap.size u4 rfl rfl HD24.out HD34.out (Nat.le_refl _) (by omega) (by omega) HI2.out HI3.out HSUB2.out).mono ?_
    rintro e u5 ⟨rfl, hb5⟩
    have HU5 := Lib.hid (HU4.out.trans (hb5.mono HU4.out.size))
    clear hb5
    go_wp2_with fail
    refine (SPD2.out u5 HU5.out).mono ?_
    rintro e u6 ⟨rfl, hb6⟩
    have HU6 := Lib.hid (HU5.out.trans (hb6.mono HU5.out.size))
    clear hb6
    go_wp2_with fail
    go_ret
    exact ⟨rfl, HBS.out.trans (HU6.out.mono HBS.out.size)⟩

  · have v0 : (v == 0) = false := by rw [beq_eq_false_iff_ne]; omega
    have v1 : (v == 1) = false := by rw [beq_eq_false_iff_ne]; omega
    have v2 : (v == 2) = false := by rw [beq_eq_false_iff_ne]; omega
    have v3 : (v == 3) = false := by rw [beq_eq_false_iff_ne]; omega
    have hnar : ∀ s : Sp, Qm.mt ⟨sv, op, ky, vl, du, er⟩ s = true → Qm.mt ⟨sv, op, ky, vl, du, er⟩ s = true := fun s h => by
      unfold Qm.mt at h ⊢
      simp only [Bool.and_eq_true] at h ⊢
      obtain ⟨⟨⟨⟨h1, h2⟩, h3⟩, h4⟩, h5⟩ := h
      exact ⟨⟨⟨⟨h1, h2⟩, h3⟩, h4⟩, h5⟩
    have HSUB := Lib.hid (all_sub l hnar)
    clear hnar
    have HRR : Hid (w4.heap[z3]? = some (.cells #[.string sv, .string op, .string ky, .string vl, .int .i64 du, .bool er] 68)) := Lib.hid (HRB.out)
    have HRQ : Hid (w4.heap[w.heap.size]? = some (.cells #[.string sv, .string op, .string ky, .string vl, .int .i64 du, .bool er] 68)) := Lib.hid (HR4.out)
    have HBS : Hid (Below w.heap.size w w4) := Lib.hid (HB4.out)
    have b0c := HRB.out
    have y0c : w4.cell? ⟨z3, 0, none⟩ = some (.string sv) := cell_of_row _ _ 0 _ _ (0, 0) b0c
    have y0f : w4.frozen? ⟨z3, 0, none⟩ = false := qfrz b0c
    clear b0c
    go_upto_region 14 with fail
    generalize w4 = wS at *
    clear y0c y0f
    have p0 : wS.cell? ⟨w.heap.size, 0, none⟩ = some (.string sv) := cell_of_row _ _ 0 _ _ (0, 0) HRQ.out
    have p1 : wS.cell? ⟨w.heap.size, 1, none⟩ = some (.string op) := cell_of_row _ _ 1 _ _ (0, 0) HRQ.out
    have p2 : wS.cell? ⟨w.heap.size, 2, none⟩ = some (.string ky) := cell_of_row _ _ 2 _ _ (0, 0) HRQ.out
    have p3 : wS.cell? ⟨w.heap.size, 3, none⟩ = some (.string vl) := cell_of_row _ _ 3 _ _ (0, 0) HRQ.out
    have p4 : wS.cell? ⟨w.heap.size, 4, none⟩ = some (.int .i64 du) := cell_of_row _ _ 4 _ _ (0, 0) HRQ.out
    have p5 : wS.cell? ⟨w.heap.size, 5, none⟩ = some (.bool er) := cell_of_row _ _ 5 _ _ (0, 0) HRQ.out
    have F1 := Lib.hid (fun W (hW : Below wS.heap.size wS W) => find_lit sv op ky vl du er A l n c w.heap.size 1000 W HN.out (HY.out.below (HBS.out.trans (hW.mono HBS.out.size))) (Nat.le_trans HBS.out.size hW.size) HSM.out (by omega))
    have F2 := Lib.hid (fun W (hW : Below wS.heap.size wS W) => find_lit sv op ky vl du er A l n c w.heap.size 1000 W HN.out (HY.out.below (HBS.out.trans (hW.mono HBS.out.size))) (Nat.le_trans HBS.out.size hW.size) HSM.out (by omega))
    have F3 := Lib.hid (fun W (hW : Below wS.heap.size wS W) => find_lit ⟨#[]⟩ ⟨#[]⟩ ⟨#[]⟩ ⟨#[]⟩ 0 false A l n c w.heap.size 1000 W HN.out (HY.out.below (HBS.out.trans (hW.mono HBS.out.size))) (Nat.le_trans HBS.out.size hW.size) HSM.out (by omega))
    have SPD := Lib.hid (fun W (hW : Below wS.heap.size wS W) => spanned_any A l n c w.heap.size W HN.out (HY.out.below (HBS.out.trans (hW.mono HBS.out.size))) (Nat.le_trans HBS.out.size hW.size) HSM.out)
    have HSUB2 : Hid (∀ x ∈ Qm.all ⟨sv, op, ky, vl, du, er⟩ l, x ∈ Qm.all ⟨⟨#[]⟩, ⟨#[]⟩, ⟨#[]⟩, ⟨#[]⟩, 0, false⟩ l) := Lib.hid (all_sub l (fun s _ => mt_q0 s))
    have HI1 : Hid (IncC (Qm.all ⟨sv, op, ky, vl, du, er⟩ l)) := Lib.hid (setC_inc _)
    have HI2 : Hid (IncC (Qm.all ⟨sv, op, ky, vl, du, er⟩ l)) := Lib.hid (setC_inc _)
    have HI3 : Hid (IncC (Qm.all ⟨⟨#[]⟩, ⟨#[]⟩, ⟨#[]⟩, ⟨#[]⟩, 0, false⟩ l)) := Lib.hid (setC_inc _)
    have hl1 := allq_len ⟨sv, op, ky, vl, du, er⟩ l
    have hl2 := allq_len ⟨sv, op, ky, vl, du, er⟩ l
    have hl3 := allq_len ⟨⟨#[]⟩, ⟨#[]⟩, ⟨#[]⟩, ⟨#[]⟩, 0, false⟩ l
    rw [cutN_1000 _ (by omega), List.take_length] at F1 F2 F3
    have SPD2 : Hid (∀ W, Below wS.heap.size wS W → Calls Try.prog 52 #[.slice A n c] W fun e w' => e = .returned (.int .i64 ((Qm.all ⟨⟨#[]⟩, ⟨#[]⟩, ⟨#[]⟩, ⟨#[]⟩, 0, false⟩ l).length : Int)) ∧ Below W.heap.size W w') := Lib.hid SPD.out
    clear SPD
    generalize Qm.all ⟨sv, op, ky, vl, du, er⟩ l = R1 at *
    generalize Qm.all ⟨⟨#[]⟩, ⟨#[]⟩, ⟨#[]⟩, ⟨#[]⟩, 0, false⟩ l = R3 at *
    obtain ⟨R2, hR2⟩ : ∃ R, R = R1 := ⟨_, rfl⟩
    go_wp2_with fail
    refine (F1.out wS (Below.refl _ _)).mono ?_
    rintro e u1 ⟨x1, rfl, ho1, hb1⟩
    obtain ⟨A1, c1, rfl, _, hrd1⟩ := own_rd ho1
    have HU1 := Lib.hid (hb1)
    have HD1 := Lib.hid hrd1
    clear ho1 hrd1
    have r1 := (hb1.block _ (in_heap HRR.out)).trans HRR.out
    clear hb1 p0 p1 p2 p3 p4 p5
    have p0 : u1.cell? ⟨z3, 0, none⟩ = some (.string sv) := cell_of_row _ _ 0 _ _ (0, 0) r1
    have p1 : u1.cell? ⟨z3, 1, none⟩ = some (.string op) := cell_of_row _ _ 1 _ _ (0, 0) r1
    have p2 : u1.cell? ⟨z3, 2, none⟩ = some (.string ky) := cell_of_row _ _ 2 _ _ (0, 0) r1
    have p3 : u1.cell? ⟨z3, 3, none⟩ = some (.string vl) := cell_of_row _ _ 3 _ _ (0, 0) r1
    have p4 : u1.cell? ⟨z3, 4, none⟩ = some (.int .i64 du) := cell_of_row _ _ 4 _ _ (0, 0) r1
    have p5 : u1.cell? ⟨z3, 5, none⟩ = some (.bool er) := cell_of_row _ _ 5 _ _ (0, 0) r1
    clear r1
    go_wp2_with fail
    refine (F2.out u1 HU1.out).mono ?_
    rintro e u2 ⟨x2, rfl, ho2, hb2⟩
    obtain ⟨A2, c2, rfl, _, hrd2⟩ := own_rd ho2
    have HU2 := Lib.hid (HU1.out.trans (hb2.mono HU1.out.size))
    have HD2 := Lib.hid hrd2
    clear ho2 hrd2
    have HD12 := Lib.hid ((HD1.out.below hb2).more (B' := u2.heap.size) hb2.size)
    clear hb2 p0 p1 p2 p3 p4 p5
    go_wp2_with fail
    refine (F3.out u2 HU2.out).mono ?_
    rintro e u3 ⟨x3, rfl, ho3, hb3⟩
    obtain ⟨A3, c3, rfl, _, hrd3⟩ := own_rd ho3
    have HU3 := Lib.hid (HU2.out.trans (hb3.mono HU2.out.size))
    have HD3 := Lib.hid hrd3
    clear ho3 hrd3
    have HD13 := Lib.hid ((HD12.out.below hb3).more (B' := u3.heap.size) hb3.size)
    have HD23 := Lib.hid ((HD2.out.below hb3).more (B' := u3.heap.size) hb3.size)
    clear hb3
    go_wp2_with fail
    refine (within_any A1 A2 R1 R1 R1.length R1.length c1 c2 u3.heap.size u3 rfl rfl HD13.out HD23.out (Nat.le_refl _) (by omega) (by omega) HI1.out HI2.out HSUB.out).mono ?_
    rintro e u4 ⟨rfl, hb4⟩
    have HD24 := Lib.hid ((HD23.out.below hb4).more (B' := u4.heap.size) hb4.size)
    have HD34 := Lib.hid ((HD3.out.below hb4).more (B' := u4.heap.size) hb4.size)
    have HU4 := Lib.hid (HU3.out.trans (hb4.mono HU3.out.size))
    clear hb4
    go_wp2_with fail
    refine (within_any A2 A3 R1 R3 R1.length R3.length c2 c3 u4.heap.size u4 rfl rfl HD24.out HD34.out (Nat.le_refl _) (by omega) (by omega) HI2.out HI3.out HSUB2.out).mono ?_
    rintro e u5 ⟨rfl, hb5⟩
    have HU5 := Lib.hid (HU4.out.trans (hb5.mono HU4.out.size))
    clear hb5
    go_wp2_with fail
    refine (SPD2.out u5 HU5.out).mono ?_
    rintro e u6 ⟨rfl, hb6⟩
    have HU6 := Lib.hid (HU5.out.trans (hb6.mono HU5.out.size))
    clear hb6
    go_wp2_with fail
    go_ret
    exact ⟨rfl, HBS.out.trans (HU6.out.mono HBS.out.size)⟩


end Go.Proofs.Ytmldelgbmadegaa
