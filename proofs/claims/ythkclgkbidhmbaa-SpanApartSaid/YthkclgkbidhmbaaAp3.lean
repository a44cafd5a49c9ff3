/- SpanApart: no two spans are written as one, and none is the beginning of another one. -/
import Derived.Test.YthkclgkbidhmbaaBk3
import Derived.Test.YthkclgkbidhmbaaSn
namespace Go.Proofs.Ythkclgkbidhmbaa
open Go.RowKit
set_option linter.unusedVariables false
set_option maxRecDepth 100000

theorem S8_toList (l : List UInt8) : (S8 l).toList = l := by simp [S8]
theorem toList_data (s : ByteArray) : s.toList = s.data.toList := by
  obtain ⟨⟨l⟩⟩ := s
  simp
theorem S8_extract (l : List UInt8) (q : Nat) : ((S8 l).extract 0 q).toList = l.take q := by
  rw [toList_data, ByteArray.data_extract]
  simp [S8]
theorem ext_ne {L M : List UInt8} {sL sM : ByteArray} (hL : S8 L = sL) (hM : S8 M = sM) (h : ∀ x, L ≠ M ++ x) : ¬ (sL.extract 0 sM.size).toList = sM.toList := by
  subst hL
  subst hM
  intro e
  rw [S8_extract, S8_toList] at e
  exact h (L.drop (S8 M).size) (by conv => lhs; rw [← List.take_append_drop (S8 M).size L, e])
set_option maxHeartbeats 16000000 in
theorem apart_out (x0 x1 x2 x3 : Int) (x4 x5 : ByteArray) (x6 x7 : Int) (x8 : Bool) (ats : List (ByteArray × ByteArray)) (xA : Option Addr) (xc k : Nat) (y0 y1 y2 y3 : Int) (y4 y5 : ByteArray) (y6 y7 : Int) (y8 : Bool) (bts : List (ByteArray × ByteArray)) (yA : Option Addr) (yc m : Nat) (w : World) (hk : k = ats.length) (hm : m = bts.length) (hx : RdL w w.heap.size ⟨⟨x0, x1, x2, x3, x4, x5, x6, x7, x8, ats⟩, xA, xc⟩) (hy : RdL w w.heap.size ⟨⟨y0, y1, y2, y3, y4, y5, y6, y7, y8, bts⟩, yA, yc⟩) (h : right ⟨x0, x1, x2, x3, x4, x5, x6, x7, x8, ats⟩ = false ∨ right ⟨y0, y1, y2, y3, y4, y5, y6, y7, y8, bts⟩ = false) :
    Calls Try.prog 7 #[.agg #[.int .u64 x0, .int .u64 x1, .int .u64 x2, .int .u64 x3, .string x4, .string x5, .int .i64 x6, .int .i64 x7, .bool x8, .slice xA k xc], .agg #[.int .u64 y0, .int .u64 y1, .int .u64 y2, .int .u64 y3, .string y4, .string y5, .int .i64 y6, .int .i64 y7, .bool y8, .slice yA m yc]] w fun e w' => e = .returned (.bool true) ∧ Below w.heap.size w w' := by
  have HX0 := Lib.hid (two_cells w (.cells #[.int .u64 x0, .int .u64 x1, .int .u64 x2, .int .u64 x3, .string x4, .string x5, .int .i64 x6, .int .i64 x7, .bool x8, .slice xA k xc] 36) (.cells #[.int .u64 y0, .int .u64 y1, .int .u64 y2, .int .u64 y3, .string y4, .string y5, .int .i64 y6, .int .i64 y7, .bool y8, .slice yA m yc] 36)).1
  have HY0 := Lib.hid (two_cells w (.cells #[.int .u64 x0, .int .u64 x1, .int .u64 x2, .int .u64 x3, .string x4, .string x5, .int .i64 x6, .int .i64 x7, .bool x8, .slice xA k xc] 36) (.cells #[.int .u64 y0, .int .u64 y1, .int .u64 y2, .int .u64 y3, .string y4, .string y5, .int .i64 y6, .int .i64 y7, .bool y8, .slice yA m yc] 36)).2
  have HB0 := Lib.hid (two_below w (.cells #[.int .u64 x0, .int .u64 x1, .int .u64 x2, .int .u64 x3, .string x4, .string x5, .int .i64 x6, .int .i64 x7, .bool x8, .slice xA k xc] 36) (.cells #[.int .u64 y0, .int .u64 y1, .int .u64 y2, .int .u64 y3, .string y4, .string y5, .int .i64 y6, .int .i64 y7, .bool y8, .slice yA m yc] 36))
  have HRX : Hid (∀ W, Below w.heap.size w W → Calls Try.prog 29 #[.agg #[.int .u64 x0, .int .u64 x1, .int .u64 x2, .int .u64 x3, .string x4, .string x5, .int .i64 x6, .int .i64 x7, .bool x8, .slice xA k xc]] W fun e w' => e = .returned (.bool (right ⟨x0, x1, x2, x3, x4, x5, x6, x7, x8, ats⟩)) ∧ Below W.heap.size W w') := Lib.hid (fun W hW => rightspan_lit x0 x1 x2 x3 x4 x5 x6 x7 x8 ats xA xc k w.heap.size W hk (hx.below hW) hW.size)
  have HRY : Hid (∀ W, Below w.heap.size w W → Calls Try.prog 29 #[.agg #[.int .u64 y0, .int .u64 y1, .int .u64 y2, .int .u64 y3, .string y4, .string y5, .int .i64 y6, .int .i64 y7, .bool y8, .slice yA m yc]] W fun e w' => e = .returned (.bool (right ⟨y0, y1, y2, y3, y4, y5, y6, y7, y8, bts⟩)) ∧ Below W.heap.size W w') := Lib.hid (fun W hW => rightspan_lit y0 y1 y2 y3 y4 y5 y6 y7 y8 bts yA yc m w.heap.size W hm (hy.below hW) hW.size)
  have hh : right ⟨x0, x1, x2, x3, x4, x5, x6, x7, x8, ats⟩ = false ∨ (right ⟨x0, x1, x2, x3, x4, x5, x6, x7, x8, ats⟩ = true ∧ right ⟨y0, y1, y2, y3, y4, y5, y6, y7, y8, bts⟩ = false) := by
    cases hr : right ⟨x0, x1, x2, x3, x4, x5, x6, x7, x8, ats⟩ with
    | false => exact .inl rfl
    | true =>
      rcases h with h | h
      · rw [hr] at h; cases h
      · exact .inr ⟨rfl, h⟩
  clear h hx hy hk hm
  rcases hh with hr | ⟨hr, hq⟩
  · rw [hr] at HRX
    clear hr
    go_enter Try.func7, Try.ntmps7
    go_wp2_with fail
    refine (alive3_calls _).mono ?_
    rintro e w1 ⟨rfl, hb⟩
    have HX1 := Lib.hid ((hb.block _ (in_heap HX0.out)).trans HX0.out)
    have HY1 := Lib.hid ((hb.block _ (in_heap HY0.out)).trans HY0.out)
    have HB1 := Lib.hid (HB0.out.trans (hb.mono HB0.out.size))
    
    have b0 : w1.cell? ⟨w.heap.size, 0, none⟩ = some (.int .u64 x0) := cell_of_row _ _ 0 _ _ (0, 0) HX1.out
    have b1 : w1.cell? ⟨w.heap.size, 1, none⟩ = some (.int .u64 x1) := cell_of_row _ _ 1 _ _ (0, 0) HX1.out
    have b2 : w1.cell? ⟨w.heap.size, 2, none⟩ = some (.int .u64 x2) := cell_of_row _ _ 2 _ _ (0, 0) HX1.out
    have b3 : w1.cell? ⟨w.heap.size, 3, none⟩ = some (.int .u64 x3) := cell_of_row _ _ 3 _ _ (0, 0) HX1.out
    have b4 : w1.cell? ⟨w.heap.size, 4, none⟩ = some (.string x4) := cell_of_row _ _ 4 _ _ (0, 0) HX1.out
    have b5 : w1.cell? ⟨w.heap.size, 5, none⟩ = some (.string x5) := cell_of_row _ _ 5 _ _ (0, 0) HX1.out
    have b6 : w1.cell? ⟨w.heap.size, 6, none⟩ = some (.int .i64 x6) := cell_of_row _ _ 6 _ _ (0, 0) HX1.out
    have b7 : w1.cell? ⟨w.heap.size, 7, none⟩ = some (.int .i64 x7) := cell_of_row _ _ 7 _ _ (0, 0) HX1.out
    have b8 : w1.cell? ⟨w.heap.size, 8, none⟩ = some (.bool x8) := cell_of_row _ _ 8 _ _ (0, 0) HX1.out
    have b9 : w1.cell? ⟨w.heap.size, 9, none⟩ = some (.slice xA k xc) := cell_of_row _ _ 9 _ _ (0, 0) HX1.out
    have d0 : w1.cell? ⟨w.heap.size + 1, 0, none⟩ = some (.int .u64 y0) := cell_of_row _ _ 0 _ _ (0, 0) HY1.out
    have d1 : w1.cell? ⟨w.heap.size + 1, 1, none⟩ = some (.int .u64 y1) := cell_of_row _ _ 1 _ _ (0, 0) HY1.out
    have d2 : w1.cell? ⟨w.heap.size + 1, 2, none⟩ = some (.int .u64 y2) := cell_of_row _ _ 2 _ _ (0, 0) HY1.out
    have d3 : w1.cell? ⟨w.heap.size + 1, 3, none⟩ = some (.int .u64 y3) := cell_of_row _ _ 3 _ _ (0, 0) HY1.out
    have d4 : w1.cell? ⟨w.heap.size + 1, 4, none⟩ = some (.string y4) := cell_of_row _ _ 4 _ _ (0, 0) HY1.out
    have d5 : w1.cell? ⟨w.heap.size + 1, 5, none⟩ = some (.string y5) := cell_of_row _ _ 5 _ _ (0, 0) HY1.out
    have d6 : w1.cell? ⟨w.heap.size + 1, 6, none⟩ = some (.int .i64 y6) := cell_of_row _ _ 6 _ _ (0, 0) HY1.out
    have d7 : w1.cell? ⟨w.heap.size + 1, 7, none⟩ = some (.int .i64 y7) := cell_of_row _ _ 7 _ _ (0, 0) HY1.out
    have d8 : w1.cell? ⟨w.heap.size + 1, 8, none⟩ = some (.bool y8) := cell_of_row _ _ 8 _ _ (0, 0) HY1.out
    have d9 : w1.cell? ⟨w.heap.size + 1, 9, none⟩ = some (.slice yA m yc) := cell_of_row _ _ 9 _ _ (0, 0) HY1.out
    clear hb HX0 HY0 HB0
    go_wp2_with fail
    refine (HRX.out w1 HB1.out).mono ?_
    rintro e w2 ⟨rfl, hb⟩
    have HX2 := Lib.hid ((hb.block _ (in_heap HX1.out)).trans HX1.out)
    have HY2 := Lib.hid ((hb.block _ (in_heap HY1.out)).trans HY1.out)
    have HB2 := Lib.hid (HB1.out.trans (hb.mono HB1.out.size))
    clear b0 d0 b1 d1 b2 d2 b3 d3 b4 d4 b5 d5 b6 d6 b7 d7 b8 d8 b9 d9
    have b0 : w2.cell? ⟨w.heap.size, 0, none⟩ = some (.int .u64 x0) := cell_of_row _ _ 0 _ _ (0, 0) HX2.out
    have b1 : w2.cell? ⟨w.heap.size, 1, none⟩ = some (.int .u64 x1) := cell_of_row _ _ 1 _ _ (0, 0) HX2.out
    have b2 : w2.cell? ⟨w.heap.size, 2, none⟩ = some (.int .u64 x2) := cell_of_row _ _ 2 _ _ (0, 0) HX2.out
    have b3 : w2.cell? ⟨w.heap.size, 3, none⟩ = some (.int .u64 x3) := cell_of_row _ _ 3 _ _ (0, 0) HX2.out
    have b4 : w2.cell? ⟨w.heap.size, 4, none⟩ = some (.string x4) := cell_of_row _ _ 4 _ _ (0, 0) HX2.out
    have b5 : w2.cell? ⟨w.heap.size, 5, none⟩ = some (.string x5) := cell_of_row _ _ 5 _ _ (0, 0) HX2.out
    have b6 : w2.cell? ⟨w.heap.size, 6, none⟩ = some (.int .i64 x6) := cell_of_row _ _ 6 _ _ (0, 0) HX2.out
    have b7 : w2.cell? ⟨w.heap.size, 7, none⟩ = some (.int .i64 x7) := cell_of_row _ _ 7 _ _ (0, 0) HX2.out
    have b8 : w2.cell? ⟨w.heap.size, 8, none⟩ = some (.bool x8) := cell_of_row _ _ 8 _ _ (0, 0) HX2.out
    have b9 : w2.cell? ⟨w.heap.size, 9, none⟩ = some (.slice xA k xc) := cell_of_row _ _ 9 _ _ (0, 0) HX2.out
    have d0 : w2.cell? ⟨w.heap.size + 1, 0, none⟩ = some (.int .u64 y0) := cell_of_row _ _ 0 _ _ (0, 0) HY2.out
    have d1 : w2.cell? ⟨w.heap.size + 1, 1, none⟩ = some (.int .u64 y1) := cell_of_row _ _ 1 _ _ (0, 0) HY2.out
    have d2 : w2.cell? ⟨w.heap.size + 1, 2, none⟩ = some (.int .u64 y2) := cell_of_row _ _ 2 _ _ (0, 0) HY2.out
    have d3 : w2.cell? ⟨w.heap.size + 1, 3, none⟩ = some (.int .u64 y3) := cell_of_row _ _ 3 _ _ (0, 0) HY2.out
    have d4 : w2.cell? ⟨w.heap.size + 1, 4, none⟩ = some (.string y4) := cell_of_row _ _ 4 _ _ (0, 0) HY2.out
    have d5 : w2.cell? ⟨w.heap.size + 1, 5, none⟩ = some (.string y5) := cell_of_row _ _ 5 _ _ (0, 0) HY2.out
    have d6 : w2.cell? ⟨w.heap.size + 1, 6, none⟩ = some (.int .i64 y6) := cell_of_row _ _ 6 _ _ (0, 0) HY2.out
    have d7 : w2.cell? ⟨w.heap.size + 1, 7, none⟩ = some (.int .i64 y7) := cell_of_row _ _ 7 _ _ (0, 0) HY2.out
    have d8 : w2.cell? ⟨w.heap.size + 1, 8, none⟩ = some (.bool y8) := cell_of_row _ _ 8 _ _ (0, 0) HY2.out
    have d9 : w2.cell? ⟨w.heap.size + 1, 9, none⟩ = some (.slice yA m yc) := cell_of_row _ _ 9 _ _ (0, 0) HY2.out
    clear hb HX1 HY1
    go_wp2_with fail
    go_ret
    exact ⟨rfl, HB2.out⟩
  · rw [hr] at HRX
    rw [hq] at HRY
    clear hr hq
    go_enter Try.func7, Try.ntmps7
    go_wp2_with fail
    refine (alive3_calls _).mono ?_
    rintro e w1 ⟨rfl, hb⟩
    have HX1 := Lib.hid ((hb.block _ (in_heap HX0.out)).trans HX0.out)
    have HY1 := Lib.hid ((hb.block _ (in_heap HY0.out)).trans HY0.out)
    have HB1 := Lib.hid (HB0.out.trans (hb.mono HB0.out.size))
    
    have b0 : w1.cell? ⟨w.heap.size, 0, none⟩ = some (.int .u64 x0) := cell_of_row _ _ 0 _ _ (0, 0) HX1.out
    have b1 : w1.cell? ⟨w.heap.size, 1, none⟩ = some (.int .u64 x1) := cell_of_row _ _ 1 _ _ (0, 0) HX1.out
    have b2 : w1.cell? ⟨w.heap.size, 2, none⟩ = some (.int .u64 x2) := cell_of_row _ _ 2 _ _ (0, 0) HX1.out
    have b3 : w1.cell? ⟨w.heap.size, 3, none⟩ = some (.int .u64 x3) := cell_of_row _ _ 3 _ _ (0, 0) HX1.out
    have b4 : w1.cell? ⟨w.heap.size, 4, none⟩ = some (.string x4) := cell_of_row _ _ 4 _ _ (0, 0) HX1.out
    have b5 : w1.cell? ⟨w.heap.size, 5, none⟩ = some (.string x5) := cell_of_row _ _ 5 _ _ (0, 0) HX1.out
    have b6 : w1.cell? ⟨w.heap.size, 6, none⟩ = some (.int .i64 x6) := cell_of_row _ _ 6 _ _ (0, 0) HX1.out
    have b7 : w1.cell? ⟨w.heap.size, 7, none⟩ = some (.int .i64 x7) := cell_of_row _ _ 7 _ _ (0, 0) HX1.out
    have b8 : w1.cell? ⟨w.heap.size, 8, none⟩ = some (.bool x8) := cell_of_row _ _ 8 _ _ (0, 0) HX1.out
    have b9 : w1.cell? ⟨w.heap.size, 9, none⟩ = some (.slice xA k xc) := cell_of_row _ _ 9 _ _ (0, 0) HX1.out
    have d0 : w1.cell? ⟨w.heap.size + 1, 0, none⟩ = some (.int .u64 y0) := cell_of_row _ _ 0 _ _ (0, 0) HY1.out
    have d1 : w1.cell? ⟨w.heap.size + 1, 1, none⟩ = some (.int .u64 y1) := cell_of_row _ _ 1 _ _ (0, 0) HY1.out
    have d2 : w1.cell? ⟨w.heap.size + 1, 2, none⟩ = some (.int .u64 y2) := cell_of_row _ _ 2 _ _ (0, 0) HY1.out
    have d3 : w1.cell? ⟨w.heap.size + 1, 3, none⟩ = some (.int .u64 y3) := cell_of_row _ _ 3 _ _ (0, 0) HY1.out
    have d4 : w1.cell? ⟨w.heap.size + 1, 4, none⟩ = some (.string y4) := cell_of_row _ _ 4 _ _ (0, 0) HY1.out
    have d5 : w1.cell? ⟨w.heap.size + 1, 5, none⟩ = some (.string y5) := cell_of_row _ _ 5 _ _ (0, 0) HY1.out
    have d6 : w1.cell? ⟨w.heap.size + 1, 6, none⟩ = some (.int .i64 y6) := cell_of_row _ _ 6 _ _ (0, 0) HY1.out
    have d7 : w1.cell? ⟨w.heap.size + 1, 7, none⟩ = some (.int .i64 y7) := cell_of_row _ _ 7 _ _ (0, 0) HY1.out
    have d8 : w1.cell? ⟨w.heap.size + 1, 8, none⟩ = some (.bool y8) := cell_of_row _ _ 8 _ _ (0, 0) HY1.out
    have d9 : w1.cell? ⟨w.heap.size + 1, 9, none⟩ = some (.slice yA m yc) := cell_of_row _ _ 9 _ _ (0, 0) HY1.out
    clear hb HX0 HY0 HB0
    go_wp2_with fail
    refine (HRX.out w1 HB1.out).mono ?_
    rintro e w2 ⟨rfl, hb⟩
    have HX2 := Lib.hid ((hb.block _ (in_heap HX1.out)).trans HX1.out)
    have HY2 := Lib.hid ((hb.block _ (in_heap HY1.out)).trans HY1.out)
    have HB2 := Lib.hid (HB1.out.trans (hb.mono HB1.out.size))
    clear b0 d0 b1 d1 b2 d2 b3 d3 b4 d4 b5 d5 b6 d6 b7 d7 b8 d8 b9 d9
    have b0 : w2.cell? ⟨w.heap.size, 0, none⟩ = some (.int .u64 x0) := cell_of_row _ _ 0 _ _ (0, 0) HX2.out
    have b1 : w2.cell? ⟨w.heap.size, 1, none⟩ = some (.int .u64 x1) := cell_of_row _ _ 1 _ _ (0, 0) HX2.out
    have b2 : w2.cell? ⟨w.heap.size, 2, none⟩ = some (.int .u64 x2) := cell_of_row _ _ 2 _ _ (0, 0) HX2.out
    have b3 : w2.cell? ⟨w.heap.size, 3, none⟩ = some (.int .u64 x3) := cell_of_row _ _ 3 _ _ (0, 0) HX2.out
    have b4 : w2.cell? ⟨w.heap.size, 4, none⟩ = some (.string x4) := cell_of_row _ _ 4 _ _ (0, 0) HX2.out
    have b5 : w2.cell? ⟨w.heap.size, 5, none⟩ = some (.string x5) := cell_of_row _ _ 5 _ _ (0, 0) HX2.out
    have b6 : w2.cell? ⟨w.heap.size, 6, none⟩ = some (.int .i64 x6) := cell_of_row _ _ 6 _ _ (0, 0) HX2.out
    have b7 : w2.cell? ⟨w.heap.size, 7, none⟩ = some (.int .i64 x7) := cell_of_row _ _ 7 _ _ (0, 0) HX2.out
    have b8 : w2.cell? ⟨w.heap.size, 8, none⟩ = some (.bool x8) := cell_of_row _ _ 8 _ _ (0, 0) HX2.out
    have b9 : w2.cell? ⟨w.heap.size, 9, none⟩ = some (.slice xA k xc) := cell_of_row _ _ 9 _ _ (0, 0) HX2.out
    have d0 : w2.cell? ⟨w.heap.size + 1, 0, none⟩ = some (.int .u64 y0) := cell_of_row _ _ 0 _ _ (0, 0) HY2.out
    have d1 : w2.cell? ⟨w.heap.size + 1, 1, none⟩ = some (.int .u64 y1) := cell_of_row _ _ 1 _ _ (0, 0) HY2.out
    have d2 : w2.cell? ⟨w.heap.size + 1, 2, none⟩ = some (.int .u64 y2) := cell_of_row _ _ 2 _ _ (0, 0) HY2.out
    have d3 : w2.cell? ⟨w.heap.size + 1, 3, none⟩ = some (.int .u64 y3) := cell_of_row _ _ 3 _ _ (0, 0) HY2.out
    have d4 : w2.cell? ⟨w.heap.size + 1, 4, none⟩ = some (.string y4) := cell_of_row _ _ 4 _ _ (0, 0) HY2.out
    have d5 : w2.cell? ⟨w.heap.size + 1, 5, none⟩ = some (.string y5) := cell_of_row _ _ 5 _ _ (0, 0) HY2.out
    have d6 : w2.cell? ⟨w.heap.size + 1, 6, none⟩ = some (.int .i64 y6) := cell_of_row _ _ 6 _ _ (0, 0) HY2.out
    have d7 : w2.cell? ⟨w.heap.size + 1, 7, none⟩ = some (.int .i64 y7) := cell_of_row _ _ 7 _ _ (0, 0) HY2.out
    have d8 : w2.cell? ⟨w.heap.size + 1, 8, none⟩ = some (.bool y8) := cell_of_row _ _ 8 _ _ (0, 0) HY2.out
    have d9 : w2.cell? ⟨w.heap.size + 1, 9, none⟩ = some (.slice yA m yc) := cell_of_row _ _ 9 _ _ (0, 0) HY2.out
    clear hb HX1 HY1
    go_wp2_with fail
    refine (HRY.out w2 HB2.out).mono ?_
    rintro e w3 ⟨rfl, hb⟩
    have HX3 := Lib.hid ((hb.block _ (in_heap HX2.out)).trans HX2.out)
    have HY3 := Lib.hid ((hb.block _ (in_heap HY2.out)).trans HY2.out)
    have HB3 := Lib.hid (HB2.out.trans (hb.mono HB2.out.size))
    clear b0 d0 b1 d1 b2 d2 b3 d3 b4 d4 b5 d5 b6 d6 b7 d7 b8 d8 b9 d9
    have b0 : w3.cell? ⟨w.heap.size, 0, none⟩ = some (.int .u64 x0) := cell_of_row _ _ 0 _ _ (0, 0) HX3.out
    have b1 : w3.cell? ⟨w.heap.size, 1, none⟩ = some (.int .u64 x1) := cell_of_row _ _ 1 _ _ (0, 0) HX3.out
    have b2 : w3.cell? ⟨w.heap.size, 2, none⟩ = some (.int .u64 x2) := cell_of_row _ _ 2 _ _ (0, 0) HX3.out
    have b3 : w3.cell? ⟨w.heap.size, 3, none⟩ = some (.int .u64 x3) := cell_of_row _ _ 3 _ _ (0, 0) HX3.out
    have b4 : w3.cell? ⟨w.heap.size, 4, none⟩ = some (.string x4) := cell_of_row _ _ 4 _ _ (0, 0) HX3.out
    have b5 : w3.cell? ⟨w.heap.size, 5, none⟩ = some (.string x5) := cell_of_row _ _ 5 _ _ (0, 0) HX3.out
    have b6 : w3.cell? ⟨w.heap.size, 6, none⟩ = some (.int .i64 x6) := cell_of_row _ _ 6 _ _ (0, 0) HX3.out
    have b7 : w3.cell? ⟨w.heap.size, 7, none⟩ = some (.int .i64 x7) := cell_of_row _ _ 7 _ _ (0, 0) HX3.out
    have b8 : w3.cell? ⟨w.heap.size, 8, none⟩ = some (.bool x8) := cell_of_row _ _ 8 _ _ (0, 0) HX3.out
    have b9 : w3.cell? ⟨w.heap.size, 9, none⟩ = some (.slice xA k xc) := cell_of_row _ _ 9 _ _ (0, 0) HX3.out
    have d0 : w3.cell? ⟨w.heap.size + 1, 0, none⟩ = some (.int .u64 y0) := cell_of_row _ _ 0 _ _ (0, 0) HY3.out
    have d1 : w3.cell? ⟨w.heap.size + 1, 1, none⟩ = some (.int .u64 y1) := cell_of_row _ _ 1 _ _ (0, 0) HY3.out
    have d2 : w3.cell? ⟨w.heap.size + 1, 2, none⟩ = some (.int .u64 y2) := cell_of_row _ _ 2 _ _ (0, 0) HY3.out
    have d3 : w3.cell? ⟨w.heap.size + 1, 3, none⟩ = some (.int .u64 y3) := cell_of_row _ _ 3 _ _ (0, 0) HY3.out
    have d4 : w3.cell? ⟨w.heap.size + 1, 4, none⟩ = some (.string y4) := cell_of_row _ _ 4 _ _ (0, 0) HY3.out
    have d5 : w3.cell? ⟨w.heap.size + 1, 5, none⟩ = some (.string y5) := cell_of_row _ _ 5 _ _ (0, 0) HY3.out
    have d6 : w3.cell? ⟨w.heap.size + 1, 6, none⟩ = some (.int .i64 y6) := cell_of_row _ _ 6 _ _ (0, 0) HY3.out
    have d7 : w3.cell? ⟨w.heap.size + 1, 7, none⟩ = some (.int .i64 y7) := cell_of_row _ _ 7 _ _ (0, 0) HY3.out
    have d8 : w3.cell? ⟨w.heap.size + 1, 8, none⟩ = some (.bool y8) := cell_of_row _ _ 8 _ _ (0, 0) HY3.out
    have d9 : w3.cell? ⟨w.heap.size + 1, 9, none⟩ = some (.slice yA m yc) := cell_of_row _ _ 9 _ _ (0, 0) HY3.out
    clear hb HX2 HY2
    go_wp2_with fail
    go_ret
    exact ⟨rfl, HB3.out⟩

set_option maxHeartbeats 16000000 in
theorem apart_in (x0 x1 x2 x3 : Int) (x4 x5 : ByteArray) (x6 x7 : Int) (x8 : Bool) (ats : List (ByteArray × ByteArray)) (xA : Option Addr) (xc k : Nat) (y0 y1 y2 y3 : Int) (y4 y5 : ByteArray) (y6 y7 : Int) (y8 : Bool) (bts : List (ByteArray × ByteArray)) (yA : Option Addr) (yc m : Nat) (w : World) (hk : k = ats.length) (hm : m = bts.length) (hx : RdL w w.heap.size ⟨⟨x0, x1, x2, x3, x4, x5, x6, x7, x8, ats⟩, xA, xc⟩) (hy : RdL w w.heap.size ⟨⟨y0, y1, y2, y3, y4, y5, y6, y7, y8, bts⟩, yA, yc⟩) (hr : right ⟨x0, x1, x2, x3, x4, x5, x6, x7, x8, ats⟩ = true) (hq : right ⟨y0, y1, y2, y3, y4, y5, y6, y7, y8, bts⟩ = true) :
    Calls Try.prog 7 #[.agg #[.int .u64 x0, .int .u64 x1, .int .u64 x2, .int .u64 x3, .string x4, .string x5, .int .i64 x6, .int .i64 x7, .bool x8, .slice xA k xc], .agg #[.int .u64 y0, .int .u64 y1, .int .u64 y2, .int .u64 y3, .string y4, .string y5, .int .i64 y6, .int .i64 y7, .bool y8, .slice yA m yc]] w fun e w' => e = .returned (.bool true) ∧ Below w.heap.size w w' := by
  have HX0 := Lib.hid (two_cells w (.cells #[.int .u64 x0, .int .u64 x1, .int .u64 x2, .int .u64 x3, .string x4, .string x5, .int .i64 x6, .int .i64 x7, .bool x8, .slice xA k xc] 36) (.cells #[.int .u64 y0, .int .u64 y1, .int .u64 y2, .int .u64 y3, .string y4, .string y5, .int .i64 y6, .int .i64 y7, .bool y8, .slice yA m yc] 36)).1
  have HY0 := Lib.hid (two_cells w (.cells #[.int .u64 x0, .int .u64 x1, .int .u64 x2, .int .u64 x3, .string x4, .string x5, .int .i64 x6, .int .i64 x7, .bool x8, .slice xA k xc] 36) (.cells #[.int .u64 y0, .int .u64 y1, .int .u64 y2, .int .u64 y3, .string y4, .string y5, .int .i64 y6, .int .i64 y7, .bool y8, .slice yA m yc] 36)).2
  have HB0 := Lib.hid (two_below w (.cells #[.int .u64 x0, .int .u64 x1, .int .u64 x2, .int .u64 x3, .string x4, .string x5, .int .i64 x6, .int .i64 x7, .bool x8, .slice xA k xc] 36) (.cells #[.int .u64 y0, .int .u64 y1, .int .u64 y2, .int .u64 y3, .string y4, .string y5, .int .i64 y6, .int .i64 y7, .bool y8, .slice yA m yc] 36))
  have HRX : Hid (∀ W, Below w.heap.size w W → Calls Try.prog 29 #[.agg #[.int .u64 x0, .int .u64 x1, .int .u64 x2, .int .u64 x3, .string x4, .string x5, .int .i64 x6, .int .i64 x7, .bool x8, .slice xA k xc]] W fun e w' => e = .returned (.bool (right ⟨x0, x1, x2, x3, x4, x5, x6, x7, x8, ats⟩)) ∧ Below W.heap.size W w') := Lib.hid (fun W hW => rightspan_lit x0 x1 x2 x3 x4 x5 x6 x7 x8 ats xA xc k w.heap.size W hk (hx.below hW) hW.size)
  have HRY : Hid (∀ W, Below w.heap.size w W → Calls Try.prog 29 #[.agg #[.int .u64 y0, .int .u64 y1, .int .u64 y2, .int .u64 y3, .string y4, .string y5, .int .i64 y6, .int .i64 y7, .bool y8, .slice yA m yc]] W fun e w' => e = .returned (.bool (right ⟨y0, y1, y2, y3, y4, y5, y6, y7, y8, bts⟩)) ∧ Below W.heap.size W w') := Lib.hid (fun W hW => rightspan_lit y0 y1 y2 y3 y4 y5 y6 y7 y8 bts yA yc m w.heap.size W hm (hy.below hW) hW.size)
  rw [hr] at HRX
  rw [hq] at HRY
  have HBX : Hid (∀ W, Below w.heap.size w W → Calls Try.prog 30 #[.agg #[.int .u64 x0, .int .u64 x1, .int .u64 x2, .int .u64 x3, .string x4, .string x5, .int .i64 x6, .int .i64 x7, .bool x8, .slice xA k xc]] W (BytesOf (enc ⟨x0, x1, x2, x3, x4, x5, x6, x7, x8, ats⟩) W)) := Lib.hid (fun W hW => by
    have h := bytes_lit x0 x1 x2 x3 x4 x5 x6 x7 x8 ats xA xc k w.heap.size W hk (hx.below hW) hW.size
    rw [if_pos hr] at h
    exact h)
  have HBY : Hid (∀ W, Below w.heap.size w W → Calls Try.prog 30 #[.agg #[.int .u64 y0, .int .u64 y1, .int .u64 y2, .int .u64 y3, .string y4, .string y5, .int .i64 y6, .int .i64 y7, .bool y8, .slice yA m yc]] W (BytesOf (enc ⟨y0, y1, y2, y3, y4, y5, y6, y7, y8, bts⟩) W)) := Lib.hid (fun W hW => by
    have h := bytes_lit y0 y1 y2 y3 y4 y5 y6 y7 y8 bts yA yc m w.heap.size W hm (hy.below hW) hW.size
    rw [if_pos hq] at h
    exact h)
  have hkm : k ≤ maxLen := by have h1 := hx.cap.1; have h2 := hx.cap.2; simp only at h1 h2; omega
  have hmm : m ≤ maxLen := by have h1 := hy.cap.1; have h2 := hy.cap.2; simp only at h1 h2; omega
  have HSAME : Hid (∀ W, Below w.heap.size w W → ∃ b, Calls Try.prog 32 #[.agg #[.int .u64 x0, .int .u64 x1, .int .u64 x2, .int .u64 x3, .string x4, .string x5, .int .i64 x6, .int .i64 x7, .bool x8, .slice xA k xc], .agg #[.int .u64 y0, .int .u64 y1, .int .u64 y2, .int .u64 y3, .string y4, .string y5, .int .i64 y6, .int .i64 y7, .bool y8, .slice yA m yc]] W (fun e w' => e = .returned (.bool b) ∧ Below W.heap.size W w') ∧ (b = true → enc ⟨x0, x1, x2, x3, x4, x5, x6, x7, x8, ats⟩ = enc ⟨y0, y1, y2, y3, y4, y5, y6, y7, y8, bts⟩) ∧ (b = false → ∀ x, enc ⟨x0, x1, x2, x3, x4, x5, x6, x7, x8, ats⟩ ≠ enc ⟨y0, y1, y2, y3, y4, y5, y6, y7, y8, bts⟩ ++ x ∧ enc ⟨y0, y1, y2, y3, y4, y5, y6, y7, y8, bts⟩ ≠ enc ⟨x0, x1, x2, x3, x4, x5, x6, x7, x8, ats⟩ ++ x)) := Lib.hid (fun W hW => by
    by_cases hs : (⟨x0, x1, x2, x3, x4, x5, x6, x7, x8, ats⟩ : Sp) = ⟨y0, y1, y2, y3, y4, y5, y6, y7, y8, bts⟩
    · refine ⟨true, ?_, fun _ => by rw [hs], fun h => by cases h⟩
      have hs2 := hs
      simp only [Sp.mk.injEq] at hs
      obtain ⟨rfl, rfl, rfl, rfl, rfl, rfl, rfl, rfl, rfl, rfl⟩ := hs
      obtain rfl : m = k := by rw [hm, hk]
      exact samespan_eq x0 x1 x2 x3 x4 x5 x6 x7 x8 ats m xA yA xc yc w.heap.size W hk (hx.rd.below hW) (hy.rd.below hW) hW.size hkm
    · refine ⟨false, samespan_ne x0 x1 x2 x3 y0 y1 y2 y3 x4 x5 y4 y5 x6 x7 y6 y7 x8 y8 ats bts k m xA yA xc yc w.heap.size W hk hm (hx.rd.below hW) (hy.rd.below hW) hW.size hkm hmm hs, (fun h => by cases h), fun _ x => ⟨fun he => ?_, fun he => ?_⟩⟩
      · have hoy : Sp.ok ⟨y0, y1, y2, y3, y4, y5, y6, y7, y8, bts⟩ := hy.ok
        have hox : Sp.ok ⟨x0, x1, x2, x3, x4, x5, x6, x7, x8, ats⟩ := hx.ok
        exact hs (Rm.span_apart hoy hq hox hr x he).1.symm
      · have hoy : Sp.ok ⟨y0, y1, y2, y3, y4, y5, y6, y7, y8, bts⟩ := hy.ok
        have hox : Sp.ok ⟨x0, x1, x2, x3, x4, x5, x6, x7, x8, ats⟩ := hx.ok
        exact hs (Rm.span_apart hox hr hoy hq x he).1)
  obtain ⟨ex0, ex1⟩ := enc_len hr
  obtain ⟨ey0, ey1⟩ := enc_len hq
  generalize enc ⟨x0, x1, x2, x3, x4, x5, x6, x7, x8, ats⟩ = L at *
  generalize enc ⟨y0, y1, y2, y3, y4, y5, y6, y7, y8, bts⟩ = M at *
  obtain ⟨p, hp⟩ : ∃ p, p = L.length := ⟨_, rfl⟩
  obtain ⟨q, hq2⟩ : ∃ q, q = M.length := ⟨_, rfl⟩
  have HP := Lib.hid hp
  have HQ := Lib.hid hq2
  have q1 : ((p : Int) == 0) = false := by rw [beq_eq_false_iff_ne]; omega
  have q2 : ((q : Int) == 0) = false := by rw [beq_eq_false_iff_ne]; omega
  have HE := Lib.hid (And.intro ex0 (And.intro ex1 (And.intro ey0 ey1)))
  clear ex0 ex1 ey0 ey1 hp hq2 hr hq hx hy hk hm hkm hmm
  go_enter Try.func7, Try.ntmps7
  go_wp2_with fail
  refine (alive3_calls _).mono ?_
  rintro e w1 ⟨rfl, hb⟩
  have HX1 := Lib.hid ((hb.block _ (in_heap HX0.out)).trans HX0.out)
  have HY1 := Lib.hid ((hb.block _ (in_heap HY0.out)).trans HY0.out)
  have HB1 := Lib.hid (HB0.out.trans (hb.mono HB0.out.size))
  
  have b0 : w1.cell? ⟨w.heap.size, 0, none⟩ = some (.int .u64 x0) := cell_of_row _ _ 0 _ _ (0, 0) HX1.out
  have b1 : w1.cell? ⟨w.heap.size, 1, none⟩ = some (.int .u64 x1) := cell_of_row _ _ 1 _ _ (0, 0) HX1.out
  have b2 : w1.cell? ⟨w.heap.size, 2, none⟩ = some (.int .u64 x2) := cell_of_row _ _ 2 _ _ (0, 0) HX1.out
  have b3 : w1.cell? ⟨w.heap.size, 3, none⟩ = some (.int .u64 x3) := cell_of_row _ _ 3 _ _ (0, 0) HX1.out
  have b4 : w1.cell? ⟨w.heap.size, 4, none⟩ = some (.string x4) := cell_of_row _ _ 4 _ _ (0, 0) HX1.out
  have b5 : w1.cell? ⟨w.heap.size, 5, none⟩ = some (.string x5) := cell_of_row _ _ 5 _ _ (0, 0) HX1.out
  have b6 : w1.cell? ⟨w.heap.size, 6, none⟩ = some (.int .i64 x6) := cell_of_row _ _ 6 _ _ (0, 0) HX1.out
  have b7 : w1.cell? ⟨w.heap.size, 7, none⟩ = some (.int .i64 x7) := cell_of_row _ _ 7 _ _ (0, 0) HX1.out
  have b8 : w1.cell? ⟨w.heap.size, 8, none⟩ = some (.bool x8) := cell_of_row _ _ 8 _ _ (0, 0) HX1.out
  have b9 : w1.cell? ⟨w.heap.size, 9, none⟩ = some (.slice xA k xc) := cell_of_row _ _ 9 _ _ (0, 0) HX1.out
  have d0 : w1.cell? ⟨w.heap.size + 1, 0, none⟩ = some (.int .u64 y0) := cell_of_row _ _ 0 _ _ (0, 0) HY1.out
  have d1 : w1.cell? ⟨w.heap.size + 1, 1, none⟩ = some (.int .u64 y1) := cell_of_row _ _ 1 _ _ (0, 0) HY1.out
  have d2 : w1.cell? ⟨w.heap.size + 1, 2, none⟩ = some (.int .u64 y2) := cell_of_row _ _ 2 _ _ (0, 0) HY1.out
  have d3 : w1.cell? ⟨w.heap.size + 1, 3, none⟩ = some (.int .u64 y3) := cell_of_row _ _ 3 _ _ (0, 0) HY1.out
  have d4 : w1.cell? ⟨w.heap.size + 1, 4, none⟩ = some (.string y4) := cell_of_row _ _ 4 _ _ (0, 0) HY1.out
  have d5 : w1.cell? ⟨w.heap.size + 1, 5, none⟩ = some (.string y5) := cell_of_row _ _ 5 _ _ (0, 0) HY1.out
  have d6 : w1.cell? ⟨w.heap.size + 1, 6, none⟩ = some (.int .i64 y6) := cell_of_row _ _ 6 _ _ (0, 0) HY1.out
  have d7 : w1.cell? ⟨w.heap.size + 1, 7, none⟩ = some (.int .i64 y7) := cell_of_row _ _ 7 _ _ (0, 0) HY1.out
  have d8 : w1.cell? ⟨w.heap.size + 1, 8, none⟩ = some (.bool y8) := cell_of_row _ _ 8 _ _ (0, 0) HY1.out
  have d9 : w1.cell? ⟨w.heap.size + 1, 9, none⟩ = some (.slice yA m yc) := cell_of_row _ _ 9 _ _ (0, 0) HY1.out
  clear hb HX0 HY0 HB0
  go_wp2_with fail
  refine (HRX.out w1 HB1.out).mono ?_
  rintro e w2 ⟨rfl, hb⟩
  have HX2 := Lib.hid ((hb.block _ (in_heap HX1.out)).trans HX1.out)
  have HY2 := Lib.hid ((hb.block _ (in_heap HY1.out)).trans HY1.out)
  have HB2 := Lib.hid (HB1.out.trans (hb.mono HB1.out.size))
  clear b0 d0 b1 d1 b2 d2 b3 d3 b4 d4 b5 d5 b6 d6 b7 d7 b8 d8 b9 d9
  have b0 : w2.cell? ⟨w.heap.size, 0, none⟩ = some (.int .u64 x0) := cell_of_row _ _ 0 _ _ (0, 0) HX2.out
  have b1 : w2.cell? ⟨w.heap.size, 1, none⟩ = some (.int .u64 x1) := cell_of_row _ _ 1 _ _ (0, 0) HX2.out
  have b2 : w2.cell? ⟨w.heap.size, 2, none⟩ = some (.int .u64 x2) := cell_of_row _ _ 2 _ _ (0, 0) HX2.out
  have b3 : w2.cell? ⟨w.heap.size, 3, none⟩ = some (.int .u64 x3) := cell_of_row _ _ 3 _ _ (0, 0) HX2.out
  have b4 : w2.cell? ⟨w.heap.size, 4, none⟩ = some (.string x4) := cell_of_row _ _ 4 _ _ (0, 0) HX2.out
  have b5 : w2.cell? ⟨w.heap.size, 5, none⟩ = some (.string x5) := cell_of_row _ _ 5 _ _ (0, 0) HX2.out
  have b6 : w2.cell? ⟨w.heap.size, 6, none⟩ = some (.int .i64 x6) := cell_of_row _ _ 6 _ _ (0, 0) HX2.out
  have b7 : w2.cell? ⟨w.heap.size, 7, none⟩ = some (.int .i64 x7) := cell_of_row _ _ 7 _ _ (0, 0) HX2.out
  have b8 : w2.cell? ⟨w.heap.size, 8, none⟩ = some (.bool x8) := cell_of_row _ _ 8 _ _ (0, 0) HX2.out
  have b9 : w2.cell? ⟨w.heap.size, 9, none⟩ = some (.slice xA k xc) := cell_of_row _ _ 9 _ _ (0, 0) HX2.out
  have d0 : w2.cell? ⟨w.heap.size + 1, 0, none⟩ = some (.int .u64 y0) := cell_of_row _ _ 0 _ _ (0, 0) HY2.out
  have d1 : w2.cell? ⟨w.heap.size + 1, 1, none⟩ = some (.int .u64 y1) := cell_of_row _ _ 1 _ _ (0, 0) HY2.out
  have d2 : w2.cell? ⟨w.heap.size + 1, 2, none⟩ = some (.int .u64 y2) := cell_of_row _ _ 2 _ _ (0, 0) HY2.out
  have d3 : w2.cell? ⟨w.heap.size + 1, 3, none⟩ = some (.int .u64 y3) := cell_of_row _ _ 3 _ _ (0, 0) HY2.out
  have d4 : w2.cell? ⟨w.heap.size + 1, 4, none⟩ = some (.string y4) := cell_of_row _ _ 4 _ _ (0, 0) HY2.out
  have d5 : w2.cell? ⟨w.heap.size + 1, 5, none⟩ = some (.string y5) := cell_of_row _ _ 5 _ _ (0, 0) HY2.out
  have d6 : w2.cell? ⟨w.heap.size + 1, 6, none⟩ = some (.int .i64 y6) := cell_of_row _ _ 6 _ _ (0, 0) HY2.out
  have d7 : w2.cell? ⟨w.heap.size + 1, 7, none⟩ = some (.int .i64 y7) := cell_of_row _ _ 7 _ _ (0, 0) HY2.out
  have d8 : w2.cell? ⟨w.heap.size + 1, 8, none⟩ = some (.bool y8) := cell_of_row _ _ 8 _ _ (0, 0) HY2.out
  have d9 : w2.cell? ⟨w.heap.size + 1, 9, none⟩ = some (.slice yA m yc) := cell_of_row _ _ 9 _ _ (0, 0) HY2.out
  clear hb HX1 HY1
  go_wp2_with fail
  refine (HRY.out w2 HB2.out).mono ?_
  rintro e w3 ⟨rfl, hb⟩
  have HX3 := Lib.hid ((hb.block _ (in_heap HX2.out)).trans HX2.out)
  have HY3 := Lib.hid ((hb.block _ (in_heap HY2.out)).trans HY2.out)
  have HB3 := Lib.hid (HB2.out.trans (hb.mono HB2.out.size))
  clear b0 d0 b1 d1 b2 d2 b3 d3 b4 d4 b5 d5 b6 d6 b7 d7 b8 d8 b9 d9
  have b0 : w3.cell? ⟨w.heap.size, 0, none⟩ = some (.int .u64 x0) := cell_of_row _ _ 0 _ _ (0, 0) HX3.out
  have b1 : w3.cell? ⟨w.heap.size, 1, none⟩ = some (.int .u64 x1) := cell_of_row _ _ 1 _ _ (0, 0) HX3.out
  have b2 : w3.cell? ⟨w.heap.size, 2, none⟩ = some (.int .u64 x2) := cell_of_row _ _ 2 _ _ (0, 0) HX3.out
  have b3 : w3.cell? ⟨w.heap.size, 3, none⟩ = some (.int .u64 x3) := cell_of_row _ _ 3 _ _ (0, 0) HX3.out
  have b4 : w3.cell? ⟨w.heap.size, 4, none⟩ = some (.string x4) := cell_of_row _ _ 4 _ _ (0, 0) HX3.out
  have b5 : w3.cell? ⟨w.heap.size, 5, none⟩ = some (.string x5) := cell_of_row _ _ 5 _ _ (0, 0) HX3.out
  have b6 : w3.cell? ⟨w.heap.size, 6, none⟩ = some (.int .i64 x6) := cell_of_row _ _ 6 _ _ (0, 0) HX3.out
  have b7 : w3.cell? ⟨w.heap.size, 7, none⟩ = some (.int .i64 x7) := cell_of_row _ _ 7 _ _ (0, 0) HX3.out
  have b8 : w3.cell? ⟨w.heap.size, 8, none⟩ = some (.bool x8) := cell_of_row _ _ 8 _ _ (0, 0) HX3.out
  have b9 : w3.cell? ⟨w.heap.size, 9, none⟩ = some (.slice xA k xc) := cell_of_row _ _ 9 _ _ (0, 0) HX3.out
  have d0 : w3.cell? ⟨w.heap.size + 1, 0, none⟩ = some (.int .u64 y0) := cell_of_row _ _ 0 _ _ (0, 0) HY3.out
  have d1 : w3.cell? ⟨w.heap.size + 1, 1, none⟩ = some (.int .u64 y1) := cell_of_row _ _ 1 _ _ (0, 0) HY3.out
  have d2 : w3.cell? ⟨w.heap.size + 1, 2, none⟩ = some (.int .u64 y2) := cell_of_row _ _ 2 _ _ (0, 0) HY3.out
  have d3 : w3.cell? ⟨w.heap.size + 1, 3, none⟩ = some (.int .u64 y3) := cell_of_row _ _ 3 _ _ (0, 0) HY3.out
  have d4 : w3.cell? ⟨w.heap.size + 1, 4, none⟩ = some (.string y4) := cell_of_row _ _ 4 _ _ (0, 0) HY3.out
  have d5 : w3.cell? ⟨w.heap.size + 1, 5, none⟩ = some (.string y5) := cell_of_row _ _ 5 _ _ (0, 0) HY3.out
  have d6 : w3.cell? ⟨w.heap.size + 1, 6, none⟩ = some (.int .i64 y6) := cell_of_row _ _ 6 _ _ (0, 0) HY3.out
  have d7 : w3.cell? ⟨w.heap.size + 1, 7, none⟩ = some (.int .i64 y7) := cell_of_row _ _ 7 _ _ (0, 0) HY3.out
  have d8 : w3.cell? ⟨w.heap.size + 1, 8, none⟩ = some (.bool y8) := cell_of_row _ _ 8 _ _ (0, 0) HY3.out
  have d9 : w3.cell? ⟨w.heap.size + 1, 9, none⟩ = some (.slice yA m yc) := cell_of_row _ _ 9 _ _ (0, 0) HY3.out
  clear hb HX2 HY2
  go_wp2_with fail
  refine (HBX.out w3 HB3.out).mono ?_
  rintro e w4 ⟨v4, rfl, ho, hb⟩
  rw [← HP.out] at ho
  obtain ⟨A4, c4, rfl, hc4, hr⟩ := own_rd ho
  have HX4 := Lib.hid ((hb.block _ (in_heap HX3.out)).trans HX3.out)
  have HY4 := Lib.hid ((hb.block _ (in_heap HY3.out)).trans HY3.out)
  have HB4 := Lib.hid (HB3.out.trans (hb.mono HB3.out.size))
  have RS4 := run_str (P := Try.prog) 22 5 9 Try.underlying22 Try.underlying5 Try.underlying9 hr _ c4 HP.out
  clear b0 d0 b1 d1 b2 d2 b3 d3 b4 d4 b5 d5 b6 d6 b7 d7 b8 d8 b9 d9
  have b0 : w4.cell? ⟨w.heap.size, 0, none⟩ = some (.int .u64 x0) := cell_of_row _ _ 0 _ _ (0, 0) HX4.out
  have b1 : w4.cell? ⟨w.heap.size, 1, none⟩ = some (.int .u64 x1) := cell_of_row _ _ 1 _ _ (0, 0) HX4.out
  have b2 : w4.cell? ⟨w.heap.size, 2, none⟩ = some (.int .u64 x2) := cell_of_row _ _ 2 _ _ (0, 0) HX4.out
  have b3 : w4.cell? ⟨w.heap.size, 3, none⟩ = some (.int .u64 x3) := cell_of_row _ _ 3 _ _ (0, 0) HX4.out
  have b4 : w4.cell? ⟨w.heap.size, 4, none⟩ = some (.string x4) := cell_of_row _ _ 4 _ _ (0, 0) HX4.out
  have b5 : w4.cell? ⟨w.heap.size, 5, none⟩ = some (.string x5) := cell_of_row _ _ 5 _ _ (0, 0) HX4.out
  have b6 : w4.cell? ⟨w.heap.size, 6, none⟩ = some (.int .i64 x6) := cell_of_row _ _ 6 _ _ (0, 0) HX4.out
  have b7 : w4.cell? ⟨w.heap.size, 7, none⟩ = some (.int .i64 x7) := cell_of_row _ _ 7 _ _ (0, 0) HX4.out
  have b8 : w4.cell? ⟨w.heap.size, 8, none⟩ = some (.bool x8) := cell_of_row _ _ 8 _ _ (0, 0) HX4.out
  have b9 : w4.cell? ⟨w.heap.size, 9, none⟩ = some (.slice xA k xc) := cell_of_row _ _ 9 _ _ (0, 0) HX4.out
  have d0 : w4.cell? ⟨w.heap.size + 1, 0, none⟩ = some (.int .u64 y0) := cell_of_row _ _ 0 _ _ (0, 0) HY4.out
  have d1 : w4.cell? ⟨w.heap.size + 1, 1, none⟩ = some (.int .u64 y1) := cell_of_row _ _ 1 _ _ (0, 0) HY4.out
  have d2 : w4.cell? ⟨w.heap.size + 1, 2, none⟩ = some (.int .u64 y2) := cell_of_row _ _ 2 _ _ (0, 0) HY4.out
  have d3 : w4.cell? ⟨w.heap.size + 1, 3, none⟩ = some (.int .u64 y3) := cell_of_row _ _ 3 _ _ (0, 0) HY4.out
  have d4 : w4.cell? ⟨w.heap.size + 1, 4, none⟩ = some (.string y4) := cell_of_row _ _ 4 _ _ (0, 0) HY4.out
  have d5 : w4.cell? ⟨w.heap.size + 1, 5, none⟩ = some (.string y5) := cell_of_row _ _ 5 _ _ (0, 0) HY4.out
  have d6 : w4.cell? ⟨w.heap.size + 1, 6, none⟩ = some (.int .i64 y6) := cell_of_row _ _ 6 _ _ (0, 0) HY4.out
  have d7 : w4.cell? ⟨w.heap.size + 1, 7, none⟩ = some (.int .i64 y7) := cell_of_row _ _ 7 _ _ (0, 0) HY4.out
  have d8 : w4.cell? ⟨w.heap.size + 1, 8, none⟩ = some (.bool y8) := cell_of_row _ _ 8 _ _ (0, 0) HY4.out
  have d9 : w4.cell? ⟨w.heap.size + 1, 9, none⟩ = some (.slice yA m yc) := cell_of_row _ _ 9 _ _ (0, 0) HY4.out
  clear ho hb HX3 HY3 hr
  go_wp2_with fail
  refine (HBY.out w4 HB4.out).mono ?_
  rintro e w5 ⟨v5, rfl, ho, hb⟩
  rw [← HQ.out] at ho
  obtain ⟨A5, c5, rfl, hc5, hr⟩ := own_rd ho
  have HX5 := Lib.hid ((hb.block _ (in_heap HX4.out)).trans HX4.out)
  have HY5 := Lib.hid ((hb.block _ (in_heap HY4.out)).trans HY4.out)
  have HB5 := Lib.hid (HB4.out.trans (hb.mono HB4.out.size))
  have RS5 := run_str (P := Try.prog) 22 5 9 Try.underlying22 Try.underlying5 Try.underlying9 hr _ c5 HQ.out
  clear b0 d0 b1 d1 b2 d2 b3 d3 b4 d4 b5 d5 b6 d6 b7 d7 b8 d8 b9 d9
  have b0 : w5.cell? ⟨w.heap.size, 0, none⟩ = some (.int .u64 x0) := cell_of_row _ _ 0 _ _ (0, 0) HX5.out
  have b1 : w5.cell? ⟨w.heap.size, 1, none⟩ = some (.int .u64 x1) := cell_of_row _ _ 1 _ _ (0, 0) HX5.out
  have b2 : w5.cell? ⟨w.heap.size, 2, none⟩ = some (.int .u64 x2) := cell_of_row _ _ 2 _ _ (0, 0) HX5.out
  have b3 : w5.cell? ⟨w.heap.size, 3, none⟩ = some (.int .u64 x3) := cell_of_row _ _ 3 _ _ (0, 0) HX5.out
  have b4 : w5.cell? ⟨w.heap.size, 4, none⟩ = some (.string x4) := cell_of_row _ _ 4 _ _ (0, 0) HX5.out
  have b5 : w5.cell? ⟨w.heap.size, 5, none⟩ = some (.string x5) := cell_of_row _ _ 5 _ _ (0, 0) HX5.out
  have b6 : w5.cell? ⟨w.heap.size, 6, none⟩ = some (.int .i64 x6) := cell_of_row _ _ 6 _ _ (0, 0) HX5.out
  have b7 : w5.cell? ⟨w.heap.size, 7, none⟩ = some (.int .i64 x7) := cell_of_row _ _ 7 _ _ (0, 0) HX5.out
  have b8 : w5.cell? ⟨w.heap.size, 8, none⟩ = some (.bool x8) := cell_of_row _ _ 8 _ _ (0, 0) HX5.out
  have b9 : w5.cell? ⟨w.heap.size, 9, none⟩ = some (.slice xA k xc) := cell_of_row _ _ 9 _ _ (0, 0) HX5.out
  have d0 : w5.cell? ⟨w.heap.size + 1, 0, none⟩ = some (.int .u64 y0) := cell_of_row _ _ 0 _ _ (0, 0) HY5.out
  have d1 : w5.cell? ⟨w.heap.size + 1, 1, none⟩ = some (.int .u64 y1) := cell_of_row _ _ 1 _ _ (0, 0) HY5.out
  have d2 : w5.cell? ⟨w.heap.size + 1, 2, none⟩ = some (.int .u64 y2) := cell_of_row _ _ 2 _ _ (0, 0) HY5.out
  have d3 : w5.cell? ⟨w.heap.size + 1, 3, none⟩ = some (.int .u64 y3) := cell_of_row _ _ 3 _ _ (0, 0) HY5.out
  have d4 : w5.cell? ⟨w.heap.size + 1, 4, none⟩ = some (.string y4) := cell_of_row _ _ 4 _ _ (0, 0) HY5.out
  have d5 : w5.cell? ⟨w.heap.size + 1, 5, none⟩ = some (.string y5) := cell_of_row _ _ 5 _ _ (0, 0) HY5.out
  have d6 : w5.cell? ⟨w.heap.size + 1, 6, none⟩ = some (.int .i64 y6) := cell_of_row _ _ 6 _ _ (0, 0) HY5.out
  have d7 : w5.cell? ⟨w.heap.size + 1, 7, none⟩ = some (.int .i64 y7) := cell_of_row _ _ 7 _ _ (0, 0) HY5.out
  have d8 : w5.cell? ⟨w.heap.size + 1, 8, none⟩ = some (.bool y8) := cell_of_row _ _ 8 _ _ (0, 0) HY5.out
  have d9 : w5.cell? ⟨w.heap.size + 1, 9, none⟩ = some (.slice yA m yc) := cell_of_row _ _ 9 _ _ (0, 0) HY5.out
  clear ho hb HX4 HY4 hr
  clear RS4
  obtain ⟨ex0, ex1, ey0, ey1⟩ := HE.out
  have hsL : (S8 L).size = p := by rw [S8_size, HP.out]
  have hsM : (S8 M).size = q := by rw [S8_size, HQ.out]
  have i1 : (((S8 L).size : Int) == 0) = false := by rw [hsL]; exact q1
  have i2 : (((S8 M).size : Int) == 0) = false := by rw [hsM]; exact q2
  obtain ⟨b, hC, hb1, hb2⟩ := HSAME.out w5 HB5.out
  have HC := Lib.hid hC
  have HL := Lib.hid hsL
  have HM := Lib.hid hsM
  clear hC q1 q2 ex0 ex1 ey0 ey1 hsL hsM HE
  cases b
  · have HN := Lib.hid (hb2 rfl)
    clear hb1 hb2
    generalize hSL : S8 L = sL at *
    generalize hSM : S8 M = sM at *
    have HSL := Lib.hid hSL
    have HSM := Lib.hid hSM
    clear hSL hSM
    by_cases hlt : sM.size < sL.size
    · have hd : decide (sM.size < sL.size) = true := decide_eq_true hlt
      have hd2 : decide ((sM.size : Int) < (sL.size : Int)) = true := decide_eq_true (by omega)
      have hne := ext_ne HSL.out HSM.out (fun x => (HN.out x).1)
      have hne2 : ((sL.extract 0 sM.size).toList == sM.toList) = false := beq_eq_false_iff_ne.2 hne
      have hne3 : ((sL.extract 0 sM.size).toList != sM.toList) = true := by simp only [bne, hne2]; rfl
      go_wp2_with (go_at_call 32; (with_reducible refine (HC.out).mono ?_); rintro e w6 ⟨rfl, hb6⟩; have HB6 := Lib.hid (HB5.out.trans (hb6.mono HB5.out.size)); clear hb6)
      go_ret
      exact ⟨rfl, HB6.out⟩
    · have hd : decide (sM.size < sL.size) = false := decide_eq_false hlt
      have hd2 : decide ((sM.size : Int) < (sL.size : Int)) = false := decide_eq_false (by omega)
      have hd3 : decide (sL.size ≤ sM.size) = true := decide_eq_true (by omega)
      have hd4 : sL.size ≤ sM.size := by omega
      have hne := ext_ne HSM.out HSL.out (fun x => (HN.out x).2)
      have hne2 : ((sM.extract 0 sL.size).toList == sL.toList) = false := beq_eq_false_iff_ne.2 hne
      have hne3 : ((sM.extract 0 sL.size).toList != sL.toList) = true := by simp only [bne, hne2]; rfl
      go_wp2_with (go_at_call 32; (with_reducible refine (HC.out).mono ?_); rintro e w6 ⟨rfl, hb6⟩; have HB6 := Lib.hid (HB5.out.trans (hb6.mono HB5.out.size)); clear hb6)
      go_ret
      exact ⟨rfl, HB6.out⟩
  · have HLM := Lib.hid (hb1 rfl)
    clear hb1 hb2
    go_wp2_with (go_at_call 32; (with_reducible refine (HC.out).mono ?_); rintro e w6 ⟨rfl, hb6⟩; have HB6 := Lib.hid (HB5.out.trans (hb6.mono HB5.out.size)); clear hb6)
    go_ret
    exact ⟨by rw [HLM.out]; simp, HB6.out⟩
end Go.Proofs.Ythkclgkbidhmbaa
