/- SpanLimits: case by case. -/
import Derived.Test.YthkclgkbidhmbaaAl3
import Derived.Test.YthkclgkbidhmbaaBk3
namespace Go.Proofs.Ythkclgkbidhmbaa
open Go.RowKit
set_option linter.unusedVariables false
set_option maxRecDepth 100000

set_option maxHeartbeats 16000000 in
theorem lim_0_false (w : World) :
    Calls Try.prog 6 #[.int .i64 0, .bool false] w fun e w' => e = .returned (.bool true) ∧ Below w.heap.size w w' := by
  have hok : Sp.ok ⟨0, 0, 0, 0, (({ data := #[97, 98, 99, 100, 101, 102, 103, 104, 105, 106, 107, 108, 109, 110, 111, 112, 113] } : ByteArray).extract 0 16), ({ data := #[98] } : ByteArray), 0, 0, false, []⟩ := ⟨⟨by decide, by decide⟩, ⟨by decide, by decide⟩, ⟨by decide, by decide⟩, ⟨by decide, by decide⟩, by decide +kernel, by decide +kernel, ⟨by decide, by decide⟩, ⟨by decide, by decide⟩, ⟨by decide, fun a ha => by cases ha⟩⟩
  have hri : right ⟨0, 0, 0, 0, (({ data := #[97, 98, 99, 100, 101, 102, 103, 104, 105, 106, 107, 108, 109, 110, 111, 112, 113] } : ByteArray).extract 0 16), ({ data := #[98] } : ByteArray), 0, 0, false, []⟩ = true := by decide +kernel
  have HOK := Lib.hid hok
  have HRI := Lib.hid hri
  obtain ⟨e0, e1⟩ := enc_len hri
  generalize hL : enc ⟨0, 0, 0, 0, (({ data := #[97, 98, 99, 100, 101, 102, 103, 104, 105, 106, 107, 108, 109, 110, 111, 112, 113] } : ByteArray).extract 0 16), ({ data := #[98] } : ByteArray), 0, 0, false, []⟩ = L at e0 e1
  have HL := Lib.hid hL
  clear hL
  have h0 : decide ((0 : Int) < (L.length : Int)) = true := decide_eq_true (by omega)
  have h1 : decide (0 < L.length) = true := decide_eq_true (by omega)
  clear e0 e1
  clear hok hri
  go_enter Try.func6, Try.ntmps6
  go_wp2_with fail
  refine (alive3_calls w).mono ?_
  rintro e w1 ⟨rfl, hb1⟩
  have HB1 := Lib.hid hb1
  clear hb1
  go_wp2_with fail
  have HRD : Hid (RdL (w1.alloc (.cells #[.int .u64 0, .int .u64 0, .int .u64 0, .int .u64 0, .string (({ data := #[97, 98, 99, 100, 101, 102, 103, 104, 105, 106, 107, 108, 109, 110, 111, 112, 113] } : ByteArray).extract 0 16), .string ({ data := #[98] } : ByteArray), .int .i64 0, .int .i64 0, .bool false, .slice none 0 0] 36)) (w1.alloc (.cells #[.int .u64 0, .int .u64 0, .int .u64 0, .int .u64 0, .string (({ data := #[97, 98, 99, 100, 101, 102, 103, 104, 105, 106, 107, 108, 109, 110, 111, 112, 113] } : ByteArray).extract 0 16), .string ({ data := #[98] } : ByteArray), .int .i64 0, .int .i64 0, .bool false, .slice none 0 0] 36)).heap.size ⟨⟨0, 0, 0, 0, (({ data := #[97, 98, 99, 100, 101, 102, 103, 104, 105, 106, 107, 108, 109, 110, 111, 112, 113] } : ByteArray).extract 0 16), ({ data := #[98] } : ByteArray), 0, 0, false, []⟩, none, 0⟩) := Lib.hid ⟨Rd.nil, ⟨Nat.le_refl _, by simp [maxLen]⟩, HOK.out⟩
  have HX : Hid ((w1.alloc (.cells #[.int .u64 0, .int .u64 0, .int .u64 0, .int .u64 0, .string (({ data := #[97, 98, 99, 100, 101, 102, 103, 104, 105, 106, 107, 108, 109, 110, 111, 112, 113] } : ByteArray).extract 0 16), .string ({ data := #[98] } : ByteArray), .int .i64 0, .int .i64 0, .bool false, .slice none 0 0] 36)).heap[w1.heap.size]? = some (.cells #[.int .u64 0, .int .u64 0, .int .u64 0, .int .u64 0, .string (({ data := #[97, 98, 99, 100, 101, 102, 103, 104, 105, 106, 107, 108, 109, 110, 111, 112, 113] } : ByteArray).extract 0 16), .string ({ data := #[98] } : ByteArray), .int .i64 0, .int .i64 0, .bool false, .slice none 0 0] 36)) := Lib.hid (heap_alloc_new w1 _)
  have HB2 : Hid (Below w.heap.size w (w1.alloc (.cells #[.int .u64 0, .int .u64 0, .int .u64 0, .int .u64 0, .string (({ data := #[97, 98, 99, 100, 101, 102, 103, 104, 105, 106, 107, 108, 109, 110, 111, 112, 113] } : ByteArray).extract 0 16), .string ({ data := #[98] } : ByteArray), .int .i64 0, .int .i64 0, .bool false, .slice none 0 0] 36))) := Lib.hid (HB1.out.alloc HB1.out.size _)
  generalize (w1.alloc (.cells #[.int .u64 0, .int .u64 0, .int .u64 0, .int .u64 0, .string (({ data := #[97, 98, 99, 100, 101, 102, 103, 104, 105, 106, 107, 108, 109, 110, 111, 112, 113] } : ByteArray).extract 0 16), .string ({ data := #[98] } : ByteArray), .int .i64 0, .int .i64 0, .bool false, .slice none 0 0] 36)) = W at *
  have C1 := Lib.hid (right_lit 0 0 0 0 (({ data := #[97, 98, 99, 100, 101, 102, 103, 104, 105, 106, 107, 108, 109, 110, 111, 112, 113] } : ByteArray).extract 0 16) ({ data := #[98] } : ByteArray) 0 0 false [] none 0 0 W.heap.size W rfl HRD.out (Nat.le_refl _))
  rw [HRI.out] at C1
  refine C1.out.mono ?_
  rintro e w2 ⟨rfl, hb2⟩
  have hX2 := (hb2.block _ (in_heap HX.out)).trans HX.out
  have b0 : w2.cell? ⟨w1.heap.size, 0, none⟩ = some (.int .u64 0) := cell_of_row _ _ 0 _ _ (0, 0) hX2
  have b1 : w2.cell? ⟨w1.heap.size, 1, none⟩ = some (.int .u64 0) := cell_of_row _ _ 1 _ _ (0, 0) hX2
  have b2 : w2.cell? ⟨w1.heap.size, 2, none⟩ = some (.int .u64 0) := cell_of_row _ _ 2 _ _ (0, 0) hX2
  have b3 : w2.cell? ⟨w1.heap.size, 3, none⟩ = some (.int .u64 0) := cell_of_row _ _ 3 _ _ (0, 0) hX2
  have b4 : w2.cell? ⟨w1.heap.size, 4, none⟩ = some (.string (({ data := #[97, 98, 99, 100, 101, 102, 103, 104, 105, 106, 107, 108, 109, 110, 111, 112, 113] } : ByteArray).extract 0 16)) := cell_of_row _ _ 4 _ _ (0, 0) hX2
  have b5 : w2.cell? ⟨w1.heap.size, 5, none⟩ = some (.string ({ data := #[98] } : ByteArray)) := cell_of_row _ _ 5 _ _ (0, 0) hX2
  have b6 : w2.cell? ⟨w1.heap.size, 6, none⟩ = some (.int .i64 0) := cell_of_row _ _ 6 _ _ (0, 0) hX2
  have b7 : w2.cell? ⟨w1.heap.size, 7, none⟩ = some (.int .i64 0) := cell_of_row _ _ 7 _ _ (0, 0) hX2
  have b8 : w2.cell? ⟨w1.heap.size, 8, none⟩ = some (.bool false) := cell_of_row _ _ 8 _ _ (0, 0) hX2
  have b9 : w2.cell? ⟨w1.heap.size, 9, none⟩ = some (.slice none 0 0) := cell_of_row _ _ 9 _ _ (0, 0) hX2
  have C2 := Lib.hid (bytes_lit 0 0 0 0 (({ data := #[97, 98, 99, 100, 101, 102, 103, 104, 105, 106, 107, 108, 109, 110, 111, 112, 113] } : ByteArray).extract 0 16) ({ data := #[98] } : ByteArray) 0 0 false [] none 0 0 W.heap.size w2 rfl (HRD.out.below hb2) hb2.size)
  rw [HRI.out] at C2
  have HB3 := Lib.hid (HB2.out.trans (hb2.mono HB2.out.size))
  clear C1 hb2 hX2
  go_wp2_with fail
  have C3 : Hid (Calls _ _ _ w2 (BytesOf (enc ⟨0, 0, 0, 0, (({ data := #[97, 98, 99, 100, 101, 102, 103, 104, 105, 106, 107, 108, 109, 110, 111, 112, 113] } : ByteArray).extract 0 16), ({ data := #[98] } : ByteArray), 0, 0, false, []⟩) w2)) := C2
  rw [HL.out] at C3
  refine C3.out.mono ?_
  rintro e w3 ⟨v3, rfl, ho3, hb3⟩
  obtain ⟨A3, c3, hv3, _, _⟩ := own_rd ho3
  subst hv3
  have HB4 := Lib.hid (HB3.out.trans (hb3.mono HB3.out.size))
  clear ho3 hb3
  go_wp2_with fail
  go_ret
  exact ⟨rfl, HB4.out⟩
set_option maxHeartbeats 16000000 in
theorem lim_0_true (w : World) :
    Calls Try.prog 6 #[.int .i64 0, .bool true] w fun e w' => e = .returned (.bool true) ∧ Below w.heap.size w w' := by
  have hok : Sp.ok ⟨0, 0, 0, 0, (({ data := #[97, 98, 99, 100, 101, 102, 103, 104, 105, 106, 107, 108, 109, 110, 111, 112, 113] } : ByteArray).extract 0 17), ({ data := #[98] } : ByteArray), 0, 0, false, []⟩ := ⟨⟨by decide, by decide⟩, ⟨by decide, by decide⟩, ⟨by decide, by decide⟩, ⟨by decide, by decide⟩, by decide +kernel, by decide +kernel, ⟨by decide, by decide⟩, ⟨by decide, by decide⟩, ⟨by decide, fun a ha => by cases ha⟩⟩
  have hri : right ⟨0, 0, 0, 0, (({ data := #[97, 98, 99, 100, 101, 102, 103, 104, 105, 106, 107, 108, 109, 110, 111, 112, 113] } : ByteArray).extract 0 17), ({ data := #[98] } : ByteArray), 0, 0, false, []⟩ = false := by decide +kernel
  have HOK := Lib.hid hok
  have HRI := Lib.hid hri
  clear hok hri
  go_enter Try.func6, Try.ntmps6
  go_wp2_with fail
  refine (alive3_calls w).mono ?_
  rintro e w1 ⟨rfl, hb1⟩
  have HB1 := Lib.hid hb1
  clear hb1
  go_wp2_with fail
  have HRD : Hid (RdL (w1.alloc (.cells #[.int .u64 0, .int .u64 0, .int .u64 0, .int .u64 0, .string (({ data := #[97, 98, 99, 100, 101, 102, 103, 104, 105, 106, 107, 108, 109, 110, 111, 112, 113] } : ByteArray).extract 0 17), .string ({ data := #[98] } : ByteArray), .int .i64 0, .int .i64 0, .bool false, .slice none 0 0] 36)) (w1.alloc (.cells #[.int .u64 0, .int .u64 0, .int .u64 0, .int .u64 0, .string (({ data := #[97, 98, 99, 100, 101, 102, 103, 104, 105, 106, 107, 108, 109, 110, 111, 112, 113] } : ByteArray).extract 0 17), .string ({ data := #[98] } : ByteArray), .int .i64 0, .int .i64 0, .bool false, .slice none 0 0] 36)).heap.size ⟨⟨0, 0, 0, 0, (({ data := #[97, 98, 99, 100, 101, 102, 103, 104, 105, 106, 107, 108, 109, 110, 111, 112, 113] } : ByteArray).extract 0 17), ({ data := #[98] } : ByteArray), 0, 0, false, []⟩, none, 0⟩) := Lib.hid ⟨Rd.nil, ⟨Nat.le_refl _, by simp [maxLen]⟩, HOK.out⟩
  have HX : Hid ((w1.alloc (.cells #[.int .u64 0, .int .u64 0, .int .u64 0, .int .u64 0, .string (({ data := #[97, 98, 99, 100, 101, 102, 103, 104, 105, 106, 107, 108, 109, 110, 111, 112, 113] } : ByteArray).extract 0 17), .string ({ data := #[98] } : ByteArray), .int .i64 0, .int .i64 0, .bool false, .slice none 0 0] 36)).heap[w1.heap.size]? = some (.cells #[.int .u64 0, .int .u64 0, .int .u64 0, .int .u64 0, .string (({ data := #[97, 98, 99, 100, 101, 102, 103, 104, 105, 106, 107, 108, 109, 110, 111, 112, 113] } : ByteArray).extract 0 17), .string ({ data := #[98] } : ByteArray), .int .i64 0, .int .i64 0, .bool false, .slice none 0 0] 36)) := Lib.hid (heap_alloc_new w1 _)
  have HB2 : Hid (Below w.heap.size w (w1.alloc (.cells #[.int .u64 0, .int .u64 0, .int .u64 0, .int .u64 0, .string (({ data := #[97, 98, 99, 100, 101, 102, 103, 104, 105, 106, 107, 108, 109, 110, 111, 112, 113] } : ByteArray).extract 0 17), .string ({ data := #[98] } : ByteArray), .int .i64 0, .int .i64 0, .bool false, .slice none 0 0] 36))) := Lib.hid (HB1.out.alloc HB1.out.size _)
  generalize (w1.alloc (.cells #[.int .u64 0, .int .u64 0, .int .u64 0, .int .u64 0, .string (({ data := #[97, 98, 99, 100, 101, 102, 103, 104, 105, 106, 107, 108, 109, 110, 111, 112, 113] } : ByteArray).extract 0 17), .string ({ data := #[98] } : ByteArray), .int .i64 0, .int .i64 0, .bool false, .slice none 0 0] 36)) = W at *
  have C1 := Lib.hid (right_lit 0 0 0 0 (({ data := #[97, 98, 99, 100, 101, 102, 103, 104, 105, 106, 107, 108, 109, 110, 111, 112, 113] } : ByteArray).extract 0 17) ({ data := #[98] } : ByteArray) 0 0 false [] none 0 0 W.heap.size W rfl HRD.out (Nat.le_refl _))
  rw [HRI.out] at C1
  refine C1.out.mono ?_
  rintro e w2 ⟨rfl, hb2⟩
  have hX2 := (hb2.block _ (in_heap HX.out)).trans HX.out
  have b0 : w2.cell? ⟨w1.heap.size, 0, none⟩ = some (.int .u64 0) := cell_of_row _ _ 0 _ _ (0, 0) hX2
  have b1 : w2.cell? ⟨w1.heap.size, 1, none⟩ = some (.int .u64 0) := cell_of_row _ _ 1 _ _ (0, 0) hX2
  have b2 : w2.cell? ⟨w1.heap.size, 2, none⟩ = some (.int .u64 0) := cell_of_row _ _ 2 _ _ (0, 0) hX2
  have b3 : w2.cell? ⟨w1.heap.size, 3, none⟩ = some (.int .u64 0) := cell_of_row _ _ 3 _ _ (0, 0) hX2
  have b4 : w2.cell? ⟨w1.heap.size, 4, none⟩ = some (.string (({ data := #[97, 98, 99, 100, 101, 102, 103, 104, 105, 106, 107, 108, 109, 110, 111, 112, 113] } : ByteArray).extract 0 17)) := cell_of_row _ _ 4 _ _ (0, 0) hX2
  have b5 : w2.cell? ⟨w1.heap.size, 5, none⟩ = some (.string ({ data := #[98] } : ByteArray)) := cell_of_row _ _ 5 _ _ (0, 0) hX2
  have b6 : w2.cell? ⟨w1.heap.size, 6, none⟩ = some (.int .i64 0) := cell_of_row _ _ 6 _ _ (0, 0) hX2
  have b7 : w2.cell? ⟨w1.heap.size, 7, none⟩ = some (.int .i64 0) := cell_of_row _ _ 7 _ _ (0, 0) hX2
  have b8 : w2.cell? ⟨w1.heap.size, 8, none⟩ = some (.bool false) := cell_of_row _ _ 8 _ _ (0, 0) hX2
  have b9 : w2.cell? ⟨w1.heap.size, 9, none⟩ = some (.slice none 0 0) := cell_of_row _ _ 9 _ _ (0, 0) hX2
  have C2 := Lib.hid (bytes_lit 0 0 0 0 (({ data := #[97, 98, 99, 100, 101, 102, 103, 104, 105, 106, 107, 108, 109, 110, 111, 112, 113] } : ByteArray).extract 0 17) ({ data := #[98] } : ByteArray) 0 0 false [] none 0 0 W.heap.size w2 rfl (HRD.out.below hb2) hb2.size)
  rw [HRI.out] at C2
  have HB3 := Lib.hid (HB2.out.trans (hb2.mono HB2.out.size))
  clear C1 hb2 hX2
  go_wp2_with fail
  have C3 : Hid (Calls _ _ _ w2 (BytesOf [] w2)) := C2
  refine C3.out.mono ?_
  rintro e w3 ⟨v3, rfl, ho3, hb3⟩
  obtain ⟨A3, c3, hv3, _, _⟩ := own_rd ho3
  have hv3' : v3 = .slice A3 0 c3 := hv3
  subst hv3'
  have HB4 := Lib.hid (HB3.out.trans (hb3.mono HB3.out.size))
  clear ho3 hb3
  go_wp2_with fail
  go_ret
  exact ⟨rfl, HB4.out⟩
set_option maxHeartbeats 16000000 in
theorem lim_1_false (w : World) :
    Calls Try.prog 6 #[.int .i64 1, .bool false] w fun e w' => e = .returned (.bool true) ∧ Below w.heap.size w w' := by
  have hok : Sp.ok ⟨0, 0, 0, 0, ({ data := #[97] } : ByteArray), (({ data := #[97, 98, 99, 100, 101, 102, 103, 104, 105, 106, 107, 108, 109, 110, 111, 112, 113] } : ByteArray).extract 0 1), 0, 0, false, []⟩ := ⟨⟨by decide, by decide⟩, ⟨by decide, by decide⟩, ⟨by decide, by decide⟩, ⟨by decide, by decide⟩, by decide +kernel, by decide +kernel, ⟨by decide, by decide⟩, ⟨by decide, by decide⟩, ⟨by decide, fun a ha => by cases ha⟩⟩
  have hri : right ⟨0, 0, 0, 0, ({ data := #[97] } : ByteArray), (({ data := #[97, 98, 99, 100, 101, 102, 103, 104, 105, 106, 107, 108, 109, 110, 111, 112, 113] } : ByteArray).extract 0 1), 0, 0, false, []⟩ = true := by decide +kernel
  have HOK := Lib.hid hok
  have HRI := Lib.hid hri
  obtain ⟨e0, e1⟩ := enc_len hri
  generalize hL : enc ⟨0, 0, 0, 0, ({ data := #[97] } : ByteArray), (({ data := #[97, 98, 99, 100, 101, 102, 103, 104, 105, 106, 107, 108, 109, 110, 111, 112, 113] } : ByteArray).extract 0 1), 0, 0, false, []⟩ = L at e0 e1
  have HL := Lib.hid hL
  clear hL
  have h0 : decide ((0 : Int) < (L.length : Int)) = true := decide_eq_true (by omega)
  have h1 : decide (0 < L.length) = true := decide_eq_true (by omega)
  clear e0 e1
  clear hok hri
  go_enter Try.func6, Try.ntmps6
  go_wp2_with fail
  refine (alive3_calls w).mono ?_
  rintro e w1 ⟨rfl, hb1⟩
  have HB1 := Lib.hid hb1
  clear hb1
  go_wp2_with fail
  have HRD : Hid (RdL (w1.alloc (.cells #[.int .u64 0, .int .u64 0, .int .u64 0, .int .u64 0, .string ({ data := #[97] } : ByteArray), .string (({ data := #[97, 98, 99, 100, 101, 102, 103, 104, 105, 106, 107, 108, 109, 110, 111, 112, 113] } : ByteArray).extract 0 1), .int .i64 0, .int .i64 0, .bool false, .slice none 0 0] 36)) (w1.alloc (.cells #[.int .u64 0, .int .u64 0, .int .u64 0, .int .u64 0, .string ({ data := #[97] } : ByteArray), .string (({ data := #[97, 98, 99, 100, 101, 102, 103, 104, 105, 106, 107, 108, 109, 110, 111, 112, 113] } : ByteArray).extract 0 1), .int .i64 0, .int .i64 0, .bool false, .slice none 0 0] 36)).heap.size ⟨⟨0, 0, 0, 0, ({ data := #[97] } : ByteArray), (({ data := #[97, 98, 99, 100, 101, 102, 103, 104, 105, 106, 107, 108, 109, 110, 111, 112, 113] } : ByteArray).extract 0 1), 0, 0, false, []⟩, none, 0⟩) := Lib.hid ⟨Rd.nil, ⟨Nat.le_refl _, by simp [maxLen]⟩, HOK.out⟩
  have HX : Hid ((w1.alloc (.cells #[.int .u64 0, .int .u64 0, .int .u64 0, .int .u64 0, .string ({ data := #[97] } : ByteArray), .string (({ data := #[97, 98, 99, 100, 101, 102, 103, 104, 105, 106, 107, 108, 109, 110, 111, 112, 113] } : ByteArray).extract 0 1), .int .i64 0, .int .i64 0, .bool false, .slice none 0 0] 36)).heap[w1.heap.size]? = some (.cells #[.int .u64 0, .int .u64 0, .int .u64 0, .int .u64 0, .string ({ data := #[97] } : ByteArray), .string (({ data := #[97, 98, 99, 100, 101, 102, 103, 104, 105, 106, 107, 108, 109, 110, 111, 112, 113] } : ByteArray).extract 0 1), .int .i64 0, .int .i64 0, .bool false, .slice none 0 0] 36)) := Lib.hid (heap_alloc_new w1 _)
  have HB2 : Hid (Below w.heap.size w (w1.alloc (.cells #[.int .u64 0, .int .u64 0, .int .u64 0, .int .u64 0, .string ({ data := #[97] } : ByteArray), .string (({ data := #[97, 98, 99, 100, 101, 102, 103, 104, 105, 106, 107, 108, 109, 110, 111, 112, 113] } : ByteArray).extract 0 1), .int .i64 0, .int .i64 0, .bool false, .slice none 0 0] 36))) := Lib.hid (HB1.out.alloc HB1.out.size _)
  generalize (w1.alloc (.cells #[.int .u64 0, .int .u64 0, .int .u64 0, .int .u64 0, .string ({ data := #[97] } : ByteArray), .string (({ data := #[97, 98, 99, 100, 101, 102, 103, 104, 105, 106, 107, 108, 109, 110, 111, 112, 113] } : ByteArray).extract 0 1), .int .i64 0, .int .i64 0, .bool false, .slice none 0 0] 36)) = W at *
  have C1 := Lib.hid (right_lit 0 0 0 0 ({ data := #[97] } : ByteArray) (({ data := #[97, 98, 99, 100, 101, 102, 103, 104, 105, 106, 107, 108, 109, 110, 111, 112, 113] } : ByteArray).extract 0 1) 0 0 false [] none 0 0 W.heap.size W rfl HRD.out (Nat.le_refl _))
  rw [HRI.out] at C1
  refine C1.out.mono ?_
  rintro e w2 ⟨rfl, hb2⟩
  have hX2 := (hb2.block _ (in_heap HX.out)).trans HX.out
  have b0 : w2.cell? ⟨w1.heap.size, 0, none⟩ = some (.int .u64 0) := cell_of_row _ _ 0 _ _ (0, 0) hX2
  have b1 : w2.cell? ⟨w1.heap.size, 1, none⟩ = some (.int .u64 0) := cell_of_row _ _ 1 _ _ (0, 0) hX2
  have b2 : w2.cell? ⟨w1.heap.size, 2, none⟩ = some (.int .u64 0) := cell_of_row _ _ 2 _ _ (0, 0) hX2
  have b3 : w2.cell? ⟨w1.heap.size, 3, none⟩ = some (.int .u64 0) := cell_of_row _ _ 3 _ _ (0, 0) hX2
  have b4 : w2.cell? ⟨w1.heap.size, 4, none⟩ = some (.string ({ data := #[97] } : ByteArray)) := cell_of_row _ _ 4 _ _ (0, 0) hX2
  have b5 : w2.cell? ⟨w1.heap.size, 5, none⟩ = some (.string (({ data := #[97, 98, 99, 100, 101, 102, 103, 104, 105, 106, 107, 108, 109, 110, 111, 112, 113] } : ByteArray).extract 0 1)) := cell_of_row _ _ 5 _ _ (0, 0) hX2
  have b6 : w2.cell? ⟨w1.heap.size, 6, none⟩ = some (.int .i64 0) := cell_of_row _ _ 6 _ _ (0, 0) hX2
  have b7 : w2.cell? ⟨w1.heap.size, 7, none⟩ = some (.int .i64 0) := cell_of_row _ _ 7 _ _ (0, 0) hX2
  have b8 : w2.cell? ⟨w1.heap.size, 8, none⟩ = some (.bool false) := cell_of_row _ _ 8 _ _ (0, 0) hX2
  have b9 : w2.cell? ⟨w1.heap.size, 9, none⟩ = some (.slice none 0 0) := cell_of_row _ _ 9 _ _ (0, 0) hX2
  have C2 := Lib.hid (bytes_lit 0 0 0 0 ({ data := #[97] } : ByteArray) (({ data := #[97, 98, 99, 100, 101, 102, 103, 104, 105, 106, 107, 108, 109, 110, 111, 112, 113] } : ByteArray).extract 0 1) 0 0 false [] none 0 0 W.heap.size w2 rfl (HRD.out.below hb2) hb2.size)
  rw [HRI.out] at C2
  have HB3 := Lib.hid (HB2.out.trans (hb2.mono HB2.out.size))
  clear C1 hb2 hX2
  go_wp2_with fail
  have C3 : Hid (Calls _ _ _ w2 (BytesOf (enc ⟨0, 0, 0, 0, ({ data := #[97] } : ByteArray), (({ data := #[97, 98, 99, 100, 101, 102, 103, 104, 105, 106, 107, 108, 109, 110, 111, 112, 113] } : ByteArray).extract 0 1), 0, 0, false, []⟩) w2)) := C2
  rw [HL.out] at C3
  refine C3.out.mono ?_
  rintro e w3 ⟨v3, rfl, ho3, hb3⟩
  obtain ⟨A3, c3, hv3, _, _⟩ := own_rd ho3
  subst hv3
  have HB4 := Lib.hid (HB3.out.trans (hb3.mono HB3.out.size))
  clear ho3 hb3
  go_wp2_with fail
  go_ret
  exact ⟨rfl, HB4.out⟩
set_option maxHeartbeats 16000000 in
theorem lim_1_true (w : World) :
    Calls Try.prog 6 #[.int .i64 1, .bool true] w fun e w' => e = .returned (.bool true) ∧ Below w.heap.size w w' := by
  have hok : Sp.ok ⟨0, 0, 0, 0, ({ data := #[97] } : ByteArray), ByteArray.empty, 0, 0, false, []⟩ := ⟨⟨by decide, by decide⟩, ⟨by decide, by decide⟩, ⟨by decide, by decide⟩, ⟨by decide, by decide⟩, by decide +kernel, by decide +kernel, ⟨by decide, by decide⟩, ⟨by decide, by decide⟩, ⟨by decide, fun a ha => by cases ha⟩⟩
  have hri : right ⟨0, 0, 0, 0, ({ data := #[97] } : ByteArray), ByteArray.empty, 0, 0, false, []⟩ = false := by decide +kernel
  have HOK := Lib.hid hok
  have HRI := Lib.hid hri
  clear hok hri
  go_enter Try.func6, Try.ntmps6
  go_wp2_with fail
  refine (alive3_calls w).mono ?_
  rintro e w1 ⟨rfl, hb1⟩
  have HB1 := Lib.hid hb1
  clear hb1
  go_wp2_with fail
  have HRD : Hid (RdL (w1.alloc (.cells #[.int .u64 0, .int .u64 0, .int .u64 0, .int .u64 0, .string ({ data := #[97] } : ByteArray), .string ByteArray.empty, .int .i64 0, .int .i64 0, .bool false, .slice none 0 0] 36)) (w1.alloc (.cells #[.int .u64 0, .int .u64 0, .int .u64 0, .int .u64 0, .string ({ data := #[97] } : ByteArray), .string ByteArray.empty, .int .i64 0, .int .i64 0, .bool false, .slice none 0 0] 36)).heap.size ⟨⟨0, 0, 0, 0, ({ data := #[97] } : ByteArray), ByteArray.empty, 0, 0, false, []⟩, none, 0⟩) := Lib.hid ⟨Rd.nil, ⟨Nat.le_refl _, by simp [maxLen]⟩, HOK.out⟩
  have HX : Hid ((w1.alloc (.cells #[.int .u64 0, .int .u64 0, .int .u64 0, .int .u64 0, .string ({ data := #[97] } : ByteArray), .string ByteArray.empty, .int .i64 0, .int .i64 0, .bool false, .slice none 0 0] 36)).heap[w1.heap.size]? = some (.cells #[.int .u64 0, .int .u64 0, .int .u64 0, .int .u64 0, .string ({ data := #[97] } : ByteArray), .string ByteArray.empty, .int .i64 0, .int .i64 0, .bool false, .slice none 0 0] 36)) := Lib.hid (heap_alloc_new w1 _)
  have HB2 : Hid (Below w.heap.size w (w1.alloc (.cells #[.int .u64 0, .int .u64 0, .int .u64 0, .int .u64 0, .string ({ data := #[97] } : ByteArray), .string ByteArray.empty, .int .i64 0, .int .i64 0, .bool false, .slice none 0 0] 36))) := Lib.hid (HB1.out.alloc HB1.out.size _)
  generalize (w1.alloc (.cells #[.int .u64 0, .int .u64 0, .int .u64 0, .int .u64 0, .string ({ data := #[97] } : ByteArray), .string ByteArray.empty, .int .i64 0, .int .i64 0, .bool false, .slice none 0 0] 36)) = W at *
  have C1 := Lib.hid (right_lit 0 0 0 0 ({ data := #[97] } : ByteArray) ByteArray.empty 0 0 false [] none 0 0 W.heap.size W rfl HRD.out (Nat.le_refl _))
  rw [HRI.out] at C1
  refine C1.out.mono ?_
  rintro e w2 ⟨rfl, hb2⟩
  have hX2 := (hb2.block _ (in_heap HX.out)).trans HX.out
  have b0 : w2.cell? ⟨w1.heap.size, 0, none⟩ = some (.int .u64 0) := cell_of_row _ _ 0 _ _ (0, 0) hX2
  have b1 : w2.cell? ⟨w1.heap.size, 1, none⟩ = some (.int .u64 0) := cell_of_row _ _ 1 _ _ (0, 0) hX2
  have b2 : w2.cell? ⟨w1.heap.size, 2, none⟩ = some (.int .u64 0) := cell_of_row _ _ 2 _ _ (0, 0) hX2
  have b3 : w2.cell? ⟨w1.heap.size, 3, none⟩ = some (.int .u64 0) := cell_of_row _ _ 3 _ _ (0, 0) hX2
  have b4 : w2.cell? ⟨w1.heap.size, 4, none⟩ = some (.string ({ data := #[97] } : ByteArray)) := cell_of_row _ _ 4 _ _ (0, 0) hX2
  have b5 : w2.cell? ⟨w1.heap.size, 5, none⟩ = some (.string ByteArray.empty) := cell_of_row _ _ 5 _ _ (0, 0) hX2
  have b6 : w2.cell? ⟨w1.heap.size, 6, none⟩ = some (.int .i64 0) := cell_of_row _ _ 6 _ _ (0, 0) hX2
  have b7 : w2.cell? ⟨w1.heap.size, 7, none⟩ = some (.int .i64 0) := cell_of_row _ _ 7 _ _ (0, 0) hX2
  have b8 : w2.cell? ⟨w1.heap.size, 8, none⟩ = some (.bool false) := cell_of_row _ _ 8 _ _ (0, 0) hX2
  have b9 : w2.cell? ⟨w1.heap.size, 9, none⟩ = some (.slice none 0 0) := cell_of_row _ _ 9 _ _ (0, 0) hX2
  have C2 := Lib.hid (bytes_lit 0 0 0 0 ({ data := #[97] } : ByteArray) ByteArray.empty 0 0 false [] none 0 0 W.heap.size w2 rfl (HRD.out.below hb2) hb2.size)
  rw [HRI.out] at C2
  have HB3 := Lib.hid (HB2.out.trans (hb2.mono HB2.out.size))
  clear C1 hb2 hX2
  go_wp2_with fail
  have C3 : Hid (Calls _ _ _ w2 (BytesOf [] w2)) := C2
  refine C3.out.mono ?_
  rintro e w3 ⟨v3, rfl, ho3, hb3⟩
  obtain ⟨A3, c3, hv3, _, _⟩ := own_rd ho3
  have hv3' : v3 = .slice A3 0 c3 := hv3
  subst hv3'
  have HB4 := Lib.hid (HB3.out.trans (hb3.mono HB3.out.size))
  clear ho3 hb3
  go_wp2_with fail
  go_ret
  exact ⟨rfl, HB4.out⟩
set_option maxHeartbeats 16000000 in
theorem lim_2_false (w : World) :
    Calls Try.prog 6 #[.int .i64 2, .bool false] w fun e w' => e = .returned (.bool true) ∧ Below w.heap.size w w' := by
  have hok : Sp.ok ⟨0, 0, 0, 0, ({ data := #[97] } : ByteArray), ({ data := #[98] } : ByteArray), 1099511627776, 0, false, []⟩ := ⟨⟨by decide, by decide⟩, ⟨by decide, by decide⟩, ⟨by decide, by decide⟩, ⟨by decide, by decide⟩, by decide +kernel, by decide +kernel, ⟨by decide, by decide⟩, ⟨by decide, by decide⟩, ⟨by decide, fun a ha => by cases ha⟩⟩
  have hri : right ⟨0, 0, 0, 0, ({ data := #[97] } : ByteArray), ({ data := #[98] } : ByteArray), 1099511627776, 0, false, []⟩ = true := by decide +kernel
  have HOK := Lib.hid hok
  have HRI := Lib.hid hri
  obtain ⟨e0, e1⟩ := enc_len hri
  generalize hL : enc ⟨0, 0, 0, 0, ({ data := #[97] } : ByteArray), ({ data := #[98] } : ByteArray), 1099511627776, 0, false, []⟩ = L at e0 e1
  have HL := Lib.hid hL
  clear hL
  have h0 : decide ((0 : Int) < (L.length : Int)) = true := decide_eq_true (by omega)
  have h1 : decide (0 < L.length) = true := decide_eq_true (by omega)
  clear e0 e1
  clear hok hri
  go_enter Try.func6, Try.ntmps6
  go_wp2_with fail
  refine (alive3_calls w).mono ?_
  rintro e w1 ⟨rfl, hb1⟩
  have HB1 := Lib.hid hb1
  clear hb1
  go_wp2_with fail
  have HRD : Hid (RdL (w1.alloc (.cells #[.int .u64 0, .int .u64 0, .int .u64 0, .int .u64 0, .string ({ data := #[97] } : ByteArray), .string ({ data := #[98] } : ByteArray), .int .i64 1099511627776, .int .i64 0, .bool false, .slice none 0 0] 36)) (w1.alloc (.cells #[.int .u64 0, .int .u64 0, .int .u64 0, .int .u64 0, .string ({ data := #[97] } : ByteArray), .string ({ data := #[98] } : ByteArray), .int .i64 1099511627776, .int .i64 0, .bool false, .slice none 0 0] 36)).heap.size ⟨⟨0, 0, 0, 0, ({ data := #[97] } : ByteArray), ({ data := #[98] } : ByteArray), 1099511627776, 0, false, []⟩, none, 0⟩) := Lib.hid ⟨Rd.nil, ⟨Nat.le_refl _, by simp [maxLen]⟩, HOK.out⟩
  have HX : Hid ((w1.alloc (.cells #[.int .u64 0, .int .u64 0, .int .u64 0, .int .u64 0, .string ({ data := #[97] } : ByteArray), .string ({ data := #[98] } : ByteArray), .int .i64 1099511627776, .int .i64 0, .bool false, .slice none 0 0] 36)).heap[w1.heap.size]? = some (.cells #[.int .u64 0, .int .u64 0, .int .u64 0, .int .u64 0, .string ({ data := #[97] } : ByteArray), .string ({ data := #[98] } : ByteArray), .int .i64 1099511627776, .int .i64 0, .bool false, .slice none 0 0] 36)) := Lib.hid (heap_alloc_new w1 _)
  have HB2 : Hid (Below w.heap.size w (w1.alloc (.cells #[.int .u64 0, .int .u64 0, .int .u64 0, .int .u64 0, .string ({ data := #[97] } : ByteArray), .string ({ data := #[98] } : ByteArray), .int .i64 1099511627776, .int .i64 0, .bool false, .slice none 0 0] 36))) := Lib.hid (HB1.out.alloc HB1.out.size _)
  generalize (w1.alloc (.cells #[.int .u64 0, .int .u64 0, .int .u64 0, .int .u64 0, .string ({ data := #[97] } : ByteArray), .string ({ data := #[98] } : ByteArray), .int .i64 1099511627776, .int .i64 0, .bool false, .slice none 0 0] 36)) = W at *
  have C1 := Lib.hid (right_lit 0 0 0 0 ({ data := #[97] } : ByteArray) ({ data := #[98] } : ByteArray) 1099511627776 0 false [] none 0 0 W.heap.size W rfl HRD.out (Nat.le_refl _))
  rw [HRI.out] at C1
  refine C1.out.mono ?_
  rintro e w2 ⟨rfl, hb2⟩
  have hX2 := (hb2.block _ (in_heap HX.out)).trans HX.out
  have b0 : w2.cell? ⟨w1.heap.size, 0, none⟩ = some (.int .u64 0) := cell_of_row _ _ 0 _ _ (0, 0) hX2
  have b1 : w2.cell? ⟨w1.heap.size, 1, none⟩ = some (.int .u64 0) := cell_of_row _ _ 1 _ _ (0, 0) hX2
  have b2 : w2.cell? ⟨w1.heap.size, 2, none⟩ = some (.int .u64 0) := cell_of_row _ _ 2 _ _ (0, 0) hX2
  have b3 : w2.cell? ⟨w1.heap.size, 3, none⟩ = some (.int .u64 0) := cell_of_row _ _ 3 _ _ (0, 0) hX2
  have b4 : w2.cell? ⟨w1.heap.size, 4, none⟩ = some (.string ({ data := #[97] } : ByteArray)) := cell_of_row _ _ 4 _ _ (0, 0) hX2
  have b5 : w2.cell? ⟨w1.heap.size, 5, none⟩ = some (.string ({ data := #[98] } : ByteArray)) := cell_of_row _ _ 5 _ _ (0, 0) hX2
  have b6 : w2.cell? ⟨w1.heap.size, 6, none⟩ = some (.int .i64 1099511627776) := cell_of_row _ _ 6 _ _ (0, 0) hX2
  have b7 : w2.cell? ⟨w1.heap.size, 7, none⟩ = some (.int .i64 0) := cell_of_row _ _ 7 _ _ (0, 0) hX2
  have b8 : w2.cell? ⟨w1.heap.size, 8, none⟩ = some (.bool false) := cell_of_row _ _ 8 _ _ (0, 0) hX2
  have b9 : w2.cell? ⟨w1.heap.size, 9, none⟩ = some (.slice none 0 0) := cell_of_row _ _ 9 _ _ (0, 0) hX2
  have C2 := Lib.hid (bytes_lit 0 0 0 0 ({ data := #[97] } : ByteArray) ({ data := #[98] } : ByteArray) 1099511627776 0 false [] none 0 0 W.heap.size w2 rfl (HRD.out.below hb2) hb2.size)
  rw [HRI.out] at C2
  have HB3 := Lib.hid (HB2.out.trans (hb2.mono HB2.out.size))
  clear C1 hb2 hX2
  go_wp2_with fail
  have C3 : Hid (Calls _ _ _ w2 (BytesOf (enc ⟨0, 0, 0, 0, ({ data := #[97] } : ByteArray), ({ data := #[98] } : ByteArray), 1099511627776, 0, false, []⟩) w2)) := C2
  rw [HL.out] at C3
  refine C3.out.mono ?_
  rintro e w3 ⟨v3, rfl, ho3, hb3⟩
  obtain ⟨A3, c3, hv3, _, _⟩ := own_rd ho3
  subst hv3
  have HB4 := Lib.hid (HB3.out.trans (hb3.mono HB3.out.size))
  clear ho3 hb3
  go_wp2_with fail
  go_ret
  exact ⟨rfl, HB4.out⟩
set_option maxHeartbeats 16000000 in
theorem lim_2_true (w : World) :
    Calls Try.prog 6 #[.int .i64 2, .bool true] w fun e w' => e = .returned (.bool true) ∧ Below w.heap.size w w' := by
  have hok : Sp.ok ⟨0, 0, 0, 0, ({ data := #[97] } : ByteArray), ({ data := #[98] } : ByteArray), 1099511627777, 0, false, []⟩ := ⟨⟨by decide, by decide⟩, ⟨by decide, by decide⟩, ⟨by decide, by decide⟩, ⟨by decide, by decide⟩, by decide +kernel, by decide +kernel, ⟨by decide, by decide⟩, ⟨by decide, by decide⟩, ⟨by decide, fun a ha => by cases ha⟩⟩
  have hri : right ⟨0, 0, 0, 0, ({ data := #[97] } : ByteArray), ({ data := #[98] } : ByteArray), 1099511627777, 0, false, []⟩ = false := by decide +kernel
  have HOK := Lib.hid hok
  have HRI := Lib.hid hri
  clear hok hri
  go_enter Try.func6, Try.ntmps6
  go_wp2_with fail
  refine (alive3_calls w).mono ?_
  rintro e w1 ⟨rfl, hb1⟩
  have HB1 := Lib.hid hb1
  clear hb1
  go_wp2_with fail
  have HRD : Hid (RdL (w1.alloc (.cells #[.int .u64 0, .int .u64 0, .int .u64 0, .int .u64 0, .string ({ data := #[97] } : ByteArray), .string ({ data := #[98] } : ByteArray), .int .i64 1099511627777, .int .i64 0, .bool false, .slice none 0 0] 36)) (w1.alloc (.cells #[.int .u64 0, .int .u64 0, .int .u64 0, .int .u64 0, .string ({ data := #[97] } : ByteArray), .string ({ data := #[98] } : ByteArray), .int .i64 1099511627777, .int .i64 0, .bool false, .slice none 0 0] 36)).heap.size ⟨⟨0, 0, 0, 0, ({ data := #[97] } : ByteArray), ({ data := #[98] } : ByteArray), 1099511627777, 0, false, []⟩, none, 0⟩) := Lib.hid ⟨Rd.nil, ⟨Nat.le_refl _, by simp [maxLen]⟩, HOK.out⟩
  have HX : Hid ((w1.alloc (.cells #[.int .u64 0, .int .u64 0, .int .u64 0, .int .u64 0, .string ({ data := #[97] } : ByteArray), .string ({ data := #[98] } : ByteArray), .int .i64 1099511627777, .int .i64 0, .bool false, .slice none 0 0] 36)).heap[w1.heap.size]? = some (.cells #[.int .u64 0, .int .u64 0, .int .u64 0, .int .u64 0, .string ({ data := #[97] } : ByteArray), .string ({ data := #[98] } : ByteArray), .int .i64 1099511627777, .int .i64 0, .bool false, .slice none 0 0] 36)) := Lib.hid (heap_alloc_new w1 _)
  have HB2 : Hid (Below w.heap.size w (w1.alloc (.cells #[.int .u64 0, .int .u64 0, .int .u64 0, .int .u64 0, .string ({ data := #[97] } : ByteArray), .string ({ data := #[98] } : ByteArray), .int .i64 1099511627777, .int .i64 0, .bool false, .slice none 0 0] 36))) := Lib.hid (HB1.out.alloc HB1.out.size _)
  generalize (w1.alloc (.cells #[.int .u64 0, .int .u64 0, .int .u64 0, .int .u64 0, .string ({ data := #[97] } : ByteArray), .string ({ data := #[98] } : ByteArray), .int .i64 1099511627777, .int .i64 0, .bool false, .slice none 0 0] 36)) = W at *
  have C1 := Lib.hid (right_lit 0 0 0 0 ({ data := #[97] } : ByteArray) ({ data := #[98] } : ByteArray) 1099511627777 0 false [] none 0 0 W.heap.size W rfl HRD.out (Nat.le_refl _))
  rw [HRI.out] at C1
  refine C1.out.mono ?_
  rintro e w2 ⟨rfl, hb2⟩
  have hX2 := (hb2.block _ (in_heap HX.out)).trans HX.out
  have b0 : w2.cell? ⟨w1.heap.size, 0, none⟩ = some (.int .u64 0) := cell_of_row _ _ 0 _ _ (0, 0) hX2
  have b1 : w2.cell? ⟨w1.heap.size, 1, none⟩ = some (.int .u64 0) := cell_of_row _ _ 1 _ _ (0, 0) hX2
  have b2 : w2.cell? ⟨w1.heap.size, 2, none⟩ = some (.int .u64 0) := cell_of_row _ _ 2 _ _ (0, 0) hX2
  have b3 : w2.cell? ⟨w1.heap.size, 3, none⟩ = some (.int .u64 0) := cell_of_row _ _ 3 _ _ (0, 0) hX2
  have b4 : w2.cell? ⟨w1.heap.size, 4, none⟩ = some (.string ({ data := #[97] } : ByteArray)) := cell_of_row _ _ 4 _ _ (0, 0) hX2
  have b5 : w2.cell? ⟨w1.heap.size, 5, none⟩ = some (.string ({ data := #[98] } : ByteArray)) := cell_of_row _ _ 5 _ _ (0, 0) hX2
  have b6 : w2.cell? ⟨w1.heap.size, 6, none⟩ = some (.int .i64 1099511627777) := cell_of_row _ _ 6 _ _ (0, 0) hX2
  have b7 : w2.cell? ⟨w1.heap.size, 7, none⟩ = some (.int .i64 0) := cell_of_row _ _ 7 _ _ (0, 0) hX2
  have b8 : w2.cell? ⟨w1.heap.size, 8, none⟩ = some (.bool false) := cell_of_row _ _ 8 _ _ (0, 0) hX2
  have b9 : w2.cell? ⟨w1.heap.size, 9, none⟩ = some (.slice none 0 0) := cell_of_row _ _ 9 _ _ (0, 0) hX2
  have C2 := Lib.hid (bytes_lit 0 0 0 0 ({ data := #[97] } : ByteArray) ({ data := #[98] } : ByteArray) 1099511627777 0 false [] none 0 0 W.heap.size w2 rfl (HRD.out.below hb2) hb2.size)
  rw [HRI.out] at C2
  have HB3 := Lib.hid (HB2.out.trans (hb2.mono HB2.out.size))
  clear C1 hb2 hX2
  go_wp2_with fail
  have C3 : Hid (Calls _ _ _ w2 (BytesOf [] w2)) := C2
  refine C3.out.mono ?_
  rintro e w3 ⟨v3, rfl, ho3, hb3⟩
  obtain ⟨A3, c3, hv3, _, _⟩ := own_rd ho3
  have hv3' : v3 = .slice A3 0 c3 := hv3
  subst hv3'
  have HB4 := Lib.hid (HB3.out.trans (hb3.mono HB3.out.size))
  clear ho3 hb3
  go_wp2_with fail
  go_ret
  exact ⟨rfl, HB4.out⟩
set_option maxHeartbeats 16000000 in
theorem lim_3_false (w : World) :
    Calls Try.prog 6 #[.int .i64 3, .bool false] w fun e w' => e = .returned (.bool true) ∧ Below w.heap.size w w' := by
  have hok : Sp.ok ⟨0, 0, 0, 0, ({ data := #[97] } : ByteArray), ({ data := #[98] } : ByteArray), 0, 0, false, []⟩ := ⟨⟨by decide, by decide⟩, ⟨by decide, by decide⟩, ⟨by decide, by decide⟩, ⟨by decide, by decide⟩, by decide +kernel, by decide +kernel, ⟨by decide, by decide⟩, ⟨by decide, by decide⟩, ⟨by decide, fun a ha => by cases ha⟩⟩
  have hri : right ⟨0, 0, 0, 0, ({ data := #[97] } : ByteArray), ({ data := #[98] } : ByteArray), 0, 0, false, []⟩ = true := by decide +kernel
  have HOK := Lib.hid hok
  have HRI := Lib.hid hri
  obtain ⟨e0, e1⟩ := enc_len hri
  generalize hL : enc ⟨0, 0, 0, 0, ({ data := #[97] } : ByteArray), ({ data := #[98] } : ByteArray), 0, 0, false, []⟩ = L at e0 e1
  have HL := Lib.hid hL
  clear hL
  have h0 : decide ((0 : Int) < (L.length : Int)) = true := decide_eq_true (by omega)
  have h1 : decide (0 < L.length) = true := decide_eq_true (by omega)
  clear e0 e1
  clear hok hri
  go_enter Try.func6, Try.ntmps6
  go_wp2_with fail
  refine (alive3_calls w).mono ?_
  rintro e w1 ⟨rfl, hb1⟩
  have HB1 := Lib.hid hb1
  clear hb1
  go_wp2_with fail
  have HRD : Hid (RdL (w1.alloc (.cells #[.int .u64 0, .int .u64 0, .int .u64 0, .int .u64 0, .string ({ data := #[97] } : ByteArray), .string ({ data := #[98] } : ByteArray), .int .i64 0, .int .i64 0, .bool false, .slice none 0 0] 36)) (w1.alloc (.cells #[.int .u64 0, .int .u64 0, .int .u64 0, .int .u64 0, .string ({ data := #[97] } : ByteArray), .string ({ data := #[98] } : ByteArray), .int .i64 0, .int .i64 0, .bool false, .slice none 0 0] 36)).heap.size ⟨⟨0, 0, 0, 0, ({ data := #[97] } : ByteArray), ({ data := #[98] } : ByteArray), 0, 0, false, []⟩, none, 0⟩) := Lib.hid ⟨Rd.nil, ⟨Nat.le_refl _, by simp [maxLen]⟩, HOK.out⟩
  have HX : Hid ((w1.alloc (.cells #[.int .u64 0, .int .u64 0, .int .u64 0, .int .u64 0, .string ({ data := #[97] } : ByteArray), .string ({ data := #[98] } : ByteArray), .int .i64 0, .int .i64 0, .bool false, .slice none 0 0] 36)).heap[w1.heap.size]? = some (.cells #[.int .u64 0, .int .u64 0, .int .u64 0, .int .u64 0, .string ({ data := #[97] } : ByteArray), .string ({ data := #[98] } : ByteArray), .int .i64 0, .int .i64 0, .bool false, .slice none 0 0] 36)) := Lib.hid (heap_alloc_new w1 _)
  have HB2 : Hid (Below w.heap.size w (w1.alloc (.cells #[.int .u64 0, .int .u64 0, .int .u64 0, .int .u64 0, .string ({ data := #[97] } : ByteArray), .string ({ data := #[98] } : ByteArray), .int .i64 0, .int .i64 0, .bool false, .slice none 0 0] 36))) := Lib.hid (HB1.out.alloc HB1.out.size _)
  generalize (w1.alloc (.cells #[.int .u64 0, .int .u64 0, .int .u64 0, .int .u64 0, .string ({ data := #[97] } : ByteArray), .string ({ data := #[98] } : ByteArray), .int .i64 0, .int .i64 0, .bool false, .slice none 0 0] 36)) = W at *
  have C1 := Lib.hid (right_lit 0 0 0 0 ({ data := #[97] } : ByteArray) ({ data := #[98] } : ByteArray) 0 0 false [] none 0 0 W.heap.size W rfl HRD.out (Nat.le_refl _))
  rw [HRI.out] at C1
  refine C1.out.mono ?_
  rintro e w2 ⟨rfl, hb2⟩
  have hX2 := (hb2.block _ (in_heap HX.out)).trans HX.out
  have b0 : w2.cell? ⟨w1.heap.size, 0, none⟩ = some (.int .u64 0) := cell_of_row _ _ 0 _ _ (0, 0) hX2
  have b1 : w2.cell? ⟨w1.heap.size, 1, none⟩ = some (.int .u64 0) := cell_of_row _ _ 1 _ _ (0, 0) hX2
  have b2 : w2.cell? ⟨w1.heap.size, 2, none⟩ = some (.int .u64 0) := cell_of_row _ _ 2 _ _ (0, 0) hX2
  have b3 : w2.cell? ⟨w1.heap.size, 3, none⟩ = some (.int .u64 0) := cell_of_row _ _ 3 _ _ (0, 0) hX2
  have b4 : w2.cell? ⟨w1.heap.size, 4, none⟩ = some (.string ({ data := #[97] } : ByteArray)) := cell_of_row _ _ 4 _ _ (0, 0) hX2
  have b5 : w2.cell? ⟨w1.heap.size, 5, none⟩ = some (.string ({ data := #[98] } : ByteArray)) := cell_of_row _ _ 5 _ _ (0, 0) hX2
  have b6 : w2.cell? ⟨w1.heap.size, 6, none⟩ = some (.int .i64 0) := cell_of_row _ _ 6 _ _ (0, 0) hX2
  have b7 : w2.cell? ⟨w1.heap.size, 7, none⟩ = some (.int .i64 0) := cell_of_row _ _ 7 _ _ (0, 0) hX2
  have b8 : w2.cell? ⟨w1.heap.size, 8, none⟩ = some (.bool false) := cell_of_row _ _ 8 _ _ (0, 0) hX2
  have b9 : w2.cell? ⟨w1.heap.size, 9, none⟩ = some (.slice none 0 0) := cell_of_row _ _ 9 _ _ (0, 0) hX2
  have C2 := Lib.hid (bytes_lit 0 0 0 0 ({ data := #[97] } : ByteArray) ({ data := #[98] } : ByteArray) 0 0 false [] none 0 0 W.heap.size w2 rfl (HRD.out.below hb2) hb2.size)
  rw [HRI.out] at C2
  have HB3 := Lib.hid (HB2.out.trans (hb2.mono HB2.out.size))
  clear C1 hb2 hX2
  go_wp2_with fail
  have C3 : Hid (Calls _ _ _ w2 (BytesOf (enc ⟨0, 0, 0, 0, ({ data := #[97] } : ByteArray), ({ data := #[98] } : ByteArray), 0, 0, false, []⟩) w2)) := C2
  rw [HL.out] at C3
  refine C3.out.mono ?_
  rintro e w3 ⟨v3, rfl, ho3, hb3⟩
  obtain ⟨A3, c3, hv3, _, _⟩ := own_rd ho3
  subst hv3
  have HB4 := Lib.hid (HB3.out.trans (hb3.mono HB3.out.size))
  clear ho3 hb3
  go_wp2_with fail
  go_ret
  exact ⟨rfl, HB4.out⟩
set_option maxHeartbeats 16000000 in
theorem lim_3_true (w : World) :
    Calls Try.prog 6 #[.int .i64 3, .bool true] w fun e w' => e = .returned (.bool true) ∧ Below w.heap.size w w' := by
  have hok : Sp.ok ⟨0, 0, 0, 0, ({ data := #[97] } : ByteArray), ({ data := #[98] } : ByteArray), (-1), 0, false, []⟩ := ⟨⟨by decide, by decide⟩, ⟨by decide, by decide⟩, ⟨by decide, by decide⟩, ⟨by decide, by decide⟩, by decide +kernel, by decide +kernel, ⟨by decide, by decide⟩, ⟨by decide, by decide⟩, ⟨by decide, fun a ha => by cases ha⟩⟩
  have hri : right ⟨0, 0, 0, 0, ({ data := #[97] } : ByteArray), ({ data := #[98] } : ByteArray), (-1), 0, false, []⟩ = false := by decide +kernel
  have HOK := Lib.hid hok
  have HRI := Lib.hid hri
  clear hok hri
  go_enter Try.func6, Try.ntmps6
  go_wp2_with fail
  refine (alive3_calls w).mono ?_
  rintro e w1 ⟨rfl, hb1⟩
  have HB1 := Lib.hid hb1
  clear hb1
  go_wp2_with fail
  have HRD : Hid (RdL (w1.alloc (.cells #[.int .u64 0, .int .u64 0, .int .u64 0, .int .u64 0, .string ({ data := #[97] } : ByteArray), .string ({ data := #[98] } : ByteArray), .int .i64 (-1), .int .i64 0, .bool false, .slice none 0 0] 36)) (w1.alloc (.cells #[.int .u64 0, .int .u64 0, .int .u64 0, .int .u64 0, .string ({ data := #[97] } : ByteArray), .string ({ data := #[98] } : ByteArray), .int .i64 (-1), .int .i64 0, .bool false, .slice none 0 0] 36)).heap.size ⟨⟨0, 0, 0, 0, ({ data := #[97] } : ByteArray), ({ data := #[98] } : ByteArray), (-1), 0, false, []⟩, none, 0⟩) := Lib.hid ⟨Rd.nil, ⟨Nat.le_refl _, by simp [maxLen]⟩, HOK.out⟩
  have HX : Hid ((w1.alloc (.cells #[.int .u64 0, .int .u64 0, .int .u64 0, .int .u64 0, .string ({ data := #[97] } : ByteArray), .string ({ data := #[98] } : ByteArray), .int .i64 (-1), .int .i64 0, .bool false, .slice none 0 0] 36)).heap[w1.heap.size]? = some (.cells #[.int .u64 0, .int .u64 0, .int .u64 0, .int .u64 0, .string ({ data := #[97] } : ByteArray), .string ({ data := #[98] } : ByteArray), .int .i64 (-1), .int .i64 0, .bool false, .slice none 0 0] 36)) := Lib.hid (heap_alloc_new w1 _)
  have HB2 : Hid (Below w.heap.size w (w1.alloc (.cells #[.int .u64 0, .int .u64 0, .int .u64 0, .int .u64 0, .string ({ data := #[97] } : ByteArray), .string ({ data := #[98] } : ByteArray), .int .i64 (-1), .int .i64 0, .bool false, .slice none 0 0] 36))) := Lib.hid (HB1.out.alloc HB1.out.size _)
  generalize (w1.alloc (.cells #[.int .u64 0, .int .u64 0, .int .u64 0, .int .u64 0, .string ({ data := #[97] } : ByteArray), .string ({ data := #[98] } : ByteArray), .int .i64 (-1), .int .i64 0, .bool false, .slice none 0 0] 36)) = W at *
  have C1 := Lib.hid (right_lit 0 0 0 0 ({ data := #[97] } : ByteArray) ({ data := #[98] } : ByteArray) (-1) 0 false [] none 0 0 W.heap.size W rfl HRD.out (Nat.le_refl _))
  rw [HRI.out] at C1
  refine C1.out.mono ?_
  rintro e w2 ⟨rfl, hb2⟩
  have hX2 := (hb2.block _ (in_heap HX.out)).trans HX.out
  have b0 : w2.cell? ⟨w1.heap.size, 0, none⟩ = some (.int .u64 0) := cell_of_row _ _ 0 _ _ (0, 0) hX2
  have b1 : w2.cell? ⟨w1.heap.size, 1, none⟩ = some (.int .u64 0) := cell_of_row _ _ 1 _ _ (0, 0) hX2
  have b2 : w2.cell? ⟨w1.heap.size, 2, none⟩ = some (.int .u64 0) := cell_of_row _ _ 2 _ _ (0, 0) hX2
  have b3 : w2.cell? ⟨w1.heap.size, 3, none⟩ = some (.int .u64 0) := cell_of_row _ _ 3 _ _ (0, 0) hX2
  have b4 : w2.cell? ⟨w1.heap.size, 4, none⟩ = some (.string ({ data := #[97] } : ByteArray)) := cell_of_row _ _ 4 _ _ (0, 0) hX2
  have b5 : w2.cell? ⟨w1.heap.size, 5, none⟩ = some (.string ({ data := #[98] } : ByteArray)) := cell_of_row _ _ 5 _ _ (0, 0) hX2
  have b6 : w2.cell? ⟨w1.heap.size, 6, none⟩ = some (.int .i64 (-1)) := cell_of_row _ _ 6 _ _ (0, 0) hX2
  have b7 : w2.cell? ⟨w1.heap.size, 7, none⟩ = some (.int .i64 0) := cell_of_row _ _ 7 _ _ (0, 0) hX2
  have b8 : w2.cell? ⟨w1.heap.size, 8, none⟩ = some (.bool false) := cell_of_row _ _ 8 _ _ (0, 0) hX2
  have b9 : w2.cell? ⟨w1.heap.size, 9, none⟩ = some (.slice none 0 0) := cell_of_row _ _ 9 _ _ (0, 0) hX2
  have C2 := Lib.hid (bytes_lit 0 0 0 0 ({ data := #[97] } : ByteArray) ({ data := #[98] } : ByteArray) (-1) 0 false [] none 0 0 W.heap.size w2 rfl (HRD.out.below hb2) hb2.size)
  rw [HRI.out] at C2
  have HB3 := Lib.hid (HB2.out.trans (hb2.mono HB2.out.size))
  clear C1 hb2 hX2
  go_wp2_with fail
  have C3 : Hid (Calls _ _ _ w2 (BytesOf [] w2)) := C2
  refine C3.out.mono ?_
  rintro e w3 ⟨v3, rfl, ho3, hb3⟩
  obtain ⟨A3, c3, hv3, _, _⟩ := own_rd ho3
  have hv3' : v3 = .slice A3 0 c3 := hv3
  subst hv3'
  have HB4 := Lib.hid (HB3.out.trans (hb3.mono HB3.out.size))
  clear ho3 hb3
  go_wp2_with fail
  go_ret
  exact ⟨rfl, HB4.out⟩
end Go.Proofs.Ythkclgkbidhmbaa
