/- The document's SpanBytes. -/
import Derived.Test.YthkclgkbidhmbaaDb
import Derived.Test.YthkclgkbidhmbaaBk3
namespace Go.Proofs.Ythkclgkbidhmbaa
open Go.RowKit
set_option linter.unusedVariables false
set_option maxRecDepth 100000

set_option maxHeartbeats 16000000 in
theorem spanbytes_in (x0 x1 x2 x3 : Nat) (x4 x5 : ByteArray) (x6 x7 : Nat) (x8 : Bool) (ats : List (ByteArray × ByteArray)) (xA : Option Addr) (xc k : Nat) (w : World) (hk : k = ats.length) (hy : RdL w w.heap.size ⟨⟨x0, x1, x2, x3, x4, x5, x6, x7, x8, ats⟩, xA, xc⟩) (hri : right ⟨x0, x1, x2, x3, x4, x5, x6, x7, x8, ats⟩ = true) :
    Calls Try.prog 31 #[.agg #[.int .u64 x0, .int .u64 x1, .int .u64 x2, .int .u64 x3, .string x4, .string x5, .int .i64 x6, .int .i64 x7, .bool x8, .slice xA k xc]] w fun e w' => ∃ v', e = .returned v' ∧ w'.ownsRow w.heap.size 5 1 v' (enc ⟨x0, x1, x2, x3, x4, x5, x6, x7, x8, ats⟩).length ((enc ⟨x0, x1, x2, x3, x4, x5, x6, x7, x8, ats⟩).map B8) ∧ Below w.heap.size w w' := by
  have HB0 := Lib.hid ((Below.refl w.heap.size w).alloc (Nat.le_refl _) (.cells #[.int .u64 x0, .int .u64 x1, .int .u64 x2, .int .u64 x3, .string x4, .string x5, .int .i64 x6, .int .i64 x7, .bool x8, .slice xA k xc] 36))
  have HX0 := Lib.hid (heap_alloc_new w (.cells #[.int .u64 x0, .int .u64 x1, .int .u64 x2, .int .u64 x3, .string x4, .string x5, .int .i64 x6, .int .i64 x7, .bool x8, .slice xA k xc] 36))
  have HRI : Hid (∀ W, Below w.heap.size w W → Calls Try.prog 29 #[.agg #[.int .u64 x0, .int .u64 x1, .int .u64 x2, .int .u64 x3, .string x4, .string x5, .int .i64 x6, .int .i64 x7, .bool x8, .slice xA k xc]] W fun e w' => e = .returned (.bool true) ∧ Below W.heap.size W w') := Lib.hid (fun W hW => by have h := rightspan_lit x0 x1 x2 x3 x4 x5 x6 x7 x8 ats xA xc k w.heap.size W hk (hy.below hW) hW.size; rw [hri] at h; exact h)
  have HAS : Hid (∀ W, Below w.heap.size w W → Calls Try.prog 63 #[.slice none 0 0, .agg #[.int .u64 x0, .int .u64 x1, .int .u64 x2, .int .u64 x3, .string x4, .string x5, .int .i64 x6, .int .i64 x7, .bool x8, .slice xA k xc]] W fun e w' => ∃ v', e = .returned v' ∧ w'.ownsRow w.heap.size 5 1 v' (enc ⟨x0, x1, x2, x3, x4, x5, x6, x7, x8, ats⟩).length ((enc ⟨x0, x1, x2, x3, x4, x5, x6, x7, x8, ats⟩).map B8) ∧ Below w.heap.size W w') := Lib.hid (fun W hW => addspan_any x0 x1 x2 x3 x4 x5 x6 x7 x8 ats xA xc k w.heap.size w.heap.size (.slice none 0 0) [] W hk (hy.below hW) hW.size (Nat.le_refl _) (own_nil W w.heap.size) hW.size (by simp) hri)
  clear hk hy hri
  go_enter Try.func31, Try.ntmps31
  go_wp2_with (first
    | (go_at_call 29; (with_reducible refine (HRI.out _ HB0.out).mono ?_); rintro e w1 ⟨rfl, hb1⟩; have hX1 := (hb1.block w.heap.size (in_heap HX0.out)).trans HX0.out; have HB1 := Lib.hid (HB0.out.trans (hb1.mono HB0.out.size)); have b0 : w1.cell? ⟨w.heap.size, 0, none⟩ = some (.int .u64 x0) := cell_of_row _ _ 0 _ _ (0, 0) hX1; have b1 : w1.cell? ⟨w.heap.size, 1, none⟩ = some (.int .u64 x1) := cell_of_row _ _ 1 _ _ (0, 0) hX1; have b2 : w1.cell? ⟨w.heap.size, 2, none⟩ = some (.int .u64 x2) := cell_of_row _ _ 2 _ _ (0, 0) hX1; have b3 : w1.cell? ⟨w.heap.size, 3, none⟩ = some (.int .u64 x3) := cell_of_row _ _ 3 _ _ (0, 0) hX1; have b4 : w1.cell? ⟨w.heap.size, 4, none⟩ = some (.string x4) := cell_of_row _ _ 4 _ _ (0, 0) hX1; have b5 : w1.cell? ⟨w.heap.size, 5, none⟩ = some (.string x5) := cell_of_row _ _ 5 _ _ (0, 0) hX1; have b6 : w1.cell? ⟨w.heap.size, 6, none⟩ = some (.int .i64 x6) := cell_of_row _ _ 6 _ _ (0, 0) hX1; have b7 : w1.cell? ⟨w.heap.size, 7, none⟩ = some (.int .i64 x7) := cell_of_row _ _ 7 _ _ (0, 0) hX1; have b8 : w1.cell? ⟨w.heap.size, 8, none⟩ = some (.bool x8) := cell_of_row _ _ 8 _ _ (0, 0) hX1; have b9 : w1.cell? ⟨w.heap.size, 9, none⟩ = some (.slice xA k xc) := cell_of_row _ _ 9 _ _ (0, 0) hX1; clear hX1 hb1 HB0 HX0 HRI)
    | (go_at_call 63; (with_reducible refine (HAS.out _ HB1.out).mono ?_); rintro e w2 ⟨v2, rfl, ho2, hb2⟩; have HO2 := Lib.hid ho2; have HB2 := Lib.hid (HB1.out.trans hb2); clear ho2 hb2 HB1 HAS b0 b1 b2 b3 b4 b5 b6 b7 b8 b9))
  go_ret
  exact ⟨_, rfl, HO2.out, HB2.out⟩
set_option maxHeartbeats 16000000 in
theorem spanbytes_out (x0 x1 x2 x3 : Nat) (x4 x5 : ByteArray) (x6 x7 : Nat) (x8 : Bool) (ats : List (ByteArray × ByteArray)) (xA : Option Addr) (xc k : Nat) (w : World) (hk : k = ats.length) (hy : RdL w w.heap.size ⟨⟨x0, x1, x2, x3, x4, x5, x6, x7, x8, ats⟩, xA, xc⟩) (hri : right ⟨x0, x1, x2, x3, x4, x5, x6, x7, x8, ats⟩ = false) :
    Calls Try.prog 31 #[.agg #[.int .u64 x0, .int .u64 x1, .int .u64 x2, .int .u64 x3, .string x4, .string x5, .int .i64 x6, .int .i64 x7, .bool x8, .slice xA k xc]] w fun e w' => e = .returned (.slice none 0 0) ∧ Below w.heap.size w w' := by
  have HB0 := Lib.hid ((Below.refl w.heap.size w).alloc (Nat.le_refl _) (.cells #[.int .u64 x0, .int .u64 x1, .int .u64 x2, .int .u64 x3, .string x4, .string x5, .int .i64 x6, .int .i64 x7, .bool x8, .slice xA k xc] 36))
  have HX0 := Lib.hid (heap_alloc_new w (.cells #[.int .u64 x0, .int .u64 x1, .int .u64 x2, .int .u64 x3, .string x4, .string x5, .int .i64 x6, .int .i64 x7, .bool x8, .slice xA k xc] 36))
  have HRI : Hid (∀ W, Below w.heap.size w W → Calls Try.prog 29 #[.agg #[.int .u64 x0, .int .u64 x1, .int .u64 x2, .int .u64 x3, .string x4, .string x5, .int .i64 x6, .int .i64 x7, .bool x8, .slice xA k xc]] W fun e w' => e = .returned (.bool false) ∧ Below W.heap.size W w') := Lib.hid (fun W hW => by have h := rightspan_lit x0 x1 x2 x3 x4 x5 x6 x7 x8 ats xA xc k w.heap.size W hk (hy.below hW) hW.size; rw [hri] at h; exact h)
  clear hk hy hri
  go_enter Try.func31, Try.ntmps31
  go_wp2_with (first
    | (go_at_call 29; (with_reducible refine (HRI.out _ HB0.out).mono ?_); rintro e w1 ⟨rfl, hb1⟩; have hX1 := (hb1.block w.heap.size (in_heap HX0.out)).trans HX0.out; have HB1 := Lib.hid (HB0.out.trans (hb1.mono HB0.out.size)); have b0 : w1.cell? ⟨w.heap.size, 0, none⟩ = some (.int .u64 x0) := cell_of_row _ _ 0 _ _ (0, 0) hX1; have b1 : w1.cell? ⟨w.heap.size, 1, none⟩ = some (.int .u64 x1) := cell_of_row _ _ 1 _ _ (0, 0) hX1; have b2 : w1.cell? ⟨w.heap.size, 2, none⟩ = some (.int .u64 x2) := cell_of_row _ _ 2 _ _ (0, 0) hX1; have b3 : w1.cell? ⟨w.heap.size, 3, none⟩ = some (.int .u64 x3) := cell_of_row _ _ 3 _ _ (0, 0) hX1; have b4 : w1.cell? ⟨w.heap.size, 4, none⟩ = some (.string x4) := cell_of_row _ _ 4 _ _ (0, 0) hX1; have b5 : w1.cell? ⟨w.heap.size, 5, none⟩ = some (.string x5) := cell_of_row _ _ 5 _ _ (0, 0) hX1; have b6 : w1.cell? ⟨w.heap.size, 6, none⟩ = some (.int .i64 x6) := cell_of_row _ _ 6 _ _ (0, 0) hX1; have b7 : w1.cell? ⟨w.heap.size, 7, none⟩ = some (.int .i64 x7) := cell_of_row _ _ 7 _ _ (0, 0) hX1; have b8 : w1.cell? ⟨w.heap.size, 8, none⟩ = some (.bool x8) := cell_of_row _ _ 8 _ _ (0, 0) hX1; have b9 : w1.cell? ⟨w.heap.size, 9, none⟩ = some (.slice xA k xc) := cell_of_row _ _ 9 _ _ (0, 0) hX1; clear hX1 hb1 HB0 HX0 HRI))
  go_ret
  exact ⟨rfl, HB1.out⟩
end Go.Proofs.Ythkclgkbidhmbaa
