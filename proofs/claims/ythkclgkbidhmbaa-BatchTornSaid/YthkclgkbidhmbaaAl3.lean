/- Chapter 3's example. -/
import Derived.Test.YthkclgkbidhmbaaRk
namespace Go.Proofs.Ythkclgkbidhmbaa
open Go.RowKit
set_option linter.unusedVariables false
set_option maxRecDepth 100000

def ex3 : Sp := ⟨0, 0, 0, 0, ⟨#[97]⟩, ⟨#[98]⟩, 0, 7, false, []⟩
theorem ex3_ok : ex3.ok := ⟨⟨by decide, by decide⟩, ⟨by decide, by decide⟩, ⟨by decide, by decide⟩, ⟨by decide, by decide⟩, by decide, by decide, ⟨by decide, by decide⟩, ⟨by decide, by decide⟩, by decide, fun a h => by cases h⟩
theorem ex3_right : right ex3 = true := by decide +kernel
theorem ex3_enc : enc ex3 = [0, 0, 0, 0, 1, 97, 1, 98, 0, 7, 0, 0] := by decide +kernel
theorem zero_right : right Rm.zero = false := by decide +kernel
theorem num3_any (e : Int) (w : World) : Calls Try.prog 33 #[.int .i64 e] w fun r w' => r = .returned (.int .i64 e) ∧ w = w' := by
  go_enter Try.func33, Try.ntmps33
  go_wp2_with fail
  go_ret
  exact ⟨rfl, rfl⟩
set_option maxHeartbeats 8000000 in
theorem alive3_calls (w : World) : Calls Try.prog 24 #[] w fun e w' => e = .returned (.bool true) ∧ Below w.heap.size w w' := by
  have HE := Lib.hid ex3_enc
  have CB : Hid (∀ W, Calls Try.prog 30 #[.agg #[.int .u64 0, .int .u64 0, .int .u64 0, .int .u64 0, .string ⟨#[97]⟩, .string ⟨#[98]⟩, .int .i64 0, .int .i64 7, .bool false, .slice none 0 0]] W (BytesOf (enc ex3) W)) := Lib.hid (fun W => by
    have h := bytes_lit 0 0 0 0 ⟨#[97]⟩ ⟨#[98]⟩ 0 7 false [] none 0 0 0 W rfl ⟨Rd.nil, ⟨Nat.le_refl _, Nat.zero_le _⟩, ex3_ok⟩ (Nat.zero_le _)
    rw [if_pos (show right ⟨0, 0, 0, 0, ⟨#[97]⟩, ⟨#[98]⟩, 0, 7, false, []⟩ = true from ex3_right)] at h
    exact h)
  have CZ : Hid (∀ W, Calls Try.prog 30 #[.agg #[.int .u64 0, .int .u64 0, .int .u64 0, .int .u64 0, .string ⟨#[]⟩, .string ⟨#[]⟩, .int .i64 0, .int .i64 0, .bool false, .slice none 0 0]] W (BytesOf [] W)) := Lib.hid (fun W => by
    have h := bytes_lit 0 0 0 0 ⟨#[]⟩ ⟨#[]⟩ 0 0 false [] none 0 0 0 W rfl ⟨Rd.nil, ⟨Nat.le_refl _, Nat.zero_le _⟩, zero_ok⟩ (Nat.zero_le _)
    rw [if_neg (show ¬ right ⟨0, 0, 0, 0, ⟨#[]⟩, ⟨#[]⟩, 0, 0, false, []⟩ = true from by rw [show right ⟨0, 0, 0, 0, ⟨#[]⟩, ⟨#[]⟩, 0, 0, false, []⟩ = false from zero_right]; simp)] at h
    exact h)
  have CR : Hid (∀ W, Calls Try.prog 28 #[.agg #[.int .u64 0, .int .u64 0, .int .u64 0, .int .u64 0, .string ⟨#[97]⟩, .string ⟨#[98]⟩, .int .i64 0, .int .i64 7, .bool false, .slice none 0 0]] W fun e w' => e = .returned (.bool true) ∧ Below W.heap.size W w') := Lib.hid (fun W => by
    have h := right_lit 0 0 0 0 ⟨#[97]⟩ ⟨#[98]⟩ 0 7 false [] none 0 0 0 W rfl ⟨Rd.nil, ⟨Nat.le_refl _, Nat.zero_le _⟩, ex3_ok⟩ (Nat.zero_le _)
    rw [show right ⟨0, 0, 0, 0, ⟨#[97]⟩, ⟨#[98]⟩, 0, 7, false, []⟩ = true from ex3_right] at h
    exact h)
  have HSP : Hid (Rm.span (enc ex3, false) = (ex3, ([], false))) := Lib.hid (by have h := Rm.span_put ex3_ok ex3_right []; rwa [List.append_nil] at h)
  have HL : Hid ((enc ex3).length = 12) := Lib.hid (by rw [HE.out]; rfl)
  have HB0 := Lib.hid ((Below.refl w.heap.size w).alloc (Nat.le_refl _) (.cells #[.int .u64 0, .int .u64 0, .int .u64 0, .int .u64 0, .string ⟨#[97]⟩, .string ⟨#[98]⟩, .int .i64 0, .int .i64 7, .bool false, .slice none 0 0] 36))
  have HX0 := Lib.hid (heap_alloc_new w (.cells #[.int .u64 0, .int .u64 0, .int .u64 0, .int .u64 0, .string ⟨#[97]⟩, .string ⟨#[98]⟩, .int .i64 0, .int .i64 7, .bool false, .slice none 0 0] 36))
  go_enter Try.func24, Try.ntmps24
  go_wp2_with fail
  generalize (w.alloc (.cells #[.int .u64 0, .int .u64 0, .int .u64 0, .int .u64 0, .string ⟨#[97]⟩, .string ⟨#[98]⟩, .int .i64 0, .int .i64 7, .bool false, .slice none 0 0] 36)) = W0 at *
  have hz0 : w.heap.size < W0.heap.size := in_heap HX0.out
  refine (CB.out W0).mono ?_
  rintro e w1 ⟨v1, rfl, ho1, hb1⟩
  obtain ⟨A1, c1, rfl, hc1, hr1⟩ := own_rd ho1
  have hcap := own_cap ho1
  have HX1 := Lib.hid ((hb1.block _ hz0).trans HX0.out)
  have HB1 := Lib.hid (HB0.out.trans (hb1.mono HB0.out.size))
  rw [HL.out] at hc1 hcap ⊢
  have RY := Lib.hid (read_yes A1 (enc ex3) [] 12 c1 w1.heap.size ex3 w1 HL.out.symm hr1 (Nat.le_refl _) ⟨hc1, by omega, hcap.2⟩ HSP.out)
  clear ho1 hb1 hcap hr1 hc1
  go_wp2_with fail
  refine RY.out.mono ?_
  rintro e w2 ⟨A2, c2, rfl, ho2, hb2⟩
  have hz1 : w.heap.size < w1.heap.size := in_heap HX1.out
  have HX2 := Lib.hid ((hb2.block _ hz1).trans HX1.out)
  have HB2 := Lib.hid (HB1.out.trans (hb2.mono HB1.out.size))
  clear RY ho2 hb2
  have hz2 : w.heap.size < w2.heap.size := in_heap HX2.out
  simp only [ex3, Ls.cells, List.length_nil]
  go_wp2_with fail
  have HX3 := Lib.hid ((heap_alloc_old w2 (.cells #[.int .u64 0, .int .u64 0, .int .u64 0, .int .u64 0, .string ⟨#[97]⟩, .string ⟨#[98]⟩, .int .i64 0, .int .i64 7, .bool false, .slice A2 0 c2] 36) hz2).trans HX2.out)
  have HY3 := Lib.hid (heap_alloc_new w2 (.cells #[.int .u64 0, .int .u64 0, .int .u64 0, .int .u64 0, .string ⟨#[97]⟩, .string ⟨#[98]⟩, .int .i64 0, .int .i64 7, .bool false, .slice A2 0 c2] 36))
  have HB3 := Lib.hid (HB2.out.alloc HB2.out.size (.cells #[.int .u64 0, .int .u64 0, .int .u64 0, .int .u64 0, .string ⟨#[97]⟩, .string ⟨#[98]⟩, .int .i64 0, .int .i64 7, .bool false, .slice A2 0 c2] 36))
  generalize w2.alloc (.cells #[.int .u64 0, .int .u64 0, .int .u64 0, .int .u64 0, .string ⟨#[97]⟩, .string ⟨#[98]⟩, .int .i64 0, .int .i64 7, .bool false, .slice A2 0 c2] 36) = w3 at *
  have hz3 : w2.heap.size < w3.heap.size := in_heap HY3.out
  refine (CZ.out w3).mono ?_
  rintro e w4 ⟨v4, rfl, ho4, hb4⟩
  obtain ⟨A4, c4, hv4, _, _⟩ := own_rd ho4
  have hv4' : v4 = .slice A4 0 c4 := hv4
  subst hv4'
  have HX4 := Lib.hid ((hb4.block _ (by omega)).trans HX3.out)
  have y7 : w4.cell? ⟨w2.heap.size, 7, none⟩ = some (.int .i64 7) := cell_of_row _ _ 7 _ _ (0, 0) ((hb4.block _ hz3).trans HY3.out)
  have HB4 := Lib.hid (HB3.out.trans (hb4.mono HB3.out.size))
  have b0 : w4.cell? ⟨w.heap.size, 0, none⟩ = some (.int .u64 0) := cell_of_row _ _ 0 _ _ (0, 0) HX4.out
  have b1 : w4.cell? ⟨w.heap.size, 1, none⟩ = some (.int .u64 0) := cell_of_row _ _ 1 _ _ (0, 0) HX4.out
  have b2 : w4.cell? ⟨w.heap.size, 2, none⟩ = some (.int .u64 0) := cell_of_row _ _ 2 _ _ (0, 0) HX4.out
  have b3 : w4.cell? ⟨w.heap.size, 3, none⟩ = some (.int .u64 0) := cell_of_row _ _ 3 _ _ (0, 0) HX4.out
  have b4 : w4.cell? ⟨w.heap.size, 4, none⟩ = some (.string ⟨#[97]⟩) := cell_of_row _ _ 4 _ _ (0, 0) HX4.out
  have b5 : w4.cell? ⟨w.heap.size, 5, none⟩ = some (.string ⟨#[98]⟩) := cell_of_row _ _ 5 _ _ (0, 0) HX4.out
  have b6 : w4.cell? ⟨w.heap.size, 6, none⟩ = some (.int .i64 0) := cell_of_row _ _ 6 _ _ (0, 0) HX4.out
  have b7 : w4.cell? ⟨w.heap.size, 7, none⟩ = some (.int .i64 7) := cell_of_row _ _ 7 _ _ (0, 0) HX4.out
  have b8 : w4.cell? ⟨w.heap.size, 8, none⟩ = some (.bool false) := cell_of_row _ _ 8 _ _ (0, 0) HX4.out
  have b9 : w4.cell? ⟨w.heap.size, 9, none⟩ = some (.slice none 0 0) := cell_of_row _ _ 9 _ _ (0, 0) HX4.out
  clear hv4 ho4 hb4 HX3 HY3 HX2 HX1 HX0
  go_wp2_with (first | (go_at_call 33; (with_reducible refine (num3_any _ _).mono ?_); rintro e w5 ⟨rfl, rfl⟩) | (go_at_call 28; (with_reducible refine (CR.out _).mono ?_); rintro e w6 ⟨rfl, hb6⟩; have HB6 := Lib.hid (HB4.out.trans (hb6.mono HB4.out.size)); clear hb6))
  go_ret
  exact ⟨rfl, HB6.out⟩
end Go.Proofs.Ythkclgkbidhmbaa
