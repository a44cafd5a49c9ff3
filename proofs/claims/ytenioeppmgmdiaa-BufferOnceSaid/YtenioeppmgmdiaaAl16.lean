/- Chapter 16's example. -/
import Derived.Test.YtenioeppmgmdiaaPb
import Derived.Test.YtenioeppmgmdiaaSe
namespace Go.Proofs.Ytenioeppmgmdiaa
open Go.RowKit
set_option linter.unusedVariables false
set_option linter.unusedSimpArgs false
set_option maxRecDepth 100000

theorem modE_nil : ModE [] := ⟨by simp, fun e he => by cases he⟩
theorem s5_ok : (⟨0, 0, 5, 0, ⟨#[]⟩, ⟨#[]⟩, 0, 0, false, []⟩ : Sp).ok := ⟨⟨by decide, by decide⟩, ⟨by decide, by decide⟩, ⟨by decide, by decide⟩, ⟨by decide, by decide⟩, by decide, by decide, ⟨by decide, by decide⟩, ⟨by decide, by decide⟩, by decide, fun a h => by cases h⟩
set_option maxHeartbeats 8000000 in
theorem alive16_calls (w : World) : Calls Try.prog 17 #[] w fun e w' => e = .returned (.bool true) ∧ Below w.heap.size w w' := by
  have HP : Hid (Calls Try.prog 27 #[.slice none 0 0, .agg #[.int .u64 0, .int .u64 0, .int .u64 5, .int .u64 0, .string ⟨#[]⟩, .string ⟨#[]⟩, .int .i64 0, .int .i64 0, .bool false, .slice none 0 0], .int .i64 3, .bool true] w (PutOf [⟨0, 0, 3, 3, true, [⟨0, 0, 5, 0, ⟨#[]⟩, ⟨#[]⟩, 0, 0, false, []⟩]⟩] w.heap.size w)) := Lib.hid (put_any none [] 0 0 0 0 5 0 ⟨#[]⟩ ⟨#[]⟩ 0 0 false [] none 0 0 3 true w.heap.size w rfl RdEps.nil (Nat.le_refl _) rfl ⟨Rd.nil, ⟨Nat.le_refl _, Nat.zero_le _⟩, s5_ok⟩ modE_nil (Nat.zero_le _))
  go_enter Try.func17, Try.ntmps17
  go_wp2_with fail
  refine HP.out.mono ?_
  rintro e w1 ⟨v1, l1, rfl, ho1, hm1, hb1⟩
  have hl1 : l1.length = 1 := by have := congrArg List.length hm1; simpa using this
  obtain ⟨e1, rfl⟩ : ∃ e1, l1 = [e1] := by
    match l1, hl1 with
    | [e1], _ => exact ⟨e1, rfl⟩
  obtain ⟨th, tl, f, la, su, ls, eA, ec⟩ := e1
  simp only [List.map_cons, List.map_nil, Le.ep, List.cons.injEq, Ep.mk.injEq, and_true] at hm1
  obtain ⟨rfl, rfl, rfl, rfl, rfl, hls⟩ := hm1
  have hll : ls.length = 1 := by have := congrArg List.length hls; simpa using this
  obtain ⟨A1, c1, hv1, hc1, hr1⟩ := ho1.rd
  obtain ⟨b, off, hA1, hbB, cx, _⟩ := eplain hr1 (k := 0) rfl
  subst hA1
  simp only [List.length_singleton] at hv1 hc1
  subst hv1
  have hmod : ModE [⟨0, 0, 3, 3, true, ls, eA, ec⟩] := ⟨by simp, fun e he => by
    rw [List.mem_singleton] at he
    subst he
    refine ⟨by simp only; omega, fun x hx => ?_⟩
    obtain ⟨y, rfl⟩ : ∃ y, ls = [y] := by
      match ls, hll with
      | [y], _ => exact ⟨y, rfl⟩
    rw [List.mem_singleton] at hx
    subst hx
    simp only [List.map_cons, List.map_nil, List.cons.injEq, and_true] at hls
    rw [hls]
    simp⟩
  have hc0 : cntE [⟨0, 0, 3, 3, true, ls, eA, ec⟩] = 1 := by simp [cntE, hll]
  have HR1 := Lib.hid hr1
  have HB1 := Lib.hid hb1
  have HMO := Lib.hid hmod
  have HC0 := Lib.hid hc0
  have x0 := cx 2 _ rfl
  have x1 := cx 4 _ rfl
  simp only [Nat.zero_mul, Nat.add_zero] at x0 x1
  have HX0 := Lib.hid x0
  have HX1 := Lib.hid x1
  clear x0 x1 cx hr1 hb1 ho1 hmod hc0 hls hll HP hc1
  have C0 := Lib.hid (count_any none [] 0 0 w1.heap.size w1 rfl RdEps.nil (Nat.le_refl _) modE_nil)
  have hl0 : cntE [] = 0 := rfl
  rw [hl0] at C0
  clear hl0
  go_wp2_with fail
  refine C0.out.mono ?_
  rintro e w2 ⟨rfl, hb2⟩
  have C1 := Lib.hid (count_any (some ⟨b, off, none⟩) _ 1 c1 w1.heap.size w2 rfl (HR1.out.below hb2) hb2.size HMO.out)
  rw [HC0.out] at C1
  have HB2 := Lib.hid (HB1.out.trans (hb2.mono HB1.out.size))
  have HX02 := Lib.hid ((hb2.cell (p := ⟨b, off + 2, none⟩) hbB).trans HX0.out)
  have HX12 := Lib.hid ((hb2.cell (p := ⟨b, off + 4, none⟩) hbB).trans HX1.out)
  have hbB2 : b < w2.heap.size := Nat.lt_of_lt_of_le hbB hb2.size
  clear hb2 C0 HX0 HX1
  have ad0 := addr_plain b off 0
  go_wp2_with fail
  refine C1.out.mono ?_
  rintro e w3 ⟨rfl, hb3⟩
  have HB3 := Lib.hid (HB2.out.trans (hb3.mono HB2.out.size))
  have x2 := (hb3.cell (p := ⟨b, off + 2, none⟩) hbB2).trans HX02.out
  have x4 := (hb3.cell (p := ⟨b, off + 4, none⟩) hbB2).trans HX12.out
  clear hb3 C1
  go_wp2_with fail
  go_ret
  exact ⟨rfl, HB3.out⟩
end Go.Proofs.Ytenioeppmgmdiaa
