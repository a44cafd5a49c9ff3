/- Chapter 11's example. -/
import Derived.Test.YtobgnendfnmnpaaVs
namespace Go.Proofs.Ytobgnendfnmnpaa
open Go.RowKit
set_option linter.unusedVariables false
set_option linter.unusedSimpArgs false
set_option maxRecDepth 100000

def exA : Ls := ⟨⟨0, 0, 1, 0, ⟨#[97]⟩, ⟨#[120]⟩, 0, 0, false, []⟩, none, 0⟩
def exB : Ls := ⟨⟨0, 0, 2, 1, ⟨#[98]⟩, ⟨#[120]⟩, 0, 0, true, []⟩, none, 0⟩
theorem exA_ok : exA.s.ok := ⟨⟨by decide, by decide⟩, ⟨by decide, by decide⟩, ⟨by decide, by decide⟩, ⟨by decide, by decide⟩, by decide, by decide, ⟨by decide, by decide⟩, ⟨by decide, by decide⟩, by decide, fun a h => by cases h⟩
theorem exB_ok : exB.s.ok := ⟨⟨by decide, by decide⟩, ⟨by decide, by decide⟩, ⟨by decide, by decide⟩, ⟨by decide, by decide⟩, by decide, by decide, ⟨by decide, by decide⟩, ⟨by decide, by decide⟩, by decide, fun a h => by cases h⟩
theorem exAB_calls : callsK [exA, exB] 2 = [(⟨#[97]⟩, ⟨#[98]⟩, true)] := by decide +kernel
theorem exAB_one {M : List Eg} (h : CA 9 [] [(⟨#[97]⟩, ⟨#[98]⟩, true)] M) : M = [⟨⟨#[97]⟩, ⟨#[98]⟩, 1, 1⟩] := by
  have h1 := Tally.steps (most := 9) (by decide) (Tally.nil 9) (by simp) h
  have hc : Counted [] ⟨#[97]⟩ ⟨#[98]⟩ 9 true [⟨⟨#[97]⟩, ⟨#[98]⟩, 1, 1⟩] := ⟨0, false, ⟨⟨#[97]⟩, ⟨#[98]⟩, 0, 0⟩, Nat.le_refl _, ⟨fun h => (by cases h), fun _ => ⟨Nat.le_refl _, (fun x h => (by cases h)), (fun j x hj => absurd hj (Nat.not_lt_zero j)), (fun x h => (by cases h))⟩⟩, rfl, rfl⟩
  have h2 := Tally.step (most := 9) (Tally.nil 9) (by decide) (by simp) hc
  exact Tally.same h1 h2 (fun _ _ => rfl) (fun _ _ => rfl)
set_option maxHeartbeats 8000000 in
theorem alive11_calls (w : World) : Calls Try.prog 5 #[] w fun e w' => e = .returned (.bool true) ∧ Below w.heap.size w w' := by
  have hA : RdSps (w.alloc (.cells #[.int .u64 0, .int .u64 0, .int .u64 1, .int .u64 0, .string { data := #[97] }, .string { data := #[120] }, .int .i64 0, .int .i64 0, .bool false, .slice none 0 0, .int .u64 0, .int .u64 0, .int .u64 2, .int .u64 1, .string { data := #[98] }, .string { data := #[120] }, .int .i64 0, .int .i64 0, .bool true, .slice none 0 0] 33)) (w.heap.size + 1) (some ⟨w.heap.size, 0, none⟩) [exA, exB] := ⟨Rd.lit w #[.int .u64 0, .int .u64 0, .int .u64 1, .int .u64 0, .string { data := #[97] }, .string { data := #[120] }, .int .i64 0, .int .i64 0, .bool false, .slice none 0 0, .int .u64 0, .int .u64 0, .int .u64 2, .int .u64 1, .string { data := #[98] }, .string { data := #[120] }, .int .i64 0, .int .i64 0, .bool true, .slice none 0 0] _, fun x hx => by
    simp only [List.mem_cons, List.not_mem_nil, or_false] at hx
    rcases hx with rfl | rfl
    · exact ⟨Rd.nil, ⟨Nat.le_refl _, Nat.zero_le _⟩, exA_ok⟩
    · exact ⟨Rd.nil, ⟨Nat.le_refl _, Nat.zero_le _⟩, exB_ok⟩⟩
  have A1 := Lib.hid (add_any none 0 0 [] (some ⟨w.heap.size, 0, none⟩) 2 2 [exA, exB] 9 9 (w.heap.size + 1) (w.alloc (.cells #[.int .u64 0, .int .u64 0, .int .u64 1, .int .u64 0, .string { data := #[97] }, .string { data := #[120] }, .int .i64 0, .int .i64 0, .bool false, .slice none 0 0, .int .u64 0, .int .u64 0, .int .u64 2, .int .u64 1, .string { data := #[98] }, .string { data := #[120] }, .int .i64 0, .int .i64 0, .bool true, .slice none 0 0] 33)) rfl Rd.nil (by decide) (fun y h => by cases h) rfl hA (by simp) (by decide) (by decide) ⟨by decide, by decide⟩)
  have HW := Lib.hid ((Below.refl w.heap.size w).alloc (Nat.le_refl _) (.cells #[.int .u64 0, .int .u64 0, .int .u64 1, .int .u64 0, .string { data := #[97] }, .string { data := #[120] }, .int .i64 0, .int .i64 0, .bool false, .slice none 0 0, .int .u64 0, .int .u64 0, .int .u64 2, .int .u64 1, .string { data := #[98] }, .string { data := #[120] }, .int .i64 0, .int .i64 0, .bool true, .slice none 0 0] 33))
  have A2 := Lib.hid (fun W => add_any none 0 0 [] none 0 0 [] 9 9 0 W rfl Rd.nil (by decide) (fun y h => by cases h) rfl RdSps.nil (Nat.zero_le _) (by decide) (by decide) ⟨by decide, by decide⟩)
  clear hA
  go_enter Try.func5, Try.ntmps5
  go_upto_region 2 with (go_at_call 7; (with_reducible refine A1.out.mono ?_); rintro ex w1 ⟨A', n', c', M, rfl, hn, _, hc, _, ho, hb⟩; have HN := Lib.hid hn; have HC := Lib.hid hc; have HO := Lib.hid ho; have HB := Lib.hid (HW.out.trans (hb.mono (by simp))); clear hn hc ho hb)
  have hM := exAB_one (by have := HC.out; rwa [exAB_calls] at this)
  subst hM
  have hn1 : n' = 1 := HN.out
  subst hn1
  obtain ⟨g2, rfl, _, _, _, _, _, _⟩ := own_parts HO.out (by omega)
  go_wp2_with (go_at_call 7; (with_reducible refine (A2.out _).mono ?_); rintro ex w2 ⟨A2', n2, c2, M2, rfl, hn2, hl2, hc2, _, _, hb2⟩; cases hc2; have hn3 : n2 = 0 := hn2; subst hn3; have HB2 := Lib.hid hb2; have HO2 := own_below HO.out hb2; obtain ⟨_, c0, _, _⟩ := own_setq HO2 (i := 0) (by omega) (.bool true); obtain ⟨_, c1, _, _⟩ := own_setq HO2 (i := 1) (by omega) (.bool true); obtain ⟨_, c2, _, _⟩ := own_setq HO2 (i := 2) (by omega) (.bool true); obtain ⟨_, c3, _, _⟩ := own_setq HO2 (i := 3) (by omega) (.bool true); simp [Eg.cells] at c0 c1 c2 c3; clear hn2 hl2 hb2 HO2)
  go_ret
  exact ⟨rfl, HB.out.trans (HB2.out.mono HB.out.size)⟩
end Go.Proofs.Ytobgnendfnmnpaa
