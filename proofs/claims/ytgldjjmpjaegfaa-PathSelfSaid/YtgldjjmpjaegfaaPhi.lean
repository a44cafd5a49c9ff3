/- Chapter 30's example. -/
import Derived.Test.YtgldjjmpjaegfaaPhf
namespace Go.Proofs.Ytgldjjmpjaegfaa
open Go.RowKit Go.Maps
set_option linter.unusedVariables false
set_option linter.unusedSimpArgs false
set_option maxRecDepth 100000

def spA (a b st du : Int) : Ls := ⟨⟨0, 0, a, b, ⟨#[97]⟩, ⟨#[98]⟩, st, du, false, []⟩, none, 0⟩
theorem spA_ok (a b st du : Int) (ha : 0 ≤ a ∧ a ≤ 18446744073709551615) (hb : 0 ≤ b ∧ b ≤ 18446744073709551615) (hs : -9223372036854775808 ≤ st ∧ st ≤ 9223372036854775807) (hd : -9223372036854775808 ≤ du ∧ du ≤ 9223372036854775807) : (spA a b st du).s.ok := ⟨⟨Int.le_refl _, by simp [spA]⟩, ⟨Int.le_refl _, by simp [spA]⟩, ha, hb, (show (1 : Nat) ≤ _ by decide), (show (1 : Nat) ≤ _ by decide), hs, hd, ⟨Nat.zero_le _, fun _ h => by cases h⟩⟩
theorem spA_rd (w : World) (B : Nat) (a b st du : Int) (ha : 0 ≤ a ∧ a ≤ 18446744073709551615) (hb : 0 ≤ b ∧ b ≤ 18446744073709551615) (hs : -9223372036854775808 ≤ st ∧ st ≤ 9223372036854775807) (hd : -9223372036854775808 ≤ du ∧ du ≤ 9223372036854775807) : RdL w B (spA a b st du) := ⟨Rd.nil, ⟨Nat.le_refl _, Nat.zero_le _⟩, spA_ok a b st du ha hb hs hd⟩
theorem spA_right {a b st du : Int} (h1 : 0 ≤ st ∧ st ≤ 1099511627776) (h2 : 0 ≤ du ∧ du ≤ 1073741824) : right (spA a b st du).s = true := by
  have e1 : nameB ⟨#[97]⟩ = true := by decide
  have e2 : nameB ⟨#[98]⟩ = true := by decide
  have e3 : rightAts [] = true := by decide
  unfold right spA
  simp only [e1, e2, e3, Bool.true_and, Bool.and_true, Bool.and_eq_true, decide_eq_true_eq]
  exact ⟨h1.1, h1.2, h2.1, h2.2⟩
def l30 : List Ls := [spA 1 9 2 700, spA 2 1 2 300]
theorem l30_right : (l30.all fun x => right x.s) = true := by
  rw [List.all_eq_true]
  intro x hx
  simp only [l30, List.mem_cons, List.not_mem_nil, or_false] at hx
  rcases hx with rfl | rfl <;> exact spA_right (by decide) (by decide)
theorem par01 {P : List Int} (h : Sy.ParOf [-1, 0] P) : P = [-1, 0] := by
  have h0 : ¬ Sy.LR (Sy.pf [-1, 0]) 0 := fun hl => by
    obtain ⟨u, hu⟩ := Sy.ring_some hl.1 1
    have : Sy.it (Sy.pf [-1, 0]) 1 0 = none := by decide
    rw [this] at hu; cases hu
  have h1 : ¬ Sy.LR (Sy.pf [-1, 0]) 1 := fun hl => by
    obtain ⟨u, hu⟩ := Sy.ring_some hl.1 2
    have : Sy.it (Sy.pf [-1, 0]) 2 1 = none := by decide
    rw [this] at hu; cases hu
  apply List.ext_getElem?
  intro j
  match j with
  | 0 => exact (h.2 0).2 h0
  | 1 => exact (h.2 1).2 h1
  | j + 2 =>
    have hl : P.length = 2 := h.1
    rw [List.getElem?_eq_none (by omega), List.getElem?_eq_none (by simp)]
theorem l30_named : namedM l30 = [-1, 0] := by decide
theorem l30_bys : Bys l30 [0, 1] := by
  refine ⟨?_, fun x => ?_, rfl⟩
  · rw [List.pairwise_cons]
    refine ⟨fun b hb => ?_, List.pairwise_singleton _ _⟩
    rw [List.mem_singleton] at hb
    subst hb
    exact .inr ⟨rfl, by decide⟩
  · have e : l30.length = 2 := rfl
    rw [e]
    simp only [List.mem_cons, List.not_mem_nil, or_false]
    omega
theorem l30_fo {P : List Int} {M O : List Nat} (h : Sy.Fo l30 2 P M O) : P = [-1, 0] ∧ M = [0, 1] := ⟨par01 (by rw [← l30_named]; exact h.par), Sy.bys_eq h.bys l30_bys⟩
theorem l30_crit {X : List Nat} (h : CritOf l30 2 X) : X = [0, 1] := by
  rcases h with ⟨h1, _⟩ | ⟨_, P, M, O, hF, h2⟩
  · rw [l30_right] at h1; cases h1
  · obtain ⟨e1, e2⟩ := l30_fo hF
    subst e1 e2
    rw [h2]; rfl
theorem nil_crit {X : List Nat} (h : CritOf [] 0 X) : X = [] := by
  rcases h with ⟨_, h2⟩ | ⟨_, P, M, O, hF, h2⟩
  · exact h2
  · have hM : M = [] := List.eq_nil_iff_forall_not_mem.2 fun x hx => by have := (hF.all.mem x).1 hx; omega
    rw [h2, hM]; rfl
theorem l30_self {s : Int} (h : SelfIs l30 2 0 s) : s = 400 := by
  rcases h with ⟨h1, _⟩ | ⟨k, hk, _, _, P, M, O, hF, h2⟩
  · rcases h1 with h | h | h
    · omega
    · omega
    · rw [l30_right] at h; cases h
  · obtain ⟨e1, e2⟩ := l30_fo hF
    have hk0 : k = 0 := by omega
    subst e1 e2 hk0
    have r0 : right (spA 1 9 2 700).s = true := spA_right (by decide) (by decide)
    have r1 : right (spA 2 1 2 300).s = true := spA_right (by decide) (by decide)
    have b0 : Bn l30 0 = 2000 := by rw [Bn_at (x := spA 1 9 2 700) rfl]; unfold endB; rw [if_pos r0]; rfl
    have n0 : En l30 0 = 2700 := by rw [En_at (x := spA 1 9 2 700) rfl]; unfold endE; rw [if_pos r0]; rfl
    have b1 : Bn l30 1 = 2000 := by rw [Bn_at (x := spA 2 1 2 300) rfl]; unfold endB; rw [if_pos r1]; rfl
    have n1 : En l30 1 = 2300 := by rw [En_at (x := spA 2 1 2 300) rfl]; unfold endE; rw [if_pos r1]; rfl
    have hk : kidI l30 [-1, 0] 2 [0, 1] 0 = [(2000, 2300)] := by
      show [(Bn l30 1, En l30 1)] = _
      rw [b1, n1]
    rw [h2, hk, b0, n0, Sy.CI_cut (by decide) (by decide), if_neg (by decide), Int.natCast_add, Sy.CI_nil, Sy.CI_nil]
    decide
set_option maxHeartbeats 8000000 in
theorem alive30_calls (w : World) : Calls Try.prog 21 #[] w fun e w' => e = .returned (.bool true) ∧ Below w.heap.size w w' := by
  obtain ⟨g1, hg1⟩ : ∃ g1, g1 = w.heap.size := ⟨_, rfl⟩
  have hrd : RdSps (w.alloc (.cells #[.int .u64 0, .int .u64 0, .int .u64 1, .int .u64 9, .string ⟨#[97]⟩, .string ⟨#[98]⟩, .int .i64 2, .int .i64 700, .bool false, .slice none 0 0, .int .u64 0, .int .u64 0, .int .u64 2, .int .u64 1, .string ⟨#[97]⟩, .string ⟨#[98]⟩, .int .i64 2, .int .i64 300, .bool false, .slice none 0 0] 34)) (w.heap.size + 1) (some ⟨w.heap.size, 0, none⟩) l30 := ⟨Rd.lit w #[.int .u64 0, .int .u64 0, .int .u64 1, .int .u64 9, .string ⟨#[97]⟩, .string ⟨#[98]⟩, .int .i64 2, .int .i64 700, .bool false, .slice none 0 0, .int .u64 0, .int .u64 0, .int .u64 2, .int .u64 1, .string ⟨#[97]⟩, .string ⟨#[98]⟩, .int .i64 2, .int .i64 300, .bool false, .slice none 0 0] 34, fun x hx => by
    simp only [l30, List.mem_cons, List.not_mem_nil, or_false] at hx
    rcases hx with rfl | rfl <;> exact spA_rd _ _ _ _ _ _ (by omega) (by omega) (by omega) (by omega)⟩
  have hC := heap_alloc_new w (.cells #[.int .u64 0, .int .u64 0, .int .u64 1, .int .u64 9, .string ⟨#[97]⟩, .string ⟨#[98]⟩, .int .i64 2, .int .i64 700, .bool false, .slice none 0 0, .int .u64 0, .int .u64 0, .int .u64 2, .int .u64 1, .string ⟨#[97]⟩, .string ⟨#[98]⟩, .int .i64 2, .int .i64 300, .bool false, .slice none 0 0] 34)
  have hB := (Below.refl w.heap.size w).alloc (Nat.le_refl _) (.cells #[.int .u64 0, .int .u64 0, .int .u64 1, .int .u64 9, .string ⟨#[97]⟩, .string ⟨#[98]⟩, .int .i64 2, .int .i64 700, .bool false, .slice none 0 0, .int .u64 0, .int .u64 0, .int .u64 2, .int .u64 1, .string ⟨#[97]⟩, .string ⟨#[98]⟩, .int .i64 2, .int .i64 300, .bool false, .slice none 0 0] 34)
  have hs : (w.alloc (.cells #[.int .u64 0, .int .u64 0, .int .u64 1, .int .u64 9, .string ⟨#[97]⟩, .string ⟨#[98]⟩, .int .i64 2, .int .i64 700, .bool false, .slice none 0 0, .int .u64 0, .int .u64 0, .int .u64 2, .int .u64 1, .string ⟨#[97]⟩, .string ⟨#[98]⟩, .int .i64 2, .int .i64 300, .bool false, .slice none 0 0] 34)).heap.size = w.heap.size + 1 := by simp
  obtain ⟨w1, hw1⟩ : ∃ w1, w1 = w.alloc (.cells #[.int .u64 0, .int .u64 0, .int .u64 1, .int .u64 9, .string ⟨#[97]⟩, .string ⟨#[98]⟩, .int .i64 2, .int .i64 700, .bool false, .slice none 0 0, .int .u64 0, .int .u64 0, .int .u64 2, .int .u64 1, .string ⟨#[97]⟩, .string ⟨#[98]⟩, .int .i64 2, .int .i64 300, .bool false, .slice none 0 0] 34) := ⟨_, rfl⟩
  rw [← hw1] at hrd hC hB hs
  have HRD := Lib.hid (show RdSps w1 w1.heap.size (some ⟨g1, 0, none⟩) l30 from by rw [hs, hg1]; exact hrd)
  have HC := Lib.hid (show w1.heap[g1]? = some (.cells #[.int .u64 0, .int .u64 0, .int .u64 1, .int .u64 9, .string ⟨#[97]⟩, .string ⟨#[98]⟩, .int .i64 2, .int .i64 700, .bool false, .slice none 0 0, .int .u64 0, .int .u64 0, .int .u64 2, .int .u64 1, .string ⟨#[97]⟩, .string ⟨#[98]⟩, .int .i64 2, .int .i64 300, .bool false, .slice none 0 0] 34 (0, 0)) from by rw [hg1]; exact hC)
  have HB := Lib.hid hB
  have HW1 := Lib.hid hw1
  have HG1 := Lib.hid hg1
  have HSB := Lib.hid (show w.heap.size ≤ w1.heap.size from by omega)
  clear hrd hC hB hs hw1 hg1
  have q0 : w1.cell? ⟨g1, 0, none⟩ = some (.int .u64 0) := cell_of_row _ _ 0 _ _ (0, 0) HC.out
  have q1 : w1.cell? ⟨g1, 1, none⟩ = some (.int .u64 0) := cell_of_row _ _ 1 _ _ (0, 0) HC.out
  have q2 : w1.cell? ⟨g1, 2, none⟩ = some (.int .u64 1) := cell_of_row _ _ 2 _ _ (0, 0) HC.out
  have q3 : w1.cell? ⟨g1, 3, none⟩ = some (.int .u64 9) := cell_of_row _ _ 3 _ _ (0, 0) HC.out
  have q4 : w1.cell? ⟨g1, 4, none⟩ = some (.string ⟨#[97]⟩) := cell_of_row _ _ 4 _ _ (0, 0) HC.out
  have q5 : w1.cell? ⟨g1, 5, none⟩ = some (.string ⟨#[98]⟩) := cell_of_row _ _ 5 _ _ (0, 0) HC.out
  have q6 : w1.cell? ⟨g1, 6, none⟩ = some (.int .i64 2) := cell_of_row _ _ 6 _ _ (0, 0) HC.out
  have q7 : w1.cell? ⟨g1, 7, none⟩ = some (.int .i64 700) := cell_of_row _ _ 7 _ _ (0, 0) HC.out
  have q8 : w1.cell? ⟨g1, 8, none⟩ = some (.bool false) := cell_of_row _ _ 8 _ _ (0, 0) HC.out
  have q9 : w1.cell? ⟨g1, 9, none⟩ = some (.slice none 0 0) := cell_of_row _ _ 9 _ _ (0, 0) HC.out
  have EC := Lib.hid (ends_lit 0 0 1 9 ⟨#[97]⟩ ⟨#[98]⟩ 2 700 false [] none 0 0 w1.heap.size w1 rfl (spA_rd _ _ 1 9 2 700 (by omega) (by omega) (by omega) (by omega)) (Nat.le_refl _))
  have hE : endB (spA 1 9 2 700).s = 2000 ∧ endE (spA 1 9 2 700).s = 2700 := by
    have r0 : right (spA 1 9 2 700).s = true := spA_right (by decide) (by decide)
    unfold endB endE
    rw [if_pos r0, if_pos r0]
    exact ⟨rfl, rfl⟩
  have hE2 : endB ⟨0, 0, 1, 9, ⟨#[97]⟩, ⟨#[98]⟩, 2, 700, false, []⟩ = 2000 ∧ endE ⟨0, 0, 1, 9, ⟨#[97]⟩, ⟨#[98]⟩, 2, 700, false, []⟩ = 2700 := hE
  rw [hE2.1, hE2.2] at EC
  clear hE hE2
  have KC := fun (W : World) (h : Below w1.heap.size w1 W) => Lib.hid (critical_any l30 (some ⟨g1, 0, none⟩) 2 2 w1.heap.size W (HRD.out.below h) h.size rfl (by omega))
  have NC := fun (W : World) => Lib.hid (critical_any [] none 0 0 0 W RdSps.nil (Nat.zero_le _) rfl (by omega))
  have SC := fun (W : World) (h : Below w1.heap.size w1 W) => Lib.hid (self_any l30 (some ⟨g1, 0, none⟩) 2 2 w1.heap.size 0 W (HRD.out.below h) h.size rfl (by omega))
  go_enter Try.func21, Try.ntmps21
  go_upto_region 2 with fail
  rw [← HW1.out, ← HG1.out]
  go_upto_region 3 with (go_at_call 23; (with_reducible refine EC.out.mono ?_); rintro ex w2 ⟨rfl, hb2⟩; have HB2 := Lib.hid hb2; clear hb2)
  clear EC q0 q1 q2 q3 q4 q5 q6 q7 q8 q9
  go_upto_region 4 with (go_at_call 25; (with_reducible refine (KC _ HB2.out).out.mono ?_); rintro ex w3 ⟨A3, q, c3, X, rfl, hq3, _, hx3, ho3, hb3⟩; obtain rfl := l30_crit hx3; obtain rfl : q = 2 := hq3; have HO3 := Lib.hid ho3; have HB3 := Lib.hid (HB2.out.trans (hb3.mono HB2.out.size)); clear hx3 ho3 hb3)
  clear KC
  obtain ⟨g3, rfl, _, _, _, _, _, _⟩ := own_parts HO3.out (by omega)
  go_wp2_with (first
    | (go_at_call 25; (with_reducible refine (NC _).out.mono ?_); rintro ex w4 ⟨A4, q4, c4, X4, rfl, hq4, _, hx4, _, hb4⟩; obtain rfl := nil_crit hx4; obtain rfl : q4 = 0 := hq4; obtain ⟨p1, _⟩ := own_atN (own_below HO3.out hb4) (i := 1) (x := 1) rfl; have HB4 := Lib.hid (HB3.out.trans (hb4.mono HB3.out.size)); clear hx4 hb4)
    | (go_at_call 27; (with_reducible refine (SC _ HB4.out).out.mono ?_); rintro ex w5 ⟨s, rfl, hs5, hb5⟩; obtain rfl := l30_self hs5; have HB5 := Lib.hid (HB4.out.trans (hb5.mono HB4.out.size)); clear hs5 hb5))
  go_ret
  refine ⟨by simp, HB.out.trans (HB5.out.mono HSB.out)⟩
end Go.Proofs.Ytgldjjmpjaegfaa
