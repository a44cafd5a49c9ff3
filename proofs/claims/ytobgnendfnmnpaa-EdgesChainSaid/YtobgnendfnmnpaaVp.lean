/- edges.place: where an edge stands, or would stand. -/
import Derived.Test.YtobgnendfnmnpaaVia
import Derived.StillTailTactics
namespace Go.Proofs.Ytobgnendfnmnpaa
open Go.RowKit
set_option linter.unusedVariables false
set_option linter.unusedSimpArgs false
set_option maxRecDepth 100000

/-- What place answers. -/
def Placed (l : List Eg) (fr to : ByteArray) (i : Nat) (ok : Bool) : Prop :=
  (ok = true → (∃ x, l[i]? = some x ∧ ordG x fr to = 0)) ∧
  (ok = false → i ≤ l.length ∧ (∀ x ∈ l, ordG x fr to ≠ 0) ∧ (∀ j x, j < i → l[j]? = some x → ordG x fr to < 0) ∧ (∀ x, l[i]? = some x → 0 < ordG x fr to))
/-- What the loop holds: the place so far. -/
def PlaceI (l : List Eg) (fr to : ByteArray) (n k m : Nat) : Prop :=
  (∀ j x, j < k → l[j]? = some x → ordG x fr to ≠ 0) ∧ (∀ j x, j < k → j < m → l[j]? = some x → ordG x fr to < 0) ∧ (m = n ∨ (m < k ∧ ∃ x, l[m]? = some x ∧ 0 < ordG x fr to))
set_option maxHeartbeats 8000000 in
theorem place_any (A : Option Addr) (n c : Nat) (l : List Eg) (fr to : ByteArray) (B : Nat) (w : World) (hn : n = l.length) (hr : Rd w B A (l.flatMap Eg.cells)) (hB : B ≤ w.heap.size) (hsm : n ≤ 100000) :
    Calls Try.prog 16 #[.slice A n c, .string fr, .string to] w fun e w' => ∃ (i : Nat) (ok : Bool), e = .returned (.tuple #[.int .i64 i, .bool ok]) ∧ i ≤ n ∧ Placed l fr to i ok ∧ Below w.heap.size w w' := by
  have HR := Lib.hid hr
  have HN := Lib.hid hn
  clear hr hn
  go_enter Try.func16, Try.ntmps16
  go_wp2
  go_loopw [8, 16] (fun m i wr => ∃ (k mm : Nat), k ≤ n ∧ i = .int .i64 k ∧ m = .int .i64 mm ∧ mm ≤ n ∧ Hid (PlaceI l fr to n k mm) ∧ Hid (Below w.heap.size w wr)) (fun _ i _ => n - (intOf i).toNat)
  case atStart => exact ⟨0, n, Nat.zero_le _, rfl, rfl, Nat.le_refl _, Lib.hid ⟨fun j x hj => absurd hj (Nat.not_lt_zero j), fun j x hj => absurd hj (Nat.not_lt_zero j), Or.inl rfl⟩, Lib.hid (Below.refl _ _)⟩
  case round =>
    obtain ⟨k, mm, hk, rfl, rfl, hmm, HI, HB⟩ := hrel
    have hws := HB.out.size
    by_cases hlt : k < n
    · obtain ⟨x, hx⟩ : ∃ x, l[k]? = some x := ⟨l[k]'(by rw [← HN.out]; exact hlt), List.getElem?_eq_getElem _⟩
      obtain ⟨a, rfl, hab, hcc⟩ := eg_at (HR.out.keep (fun p hp => HB.out.cell (Nat.lt_of_lt_of_le hp hB))) hx
      have x0 : wr.cell? (a.add (k * 4)) = some (.string x.fr) := hcc 0 _ rfl
      have x1 : wr.cell? ⟨(a.add (k * 4)).block, (a.add (k * 4)).off + 1, none⟩ = some (.string x.to) := cell_far (hcc 1 _ rfl) (by decide)
      have x2 : wr.cell? ⟨(a.add (k * 4)).block, (a.add (k * 4)).off + 2, none⟩ = some (.int .i64 x.cn) := cell_far (hcc 2 _ rfl) (by decide)
      have x3 : wr.cell? ⟨(a.add (k * 4)).block, (a.add (k * 4)).off + 3, none⟩ = some (.int .i64 x.er) := cell_far (hcc 3 _ rfl) (by decide)
      have HXK := Lib.hid hx
      have i1 : (k : Int) < (n : Int) := by omega
      have i0 : (0 : Int) ≤ (k : Int) := by omega
      clear hcc hx
      go_upto_region 5 with fail
      have hq5 := heap_alloc_new wr (.cells #[.string x.fr, .string x.to, .int .i64 x.cn, .int .i64 x.er] 36)
      have HB5 := Lib.hid (HB.out.alloc hws (.cells #[.string x.fr, .string x.to, .int .i64 x.cn, .int .i64 x.er] 36))
      have hs5 : w.heap.size ≤ (wr.alloc (.cells #[.string x.fr, .string x.to, .int .i64 x.cn, .int .i64 x.er] 36)).heap.size := by simp; omega
      clear x0 x1 x2 x3
      have x0 : (wr.alloc (.cells #[.string x.fr, .string x.to, .int .i64 x.cn, .int .i64 x.er] 36)).cell? ⟨wr.heap.size, 0, none⟩ = some (.string x.fr) := cell_of_row _ _ 0 _ _ (0, 0) hq5
      have x1 : (wr.alloc (.cells #[.string x.fr, .string x.to, .int .i64 x.cn, .int .i64 x.er] 36)).cell? ⟨wr.heap.size, 1, none⟩ = some (.string x.to) := cell_of_row _ _ 1 _ _ (0, 0) hq5
      generalize wr.alloc (.cells #[.string x.fr, .string x.to, .int .i64 x.cn, .int .i64 x.er] 36) = w5 at *
      generalize wr.heap.size = gx at *
      clear hq5
      refine wp_region_still_tail 8 (by kernel_rfl) (by kernel_rfl) ?_
      simp only [List.take_succ_cons, List.take_zero, List.drop_succ_cons, List.drop_zero]
      still_step
      still_step
      still_step
      still_call (compare_calls _ _ _)
      still_step
      still_step
      still_step
      still_call (compare_calls _ _ _)
      try refine wpStill_nil ?_
      change wpList _ _ _ _ _ w5.drew
      have HB6 := Lib.hid (show Below w.heap.size w w5.drew from ⟨HB5.out.os, HB5.out.tape, HB5.out.output, HB5.out.size, HB5.out.block⟩)
      have hs6 : w.heap.size ≤ w5.drew.heap.size := hs5
      clear x0 x1 HB5 hs5
      generalize w5.drew = w6 at *
      have ORC := Lib.hid (or_calls (cmpT x.fr fr) (cmpT x.to to) w6.heap.size (w6.alloc (.cells #[.int .i64 (cmpT x.fr fr), .int .i64 (cmpT x.to to)] 3)) (cell_of_row _ _ 0 _ _ (0, 0) (heap_alloc_new w6 _)) (cell_of_row _ _ 1 _ _ (0, 0) (heap_alloc_new w6 _)))
      have hord : (if cmpT x.fr fr = 0 then cmpT x.to to else cmpT x.fr fr) = ordG x fr to := rfl
      rw [hord] at ORC
      have HB7 := Lib.hid (HB6.out.alloc hs6 (.cells #[.int .i64 (cmpT x.fr fr), .int .i64 (cmpT x.to to)] 3))
      obtain ⟨o, ho⟩ : ∃ o, o = ordG x fr to := ⟨_, rfl⟩
      rw [← ho] at ORC
      have HOO := Lib.hid ho
      clear hord ho
      by_cases o0 : o = 0
      · subst o0
        have HPL := Lib.hid (show Placed l fr to k true from ⟨fun _ => ⟨x, HXK.out, HOO.out.symm⟩, fun h => by cases h⟩)
        go_wp2_with (go_at_call 20; (with_reducible refine ORC.out.mono ?_); rintro ex w9 ⟨rfl, hw9⟩; subst w9)
        go_ret2
        exact ⟨k, true, rfl, hk, HPL.out, HB7.out⟩
      · have d0 : (o == 0) = false := by simpa using o0
        by_cases op : 0 < o
        · have d1 : decide (0 < o) = true := decide_eq_true op
          by_cases hm : mm = n
          · have d2 : ((mm : Int) == (n : Int)) = true := by rw [beq_iff_eq]; omega
            have HI2 : Hid (PlaceI l fr to n (k + 1) k) := Lib.hid ⟨fun j y hj hy => by
              rcases Nat.lt_or_ge j k with h | h
              · exact HI.out.1 j y h hy
              · obtain rfl : j = k := by omega
                rw [HXK.out] at hy; injection hy with hy; rw [← hy, ← HOO.out]; exact o0, fun j y hj hjk hy => HI.out.2.1 j y hjk (by omega) hy, Or.inr ⟨Nat.lt_succ_self _, x, HXK.out, by rw [← HOO.out]; exact op⟩⟩
            go_wp2_with (go_at_call 20; (with_reducible refine ORC.out.mono ?_); rintro ex w9 ⟨rfl, hw9⟩; subst w9)
            go_roundw
            case rel => exact ⟨k + 1, k, by omega, by go_num, rfl, by omega, HI2, HB7⟩
            case measure => simp [intOf]; omega
          · have d2 : ((mm : Int) == (n : Int)) = false := by simp; omega
            have hmk : mm < k := by
              rcases HI.out.2.2 with h | h
              · exact absurd h hm
              · exact h.1
            have HI2 : Hid (PlaceI l fr to n (k + 1) mm) := Lib.hid ⟨fun j y hj hy => by
              rcases Nat.lt_or_ge j k with h | h
              · exact HI.out.1 j y h hy
              · obtain rfl : j = k := by omega
                rw [HXK.out] at hy; injection hy with hy; rw [← hy, ← HOO.out]; exact o0, fun j y hj hjk hy => HI.out.2.1 j y (by omega) hjk hy, by
              rcases HI.out.2.2 with h | h
              · exact Or.inl h
              · exact Or.inr ⟨by omega, h.2⟩⟩
            go_wp2_with (go_at_call 20; (with_reducible refine ORC.out.mono ?_); rintro ex w9 ⟨rfl, hw9⟩; subst w9)
            go_roundw
            case rel => exact ⟨k + 1, mm, by omega, by go_num, rfl, hmm, HI2, HB7⟩
            case measure => simp [intOf]; omega
        · have d1 : decide (0 < o) = false := decide_eq_false op
          have HI2 : Hid (PlaceI l fr to n (k + 1) mm) := Lib.hid ⟨fun j y hj hy => by
            rcases Nat.lt_or_ge j k with h | h
            · exact HI.out.1 j y h hy
            · obtain rfl : j = k := by omega
              rw [HXK.out] at hy; injection hy with hy; rw [← hy, ← HOO.out]; exact o0, fun j y hj hjk hy => by
            rcases Nat.lt_or_ge j k with h | h
            · exact HI.out.2.1 j y h hjk hy
            · obtain rfl : j = k := by omega
              rw [HXK.out] at hy; injection hy with hy; rw [← hy, ← HOO.out]; omega, by
            rcases HI.out.2.2 with h | h
            · exact Or.inl h
            · exact Or.inr ⟨by omega, h.2⟩⟩
          go_wp2_with (go_at_call 20; (with_reducible refine ORC.out.mono ?_); rintro ex w9 ⟨rfl, hw9⟩; subst w9)
          go_roundw
          case rel => exact ⟨k + 1, mm, by omega, by go_num, rfl, hmm, HI2, HB7⟩
          case measure => simp [intOf]; omega
    · obtain rfl : k = n := by omega
      have hnn := HN.out
      have hp1 : ∀ y ∈ l, ordG y fr to ≠ 0 := fun y hy => by
        obtain ⟨j, hj⟩ := List.getElem?_of_mem hy
        have hjl := (List.getElem?_eq_some_iff.1 hj).1
        exact HI.out.1 j y (by omega) hj
      have hp2 : ∀ j y, j < mm → l[j]? = some y → ordG y fr to < 0 := fun j y hj hy => HI.out.2.1 j y (by omega) hj hy
      have hp3 : ∀ y, l[mm]? = some y → 0 < ordG y fr to := fun y hy => by
        rcases HI.out.2.2 with h | ⟨h, z, hz, hz2⟩
        · rw [List.getElem?_eq_none (by omega)] at hy; cases hy
        · rw [hz] at hy; injection hy with hy; rw [← hy]; exact hz2
      have HPL := Lib.hid (show Placed l fr to mm false from ⟨(fun h => by cases h), fun _ => ⟨by omega, hp1, hp2, hp3⟩⟩)
      clear hnn hp1 hp2 hp3
      go_wp2_with fail
      go_ret2
      exact ⟨mm, false, rfl, hmm, HPL.out, HB.out⟩
end Go.Proofs.Ytobgnendfnmnpaa
