/- What the code makes of two counters together. -/
import Derived.Test.YtobgnendfnmnpaaOf
import Derived.Deep.RegionHeld3
import Derived.Deep.DeepCutAuto
import Derived.StillTailTactics
import Derived.Lib.SmallJoins
import Derived.Deep.Heap
import Derived.BigQuiet
import Derived.Deep.QuietTactic
namespace Go.Proofs.Ytobgnendfnmnpaa
open Go.RowKit

set_option maxHeartbeats 1000000 in
theorem plus_any (a b : Int) (w : World) (ha : -9223372036854775808 ≤ a) (ha2 : a ≤ 9223372036854775807) (hb : -9223372036854775808 ≤ b) (hb2 : b ≤ 9223372036854775807) :
    Calls Try.prog 18 #[.int .i64 a, .int .i64 b] w fun e w' => e = .returned (.int .i64 (Bm.plus a b)) ∧ w = w' := by
  have h1 : 0 ≤ max a 0 := by omega
  have h2 : max a 0 ≤ 9223372036854775807 := by omega
  have h3 : 0 ≤ max b 0 := by omega
  have h4 : max b 0 ≤ 9223372036854775807 := by omega
  have HP : Hid (Bm.plus a b = if 9223372036854775807 - max b 0 < max a 0 then 9223372036854775807 else max a 0 + max b 0) := rfl
  go_enter Try.func18, Try.ntmps18
  go_wp2
  all_goals
    go_ret
    refine ⟨congrArg (fun x => Ending.returned (.int .i64 x)) ?_, rfl⟩
    show _ = Bm.plus a b
    rw [HP.out]
    split <;> omega

/-- A counter as a value: ten numbers. -/
def Cv (x : List Int) : Array Value := #[.int .i64 (x.getD 0 0), .int .i64 (x.getD 1 0), .int .i64 (x.getD 2 0), .int .i64 (x.getD 3 0), .int .i64 (x.getD 4 0), .int .i64 (x.getD 5 0), .int .i64 (x.getD 6 0), .int .i64 (x.getD 7 0), .int .i64 (x.getD 8 0), .int .i64 (x.getD 9 0)]
theorem Cv_size (x : List Int) : (Cv x).size = 10 := rfl
theorem Cv_at (x : List Int) (i : Nat) (h : i < 10) : (Cv x)[i]? = some (.int .i64 (x.getD i 0)) := by
  have : i = 0 ∨ i = 1 ∨ i = 2 ∨ i = 3 ∨ i = 4 ∨ i = 5 ∨ i = 6 ∨ i = 7 ∨ i = 8 ∨ i = 9 := by omega
  rcases this with rfl | rfl | rfl | rfl | rfl | rfl | rfl | rfl | rfl | rfl <;> rfl
def okC (x : List Int) : Prop := ∀ i, -9223372036854775808 ≤ x.getD i 0 ∧ x.getD i 0 ≤ 9223372036854775807
def joinC (x y : List Int) (m : Int) : List Int := (List.range 10).map fun i => Bm.top (x.getD i 0) (y.getD i 0) m

/-- The ten numbers behind k rounds. -/
def outA (t : Nat → Int) (k : Nat) : Array Value := (Array.range 10).map fun i => .int .i64 (if i < 2 + k then t i else 0)
theorem outA_at (t : Nat → Int) (k i : Nat) (h : i < 10) : (outA t k)[i]? = some (.int .i64 (if i < 2 + k then t i else 0)) := by simp [outA, h]
theorem outA_set (t : Nat → Int) (k : Nat) : (outA t k).setIfInBounds (2 + k) (.int .i64 (t (2 + k))) = outA t (k + 1) := by
  apply Array.ext_getElem?
  intro i
  by_cases hi : i < 10
  · rw [outA_at t (k + 1) i hi, Array.getElem?_setIfInBounds]
    by_cases h : 2 + k = i
    · subst h
      rw [if_pos rfl, if_pos (by simpa [outA] using hi), if_pos (by omega)]
    · rw [if_neg h, outA_at t k i hi]
      by_cases h2 : i < 2 + k
      · rw [if_pos h2, if_pos (by omega)]
      · rw [if_neg h2, if_neg (by omega)]
  · rw [Array.getElem?_eq_none (by simp [outA]; omega), Array.getElem?_eq_none (by simp [outA]; omega)]
theorem outA_zero (t : Nat → Int) : outA t 0 = #[.int .i64 (t 0), .int .i64 (t 1), .int .i64 0, .int .i64 0, .int .i64 0, .int .i64 0, .int .i64 0, .int .i64 0, .int .i64 0, .int .i64 0] := by
  unfold outA
  rw [show Array.range 10 = #[0, 1, 2, 3, 4, 5, 6, 7, 8, 9] from rfl]
  simp

/-- The cells of a block that was laid before others. -/
theorem cell_alloc_of {w : World} {cs : Array Value} {t : TypeId} (i : Nat) : (w.alloc (.cells cs t)).cell? ⟨w.heap.size, i, none⟩ = cs[i]? := cell_of_row _ _ i cs t (0, 0) (heap_alloc_new w _)

end Go.Proofs.Ytobgnendfnmnpaa
