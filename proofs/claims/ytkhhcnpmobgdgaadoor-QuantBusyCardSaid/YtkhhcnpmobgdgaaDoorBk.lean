/- Counters together: what is true of their numbers, whatever the program. -/
import Derived.Test.YtkhhcnpmobgdgaaDoorJoin
namespace Go.Proofs.YtkhhcnpmobgdgaaDoor
open Go.RowKit

theorem top_eq {a b m : Int} (_ha : a ≤ 9223372036854775807) (_hb : b ≤ 9223372036854775807) (hm : m ≤ 9223372036854775807) : Bm.top a b m = min (max a 0 + max b 0) (max m 0) := by
  unfold Bm.top Bm.plus
  split <;> omega
theorem join_at (x y : List Int) (m : Int) (i : Nat) (h : i < 10) : (joinC x y m).getD i 0 = Bm.top (x.getD i 0) (y.getD i 0) m := by simp [joinC, List.getD, h]
theorem join_off (x y : List Int) (m : Int) (i : Nat) (h : ¬ i < 10) : (joinC x y m).getD i 0 = 0 := by simp [joinC, List.getD, h]
theorem join_ok {x y : List Int} {m : Int} (hx : okC x) (hy : okC y) (hm : m ≤ 9223372036854775807) : okC (joinC x y m) := fun i => by
  by_cases h : i < 10
  · rw [join_at _ _ _ _ h, top_eq (hx i).2 (hy i).2 hm]
    omega
  · rw [join_off _ _ _ _ h]; omega
theorem join_neg_eq (x y : List Int) (m : Int) (h : m < 0) : joinC x y 0 = joinC x y m := by
  unfold joinC
  apply List.map_congr_left
  intro i _
  unfold Bm.top
  omega
theorem join_comm (x y : List Int) (m : Int) (hx : okC x) (hy : okC y) (hm : m ≤ 9223372036854775807) : joinC x y m = joinC y x m := by
  unfold joinC
  apply List.map_congr_left
  intro i _
  rw [top_eq (hx i).2 (hy i).2 hm, top_eq (hy i).2 (hx i).2 hm]
  omega
theorem join_assoc (x y z : List Int) (m : Int) (hx : okC x) (hy : okC y) (hz : okC z) (hm : m ≤ 9223372036854775807) : joinC (joinC x y m) z m = joinC x (joinC y z m) m := by
  show (List.range 10).map _ = (List.range 10).map _
  apply List.map_congr_left
  intro i hi
  have h : i < 10 := List.mem_range.mp hi
  have a1 := (hx i).2
  have a2 := (hy i).2
  have a3 := (hz i).2
  have e1 := top_eq a1 a2 hm
  have e2 := top_eq a2 a3 hm
  have b1 := (join_ok hx hy hm i).2
  have b2 := (join_ok hy hz hm i).2
  rw [join_at _ _ _ _ h] at b1 b2 ⊢
  rw [join_at _ _ _ _ h]
  rw [top_eq b1 a3 hm, top_eq a1 b2 hm, e1, e2]
  omega

end Go.Proofs.YtkhhcnpmobgdgaaDoor
