/- Chapter 15's first law, walked. -/
import Derived.Test.YthkclgkbidhmbaaOn
namespace Go.Proofs.Ythkclgkbidhmbaa
open Go.RowKit Go.Maps
set_option linter.unusedVariables false
set_option maxRecDepth 100000

set_option maxHeartbeats 8000000 in
theorem once_out (A : Option Addr) (n c : Nat) (per th tl : Int) (w : World) (ho : 60 < n ∨ per < 1 ∨ 20 < per) :
    Calls Try.prog 9 #[.slice A n c, .int .i64 per, .agg #[.int .u64 th, .int .u64 tl]] w fun e w' => e = .returned (.bool true) ∧ Below w.heap.size w w' := by
  have AL := fun W => Lib.hid (alive15_calls W)
  have hc : (60 : Int) < n ∨ ((n : Int) ≤ 60 ∧ per < 1) ∨ ((n : Int) ≤ 60 ∧ 1 ≤ per ∧ 20 < per) := by omega
  clear ho
  rcases hc with g1 | ⟨g1, g2⟩ | ⟨g1, g2, g3⟩
  all_goals
    go_enter Try.func9, Try.ntmps9
    go_wp2_with (go_at_call 39; (with_reducible refine (AL _).out.mono ?_); rintro e w1 ⟨rfl, hb1⟩; have hT1 := (hb1.block w.heap.size (by simp)).trans (heap_alloc_new w _); have t0 : w1.cell? ⟨w.heap.size, 0, none⟩ = some (.int .u64 th) := cell_of_row _ _ 0 _ _ (0, 0) hT1; have t1 : w1.cell? ⟨w.heap.size, 1, none⟩ = some (.int .u64 tl) := cell_of_row _ _ 1 _ _ (0, 0) hT1; have hs1 : w.heap.size + 1 ≤ w1.heap.size := (by simpa using hb1.size); have HT1 := Lib.hid hT1; have HB1 := Lib.hid (((Below.refl _ _).alloc (Nat.le_refl _) _).trans (hb1.mono (by simp))); clear hb1 hT1)
    go_ret
    exact ⟨rfl, HB1.out⟩
end Go.Proofs.Ythkclgkbidhmbaa
