/- How an exemplar's operation stands to another one's: strings.Compare, cmp.Or, slots.order. -/
import Derived.Test.YtmldelgbmadegaaZm
import Derived.Test.YtmldelgbmadegaaBs
import Derived.Laws.Externs
import Derived.StillTailTactics
namespace Go.Proofs.Ytmldelgbmadegaa
open Go.RowKit
set_option linter.unusedVariables false
set_option linter.unusedSimpArgs false
set_option maxRecDepth 100000

set_option maxHeartbeats 4000000 in
theorem or_calls (x y : Int) (g : Nat) (w : World) (h0 : w.cell? ⟨g, 0, none⟩ = some (.int .i64 x)) (h1 : w.cell? ⟨g, 1, none⟩ = some (.int .i64 y)) : Calls Try.prog 100 #[.slice (some ⟨g, 0, none⟩) 2 2] w fun e w' => e = .returned (.int .i64 (if x = 0 then y else x)) ∧ w' = w := by
  have ha : ∀ k : Nat, (⟨g, 0, none⟩ : Addr).add k = ⟨g, k, none⟩ := fun k => by rw [Addr.add_lit, Nat.zero_add]
  go_enter Try.func100, Try.ntmps100
  go_wp2_with fail
  go_loop [8] (fun i => ∃ k : Nat, k ≤ 2 ∧ i = .int .i64 k ∧ (0 < k → x = 0) ∧ (1 < k → y = 0)) (fun i => 2 - (intOf i).toNat)
  case atStart => exact ⟨0, by omega, rfl, fun h => by omega, fun h => by omega⟩
  case round =>
    obtain ⟨k, hk, rfl, hx, hy⟩ := hrel
    by_cases c0 : k = 0
    · subst c0
      by_cases cx : x = 0
      · subst cx
        go_wp2_with fail
        go_round
        case rel => exact ⟨1, by omega, by go_num, fun _ => by first | rfl | trivial, fun h => by omega⟩
        case measure => simp [intOf]
      · have d : (x == 0) = false := by simpa using cx
        go_wp2_with fail
        go_ret
        exact ⟨rfl, rfl⟩
    · by_cases c1 : k = 1
      · subst c1
        have hx := hx (by omega)
        subst hx
        by_cases cy : y = 0
        · subst cy
          go_wp2_with fail
          go_round
          case rel => exact ⟨2, by omega, by go_num, fun _ => by first | rfl | trivial, fun _ => by first | rfl | trivial⟩
          case measure => simp [intOf]
        · have d : (y == 0) = false := by simpa using cy
          go_wp2_with fail
          go_ret
          exact ⟨by simp, rfl⟩
      · have c2 : k = 2 := by omega
        subst c2
        have hx := hx (by omega)
        have hy := hy (by omega)
        subst hx
        subst hy
        go_wp2_with fail
        go_ret
        exact ⟨rfl, rfl⟩
end Go.Proofs.Ytmldelgbmadegaa
