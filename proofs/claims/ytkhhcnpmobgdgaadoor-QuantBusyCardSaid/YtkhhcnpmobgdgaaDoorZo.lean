/- How an exemplar's operation stands to another one's: strings.Compare, cmp.Or, slots.order. -/
import Derived.Test.YtkhhcnpmobgdgaaDoorZm
import Derived.Test.YtkhhcnpmobgdgaaDoorBs
import Derived.Laws.Externs
import Derived.StillTailTactics
namespace Go.Proofs.YtkhhcnpmobgdgaaDoor
open Go.RowKit
set_option linter.unusedVariables false
set_option linter.unusedSimpArgs false
set_option maxRecDepth 100000

set_option maxHeartbeats 1000000 in
theorem cmpstr_calls (a b : ByteArray) (w : World) : Calls Tryd.prog 91 #[.string a, .string b] w fun e w' => e = .returned (.int .i64 (cmpT a b)) ∧ w' = w := by
  have hx : (callFunc 101 #[.string a, .string b]).run Tryd.prog w = .ok (.value (.int .i64 (cmpT a b))) w := by
    rw [run_callFunc_extern Tryd.func101 (by kernel_rfl) (by kernel_rfl) (by kernel_rfl) (e := Extern.BytealgCompare.compare) (by kernel_rfl), Lib.run_compareString]
    rfl
  go_enter Tryd.func91, Tryd.ntmps91
  go_wp2_with (simp only [hx])
  go_ret
  exact ⟨rfl, rfl⟩
set_option maxHeartbeats 1000000 in
theorem compare_calls (a b : ByteArray) (w : World) : Calls Tryd.prog 70 #[.string a, .string b] w fun e w' => e = .returned (.int .i64 (cmpT a b)) ∧ w' = w := by
  go_enter Tryd.func70, Tryd.ntmps70
  go_wp2_with (go_at_call 91; refine (cmpstr_calls _ _ _).mono ?_; rintro e w' ⟨rfl, rfl⟩)
  go_ret
  exact ⟨rfl, rfl⟩
set_option maxHeartbeats 4000000 in
theorem or_calls (x y : Int) (g : Nat) (w : World) (h0 : w.cell? ⟨g, 0, none⟩ = some (.int .i64 x)) (h1 : w.cell? ⟨g, 1, none⟩ = some (.int .i64 y)) : Calls Tryd.prog 68 #[.slice (some ⟨g, 0, none⟩) 2 2] w fun e w' => e = .returned (.int .i64 (if x = 0 then y else x)) ∧ w' = w := by
  have ha : ∀ k : Nat, (⟨g, 0, none⟩ : Addr).add k = ⟨g, k, none⟩ := fun k => by rw [Addr.add_lit, Nat.zero_add]
  go_enter Tryd.func68, Tryd.ntmps68
  go_wp2_with fail
  go_loop [8] (fun i => ∃ k : Nat, k ≤ 2 ∧ i = .int .i64 k ∧ (0 < k → x = 0) ∧ (1 < k → y = 0)) (fun i => 2 - (intOf i).toNat)
  case atStart => exact ⟨0, by omega, rfl, fun h => by omega, fun h => by omega⟩
  case round =>
    obtain ⟨k, hk, rfl, hx, hy⟩ := hrel
    by_cases c0 : k = 0
    · subst c0
      by_cases cx : x = 0
      · subst cx
        go_wp2_with fail
        go_round
        case rel => exact ⟨1, by omega, by go_num, fun _ => by first | rfl | trivial, fun h => by omega⟩
        case measure => simp [intOf]
      · have d : (x == 0) = false := by simpa using cx
        go_wp2_with fail
        go_ret
        exact ⟨rfl, rfl⟩
    · by_cases c1 : k = 1
      · subst c1
        have hx := hx (by omega)
        subst hx
        by_cases cy : y = 0
        · subst cy
          go_wp2_with fail
          go_round
          case rel => exact ⟨2, by omega, by go_num, fun _ => by first | rfl | trivial, fun _ => by first | rfl | trivial⟩
          case measure => simp [intOf]
        · have d : (y == 0) = false := by simpa using cy
          go_wp2_with fail
          go_ret
          exact ⟨by simp, rfl⟩
      · have c2 : k = 2 := by omega
        subst c2
        have hx := hx (by omega)
        have hy := hy (by omega)
        subst hx
        subst hy
        go_wp2_with fail
        go_ret
        exact ⟨rfl, rfl⟩
end Go.Proofs.YtkhhcnpmobgdgaaDoor
