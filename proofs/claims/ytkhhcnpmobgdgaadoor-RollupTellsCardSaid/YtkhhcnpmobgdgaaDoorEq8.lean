/- Two arrays of eight numbers, the same ones: they are equal. -/
import Derived.Test.YtkhhcnpmobgdgaaDoorRows
import Derived.WalkKit
import Derived.WalkSpells
import Derived.Laws.StructEq
namespace Go.Proofs.YtkhhcnpmobgdgaaDoor
open Go.RowKit
theorem info8 : (Tryd.prog.info? 3).map (·.size) = some 1 := by kernel_rfl
theorem eq8 (d : Nat) (z2 z3 z4 z5 z6 z7 z8 z9 : Int) (w : World) : (Op.equalIn (d + 2) 44 (.agg #[.int .i64 z2, .int .i64 z3, .int .i64 z4, .int .i64 z5, .int .i64 z6, .int .i64 z7, .int .i64 z8, .int .i64 z9]) (.agg #[.int .i64 z2, .int .i64 z3, .int .i64 z4, .int .i64 z5, .int .i64 z6, .int .i64 z7, .int .i64 z8, .int .i64 z9])).run Tryd.prog w = .ok true w := by
  have hu : Tryd.prog.underlying 44 = some (.array 8 3) := by kernel_rfl
  have hi : Tryd.prog.underlying 3 = some (.int .i64) := by kernel_rfl
  have hs : ∀ W : World, (sizeOf 3).run Tryd.prog W = .ok 1 W := fun W => by
    cases hq : Tryd.prog.info? 3 with
    | none => have := info8; rw [hq] at this; cases this
    | some i => have := info8; rw [hq] at this; simp at this; simp [sizeOf, typeInfo, hq, this]
  have he : ∀ (a : Int) (W : World), (Op.equalIn (d + 1) 3 (.int .i64 a) (.int .i64 a)).run Tryd.prog W = .ok true W := fun a W => by
    rw [run_equalIn_int (k' := .i64) _ _ _ _ _ _ hi]; simp
  rw [Op.equalIn]
  simp only [Sem.run_bind, run_underlying hu, Result.andThen_ok, hs]
  rw [Std.Legacy.Range.forIn_eq_forIn_range']
  simp [Std.Legacy.Range.size, List.range', Sem.run_bind, go_sem, he]
theorem eq8' (z2 z3 z4 z5 z6 z7 z8 z9 : Int) (w : World) : (Op.equalIn 9999 44 (.agg #[.int .i64 z2, .int .i64 z3, .int .i64 z4, .int .i64 z5, .int .i64 z6, .int .i64 z7, .int .i64 z8, .int .i64 z9]) (.agg #[.int .i64 z2, .int .i64 z3, .int .i64 z4, .int .i64 z5, .int .i64 z6, .int .i64 z7, .int .i64 z8, .int .i64 z9])).run Tryd.prog w = .ok true w := eq8 9997 z2 z3 z4 z5 z6 z7 z8 z9 w
end Go.Proofs.YtkhhcnpmobgdgaaDoor
