/- slices.Insert of one row into a row of one's own. -/
import Derived.Test.YtkhhcnpmobgdgaaDoorYc
import Derived.Test.YtkhhcnpmobgdgaaDoorIg
namespace Go.Proofs.YtkhhcnpmobgdgaaDoor
open Go.RowKit
set_option linter.unusedVariables false
set_option linter.unusedSimpArgs false
set_option maxRecDepth 100000

theorem r_info : (Tryd.prog.info? 48).map (fun i => (i.zero, i.size, i.bytes)) = some (some (.agg #[.int .i64 0, .int .i64 0, .string ⟨#[]⟩, .string ⟨#[]⟩, .int .i64 0, .int .i64 0, .int .i64 0, .int .i64 0, .int .i64 0, .int .i64 0, .int .i64 0, .int .i64 0, .int .i64 0, .int .i64 0]), 14, 128) := by kernel_rfl
theorem r_row (X Y N : List Value) (i n : Nat) (hX : X.length = n * 14) (hY : Y.length = 14) (hN : N.length = 14) (hi : i ≤ n) :
    ((X ++ Y).take ((i + 1) * 14) ++ X.drop (i * 14) ++ (X ++ Y).drop ((i + 1) * 14 + (X.drop (i * 14)).length)).take (i * 14) ++ N ++ ((X ++ Y).take ((i + 1) * 14) ++ X.drop (i * 14) ++ (X ++ Y).drop ((i + 1) * 14 + (X.drop (i * 14)).length)).drop (i * 14 + N.length) = X.take (i * 14) ++ N ++ X.drop (i * 14) := by
  have h1 : (X ++ Y).length = n * 14 + 14 := by rw [List.length_append, hX, hY]
  have h2 : ((X ++ Y).take ((i + 1) * 14)).length = i * 14 + 14 := by rw [List.length_take, h1]; omega
  have h3 : (X ++ Y).drop ((i + 1) * 14 + (X.drop (i * 14)).length) = [] := by
    apply List.drop_eq_nil_of_le
    rw [h1, List.length_drop, hX]; omega
  have h4 : (((X ++ Y).take ((i + 1) * 14) ++ X.drop (i * 14)) ++ []).take (i * 14) = X.take (i * 14) := by
    rw [List.append_nil, List.take_append_of_le_length (by rw [h2]; omega), List.take_take, Nat.min_eq_left (by omega), List.take_append_of_le_length (by rw [hX]; omega)]
  have h5 : (((X ++ Y).take ((i + 1) * 14) ++ X.drop (i * 14)) ++ []).drop (i * 14 + N.length) = X.drop (i * 14) := by
    rw [List.append_nil, List.drop_append, h2, hN, List.drop_eq_nil_of_le (by rw [h2]; omega), Nat.sub_self, List.drop_zero, List.nil_append]
  rw [h3, h4, h5]
theorem r_row2 (X Z N : List Value) (i n : Nat) (hX : X.length = n * 14) (hZ : (X.take (i * 14) ++ Z).length = n * 14 + 14) (hN : N.length = 14) (hi : i < n) :
    ((X.take (i * 14) ++ Z).take (i * 14) ++ N ++ (X.take (i * 14) ++ Z).drop (i * 14 + N.length)).take ((i + 1) * 14) ++ X.drop (i * 14) ++ ((X.take (i * 14) ++ Z).take (i * 14) ++ N ++ (X.take (i * 14) ++ Z).drop (i * 14 + N.length)).drop ((i + 1) * 14 + (X.drop (i * 14)).length) = X.take (i * 14) ++ N ++ X.drop (i * 14) := by
  have h1 : (X.take (i * 14)).length = i * 14 := by rw [List.length_take, hX]; omega
  have h2 : (X.take (i * 14) ++ Z).take (i * 14) = X.take (i * 14) := by rw [List.take_append_of_le_length (by rw [h1]; omega), List.take_take, Nat.min_self]
  rw [h2]
  have h3 : (X.take (i * 14) ++ N).length = (i + 1) * 14 := by rw [List.length_append, h1, hN]; omega
  rw [List.take_append_of_le_length (by rw [h3]; omega), List.take_of_length_le (by rw [h3]; omega)]
  have h4 : (X.take (i * 14) ++ N ++ (X.take (i * 14) ++ Z).drop (i * 14 + N.length)).drop ((i + 1) * 14 + (X.drop (i * 14)).length) = [] := by
    apply List.drop_eq_nil_of_le
    rw [List.length_append, h3, List.length_drop, hZ, List.length_drop, hX, hN]; omega
  rw [h4, List.append_nil]
theorem r_flat (l : List Rw) (e : Rw) (i : Nat) : (l.flatMap Rw.cells).take (i * 14) ++ e.cells ++ (l.flatMap Rw.cells).drop (i * 14) = (l.take i ++ e :: l.drop i).flatMap Rw.cells := by
  rw [rflat_take, rflat_drop, List.flatMap_append, List.flatMap_cons, List.append_assoc]
/-- What insert leaves. -/
def rIns (base : Nat) (L : List Rw) (w : World) (A : Option Addr) (n c : Nat) (ex : Ending) (w' : World) : Prop :=
  ∃ (A' : Option Addr) (c' : Nat), ex = .returned (.slice A' (n + 1) c') ∧ w'.ownsRow base 48 14 (.slice A' (n + 1) c') (n + 1) (L.flatMap Rw.cells) ∧ Grew w w' (.slice A n c) (.slice A' (n + 1) c')
end Go.Proofs.YtkhhcnpmobgdgaaDoor
