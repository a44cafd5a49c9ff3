/- slices.Insert of one edge into a row of one's own. -/
import Derived.Test.YtobgnendfnmnpaaVa
import Derived.Test.YtobgnendfnmnpaaIg
namespace Go.Proofs.Ytobgnendfnmnpaa
open Go.RowKit
set_option linter.unusedVariables false
set_option linter.unusedSimpArgs false
set_option maxRecDepth 100000

theorem g_info : (Try.prog.info? 36).map (fun i => (i.zero, i.size, i.bytes)) = some (some (.agg #[.string ⟨#[]⟩, .string ⟨#[]⟩, .int .i64 0, .int .i64 0]), 4, 48) := by kernel_rfl
theorem g_row (X Y N : List Value) (i n : Nat) (hX : X.length = n * 4) (hY : Y.length = 4) (hN : N.length = 4) (hi : i ≤ n) :
    ((X ++ Y).take ((i + 1) * 4) ++ X.drop (i * 4) ++ (X ++ Y).drop ((i + 1) * 4 + (X.drop (i * 4)).length)).take (i * 4) ++ N ++ ((X ++ Y).take ((i + 1) * 4) ++ X.drop (i * 4) ++ (X ++ Y).drop ((i + 1) * 4 + (X.drop (i * 4)).length)).drop (i * 4 + N.length) = X.take (i * 4) ++ N ++ X.drop (i * 4) := by
  have h1 : (X ++ Y).length = n * 4 + 4 := by rw [List.length_append, hX, hY]
  have h2 : ((X ++ Y).take ((i + 1) * 4)).length = i * 4 + 4 := by rw [List.length_take, h1]; omega
  have h3 : (X ++ Y).drop ((i + 1) * 4 + (X.drop (i * 4)).length) = [] := by
    apply List.drop_eq_nil_of_le
    rw [h1, List.length_drop, hX]; omega
  have h4 : (((X ++ Y).take ((i + 1) * 4) ++ X.drop (i * 4)) ++ []).take (i * 4) = X.take (i * 4) := by
    rw [List.append_nil, List.take_append_of_le_length (by rw [h2]; omega), List.take_take, Nat.min_eq_left (by omega), List.take_append_of_le_length (by rw [hX]; omega)]
  have h5 : (((X ++ Y).take ((i + 1) * 4) ++ X.drop (i * 4)) ++ []).drop (i * 4 + N.length) = X.drop (i * 4) := by
    rw [List.append_nil, List.drop_append, h2, hN, List.drop_eq_nil_of_le (by rw [h2]; omega), Nat.sub_self, List.drop_zero, List.nil_append]
  rw [h3, h4, h5]
theorem g_row2 (X Z N : List Value) (i n : Nat) (hX : X.length = n * 4) (hZ : (X.take (i * 4) ++ Z).length = n * 4 + 4) (hN : N.length = 4) (hi : i < n) :
    ((X.take (i * 4) ++ Z).take (i * 4) ++ N ++ (X.take (i * 4) ++ Z).drop (i * 4 + N.length)).take ((i + 1) * 4) ++ X.drop (i * 4) ++ ((X.take (i * 4) ++ Z).take (i * 4) ++ N ++ (X.take (i * 4) ++ Z).drop (i * 4 + N.length)).drop ((i + 1) * 4 + (X.drop (i * 4)).length) = X.take (i * 4) ++ N ++ X.drop (i * 4) := by
  have h1 : (X.take (i * 4)).length = i * 4 := by rw [List.length_take, hX]; omega
  have h2 : (X.take (i * 4) ++ Z).take (i * 4) = X.take (i * 4) := by rw [List.take_append_of_le_length (by rw [h1]; omega), List.take_take, Nat.min_self]
  rw [h2]
  have h3 : (X.take (i * 4) ++ N).length = (i + 1) * 4 := by rw [List.length_append, h1, hN]; omega
  rw [List.take_append_of_le_length (by rw [h3]; omega), List.take_of_length_le (by rw [h3]; omega)]
  have h4 : (X.take (i * 4) ++ N ++ (X.take (i * 4) ++ Z).drop (i * 4 + N.length)).drop ((i + 1) * 4 + (X.drop (i * 4)).length) = [] := by
    apply List.drop_eq_nil_of_le
    rw [List.length_append, h3, List.length_drop, hZ, List.length_drop, hX, hN]; omega
  rw [h4, List.append_nil]
theorem g_flat (l : List Eg) (e : Eg) (i : Nat) : (l.flatMap Eg.cells).take (i * 4) ++ e.cells ++ (l.flatMap Eg.cells).drop (i * 4) = (l.take i ++ e :: l.drop i).flatMap Eg.cells := by
  rw [gflat_take, gflat_drop, List.flatMap_append, List.flatMap_cons, List.append_assoc]
/-- What insert leaves. -/
def gIns (base : Nat) (L : List Eg) (w : World) (A : Option Addr) (n c : Nat) (ex : Ending) (w' : World) : Prop :=
  ∃ (A' : Option Addr) (c' : Nat), ex = .returned (.slice A' (n + 1) c') ∧ w'.ownsRow base 36 4 (.slice A' (n + 1) c') (n + 1) (L.flatMap Eg.cells) ∧ Grew w w' (.slice A n c) (.slice A' (n + 1) c')
end Go.Proofs.Ytobgnendfnmnpaa
