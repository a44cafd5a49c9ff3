/- slices.Insert of one file into a row of one's own. -/
import Derived.Test.YtbdiamhhlabojaaDoorUa
import Derived.Test.YtbdiamhhlabojaaDoorIg
namespace Go.Proofs.YtbdiamhhlabojaaDoor
open Go.RowKit
set_option linter.unusedVariables false
set_option linter.unusedSimpArgs false
set_option maxRecDepth 100000

theorem l_info : (Tryd.prog.info? 78).map (fun i => (i.zero, i.size, i.bytes)) = some (some (.agg #[.string ⟨#[]⟩, .slice none 0 0, .int .i64 0]), 3, 48) := by kernel_rfl
theorem l_row (X Y N : List Value) (i n : Nat) (hX : X.length = n * 3) (hY : Y.length = 3) (hN : N.length = 3) (hi : i ≤ n) :
    ((X ++ Y).take ((i + 1) * 3) ++ X.drop (i * 3) ++ (X ++ Y).drop ((i + 1) * 3 + (X.drop (i * 3)).length)).take (i * 3) ++ N ++ ((X ++ Y).take ((i + 1) * 3) ++ X.drop (i * 3) ++ (X ++ Y).drop ((i + 1) * 3 + (X.drop (i * 3)).length)).drop (i * 3 + N.length) = X.take (i * 3) ++ N ++ X.drop (i * 3) := by
  have h1 : (X ++ Y).length = n * 3 + 3 := by rw [List.length_append, hX, hY]
  have h2 : ((X ++ Y).take ((i + 1) * 3)).length = i * 3 + 3 := by rw [List.length_take, h1]; omega
  have h3 : (X ++ Y).drop ((i + 1) * 3 + (X.drop (i * 3)).length) = [] := by
    apply List.drop_eq_nil_of_le
    rw [h1, List.length_drop, hX]; omega
  have h4 : (((X ++ Y).take ((i + 1) * 3) ++ X.drop (i * 3)) ++ []).take (i * 3) = X.take (i * 3) := by
    rw [List.append_nil, List.take_append_of_le_length (by rw [h2]; omega), List.take_take, Nat.min_eq_left (by omega), List.take_append_of_le_length (by rw [hX]; omega)]
  have h5 : (((X ++ Y).take ((i + 1) * 3) ++ X.drop (i * 3)) ++ []).drop (i * 3 + N.length) = X.drop (i * 3) := by
    rw [List.append_nil, List.drop_append, h2, hN, List.drop_eq_nil_of_le (by rw [h2]; omega), Nat.sub_self, List.drop_zero, List.nil_append]
  rw [h3, h4, h5]
theorem l_row2 (X Z N : List Value) (i n : Nat) (hX : X.length = n * 3) (hZ : (X.take (i * 3) ++ Z).length = n * 3 + 3) (hN : N.length = 3) (hi : i < n) :
    ((X.take (i * 3) ++ Z).take (i * 3) ++ N ++ (X.take (i * 3) ++ Z).drop (i * 3 + N.length)).take ((i + 1) * 3) ++ X.drop (i * 3) ++ ((X.take (i * 3) ++ Z).take (i * 3) ++ N ++ (X.take (i * 3) ++ Z).drop (i * 3 + N.length)).drop ((i + 1) * 3 + (X.drop (i * 3)).length) = X.take (i * 3) ++ N ++ X.drop (i * 3) := by
  have h1 : (X.take (i * 3)).length = i * 3 := by rw [List.length_take, hX]; omega
  have h2 : (X.take (i * 3) ++ Z).take (i * 3) = X.take (i * 3) := by rw [List.take_append_of_le_length (by rw [h1]; omega), List.take_take, Nat.min_self]
  rw [h2]
  have h3 : (X.take (i * 3) ++ N).length = (i + 1) * 3 := by rw [List.length_append, h1, hN]; omega
  rw [List.take_append_of_le_length (by rw [h3]; omega), List.take_of_length_le (by rw [h3]; omega)]
  have h4 : (X.take (i * 3) ++ N ++ (X.take (i * 3) ++ Z).drop (i * 3 + N.length)).drop ((i + 1) * 3 + (X.drop (i * 3)).length) = [] := by
    apply List.drop_eq_nil_of_le
    rw [List.length_append, h3, List.length_drop, hZ, List.length_drop, hX, hN]; omega
  rw [h4, List.append_nil]
theorem l_flat (l : List Lf) (e : Lf) (i : Nat) : (l.flatMap Lf.cells).take (i * 3) ++ e.cells ++ (l.flatMap Lf.cells).drop (i * 3) = (l.take i ++ e :: l.drop i).flatMap Lf.cells := by
  rw [lflat_take, lflat_drop, List.flatMap_append, List.flatMap_cons, List.append_assoc]
/-- What insert leaves. -/
def lIns (base : Nat) (L : List Lf) (w : World) (A : Option Addr) (n c : Nat) (ex : Ending) (w' : World) : Prop :=
  ∃ (A' : Option Addr) (c' : Nat), ex = .returned (.slice A' (n + 1) c') ∧ w'.ownsRow base 78 3 (.slice A' (n + 1) c') (n + 1) (L.flatMap Lf.cells) ∧ Grew w w' (.slice A n c) (.slice A' (n + 1) c')
end Go.Proofs.YtbdiamhhlabojaaDoor
