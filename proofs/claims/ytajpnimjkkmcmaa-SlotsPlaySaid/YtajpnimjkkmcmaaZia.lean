/- slices.Insert of one exemplar into a row of one's own. -/
import Derived.Test.YtajpnimjkkmcmaaZo
import Derived.Test.YtajpnimjkkmcmaaIg
namespace Go.Proofs.Ytajpnimjkkmcmaa
open Go.RowKit
set_option linter.unusedVariables false
set_option linter.unusedSimpArgs false
set_option maxRecDepth 100000

theorem x_info : (Try.prog.info? 38).map (fun i => (i.zero, i.size, i.bytes)) = some (some (.agg #[.string ⟨#[]⟩, .string ⟨#[]⟩, .int .u64 0, .int .u64 0, .int .u64 0, .int .i64 0]), 6, 64) := by kernel_rfl
theorem x_row (X Y N : List Value) (i n : Nat) (hX : X.length = n * 6) (hY : Y.length = 6) (hN : N.length = 6) (hi : i ≤ n) :
    ((X ++ Y).take ((i + 1) * 6) ++ X.drop (i * 6) ++ (X ++ Y).drop ((i + 1) * 6 + (X.drop (i * 6)).length)).take (i * 6) ++ N ++ ((X ++ Y).take ((i + 1) * 6) ++ X.drop (i * 6) ++ (X ++ Y).drop ((i + 1) * 6 + (X.drop (i * 6)).length)).drop (i * 6 + N.length) = X.take (i * 6) ++ N ++ X.drop (i * 6) := by
  have h1 : (X ++ Y).length = n * 6 + 6 := by rw [List.length_append, hX, hY]
  have h2 : ((X ++ Y).take ((i + 1) * 6)).length = i * 6 + 6 := by rw [List.length_take, h1]; omega
  have h3 : (X ++ Y).drop ((i + 1) * 6 + (X.drop (i * 6)).length) = [] := by
    apply List.drop_eq_nil_of_le
    rw [h1, List.length_drop, hX]; omega
  have h4 : (((X ++ Y).take ((i + 1) * 6) ++ X.drop (i * 6)) ++ []).take (i * 6) = X.take (i * 6) := by
    rw [List.append_nil, List.take_append_of_le_length (by rw [h2]; omega), List.take_take, Nat.min_eq_left (by omega), List.take_append_of_le_length (by rw [hX]; omega)]
  have h5 : (((X ++ Y).take ((i + 1) * 6) ++ X.drop (i * 6)) ++ []).drop (i * 6 + N.length) = X.drop (i * 6) := by
    rw [List.append_nil, List.drop_append, h2, hN, List.drop_eq_nil_of_le (by rw [h2]; omega), Nat.sub_self, List.drop_zero, List.nil_append]
  rw [h3, h4, h5]
theorem x_row2 (X Z N : List Value) (i n : Nat) (hX : X.length = n * 6) (hZ : (X.take (i * 6) ++ Z).length = n * 6 + 6) (hN : N.length = 6) (hi : i < n) :
    ((X.take (i * 6) ++ Z).take (i * 6) ++ N ++ (X.take (i * 6) ++ Z).drop (i * 6 + N.length)).take ((i + 1) * 6) ++ X.drop (i * 6) ++ ((X.take (i * 6) ++ Z).take (i * 6) ++ N ++ (X.take (i * 6) ++ Z).drop (i * 6 + N.length)).drop ((i + 1) * 6 + (X.drop (i * 6)).length) = X.take (i * 6) ++ N ++ X.drop (i * 6) := by
  have h1 : (X.take (i * 6)).length = i * 6 := by rw [List.length_take, hX]; omega
  have h2 : (X.take (i * 6) ++ Z).take (i * 6) = X.take (i * 6) := by rw [List.take_append_of_le_length (by rw [h1]; omega), List.take_take, Nat.min_self]
  rw [h2]
  have h3 : (X.take (i * 6) ++ N).length = (i + 1) * 6 := by rw [List.length_append, h1, hN]; omega
  rw [List.take_append_of_le_length (by rw [h3]; omega), List.take_of_length_le (by rw [h3]; omega)]
  have h4 : (X.take (i * 6) ++ N ++ (X.take (i * 6) ++ Z).drop (i * 6 + N.length)).drop ((i + 1) * 6 + (X.drop (i * 6)).length) = [] := by
    apply List.drop_eq_nil_of_le
    rw [List.length_append, h3, List.length_drop, hZ, List.length_drop, hX, hN]; omega
  rw [h4, List.append_nil]
theorem x_flat (l : List Ex) (e : Ex) (i : Nat) : (l.flatMap Ex.cells).take (i * 6) ++ e.cells ++ (l.flatMap Ex.cells).drop (i * 6) = (l.take i ++ e :: l.drop i).flatMap Ex.cells := by
  rw [xflat_take, xflat_drop, List.flatMap_append, List.flatMap_cons, List.append_assoc]
/-- What insert leaves. -/
def xIns (base : Nat) (L : List Ex) (w : World) (A : Option Addr) (n c : Nat) (ex : Ending) (w' : World) : Prop :=
  ∃ (A' : Option Addr) (c' : Nat), ex = .returned (.slice A' (n + 1) c') ∧ w'.ownsRow base 38 6 (.slice A' (n + 1) c') (n + 1) (L.flatMap Ex.cells) ∧ Grew w w' (.slice A n c) (.slice A' (n + 1) c')
end Go.Proofs.Ytajpnimjkkmcmaa
