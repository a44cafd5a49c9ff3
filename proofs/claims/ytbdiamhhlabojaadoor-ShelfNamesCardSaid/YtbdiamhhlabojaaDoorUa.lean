/- Files, as they lie. -/
import Derived.Test.YtbdiamhhlabojaaDoorZo
import Derived.Test.YtbdiamhhlabojaaDoorSp
import Derived.Lib.Bytealg
namespace Go.Proofs.YtbdiamhhlabojaaDoor
open Go.RowKit
set_option linter.unusedVariables false
set_option linter.unusedSimpArgs false
set_option maxRecDepth 100000

/-- A file: its name, its bytes, how many are sure; and where the bytes lie. -/
structure Lf where
  nm : ByteArray
  da : List UInt8
  su : Int
  A : Option Addr
  c : Nat
def Lf.cells (e : Lf) : List Value := [.string e.nm, .slice e.A e.da.length e.c, .int .i64 e.su]
theorem lcells_len (e : Lf) : e.cells.length = 3 := rfl
theorem lcells_one1 (e : Lf) : ∀ u ∈ e.cells, u.oneCell' = true := by
  intro u hu
  simp only [Lf.cells, List.mem_cons, List.not_mem_nil, or_false] at hu
  rcases hu with rfl | rfl | rfl <;> rfl
theorem lcells_one (l : List Lf) : ∀ u ∈ l.flatMap Lf.cells, u.oneCell' = true := by
  intro u hu
  obtain ⟨e, _, hu⟩ := List.mem_flatMap.1 hu
  exact lcells_one1 e u hu
theorem lflat_drop (l : List Lf) : ∀ k, (l.flatMap Lf.cells).drop (k * 3) = (l.drop k).flatMap Lf.cells := by
  induction l with
  | nil => intro k; simp
  | cons x r ih =>
    intro k
    cases k with
    | zero => simp
    | succ k =>
      rw [List.flatMap_cons, List.drop_succ_cons, ← ih k, List.drop_append]
      have h6 : x.cells.length = 3 := rfl
      rw [h6, List.drop_of_length_le (by rw [h6]; omega), List.nil_append, show (k + 1) * 3 - 3 = k * 3 by omega]
theorem lflat_take (l : List Lf) : ∀ k, (l.flatMap Lf.cells).take (k * 3) = (l.take k).flatMap Lf.cells := by
  induction l with
  | nil => intro k; simp
  | cons x r ih =>
    intro k
    cases k with
    | zero => simp
    | succ k =>
      rw [List.flatMap_cons, List.take_succ_cons, List.flatMap_cons, ← ih k, List.take_append]
      have h6 : x.cells.length = 3 := rfl
      rw [h6, List.take_of_length_le (by rw [h6]; omega), show (k + 1) * 3 - 3 = k * 3 by omega]
theorem lf_at {w : World} {B : Nat} {A : Option Addr} {l : List Lf} (h : Rd w B A (l.flatMap Lf.cells)) {k : Nat} {e : Lf} (he : l[k]? = some e) : ∃ a, A = some a ∧ a.block < B ∧ (∀ j u, e.cells[j]? = some u → w.cell? (a.add (k * 3 + j)) = some u) := by
  have hk : k < l.length := by
    rcases Nat.lt_or_ge k l.length with h | h
    · exact h
    · rw [List.getElem?_eq_none h] at he; cases he
  obtain ⟨a, hA, hb, hc⟩ := h (by rw [flatMap_len _ 3 lcells_len]; omega)
  refine ⟨a, hA, hb, fun j u hu => hc _ u ?_⟩
  have hj : j < 3 := by
    rcases Nat.lt_or_ge j 3 with h | h
    · exact h
    · rw [List.getElem?_eq_none (by rw [lcells_len]; exact h)] at hu; cases hu
  rw [flatMap_at _ 3 lcells_len l k j hj, he]
  exact hu
end Go.Proofs.YtbdiamhhlabojaaDoor
