/- Edges, plainly: what one says, where one stands, what counting one leaves. -/
import Derived.Test.YtobgnendfnmnpaaZo
import Derived.Test.YtobgnendfnmnpaaSp
import Derived.Lib.Bytealg
namespace Go.Proofs.Ytobgnendfnmnpaa
open Go.RowKit
set_option linter.unusedVariables false
set_option linter.unusedSimpArgs false
set_option maxRecDepth 100000

/-- An edge. -/
structure Eg where
  fr : ByteArray
  to : ByteArray
  cn : Int
  er : Int
def Eg.cells (e : Eg) : List Value := [.string e.fr, .string e.to, .int .i64 e.cn, .int .i64 e.er]
theorem gcells_len (e : Eg) : e.cells.length = 4 := rfl
theorem gcells_one1 (e : Eg) : ∀ u ∈ e.cells, u.oneCell' = true := by
  intro u hu
  simp only [Eg.cells, List.mem_cons, List.not_mem_nil, or_false] at hu
  rcases hu with rfl | rfl | rfl | rfl <;> rfl
theorem gcells_one (l : List Eg) : ∀ u ∈ l.flatMap Eg.cells, u.oneCell' = true := by
  intro u hu
  obtain ⟨e, _, hu⟩ := List.mem_flatMap.1 hu
  exact gcells_one1 e u hu
theorem gflat_drop (l : List Eg) : ∀ k, (l.flatMap Eg.cells).drop (k * 4) = (l.drop k).flatMap Eg.cells := by
  induction l with
  | nil => intro k; simp
  | cons x r ih =>
    intro k
    cases k with
    | zero => simp
    | succ k =>
      rw [List.flatMap_cons, List.drop_succ_cons, ← ih k, List.drop_append]
      have h6 : x.cells.length = 4 := rfl
      rw [h6, List.drop_of_length_le (by rw [h6]; omega), List.nil_append, show (k + 1) * 4 - 4 = k * 4 by omega]
theorem gflat_take (l : List Eg) : ∀ k, (l.flatMap Eg.cells).take (k * 4) = (l.take k).flatMap Eg.cells := by
  induction l with
  | nil => intro k; simp
  | cons x r ih =>
    intro k
    cases k with
    | zero => simp
    | succ k =>
      rw [List.flatMap_cons, List.take_succ_cons, List.flatMap_cons, ← ih k, List.take_append]
      have h6 : x.cells.length = 4 := rfl
      rw [h6, List.take_of_length_le (by rw [h6]; omega), show (k + 1) * 4 - 4 = k * 4 by omega]
theorem eg_at {w : World} {B : Nat} {A : Option Addr} {l : List Eg} (h : Rd w B A (l.flatMap Eg.cells)) {k : Nat} {e : Eg} (he : l[k]? = some e) : ∃ a, A = some a ∧ a.block < B ∧ (∀ j u, e.cells[j]? = some u → w.cell? (a.add (k * 4 + j)) = some u) := by
  have hk : k < l.length := by
    rcases Nat.lt_or_ge k l.length with h | h
    · exact h
    · rw [List.getElem?_eq_none h] at he; cases he
  obtain ⟨a, hA, hb, hc⟩ := h (by rw [flatMap_len _ 4 gcells_len]; omega)
  refine ⟨a, hA, hb, fun j u hu => hc _ u ?_⟩
  have hj : j < 4 := by
    rcases Nat.lt_or_ge j 4 with h | h
    · exact h
    · rw [List.getElem?_eq_none (by rw [gcells_len]; exact h)] at hu; cases hu
  rw [flatMap_at _ 4 gcells_len l k j hj, he]
  exact hu
/-- How an edge stands to a pair. -/
def ordG (x : Eg) (fr to : ByteArray) : Int := if cmpT x.fr fr = 0 then cmpT x.to to else cmpT x.fr fr
theorem ordG_ge (x : Eg) (fr to : ByteArray) : -1 ≤ ordG x fr to ∧ ordG x fr to ≤ 1 := by
  unfold ordG
  split
  · exact cmpT_ge _ _
  · exact cmpT_ge _ _
theorem ordG_zero (x : Eg) (fr to : ByteArray) : ordG x fr to = 0 ↔ x.fr = fr ∧ x.to = to := by
  unfold ordG
  by_cases h : cmpT x.fr fr = 0
  · rw [if_pos h, cmpT_zero]
    exact ⟨fun h2 => ⟨(cmpT_zero _ _).1 h, h2⟩, fun h2 => h2.2⟩
  · rw [if_neg h]
    exact ⟨fun h2 => absurd h2 h, fun h2 => absurd ((cmpT_zero _ _).2 h2.1) h⟩
end Go.Proofs.Ytobgnendfnmnpaa
