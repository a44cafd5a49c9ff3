/- The document's batch, plain; against the code's. -/
import Derived.Test.YthkclgkbidhmbaaDn
import Derived.Test.YthkclgkbidhmbaaTr
namespace Go.Proofs.Ythkclgkbidhmbaa
open Go.RowKit
set_option linter.unusedVariables false
set_option linter.unusedSimpArgs false

namespace Bd
def rds : Nat → Rm.R → List Sp → Rm.R × List Sp
  | 0, r, acc => (r, acc)
  | n + 1, r, acc => if r.2 = false then rds n (Dm.span r).2 (acc ++ [(Dm.span r).1]) else (r, acc)
def first (l : List UInt8) : Nat × Rm.R := Dm.int 50 (Bm.body l, false)
def all (l : List UInt8) : Rm.R × List Sp := rds (first l).1 (first l).2 []
def okD (l : List UInt8) : Bool := decide (Ct.ok l) && (!(all l).1.2 && ((all l).1.1.isEmpty && decide (1 ≤ (first l).1)))
end Bd
theorem span_right (r : Rm.R) (h : (Rm.span r).2.2 = false) : right (Rm.span r).1 = true := by
  unfold Rm.span at h ⊢
  split
  · rename_i hh; exact hh.2
  · rename_i hh; rw [if_neg hh] at h; cases h
theorem bm_ok : ∀ (n : Nat) (r : Rm.R) (acc : List Sp), (Bm.rds n r acc).1.2 = false → r.2 = false ∧ Bd.rds n r acc = Bm.rds n r acc ∧ (Bm.rds n r acc).2.length = acc.length + n ∧ (acc.all right = true → (Bm.rds n r acc).2.all right = true)
  | 0, r, acc, h => ⟨h, rfl, rfl, fun h => h⟩
  | n + 1, r, acc, h => by
    unfold Bm.rds at h ⊢
    unfold Bd.rds
    by_cases hr : r.2 = false
    · rw [if_pos hr] at h ⊢
      rw [if_pos hr]
      obtain ⟨h1, h2, h3, h4⟩ := bm_ok n _ _ h
      have hd := (dspan_both r).2 h1
      rw [hd]
      refine ⟨hr, h2, by rw [h3, List.length_append, List.length_singleton]; omega, fun ha => h4 ?_⟩
      rw [List.all_append, ha]
      simp [span_right r h1]
    · rw [if_neg hr] at h
      exact absurd h hr
theorem bd_ok : ∀ (n : Nat) (r : Rm.R) (acc : List Sp), (Bd.rds n r acc).1.2 = false → r.2 = false ∧ Bd.rds n r acc = Bm.rds n r acc
  | 0, r, acc, h => ⟨h, rfl⟩
  | n + 1, r, acc, h => by
    unfold Bd.rds at h ⊢
    unfold Bm.rds
    by_cases hr : r.2 = false
    · rw [if_pos hr] at h ⊢
      rw [if_pos hr]
      obtain ⟨h1, h2⟩ := bd_ok n _ _ h
      rw [dspan_tie r h1]
      exact ⟨hr, h2⟩
    · rw [if_neg hr] at h
      exact absurd h hr
/-- Both read a batch, and the same, or neither. -/
theorem batch_both (l : List UInt8) : Bd.okD l = Bm.okB l ∧ (Bm.okB l = true → (Bd.all l).2 = (Bm.all l).2) := by
  unfold Bd.okD Bm.okB
  by_cases hk : Ct.ok l
  · rw [decide_eq_true hk, Bool.true_and, Bool.true_and]
    have key : ((Bd.all l).1.2 = false ∧ (Bd.all l).1.1.isEmpty = true ∧ 1 ≤ (Bd.first l).1) ↔ ((Bm.all l).1.2 = false ∧ (Bm.all l).1.1.isEmpty = true ∧ Bm.rightS (Bm.all l).2 = true) := by
      constructor
      · rintro ⟨h1, h2, h3⟩
        have hA : (Bd.rds (Bd.first l).1 (Bd.first l).2 []).1.2 = false := h1
        obtain ⟨o1, e1⟩ := bd_ok _ _ _ hA
        have t := int_tie 50 (by omega) (Bm.body l, false) o1
        have hf : Bd.first l = Rm.num (Bm.body l, false) := t.1
        have hall : Bd.all l = Bm.all l := by
          show Bd.rds (Bd.first l).1 (Bd.first l).2 [] = Bm.rds (Rm.num (Bm.body l, false)).1 (Rm.num (Bm.body l, false)).2 []
          rw [e1, hf]
        rw [hall] at h1 h2
        have hB : (Bm.rds (Rm.num (Bm.body l, false)).1 (Rm.num (Bm.body l, false)).2 []).1.2 = false := h1
        obtain ⟨_, _, b3, b4⟩ := bm_ok _ _ _ hB
        have hl : (Bm.all l).2.length = 0 + (Rm.num (Bm.body l, false)).1 := b3
        have ha : (Bm.all l).2.all right = true := b4 rfl
        refine ⟨h1, h2, ?_⟩
        have t2 := t.2
        rw [hf] at h3
        unfold Bm.rightS
        rw [ha, decide_eq_true (by omega), decide_eq_true (by omega)]
        rfl
      · rintro ⟨h1, h2, h3⟩
        have hB : (Bm.rds (Rm.num (Bm.body l, false)).1 (Rm.num (Bm.body l, false)).2 []).1.2 = false := h1
        obtain ⟨o1, b2, b3, _⟩ := bm_ok _ _ _ hB
        have hl : (Bm.all l).2.length = 0 + (Rm.num (Bm.body l, false)).1 := b3
        unfold Bm.rightS at h3
        simp only [Bool.and_eq_true, decide_eq_true_eq] at h3
        have hf : Bd.first l = Rm.num (Bm.body l, false) := int_back 50 (by omega) _ o1 (by omega)
        have hall : Bd.all l = Bm.all l := by
          show Bd.rds (Bd.first l).1 (Bd.first l).2 [] = Bm.rds (Rm.num (Bm.body l, false)).1 (Rm.num (Bm.body l, false)).2 []
          rw [hf, b2]
        rw [hall, hf]
        exact ⟨h1, h2, by omega⟩
    constructor
    · rw [Bool.eq_iff_iff]
      simp only [Bool.and_eq_true, Bool.not_eq_true', decide_eq_true_eq]
      constructor
      · rintro ⟨a, b, c⟩
        obtain ⟨a, b, c⟩ := key.1 ⟨a, b, c⟩
        exact ⟨⟨a, b⟩, c⟩
      · rintro ⟨⟨a, b⟩, c⟩
        exact key.2 ⟨a, b, c⟩
    · intro h
      simp only [Bool.and_eq_true, Bool.not_eq_true'] at h
      obtain ⟨⟨h1, h2⟩, h3⟩ := h
      have hB : (Bm.rds (Rm.num (Bm.body l, false)).1 (Rm.num (Bm.body l, false)).2 []).1.2 = false := h1
      obtain ⟨o1, b2, b3, _⟩ := bm_ok _ _ _ hB
      have hl : (Bm.all l).2.length = 0 + (Rm.num (Bm.body l, false)).1 := b3
      unfold Bm.rightS at h3
      simp only [Bool.and_eq_true, decide_eq_true_eq] at h3
      have hf : Bd.first l = Rm.num (Bm.body l, false) := int_back 50 (by omega) _ o1 (by omega)
      show (Bd.rds (Bd.first l).1 (Bd.first l).2 []).2 = (Bm.rds (Rm.num (Bm.body l, false)).1 (Rm.num (Bm.body l, false)).2 []).2
      rw [hf, b2]
  · rw [decide_eq_false hk]
    exact ⟨rfl, fun h => by cases h⟩
end Go.Proofs.Ythkclgkbidhmbaa
