/- Plain mathematics of buckets: which bucket a duration has, counted bound by bound. No Go in sight. -/
namespace Go.Proofs.YtkhhcnpmobgdgaaDoor.Bm
def bnds : List Int := [1, 5, 10, 50, 100, 500, 1000]
def cnt (d : Int) (k : Nat) : Nat := ((bnds.take k).filter (fun b => decide (b ≤ d))).length
def of (d : Int) : Nat := cnt d 7
theorem cnt_step (d : Int) (k : Nat) (h : k < 7) : cnt d (k + 1) = cnt d k + if bnds.getD k 0 ≤ d then 1 else 0 := by
  have hk : k < bnds.length := h
  unfold cnt
  rw [List.take_succ_eq_append_getElem hk, List.filter_append, List.length_append]
  have e : bnds.getD k 0 = bnds[k] := by simp [List.getD, hk]
  rw [e]
  by_cases h1 : bnds[k] ≤ d <;> simp [h1]
theorem cnt_le (d : Int) (k : Nat) : cnt d k ≤ k := by
  unfold cnt
  exact Nat.le_trans (List.length_filter_le _ _) (List.length_take_le _ _)
theorem of_le (d : Int) : of d ≤ 7 := cnt_le d 7
theorem of_mono {a b : Int} (h : a ≤ b) : of a ≤ of b := by
  have : ∀ k, cnt a k ≤ cnt b k := by
    intro k
    unfold cnt
    induction bnds.take k with
    | nil => exact Nat.le_refl _
    | cons x l ih =>
      by_cases h1 : x ≤ a
      · have h2 : x ≤ b := by omega
        simp [h1, h2]; exact ih
      · by_cases h2 : x ≤ b
        · simp [h1, h2]; omega
        · simp [h1, h2]; exact ih
  exact this 7
/-- Both together; below 0 counts as 0, too great as the greatest. -/
def plus (a b : Int) : Int := if 9223372036854775807 - max b 0 < max a 0 then 9223372036854775807 else max a 0 + max b 0
/-- The same, none above the most. -/
def top (a b m : Int) : Int := min (plus a b) (max m 0)
end Go.Proofs.YtkhhcnpmobgdgaaDoor.Bm
