/- Plain mathematics of windows: how long each level's are, which window a second is in, from when to when a window is, and which one above has it. No Go in sight. -/
namespace Go.Proofs.YtkhhcnpmobgdgaaDoor.Wm
def lens (l : Int) : Int := if l = 0 then 60 else if l = 1 then 3600 else if l = 2 then 86400 else 0
def isLevel (l : Int) : Prop := l = 0 ∨ l = 1 ∨ l = 2
instance (l : Int) : Decidable (isLevel l) := by unfold isLevel; infer_instance
def win (l s : Int) : Int := if isLevel l ∧ 0 ≤ s ∧ s ≤ 1099511627776 then s / lens l else -1
def span (l n : Int) : Int × Int × Bool := if isLevel l ∧ 0 ≤ n ∧ n ≤ 1099511627776 / lens l then (n * lens l, n * lens l + lens l, true) else (0, 0, false)
def up (l n : Int) : Int × Int × Bool := if (isLevel l ∧ 0 ≤ n ∧ n ≤ 1099511627776 / lens l) ∧ l ≠ 2 then (l + 1, n * lens l / lens (l + 1), true) else (0, 0, false)

theorem lens0 : lens 0 = 60 := rfl
theorem lens1 : lens 1 = 3600 := rfl
theorem lens2 : lens 2 = 86400 := rfl
theorem lens_out {l : Int} (h : ¬ isLevel l) : lens l = 0 := by
  unfold isLevel at h
  unfold lens
  rw [if_neg (by omega), if_neg (by omega), if_neg (by omega)]
theorem level_cases (l : Int) : l = 0 ∨ l = 1 ∨ l = 2 ∨ ¬ isLevel l := by unfold isLevel; omega
theorem lens_bd {l : Int} (h : isLevel l) : 60 ≤ lens l ∧ lens l ≤ 86400 := by rcases h with rfl | rfl | rfl <;> decide
/-- What a walk wants to know of a window's bounds, q the length. -/
theorem bounds {n q : Int} (h1 : 60 ≤ q) (h2 : q ≤ 86400) (h3 : 0 ≤ n) (h4 : n ≤ 1099511627776 / q) :
    (0 ≤ n * q ∧ n * q ≤ 1099511627776) ∧ (n + 1) * q = n * q + q ∧ n ≤ 1099511627776 := by
  have a1 : n * q ≤ 1099511627776 / q * q := Int.mul_le_mul_of_nonneg_right h4 (by omega)
  have a2 : 1099511627776 / q * q ≤ 1099511627776 := Int.ediv_mul_le _ (by omega)
  have a3 : 0 ≤ n * q := Int.mul_nonneg h3 (by omega)
  have a4 : (n + 1) * q = n * q + q := by rw [Int.add_mul, Int.one_mul]
  have a5 : n * 1 ≤ n * q := Int.mul_le_mul_of_nonneg_left (by omega) h3
  exact ⟨⟨a3, by omega⟩, a4, by omega⟩
theorem quo_bd {q : Int} (h1 : 60 ≤ q) : 0 ≤ 1099511627776 / q ∧ 1099511627776 / q ≤ 1099511627776 :=
  ⟨Int.ediv_nonneg (by omega) (by omega), Int.ediv_le_self _ (by omega)⟩
theorem out_lt {l : Int} (h : ¬ isLevel l) : l < 0 ∨ 3 ≤ l := by unfold isLevel at h; omega
theorem span_of {l n q : Int} (hl : isLevel l) (hq : lens l = q) (h0 : 0 ≤ n) (h1 : n ≤ 1099511627776 / q) : span l n = (n * q, n * q + q, true) := by
  subst hq; unfold span; rw [if_pos ⟨hl, h0, h1⟩]
theorem span_neg {l n : Int} (h : n < 0) : span l n = (0, 0, false) := by
  unfold span; rw [if_neg (fun x => by have := x.2.1; omega)]
theorem win_of {l s q : Int} (hl : isLevel l) (hq : lens l = q) (h0 : 0 ≤ s) (h1 : s ≤ 1099511627776) : win l s = s / q := by
  subst hq; unfold win; rw [if_pos ⟨hl, h0, h1⟩]
theorem up_of {l n q r : Int} (hl : isLevel l) (hq : lens l = q) (hr : lens (l + 1) = r) (h0 : 0 ≤ n) (h1 : n ≤ 1099511627776 / q) (h2 : l ≠ 2) : up l n = (l + 1, n * q / r, true) := by
  subst hq; subst hr; unfold up; rw [if_pos ⟨⟨hl, h0, h1⟩, h2⟩]
end Go.Proofs.YtkhhcnpmobgdgaaDoor.Wm
