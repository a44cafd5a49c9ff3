/- What is left of a text behind a policy is an end of it, and shorter. -/
import Derived.Test.YtgiahfjndononaaDoorPoa
namespace Go.Proofs.YtgiahfjndononaaDoor
open Go.RowKit
set_option linter.unusedVariables false
set_option linter.unusedSimpArgs false
set_option maxRecDepth 100000

namespace Wm
def ResLe {α : Type} (l : List UInt8) : Res α → Prop
  | .bad e => Suf e l
  | .ok _ r => Suf r l
theorem ResOk.le {α : Type} {l : List UInt8} {r : Res α} (h : ResOk l r) : ResLe l r := by
  cases r with
  | bad e => exact h
  | ok t r => exact h.1
theorem ResLe.trans {α : Type} {l m : List UInt8} {r : Res α} (h : ResLe l r) (k : Suf l m) : ResLe m r := by
  cases r with
  | bad e => exact Suf.trans h k
  | ok t r => exact Suf.trans h k
theorem tok_rest (l : List UInt8) : Suf (tok l).rest l := (tok_ok l).rests.trans (tok_ok l).froms
theorem tok_short (l : List UInt8) (h0 : (tok l).kind ≠ 0) (h5 : (tok l).kind ≠ 5) : (tok l).rest.length < l.length := Nat.lt_of_lt_of_le ((tok_ok l).adv h0 h5) (tok_ok l).froms.len
theorem more_ok {p : List UInt8 → Res Rt} (hp : ∀ l, ResOk l (p l)) : ∀ (m : Nat) (acc : List Rt) (l : List UInt8), ResLe l (more p m acc l)
  | 0, acc, l => by rw [more]; exact Suf.refl _
  | m + 1, acc, l => by
    rw [more]
    by_cases h : (tok l).is 44 = true
    · rw [if_pos h]
      have h1 := hp (tok l).rest
      cases hq : p (tok l).rest with
      | bad e => rw [hq] at h1; exact Suf.trans h1 (tok_rest l)
      | ok r l2 =>
        rw [hq] at h1
        exact (more_ok hp m (acc ++ [r]) l2).trans (h1.1.trans (tok_rest l))
    · rw [if_neg h]; exact Suf.refl _
theorem kids_ok {p : List UInt8 → Res Rt} (hp : ∀ l, ResOk l (p l)) (k f : Nat) (l : List UInt8) : ResLe l (kids p k f l) := by
  unfold kids
  have h1 := hp l
  cases hq : p l with
  | bad e => rw [hq] at h1; exact h1
  | ok r l2 =>
    rw [hq] at h1
    simp only
    split
    · exact h1.1
    · exact (more_ok hp f [r] l2).trans h1.1
theorem close_ok {k : Nat} {l : List UInt8} {r : Res (List Rt)} (h : ResLe l r) : ResLe l (close k r) := by
  cases r with
  | bad e => exact h
  | ok rs l2 =>
    unfold close
    simp only
    split
    · exact Suf.trans (tok_rest l2) h
    · exact Suf.trans (tok_ok l2).froms h
theorem resOk_of {l m : List UInt8} {r : Res Rt} (h : ResLe l r) (k : Suf l m) (hk : l.length < m.length) : ResOk m r := by
  cases r with
  | bad e => exact Suf.trans h k
  | ok t r => exact ⟨Suf.trans h k, Nat.lt_of_le_of_lt (Suf.len h) hk⟩
theorem polK_ok {p : List UInt8 → Res Rt} (hp : ∀ l, ResOk l (p l)) (k f : Nat) (l : List UInt8) : ResLe l (polK p k f l) := by
  unfold polK
  split
  · split
    · exact (tok_rest _).trans (tok_rest l)
    · exact (close_ok (kids_ok hp k f _)).trans (tok_rest l)
  · exact (tok_ok l).froms
theorem polA_ok (l : List UInt8) : ResLe l (polA l) := by
  unfold polA
  split
  · split
    · exact (tok_rest _).trans (tok_rest l)
    · exact (tok_ok _).froms.trans (tok_rest l)
  · exact (tok_ok l).froms
theorem polN_ok (k : Nat) (l : List UInt8) : ResLe l (polN k l) := by
  unfold polN
  split
  · exact tok_rest l
  · exact (tok_ok l).froms
theorem pol_ok : ∀ (f : Nat) (l : List UInt8), ResOk l (pol f l)
  | 0, l => by rw [pol]; exact Suf.refl _
  | f + 1, l => by
    rw [pol]
    have hp := pol_ok f
    have hs : (tok l).key ≠ 0 → (tok l).rest.length < l.length := fun h => tok_short l (by rw [key_pos h]; decide) (by rw [key_pos h]; decide)
    split
    · exact (tok_ok l).froms
    · rename_i h0
      split
      · exact ⟨tok_rest l, hs h0⟩
      · split
        · exact resOk_of (polA_ok _) (tok_rest l) (hs h0)
        · split
          · exact resOk_of (polK_ok hp _ _ _) (tok_rest l) (hs h0)
          · exact resOk_of (polN_ok _ _) (tok_rest l) (hs h0)
theorem pol_short (f : Nat) (l : List UInt8) (t : Rt) (r : List UInt8) (h : pol f l = .ok t r) : r.length < l.length := by
  have h1 := pol_ok f l
  rw [h] at h1
  exact h1.2
end Wm
end Go.Proofs.YtgiahfjndononaaDoor
