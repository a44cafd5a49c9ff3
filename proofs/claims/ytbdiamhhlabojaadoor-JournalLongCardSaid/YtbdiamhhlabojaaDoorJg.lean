/- JournalLong, plainly: what the device has while records are put. -/
import Derived.Test.YtbdiamhhlabojaaDoorJf
namespace Go.Proofs.YtbdiamhhlabojaaDoor
open Go.RowKit
set_option linter.unusedVariables false
set_option linter.unusedSimpArgs false
set_option maxRecDepth 100000

/-- Behind i records of r bytes: at_ segments are full, the next has some bytes, or is none. -/
structure LgI (i at_ has r : Nat) (m : Mp) (us : Int) : Prop where
  full : ∀ k, k < at_ → (m (nmJ k)).isSome = true
  cur : (has = 0 ∧ m (nmJ at_) = none) ∨ (0 < has ∧ ∃ v, m (nmJ at_) = some v ∧ v.1.length = has)
  rest : ∀ k, at_ < k → k < 99 → m (nmJ k) = none
  us : us = ((i * r : Nat) : Int)
  lt : has < 2000
  le : at_ ≤ i
theorem LgI.start (r : Nat) : LgI 0 0 0 r m0 0 := ⟨fun k hk => by omega, .inl ⟨rfl, rfl⟩, fun k _ _ => rfl, by simp, by omega, Nat.le_refl _⟩
theorem LgI.len {i at_ has r : Nat} {m : Mp} {us : Int} (h : LgI i at_ has r m us) (l : List UInt8) : (newJ m (nmJ at_) l).length = has + (Fm.rec l).length := by
  unfold newJ
  rw [List.length_append]
  rcases h.cur with ⟨h1, h2⟩ | ⟨h1, v, h2, h3⟩
  · rw [h2, h1]; rfl
  · rw [h2, ← h3]
theorem LgI.big {i at_ has r : Nat} {m : Mp} {us : Int} (h : LgI i at_ has r m us) : ∀ v, m (nmJ at_) = some v → v.1.length ≤ 100000 := fun v hv => by
  have hl := h.lt
  rcases h.cur with ⟨h1, h2⟩ | ⟨h1, u, h2, h3⟩
  · rw [h2] at hv; cases hv
  · rw [h2] at hv; injection hv with hv; subst hv; omega
theorem LgI.more {i at_ has r : Nat} {m : Mp} {us : Int} (h : LgI i at_ has r m us) (hi : i < 90) (l : List UInt8) (hl : (Fm.rec l).length = r) (hr : 0 < r) (hf : has + r < 2000) :
    LgI (i + 1) at_ (has + r) r (upM m (nmJ at_) (some (newJ m (nmJ at_) l, ((newJ m (nmJ at_) l).length : Int)))) (us + r) := by
  have hat := h.le
  refine ⟨fun k hk => ?_, .inr ⟨by omega, _, upM_same _ _ _, by show (newJ m (nmJ at_) l).length = _; rw [h.len, hl]⟩, fun k hk hk2 => ?_, ?_, hf, by omega⟩
  · unfold upM
    rw [if_neg (fun e => by have := nmJ_inj (by omega) (by omega) e; omega)]
    exact h.full k hk
  · unfold upM
    rw [if_neg (fun e => by have := nmJ_inj (by omega) (by omega) e; omega)]
    exact h.rest k hk hk2
  · rw [h.us, Nat.succ_mul]; omega
theorem LgI.next {i at_ has r : Nat} {m : Mp} {us : Int} (h : LgI i at_ has r m us) (hi : i < 90) (l : List UInt8) (hl : (Fm.rec l).length = r) (hr : 0 < r) (hf : 2000 ≤ has + r) :
    LgI (i + 1) (at_ + 1) 0 r (upM m (nmJ at_) (some (newJ m (nmJ at_) l, ((newJ m (nmJ at_) l).length : Int)))) (us + r) := by
  have hat := h.le
  refine ⟨fun k hk => ?_, .inl ⟨rfl, ?_⟩, fun k hk hk2 => ?_, ?_, by omega, by omega⟩
  · unfold upM
    by_cases e : nmJ at_ = nmJ k
    · rw [if_pos e]; rfl
    · rw [if_neg e]
      have hk2 : k ≠ at_ := fun e2 => e (by rw [e2])
      exact h.full k (by omega)
  · unfold upM
    rw [if_neg (fun e => by have := nmJ_inj (by omega) (by omega) e; omega)]
    exact h.rest (at_ + 1) (by omega) (by omega)
  · unfold upM
    rw [if_neg (fun e => by have := nmJ_inj (by omega) (by omega) e; omega)]
    exact h.rest k (by omega) hk2
  · rw [h.us, Nat.succ_mul]; omega
end Go.Proofs.YtbdiamhhlabojaaDoor
