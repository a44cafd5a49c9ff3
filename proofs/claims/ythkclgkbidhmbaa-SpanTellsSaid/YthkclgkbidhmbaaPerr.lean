/- Rows of one's own that lie in temporaries of a region: no two of them are one block. Over any program. ds: which operations leave one, and where; ex: pairs of which the one takes the other's. -/
import Derived.Test.YthkclgkbidhmbaaPerj
import Derived.Test.YthkclgkbidhmbaaApp
namespace Go.Proofs.Ythkclgkbidhmbaa.PI
open Go.RowKit
set_option linter.unusedVariables false

def RI (ds : List (Nat × Nat)) (ex : List (Nat × Nat)) (L : Nat → Bool) (a : Act) (w : World) : Prop :=
  (∀ p ∈ ds, p.2 < a.tmps.size) ∧
  (∀ p ∈ ds, L p.1 = true → ∀ b, (a.tmps.getD p.2 undef).ownBlock = some b → b < w.heap.size) ∧
  (∀ p ∈ ds, ∀ q ∈ ds, p.1 ≠ q.1 → ex.contains (p.1, q.1) = false → L p.1 = true → L q.1 = true → ∀ b, (a.tmps.getD p.2 undef).ownBlock = some b → (a.tmps.getD q.2 undef).ownBlock ≠ some b)
variable {ds ex : List (Nat × Nat)} {L : Nat → Bool} {a : Act} {w w' : World} {i d : Nat} {v : Value}
theorem RI.start {n : Nat} (h : (ds.all fun p => decide (p.2 < n)) = true) (ha : a.tmps.size = n) : RI ds ex (fun _ => false) a w := by
  rw [List.all_eq_true] at h
  exact ⟨fun p hp => by rw [ha]; exact of_decide_eq_true (h p hp), (fun p hp hl => by cases hl), (fun p hp q hq _ _ hl => by cases hl)⟩
theorem getD_else (dst : Option Nat) (t : Nat) (h : dst ≠ some t) : (a.put dst v).tmps.getD t undef = a.tmps.getD t undef := by
  cases dst with
  | none => rfl
  | some d => rw [put_getD, if_neg (fun hh => h (by rw [hh.1]))]
/-- An operation that leaves no such row. -/
theorem RI.pure (h : RI ds ex L a w) (dst : Option Nat) (h1 : (ds.all fun p => p.1 != i && dst != some p.2) = true) (hs : w.heap.size ≤ w'.heap.size) : RI ds ex (upd L i) (a.put dst v) w' := by
  rw [List.all_eq_true] at h1
  have hn : ∀ p ∈ ds, p.1 ≠ i ∧ dst ≠ some p.2 := fun p hp => by have := h1 p hp; simp only [Bool.and_eq_true, bne_iff_ne] at this; exact this
  have hL : ∀ p ∈ ds, upd L i p.1 = L p.1 := fun p hp => by unfold upd; rw [if_neg (hn p hp).1]
  refine ⟨fun p hp => by rw [put_size]; exact h.1 p hp, fun p hp hl b hb => ?_, fun p hp q hq hpq hx hl hm b hb => ?_⟩
  · rw [hL p hp] at hl
    rw [getD_else _ _ (hn p hp).2] at hb
    exact Nat.lt_of_lt_of_le (h.2.1 p hp hl b hb) hs
  · rw [hL p hp] at hl
    rw [hL q hq] at hm
    rw [getD_else _ _ (hn p hp).2] at hb
    rw [getD_else _ _ (hn q hq).2]
    exact h.2.2 p hp q hq hpq hx hl hm b hb
/-- An operation that leaves a row: a new one, or that of j, which it takes. -/
theorem RI.row (h : RI ds ex L a w) (hi : (ds.all fun p => (p.1 == i) == (p.2 == d)) = true) (hd : ds.contains (i, d) = true) (js : List (Nat × Nat)) (hj : (js.all fun j => ds.contains j && (j.1 != i) && ds.all fun q => (q.1 == i) || (q.1 == j.1) || (!ex.contains (i, q.1) && !ex.contains (q.1, i) && !ex.contains (j.1, q.1) && !ex.contains (q.1, j.1)) || ex.contains (i, q.1) && ex.contains (q.1, i)) = true)
    (hex : (js.all fun j => ex.contains (i, j.1) && ex.contains (j.1, i)) = true) (hjl : ∀ j ∈ js, L j.1 = true) (hs : w.heap.size ≤ w'.heap.size)
    (hv : ∀ b, v.ownBlock = some b → b < w'.heap.size ∧ (w.heap.size ≤ b ∨ ∃ j ∈ js, (a.tmps.getD j.2 undef).ownBlock = some b)) : RI ds ex (upd L i) (a.put (some d) v) w' := by
  rw [List.all_eq_true] at hi hj hex
  have hid : ∀ p ∈ ds, (p.1 = i ↔ p.2 = d) := fun p hp => by
    have h1 := hi p hp
    have h2 : (p.1 == i) = (p.2 == d) := by simpa using h1
    exact ⟨fun e => by rw [e] at h2; simpa using h2.symm, fun e => by rw [e] at h2; simpa using h2⟩
  have hds : (i, d) ∈ ds := by simpa using hd
  have hdl : d < a.tmps.size := h.1 (i, d) hds
  have hself : (a.put (some d) v).tmps.getD d undef = v := by rw [put_getD, if_pos ⟨rfl, hdl⟩]
  have helse : ∀ p ∈ ds, p.1 ≠ i → (a.put (some d) v).tmps.getD p.2 undef = a.tmps.getD p.2 undef := fun p hp hne => getD_else _ _ (fun e => by injection e with e; exact hne ((hid p hp).2 e.symm))
  have hL : ∀ p : Nat × Nat, p.1 ≠ i → upd L i p.1 = L p.1 := fun p hne => by unfold upd; rw [if_neg hne]
  have key : ∀ q ∈ ds, q.1 ≠ i → (ex.contains (i, q.1) = false ∨ ex.contains (q.1, i) = false) → L q.1 = true → ∀ b, v.ownBlock = some b → (a.tmps.getD q.2 undef).ownBlock ≠ some b := fun q hq hqi hx hlq b hb hqb => by
    rcases (hv b hb).2 with h1 | ⟨j, hjm, hjb⟩
    · have := h.2.1 q hq hlq b hqb
      omega
    · have h1 := hj j hjm
      have h4 := hex j hjm
      simp only [Bool.and_eq_true, bne_iff_ne] at h1 h4
      obtain ⟨⟨h2, h3⟩, h5⟩ := h1
      rw [List.all_eq_true] at h5
      have h6 := h5 q hq
      by_cases hqj : q.1 = j.1
      · rw [hqj, h4.1, h4.2] at hx
        rcases hx with hx | hx <;> cases hx
      · simp only [Bool.or_eq_true, beq_iff_eq, Bool.and_eq_true, Bool.not_eq_true'] at h6
        rcases h6 with ((h6 | h6) | h6) | h6
        · exact hqi h6
        · exact hqj h6
        · exact h.2.2 j (by simpa using h2) q hq (fun e => hqj e.symm) h6.1.2 (hjl j hjm) hlq b hjb hqb
        · rw [h6.1, h6.2] at hx
          rcases hx with hx | hx <;> cases hx
  refine ⟨fun p hp => by rw [put_size]; exact h.1 p hp, fun p hp hl b hb => ?_, fun p hp q hq hpq hx hl hm b hb => ?_⟩
  · by_cases hpi : p.1 = i
    · rw [(hid p hp).1 hpi, hself] at hb
      exact (hv b hb).1
    · rw [hL p hpi] at hl
      rw [helse p hp hpi] at hb
      exact Nat.lt_of_lt_of_le (h.2.1 p hp hl b hb) hs
  · by_cases hpi : p.1 = i
    · have hqi : q.1 ≠ i := fun e => hpq (by rw [hpi, e])
      rw [(hid p hp).1 hpi, hself] at hb
      rw [hL q hqi] at hm
      rw [helse q hq hqi]
      rw [hpi] at hx
      exact key q hq hqi (.inl hx) hm b hb
    · rw [hL p hpi] at hl
      rw [helse p hp hpi] at hb
      by_cases hqi : q.1 = i
      · rw [(hid q hq).1 hqi, hself]
        intro hvb
        rw [hqi] at hx
        exact key p hp hpi (.inr hx) hl b hvb hb
      · rw [hL q hqi] at hm
        rw [helse q hq hqi]
        exact h.2.2 p hp q hq hpq hx hl hm b hb
end Go.Proofs.Ythkclgkbidhmbaa.PI
