/- Exemplars, plainly: what one says, how two stand to each other, what putting one in leaves. -/
import Derived.Test.YtmldelgbmadegaaSp
import Derived.Lib.Bytealg
namespace Go.Proofs.Ytmldelgbmadegaa
open Go.RowKit
set_option linter.unusedVariables false
set_option linter.unusedSimpArgs false
set_option maxRecDepth 100000

/-- An exemplar. -/
structure Ex where
  sv : ByteArray
  op : ByteArray
  hi : Int
  lo : Int
  id : Int
  bl : Int
def Ex.cells (e : Ex) : List Value := [.string e.sv, .string e.op, .int .u64 e.hi, .int .u64 e.lo, .int .u64 e.id, .int .i64 e.bl]
theorem xcells_len (e : Ex) : e.cells.length = 6 := rfl
theorem xcells_one1 (e : Ex) : ∀ u ∈ e.cells, u.oneCell' = true := by
  intro u hu
  simp only [Ex.cells, List.mem_cons, List.not_mem_nil, or_false] at hu
  rcases hu with rfl | rfl | rfl | rfl | rfl | rfl <;> rfl
theorem xcells_one (l : List Ex) : ∀ u ∈ l.flatMap Ex.cells, u.oneCell' = true := by
  intro u hu
  obtain ⟨e, _, hu⟩ := List.mem_flatMap.1 hu
  simp only [Ex.cells, List.mem_cons, List.not_mem_nil, or_false] at hu
  rcases hu with rfl | rfl | rfl | rfl | rfl | rfl <;> rfl
structure Ex.ok (e : Ex) : Prop where
  sv : e.sv.size ≤ maxLen
  op : e.op.size ≤ maxLen
  hi : 0 ≤ e.hi ∧ e.hi ≤ 18446744073709551615
  lo : 0 ≤ e.lo ∧ e.lo ≤ 18446744073709551615
  id : 0 ≤ e.id ∧ e.id ≤ 18446744073709551615
  bl : -9223372036854775808 ≤ e.bl ∧ e.bl ≤ 9223372036854775807
theorem xflat_drop (l : List Ex) : ∀ k, (l.flatMap Ex.cells).drop (k * 6) = (l.drop k).flatMap Ex.cells := by
  induction l with
  | nil => intro k; simp
  | cons x r ih =>
    intro k
    cases k with
    | zero => simp
    | succ k =>
      rw [List.flatMap_cons, List.drop_succ_cons, ← ih k, List.drop_append]
      have h6 : x.cells.length = 6 := rfl
      rw [h6, List.drop_of_length_le (by rw [h6]; omega), List.nil_append, show (k + 1) * 6 - 6 = k * 6 by omega]
theorem xflat_take (l : List Ex) : ∀ k, (l.flatMap Ex.cells).take (k * 6) = (l.take k).flatMap Ex.cells := by
  induction l with
  | nil => intro k; simp
  | cons x r ih =>
    intro k
    cases k with
    | zero => simp
    | succ k =>
      rw [List.flatMap_cons, List.take_succ_cons, List.flatMap_cons, ← ih k, List.take_append]
      have h6 : x.cells.length = 6 := rfl
      rw [h6, List.take_of_length_le (by rw [h6]; omega), show (k + 1) * 6 - 6 = k * 6 by omega]
/-- The k-th one's cells, in a row that reads so. -/
theorem ex_at {w : World} {B : Nat} {A : Option Addr} {l : List Ex} (h : Rd w B A (l.flatMap Ex.cells)) {k : Nat} {e : Ex} (he : l[k]? = some e) : ∃ a, A = some a ∧ a.block < B ∧ (∀ j u, e.cells[j]? = some u → w.cell? (a.add (k * 6 + j)) = some u) := by
  have hk : k < l.length := by
    rcases Nat.lt_or_ge k l.length with h | h
    · exact h
    · rw [List.getElem?_eq_none h] at he; cases he
  obtain ⟨a, hA, hb, hc⟩ := h (by rw [flatMap_len _ 6 xcells_len]; omega)
  refine ⟨a, hA, hb, fun j u hu => hc _ u ?_⟩
  have hj : j < 6 := by
    rcases Nat.lt_or_ge j 6 with h | h
    · exact h
    · rw [List.getElem?_eq_none (by rw [xcells_len]; exact h)] at hu; cases hu
  rw [flatMap_at _ 6 xcells_len l k j hj, he]
  exact hu

/-- How two texts stand to each other. -/
def cmpT (a b : ByteArray) : Int := Lib.compareBytes a.data.toList b.data.toList
theorem cmpB_ge : ∀ (a b : List UInt8), -1 ≤ Lib.compareBytes a b ∧ Lib.compareBytes a b ≤ 1
  | [], [] => by simp [Lib.compareBytes]
  | [], _ :: _ => by simp [Lib.compareBytes]
  | _ :: _, [] => by simp [Lib.compareBytes]
  | a :: ra, b :: rb => by
    unfold Lib.compareBytes
    split
    · decide
    · split
      · decide
      · exact cmpB_ge ra rb
theorem cmpB_zero : ∀ (a b : List UInt8), Lib.compareBytes a b = 0 ↔ a = b
  | [], [] => by simp [Lib.compareBytes]
  | [], _ :: _ => by simp [Lib.compareBytes]
  | _ :: _, [] => by simp [Lib.compareBytes]
  | a :: ra, b :: rb => by
    unfold Lib.compareBytes
    split
    · rename_i h
      constructor
      · intro h0; exact absurd h0 (by decide)
      · intro h0
        injection h0 with h1 h2
        subst h1
        exact absurd h (by simp)
    · rename_i h
      split
      · rename_i h'
        constructor
        · intro h0; exact absurd h0 (by decide)
        · intro h0
          injection h0 with h1 h2
          subst h1
          exact absurd h' (by simp)
      · rename_i h'
        have e : a = b := UInt8.le_antisymm (UInt8.not_lt.1 h') (UInt8.not_lt.1 h)
        subst e
        rw [cmpB_zero ra rb]
        simp
theorem cmpT_ge (a b : ByteArray) : -1 ≤ cmpT a b ∧ cmpT a b ≤ 1 := cmpB_ge _ _
theorem cmpT_zero (a b : ByteArray) : cmpT a b = 0 ↔ a = b := by
  unfold cmpT
  rw [cmpB_zero]
  constructor
  · intro h
    obtain ⟨⟨a⟩⟩ := a
    obtain ⟨⟨b⟩⟩ := b
    simp at h
    rw [h]
  · rintro rfl; rfl
/-- How an exemplar's operation stands to another one's. -/
def ordE (a b : Ex) : Int := if cmpT a.sv b.sv = 0 then cmpT a.op b.op else cmpT a.sv b.sv
theorem ordE_ge (a b : Ex) : -1 ≤ ordE a b ∧ ordE a b ≤ 1 := by
  unfold ordE
  split
  · exact cmpT_ge _ _
  · exact cmpT_ge _ _
theorem ordE_zero (a b : Ex) : ordE a b = 0 ↔ a.sv = b.sv ∧ a.op = b.op := by
  unfold ordE
  by_cases h : cmpT a.sv b.sv = 0
  · rw [if_pos h, cmpT_zero]
    exact ⟨fun h2 => ⟨(cmpT_zero _ _).1 h, h2⟩, fun h2 => h2.2⟩
  · rw [if_neg h]
    exact ⟨fun h2 => absurd h2 h, fun h2 => absurd ((cmpT_zero _ _).2 h2.1) h⟩
/-- Where one is put in. -/
def putAt (e : Ex) : List Ex → Nat
  | [] => 0
  | x :: l => if ordE x e < 0 then putAt e l + 1 else 0
theorem putAt_le (e : Ex) : ∀ l : List Ex, putAt e l ≤ l.length
  | [] => Nat.le_refl _
  | x :: l => by
    unfold putAt
    split
    · simpa using putAt_le e l
    · simp
theorem putAt_at (e : Ex) : ∀ (l : List Ex) (k : Nat), (∀ i x, i < k → l[i]? = some x → ordE x e < 0) → k ≤ l.length → (∀ x, l[k]? = some x → ¬ ordE x e < 0) → putAt e l = k
  | [], k, _, hk, _ => by
    have : k = 0 := by simpa using hk
    subst this
    rfl
  | x :: l, 0, _, _, h => by
    unfold putAt
    rw [if_neg (h x (by simp))]
  | x :: l, k + 1, h, hk, hn => by
    unfold putAt
    rw [if_pos (h 0 x (by omega) (by simp)), putAt_at e l k (fun i y hi hy => h (i + 1) y (by omega) (by simpa using hy)) (by simpa using hk) (fun y hy => hn y (by simpa using hy))]
/-- How many of the first i are of e's operation, and which is the last of them. -/
def cntK (e : Ex) (l : List Ex) : Nat → Nat
  | 0 => 0
  | i + 1 => cntK e l i + if (l[i]?).any (fun x => ordE x e == 0) then 1 else 0
def lastK (e : Ex) (l : List Ex) : Nat → Nat
  | 0 => 0
  | i + 1 => if (l[i]?).any (fun x => ordE x e == 0) then i else lastK e l i
theorem cntK_le (e : Ex) (l : List Ex) : ∀ i, cntK e l i ≤ i
  | 0 => Nat.le_refl _
  | i + 1 => by
    have := cntK_le e l i
    unfold cntK
    split <;> omega
theorem lastK_lt (e : Ex) (l : List Ex) : ∀ i, lastK e l i ≤ i - 1
  | 0 => Nat.le_refl _
  | i + 1 => by
    have := lastK_lt e l i
    unfold lastK
    split <;> omega
theorem cntK_yes {e : Ex} {l : List Ex} {i : Nat} {x : Ex} (hx : l[i]? = some x) (h : ordE x e = 0) : cntK e l (i + 1) = cntK e l i + 1 ∧ lastK e l (i + 1) = i := by
  have e1 : (ordE x e == 0) = true := by simpa using h
  constructor
  · show cntK e l i + (if (l[i]?).any (fun x => ordE x e == 0) then 1 else 0) = _
    rw [hx]
    simp [e1]
  · show (if (l[i]?).any (fun x => ordE x e == 0) then i else lastK e l i) = _
    rw [hx]
    simp [e1]
theorem cntK_no {e : Ex} {l : List Ex} {i : Nat} {x : Ex} (hx : l[i]? = some x) (h : ordE x e ≠ 0) : cntK e l (i + 1) = cntK e l i ∧ lastK e l (i + 1) = lastK e l i := by
  have e1 : (ordE x e == 0) = false := by simpa using h
  constructor
  · show cntK e l i + (if (l[i]?).any (fun x => ordE x e == 0) then 1 else 0) = _
    rw [hx]
    simp [e1]
  · show (if (l[i]?).any (fun x => ordE x e == 0) then i else lastK e l i) = _
    rw [hx]
    simp [e1]
/-- One put in. -/
def insX (e : Ex) (l : List Ex) : List Ex := l.take (putAt e l) ++ e :: l.drop (putAt e l)
theorem insX_len (e : Ex) (l : List Ex) : (insX e l).length = l.length + 1 := by
  have := putAt_le e l
  unfold insX
  rw [List.length_append, List.length_cons, List.length_take, List.length_drop]
  omega
def putX (e : Ex) (l : List Ex) : List Ex := if 2 < cntK e (insX e l) (l.length + 1) then (insX e l).eraseIdx (lastK e (insX e l) (l.length + 1)) else insX e l
theorem putX_len (e : Ex) (l : List Ex) : (putX e l).length ≤ l.length + 1 := by
  unfold putX
  split
  · rw [← insX_len e l]
    exact List.length_eraseIdx_le _ _
  · rw [insX_len]; exact Nat.le_refl _
def putsX (es : List Ex) (l : List Ex) : List Ex := es.foldl (fun l e => putX e l) l
theorem putsX_len : ∀ (es l : List Ex), (putsX es l).length ≤ l.length + es.length
  | [], l => Nat.le_refl _
  | e :: r, l => by
    have h1 := putsX_len r (putX e l)
    have h2 := putX_len e l
    show (putsX r (putX e l)).length ≤ _
    rw [List.length_cons]
    omega
theorem putX_mem {e : Ex} {l : List Ex} {x : Ex} (h : x ∈ putX e l) : x = e ∨ x ∈ l := by
  have hi : ∀ y ∈ insX e l, y = e ∨ y ∈ l := by
    intro y hy
    rcases List.mem_append.1 hy with h1 | h1
    · exact .inr (List.mem_of_mem_take h1)
    · rcases List.mem_cons.1 h1 with h2 | h2
      · exact .inl h2
      · exact .inr (List.mem_of_mem_drop h2)
  unfold putX at h
  split at h
  · exact hi x (List.mem_of_mem_eraseIdx h)
  · exact hi x h
end Go.Proofs.Ytmldelgbmadegaa
