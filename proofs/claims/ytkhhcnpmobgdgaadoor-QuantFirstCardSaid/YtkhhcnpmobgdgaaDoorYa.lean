/- Rows of the rollup, plainly: how they stand, what one says, what counting a span leaves. No Go in sight. -/
import Derived.Test.YtkhhcnpmobgdgaaDoorZm
import Derived.Test.YtkhhcnpmobgdgaaDoorBk
import Derived.Test.YtkhhcnpmobgdgaaDoorWm
import Derived.Test.YtkhhcnpmobgdgaaDoorSp
import Derived.Test.YtkhhcnpmobgdgaaDoorAdd8
namespace Go.Proofs.YtkhhcnpmobgdgaaDoor
open Go.RowKit
set_option linter.unusedVariables false
set_option linter.unusedSimpArgs false
set_option maxRecDepth 100000

/-- A row's key. -/
structure Ky where
  lv : Int
  win : Int
  sv : ByteArray
  op : ByteArray
theorem Ky.ext' : ∀ {a b : Ky}, a.lv = b.lv → a.win = b.win → a.sv = b.sv → a.op = b.op → a = b
  | ⟨_, _, _, _⟩, ⟨_, _, _, _⟩, rfl, rfl, rfl, rfl => rfl
def cmpI (a b : Int) : Int := if a < b then -1 else if b < a then 1 else 0
def or2 (x y : Int) : Int := if x = 0 then y else x
def ordK (a b : Ky) : Int := or2 (cmpI a.lv b.lv) (or2 (cmpI a.win b.win) (or2 (cmpT a.sv b.sv) (cmpT a.op b.op)))

theorem rflipD : ∀ (a b : List UInt8), Lib.compareBytes b a = - Lib.compareBytes a b
  | [], [] => by simp [Lib.compareBytes]
  | [], _ :: _ => by simp [Lib.compareBytes]
  | _ :: _, [] => by simp [Lib.compareBytes]
  | a :: ra, b :: rb => by
    unfold Lib.compareBytes
    by_cases h : a < b
    · have h2 : ¬ b < a := fun h3 => absurd (UInt8.lt_trans h h3) (UInt8.lt_irrefl a)
      simp [h, h2]
    · by_cases h2 : b < a
      · simp [h, h2]
      · simp only [h, h2, if_false]
        exact rflipD ra rb
theorem rtransD : ∀ (a b c : List UInt8), Lib.compareBytes a b < 0 → Lib.compareBytes b c < 0 → Lib.compareBytes a c < 0
  | [], [], _, h, _ => by simp [Lib.compareBytes] at h
  | _ :: _, [], _, h, _ => by simp [Lib.compareBytes] at h
  | [], _ :: _, [], _, h => by simp [Lib.compareBytes] at h
  | _ :: _, _ :: _, [], _, h => by simp [Lib.compareBytes] at h
  | [], _ :: _, _ :: _, _, _ => by simp [Lib.compareBytes]
  | a :: ra, b :: rb, c :: rc, h1, h2 => by
    unfold Lib.compareBytes at h1 h2 ⊢
    by_cases ab : a < b
    · by_cases bc : b < c
      · simp [UInt8.lt_trans ab bc]
      · rw [if_neg bc] at h2
        by_cases cb : c < b
        · rw [if_pos cb] at h2; exact absurd h2 (by decide)
        · have e : b = c := UInt8.le_antisymm (UInt8.not_lt.1 cb) (UInt8.not_lt.1 bc)
          subst e
          simp [ab]
    · rw [if_neg ab] at h1
      by_cases ba : b < a
      · rw [if_pos ba] at h1; exact absurd h1 (by decide)
      · rw [if_neg ba] at h1
        have e : a = b := UInt8.le_antisymm (UInt8.not_lt.1 ba) (UInt8.not_lt.1 ab)
        subst e
        by_cases bc : a < c
        · simp [bc]
        · rw [if_neg bc] at h2 ⊢
          by_cases cb : c < a
          · rw [if_pos cb] at h2; exact absurd h2 (by decide)
          · rw [if_neg cb] at h2 ⊢
            exact rtransD ra rb rc h1 h2
theorem cmpT_flip (a b : ByteArray) : cmpT b a = - cmpT a b := rflipD _ _
theorem cmpT_trans {a b c : ByteArray} (h : cmpT a b < 0) (k : cmpT b c < 0) : cmpT a c < 0 := rtransD _ _ _ h k
theorem cmpI_flip (a b : Int) : cmpI b a = - cmpI a b := by
  unfold cmpI
  by_cases h1 : a < b
  · rw [if_neg (by omega), if_pos h1, if_pos h1]; rfl
  · by_cases h2 : b < a
    · rw [if_pos h2, if_neg h1, if_pos h2]
    · rw [if_neg h2, if_neg h1, if_neg h1, if_neg h2]; rfl
theorem cmpI_zero (a b : Int) : cmpI a b = 0 ↔ a = b := by unfold cmpI; split <;> (try split) <;> omega
theorem cmpI_ge (a b : Int) : -1 ≤ cmpI a b ∧ cmpI a b ≤ 1 := by unfold cmpI; split <;> (try split) <;> omega
theorem cmpI_lt (a b : Int) : cmpI a b < 0 ↔ a < b := by unfold cmpI; split <;> (try split) <;> omega
theorem or2_ge {x y : Int} (h : -1 ≤ x ∧ x ≤ 1) (k : -1 ≤ y ∧ y ≤ 1) : -1 ≤ or2 x y ∧ or2 x y ≤ 1 := by unfold or2; split <;> assumption
theorem or2_zero (x y : Int) : or2 x y = 0 ↔ x = 0 ∧ y = 0 := by unfold or2; split <;> omega
theorem or2_neg (x y : Int) : or2 (-x) (-y) = - or2 x y := by unfold or2; by_cases h : x = 0 <;> simp [h]
theorem ordK_ge (a b : Ky) : -1 ≤ ordK a b ∧ ordK a b ≤ 1 := or2_ge (cmpI_ge _ _) (or2_ge (cmpI_ge _ _) (or2_ge (cmpT_ge _ _) (cmpT_ge _ _)))
theorem ordK_zero (a b : Ky) : ordK a b = 0 ↔ a = b := by
  unfold ordK
  rw [or2_zero, or2_zero, or2_zero, cmpI_zero, cmpI_zero, cmpT_zero, cmpT_zero]
  exact ⟨fun ⟨h1, h2, h3, h4⟩ => Ky.ext' h1 h2 h3 h4, fun h => by subst h; exact ⟨rfl, rfl, rfl, rfl⟩⟩
theorem ordK_flip (a b : Ky) : ordK b a = - ordK a b := by
  unfold ordK
  rw [cmpI_flip a.lv b.lv, cmpI_flip a.win b.win, cmpT_flip a.sv b.sv, cmpT_flip a.op b.op, or2_neg, or2_neg, or2_neg]
def Tri (x y z : Int) : Prop := (x < 0 → y < 0 → z < 0) ∧ (x = 0 → z = y) ∧ (y = 0 → z = x)
theorem Tri.or2 {x y z x' y' z' : Int} (h : Tri x y z) (k : Tri x' y' z') : Tri (or2 x x') (or2 y y') (or2 z z') := by
  obtain ⟨h1, h2, h3⟩ := h
  obtain ⟨k1, k2, k3⟩ := k
  unfold Go.Proofs.YtkhhcnpmobgdgaaDoor.or2
  refine ⟨fun a b => ?_, fun a => ?_, fun a => ?_⟩
  · by_cases hx : x = 0
    · rw [if_pos hx] at a
      have e := h2 hx
      by_cases hy : y = 0
      · rw [if_pos hy] at b; rw [if_pos (by omega)]; exact k1 a b
      · rw [if_neg hy] at b; rw [if_neg (by omega)]; omega
    · rw [if_neg hx] at a
      by_cases hy : y = 0
      · rw [if_pos hy] at b; have e := h3 hy; rw [if_neg (by omega)]; omega
      · rw [if_neg hy] at b; have e := h1 a b; rw [if_neg (by omega)]; exact e
  · by_cases hx : x = 0
    · rw [if_pos hx] at a
      have e := h2 hx
      rw [e, k2 a]
    · rw [if_neg hx] at a; exact absurd a hx
  · by_cases hy : y = 0
    · rw [if_pos hy] at a
      have e := h3 hy
      rw [e, k3 a]
    · rw [if_neg hy] at a; exact absurd a hy
theorem cmpI_tri (a b c : Int) : Tri (cmpI a b) (cmpI b c) (cmpI a c) := by
  refine ⟨fun h k => ?_, fun h => ?_, fun h => ?_⟩
  · rw [cmpI_lt] at *; omega
  · rw [cmpI_zero] at h; rw [h]
  · rw [cmpI_zero] at h; rw [h]
theorem cmpT_tri (a b c : ByteArray) : Tri (cmpT a b) (cmpT b c) (cmpT a c) :=
  ⟨fun h k => cmpT_trans h k, fun h => by rw [(cmpT_zero _ _).1 h], fun h => by rw [(cmpT_zero _ _).1 h]⟩
theorem ordK_tri (a b c : Ky) : Tri (ordK a b) (ordK b c) (ordK a c) := (cmpI_tri _ _ _).or2 ((cmpI_tri _ _ _).or2 ((cmpT_tri _ _ _).or2 (cmpT_tri _ _ _)))
theorem ordK_trans {a b c : Ky} (h : ordK a b < 0) (k : ordK b c < 0) : ordK a c < 0 := (ordK_tri a b c).1 h k
theorem ordK_self (a : Ky) : ordK a a = 0 := (ordK_zero a a).2 rfl
instance : DecidableEq Ky := fun a b => if h : ordK a b = 0 then isTrue ((ordK_zero a b).1 h) else isFalse (fun e => h ((ordK_zero a b).2 e))

/-- A row. -/
structure Rw where
  k : Ky
  ct : List Int
def Rw.cells (r : Rw) : List Value := [.int .i64 r.k.lv, .int .i64 r.k.win, .string r.k.sv, .string r.k.op, .int .i64 (r.ct.getD 0 0), .int .i64 (r.ct.getD 1 0), .int .i64 (r.ct.getD 2 0), .int .i64 (r.ct.getD 3 0), .int .i64 (r.ct.getD 4 0), .int .i64 (r.ct.getD 5 0), .int .i64 (r.ct.getD 6 0), .int .i64 (r.ct.getD 7 0), .int .i64 (r.ct.getD 8 0), .int .i64 (r.ct.getD 9 0)]
theorem rcells_len (e : Rw) : e.cells.length = 14 := rfl
theorem rcells_one1 (e : Rw) : ∀ u ∈ e.cells, u.oneCell' = true := by
  intro u hu
  simp only [Rw.cells, List.mem_cons, List.not_mem_nil, or_false] at hu
  rcases hu with rfl | rfl | rfl | rfl | rfl | rfl | rfl | rfl | rfl | rfl | rfl | rfl | rfl | rfl <;> rfl
theorem rcells_one (l : List Rw) : ∀ u ∈ l.flatMap Rw.cells, u.oneCell' = true := by
  intro u hu
  obtain ⟨e, _, hu⟩ := List.mem_flatMap.1 hu
  exact rcells_one1 e u hu
theorem rflat_drop (l : List Rw) : ∀ k, (l.flatMap Rw.cells).drop (k * 14) = (l.drop k).flatMap Rw.cells := by
  induction l with
  | nil => intro k; simp
  | cons x r ih =>
    intro k
    cases k with
    | zero => simp
    | succ k =>
      rw [List.flatMap_cons, List.drop_succ_cons, ← ih k, List.drop_append]
      have h6 : x.cells.length = 14 := rfl
      rw [h6, List.drop_of_length_le (by rw [h6]; omega), List.nil_append, show (k + 1) * 14 - 14 = k * 14 by omega]
theorem rflat_take (l : List Rw) : ∀ k, (l.flatMap Rw.cells).take (k * 14) = (l.take k).flatMap Rw.cells := by
  induction l with
  | nil => intro k; simp
  | cons x r ih =>
    intro k
    cases k with
    | zero => simp
    | succ k =>
      rw [List.flatMap_cons, List.take_succ_cons, List.flatMap_cons, ← ih k, List.take_append]
      have h6 : x.cells.length = 14 := rfl
      rw [h6, List.take_of_length_le (by rw [h6]; omega), show (k + 1) * 14 - 14 = k * 14 by omega]
theorem rw_at {w : World} {B : Nat} {A : Option Addr} {l : List Rw} (h : Rd w B A (l.flatMap Rw.cells)) {k : Nat} {e : Rw} (he : l[k]? = some e) : ∃ a, A = some a ∧ a.block < B ∧ (∀ j u, e.cells[j]? = some u → w.cell? (a.add (k * 14 + j)) = some u) := by
  have hk : k < l.length := by
    rcases Nat.lt_or_ge k l.length with h | h
    · exact h
    · rw [List.getElem?_eq_none h] at he; cases he
  obtain ⟨a, hA, hb, hc⟩ := h (by rw [flatMap_len _ 14 rcells_len]; omega)
  refine ⟨a, hA, hb, fun j u hu => hc _ u ?_⟩
  have hj : j < 14 := by
    rcases Nat.lt_or_ge j 14 with h | h
    · exact h
    · rw [List.getElem?_eq_none (by rw [rcells_len]; exact h)] at hu; cases hu
  rw [flatMap_at _ 14 rcells_len l k j hj, he]
  exact hu

/-! Rows that stand in order. -/
def SortR (l : List Rw) : Prop := l.Pairwise fun a b => ordK a.k b.k < 0
def posR (l : List Rw) (k : Ky) : Nat := l.countP fun r => decide (ordK r.k k < 0)
def hitR (l : List Rw) (k : Ky) : Bool := (l[posR l k]?).any fun r => decide (ordK r.k k = 0)
theorem posR_le (l : List Rw) (k : Ky) : posR l k ≤ l.length := List.countP_le_length
theorem posR_lt : ∀ {l : List Rw} {k : Ky} {t : Nat} {f : Rw}, SortR l → l[t]? = some f → (ordK f.k k < 0 ↔ t < posR l k)
  | [], k, t, f, h, ht => by simp at ht
  | a :: r, k, 0, f, h, ht => by
    simp at ht
    subst ht
    unfold posR
    rw [List.countP_cons]
    constructor
    · intro h1; simp [h1]
    · intro h1
      by_cases h2 : ordK a.k k < 0
      · exact h2
      · exfalso
        simp only [h2, decide_false, Bool.false_eq_true, if_false] at h1
        obtain ⟨x, hx, hx2⟩ := List.countP_pos_iff.1 (by omega : 0 < r.countP fun f => decide (ordK f.k k < 0))
        exact h2 (ordK_trans ((List.pairwise_cons.1 h).1 x hx) (of_decide_eq_true hx2))
  | a :: r, k, t + 1, f, h, ht => by
    have ih := posR_lt (k := k) (t := t) (f := f) (List.pairwise_cons.1 h).2 (by simpa using ht)
    unfold posR at ih ⊢
    rw [List.countP_cons]
    by_cases h2 : ordK a.k k < 0
    · simp only [h2, decide_true, if_true]; omega
    · simp only [h2, decide_false, Bool.false_eq_true, if_false]
      constructor
      · intro h3
        exact absurd (ordK_trans ((List.pairwise_cons.1 h).1 f (List.mem_of_getElem? (by simpa using ht : r[t]? = some f))) h3) h2
      · intro h3
        obtain ⟨x, hx, hx2⟩ := List.countP_pos_iff.1 (by omega : 0 < r.countP fun f => decide (ordK f.k k < 0))
        exact absurd (ordK_trans ((List.pairwise_cons.1 h).1 x hx) (of_decide_eq_true hx2)) h2
/-- Counting in a row that stands in order. -/
def insR (k : Ky) (f : List Int → List Int) : List Rw → List Rw
  | [] => [⟨k, f []⟩]
  | r :: t => if ordK r.k k < 0 then r :: insR k f t else if ordK r.k k = 0 then ⟨k, f r.ct⟩ :: t else ⟨k, f []⟩ :: r :: t
def getR (k : Ky) : List Rw → Option (List Int)
  | [] => none
  | r :: t => if r.k = k then some r.ct else getR k t
theorem insR_keys (k : Ky) (f : List Int → List Int) : ∀ (l : List Rw) (r : Rw), r ∈ insR k f l → r.k = k ∨ r ∈ l
  | [], r, h => by simp [insR] at h; exact Or.inl (by rw [h])
  | a :: t, r, h => by
    unfold insR at h
    split at h
    · rcases List.mem_cons.1 h with h | h
      · exact Or.inr (by rw [h]; exact List.mem_cons_self)
      · rcases insR_keys k f t r h with h | h
        · exact Or.inl h
        · exact Or.inr (List.mem_cons_of_mem _ h)
    · split at h
      · rcases List.mem_cons.1 h with h | h
        · exact Or.inl (by rw [h])
        · exact Or.inr (List.mem_cons_of_mem _ h)
      · rcases List.mem_cons.1 h with h | h
        · exact Or.inl (by rw [h])
        · exact Or.inr h
theorem insR_sort (k : Ky) (f : List Int → List Int) : ∀ (l : List Rw), SortR l → SortR (insR k f l)
  | [], _ => List.pairwise_singleton _ _
  | a :: t, h => by
    obtain ⟨h1, h2⟩ := List.pairwise_cons.1 h
    unfold insR
    split
    · rename_i hc
      refine List.pairwise_cons.2 ⟨fun x hx => ?_, insR_sort k f t h2⟩
      rcases insR_keys k f t x hx with hx | hx
      · rw [hx]; exact hc
      · exact h1 x hx
    · rename_i hc
      split
      · rename_i hz
        have e := (ordK_zero _ _).1 hz
        refine List.pairwise_cons.2 ⟨fun x hx => ?_, h2⟩
        show ordK k x.k < 0
        rw [← e]; exact h1 x hx
      · rename_i hz
        have hk : ordK k a.k < 0 := by rw [ordK_flip]; omega
        refine List.pairwise_cons.2 ⟨fun x hx => ?_, h⟩
        rcases List.mem_cons.1 hx with hx | hx
        · rw [hx]; exact hk
        · exact ordK_trans hk (h1 x hx)
theorem getR_none {k : Ky} : ∀ {l : List Rw}, (∀ r ∈ l, r.k ≠ k) → getR k l = none
  | [], _ => rfl
  | a :: t, h => by
    unfold getR
    rw [if_neg (h a List.mem_cons_self)]
    exact getR_none fun r hr => h r (List.mem_cons_of_mem _ hr)
theorem getR_mem {k : Ky} {c : List Int} : ∀ {l : List Rw}, getR k l = some c → (⟨k, c⟩ : Rw) ∈ l
  | [], h => by cases h
  | a :: t, h => by
    unfold getR at h
    split at h
    · rename_i he
      injection h with h
      subst he; subst h
      exact List.mem_cons_self
    · exact List.mem_cons_of_mem _ (getR_mem h)
theorem getR_of {l : List Rw} (h : SortR l) {r : Rw} (hr : r ∈ l) : getR r.k l = some r.ct := by
  induction l with
  | nil => cases hr
  | cons a t ih =>
    obtain ⟨h1, h2⟩ := List.pairwise_cons.1 h
    unfold getR
    rcases List.mem_cons.1 hr with e | e
    · subst e; rw [if_pos rfl]
    · rw [if_neg (fun e2 => by have := h1 r e; rw [e2, ordK_self] at this; omega)]
      exact ih h2 e
theorem getR_ins (k : Ky) (f : List Int → List Int) (k' : Ky) : ∀ (l : List Rw), SortR l → getR k' (insR k f l) = if k' = k then some (f ((getR k l).getD [])) else getR k' l
  | [], _ => by
    unfold insR
    by_cases e : k' = k
    · rw [if_pos e]; unfold getR; rw [if_pos e.symm]; rfl
    · rw [if_neg e]; unfold getR; rw [if_neg (fun h => e h.symm)]; rfl
  | a :: t, h => by
    obtain ⟨h1, h2⟩ := List.pairwise_cons.1 h
    have ih := getR_ins k f k' t h2
    unfold insR
    split
    · rename_i hc
      have hne : a.k ≠ k := fun e => by rw [e, ordK_self] at hc; omega
      show (if a.k = k' then some a.ct else getR k' (insR k f t)) = _
      rw [ih]
      by_cases e : k' = k
      · subst e
        rw [if_neg hne, if_pos rfl, if_pos rfl]
        show _ = some (f ((if a.k = k' then some a.ct else getR k' t).getD []))
        rw [if_neg hne]
      · rw [if_neg e, if_neg e]; rfl
    · rename_i hc
      split
      · rename_i hz
        have e := (ordK_zero _ _).1 hz
        show (if k = k' then some (f a.ct) else getR k' t) = if k' = k then some (f ((if a.k = k then some a.ct else getR k t).getD [])) else (if a.k = k' then some a.ct else getR k' t)
        rw [if_pos e]
        by_cases e2 : k' = k
        · rw [if_pos e2, if_pos e2.symm]; rfl
        · rw [if_neg e2, if_neg (fun h => e2 h.symm), if_neg (fun h => e2 (by rw [← h, e]))]
      · rename_i hz
        have hk : ordK k a.k < 0 := by rw [ordK_flip]; omega
        have hno : getR k (a :: t) = none := getR_none fun r hr e => by
          rcases List.mem_cons.1 hr with h3 | h3
          · rw [← h3, e, ordK_self] at hk; omega
          · have := ordK_trans hk (h1 r h3); rw [e, ordK_self] at this; omega
        rw [hno]
        show (if k = k' then some (f []) else getR k' (a :: t)) = _
        by_cases e2 : k' = k
        · rw [if_pos e2, if_pos e2.symm]; rfl
        · rw [if_neg e2, if_neg (fun h => e2 h.symm)]
theorem rows_ext : ∀ {l m : List Rw}, SortR l → SortR m → (∀ k, getR k l = getR k m) → l = m
  | [], [], _, _, _ => rfl
  | [], b :: u, _, _, h => by have := h b.k; unfold getR at this; rw [if_pos rfl] at this; cases this
  | a :: t, [], _, _, h => by have := h a.k; unfold getR at this; rw [if_pos rfl] at this; cases this
  | a :: t, b :: u, h1, h2, h => by
    obtain ⟨p1, p2⟩ := List.pairwise_cons.1 h1
    obtain ⟨q1, q2⟩ := List.pairwise_cons.1 h2
    have hab : a.k = b.k := by
      have ha : (⟨a.k, a.ct⟩ : Rw) ∈ b :: u := getR_mem (by rw [← h a.k]; unfold getR; rw [if_pos rfl])
      have hb : (⟨b.k, b.ct⟩ : Rw) ∈ a :: t := getR_mem (by rw [h b.k]; unfold getR; rw [if_pos rfl])
      rcases List.mem_cons.1 ha with e | e
      · rw [← e]
      · rcases List.mem_cons.1 hb with e2 | e2
        · rw [← e2]
        · have := q1 _ e
          have := ordK_trans this (p1 _ e2)
          rw [ordK_self] at this; omega
    have hct : a.ct = b.ct := by
      have := h a.k
      unfold getR at this
      rw [if_pos rfl, if_pos hab.symm] at this
      injection this
    have e : a = b := by cases a; cases b; simp_all
    subst e
    congr 1
    refine rows_ext p2 q2 fun k => ?_
    by_cases e2 : a.k = k
    · rw [getR_none fun r hr e3 => by have := p1 r hr; rw [e3, e2, ordK_self] at this; omega, getR_none fun r hr e3 => by have := q1 r hr; rw [e3, e2, ordK_self] at this; omega]
    · have := h k
      unfold getR at this
      rw [if_neg e2, if_neg e2] at this
      exact this
/-- By places: a hit. -/
theorem insR_hit (k : Ky) (f : List Int → List Int) : ∀ {l : List Rw}, SortR l → hitR l k = true → ∃ r, l[posR l k]? = some r ∧ r.k = k ∧ posR l k < l.length ∧ insR k f l = l.take (posR l k) ++ ⟨k, f r.ct⟩ :: l.drop (posR l k + 1)
  | [], h, hh => by simp [hitR] at hh
  | a :: t, h, hh => by
    obtain ⟨h1, h2⟩ := List.pairwise_cons.1 h
    by_cases hc : ordK a.k k < 0
    · have hp : posR (a :: t) k = posR t k + 1 := by unfold posR; rw [List.countP_cons]; simp [hc]
      have hh2 : hitR t k = true := by unfold hitR at hh ⊢; rw [hp] at hh; simpa using hh
      obtain ⟨r, e1, e2, e3, e4⟩ := insR_hit k f h2 hh2
      refine ⟨r, by rw [hp]; simpa using e1, e2, by rw [hp]; simp; omega, ?_⟩
      rw [hp]
      show (if ordK a.k k < 0 then a :: insR k f t else _) = _
      rw [if_pos hc, e4]
      simp
    · have hp : posR (a :: t) k = 0 := by
        unfold posR; rw [List.countP_cons]
        have : (t.countP fun r => decide (ordK r.k k < 0)) = 0 := List.countP_eq_zero.2 fun r hr => by
          simp only [decide_eq_true_eq]
          exact fun h3 => hc (ordK_trans (h1 r hr) h3)
        simp [hc, this]
      have hz : ordK a.k k = 0 := by unfold hitR at hh; rw [hp] at hh; simpa using hh
      refine ⟨a, by rw [hp]; rfl, (ordK_zero _ _).1 hz, by rw [hp]; simp, ?_⟩
      rw [hp]
      show (if ordK a.k k < 0 then a :: insR k f t else if ordK a.k k = 0 then _ else _) = _
      rw [if_neg hc, if_pos hz]
      rfl
theorem insR_miss (k : Ky) (f : List Int → List Int) : ∀ {l : List Rw}, SortR l → hitR l k = false → insR k f l = l.take (posR l k) ++ ⟨k, f []⟩ :: l.drop (posR l k)
  | [], h, hh => rfl
  | a :: t, h, hh => by
    obtain ⟨h1, h2⟩ := List.pairwise_cons.1 h
    by_cases hc : ordK a.k k < 0
    · have hp : posR (a :: t) k = posR t k + 1 := by unfold posR; rw [List.countP_cons]; simp [hc]
      have hh2 : hitR t k = false := by unfold hitR at hh ⊢; rw [hp] at hh; simpa using hh
      have e4 := insR_miss k f h2 hh2
      rw [hp]
      show (if ordK a.k k < 0 then a :: insR k f t else _) = _
      rw [if_pos hc, e4]
      simp
    · have hp : posR (a :: t) k = 0 := by
        unfold posR; rw [List.countP_cons]
        have : (t.countP fun r => decide (ordK r.k k < 0)) = 0 := List.countP_eq_zero.2 fun r hr => by
          simp only [decide_eq_true_eq]
          exact fun h3 => hc (ordK_trans (h1 r hr) h3)
        simp [hc, this]
      have hz : ¬ ordK a.k k = 0 := by unfold hitR at hh; rw [hp] at hh; simpa using hh
      rw [hp]
      show (if ordK a.k k < 0 then a :: insR k f t else if ordK a.k k = 0 then _ else _) = _
      rw [if_neg hc, if_neg hz]
      rfl
theorem insR_len (k : Ky) (f : List Int → List Int) : ∀ l : List Rw, (insR k f l).length ≤ l.length + 1
  | [] => Nat.le_refl _
  | a :: t => by
    have := insR_len k f t
    unfold insR
    split
    · simp; exact this
    · split <;> simp
end Go.Proofs.YtkhhcnpmobgdgaaDoor
