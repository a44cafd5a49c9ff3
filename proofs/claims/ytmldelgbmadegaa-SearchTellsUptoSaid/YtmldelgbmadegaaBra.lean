/- Which traces a query asks for, plainly: no Go in sight. -/
import Derived.Test.YtmldelgbmadegaaBqbz
namespace Go.Proofs.Ytmldelgbmadegaa
open Go.RowKit
set_option linter.unusedVariables false
set_option linter.unusedSimpArgs false
set_option maxRecDepth 100000

/-- A query. -/
structure Qm where
  sv : ByteArray
  op : ByteArray
  ky : ByteArray
  vl : ByteArray
  du : Int
  er : Bool
/-- Is a text none? -/
def nilB (s : ByteArray) : Bool := s.toList.isEmpty
def eqB (s t : ByteArray) : Bool := s.toList == t.toList
def hasAt (k v : ByteArray) (l : List (ByteArray × ByteArray)) : Bool := l.any fun a => eqB a.1 k && eqB a.2 v
def Qm.mt (q : Qm) (s : Sp) : Bool :=
  (nilB q.sv || eqB q.sv s.sv) && (nilB q.op || eqB q.op s.op) && (nilB q.ky && nilB q.vl || hasAt q.ky q.vl s.ats) && (q.du == 0 || decide (q.du ≤ s.du)) && (!q.er || s.er)
def Qm.hit (q : Qm) (e : Le) : Bool := e.l.any fun x => q.mt x.s
/-- A trace. -/
abbrev Tc := Int × Int
def trE (e : Le) : Tc := (e.hi, e.lo)
def trC (t : Tc) : List Value := [.int .u64 t.1, .int .u64 t.2]
theorem trc_len (t : Tc) : (trC t).length = 2 := rfl
def ltC (a b : Tc) : Prop := a.1 < b.1 ∨ (a.1 = b.1 ∧ a.2 < b.2)
instance (a b : Tc) : Decidable (ltC a b) := by unfold ltC; exact inferInstance
theorem ltC_trans {a b c : Tc} (h : ltC a b) (k : ltC b c) : ltC a c := by unfold ltC at *; omega
theorem ltC_irr (a : Tc) : ¬ ltC a a := by unfold ltC; omega
theorem ltC_tri (a b : Tc) : ltC a b ∨ a = b ∨ ltC b a := by
  rcases Int.lt_trichotomy a.1 b.1 with h | h | h
  · exact .inl (.inl h)
  · rcases Int.lt_trichotomy a.2 b.2 with k | k | k
    · exact .inl (.inr ⟨h, k⟩)
    · exact .inr (.inl (Prod.ext h k))
    · exact .inr (.inr (.inr ⟨h.symm, k⟩))
  · exact .inr (.inr (.inl h))
theorem ltC_asym {a b : Tc} (h : ltC a b) : ¬ ltC b a := fun k => ltC_irr a (ltC_trans h k)
/-- They rise, each once. -/
def IncC : List Tc → Prop
  | [] => True
  | [_] => True
  | a :: b :: l => ltC a b ∧ IncC (b :: l)
theorem IncC.tail {a : Tc} {l : List Tc} (h : IncC (a :: l)) : IncC l := by
  cases l with
  | nil => trivial
  | cons b l => exact h.2
theorem IncC.above {a : Tc} {l : List Tc} (h : IncC (a :: l)) : ∀ x ∈ l, ltC a x := by
  induction l generalizing a with
  | nil => intro x hx; cases hx
  | cons b l ih =>
    intro x hx
    rcases List.mem_cons.1 hx with rfl | hx
    · exact h.1
    · exact ltC_trans h.1 (ih h.2 x hx)
theorem incC_cons {a : Tc} {l : List Tc} (h1 : ∀ x ∈ l, ltC a x) (h2 : IncC l) : IncC (a :: l) := by
  cases l with
  | nil => trivial
  | cons b l => exact ⟨h1 b (List.mem_cons_self ..), h2⟩
/-- Lists that rise and have the same ones are one. -/
theorem incC_ext {l m : List Tc} (hl : IncC l) (hm : IncC m) (h : ∀ x, x ∈ l ↔ x ∈ m) : l = m := by
  induction l generalizing m with
  | nil =>
    cases m with
    | nil => rfl
    | cons b m => exact absurd ((h b).2 (List.mem_cons_self ..)) (by simp)
  | cons a l ih =>
    cases m with
    | nil => exact absurd ((h a).1 (List.mem_cons_self ..)) (by simp)
    | cons b m =>
      have e : a = b := by
        rcases ltC_tri a b with k | k | k
        · rcases List.mem_cons.1 ((h a).1 (List.mem_cons_self ..)) with e | e
          · exact e
          · exact absurd k (ltC_asym (hm.above a e))
        · exact k
        · rcases List.mem_cons.1 ((h b).2 (List.mem_cons_self ..)) with e | e
          · exact e.symm
          · exact absurd k (ltC_asym (hl.above b e))
      subst e
      rw [ih hl.tail hm.tail (fun x => ?_)]
      constructor
      · intro hx
        rcases List.mem_cons.1 ((h x).1 (List.mem_cons_of_mem _ hx)) with e | e
        · subst e; exact absurd (hl.above x hx) (ltC_irr x)
        · exact e
      · intro hx
        rcases List.mem_cons.1 ((h x).2 (List.mem_cons_of_mem _ hx)) with e | e
        · subst e; exact absurd (hm.above x hx) (ltC_irr x)
        · exact e
def insC (t : Tc) : List Tc → List Tc
  | [] => [t]
  | x :: r => if ltC x t then x :: insC t r else if x = t then x :: r else t :: x :: r
theorem insC_mem (t : Tc) (l : List Tc) (x : Tc) : x ∈ insC t l ↔ x = t ∨ x ∈ l := by
  induction l with
  | nil => simp [insC]
  | cons y r ih =>
    unfold insC
    split
    · rw [List.mem_cons, ih, List.mem_cons]
      exact ⟨fun h => h.elim (fun h => .inr (.inl h)) (fun h => h.elim .inl (fun h => .inr (.inr h))), fun h => h.elim (fun h => .inr (.inl h)) (fun h => h.elim .inl (fun h => .inr (.inr h)))⟩
    · split
      · rename_i h; subst h; simp
      · simp
theorem insC_inc (t : Tc) (l : List Tc) (h : IncC l) : IncC (insC t l) := by
  induction l with
  | nil => trivial
  | cons y r ih =>
    unfold insC
    split
    · rename_i hy
      refine incC_cons (fun x hx => ?_) (ih h.tail)
      rcases (insC_mem t r x).1 hx with e | e
      · subst e; exact hy
      · exact h.above x e
    · split
      · exact h
      · rename_i h1 h2
        refine incC_cons (fun x hx => ?_) h
        have hty : ltC t y := (ltC_tri y t).elim (fun k => absurd k h1) (fun k => k.elim (fun k => absurd k h2) id)
        rcases List.mem_cons.1 hx with e | e
        · subst e; exact hty
        · exact ltC_trans hty (h.above x e)
/-- All of a list, in order, each once. -/
def setC (l : List Tc) : List Tc := l.foldl (fun o t => insC t o) []
theorem foldC_mem (l o : List Tc) (x : Tc) : x ∈ l.foldl (fun o t => insC t o) o ↔ x ∈ o ∨ x ∈ l := by
  induction l generalizing o with
  | nil => simp
  | cons a l ih =>
    rw [List.foldl_cons, ih, insC_mem, List.mem_cons]
    exact ⟨fun h => h.elim (fun h => h.elim (fun h => .inr (.inl h)) .inl) (fun h => .inr (.inr h)), fun h => h.elim (fun h => .inl (.inr h)) (fun h => h.elim (fun h => .inl (.inl h)) .inr)⟩
theorem foldC_inc (l o : List Tc) (h : IncC o) : IncC (l.foldl (fun o t => insC t o) o) := by
  induction l generalizing o with
  | nil => exact h
  | cons a l ih => exact ih _ (insC_inc a o h)
theorem setC_mem (l : List Tc) (x : Tc) : x ∈ setC l ↔ x ∈ l := by unfold setC; rw [foldC_mem]; simp
theorem setC_inc (l : List Tc) : IncC (setC l) := foldC_inc l [] trivial
theorem setC_snoc (l : List Tc) (t : Tc) : setC (l ++ [t]) = insC t (setC l) := by unfold setC; rw [List.foldl_append]; rfl
theorem setC_eq {l m : List Tc} (h : ∀ x, x ∈ l ↔ x ∈ m) : setC l = setC m := incC_ext (setC_inc l) (setC_inc m) (fun x => by rw [setC_mem, setC_mem, h])
theorem setC_of {l m : List Tc} (hm : IncC m) (h : ∀ x, x ∈ m ↔ x ∈ l) : m = setC l := incC_ext hm (setC_inc l) (fun x => by rw [setC_mem, h])
theorem insC_len (t : Tc) (l : List Tc) : (insC t l).length ≤ l.length + 1 := by
  induction l with
  | nil => simp [insC]
  | cons y r ih =>
    unfold insC
    split
    · simp; omega
    · split <;> simp
theorem setC_len (l : List Tc) : (setC l).length ≤ l.length := by
  have : ∀ (l o : List Tc), (l.foldl (fun o t => insC t o) o).length ≤ o.length + l.length := by
    intro l
    induction l with
    | nil => intro o; simp
    | cons a l ih =>
      intro o
      have h1 := ih (insC a o)
      have h2 := insC_len a o
      rw [List.foldl_cons, List.length_cons]
      omega
  have h := this l []
  unfold setC
  simpa using h
/-- Where a trace goes, and whether it is there. -/
theorem insC_at (t : Tc) (l : List Tc) (h : IncC l) (k : Nat) (hk : k ≤ l.length) (hb : ∀ i x, i < k → l[i]? = some x → ltC x t) (ha : ∀ x, l[k]? = some x → ¬ ltC x t) : insC t l = if l[k]? = some t then l else l.take k ++ t :: l.drop k := by
  induction l generalizing k with
  | nil =>
    have : k = 0 := by simpa using hk
    subst this
    rfl
  | cons y r ih =>
    cases k with
    | zero =>
      have h1 := ha y rfl
      unfold insC
      rw [if_neg h1]
      by_cases e : y = t
      · rw [if_pos e, if_pos (by rw [e]; rfl)]
      · rw [if_neg e, if_neg (by intro h; exact e (by simpa using h))]
        rfl
    | succ k =>
      have h1 := hb 0 y (Nat.succ_pos _) rfl
      unfold insC
      rw [if_pos h1, ih h.tail k (by simpa using hk) (fun i x hi hx => hb (i + 1) x (by omega) (by simpa using hx)) (fun x hx => ha x (by simpa using hx))]
      simp only [List.getElem?_cons_succ, List.take_succ_cons, List.drop_succ_cons, List.cons_append]
      split <;> rfl
/-- The traces that a query asks for. -/
def Qm.hits (q : Qm) (l : List Bl) : List Tc := ((l.flatMap Bl.l).filter q.hit).map trE
def Qm.all (q : Qm) (l : List Bl) : List Tc := setC (q.hits l)
theorem hits_len (q : Qm) (l : List Bl) : (q.hits l).length ≤ (l.flatMap Bl.l).length := by unfold Qm.hits; rw [List.length_map]; exact List.length_filter_le _ _
theorem all_len (q : Qm) (l : List Bl) : (q.all l).length ≤ (l.flatMap Bl.l).length := Nat.le_trans (setC_len _) (hits_len q l)
/-- A sorted row, each once. -/
def ddC : List Tc → List Tc
  | [] => []
  | [a] => [a]
  | a :: b :: l => if a = b then ddC (b :: l) else a :: ddC (b :: l)
theorem ordT_neg (a b : Tc) : (ordT a.1 a.2 b.1 b.2 < 0) ↔ ltC a b := by
  unfold ordT cmpI ltC
  rcases Int.lt_trichotomy a.1 b.1 with h | h | h
  · simp [h]
  · rw [h]
    rcases Int.lt_trichotomy a.2 b.2 with k | k | k
    · simp [k]
    · rw [k]; simp
    · simp [k, show ¬ a.2 < b.2 by omega]
  · simp [h, show ¬ a.1 < b.1 by omega, show ¬ a.1 = b.1 by omega]
/-- Sorted: none below the one ahead. -/
def SrtC (l : List Tc) : Prop := ∀ (i j : Nat) (a b : Tc), i < j → l[i]? = some a → l[j]? = some b → ¬ ltC b a
theorem incC_snoc {l : List Tc} {t : Tc} (h : IncC l) (ha : ∀ x ∈ l, ltC x t) : IncC (l ++ [t]) := by
  induction l with
  | nil => trivial
  | cons a l ih =>
    refine incC_cons (fun x hx => ?_) (ih h.tail (fun x hx => ha x (List.mem_cons_of_mem _ hx)))
    rcases List.mem_append.1 hx with e | e
    · exact h.above x e
    · rw [List.mem_singleton.1 e]; exact ha a (List.mem_cons_self ..)
theorem incC_last {l : List Tc} {y : Tc} (h : IncC l) (hy : l.getLast? = some y) : ∀ x ∈ l, x = y ∨ ltC x y := by
  induction l with
  | nil => intro x hx; cases hx
  | cons a l ih =>
    cases l with
    | nil =>
      intro x hx
      have e : a = y := by simpa using hy
      rw [List.mem_singleton.1 hx]
      exact .inl e
    | cons b l =>
      have hy' : (b :: l).getLast? = some y := by rw [← hy]; simp [List.getLast?_cons_cons]
      intro x hx
      rcases List.mem_cons.1 hx with e | e
      · subst e
        rcases ih h.2 hy' b (List.mem_cons_self ..) with k | k
        · rw [← k]; exact .inr h.1
        · exact .inr (ltC_trans h.1 k)
      · exact ih h.2 hy' x e
/-- What Compact holds: the first ones of the row rise, and are all that were read. -/
structure CmpI (l out : List Tc) (j : Nat) : Prop where
  inc : IncC out
  mem : ∀ x, x ∈ out ↔ x ∈ l.take j
  last : ∃ y, out.getLast? = some y ∧ l[j - 1]? = some y
  le : out.length + 1 ≤ j ∧ j ≤ l.length
theorem take_last {l : List Tc} {k : Nat} (h1 : 1 ≤ k) (h2 : k ≤ l.length) : ∃ y, (l.take k).getLast? = some y ∧ l[k - 1]? = some y := by
  obtain ⟨y, hy⟩ : ∃ y, l[k - 1]? = some y := ⟨_, List.getElem?_eq_getElem (by omega)⟩
  refine ⟨y, ?_, hy⟩
  rw [List.getLast?_eq_getElem?, List.length_take, Nat.min_eq_left h2, List.getElem?_take_of_lt (by omega)]
  exact hy
theorem mem_take_succ {l : List Tc} {j : Nat} {x : Tc} (hx : l[j]? = some x) (z : Tc) : z ∈ l.take (j + 1) ↔ z ∈ l.take j ∨ z = x := by
  rw [List.take_add_one, hx, List.mem_append]
  simp
theorem srt_next {l : List Tc} (hS : SrtC l) {j : Nat} {x y : Tc} (hj : 1 ≤ j) (hx : l[j]? = some x) (hy : l[j - 1]? = some y) (hne : x ≠ y) : ltC y x := by
  rcases ltC_tri y x with k | k | k
  · exact k
  · exact absurd k.symm hne
  · exact absurd k (hS (j - 1) j y x (by omega) hy hx)
theorem inc_take_step {l : List Tc} (hS : SrtC l) {k : Nat} {x y : Tc} (h1 : 1 ≤ k) (h : IncC (l.take k)) (hx : l[k]? = some x) (hy : l[k - 1]? = some y) (hne : x ≠ y) : IncC (l.take (k + 1)) := by
  rw [List.take_add_one, hx]
  have hk : k < l.length := (List.getElem?_eq_some_iff.1 hx).1
  obtain ⟨z, hz1, hz2⟩ := take_last h1 (Nat.le_of_lt hk)
  rw [hy] at hz2
  obtain rfl := Option.some.inj hz2
  have hlt := srt_next hS h1 hx hy hne
  exact incC_snoc h (fun a ha => (incC_last h hz1 a ha).elim (fun e => by rw [e]; exact hlt) (fun e => ltC_trans e hlt))
theorem CmpI.first {l : List Tc} {k : Nat} {x : Tc} (h1 : 1 ≤ k) (h : IncC (l.take k)) (hx : l[k]? = some x) (hy : l[k - 1]? = some x) : CmpI l (l.take k) (k + 1) := by
  have hk : k < l.length := (List.getElem?_eq_some_iff.1 hx).1
  obtain ⟨z, hz1, hz2⟩ := take_last h1 (Nat.le_of_lt hk)
  rw [hy] at hz2
  obtain rfl := Option.some.inj hz2
  refine ⟨h, fun a => ?_, ⟨x, hz1, by simpa using hx⟩, by rw [List.length_take]; omega⟩
  rw [mem_take_succ hx]
  refine ⟨.inl, fun e => e.elim id (fun e => ?_)⟩
  rw [e]
  exact List.mem_of_getLast? hz1
theorem CmpI.same {l out : List Tc} {j : Nat} {x : Tc} (h : CmpI l out j) (hx : l[j]? = some x) (hy : l[j - 1]? = some x) : CmpI l out (j + 1) := by
  have hj : j < l.length := (List.getElem?_eq_some_iff.1 hx).1
  obtain ⟨z, hz1, hz2⟩ := h.last
  rw [hy] at hz2
  obtain rfl := Option.some.inj hz2
  refine ⟨h.inc, fun a => ?_, ⟨x, hz1, by simpa using hx⟩, by have := h.le; omega⟩
  rw [mem_take_succ hx, h.mem]
  refine ⟨.inl, fun e => e.elim id (fun e => ?_)⟩
  rw [e]
  exact (h.mem x).1 (List.mem_of_getLast? hz1)
theorem CmpI.next {l out : List Tc} {j : Nat} {x y : Tc} (h : CmpI l out j) (hS : SrtC l) (hx : l[j]? = some x) (hy : l[j - 1]? = some y) (hne : x ≠ y) : CmpI l (out ++ [x]) (j + 1) := by
  have hj : j < l.length := (List.getElem?_eq_some_iff.1 hx).1
  have hle := h.le
  obtain ⟨z, hz1, hz2⟩ := h.last
  rw [hy] at hz2
  obtain rfl := Option.some.inj hz2
  have hlt := srt_next hS (by omega) hx hy hne
  refine ⟨incC_snoc h.inc (fun a ha => (incC_last h.inc hz1 a ha).elim (fun e => by rw [e]; exact hlt) (fun e => ltC_trans e hlt)), fun a => ?_, ⟨x, by simp, by simpa using hx⟩, by simp; omega⟩
  rw [mem_take_succ hx, List.mem_append, h.mem, List.mem_singleton]
theorem CmpI.fin {l out : List Tc} (h : CmpI l out l.length) : out = setC l := setC_of h.inc (fun x => by rw [h.mem, List.take_length])
theorem inc_fin {l : List Tc} (h : IncC l) : l = setC l := setC_of h (fun x => Iff.rfl)
end Go.Proofs.Ytmldelgbmadegaa
