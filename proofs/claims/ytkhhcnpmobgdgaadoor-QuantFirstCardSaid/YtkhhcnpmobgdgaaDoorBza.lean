/- The busiest, plainly: what is counted of each service and operation, and how they stand. No Go in sight. -/
import Derived.Test.YtkhhcnpmobgdgaaDoorYa
namespace Go.Proofs.YtkhhcnpmobgdgaaDoor
open Go.RowKit
set_option linter.unusedVariables false
set_option linter.unusedSimpArgs false
set_option maxRecDepth 100000

/-- One of the busiest. -/
structure Bz where
  sv : ByteArray
  op : ByteArray
  ct : Int
  er : Int
instance : Inhabited Bz := ⟨⟨ByteArray.empty, ByteArray.empty, 0, 0⟩⟩
def Bz.cells (b : Bz) : List Value := [.string b.sv, .string b.op, .int .i64 b.ct, .int .i64 b.er]
theorem bzcells_len (b : Bz) : b.cells.length = 4 := rfl
theorem bzcells_one1 (b : Bz) : ∀ u ∈ b.cells, u.oneCell' = true := by
  intro u hu
  simp only [Bz.cells, List.mem_cons, List.not_mem_nil, or_false] at hu
  rcases hu with rfl | rfl | rfl | rfl <;> rfl
theorem bzcells_one (l : List Bz) : ∀ u ∈ l.flatMap Bz.cells, u.oneCell' = true := by
  intro u hu
  obtain ⟨e, _, hu⟩ := List.mem_flatMap.1 hu
  exact bzcells_one1 e u hu
theorem bz_at {w : World} {B : Nat} {A : Option Addr} {l : List Bz} (h : Rd w B A (l.flatMap Bz.cells)) {k : Nat} {e : Bz} (he : l[k]? = some e) : ∃ a, A = some a ∧ a.block < B ∧ (∀ j u, e.cells[j]? = some u → w.cell? (a.add (k * 4 + j)) = some u) := by
  have hk : k < l.length := (List.getElem?_eq_some_iff.1 he).1
  obtain ⟨a, hA, hb, hc⟩ := h (by rw [flatMap_len _ 4 bzcells_len]; omega)
  refine ⟨a, hA, hb, fun j u hu => hc _ u ?_⟩
  have hj : j < 4 := by
    rcases Nat.lt_or_ge j 4 with h | h
    · exact h
    · rw [List.getElem?_eq_none (by rw [bzcells_len]; exact h)] at hu; cases hu
  rw [flatMap_at _ 4 bzcells_len l k j hj, he]
  exact hu
def okRz (l : List Rw) : Prop := ∀ r ∈ l, okC r.ct
/-- A name: service and operation. -/
abbrev Bk2 := ByteArray × ByteArray
def Bz.k (b : Bz) : Bk2 := (b.sv, b.op)
def ordB (a b : Bz) : Int := or2 (cmpI b.ct a.ct) (or2 (cmpT a.sv b.sv) (cmpT a.op b.op))
theorem ordB_flip (a b : Bz) : ordB b a = - ordB a b := by
  unfold ordB
  rw [cmpI_flip b.ct a.ct, cmpT_flip a.sv b.sv, cmpT_flip a.op b.op, or2_neg, or2_neg]
theorem ordB_tri (a b c : Bz) : Tri (ordB a b) (ordB b c) (ordB a c) := by
  refine Tri.or2 ?_ ((cmpT_tri _ _ _).or2 (cmpT_tri _ _ _))
  obtain ⟨h1, h2, h3⟩ := cmpI_tri c.ct b.ct a.ct
  exact ⟨fun a b => h1 b a, h3, h2⟩
theorem ordB_trans {a b c : Bz} (h : ordB a b < 0) (k : ordB b c < 0) : ordB a c < 0 := (ordB_tri a b c).1 h k
theorem ordB_self (a : Bz) : ordB a a = 0 := by have := ordB_flip a a; omega
theorem ordB_zero {a b : Bz} (h : ordB a b = 0) : a.k = b.k := by
  unfold ordB at h
  rw [or2_zero, or2_zero, cmpT_zero, cmpT_zero] at h
  unfold Bz.k
  rw [h.2.1, h.2.2]
/-- Counting one row's. -/
def bumpB (k : Bk2) (c e : Int) : List Bz → List Bz
  | [] => [⟨k.1, k.2, Bm.plus 0 c, Bm.plus 0 e⟩]
  | b :: t => if b.k = k then ⟨k.1, k.2, Bm.plus b.ct c, Bm.plus b.er e⟩ :: t else b :: bumpB k c e t
def stepB (lv : Int) (l : List Bz) (r : Rw) : List Bz := if r.k.lv = lv then bumpB (r.k.sv, r.k.op) (r.ct.getD 0 0) (r.ct.getD 1 0) l else l
def aggB (lv : Int) (l : List Rw) : List Bz := l.foldl (stepB lv) []
theorem aggB_snoc (lv : Int) (l : List Rw) (r : Rw) : aggB lv (l ++ [r]) = stepB lv (aggB lv l) r := by unfold aggB; rw [List.foldl_append]; rfl
/-- Where a name stands. -/
def plcB (l : List Bz) (k : Bk2) : Option Nat := l.findIdx? fun b => decide (b.k = k)
theorem bump_miss {k : Bk2} {c e : Int} : ∀ {l : List Bz}, plcB l k = none → bumpB k c e l = l ++ [⟨k.1, k.2, Bm.plus 0 c, Bm.plus 0 e⟩]
  | [], _ => rfl
  | b :: t, h => by
    unfold plcB at h
    rw [List.findIdx?_cons] at h
    by_cases hb : b.k = k
    · rw [decide_eq_true hb] at h; simp at h
    · rw [decide_eq_false hb] at h
      simp only [Bool.false_eq_true, if_false, Option.map_eq_none_iff] at h
      unfold bumpB
      rw [if_neg hb, bump_miss (l := t) h]
      rfl
theorem bump_hit {k : Bk2} {c e : Int} : ∀ {l : List Bz} {i : Nat}, plcB l k = some i → ∃ b, l[i]? = some b ∧ b.k = k ∧ i < l.length ∧ bumpB k c e l = l.set i ⟨k.1, k.2, Bm.plus b.ct c, Bm.plus b.er e⟩
  | [], i, h => by cases h
  | b :: t, i, h => by
    unfold plcB at h
    rw [List.findIdx?_cons] at h
    by_cases hb : b.k = k
    · rw [decide_eq_true hb] at h
      simp only [if_true, Option.some.injEq] at h
      subst h
      exact ⟨b, rfl, hb, by simp, by unfold bumpB; rw [if_pos hb]; rfl⟩
    · rw [decide_eq_false hb] at h
      simp only [Bool.false_eq_true, if_false, Option.map_eq_some_iff] at h
      obtain ⟨j, hj, rfl⟩ := h
      obtain ⟨x, h1, h2, h3, h4⟩ := bump_hit (c := c) (e := e) (l := t) hj
      refine ⟨x, by simpa using h1, h2, by simp; omega, ?_⟩
      unfold bumpB
      rw [if_neg hb, h4]
      rfl
theorem plc_bump {k : Bk2} {c e : Int} : ∀ (l : List Bz) (u : Bk2), plcB (bumpB k c e l) u = if u = k then (match plcB l k with | some i => some i | none => some l.length) else plcB l u
  | [], u => by
    unfold bumpB plcB
    rw [List.findIdx?_cons]
    by_cases hu : u = k
    · subst hu; simp [Bz.k]
    · have : ¬ ((k.1, k.2) : Bk2) = u := fun h => hu h.symm
      simp [Bz.k, hu, this]
  | b :: t, u => by
    unfold bumpB
    by_cases hb : b.k = k
    · rw [if_pos hb]
      unfold plcB
      rw [List.findIdx?_cons, List.findIdx?_cons, List.findIdx?_cons]
      have e1 : Bz.k ⟨k.1, k.2, Bm.plus b.ct c, Bm.plus b.er e⟩ = k := rfl
      rw [e1, hb]
      by_cases hu : u = k
      · subst hu; simp
      · simp [hu]
    · rw [if_neg hb]
      have ih := plc_bump (k := k) (c := c) (e := e) t u
      unfold plcB at ih ⊢
      rw [List.findIdx?_cons, ih, List.findIdx?_cons, List.findIdx?_cons]
      by_cases hu : u = k
      · subst hu
        rw [decide_eq_false hb]
        simp only [Bool.false_eq_true, if_false, if_true]
        cases h : List.findIdx? (fun b => decide (b.k = u)) t <;> simp
      · simp only [if_neg hu]
theorem bump_keys {k : Bk2} {c e : Int} : ∀ (l : List Bz) (b : Bz), b ∈ bumpB k c e l → b.k = k ∨ ∃ x ∈ l, x.k = b.k
  | [], b, h => by
    simp [bumpB] at h; subst h; exact .inl rfl
  | a :: t, b, h => by
    unfold bumpB at h
    split at h
    · rcases List.mem_cons.1 h with rfl | h
      · exact .inl rfl
      · exact .inr ⟨b, List.mem_cons_of_mem _ h, rfl⟩
    · rcases List.mem_cons.1 h with rfl | h
      · exact .inr ⟨b, List.mem_cons_self, rfl⟩
      · rcases bump_keys t b h with h | ⟨x, hx, he⟩
        · exact .inl h
        · exact .inr ⟨x, List.mem_cons_of_mem _ hx, he⟩
def OneB (l : List Bz) : Prop := l.Pairwise fun a b => a.k ≠ b.k
theorem bump_one {k : Bk2} {c e : Int} : ∀ {l : List Bz}, OneB l → OneB (bumpB k c e l)
  | [], _ => List.pairwise_singleton _ _
  | a :: t, h => by
    obtain ⟨h1, h2⟩ := List.pairwise_cons.1 h
    unfold bumpB
    split
    · rename_i hk
      refine List.pairwise_cons.2 ⟨fun x hx => ?_, h2⟩
      show k ≠ x.k
      rw [← hk]; exact h1 x hx
    · rename_i hk
      refine List.pairwise_cons.2 ⟨fun x hx => ?_, bump_one h2⟩
      rcases bump_keys t x hx with h3 | ⟨y, hy, h3⟩
      · rw [h3]; exact hk
      · rw [← h3]; exact h1 y hy
theorem aggB_one (lv : Int) (l : List Rw) : OneB (aggB lv l) := by
  unfold aggB
  have : ∀ (r : List Rw) (a : List Bz), OneB a → OneB (r.foldl (stepB lv) a) := by
    intro r
    induction r with
    | nil => intro a h; exact h
    | cons x r ih =>
      intro a h
      rw [List.foldl_cons]
      refine ih _ ?_
      unfold stepB
      split
      · exact bump_one h
      · exact h
  exact this l [] List.Pairwise.nil
theorem bump_len {k : Bk2} {c e : Int} : ∀ (l : List Bz), (bumpB k c e l).length ≤ l.length + 1
  | [] => Nat.le_refl _
  | a :: t => by
    unfold bumpB
    split
    · simp
    · have := bump_len (k := k) (c := c) (e := e) t
      simp only [List.length_cons]; omega
theorem step_len (lv : Int) (l : List Bz) (r : Rw) : (stepB lv l r).length ≤ l.length + 1 := by
  unfold stepB; split
  · exact bump_len l
  · omega
theorem aggB_len (lv : Int) (l : List Rw) : (aggB lv l).length ≤ l.length := by
  unfold aggB
  have : ∀ (r : List Rw) (a : List Bz), (r.foldl (stepB lv) a).length ≤ a.length + r.length := by
    intro r
    induction r with
    | nil => intro a; simp
    | cons x r ih =>
      intro a
      rw [List.foldl_cons]
      have := ih (stepB lv a x)
      have := step_len lv a x
      simp only [List.length_cons]; omega
  have := this l []
  simpa using this
/-! How they stand. -/
def SortB (l : List Bz) : Prop := l.Pairwise fun a b => ordB a b < 0
def insB (x : Bz) : List Bz → List Bz
  | [] => [x]
  | b :: t => if ordB x b < 0 then x :: b :: t else b :: insB x t
def srtB : List Bz → List Bz := fun l => l.foldl (fun a x => insB x a) []
theorem srtB_snoc (l : List Bz) (x : Bz) : srtB (l ++ [x]) = insB x (srtB l) := by unfold srtB; rw [List.foldl_append]; rfl
theorem insB_perm (x : Bz) : ∀ l : List Bz, (insB x l).Perm (x :: l)
  | [] => List.Perm.refl _
  | b :: t => by
    unfold insB
    split
    · exact List.Perm.refl _
    · exact ((insB_perm x t).cons b).trans (List.Perm.swap x b t)
theorem srtB_perm (l : List Bz) : (srtB l).Perm l := by
  have : ∀ r : List Bz, (srtB r.reverse).Perm r.reverse := by
    intro r
    induction r with
    | nil => exact List.Perm.refl _
    | cons x r ih =>
      rw [List.reverse_cons, srtB_snoc]
      exact (insB_perm x _).trans ((ih.cons x).trans (by simpa using (List.perm_append_comm (l₁ := [x]) (l₂ := r.reverse))))
  have h := this l.reverse
  rwa [List.reverse_reverse] at h
theorem srtB_len (l : List Bz) : (srtB l).length = l.length := (srtB_perm l).length_eq
theorem insB_sort {x : Bz} : ∀ {l : List Bz}, SortB l → (∀ b ∈ l, b.k ≠ x.k) → SortB (insB x l)
  | [], _, _ => List.pairwise_singleton _ _
  | b :: t, h, hk => by
    obtain ⟨h1, h2⟩ := List.pairwise_cons.1 h
    unfold insB
    split
    · rename_i hx
      refine List.pairwise_cons.2 ⟨fun y hy => ?_, h⟩
      rcases List.mem_cons.1 hy with rfl | hy
      · exact hx
      · exact ordB_trans hx (h1 y hy)
    · rename_i hx
      have hb : ordB b x < 0 := by
        have h3 := ordB_flip b x
        have h4 : ordB b x ≠ 0 := fun h0 => hk b List.mem_cons_self (ordB_zero h0)
        omega
      refine List.pairwise_cons.2 ⟨fun y hy => ?_, insB_sort h2 fun y hy => hk y (List.mem_cons_of_mem _ hy)⟩
      rcases List.mem_cons.1 ((insB_perm x t).mem_iff.1 hy) with rfl | hy
      · exact hb
      · exact h1 y hy
theorem srtB_sort {l : List Bz} (h : OneB l) : SortB (srtB l) := by
  have : ∀ r : List Bz, OneB r.reverse → SortB (srtB r.reverse) := by
    intro r
    induction r with
    | nil => intro _; exact List.Pairwise.nil
    | cons x r ih =>
      intro h
      rw [List.reverse_cons] at h ⊢
      rw [srtB_snoc]
      obtain ⟨h1, h2, h3⟩ := List.pairwise_append.1 h
      refine insB_sort (ih h1) fun b hb => h3 b ((srtB_perm _).mem_iff.1 hb) x (List.mem_singleton.2 rfl)
  have h2 := this l.reverse (by rwa [List.reverse_reverse])
  rwa [List.reverse_reverse] at h2
theorem sortB_ext : ∀ {l m : List Bz}, SortB l → SortB m → l.Perm m → l = m
  | [], m, _, _, h => (List.Perm.nil_eq h)
  | a :: t, [], _, _, h => absurd h.length_eq (by simp)
  | a :: t, b :: u, h1, h2, h => by
    obtain ⟨p1, p2⟩ := List.pairwise_cons.1 h1
    obtain ⟨q1, q2⟩ := List.pairwise_cons.1 h2
    have hab : a = b := by
      rcases List.mem_cons.1 (h.mem_iff.1 List.mem_cons_self) with e | e
      · exact e
      · rcases List.mem_cons.1 (h.symm.mem_iff.1 (List.mem_cons_self (a := b) (l := u))) with e2 | e2
        · exact e2.symm
        · have := ordB_trans (q1 _ e) (p1 _ e2)
          rw [ordB_self] at this; omega
    subst hab
    rw [sortB_ext p2 q2 (List.perm_cons a |>.1 h)]
/-- Whatever stands in order, of the same, is that. -/
theorem srtB_eq {l m : List Bz} (h1 : OneB l) (h2 : m.Perm l) (h3 : SortB m) : m = srtB l := sortB_ext h3 (srtB_sort h1) (h2.trans (srtB_perm l).symm)
/-- From 'none less' and different names: strictly. -/
theorem sortB_of {l : List Bz} (h1 : OneB l) (h2 : ∀ (i j : Nat) (a b : Bz), i < j → l[i]? = some a → l[j]? = some b → ¬ ordB b a < 0) : SortB l := by
  refine List.pairwise_iff_getElem.2 fun i j hi hj hij => ?_
  have h3 := h2 i j l[i] l[j] hij (List.getElem?_eq_getElem hi) (List.getElem?_eq_getElem hj)
  have h4 : l[i].k ≠ l[j].k := List.pairwise_iff_getElem.1 h1 i j hi hj hij
  have h5 := ordB_flip l[i] l[j]
  have h6 : ordB l[i] l[j] ≠ 0 := fun h0 => h4 (ordB_zero h0)
  omega
theorem oneB_perm {l m : List Bz} (h : l.Perm m) (h1 : OneB m) : OneB l := (List.Perm.pairwise_iff (R := fun (a b : Bz) => a.k ≠ b.k) (fun h => h.symm) h).2 h1
end Go.Proofs.YtkhhcnpmobgdgaaDoor
