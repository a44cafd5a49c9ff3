/- A region that draws its order: each operation shown once, on what it waits for; whatever order the tape picks, all that was shown holds behind it. R: how the world may turn within the region; G k: what holds till operation k is carried out (it may use it up; the others keep it). Over any program. -/
import Derived.Orders
import Derived.Below
import Derived.WalkKit
namespace Go.Proofs.Ythkclgkbidhmbaa.PG
open Go.RowKit
set_option linter.unusedVariables false

/-- How worlds may turn: from each to itself, and on. -/
structure Goes (R : World → World → Prop) : Prop where
  refl : ∀ w, R w w
  trans : ∀ a b c, R a b → R b c → R a c
section
variable {P : Program} {ops : Array Oper} {a0 : Act} {w0 : World} {R : World → World → Prop} {G : Nat → World → Prop} {F : Nat → Value → World → Prop} {Q : Exit → Act → World → Prop}

/-- What operation i may lean on: of those that it waits for, what was shown; of a temporary that nobody turns ahead of it, what lay there. -/
structure ToldG (ops : Array Oper) (a0 : Act) (R : World → World → Prop) (G : Nat → World → Prop) (F : Nat → Value → World → Prop) (i : Nat) (o : Oper) (a : Act) (w : World) : Prop where
  dep : ∀ e ∈ o.after, Region.binds .any e = true → ∀ oj d, ops[e.on]? = some oj → oj.dst = some d → F e.on (a.tmps.getD d undef) w
  old : ∀ t, (∀ j oj, ops[j]? = some oj → oj.dst = some t → j = i ∨ ∃ e ∈ oj.after, Region.binds .any e = true ∧ e.on = i) → a.tmps.getD t undef = a0.tmps.getD t undef
  defers : a.defers = a0.defers
  res : ∀ k, (k = i ∨ ∃ ok, ops[k]? = some ok ∧ ∃ e ∈ ok.after, Region.binds .any e = true ∧ e.on = i) → G k w

/-- Operation i keeps what was shown of the others, but of those that wait for it. -/
def KeepsF (ops : Array Oper) (F : Nat → Value → World → Prop) (i : Nat) (w w' : World) : Prop :=
  ∀ j v, j ≠ i → (∀ oj, ops[j]? = some oj → ∀ e ∈ oj.after, Region.binds .any e = true → e.on ≠ i) → F j v w → F j v w'
/-- Operation i, shown. -/
def ShownG (P : Program) (ops : Array Oper) (a0 : Act) (w0 : World) (R : World → World → Prop) (G : Nat → World → Prop) (F : Nat → Value → World → Prop) (Q : Exit → Act → World → Prop) (i : Nat) (o : Oper) : Prop :=
  ∀ a w, R w0 w → ToldG ops a0 R G F i o a w →
    if Region.wanted o (yielded ops a.tmps) = true then Oper.wp P o a w (fun a' w' => ∃ v, a' = a.put o.dst v ∧ R w w' ∧ F i v w' ∧ (∀ k, k ≠ i → G k w → G k w') ∧ KeepsF ops F i w w') Q else F i undef w

structure PInvG (ops : Array Oper) (a0 : Act) (w0 : World) (R : World → World → Prop) (G : Nat → World → Prop) (F : Nat → Value → World → Prop) (listed : Array Bool) (a : Act) (w : World) : Prop where
  below : R w0 w
  res : ∀ k, listed.getD k false = false → G k w
  defers : a.defers = a0.defers
  size : a.tmps.size = a0.tmps.size
  lsize : listed.size = ops.size
  fact : ∀ i o d, ops[i]? = some o → o.dst = some d → listed.getD i false = true → F i (a.tmps.getD d undef) w
  eff : ∀ i o, ops[i]? = some o → o.dst = none → listed.getD i false = true → ∃ v, F i v w
  old : ∀ t, (∀ i o, ops[i]? = some o → listed.getD i false = true → o.dst ≠ some t) → a.tmps.getD t undef = a0.tmps.getD t undef
  shut : ∀ i o, ops[i]? = some o → listed.getD i false = true → ∀ e ∈ o.after, Region.binds .any e = true → listed.getD e.on false = true

/-- The form that such a region has: no two operations write one temporary, all that are written are there, each waits for earlier ones alone. -/
structure Formed (ops : Array Oper) (n : Nat) : Prop where
  one : ∀ (i j : Nat) o o' d, ops[i]? = some o → ops[j]? = some o' → o.dst = some d → o'.dst = some d → i = j
  room : ∀ (i : Nat) o d, ops[i]? = some o → o.dst = some d → d < n
  back : ∀ (i : Nat) o, ops[i]? = some o → ∀ e ∈ o.after, Region.binds .any e = true → e.on < i

theorem getD_set (listed : Array Bool) (i j : Nat) (hi : i < listed.size) : (listed.setIfInBounds i true).getD j false = if i = j then true else listed.getD j false := by
  by_cases h : i = j
  · subst h; simp [hi]
  · rw [if_neg h]; exact getD_set_ne false h

theorem put_getD (a : Act) (d t : Nat) (v : Value) : (a.put (some d) v).tmps.getD t undef = if d = t ∧ t < a.tmps.size then v else a.tmps.getD t undef := by
  unfold Act.put
  simp only [Array.getD_eq_getD_getElem?]
  by_cases h : d = t
  · subst h
    by_cases h2 : d < a.tmps.size
    · simp [h2]
    · simp [h2]
  · rw [Array.getElem?_setIfInBounds_ne h, if_neg (fun hh => h hh.1)]
theorem put_size (a : Act) (d : Option Tmp) (v : Value) : (a.put d v).tmps.size = a.tmps.size := by
  unfold Act.put; cases d <;> simp
theorem put_defers' (a : Act) (d : Option Tmp) (v : Value) : (a.put d v).defers = a.defers := by
  unfold Act.put; cases d <;> rfl

theorem PInvG.step (hR : Goes R) (hf : Formed ops a0.tmps.size) {listed : Array Bool} {a : Act} {w w' : World} (h : PInvG ops a0 w0 R G F listed a w) {i : Nat} {o : Oper} (ho : ops[i]? = some o)
    (hedge : ∀ e ∈ o.after, Region.binds .any e = true → listed.getD e.on false = true) {v : Value} (hb : R w w') (hv : F i v w') (hun : listed.getD i false = false) (hG : ∀ k, k ≠ i → G k w → G k w') (hK : KeepsF ops F i w w') :
    PInvG ops a0 w0 R G F (listed.setIfInBounds i true) (a.put o.dst v) w' := by
  have hil : i < listed.size := by rw [h.lsize]; exact (Array.getElem?_eq_some_iff.1 ho).1
  refine ⟨hR.trans _ _ _ h.below hb, fun k hk => ?_, by rw [put_defers']; exact h.defers, by rw [put_size]; exact h.size, by simp [h.lsize], ?_, ?_, ?_, ?_⟩
  · rw [getD_set _ _ _ hil] at hk
    by_cases hik : i = k
    · rw [if_pos hik] at hk; cases hk
    · rw [if_neg hik] at hk
      exact hG k (fun e => hik e.symm) (h.res k hk)
  · intro j oj d hj hd hl
    rw [getD_set _ _ _ hil] at hl
    by_cases hij : i = j
    · subst hij
      rw [ho] at hj
      injection hj with hj
      subst hj
      rw [hd, put_getD, if_pos ⟨rfl, by rw [h.size]; exact hf.room _ _ _ ho hd⟩]
      exact hv
    · rw [if_neg hij] at hl
      have hk := hK j _ (fun e => hij e.symm) (fun oj' hj' e he hbe heq => by
        have h1 := h.shut j oj' hj' hl e he hbe
        rw [heq, hun] at h1; cases h1) (h.fact j oj d hj hd hl)
      cases hod : o.dst with
      | none => exact hk
      | some d' =>
        rw [put_getD, if_neg (fun hh => hij (hf.one i j o oj d ho hj (by rw [hod, hh.1]) hd))]
        exact hk
  · intro j oj hj hd hl
    rw [getD_set _ _ _ hil] at hl
    by_cases hij : i = j
    · subst hij; exact ⟨v, hv⟩
    · rw [if_neg hij] at hl
      obtain ⟨u, hu⟩ := h.eff j oj hj hd hl
      exact ⟨u, hK j u (fun e => hij e.symm) (fun oj' hj' e he hbe heq => by
        have h1 := h.shut j oj' hj' hl e he hbe
        rw [heq, hun] at h1; cases h1) hu⟩
  · intro t ht
    have h1 := h.old t (fun j oj hj hl => ht j oj hj (by rw [getD_set _ _ _ hil]; split <;> simp_all))
    cases hod : o.dst with
    | none => exact h1
    | some d' =>
      have := ht i o ho (by rw [getD_set _ _ _ hil, if_pos rfl])
      rw [put_getD, if_neg (fun hh => this (by rw [hod, hh.1]))]
      exact h1
  · intro j oj hj hl e he hbd
    rw [getD_set _ _ _ hil] at hl ⊢
    split
    · rfl
    · by_cases hij : i = j
      · subst hij
        rw [ho] at hj
        injection hj with hj
        subst hj
        exact hedge e he hbd
      · rw [if_neg hij] at hl
        exact h.shut j oj hj hl e he hbd

theorem PInvG.told {listed : Array Bool} {a : Act} {w : World} (h : PInvG ops a0 w0 R G F listed a w) {i : Nat} {o : Oper} (hun : listed.getD i true = false)
    (hedge : ∀ e ∈ o.after, Region.binds .any e = true → listed.getD e.on false = true) : ToldG ops a0 R G F i o a w := by
  have hun' : listed.getD i false = false := by
    rcases Nat.lt_or_ge i listed.size with h' | h'
    · simp [h'] at hun ⊢; exact hun
    · simp [Array.getElem?_eq_none h']
  refine ⟨fun e he hb oj d hj hd => h.fact e.on oj d hj hd (hedge e he hb), fun t ht => h.old t fun j oj hj hl hd => ?_, h.defers, fun k hk => h.res k ?_⟩
  · rcases ht j oj hj hd with rfl | ⟨e, he, hb, rfl⟩
    · rw [hun'] at hl; cases hl
    · have := h.shut j oj hj hl e he hb
      rw [hun'] at this; cases this
  · rcases hk with rfl | ⟨ok, ho, e, he, hb, rfl⟩
    · exact hun'
    · cases hl : listed.getD k false with
      | false => rfl
      | true => rw [h.shut k ok ho hl e he hb] at hun'; cases hun'

/-- Where nothing may come up, all have. -/
theorem all_listed (hf : ∀ (i : Nat) o, ops[i]? = some o → ∀ e ∈ o.after, Region.binds .any e = true → e.on < i) {listed : Array Bool} (hs : listed.size = ops.size) (h : Region.ready .any ops listed = []) :
    ∀ i, i < ops.size → listed.getD i false = true := by
  intro i
  induction i using Nat.strongRecOn with
  | ind i ih =>
    intro hi
    cases hl : listed.getD i false with
    | true => rfl
    | false =>
      exfalso
      have hm : i ∈ Region.ready .any ops listed := by
        rw [mem_ready]
        refine ⟨?_, ops[i], Array.getElem?_eq_getElem hi, fun e he hb => ih e.on (hf i _ (Array.getElem?_eq_getElem hi) e he hb) (by have := hf i _ (Array.getElem?_eq_getElem hi) e he hb; omega)⟩
        have hi2 : i < listed.size := by omega
        simp [hi2] at hl ⊢
        exact hl
      rw [h] at hm
      cases hm

theorem count_step (listed : Array Bool) (i : Nat) (hi : i < listed.size) (h : listed.getD i true = false) : (listed.setIfInBounds i true).toList.count false + 1 = listed.toList.count false := by
  rw [Array.toList_setIfInBounds]
  have hi' : i < listed.toList.length := by simpa using hi
  have he : listed.toList[i] = false := by simp [hi] at h; simpa using h
  rw [List.count_set (h := hi')]
  have hpos : 0 < listed.toList.count false := List.count_pos_iff.2 (he ▸ List.getElem_mem hi')
  rw [he]
  simp only [beq_self_eq_true, if_true, show (true == false) = false from rfl, Bool.false_eq_true, if_false]
  omega

theorem wpAny_persG (hR : Goes R) (hf : Formed ops a0.tmps.size) (hall : ∀ i o, ops[i]? = some o → ShownG P ops a0 w0 R G F Q i o)
    (hfin : ∀ listed a w, (∀ i, i < ops.size → listed.getD i false = true) → PInvG ops a0 w0 R G F listed a w → Q .normal a w) :
    ∀ (fuel : Nat) (listed : Array Bool) (a : Act) (w : World), listed.toList.count false ≤ fuel → PInvG ops a0 w0 R G F listed a w → wpAny P .any ops Q fuel listed a w
  | 0, listed, a, w, hc, h => by
    have hr : Region.ready .any ops listed = [] := by
      cases hr : Region.ready .any ops listed with
      | nil => rfl
      | cons i l =>
        exfalso
        have hi : i ∈ Region.ready .any ops listed := by rw [hr]; simp
        obtain ⟨h0, o, ho, _⟩ := mem_ready.1 hi
        have hil : i < listed.size := by rw [h.lsize]; exact (Array.getElem?_eq_some_iff.1 ho).1
        have := count_step listed i hil h0
        omega
    exact ⟨hr, hfin _ _ _ (all_listed hf.back h.lsize hr) h⟩
  | fuel + 1, listed, a, w, hc, h => by
    refine ⟨fun hr => hfin _ _ _ (all_listed hf.back h.lsize hr) h, fun i hi => ?_⟩
    obtain ⟨h0, o, ho, hedge⟩ := mem_ready.1 hi
    have hil : i < listed.size := by rw [h.lsize]; exact (Array.getElem?_eq_some_iff.1 ho).1
    have hs := hall i o ho a w h.below (h.told h0 hedge)
    have hcs := count_step listed i hil h0
    have hun' : listed.getD i false = false := by
      simp [hil] at h0 ⊢
      exact h0
    unfold wpOp
    simp only [ho]
    split
    · rename_i hw
      rw [if_pos hw] at hs
      refine .inl (Oper.wp_mono (fun a' w' ⟨v, he, hb, hv, hg, hkf⟩ => ?_) hs)
      subst he
      exact wpAny_persG hR hf hall hfin fuel _ _ _ (by omega) (h.step hR hf ho hedge hb hv hun' hg hkf)
    · rename_i hw
      rw [if_neg hw] at hs
      exact wpAny_persG hR hf hall hfin fuel _ _ _ (by omega) (h.step hR hf ho hedge (hR.refl _) hs hun' (fun k _ h => h) (fun _ _ _ _ h => h))

/-- All temporaries of the region, put. -/
def putAll (x : Nat → Value) : Nat → List Oper → Act → Act
  | _, [], a => a
  | k, o :: l, a => putAll x (k + 1) l (a.put o.dst (x k))

theorem act_ext {a b : Act} (hs : a.tmps.size = b.tmps.size) (hd : a.defers = b.defers) (h : ∀ t, a.tmps.getD t undef = b.tmps.getD t undef) : a = b := by
  obtain ⟨at1, ad⟩ := a
  obtain ⟨bt, bd⟩ := b
  simp only at hs hd h
  subst hd
  congr 1
  apply Array.ext hs
  intro i h1 h2
  have := h i
  simpa [h1, h2] using this

theorem putAll_is (x : Nat → Value) (a : Act) (hx : ∀ (i : Nat) o d, ops[i]? = some o → o.dst = some d → x i = a.tmps.getD d undef) :
    ∀ (l : List Oper) (k : Nat) (a1 : Act), (∀ j, l[j]? = ops[k + j]?) → a1.tmps.size = a.tmps.size → a1.defers = a.defers →
      (∀ t, (∀ (j : Nat) oj, k ≤ j → ops[j]? = some oj → oj.dst ≠ some t) → a1.tmps.getD t undef = a.tmps.getD t undef) → putAll x k l a1 = a
  | [], k, a1, hl, hs, hd, h => act_ext hs hd fun t => h t fun j oj hj ho => by
      have := hl (j - k)
      rw [show k + (j - k) = j from by omega, ho] at this
      cases this
  | o :: l, k, a1, hl, hs, hd, h => by
    unfold putAll
    have h0 : ops[k]? = some o := by simpa using (hl 0).symm
    refine putAll_is x a hx l (k + 1) _ (fun j => by have := hl (j + 1); simpa [Nat.add_assoc, Nat.add_comm 1 j] using this) (by rw [put_size]; exact hs) (by rw [put_defers']; exact hd) fun t ht => ?_
    cases hod : o.dst with
    | none =>
      refine h t fun j oj hj ho => ?_
      rcases Nat.eq_or_lt_of_le hj with rfl | hlt
      · rw [h0] at ho; injection ho with ho; subst ho; rw [hod]; simp
      · exact ht j oj hlt ho
    | some d =>
      rw [put_getD]
      by_cases hdt : d = t
      · subst hdt
        rw [hx k o d h0 hod]
        by_cases hlt : d < a1.tmps.size
        · rw [if_pos ⟨rfl, hlt⟩]
        · rw [if_neg (fun hh => hlt hh.2)]
          simp only [Array.getD_eq_getD_getElem?]
          have h1 : a1.tmps.size ≤ d := Nat.le_of_not_lt hlt
          have h2 : a.tmps.size ≤ d := hs ▸ h1
          rw [Array.getElem?_eq_none h1, Array.getElem?_eq_none h2]
      · rw [if_neg (fun hh => hdt hh.1)]
        refine h t fun j oj hj ho => ?_
        rcases Nat.eq_or_lt_of_le hj with rfl | hlt
        · rw [h0] at ho; injection ho with ho; subst ho; rw [hod]; simp [hdt]
        · exact ht j oj hlt ho

/-- The region: each operation shown once. -/
theorem wp_region_persG {id : Nat} {l : List Oper} {a0 : Act} {w : World} (hm : P.follows .mixedOrders = true) (hf : Formed l.toArray a0.tmps.size) (hR : Goes R) (hG : ∀ k, G k w.drew) (F : Nat → Value → World → Prop)
    (hall : ∀ i o, l[i]? = some o → ShownG P l.toArray a0 w.drew R G F Q i o)
    (hfin : ∀ (x : Nat → Value) (w' : World), R w.drew w' → (∀ i o d, l[i]? = some o → o.dst = some d → F i (x i) w') → (∀ i o, l[i]? = some o → o.dst = none → ∃ v, F i v w') → Q .normal (putAll x 0 l a0) w') :
    (Code.region id l.toArray true).wp P Q a0 w := by
  refine wp_region_any hm (wpAny_persG (w0 := w.drew) hR hf (fun i o ho => hall i o (by simpa using ho)) (fun listed a w' hl h => ?_) _ _ _ _ (by simp) ⟨hR.refl _, fun k _ => hG k, rfl, rfl, by simp, ?_, ?_, fun _ _ => rfl, ?_⟩)
  · have := hfin (fun i => match (l[i]?).bind (·.dst) with | some d => a.tmps.getD d undef | none => undef) w' h.below (fun i o d ho hd => by
      have hi : i < l.toArray.size := (Array.getElem?_eq_some_iff.1 (show l.toArray[i]? = some o by simpa using ho)).1
      simp only [ho, Option.bind_some, hd]
      exact h.fact i o d (by simpa using ho) hd (hl i hi)) (fun i o ho hd => by
      have hi : i < l.toArray.size := (Array.getElem?_eq_some_iff.1 (show l.toArray[i]? = some o by simpa using ho)).1
      exact h.eff i o (by simpa using ho) hd (hl i hi))
    rw [putAll_is (ops := l.toArray) _ a (fun i o d ho hd => by
      simp only [show l[i]? = some o from by simpa using ho, Option.bind_some, hd]) l 0 a0 (by simp) h.size.symm h.defers.symm (fun t ht => (h.old t fun i o ho _ => ht i o (Nat.zero_le _) ho).symm)] at this
    exact this
  · intro i o d ho hd hl
    exfalso
    simp at hl
    by_cases hi : i < l.length <;> simp_all
  · intro i o ho hd hl
    exfalso
    simp at hl
    by_cases hi : i < l.length <;> simp_all
  · intro i o ho hl
    exfalso
    simp at hl
    by_cases hi : i < l.length <;> simp_all

/-- The form, by a Bool. -/
def formedB (l : List Oper) (n : Nat) : Bool :=
  (List.range l.length).all fun i => match l[i]? with
    | none => true
    | some o => (match o.dst with
        | none => true
        | some d => decide (d < n) && (List.range l.length).all fun j => match l[j]? with
            | none => true
            | some o' => i == j || o'.dst != some d) &&
      o.after.all fun e => !Region.binds .any e || decide (e.on < i)
theorem formed_of {l : List Oper} {n : Nat} (h : formedB l n = true) : Formed l.toArray n := by
  unfold formedB at h
  rw [List.all_eq_true] at h
  have H : ∀ (i : Nat) o, l[i]? = some o → _ := fun i o ho => h i (List.mem_range.2 (by
    rcases Nat.lt_or_ge i l.length with h1 | h1
    · exact h1
    · rw [List.getElem?_eq_none h1] at ho; cases ho))
  refine ⟨fun i j o o' d ho ho' hd hd' => ?_, fun i o d ho hd => ?_, fun i o ho e he hb => ?_⟩
  · have hi : l[i]? = some o := by simpa using ho
    have hj : l[j]? = some o' := by simpa using ho'
    have h1 := H i o hi
    simp only [hi, hd, Bool.and_eq_true, decide_eq_true_eq, List.all_eq_true] at h1
    have h2 := h1.1.2 j (List.mem_range.2 (by
      rcases Nat.lt_or_ge j l.length with h1 | h1
      · exact h1
      · rw [List.getElem?_eq_none h1] at hj; cases hj))
    simp only [hj, hd', Bool.or_eq_true, beq_iff_eq, bne_self_eq_false, Bool.false_eq_true, or_false] at h2
    exact h2
  · have hi : l[i]? = some o := by simpa using ho
    have h1 := H i o hi
    simp only [hi, hd, Bool.and_eq_true, decide_eq_true_eq] at h1
    exact h1.1.1
  · have hi : l[i]? = some o := by simpa using ho
    have h1 := H i o hi
    simp only [hi, Bool.and_eq_true, Array.all_eq_true_iff_forall_mem, Bool.or_eq_true, Bool.not_eq_true', decide_eq_true_eq] at h1
    rcases h1.2 e he with h2 | h2
    · rw [hb] at h2; cases h2
    · exact h2
end
end Go.Proofs.Ythkclgkbidhmbaa.PG
