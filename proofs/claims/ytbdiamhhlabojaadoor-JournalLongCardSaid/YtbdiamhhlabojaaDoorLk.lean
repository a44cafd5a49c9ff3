/- A device's files by their names (plain): what lies at a name behind each call. -/
import Derived.Test.YtbdiamhhlabojaaDoorUo
namespace Go.Proofs.YtbdiamhhlabojaaDoor
open Go.RowKit
set_option linter.unusedVariables false
set_option linter.unusedSimpArgs false
set_option maxRecDepth 100000

/-- What lies at a name. -/
def lkG : List Lg → ByteArray → Option (List UInt8 × Int)
  | [], _ => none
  | x :: r, nm => if x.1 = nm then some x.2 else lkG r nm
theorem lk_none {L : List Lg} {nm : ByteArray} (h : ∀ x ∈ L, x.1 ≠ nm) : lkG L nm = none := by
  induction L with
  | nil => rfl
  | cons x r ih =>
    unfold lkG
    rw [if_neg (h x (List.mem_cons_self ..)), ih (fun y hy => h y (List.mem_cons_of_mem _ hy))]
theorem lk_app {A B : List Lg} {nm : ByteArray} (h : ∀ x ∈ A, x.1 ≠ nm) : lkG (A ++ B) nm = lkG B nm := by
  induction A with
  | nil => rfl
  | cons x r ih =>
    rw [List.cons_append]
    unfold lkG
    rw [if_neg (h x (List.mem_cons_self ..)), ih (fun y hy => h y (List.mem_cons_of_mem _ hy))]
    cases B <;> rfl
theorem lk_mid {A B : List Lg} {nm : ByteArray} (v : List UInt8 × Int) (h : ∀ x ∈ A, x.1 ≠ nm) : lkG (A ++ (nm, v) :: B) nm = some v := by
  rw [lk_app h]
  unfold lkG
  rw [if_pos rfl]
theorem lk_other {A B : List Lg} {nm k : ByteArray} (v : List UInt8 × Int) (hk : nm ≠ k) : lkG (A ++ (nm, v) :: B) k = lkG (A ++ B) k := by
  induction A with
  | nil =>
    show lkG ((nm, v) :: B) k = lkG B k
    rw [lkG, if_neg hk]
  | cons x r ih =>
    rw [List.cons_append, List.cons_append]
    show (if x.1 = k then some x.2 else lkG (r ++ (nm, v) :: B) k) = (if x.1 = k then some x.2 else lkG (r ++ B) k)
    rw [ih]
theorem cmp_self (a : ByteArray) : cmpT a a = 0 := (cmpT_zero _ _).2 rfl
theorem cmp_lt_ne {a b : ByteArray} (h : cmpT a b < 0) : a ≠ b := fun e => by rw [e, cmp_self] at h; omega
theorem cmp_gt_ne {a b : ByteArray} (h : 0 < cmpT a b) : a ≠ b := fun e => by rw [e, cmp_self] at h; omega
/-- A sorted list about a name: those ahead of it, itself or none, those behind it. -/
theorem split_at {L : List Lg} (h : SortG L) (nm : ByteArray) : ∃ (A B : List Lg) (o : Option (List UInt8 × Int)), (∀ x ∈ A, cmpT x.1 nm < 0) ∧ (∀ x ∈ B, 0 < cmpT x.1 nm) ∧ posG L nm = A.length ∧ hitG L nm = o.isSome ∧ L = A ++ (match o with | none => B | some v => (nm, v) :: B) := by
  induction L with
  | nil => exact ⟨[], [], none, by simp, by simp, rfl, rfl, rfl⟩
  | cons x r ih =>
    obtain ⟨h1, h2⟩ := List.pairwise_cons.1 h
    obtain ⟨A, B, o, ha, hb, hp, hh, hl⟩ := ih h2
    by_cases hx : cmpT x.1 nm < 0
    · have hpos : posG (x :: r) nm = A.length + 1 := by
        unfold posG at hp ⊢
        rw [List.countP_cons_of_pos (by simpa using hx), hp]
      refine ⟨x :: A, B, o, fun y hy => ?_, hb, by rw [hpos, List.length_cons], ?_, by rw [List.cons_append, ← hl]⟩
      · rcases List.mem_cons.1 hy with rfl | hy
        · exact hx
        · exact ha y hy
      · rw [← hh]
        unfold hitG
        rw [hpos, hp, List.getElem?_cons_succ]
    · have hgt : ∀ y ∈ r, 0 < cmpT y.1 nm := fun y hy => by
        have e1 := h1 y hy
        have e2 := nmD_flip nm y.1
        have e3 := nmD_flip nm x.1
        by_cases hz : cmpT x.1 nm = 0
        · rw [(cmpT_zero _ _).1 hz] at e1; omega
        · have e4 : cmpT nm y.1 < 0 := nmD_trans (show cmpT nm x.1 < 0 by omega) e1
          omega
      have hpos : posG (x :: r) nm = 0 := by
        unfold posG
        rw [List.countP_eq_zero]
        intro y hy
        rcases List.mem_cons.1 hy with rfl | hy
        · simpa using hx
        · have := hgt y hy
          simp only [decide_eq_true_eq]
          omega
      by_cases hz : cmpT x.1 nm = 0
      · refine ⟨[], r, some x.2, by simp, hgt, hpos, ?_, ?_⟩
        · unfold hitG; rw [hpos]; simp [hz]
        · rw [← (cmpT_zero _ _).1 hz]; rfl
      · refine ⟨[], x :: r, none, by simp, fun y hy => ?_, hpos, ?_, rfl⟩
        · rcases List.mem_cons.1 hy with rfl | hy
          · omega
          · exact hgt y hy
        · unfold hitG; rw [hpos]; simp [hz]
section
variable {L : List Lg} (h : SortG L)
include h
theorem lk_hit (nm : ByteArray) : hitG L nm = (lkG L nm).isSome := by
  obtain ⟨A, B, o, ha, hb, hp, hh, hl⟩ := split_at h nm
  rw [hh]
  have hA : ∀ x ∈ A, x.1 ≠ nm := fun x hx => cmp_lt_ne (ha x hx)
  cases o with
  | none => rw [hl, lk_none (fun x hx => by rcases List.mem_append.1 hx with hx | hx; exact hA x hx; exact cmp_gt_ne (hb x hx))]
  | some v => rw [hl]; show true = (lkG (A ++ (nm, v) :: B) nm).isSome; rw [lk_mid v hA]; rfl
theorem lk_at {nm : ByteArray} {v : List UInt8 × Int} (hv : lkG L nm = some v) : L[posG L nm]? = some (nm, v.1, v.2) := by
  obtain ⟨A, B, o, ha, hb, hp, hh, hl⟩ := split_at h nm
  have hA : ∀ x ∈ A, x.1 ≠ nm := fun x hx => cmp_lt_ne (ha x hx)
  have h2 := lk_hit h nm
  rw [hv, hh] at h2
  cases o with
  | none => cases h2
  | some u =>
    have hl2 : L = A ++ (nm, u) :: B := hl
    rw [hl2, lk_mid u hA] at hv
    injection hv with hv
    subst hv
    rw [hp, hl2, List.getElem?_append_right (Nat.le_refl _), Nat.sub_self]
    rfl
/-- Another content at a name that is there. -/
theorem lk_set {nm : ByteArray} {v u : List UInt8 × Int} (hv : lkG L nm = some v) : SortG (L.set (posG L nm) (nm, u)) ∧ (∀ k, lkG (L.set (posG L nm) (nm, u)) k = if nm = k then some u else lkG L k) ∧ sumL (L.set (posG L nm) (nm, u)) = sumL L - v.1.length + u.1.length ∧ (L.set (posG L nm) (nm, u)).length = L.length := by
  obtain ⟨A, B, o, ha, hb, hp, hh, hl⟩ := split_at h nm
  have hA : ∀ x ∈ A, x.1 ≠ nm := fun x hx => cmp_lt_ne (ha x hx)
  have h2 := lk_hit h nm
  rw [hv, hh] at h2
  cases o with
  | none => cases h2
  | some v' =>
    have hl2 : L = A ++ (nm, v') :: B := hl
    have hvv : v' = v := by
      rw [hl2, lk_mid v' hA] at hv
      injection hv
    subst hvv
    have hs : L.set (posG L nm) (nm, u) = A ++ (nm, u) :: B := by
      rw [hp, hl2, List.set_append_right _ _ (Nat.le_refl _), Nat.sub_self, List.set_cons_zero]
    rw [hs]
    refine ⟨?_, fun k => ?_, ?_, by rw [hl2]; simp⟩
    · rw [hl2] at h
      obtain ⟨p1, p2, p3⟩ := List.pairwise_append.1 h
      obtain ⟨q1, q2⟩ := List.pairwise_cons.1 p2
      refine List.pairwise_append.2 ⟨p1, List.pairwise_cons.2 ⟨q1, q2⟩, fun x hx y hy => ?_⟩
      rcases List.mem_cons.1 hy with rfl | hy
      · exact ha x hx
      · exact p3 x hx y (List.mem_cons_of_mem _ hy)
    · by_cases hk : nm = k
      · subst hk
        rw [if_pos rfl, lk_mid u hA]
      · rw [if_neg hk, lk_other u hk, hl2, lk_other v' hk]
    · rw [hl2]
      unfold sumL
      simp only [List.map_append, List.map_cons, List.sum_append, List.sum_cons]
      omega
/-- A name more. -/
theorem lk_ins {nm : ByteArray} {u : List UInt8 × Int} (hv : lkG L nm = none) : SortG (L.take (posG L nm) ++ (nm, u) :: L.drop (posG L nm)) ∧ (∀ k, lkG (L.take (posG L nm) ++ (nm, u) :: L.drop (posG L nm)) k = if nm = k then some u else lkG L k) ∧ sumL (L.take (posG L nm) ++ (nm, u) :: L.drop (posG L nm)) = sumL L + u.1.length ∧ (L.take (posG L nm) ++ (nm, u) :: L.drop (posG L nm)).length = L.length + 1 := by
  obtain ⟨A, B, o, ha, hb, hp, hh, hl⟩ := split_at h nm
  have hA : ∀ x ∈ A, x.1 ≠ nm := fun x hx => cmp_lt_ne (ha x hx)
  have h2 := lk_hit h nm
  rw [hv, hh] at h2
  cases o with
  | some v => cases h2
  | none =>
    have hl2 : L = A ++ B := hl
    have ht : L.take (posG L nm) = A := by rw [hp, hl2, List.take_left]
    have hd : L.drop (posG L nm) = B := by rw [hp, hl2, List.drop_left]
    rw [ht, hd]
    refine ⟨?_, fun k => ?_, ?_, by rw [hl2]; simp; omega⟩
    · rw [hl2] at h
      obtain ⟨p1, p2, p3⟩ := List.pairwise_append.1 h
      refine List.pairwise_append.2 ⟨p1, List.pairwise_cons.2 ⟨fun y hy => ?_, p2⟩, fun x hx y hy => ?_⟩
      · have e1 := hb y hy
        have e2 := nmD_flip nm y.1
        show cmpT nm y.1 < 0
        omega
      · rcases List.mem_cons.1 hy with rfl | hy
        · exact ha x hx
        · exact p3 x hx y hy
    · by_cases hk : nm = k
      · subst hk
        rw [if_pos rfl, lk_mid u hA]
      · rw [if_neg hk, lk_other u hk, hl2]
    · rw [hl2]
      unfold sumL
      simp only [List.map_append, List.map_cons, List.sum_append, List.sum_cons]
      omega
/-- A name less. -/
theorem lk_del {nm : ByteArray} {v : List UInt8 × Int} (hv : lkG L nm = some v) : SortG (L.eraseIdx (posG L nm)) ∧ (∀ k, lkG (L.eraseIdx (posG L nm)) k = if nm = k then none else lkG L k) ∧ sumL (L.eraseIdx (posG L nm)) = sumL L - v.1.length ∧ (L.eraseIdx (posG L nm)).length + 1 = L.length := by
  obtain ⟨A, B, o, ha, hb, hp, hh, hl⟩ := split_at h nm
  have hA : ∀ x ∈ A, x.1 ≠ nm := fun x hx => cmp_lt_ne (ha x hx)
  have h2 := lk_hit h nm
  rw [hv, hh] at h2
  cases o with
  | none => cases h2
  | some v' =>
    have hl2 : L = A ++ (nm, v') :: B := hl
    have hvv : v' = v := by
      rw [hl2, lk_mid v' hA] at hv
      injection hv
    subst hvv
    have hs : L.eraseIdx (posG L nm) = A ++ B := by
      rw [hp, hl2, List.eraseIdx_append_of_length_le (Nat.le_refl _), Nat.sub_self]; rfl
    rw [hs]
    refine ⟨?_, fun k => ?_, ?_, by rw [hl2]; simp; omega⟩
    · rw [hl2] at h
      exact List.Pairwise.sublist (List.Sublist.append_left (List.sublist_cons_self _ _) _) h
    · by_cases hk : nm = k
      · subst hk
        rw [if_pos rfl]
        exact lk_none (fun x hx => by rcases List.mem_append.1 hx with hx | hx; exact hA x hx; exact cmp_gt_ne (hb x hx))
      · rw [if_neg hk, hl2, lk_other v' hk]
    · rw [hl2]
      unfold sumL
      simp only [List.map_append, List.map_cons, List.sum_append, List.sum_cons]
      omega
/-- Bytes more at a name. -/
theorem lk_put (nm : ByteArray) (b : List UInt8) : SortG (putL L nm b) ∧ (∀ k, lkG (putL L nm b) k = if nm = k then some (match lkG L nm with | none => (b, 0) | some v => (v.1 ++ b, v.2)) else lkG L k) ∧ sumL (putL L nm b) = sumL L + b.length ∧ (putL L nm b).length ≤ L.length + 1 := by
  cases hv : lkG L nm with
  | none =>
    have e : putL L nm b = L.take (posG L nm) ++ (nm, b, 0) :: L.drop (posG L nm) := by
      unfold putL
      rw [lk_hit h nm, hv]
      rfl
    rw [e]
    obtain ⟨q1, q2, q3, q4⟩ := lk_ins h (u := (b, 0)) hv
    exact ⟨q1, q2, q3, Nat.le_of_eq q4⟩
  | some v =>
    have e : putL L nm b = L.set (posG L nm) (nm, v.1 ++ b, v.2) := by
      unfold putL
      rw [lk_hit h nm, hv, lk_at h hv]
      rfl
    rw [e]
    obtain ⟨q1, q2, q3, q4⟩ := lk_set h (u := (v.1 ++ b, v.2)) hv
    refine ⟨q1, q2, ?_, by rw [q4]; omega⟩
    rw [q3]
    show _ + ((v.1 ++ b).length : Int) = _
    rw [List.length_append]
    omega
end
theorem lk_mem {L : List Lg} {x : Lg} (h : SortG L) (hx : x ∈ L) : lkG L x.1 = some x.2 := by
  induction L with
  | nil => cases hx
  | cons y r ih =>
    obtain ⟨h1, h2⟩ := List.pairwise_cons.1 h
    rcases List.mem_cons.1 hx with rfl | hx
    · rw [lkG, if_pos rfl]
    · rw [lkG, if_neg (cmp_lt_ne (h1 x hx)), ih h2 hx]
end Go.Proofs.YtbdiamhhlabojaaDoor
