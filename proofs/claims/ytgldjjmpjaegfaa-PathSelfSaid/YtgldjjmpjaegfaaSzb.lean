/- tree.Order, plainly, further: what is below each stands right behind it, and is as much as Sizes says. -/
import Derived.Test.YtgldjjmpjaegfaaSyw
import Derived.Test.YtgldjjmpjaegfaaSyt
namespace Go.Proofs.Ytgldjjmpjaegfaa.Sy
open Go.Proofs.Ytgldjjmpjaegfaa
set_option linter.unusedVariables false
set_option linter.unusedSimpArgs false

/-- A stack and all that comes of it. -/
inductive Run (K : Nat → List Nat) : List Nat → List Nat → Prop where
  | nil : Run K [] []
  | cons {x : Nat} {S O : List Nat} (h : Run K (K x ++ S) O) : Run K (x :: S) (x :: O)
theorem Run.split {K : Nat → List Nat} {R O : List Nat} (h : Run K R O) : ∀ S T, R = S ++ T → ∃ O1 O2, O = O1 ++ O2 ∧ Run K S O1 ∧ Run K T O2 := by
  induction h with
  | nil =>
    intro S T e
    obtain ⟨rfl, rfl⟩ := List.append_eq_nil_iff.1 e.symm
    exact ⟨[], [], rfl, .nil, .nil⟩
  | @cons x S' O' h ih =>
    intro S T e
    cases S with
    | nil =>
      rw [List.nil_append] at e
      subst e
      exact ⟨[], x :: O', rfl, .nil, .cons h⟩
    | cons y S =>
      rw [List.cons_append] at e
      injection e with e1 e2
      subst e1 e2
      obtain ⟨O1, O2, rfl, h1, h2⟩ := ih (K x ++ S) T (by rw [List.append_assoc])
      exact ⟨x :: O1, O2, rfl, .cons h1, h2⟩
theorem Run.det {K : Nat → List Nat} {S O : List Nat} (h : Run K S O) : ∀ O', Run K S O' → O = O' := by
  induction h with
  | nil => intro O' h'; cases h'; rfl
  | cons h ih =>
    intro O' h'
    cases h' with
    | cons h2 => rw [ih _ h2]
theorem Run.append {K : Nat → List Nat} {S O1 : List Nat} (h : Run K S O1) : ∀ {T O2 : List Nat}, Run K T O2 → Run K (S ++ T) (O1 ++ O2) := by
  induction h with
  | nil => intro T O2 h2; exact h2
  | @cons x S' O' h ih =>
    intro T O2 h2
    refine .cons ?_
    have h3 := ih h2
    rw [List.append_assoc] at h3
    exact h3
theorem Run.sub {K : Nat → List Nat} {S O : List Nat} (h : Run K S O) : ∀ x ∈ S, x ∈ O := by
  induction h with
  | nil => intro x hx; cases hx
  | cons h ih =>
    intro x hx
    rcases List.mem_cons.1 hx with e | e
    · rw [e]; exact List.mem_cons_self
    · exact List.mem_cons_of_mem _ (ih x (List.mem_append_right _ e))
/-- What is below each stands right behind it. -/
theorem Run.at_ {K : Nat → List Nat} {S O : List Nat} (h : Run K S O) : ∀ x ∈ O, ∃ A B C, O = A ++ x :: (B ++ C) ∧ Run K (K x) B := by
  induction h with
  | nil => intro x hx; cases hx
  | @cons y S' O' h ih =>
    intro x hx
    rcases List.mem_cons.1 hx with e | e
    · subst e
      obtain ⟨O1, O2, rfl, h1, _⟩ := h.split (K x) S' rfl
      exact ⟨[], O1, O2, rfl, h1⟩
    · obtain ⟨A, B, C, rfl, hb⟩ := ih x e
      exact ⟨y :: A, B, C, rfl, hb⟩
theorem Run.len {K : Nat → List Nat} {S O : List Nat} {Z : List Nat} (h : Run K S O) (hz : ∀ x ∈ O, (Z[x]?).getD 0 = tot Z (K x) + 1) : O.length = tot Z S := by
  induction h with
  | nil => rfl
  | @cons y S' O' h ih =>
    have h1 := ih (fun x hx => hz x (List.mem_cons_of_mem _ hx))
    rw [tot_append] at h1
    have h2 := hz y List.mem_cons_self
    rw [show y :: S' = [y] ++ S' from rfl, tot_append, tot_one, h2, List.length_cons, h1]
    omega
/-- The order is what comes of the roots. -/
theorem Ost.run {P : List Int} {n : Nat} {M : List Nat} (h : All n M) : ∀ (f : Nat) (O S : List Nat), Ost P n O S → O.length + f = n → Run (fun x => M.filter fun q => parN P n q == x) S (ordM (kidsL P n M) f S) := by
  intro f
  induction f with
  | zero =>
    intro O S I hl
    have := I.len
    obtain rfl : S = [] := List.eq_nil_of_length_eq_zero (by omega)
    exact .nil
  | succ f ih =>
    intro O S I hl
    cases S with
    | nil => rw [ordM_nil]; exact .nil
    | cons x S =>
      have hx : x < n := I.lt x (List.mem_append_right _ List.mem_cons_self)
      show Run _ (x :: S) (x :: ordM (kidsL P n M) f (((kidsL P n M)[x]?).getD [] ++ S))
      refine .cons ?_
      rw [kidsL_at M (Nat.le_of_lt hx)]
      exact ih (O ++ [x]) _ (I.step h) (by rw [List.length_append, List.length_singleton]; omega)
theorem tot_perm {S A B : List Nat} (h : A.Perm B) : tot S A = tot S B := (h.map _).sum_nat
theorem filter_perm {n : Nat} {M R : List Nat} (hM : All n M) (hR : All n R) (p : Nat → Bool) : (M.filter p).Perm (R.filter p) :=
  (List.perm_ext_iff_of_nodup (hM.nd.filter _) (hR.nd.filter _)).2 fun x => by rw [List.mem_filter, List.mem_filter, hM.mem, hR.mem]
theorem idxOf_at {α : Type} [DecidableEq α] {A C : List α} {x : α} (h : x ∉ A) : (A ++ x :: C).idxOf x = A.length := by
  rw [List.idxOf_append, if_neg h, List.idxOf_cons_self]; omega
/-- What the walks say of each span. -/
structure Tree (l : List Ls) (n : Nat) (P : List Int) (O D Z : List Nat) : Prop where
  pl : P.length = n
  ol : O.length = n
  dl : D.length = n
  zl : Z.length = n
  nd : O.Nodup
  mem : ∀ x, x ∈ O ↔ x < n
  root : ∀ x, x < n → P[x]? = some (-1) → D[x]? = some 0
  kid : ∀ x z, P[x]? = some z → z ≠ -1 → ∃ (y : Nat) (a b : Ls) (dy zx zy : Nat), z = (y : Int) ∧ y < n ∧ l[y]? = some a ∧ l[x]? = some b ∧ a.s.id = b.s.pa ∧ O.idxOf y < O.idxOf x ∧ D[y]? = some dy ∧ D[x]? = some (dy + 1) ∧ Z[x]? = some zx ∧ Z[y]? = some zy ∧ O.idxOf x < O.idxOf y + zy ∧ zx < zy ∧ zy ≤ n
  all : tot Z ((List.range n).filter fun i => parN P n i == n) = n
theorem plain_par {l : List Ls} {P : List Int} (h : ParOf (namedM l) P) : Plain P l.length := fun v z h2 => by
  by_cases hl : LR (pf (namedM l)) v
  · have hv : v < l.length := by have := (List.getElem?_eq_some_iff.1 h2).1; rw [h.1, namedM_len] at this; exact this
    rw [(h.2 v).1 hl] at h2; injection h2 with h2; omega
  · rw [(h.2 v).2 hl] at h2; exact namedM_plain l v z h2
theorem par_id {l : List Ls} {P : List Int} {x y : Nat} (h : ParOf (namedM l) P) (hx : P[x]? = some (y : Int)) : ∃ a b, l[y]? = some a ∧ l[x]? = some b ∧ a.s.id = b.s.pa := by
  by_cases hl : LR (pf (namedM l)) x
  · rw [(h.2 x).1 hl] at hx; injection hx with hx; omega
  · rw [(h.2 x).2 hl] at hx
    have hxl := (List.getElem?_eq_some_iff.1 hx).1
    rw [namedM_len] at hxl
    obtain ⟨b, hb⟩ : ∃ b, l[x]? = some b := ⟨_, List.getElem?_eq_getElem hxl⟩
    rw [namedM_at hb] at hx
    injection hx with hx
    cases ho : namedO (l.map fun x => x.s.id) b.s.pa x with
    | none => rw [ho] at hx; change (-1 : Int) = _ at hx; omega
    | some j =>
      rw [ho] at hx
      change ((j : Nat) : Int) = _ at hx
      have hj : j = y := by omega
      subst hj
      obtain ⟨h1, _, h3⟩ := namedO_lt ho
      rw [List.getElem?_map] at h3
      cases ha : l[j]? with
      | none => rw [ha] at h3; cases h3
      | some a => rw [ha] at h3; injection h3 with h3; exact ⟨a, b, rfl, hb, h3⟩
theorem tree_of {l : List Ls} {n : Nat} {P : List Int} {M R O D Z : List Nat} (hn : n = l.length) (hP : ParOf (namedM l) P) (hM : All n M) (hR : All n R) (hO : O = ordM (kidsL P n M) n (M.filter fun i => parN P n i == n)) (hos : Ost P n O []) (hD : DepOf P n D) (hZ : Szt P n R Z) : Tree l n P O D Z := by
  have hpl : Plain P n := by rw [hn]; exact plain_par hP
  have hPl : P.length = n := by rw [hP.1, namedM_len, hn]
  have hmem := hos.fin hP (by rw [namedM_len, hn]) hpl hPl
  have hnd := hos.nd
  rw [List.append_nil] at hnd
  have hrun := Ost.run (P := P) hM n [] _ (Ost.start hM) (by simp)
  rw [← hO] at hrun
  have hz : ∀ x, x < n → Z[x]? = some (tot Z (M.filter fun q => parN P n q == x) + 1) := fun x hx => by
    rw [hZ.sum x hx, if_pos ((hR.mem x).2 hx), tot_perm (filter_perm hM hR _), Nat.add_comm]
  have hzg : ∀ x ∈ O, (Z[x]?).getD 0 = tot Z (M.filter fun q => parN P n q == x) + 1 := fun x hx => by rw [hz x ((hmem x).1 hx)]; rfl
  have hol : O.length = n := by
    have h1 := nd_le n O hnd fun x hx => (hmem x).1 hx
    have h2 := sub_len (List.range n) O List.nodup_range fun x hx => (hmem x).2 (List.mem_range.1 hx)
    rw [List.length_range] at h2
    omega
  refine ⟨hPl, hol, hD.1, hZ.len, hnd, hmem, fun x hx h => ?_, fun x z hx hne => ?_, ?_⟩
  · rw [hD.2 x hx]
    have e : pf P x = none := by unfold pf; rw [h]; rfl
    rw [e]
  · have hzl := hpl x z hx
    obtain ⟨y, rfl⟩ : ∃ y : Nat, z = (y : Int) := ⟨z.toNat, by omega⟩
    have hyn : y < n := by omega
    have hxn : x < n := by have := (List.getElem?_eq_some_iff.1 hx).1; omega
    obtain ⟨a, b, ha, hb, hab⟩ := par_id hP hx
    have hpar : parN P n x = y := by unfold parN; rw [hx]; simp only; rw [if_neg (by omega)]; omega
    obtain ⟨A, B, C, hO2, hB⟩ := hrun.at_ y ((hmem y).2 hyn)
    have hxk : x ∈ M.filter fun q => parN P n q == y := (kid_mem hM).2 ⟨hxn, hpar⟩
    have hxB := hB.sub x hxk
    have hnd2 := hnd
    rw [hO2, List.nodup_append, List.nodup_cons] at hnd2
    have hyA : y ∉ A := fun h => hnd2.2.2 y h y List.mem_cons_self rfl
    have hxA : x ∉ A := fun h => hnd2.2.2 x h x (List.mem_cons_of_mem _ (List.mem_append_left _ hxB)) rfl
    have hyx : y ≠ x := fun e => hnd2.2.1.1 (by rw [e]; exact List.mem_append_left _ hxB)
    have iy : O.idxOf y = A.length := by rw [hO2]; exact idxOf_at hyA
    have ix : O.idxOf x = A.length + 1 + B.idxOf x := by
      rw [hO2, List.idxOf_append, if_neg hxA, List.idxOf_cons, beq_false_of_ne hyx, cond_false, List.idxOf_append, if_pos hxB]; omega
    have hBl := hB.len fun w hw => hzg w (by rw [hO2]; exact List.mem_append_right _ (List.mem_cons_of_mem _ (List.mem_append_left _ hw)))
    have hlt := List.idxOf_lt_length_iff.2 hxB
    have hm := tot_mem (S := Z) hxk
    have hd := hD.2 x hxn
    rw [pf_of hx] at hd
    simp only at hd
    obtain ⟨dy, hdy⟩ : ∃ dy, D[y]? = some dy := ⟨_, List.getElem?_eq_getElem (by rw [hD.1]; exact hyn)⟩
    rw [hdy] at hd
    have hzx := hz x hxn
    rw [hzx] at hm
    refine ⟨y, a, b, dy, _, _, rfl, hyn, ha, hb, hab, by omega, hdy, hd, hzx, hz y hyn, by omega, ?_, by rw [hO2, List.length_append, List.length_cons, List.length_append] at hol; omega⟩
    change _ ≤ _ at hm
    simp only [Option.getD_some] at hm
    omega
  · have hrl : All n (List.range n) := ⟨List.nodup_range, fun x => List.mem_range⟩
    rw [tot_perm (filter_perm hrl hM _), ← hrun.len hzg, hol]
theorem Tree.dep_le {l : List Ls} {n : Nat} {P : List Int} {O D Z : List Nat} (h : Tree l n P O D Z) : ∀ (m x d : Nat), x < n → O.idxOf x ≤ m → D[x]? = some d → d ≤ O.idxOf x := by
  intro m
  induction m with
  | zero =>
    intro x d hx hm hd
    obtain ⟨z, hz⟩ : ∃ z, P[x]? = some z := ⟨_, List.getElem?_eq_getElem (by rw [h.pl]; exact hx)⟩
    by_cases hr : z = -1
    · subst hr
      rw [h.root x hx hz] at hd
      injection hd with hd
      omega
    · obtain ⟨y, a, b, dy, zx, zy, _, hyn, _, _, _, hix, hdy, hdx, _⟩ := h.kid x z hz hr
      omega
  | succ m ih =>
    intro x d hx hm hd
    obtain ⟨z, hz⟩ : ∃ z, P[x]? = some z := ⟨_, List.getElem?_eq_getElem (by rw [h.pl]; exact hx)⟩
    by_cases hr : z = -1
    · subst hr
      rw [h.root x hx hz] at hd
      injection hd with hd
      omega
    · obtain ⟨y, a, b, dy, zx, zy, _, hyn, _, _, _, hix, hdy, hdx, _⟩ := h.kid x z hz hr
      rw [hd] at hdx
      injection hdx with hdx
      have := ih y dy hyn (by omega) hdy
      omega
end Go.Proofs.Ytgldjjmpjaegfaa.Sy
