/- tree.Order, plainly: no rings are left; each ahead of its kids; every place once. -/
import Derived.Test.YtgldjjmpjaegfaaTr
namespace Go.Proofs.Ytgldjjmpjaegfaa.Sy
set_option linter.unusedVariables false
set_option linter.unusedSimpArgs false

theorem nd_le : ∀ (n : Nat) (l : List Nat), l.Nodup → (∀ x ∈ l, x < n) → l.length ≤ n
  | 0, l, _, h => by
    cases l with
    | nil => exact Nat.le_refl _
    | cons x l => have := h x (List.mem_cons_self); omega
  | n + 1, l, hd, h => by
    by_cases hn : n ∈ l
    · have h1 := nd_le n (l.erase n) (hd.erase n) (fun x hx => by
        have h2 := h x (List.mem_of_mem_erase hx)
        have h3 : x ≠ n := fun e => hd.not_mem_erase (by rw [e] at hx; exact hx)
        omega)
      rw [List.length_erase_of_mem hn] at h1
      omega
    · have h1 := nd_le n l hd (fun x hx => by
        have h2 := h x hx
        have h3 : x ≠ n := fun e => hn (by rw [← e]; exact hx)
        omega)
      omega
theorem sub_len : ∀ (a b : List Nat), a.Nodup → (∀ x ∈ a, x ∈ b) → a.length ≤ b.length
  | [], b, _, _ => Nat.zero_le _
  | x :: a, b, hd, h => by
    have hx := h x List.mem_cons_self
    rw [List.nodup_cons] at hd
    have h1 := sub_len a (b.erase x) hd.2 (fun y hy => (List.mem_erase_of_ne (fun e => hd.1 (by rw [← e]; exact hy))).2 (h y (List.mem_cons_of_mem _ hy)))
    rw [List.length_erase_of_mem hx] at h1
    have := List.length_pos_of_mem hx
    rw [List.length_cons]
    omega
theorem nd_le' {n : Nat} {l : List Nat} (hd : (l ++ []).Nodup) (h : ∀ x, x ∈ l ↔ x < n) : n ≤ (l ++ []).length := by
  rw [List.append_nil] at hd ⊢
  have h1 := sub_len (List.range n) l List.nodup_range fun x hx => (h x).2 (List.mem_range.1 hx)
  rwa [List.length_range] at h1
/-- Going on for ever among few comes back. -/
theorem ever_ring {f : Nat → Option Nat} {n x : Nat} (hlt : ∀ k u, it f k x = some u → u < n) (h : ∀ k, ∃ u, it f k x = some u) : ∃ a y, it f a x = some y ∧ OnRing f y := by
  have hnd : ¬ ((List.range (n + 1)).map fun k => (it f k x).getD 0).Nodup := fun hd => by
    have h1 := nd_le n _ hd (fun y hy => by
      obtain ⟨k, _, rfl⟩ := List.mem_map.1 hy
      obtain ⟨u, hu⟩ := h k
      rw [hu]; exact hlt k u hu)
    rw [List.length_map, List.length_range] at h1
    omega
  rw [List.nodup_iff_pairwise_ne, List.pairwise_iff_getElem] at hnd
  have hex : ∃ a b, a < b ∧ (it f a x).getD 0 = (it f b x).getD 0 := by
    refine Classical.byContradiction fun hno => hnd fun i j hi hj hij he => hno ⟨i, j, hij, ?_⟩
    rw [List.getElem_map, List.getElem_map, List.getElem_range, List.getElem_range] at he
    exact he
  obtain ⟨a, b, hab, he⟩ := hex
  obtain ⟨y, hy⟩ := h a
  obtain ⟨z, hz⟩ := h b
  rw [hy, hz] at he
  have e : y = z := he
  subst e
  refine ⟨a, y, hy, b - a, by omega, ?_⟩
  rw [show b = a + (b - a) by omega, it_add, hy] at hz
  exact hz
/-- Of the parents no ring is left. -/
theorem ParOf.ends {N P : List Int} {n : Nat} (h : ParOf N P) (hN : N.length = n) (hP : Plain P n) (x : Nat) (hx : x < n) : ∃ d, it (pf P) d x = none := by
  refine Classical.byContradiction fun hno => ?_
  have hall : ∀ k, ∃ u, it (pf P) k x = some u := fun k => by
    cases hk : it (pf P) k x with
    | none => exact absurd ⟨k, hk⟩ hno
    | some u => exact ⟨u, rfl⟩
  obtain ⟨a, y, _, hr⟩ := ever_ring (n := n) (fun k u hu => it_lt hP hx k hu) hall
  have hsame : ∀ v u, pf P v = some u → pf N v = some u := fun v u hu => by
    by_cases hl : LR (pf N) v
    · have h1 := (h.2 v).1 hl
      unfold pf at hu
      rw [h1] at hu
      simp at hu
    · rw [← pf_congr ((h.2 v).2 hl)]; exact hu
  have hit : ∀ k u, it (pf P) k y = some u → it (pf N) k y = some u := by
    intro k
    induction k with
    | zero => intro u hu; exact hu
    | succ k ih =>
      intro u hu
      change (it (pf P) k y).bind (pf P) = some u at hu
      cases ht : it (pf P) k y with
      | none => rw [ht] at hu; cases hu
      | some t =>
        rw [ht] at hu
        show (it (pf N) k y).bind (pf N) = some u
        rw [ih t ht]
        exact hsame t u hu
  obtain ⟨m, hm, h1⟩ := hr
  have hrN : OnRing (pf N) y := ⟨m, hm, hit m y h1⟩
  obtain ⟨⟨q, hq⟩, hle⟩ := lst_all hm (hit m y h1)
  have hLR : LR (pf N) (lst (pf N) y (m - 1)) := by
    obtain ⟨_, hrr⟩ := ring_back hrN hq
    exact ⟨hrr, fun a u hu => hle (q + a) u (by rw [it_add, hq]; exact hu)⟩
  have hn := (h.2 _).1 hLR
  -- it lies on the ring of P as well
  obtain ⟨u, hu⟩ := ring_some ⟨m, hm, h1⟩ (q + 1)
  change (it (pf P) q y).bind (pf P) = some u at hu
  obtain ⟨t, ht⟩ := ring_some ⟨m, hm, h1⟩ q
  have e := hit q t ht
  rw [hq] at e
  injection e with e
  rw [ht] at hu
  have hu : pf P t = some u := hu
  rw [← e] at hu
  generalize lst (pf N) y (m - 1) = r at hn hu
  unfold pf at hu
  rw [hn] at hu
  simp at hu

/-- The order: one, then its kids and theirs, then the others. -/
def ordM (K : List (List Nat)) : Nat → List Nat → List Nat
  | 0, _ => []
  | _ + 1, [] => []
  | f + 1, i :: S => i :: ordM K f ((K[i]?).getD [] ++ S)
theorem ordM_nil (K : List (List Nat)) (f : Nat) : ordM K f [] = [] := by cases f <;> rfl
/-- What the walk over the tree holds: O is done, S is still to do. -/
structure Ost (P : List Int) (n : Nat) (O S : List Nat) : Prop where
  nd : (O ++ S).Nodup
  lt : ∀ x ∈ O ++ S, x < n
  up : ∀ O1 x O2, O = O1 ++ x :: O2 → parN P n x = n ∨ parN P n x ∈ O1
  ups : ∀ x ∈ S, parN P n x = n ∨ parN P n x ∈ O
  roots : ∀ x, x < n → parN P n x = n → x ∈ O ++ S
  kids : ∀ i ∈ O, ∀ x, x < n → parN P n x = i → x ∈ O ++ S
structure All (n : Nat) (M : List Nat) : Prop where
  nd : M.Nodup
  mem : ∀ x, x ∈ M ↔ x < n
theorem kid_mem {P : List Int} {n j x : Nat} {M : List Nat} (h : All n M) : x ∈ (M.filter fun i => parN P n i == j) ↔ x < n ∧ parN P n x = j := by
  rw [List.mem_filter, h.mem, beq_iff_eq]
theorem Ost.start {P : List Int} {n : Nat} {M : List Nat} (h : All n M) : Ost P n [] (M.filter fun i => parN P n i == n) := by
  refine ⟨by rw [List.nil_append]; exact h.nd.filter _, fun x hx => ?_, fun O1 x O2 e => ?_, fun x hx => .inl ((kid_mem h).1 hx).2, fun x hx hp => by rw [List.nil_append]; exact (kid_mem h).2 ⟨hx, hp⟩, fun i hi => by cases hi⟩
  · rw [List.nil_append] at hx; exact ((kid_mem h).1 hx).1
  · cases O1 <;> cases e
theorem Ost.step {P : List Int} {n i : Nat} {O S M : List Nat} (h : All n M) (I : Ost P n O (i :: S)) : Ost P n (O ++ [i]) ((M.filter fun q => parN P n q == i) ++ S) := by
  have hin : i < n := I.lt i (List.mem_append_right _ List.mem_cons_self)
  have hnd := I.nd
  rw [List.nodup_append] at hnd
  obtain ⟨hO, hiS, hdis⟩ := hnd
  rw [List.nodup_cons] at hiS
  have hiO : i ∉ O := fun hm => hdis i hm i List.mem_cons_self rfl
  have knew : ∀ x ∈ (M.filter fun q => parN P n q == i), x ∉ O ∧ x ≠ i ∧ x ∉ S := fun x hx => by
    obtain ⟨h1, h2⟩ := (kid_mem h).1 hx
    have hup : ∀ y ∈ O, parN P n y = n ∨ parN P n y ∈ O := fun y hy => by
      obtain ⟨O1, O2, e⟩ := List.append_of_mem hy
      rcases I.up O1 y O2 e with u | u
      · exact .inl u
      · exact .inr (by rw [e]; exact List.mem_append_left _ u)
    refine ⟨fun hm => ?_, fun e => ?_, fun hm => ?_⟩
    · rcases hup x hm with u | u
      · omega
      · rw [h2] at u; exact hiO u
    · rcases I.ups i List.mem_cons_self with u | u
      · rw [e] at h2; omega
      · rw [e] at h2; rw [h2] at u; exact hiO u
    · rcases I.ups x (List.mem_cons_of_mem _ hm) with u | u
      · omega
      · rw [h2] at u; exact hiO u
  have hmem : ∀ x, x ∈ O ++ i :: S → x ∈ (O ++ [i]) ++ ((M.filter fun q => parN P n q == i) ++ S) := fun x hx => by
    simp only [List.mem_append, List.mem_cons, List.mem_singleton, List.not_mem_nil, or_false] at hx ⊢
    rcases hx with a | a | a
    · exact .inl (.inl a)
    · exact .inl (.inr a)
    · exact .inr (.inr a)
  refine ⟨?_, fun x hx => ?_, fun O1 x O2 e => ?_, fun x hx => ?_, fun x hx hp => hmem x (I.roots x hx hp), fun j hj x hx hp => ?_⟩
  · rw [List.nodup_append, List.nodup_append, List.nodup_append]
    refine ⟨⟨hO, by simp, fun a ha b hb => ?_⟩, ⟨h.nd.filter _, hiS.2, fun a ha b hb e => (knew a ha).2.2 (by rw [e]; exact hb)⟩, fun a ha b hb e => ?_⟩
    · rw [List.mem_singleton] at hb
      rw [hb]; exact fun e => hiO (by rw [← e]; exact ha)
    · subst e
      rcases List.mem_append.1 ha with u | u
      · rcases List.mem_append.1 hb with v | v
        · exact (knew a v).1 u
        · exact hdis a u a (List.mem_cons_of_mem _ v) rfl
      · rw [List.mem_singleton] at u
        subst u
        rcases List.mem_append.1 hb with v | v
        · exact (knew a v).2.1 rfl
        · exact hiS.1 v
  · rcases List.mem_append.1 hx with u | u
    · rcases List.mem_append.1 u with v | v
      · exact I.lt x (List.mem_append_left _ v)
      · rw [List.mem_singleton] at v; rw [v]; exact hin
    · rcases List.mem_append.1 u with v | v
      · exact ((kid_mem h).1 v).1
      · exact I.lt x (List.mem_append_right _ (List.mem_cons_of_mem _ v))
  · rcases List.eq_nil_or_concat O2 with hO2 | ⟨O3, y, hO2⟩
    · subst hO2
      have e1 : O = O1 ∧ [i] = [x] := List.append_inj' e rfl
      obtain ⟨rfl, e2⟩ := e1
      injection e2 with e2
      subst e2
      exact I.ups i List.mem_cons_self
    · subst hO2
      have e1 : O ++ [i] = (O1 ++ x :: O3) ++ [y] := by rw [e]; simp
      have e2 := List.append_inj' e1 rfl
      exact I.up O1 x O3 e2.1
  · rcases List.mem_append.1 hx with u | u
    · exact .inr (by rw [((kid_mem h).1 u).2]; exact List.mem_append_right _ (List.mem_singleton.2 rfl))
    · rcases I.ups x (List.mem_cons_of_mem _ u) with v | v
      · exact .inl v
      · exact .inr (List.mem_append_left _ v)
  · rcases List.mem_append.1 hj with u | u
    · exact hmem x (I.kids j u x hx hp)
    · rw [List.mem_singleton] at u
      subst u
      exact List.mem_append_right _ (List.mem_append_left _ ((kid_mem h).2 ⟨hx, hp⟩))
theorem Ost.len {P : List Int} {n : Nat} {O S : List Nat} (I : Ost P n O S) : O.length + S.length ≤ n := by
  have := nd_le n (O ++ S) I.nd I.lt
  rw [List.length_append] at this
  exact this
/-- At the end all are done. -/
theorem Ost.fin {N P : List Int} {n : Nat} {O : List Nat} (I : Ost P n O []) (h : ParOf N P) (hN : N.length = n) (hP : Plain P n) (hL : P.length = n) : ∀ x, x ∈ O ↔ x < n := by
  intro x
  refine ⟨fun hx => I.lt x (List.mem_append_left _ hx), fun hx => ?_⟩
  have key : ∀ d y, y < n → it (pf P) (d + 1) y = none → y ∈ O := by
    intro d
    induction d with
    | zero =>
      intro y hy he
      have he : pf P y = none := he
      have hr : parN P n y = n := by
        obtain ⟨z, hz⟩ : ∃ z, P[y]? = some z := ⟨_, List.getElem?_eq_getElem (by omega)⟩
        unfold pf at he
        unfold parN
        rw [hz] at he ⊢
        simp only at he ⊢
        split at he
        · rename_i h1; rw [if_pos h1]
        · cases he
      have := I.roots y hy hr
      rwa [List.append_nil] at this
    | succ d ih =>
      intro y hy he
      cases hu : pf P y with
      | none =>
        have hr : parN P n y = n := by
          obtain ⟨z, hz⟩ : ∃ z, P[y]? = some z := ⟨_, List.getElem?_eq_getElem (by omega)⟩
          unfold pf at hu
          unfold parN
          rw [hz] at hu ⊢
          simp only at hu ⊢
          split at hu
          · rename_i h1; rw [if_pos h1]
          · cases hu
        have := I.roots y hy hr
        rwa [List.append_nil] at this
      | some u =>
        obtain ⟨hc, hun⟩ := pf_cell hP hu
        have he2 : it (pf P) (d + 1) u = none := by
          rw [show d + 1 + 1 = 1 + (d + 1) by omega, it_add] at he
          have e1 : it (pf P) 1 y = some u := hu
          rw [e1] at he
          exact he
        have hp : parN P n y = u := by
          unfold parN
          rw [hc]
          simp only
          rw [if_neg (by omega)]; omega
        have := I.kids u (ih u hun he2) y hy hp
        rwa [List.append_nil] at this
  obtain ⟨d, hd⟩ := h.ends hN hP x hx
  cases d with
  | zero => cases hd
  | succ d => exact key d x hx hd
end Go.Proofs.Ytgldjjmpjaegfaa.Sy
