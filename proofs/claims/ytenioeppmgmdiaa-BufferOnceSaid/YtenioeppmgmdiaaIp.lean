/- Plain: episodes as spans are put in one by one: the first and the last of a trace, how many. -/
import Derived.Test.YtenioeppmgmdiaaOk
namespace Go.Proofs.Ytenioeppmgmdiaa
set_option linter.unusedVariables false
set_option linter.unusedSimpArgs false
set_option maxRecDepth 100000

def trs (s : Sp) : Int × Int := (s.hi, s.lo)
def tre (e : Ep) : Int × Int := (e.hi, e.lo)
def scan (l : List Sp) (sure : List Bool) (t : Int × Int) : Nat → Int × Int × Bool
  | 0 => (-1, -1, false)
  | k + 1 => match l[k]?, sure[k]? with
    | some s, some b => if trs s = t then (if (scan l sure t k).1 < 0 then (k : Int) else (scan l sure t k).1, (k : Int), (scan l sure t k).2.2 || b) else scan l sure t k
    | _, _ => scan l sure t k
def kn (l : List Sp) (t : Int × Int) (i : Nat) : Bool := (l.take i).any fun s => decide (trs s = t)
def th (l : List Sp) (t : Int × Int) (id : Int) (i : Nat) : Bool := (l.take i).any fun s => decide (trs s = t) && (s.id == id)
def cntP (L : List Ep) : Nat := (L.map fun e => e.l.length).sum
section
variable {l : List Sp} {sure : List Bool} {i : Nat} {L : List Ep} {s : Sp} {b : Bool}
theorem scan_step (hs : l[i]? = some s) (hb : sure[i]? = some b) (t : Int × Int) : scan l sure t (i + 1) = if trs s = t then (if (scan l sure t i).1 < 0 then (i : Int) else (scan l sure t i).1, (i : Int), (scan l sure t i).2.2 || b) else scan l sure t i := by
  rw [scan, hs, hb]
theorem kn_step (hs : l[i]? = some s) (t : Int × Int) : kn l t (i + 1) = (kn l t i || decide (trs s = t)) := by
  unfold kn
  rw [List.take_add_one, hs]
  simp
theorem th_step (hs : l[i]? = some s) (t : Int × Int) (id : Int) : th l t id (i + 1) = (th l t id i || (decide (trs s = t) && (s.id == id))) := by
  unfold th
  rw [List.take_add_one, hs]
  simp
theorem th_kn {t : Int × Int} {id : Int} (h : th l t id i = true) : kn l t i = true := by
  unfold th at h
  unfold kn
  rw [List.any_eq_true] at h ⊢
  obtain ⟨x, hx, hx2⟩ := h
  rw [Bool.and_eq_true] at hx2
  exact ⟨x, hx, hx2.1⟩
structure Inv16 (l : List Sp) (sure : List Bool) (i : Nat) (L : List Ep) : Prop where
  a : ∀ e ∈ L, scan l sure (tre e) i = (e.f, e.la, e.su) ∧ 0 ≤ e.f
  b : ∀ t, kn l t i = true ↔ ∃ e ∈ L, tre e = t
  c : ∀ e ∈ L, ∀ id, hasId e.l id = th l (tre e) id i
  d : (L.map tre).Nodup
  z : ∀ t, kn l t i = false → scan l sure t i = (-1, -1, false)
theorem Inv16.nil : Inv16 l sure 0 [] := ⟨by simp, by simp [kn], by simp, by simp, fun t _ => rfl⟩
theorem cnt_set (e e' : Ep) : ∀ (L : List Ep) (k : Nat), L[k]? = some e → cntP (L.set k e') + e.l.length = cntP L + e'.l.length
  | [], _, h => by cases h
  | x :: r, 0, h => by
    simp only [List.getElem?_cons_zero, Option.some.injEq] at h
    subst h
    simp only [List.set_cons_zero, cntP, List.map_cons, List.sum_cons]
    omega
  | x :: r, k + 1, h => by
    have ih := cnt_set e e' r k (by simpa using h)
    simp only [List.set_cons_succ, cntP, List.map_cons, List.sum_cons] at ih ⊢
    omega
theorem hasId_app (l : List Sp) (s : Sp) (id : Int) : hasId (l ++ [s]) id = (hasId l id || (s.id == id)) := by
  unfold hasId
  simp
theorem Inv16.step (h : Inv16 l sure i L) (hs : l[i]? = some s) (hb : sure[i]? = some b) :
    Inv16 l sure (i + 1) (putE L s i b) ∧ (putE L s i b).map tre = L.map tre ++ (if kn l (trs s) i = true then [] else [trs s]) ∧ cntP (putE L s i b) = cntP L + (if th l (trs s) s.id i = true then 0 else 1) := by
  cases hk : kn l (trs s) i with
  | true =>
    obtain ⟨e, he, hte⟩ := (h.b _).1 hk
    obtain ⟨k, hke⟩ := List.getElem?_of_mem he
    have hkl : k < L.length := by
      rcases Nat.lt_or_ge k L.length with h | h
      · exact h
      · rw [List.getElem?_eq_none h] at hke; cases hke
    have huniq : ∀ j x, L[j]? = some x → tre x = trs s → j = k := fun j x hj hx => by
      have h1 : (L.map tre)[j]? = some (trs s) := by rw [List.getElem?_map, hj, Option.map_some, hx]
      have h2 : (L.map tre)[k]? = some (trs s) := by rw [List.getElem?_map, hke, Option.map_some, hte]
      have hjl : j < (L.map tre).length := by
        rcases Nat.lt_or_ge j (L.map tre).length with h | h
        · exact h
        · rw [List.getElem?_eq_none h] at h1; cases h1
      exact (List.getElem?_inj hjl h.d).1 (h1.trans h2.symm)
    have hte' : e.hi = s.hi ∧ e.lo = s.lo := by
      have := hte
      simp only [tre, trs, Prod.mk.injEq] at this
      exact this
    rw [putE_some L s i b k e hke hte' (fun x hx hxx => by
      obtain ⟨j, hj⟩ := List.getElem?_of_mem hx
      rw [List.getElem?_take] at hj
      split at hj
      · rename_i hjk
        have := huniq j x hj (by simp only [tre, trs, hxx.1, hxx.2])
        omega
      · cases hj)]
    obtain ⟨e', he'⟩ : ∃ e' : Ep, e' = ⟨e.hi, e.lo, e.f, i, e.su || b, if hasId e.l s.id then e.l else e.l ++ [s]⟩ := ⟨_, rfl⟩
    rw [← he']
    have ht' : tre e' = tre e := by rw [he']; rfl
    have hmap : (L.set k e').map tre = L.map tre := by
      rw [List.map_set, ht']
      apply List.ext_getElem?
      intro j
      rw [List.getElem?_set]
      split
      · rename_i hj
        subst hj
        rw [if_pos (by simpa using hkl), List.getElem?_map, hke]
        rfl
      · rfl
    have hall : ∀ x ∈ L.set k e', x = e' ∨ (x ∈ L ∧ tre x ≠ trs s) := fun x hx => by
      obtain ⟨j, hj⟩ := List.getElem?_of_mem hx
      rw [List.getElem?_set] at hj
      split at hj
      · first
          | (injection hj with hj; exact .inl hj.symm)
          | (split at hj
             · injection hj with hj
               exact .inl hj.symm
             · cases hj)
      · rename_i hjk
        exact .inr ⟨List.mem_of_getElem? hj, fun hh => hjk (huniq j x hj hh).symm⟩
    obtain ⟨ha, ha0⟩ := h.a e he
    have hid : hasId e.l s.id = th l (trs s) s.id i := by rw [h.c e he, hte]
    refine ⟨⟨fun x hx => ?_, fun t => ?_, fun x hx id => ?_, by rw [hmap]; exact h.d, fun t ht => ?_⟩, by rw [hmap]; simp, ?_⟩
    · rcases hall x hx with rfl | ⟨hx, hxt⟩
      · rw [ht', scan_step hs hb, if_pos hte.symm, ha, he']
        refine ⟨?_, ha0⟩
        simp only
        rw [if_neg (by omega)]
      · rw [scan_step hs hb, if_neg (fun hh => hxt hh.symm)]
        exact h.a x hx
    · rw [kn_step hs, Bool.or_eq_true, h.b t, decide_eq_true_eq]
      constructor
      · rintro (⟨x, hx, hxt⟩ | rfl)
        · by_cases hxs : tre x = trs s
          · exact ⟨e', List.mem_of_getElem? (i := k) (by rw [List.getElem?_set_self hkl]), by rw [ht', hte, ← hxs, hxt]⟩
          · obtain ⟨j, hj⟩ := List.getElem?_of_mem hx
            refine ⟨x, List.mem_of_getElem? (i := j) ?_, hxt⟩
            rw [List.getElem?_set_ne (fun hh => ?_)]
            · exact hj
            · subst hh
              rw [hke] at hj
              injection hj with hj
              subst hj
              exact hxs hte
        · exact ⟨e', List.mem_of_getElem? (i := k) (by rw [List.getElem?_set_self hkl]), by rw [ht', hte]⟩
      · rintro ⟨x, hx, hxt⟩
        rcases hall x hx with rfl | ⟨hx, _⟩
        · right
          rw [← hxt, ht', hte]
        · exact .inl ⟨x, hx, hxt⟩
    · rcases hall x hx with rfl | ⟨hx, hxt⟩
      · rw [ht', th_step hs, ← h.c e he, hte, he']
        simp only [decide_true, Bool.true_and]
        cases hh : hasId e.l s.id with
        | true =>
          simp only [if_true]
          by_cases hi : s.id = id
          · subst hi
            rw [hh]
            rfl
          · simp [hi]
        | false =>
          simp only [Bool.false_eq_true, if_false]
          exact hasId_app _ _ _
      · rw [th_step hs, h.c x hx, decide_eq_false (fun hh => hxt hh.symm)]
        simp
    · rw [kn_step hs, Bool.or_eq_false_iff, decide_eq_false_iff_not] at ht
      rw [scan_step hs hb, if_neg ht.2]
      exact h.z t ht.1
    · have hc := cnt_set e e' L k hke
      rw [← hid]
      cases hh : hasId e.l s.id with
      | true =>
        have : e'.l = e.l := by rw [he', hh]; rfl
        rw [this] at hc
        simp only [if_true]
        omega
      | false =>
        have : e'.l.length = e.l.length + 1 := by rw [he', hh]; simp
        rw [this] at hc
        simp only [Bool.false_eq_true, if_false]
        omega
  | false =>
    have hno : ∀ e ∈ L, tre e ≠ trs s := fun e he hh => by
      have := (h.b (trs s)).2 ⟨e, he, hh⟩
      rw [hk] at this
      cases this
    rw [putE_none L s i b (fun e he hh => hno e he (by simp only [tre, trs, hh.1, hh.2]))]
    have hth : th l (trs s) s.id i = false := by
      cases hh : th l (trs s) s.id i with
      | false => rfl
      | true =>
        have := th_kn hh
        rw [hk] at this
        cases this
    have htn : tre ⟨s.hi, s.lo, i, i, b, [s]⟩ = trs s := rfl
    refine ⟨⟨fun x hx => ?_, fun t => ?_, fun x hx id => ?_, ?_, fun t ht => ?_⟩, by rw [List.map_append]; simp [htn], ?_⟩
    · rcases List.mem_append.1 hx with hx | hx
      · rw [scan_step hs hb, if_neg (fun hh => hno x hx hh.symm)]
        exact h.a x hx
      · rw [List.mem_singleton] at hx
        subst hx
        rw [htn, scan_step hs hb, if_pos rfl, h.z _ hk]
        refine ⟨by simp, by show (0 : Int) ≤ (i : Int); omega⟩
    · rw [kn_step hs, Bool.or_eq_true, h.b t, decide_eq_true_eq]
      constructor
      · rintro (⟨x, hx, hxt⟩ | rfl)
        · exact ⟨x, List.mem_append_left _ hx, hxt⟩
        · exact ⟨_, List.mem_append_right _ (List.mem_singleton.2 rfl), htn⟩
      · rintro ⟨x, hx, hxt⟩
        rcases List.mem_append.1 hx with hx | hx
        · exact .inl ⟨x, hx, hxt⟩
        · rw [List.mem_singleton] at hx
          subst hx
          exact .inr hxt
    · rcases List.mem_append.1 hx with hx | hx
      · rw [th_step hs, h.c x hx, decide_eq_false (fun hh => hno x hx hh.symm)]
        simp
      · rw [List.mem_singleton] at hx
        subst hx
        rw [htn, th_step hs]
        have : th l (trs s) id i = false := by
          cases hh : th l (trs s) id i with
          | false => rfl
          | true =>
            have := th_kn hh
            rw [hk] at this
            cases this
        rw [this]
        simp [hasId]
    · rw [List.map_append, List.nodup_append]
      refine ⟨h.d, by simp, fun x hx y hy => ?_⟩
      obtain ⟨e, he, rfl⟩ := List.mem_map.1 hx
      simp only [List.map_cons, List.map_nil, List.mem_singleton] at hy
      rw [hy, htn]
      exact hno e he
    · rw [kn_step hs, Bool.or_eq_false_iff, decide_eq_false_iff_not] at ht
      rw [scan_step hs hb, if_neg ht.2]
      exact h.z t ht.1
    · rw [hth]
      simp [cntP]
end
theorem putE_len (M : Nat) : ∀ (L : List Ep) (s : Sp) (now : Int) (sure : Bool), (∀ e ∈ L, e.l.length ≤ M) → (putE L s now sure).length ≤ L.length + 1 ∧ ∀ e ∈ putE L s now sure, e.l.length ≤ M + 1
  | [], s, now, sure, _ => by
    unfold putE
    exact ⟨by simp, fun e he => by rw [List.mem_singleton] at he; subst he; simp⟩
  | x :: r, s, now, sure, h => by
    unfold putE
    split
    · refine ⟨by simp, fun e he => ?_⟩
      rcases List.mem_cons.1 he with rfl | he
      · have := h x (List.mem_cons_self ..)
        simp only
        split
        · omega
        · simp; omega
      · have := h e (List.mem_cons_of_mem _ he)
        omega
    · obtain ⟨h1, h2⟩ := putE_len M r s now sure (fun e he => h e (List.mem_cons_of_mem _ he))
      refine ⟨by simp only [List.length_cons]; omega, fun e he => ?_⟩
      rcases List.mem_cons.1 he with rfl | he
      · have := h _ (List.mem_cons_self ..)
        omega
      · exact h2 e he
/-- What lies there is as long as what it says. -/
theorem eps_len {M : Nat} {l : List Le} {L : List Ep} (h : l.map Le.ep = L) (hL : ∀ e ∈ L, e.l.length ≤ M) : ∀ e ∈ l, e.l.length ≤ M := fun e he => by
  have h1 : e.ep ∈ L := by rw [← h]; exact List.mem_map_of_mem he
  have h2 := hL _ h1
  simpa [Le.ep] using h2
theorem putE_mem : ∀ (L : List Ep) (s : Sp) (now : Int) (sure : Bool), ∀ e ∈ putE L s now sure, ∀ x ∈ e.l, x = s ∨ ∃ e0 ∈ L, x ∈ e0.l
  | [], s, now, sure, e, he, x, hx => by
    unfold putE at he
    rw [List.mem_singleton] at he
    subst he
    exact .inl (by simpa using hx)
  | y :: r, s, now, sure, e, he, x, hx => by
    unfold putE at he
    split at he
    · rcases List.mem_cons.1 he with rfl | he
      · simp only at hx
        split at hx
        · exact .inr ⟨y, List.mem_cons_self .., hx⟩
        · rcases List.mem_append.1 hx with hx | hx
          · exact .inr ⟨y, List.mem_cons_self .., hx⟩
          · exact .inl (by simpa using hx)
      · exact .inr ⟨e, List.mem_cons_of_mem _ he, hx⟩
    · rcases List.mem_cons.1 he with rfl | he
      · exact .inr ⟨_, List.mem_cons_self .., hx⟩
      · rcases putE_mem r s now sure e he x hx with h | ⟨e0, h0, h1⟩
        · exact .inl h
        · exact .inr ⟨e0, List.mem_cons_of_mem _ h0, h1⟩
/-- As many as were put, each with what was put. -/
def Small (l : List Sp) (i : Nat) (L : List Ep) : Prop := L.length ≤ i ∧ ∀ e ∈ L, e.l.length ≤ i ∧ ∀ x ∈ e.l, x ∈ l
theorem Small.nil (l : List Sp) : Small l 0 [] := ⟨Nat.le_refl _, by simp⟩
theorem Small.step {l : List Sp} {i : Nat} {L : List Ep} {s : Sp} (h : Small l i L) (hs : s ∈ l) (now : Int) (b : Bool) : Small l (i + 1) (putE L s now b) := by
  obtain ⟨h1, h2⟩ := putE_len i L s now b (fun e he => (h.2 e he).1)
  refine ⟨by have := h.1; omega, fun e he => ⟨h2 e he, fun x hx => ?_⟩⟩
  rcases putE_mem L s now b e he x hx with rfl | ⟨e0, h0, hx0⟩
  · exact hs
  · exact (h.2 e0 h0).2 x hx0
theorem Small.mod {l : List Sp} {i : Nat} {L : List Ep} {m : List Le} (h : Small l i L) (hm : m.map Le.ep = L) (hi : i ≤ 60) (ha : ∀ x ∈ l, x.ats.length ≤ 100000) : ModE m := by
  have hl := congrArg List.length hm
  rw [List.length_map] at hl
  refine ⟨by have := h.1; omega, fun e he => ?_⟩
  have h1 : e.ep ∈ L := by rw [← hm]; exact List.mem_map_of_mem he
  obtain ⟨h2, h3⟩ := h.2 _ h1
  refine ⟨by simp [Le.ep] at h2; omega, fun x hx => ?_⟩
  exact ha x.s (h3 x.s (by simp only [Le.ep]; exact List.mem_map_of_mem hx))
theorem cnt_map (m : List Le) : cntP (m.map Le.ep) = (m.map fun e => e.l.length).sum := by
  unfold cntP
  rw [List.map_map]
  congr 1
  apply List.map_congr_left
  intro e he
  simp [Le.ep]
end Go.Proofs.Ytenioeppmgmdiaa
