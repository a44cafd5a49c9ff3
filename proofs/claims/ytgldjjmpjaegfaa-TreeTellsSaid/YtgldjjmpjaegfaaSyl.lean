/- tree.Parents, plainly: rings, and what the walks hold. -/
import Derived.Test.YtgldjjmpjaegfaaSyj
namespace Go.Proofs.Ytgldjjmpjaegfaa.Sy
set_option linter.unusedVariables false
set_option linter.unusedSimpArgs false

/-- k steps on. -/
def it (f : Nat → Option Nat) : Nat → Nat → Option Nat
  | 0, v => some v
  | k + 1, v => (it f k v).bind f
theorem it_add (f : Nat → Option Nat) (a b v : Nat) : it f (a + b) v = (it f a v).bind (it f b) := by
  induction b with
  | zero => cases h : it f a v with
    | none => rfl
    | some u => rfl
  | succ b ih =>
    rw [← Nat.add_assoc]
    show (it f (a + b) v).bind f = _
    rw [ih]
    cases it f a v with
    | none => rfl
    | some u => rfl
theorem it_less {f : Nat → Option Nat} {a b v u : Nat} (h : it f b v = some u) (hab : a ≤ b) : ∃ x, it f a v = some x := by
  cases hx : it f a v with
  | some x => exact ⟨x, rfl⟩
  | none =>
    rw [show b = a + (b - a) by omega, it_add, hx] at h
    cases h
/-- Who comes to itself again. -/
def OnRing (f : Nat → Option Nat) (v : Nat) : Prop := ∃ m, 0 < m ∧ it f m v = some v
/-- The least of a ring. -/
def LR (f : Nat → Option Nat) (v : Nat) : Prop := OnRing f v ∧ ∀ k u, it f k v = some u → v ≤ u
theorem ring_mul {f : Nat → Option Nat} {v m : Nat} (h : it f m v = some v) (q : Nat) : it f (m * q) v = some v := by
  induction q with
  | zero => rfl
  | succ q ih => rw [Nat.mul_succ, it_add, ih]; exact h
/-- On a ring one never comes to an end. -/
theorem ring_some {f : Nat → Option Nat} {v : Nat} (h : OnRing f v) (k : Nat) : ∃ u, it f k v = some u := by
  obtain ⟨m, hm, h1⟩ := h
  refine it_less (ring_mul h1 k) ?_
  exact Nat.le_mul_of_pos_left k hm
/-- Whom one comes to on a ring comes back. -/
theorem ring_back {f : Nat → Option Nat} {v u k : Nat} (h : OnRing f v) (hk : it f k v = some u) : (∃ j, it f j u = some v) ∧ OnRing f u := by
  obtain ⟨m, hm, h1⟩ := h
  have hle : k ≤ m * (k + 1) := by rw [Nat.mul_succ]; have := Nat.le_mul_of_pos_left k hm; omega
  have h2 := ring_mul h1 (k + 1)
  rw [show m * (k + 1) = k + (m * (k + 1) - k) by omega, it_add, hk] at h2
  have h3 : it f (m * (k + 1) - k) u = some v := h2
  refine ⟨⟨_, h3⟩, m * (k + 1) - k + k, ?_, by rw [it_add, h3]; exact hk⟩
  rw [Nat.mul_succ] at hle ⊢
  have := Nat.le_mul_of_pos_left k hm
  omega

/-- The next by a list: -1 is none. -/
def pf (P : List Int) (v : Nat) : Option Nat := match P[v]? with
  | some z => if z = -1 then none else some z.toNat
  | none => none
theorem pf_lt {P : List Int} {v u : Nat} (h : pf P v = some u) : v < P.length := by
  unfold pf at h
  split at h
  · rename_i z hz; exact (List.getElem?_eq_some_iff.1 hz).1
  · cases h
/-- What lies there is what the next one is. -/
def Plain (P : List Int) (n : Nat) : Prop := ∀ (v : Nat) (z : Int), P[v]? = some z → -1 ≤ z ∧ z < (n : Int)
theorem pf_at {P : List Int} {n v : Nat} {z : Int} (hp : Plain P n) (h : P[v]? = some z) : z = plO (pf P v) := by
  unfold pf
  rw [h]
  have := hp v z h
  by_cases e : z = -1
  · simp [e, plO]
  · simp only [e, if_false, plO]; omega
theorem pf_congr {P N : List Int} {v : Nat} (h : P[v]? = N[v]?) : pf P v = pf N v := by unfold pf; rw [h]
structure Inv (N P : List Int) (W : List Nat) (n i : Nat) : Prop where
  lp : P.length = n
  lw : W.length = n
  same : ∀ v : Nat, W[v]? = some 0 → P[v]? = N[v]?
  or : ∀ v : Nat, P[v]? = N[v]? ∨ (P[v]? = some (-1) ∧ LR (pf N) v)
  cl : ∀ v u x : Nat, W[v]? = some x → x ≠ 0 → pf N v = some u → ∃ y, W[u]? = some y ∧ y ≠ 0
  did : ∀ v x : Nat, W[v]? = some x → x ≠ 0 → LR (pf N) v → P[v]? = some (-1)
  le : ∀ v x : Nat, W[v]? = some x → x ≤ i
  all : ∀ v : Nat, v < i → ∃ x, W[v]? = some x ∧ x ≠ 0
theorem Inv.start {N : List Int} {n : Nat} (hN : N.length = n) : Inv N N (List.replicate n 0) n 0 := by
  have h0 : ∀ v x : Nat, (List.replicate n 0)[v]? = some x → x = 0 := fun v x h => by
    obtain ⟨h1, h2⟩ := List.getElem?_eq_some_iff.1 h
    rw [List.getElem_replicate] at h2; exact h2.symm
  exact ⟨hN, List.length_replicate, fun _ _ => rfl, fun _ => .inl rfl, fun v u x h hx => absurd (h0 v x h) hx, fun v x h hx => absurd (h0 v x h) hx, fun v x h => by rw [h0 v x h]; exact Nat.le_refl _, fun v hv => by omega⟩
/-- k steps of the walk from i. -/
structure Wk (N : List Int) (W0 W : List Nat) (n i k : Nat) : Prop where
  lw : W.length = n
  mark : ∀ j, j < k → ∃ v, it (pf N) j i = some v ∧ W0[v]? = some 0 ∧ W[v]? = some (i + 1)
  rest : ∀ v, (∀ j, j < k → it (pf N) j i ≠ some v) → W[v]? = W0[v]?
theorem Wk.start {N : List Int} {W0 : List Nat} {n i : Nat} (h : W0.length = n) : Wk N W0 W0 n i 0 := ⟨h, fun j hj => by omega, fun _ _ => rfl⟩
/-- Whom the walk hasn't marked stands as before it. -/
theorem Wk.fresh {N : List Int} {W0 W : List Nat} {n i k v x : Nat} (h : Wk N W0 W n i k) (hv : W[v]? = some x) (hx : x ≠ i + 1) : (∀ j, j < k → it (pf N) j i ≠ some v) ∧ W0[v]? = some x := by
  have h1 : ∀ j, j < k → it (pf N) j i ≠ some v := fun j hj he => by
    obtain ⟨u, hu, _, h3⟩ := h.mark j hj
    rw [he] at hu
    injection hu with hu
    subst hu
    rw [hv] at h3
    injection h3 with h3
    exact hx h3
  exact ⟨h1, by rw [← h.rest v h1]; exact hv⟩
theorem Wk.next {N : List Int} {W0 W : List Nat} {n i k v : Nat} (h : Wk N W0 W n i k) (hv : it (pf N) k i = some v) (h0 : W[v]? = some 0) : Wk N W0 (W.set v (i + 1)) n i (k + 1) := by
  obtain ⟨f1, f2⟩ := h.fresh h0 (by omega)
  have hlt := (List.getElem?_eq_some_iff.1 h0).1
  refine ⟨by rw [List.length_set]; exact h.lw, fun j hj => ?_, fun u hu => ?_⟩
  · by_cases e : j = k
    · subst e; exact ⟨v, hv, f2, by rw [List.getElem?_set_self hlt]⟩
    · obtain ⟨u, h1, h2, h3⟩ := h.mark j (by omega)
      have hne : v ≠ u := fun e => f1 j (by omega) (by rw [e]; exact h1)
      exact ⟨u, h1, h2, by rw [List.getElem?_set_ne hne]; exact h3⟩
  · have hne : v ≠ u := fun e => hu k (by omega) (by rw [← e]; exact hv)
    rw [List.getElem?_set_ne hne]
    exact h.rest u fun j hj => hu j (by omega)
/-- In what the walk marked, or in what was marked ahead of it. -/
theorem Wk.cases {N : List Int} {W0 W : List Nat} {n i k v x : Nat} (h : Wk N W0 W n i k) (hv : W[v]? = some x) (hx : x ≠ 0) : (∃ j, j < k ∧ it (pf N) j i = some v ∧ W0[v]? = some 0) ∨ W0[v]? = some x := by
  by_cases he : ∃ j, j < k ∧ it (pf N) j i = some v
  · obtain ⟨j, hj, hji⟩ := he
    obtain ⟨u, h1, h2, h3⟩ := h.mark j hj
    rw [hji] at h1
    injection h1 with h1
    subst h1
    exact .inl ⟨j, hj, hji, h2⟩
  · exact .inr (by rw [← h.rest v fun j hj e => he ⟨j, hj, e⟩]; exact hv)
theorem Wk.old {N P : List Int} {W0 W : List Nat} {n i k v x : Nat} (I : Inv N P W0 n i) (h : Wk N W0 W n i k) (hv : W0[v]? = some x) (hx : x ≠ 0) : W[v]? = some x := by
  rw [h.rest v fun j hj e => ?_]
  · exact hv
  · obtain ⟨u, h1, h2, h3⟩ := h.mark j hj
    rw [e] at h1
    injection h1 with h1
    subst h1
    rw [hv] at h2
    injection h2 with h2
    exact hx h2
/-- From what is marked one comes only to what is marked. -/
theorem Inv.closed {N P : List Int} {W : List Nat} {n i v x : Nat} (I : Inv N P W n i) (hv : W[v]? = some x) (hx : x ≠ 0) : ∀ k u, it (pf N) k v = some u → ∃ y, W[u]? = some y ∧ y ≠ 0
  | 0, u, h => by injection h with h; subst h; exact ⟨x, hv, hx⟩
  | k + 1, u, h => by
    change (it (pf N) k v).bind (pf N) = some u at h
    cases hk : it (pf N) k v with
    | none => rw [hk] at h; cases h
    | some t =>
      rw [hk] at h
      obtain ⟨y, h1, h2⟩ := I.closed hv hx k t hk
      exact I.cl t u y h1 h2 h
/-- What the walk marked, and what was: behind the walk all that holds but what speaks of rings. -/
theorem Wk.inv {N P P' : List Int} {W0 W : List Nat} {n i k : Nat} (I : Inv N P W0 n i) (h : Wk N W0 W n i k) (hk : 0 < k ∨ ∃ x, W0[i]? = some x ∧ x ≠ 0)
    (hend : ∀ u, it (pf N) k i = some u → ∃ y, W[u]? = some y ∧ y ≠ 0) (hp : P'.length = n) (hsame : ∀ v : Nat, W[v]? = some 0 → P'[v]? = N[v]?) (hor : ∀ v : Nat, P'[v]? = N[v]? ∨ (P'[v]? = some (-1) ∧ LR (pf N) v))
    (hdid : ∀ j v : Nat, j < k → it (pf N) j i = some v → LR (pf N) v → P'[v]? = some (-1)) (hkeep : ∀ v : Nat, P[v]? = some (-1) → P'[v]? = some (-1)) : Inv N P' W n (i + 1) := by
  refine ⟨hp, h.lw, hsame, hor, fun v u x hv hx hu => ?_, fun v x hv hx hl => ?_, fun v x hv => ?_, fun v hv => ?_⟩
  · rcases h.cases hv hx with ⟨j, hj, hji, _⟩ | h0
    · have hu2 : it (pf N) (j + 1) i = some u := by show (it (pf N) j i).bind _ = _; rw [hji]; exact hu
      rcases Nat.lt_or_ge (j + 1) k with h1 | h1
      · obtain ⟨t, t1, _, t3⟩ := h.mark (j + 1) h1
        rw [hu2] at t1
        injection t1 with t1
        subst t1
        exact ⟨_, t3, by omega⟩
      · exact hend u (by rw [show k = j + 1 by omega]; exact hu2)
    · obtain ⟨y, y1, y2⟩ := I.cl v u x h0 hx hu
      exact ⟨y, h.old I y1 y2, y2⟩
  · rcases h.cases hv hx with ⟨j, hj, hji, _⟩ | h0
    · exact hdid j v hj hji hl
    · exact hkeep v (I.did v x h0 hx hl)
  · by_cases hx : x = i + 1
    · omega
    · have := I.le v x (h.fresh hv hx).2; omega
  · rcases Nat.lt_or_ge v i with h1 | h1
    · obtain ⟨x, x1, x2⟩ := I.all v h1
      exact ⟨x, h.old I x1 x2, x2⟩
    · obtain rfl : v = i := by omega
      rcases hk with hk | ⟨x, x1, x2⟩
      · obtain ⟨t, t1, _, t3⟩ := h.mark 0 hk
        injection t1 with t1
        subst t1
        exact ⟨_, t3, by omega⟩
      · exact ⟨x, h.old I x1 x2, x2⟩
theorem Wk.same {N P : List Int} {W0 W : List Nat} {n i k : Nat} (I : Inv N P W0 n i) (h : Wk N W0 W n i k) (v : Nat) (hv : W[v]? = some 0) : P[v]? = N[v]? := I.same v (h.fresh hv (by omega)).2
/-- The walk came to an end. -/
theorem Wk.inv_none {N P : List Int} {W0 W : List Nat} {n i k : Nat} (I : Inv N P W0 n i) (h : Wk N W0 W n i k) (he : it (pf N) k i = none) : Inv N P W n (i + 1) := by
  have hk : 0 < k := by
    rcases Nat.eq_zero_or_pos k with e | e
    · rw [e] at he; cases he
    · exact e
  refine h.inv I (.inl hk) (fun u hu => by rw [he] at hu; cases hu) I.lp (h.same I) I.or (fun j v hj hji hl => ?_) fun v hv => hv
  obtain ⟨u, hu⟩ := ring_some hl.1 (k - j)
  rw [show k = j + (k - j) by omega, it_add, hji] at he
  have : it (pf N) (k - j) v = none := he
  rw [hu] at this; cases this
/-- The walk came to what was marked ahead of it. -/
theorem Wk.inv_old {N P : List Int} {W0 W : List Nat} {n i k v x : Nat} (I : Inv N P W0 n i) (h : Wk N W0 W n i k) (he : it (pf N) k i = some v) (hv : W[v]? = some x) (h0 : x ≠ 0) (hx : x ≠ i + 1) : Inv N P W n (i + 1) := by
  have hv0 := (h.fresh hv hx).2
  refine h.inv I ?_ (fun u hu => by rw [he] at hu; injection hu with hu; subst hu; exact ⟨x, hv, h0⟩) I.lp (h.same I) I.or (fun j u hj hji hl => ?_) fun v hv => hv
  · rcases Nat.eq_zero_or_pos k with e | e
    · rw [e] at he; injection he with he; subst he; exact .inr ⟨x, hv0, h0⟩
    · exact .inl e
  · exfalso
    have h1 : it (pf N) (k - j) u = some v := by
      rw [show k = j + (k - j) by omega, it_add, hji] at he; exact he
    obtain ⟨⟨q, hq⟩, _⟩ := ring_back hl.1 h1
    obtain ⟨y, y1, y2⟩ := I.closed hv0 h0 q u hq
    obtain ⟨t, t1, t2, _⟩ := h.mark j hj
    rw [hji] at t1
    injection t1 with t1
    subst t1
    rw [y1] at t2
    injection t2 with t2
    exact y2 t2
/-- The walk came to its own step: a ring. -/
theorem Wk.ring {N P : List Int} {W0 W : List Nat} {n i k v : Nat} (I : Inv N P W0 n i) (h : Wk N W0 W n i k) (he : it (pf N) k i = some v) (hv : W[v]? = some (i + 1)) : ∃ j, j < k ∧ it (pf N) j i = some v ∧ it (pf N) (k - j) v = some v := by
  rcases h.cases hv (by omega) with ⟨j, hj, hji, _⟩ | h0
  · refine ⟨j, hj, hji, ?_⟩
    rw [show k = j + (k - j) by omega, it_add, hji] at he; exact he
  · have := I.le v _ h0; omega
/-- On the ring of the walk the list stands as it was named. -/
theorem Wk.ring_same {N P : List Int} {W0 W : List Nat} {n i k v : Nat} (I : Inv N P W0 n i) (h : Wk N W0 W n i k) (he : it (pf N) k i = some v) (hv : W[v]? = some (i + 1)) : ∀ q u, it (pf N) q v = some u → (∃ j, j < k ∧ it (pf N) j i = some u) ∧ P[u]? = N[u]? := by
  obtain ⟨j, hj, hji, hr⟩ := h.ring I he hv
  have key : ∀ q u, it (pf N) q v = some u → ∃ j, j < k ∧ it (pf N) j i = some u := by
    intro q
    induction q with
    | zero => intro u hu; injection hu with hu; subst hu; exact ⟨j, hj, hji⟩
    | succ q ih =>
      intro u hu
      change (it (pf N) q v).bind (pf N) = some u at hu
      cases ht : it (pf N) q v with
      | none => rw [ht] at hu; cases hu
      | some t =>
        rw [ht] at hu
        obtain ⟨a, ha, hai⟩ := ih t ht
        have h2 : it (pf N) (a + 1) i = some u := by show (it (pf N) a i).bind _ = _; rw [hai]; exact hu
        rcases Nat.lt_or_ge (a + 1) k with h1 | h1
        · exact ⟨a + 1, h1, h2⟩
        · rw [show a + 1 = k by omega, he] at h2
          injection h2 with h2
          subst h2
          exact ⟨j, hj, hji⟩
  intro q u hu
  obtain ⟨a, ha, hai⟩ := key q u hu
  obtain ⟨t, t1, t2, _⟩ := h.mark a ha
  rw [hai] at t1
  injection t1 with t1
  subst t1
  exact ⟨⟨a, ha, hai⟩, I.same _ t2⟩
theorem Wk.inv_ring {N P : List Int} {W0 W : List Nat} {n i k v r q : Nat} (I : Inv N P W0 n i) (h : Wk N W0 W n i k) (he : it (pf N) k i = some v) (hv : W[v]? = some (i + 1)) (hr : it (pf N) q v = some r) (hle : ∀ a u, it (pf N) a v = some u → r ≤ u) : Inv N (P.set r (-1)) W n (i + 1) := by
  obtain ⟨j, hj, hji, hring⟩ := h.ring I he hv
  have hvR : OnRing (pf N) v := ⟨k - j, by omega, hring⟩
  obtain ⟨⟨b, hb⟩, hrR⟩ := ring_back hvR hr
  have hLR : LR (pf N) r := ⟨hrR, fun a u hu => hle (q + a) u (by rw [it_add, hr]; exact hu)⟩
  obtain ⟨⟨a, ha, hai⟩, hPr⟩ := h.ring_same I he hv q r hr
  obtain ⟨t, t1, t2, t3⟩ := h.mark a ha
  rw [hai] at t1
  injection t1 with t1
  subst t1
  have hrlt : r < P.length := by rw [I.lp, ← I.lw]; exact (List.getElem?_eq_some_iff.1 t2).1
  refine h.inv I (.inl (by omega)) (fun u hu => by rw [he] at hu; injection hu with hu; subst hu; exact ⟨_, hv, by omega⟩) (by rw [List.length_set]; exact I.lp) (fun u hu => ?_) (fun u => ?_) (fun a u ha2 hau hl => ?_) fun u hu => ?_
  · have hne : r ≠ u := fun e => by rw [← e, t3] at hu; injection hu with hu; omega
    rw [List.getElem?_set_ne hne]; exact h.same I u hu
  · by_cases e : r = u
    · subst e; exact .inr ⟨List.getElem?_set_self hrlt, hLR⟩
    · rw [List.getElem?_set_ne e]; exact I.or u
  · have h1 : it (pf N) (k - a) u = some v := by
      have he2 := he
      rw [show k = a + (k - a) by omega, it_add, hau] at he2; exact he2
    have h2 : u ≤ r := hl.2 (k - a + q) r (by rw [it_add, h1]; exact hr)
    obtain ⟨⟨c, hc⟩, _⟩ := ring_back hl.1 h1
    have h3 := hle c u hc
    obtain rfl : u = r := by omega
    exact List.getElem?_set_self hrlt
  · by_cases e : r = u
    · subst e; exact List.getElem?_set_self hrlt
    · rw [List.getElem?_set_ne e]; exact hu
/-- Of each ring the least has no parent. -/
def ParOf (N P : List Int) : Prop := P.length = N.length ∧ ∀ v : Nat, (LR (pf N) v → P[v]? = some (-1)) ∧ (¬ LR (pf N) v → P[v]? = N[v]?)
theorem Inv.fin {N P : List Int} {W : List Nat} {n : Nat} (hN : N.length = n) (I : Inv N P W n n) : ParOf N P := by
  refine ⟨by rw [I.lp, hN], fun v => ⟨fun hl => ?_, fun hl => ?_⟩⟩
  · obtain ⟨m, hm, h1⟩ := hl.1
    have hv : v < n := by
      obtain ⟨u, hu⟩ := it_less (a := 1) h1 hm
      have : pf N v = some u := hu
      rw [← hN]; exact pf_lt this
    obtain ⟨x, x1, x2⟩ := I.all v hv
    exact I.did v x x1 x2 hl
  · rcases I.or v with h | ⟨_, h⟩
    · exact h
    · exact absurd h hl
/-- Who is on a ring comes to itself a first time. -/
theorem first_back {f : Nat → Option Nat} {v : Nat} (h : OnRing f v) : ∃ m, 0 < m ∧ it f m v = some v ∧ ∀ k, 0 < k → k < m → it f k v ≠ some v := by
  obtain ⟨m, hm, h1⟩ := h
  induction m using Nat.strongRecOn with
  | _ m ih =>
    by_cases he : ∃ k, 0 < k ∧ k < m ∧ it f k v = some v
    · obtain ⟨k, k1, k2, k3⟩ := he
      exact ih k k2 k1 k3
    · exact ⟨m, hm, h1, fun k k1 k2 k3 => he ⟨k, k1, k2, k3⟩⟩
/-- The least of the first k + 1 ones. -/
def lst (f : Nat → Option Nat) (v : Nat) : Nat → Nat
  | 0 => v
  | k + 1 => min (lst f v k) ((it f (k + 1) v).getD v)
theorem lst_is {f : Nat → Option Nat} {v : Nat} (h : OnRing f v) : ∀ k, (∃ q, it f q v = some (lst f v k)) ∧ ∀ j u, j ≤ k → it f j v = some u → lst f v k ≤ u
  | 0 => ⟨⟨0, rfl⟩, fun j u hj hu => by
      obtain rfl : j = 0 := (by omega)
      injection hu with hu
      subst hu
      exact Nat.le_refl _⟩
  | k + 1 => by
    obtain ⟨⟨q, hq⟩, h2⟩ := lst_is h k
    obtain ⟨y, hy⟩ := ring_some h (k + 1)
    have e : lst f v (k + 1) = min (lst f v k) y := by show min _ _ = _; rw [hy]; rfl
    rw [e]
    refine ⟨?_, fun j u hj hu => ?_⟩
    · rcases Nat.le_total (lst f v k) y with h3 | h3
      · rw [Nat.min_eq_left h3]; exact ⟨q, hq⟩
      · rw [Nat.min_eq_right h3]; exact ⟨k + 1, hy⟩
    · rcases Nat.lt_or_ge j (k + 1) with h3 | h3
      · exact Nat.le_trans (Nat.min_le_left _ _) (h2 j u (by omega) hu)
      · obtain rfl : j = k + 1 := by omega
        rw [hy] at hu
        injection hu with hu
        subst hu
        exact Nat.min_le_right _ _
theorem lst_all {f : Nat → Option Nat} {v m : Nat} (hm : 0 < m) (h : it f m v = some v) : (∃ q, it f q v = some (lst f v (m - 1))) ∧ ∀ j u, it f j v = some u → lst f v (m - 1) ≤ u := by
  have hR : OnRing f v := ⟨m, hm, h⟩
  refine ⟨(lst_is hR (m - 1)).1, fun j u hu => ?_⟩
  have h1 : it f (j % m) v = some u := by
    rw [← Nat.div_add_mod j m, it_add, ring_mul h] at hu
    exact hu
  exact (lst_is hR (m - 1)).2 _ u (by have := Nat.mod_lt j hm; omega) h1
end Go.Proofs.Ytgldjjmpjaegfaa.Sy
