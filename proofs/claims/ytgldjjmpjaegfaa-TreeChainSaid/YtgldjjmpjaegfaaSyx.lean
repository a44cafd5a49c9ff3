/- TreeChain, plainly: a chain whose spans stand at drawn places. -/
import Derived.Test.YtgldjjmpjaegfaaSyt
import Derived.Test.YtgldjjmpjaegfaaSyw
namespace Go.Proofs.Ytgldjjmpjaegfaa
open Go.RowKit
set_option linter.unusedVariables false
set_option linter.unusedSimpArgs false

/-- The i-th of the chain stands at the place a says; its Id is i + 1, its Parent i. -/
structure Ch (n : Nat) (a : List Nat) (l : List Ls) : Prop where
  ll : l.length = n
  la : a.length = n
  nd : a.Nodup
  lt : ∀ x ∈ a, x < n
  at_ : ∀ i x : Nat, a[i]? = some x → l[x]? = some (spZ ((i + 1 : Nat) : Int) ((i : Nat) : Int))
theorem Ch.all {n : Nat} {a : List Nat} {l : List Ls} (h : Ch n a l) {x : Nat} (hx : x < n) : ∃ i, i < n ∧ a[i]? = some x := by
  have hm : x ∈ a := by
    refine Classical.byContradiction fun hno => ?_
    have h1 := Sy.nd_le n (x :: a) (List.nodup_cons.2 ⟨hno, h.nd⟩) (fun y hy => by
      rcases List.mem_cons.1 hy with e | e
      · rw [e]; exact hx
      · exact h.lt y e)
    rw [List.length_cons, h.la] at h1
    omega
  obtain ⟨i, hi⟩ := List.getElem?_of_mem hm
  exact ⟨i, by have := (List.getElem?_eq_some_iff.1 hi).1; have := h.la; omega, hi⟩
theorem Ch.plc {n i x : Nat} {a : List Nat} {l : List Ls} (h : Ch n a l) (hx : a[i]? = some x) : plc (l.map fun y => y.s.id) ((i + 1 : Nat) : Int) = [x] := by
  refine single_of (plc_sorted _ _) fun j => ?_
  rw [plc_mem, List.getElem?_map]
  constructor
  · intro hj
    have hjn : j < n := by
      rcases Nat.lt_or_ge j n with h1 | h1
      · exact h1
      · rw [List.getElem?_eq_none (by rw [h.ll]; exact h1)] at hj; cases hj
    obtain ⟨k, hk, hk2⟩ := h.all hjn
    rw [h.at_ k j hk2] at hj
    have e : ((k + 1 : Nat) : Int) = ((i + 1 : Nat) : Int) := by injection hj
    have e2 : k = i := by omega
    rw [e2, hx] at hk2
    injection hk2 with hk2
    exact hk2.symm
  · intro e
    subst e
    rw [h.at_ i j hx]; rfl
theorem Ch.no_zero {n : Nat} {a : List Nat} {l : List Ls} (h : Ch n a l) : Go.Proofs.Ytgldjjmpjaegfaa.plc (l.map fun y => y.s.id) 0 = [] := by
  apply List.eq_nil_iff_forall_not_mem.2
  intro j hj
  rw [plc_mem, List.getElem?_map] at hj
  have hjn : j < n := by
    rcases Nat.lt_or_ge j n with h1 | h1
    · exact h1
    · rw [List.getElem?_eq_none (by rw [h.ll]; exact h1)] at hj; cases hj
  obtain ⟨k, hk, hk2⟩ := h.all hjn
  rw [h.at_ k j hk2] at hj
  have e : ((k + 1 : Nat) : Int) = 0 := by injection hj
  omega
/-- The first names nobody, each other the one ahead of it. -/
theorem Ch.named {n : Nat} {a : List Nat} {l : List Ls} (h : Ch n a l) : (∀ x, a[0]? = some x → (namedM l)[x]? = some (-1)) ∧ ∀ i x y : Nat, a[i + 1]? = some x → a[i]? = some y → (namedM l)[x]? = some (y : Int) := by
  refine ⟨fun x hx => ?_, fun i x y hx hy => ?_⟩
  · rw [namedM_at (h.at_ 0 x hx)]
    show some (plO (namedO _ 0 x)) = _
    unfold namedO
    rw [h.no_zero]; rfl
  · rw [namedM_at (h.at_ (i + 1) x hx)]
    show some (plO (namedO _ ((i + 1 : Nat) : Int) x)) = _
    unfold namedO
    rw [h.plc hy]
    have hne : y ≠ x := fun e => by
      have h1 := (List.getElem?_eq_some_iff.1 hx)
      have h2 := (List.getElem?_eq_some_iff.1 hy)
      have h3 := (List.pairwise_iff_getElem.1 (List.nodup_iff_pairwise_ne.1 h.nd)) i (i + 1) h2.1 h1.1 (by omega)
      rw [h1.2, h2.2] at h3
      exact h3 e
    simp [hne, plO]
theorem Ch.end_ {n : Nat} {a : List Nat} {l : List Ls} (h : Ch n a l) : ∀ i x : Nat, a[i]? = some x → Sy.it (Sy.pf (namedM l)) (i + 1) x = none
  | 0, x, hx => by
    show Sy.pf (namedM l) x = none
    unfold Sy.pf
    rw [h.named.1 x hx]; rfl
  | i + 1, x, hx => by
    obtain ⟨y, hy⟩ : ∃ y, a[i]? = some y := ⟨_, List.getElem?_eq_getElem (by have := (List.getElem?_eq_some_iff.1 hx).1; omega)⟩
    have e := pf_of (h.named.2 i x y hx hy)
    rw [show i + 1 + 1 = 1 + (i + 1) by omega, Sy.it_add]
    have e1 : Sy.it (Sy.pf (namedM l)) 1 x = some y := e
    rw [e1]
    exact h.end_ i y hy
/-- No ring: the parents are those that were named. -/
theorem Ch.par {n : Nat} {a : List Nat} {l : List Ls} {P : List Int} (h : Ch n a l) (hp : Sy.ParOf (namedM l) P) : (∀ x, a[0]? = some x → P[x]? = some (-1)) ∧ ∀ i x y : Nat, a[i + 1]? = some x → a[i]? = some y → P[x]? = some (y : Int) := by
  have hl : ∀ i x : Nat, a[i]? = some x → ¬ Sy.LR (Sy.pf (namedM l)) x := fun i x hx hl => by
    obtain ⟨u, hu⟩ := Sy.ring_some hl.1 (i + 1)
    rw [h.end_ i x hx] at hu; cases hu
  exact ⟨fun x hx => by rw [(hp.2 x).2 (hl 0 x hx)]; exact h.named.1 x hx, fun i x y hx hy => by rw [(hp.2 x).2 (hl (i + 1) x hx)]; exact h.named.2 i x y hx hy⟩
theorem Ch.dep {n : Nat} {a : List Nat} {l : List Ls} {P : List Int} {D : List Nat} (h : Ch n a l) (hp : Sy.ParOf (namedM l) P) (hD : DepOf P n D) : ∀ i x : Nat, a[i]? = some x → D[x]? = some i
  | 0, x, hx => by
    have e : Sy.pf P x = none := by unfold Sy.pf; rw [(h.par hp).1 x hx]; rfl
    rw [hD.2 x (h.lt x (List.mem_of_getElem? hx)), e]
  | i + 1, x, hx => by
    obtain ⟨y, hy⟩ : ∃ y, a[i]? = some y := ⟨_, List.getElem?_eq_getElem (by have := (List.getElem?_eq_some_iff.1 hx).1; omega)⟩
    rw [hD.2 x (h.lt x (List.mem_of_getElem? hx)), pf_of ((h.par hp).2 i x y hx hy)]
    simp only
    rw [h.dep hp hD i y hy]; rfl
theorem single_nd {l : List Nat} {u : Nat} (hs : l.Nodup) (h : ∀ j, j ∈ l ↔ j = u) : l = [u] := by
  cases l with
  | nil => have := (h u).2 rfl; cases this
  | cons x r =>
    have hx := (h x).1 List.mem_cons_self
    subst hx
    rw [List.nodup_cons] at hs
    cases r with
    | nil => rfl
    | cons y r =>
      have h2 := (h y).1 (List.mem_cons_of_mem _ List.mem_cons_self)
      rw [h2] at hs
      exact absurd List.mem_cons_self hs.1
/-- Of whom each hangs. -/
theorem Ch.hang {n : Nat} {a : List Nat} {l : List Ls} {P : List Int} (h : Ch n a l) (hp : Sy.ParOf (namedM l) P) : (∀ x, a[0]? = some x → parN P n x = n) ∧ ∀ i x y : Nat, a[i + 1]? = some x → a[i]? = some y → parN P n x = y := by
  refine ⟨fun x hx => ?_, fun i x y hx hy => ?_⟩
  · unfold parN; rw [(h.par hp).1 x hx]; rfl
  · unfold parN; rw [(h.par hp).2 i x y hx hy]
    simp only
    rw [if_neg (by omega)]; omega
theorem Ch.inj {n : Nat} {a : List Nat} {l : List Ls} (h : Ch n a l) {i j x : Nat} (hi : a[i]? = some x) (hj : a[j]? = some x) : i = j := by
  have e := (h.at_ i x hi).symm.trans (h.at_ j x hj)
  injection e with e
  have e2 := congrArg (fun y : Ls => y.s.pa) e
  have e3 : ((i : Nat) : Int) = ((j : Nat) : Int) := e2
  omega
theorem Ch.kids {n : Nat} {a : List Nat} {l : List Ls} {P : List Int} {M : List Nat} (h : Ch n a l) (hp : Sy.ParOf (namedM l) P) (hM : Sy.All n M) :
    (∀ x, a[0]? = some x → (M.filter fun q => parN P n q == n) = [x]) ∧ (∀ i x y : Nat, a[i + 1]? = some x → a[i]? = some y → (M.filter fun q => parN P n q == y) = [x]) ∧ ∀ y, a[n - 1]? = some y → 0 < n → (M.filter fun q => parN P n q == y) = [] := by
  have key : ∀ q, q < n → ∃ i, i < n ∧ a[i]? = some q ∧ ((i = 0 ∧ parN P n q = n) ∨ ∃ i' y, i = i' + 1 ∧ a[i']? = some y ∧ parN P n q = y) := fun q hq => by
    obtain ⟨i, hi, hiq⟩ := h.all hq
    refine ⟨i, hi, hiq, ?_⟩
    cases i with
    | zero => exact .inl ⟨rfl, (h.hang hp).1 q hiq⟩
    | succ i' =>
      obtain ⟨y, hy⟩ : ∃ y, a[i']? = some y := ⟨_, List.getElem?_eq_getElem (by have := h.la; omega)⟩
      exact .inr ⟨i', y, rfl, hy, (h.hang hp).2 i' q y hiq hy⟩
  refine ⟨fun x hx => single_nd (hM.nd.filter _) fun q => ?_, fun i x y hx hy => single_nd (hM.nd.filter _) fun q => ?_, fun y hy hn => ?_⟩
  · rw [Sy.kid_mem hM]
    constructor
    · rintro ⟨hq, hpq⟩
      obtain ⟨i, hi, hiq, h1 | ⟨i', y, h1, h2, h3⟩⟩ := key q hq
      · rw [h1.1, hx] at hiq; injection hiq with e; exact e.symm
      · have := h.lt y (List.mem_of_getElem? h2); omega
    · intro e; subst e
      exact ⟨h.lt q (List.mem_of_getElem? hx), (h.hang hp).1 q hx⟩
  · rw [Sy.kid_mem hM]
    constructor
    · rintro ⟨hq, hpq⟩
      obtain ⟨k, hk, hkq, h1 | ⟨i', y', h1, h2, h3⟩⟩ := key q hq
      · have := h.lt y (List.mem_of_getElem? hy); omega
      · rw [hpq] at h3
        rw [← h3] at h2
        have e := h.inj hy h2
        rw [h1, ← e, hx] at hkq
        injection hkq with e2; exact e2.symm
    · intro e; subst e
      exact ⟨h.lt q (List.mem_of_getElem? hx), (h.hang hp).2 i q y hx hy⟩
  · apply List.eq_nil_iff_forall_not_mem.2
    intro q hq
    rw [Sy.kid_mem hM] at hq
    obtain ⟨k, hk, hkq, h1 | ⟨i', y', h1, h2, h3⟩⟩ := key q hq.1
    · have := h.lt y (List.mem_of_getElem? hy); omega
    · rw [hq.2] at h3
      rw [← h3] at h2
      have e := h.inj hy h2
      omega
/-- The order is the chain. -/
theorem Ch.order {n : Nat} {a : List Nat} {l : List Ls} {P : List Int} {M : List Nat} (h : Ch n a l) (hp : Sy.ParOf (namedM l) P) (hM : Sy.All n M) : ∀ d i x : Nat, i + d + 1 = n → a[i]? = some x → Sy.ordM (kidsL P n M) (d + 1) [x] = a.drop i := by
  intro d
  induction d with
  | zero =>
    intro i x hi hx
    have hk := (h.kids hp hM).2.2 x (by rw [show n - 1 = i by omega]; exact hx) (by omega)
    have hxn := h.lt x (List.mem_of_getElem? hx)
    have hl := (List.getElem?_eq_some_iff.1 hx)
    rw [List.drop_eq_getElem_cons hl.1, hl.2, List.drop_eq_nil_of_le (by have := h.la; omega)]
    rfl
  | succ d ih =>
    intro i x hi hx
    obtain ⟨y, hy⟩ : ∃ y, a[i + 1]? = some y := ⟨_, List.getElem?_eq_getElem (by have := h.la; omega)⟩
    have hk := (h.kids hp hM).2.1 i y x hy hx
    have hxn := h.lt x (List.mem_of_getElem? hx)
    have hl := (List.getElem?_eq_some_iff.1 hx)
    rw [List.drop_eq_getElem_cons hl.1, hl.2, ← ih (i + 1) y (by omega) hy]
    show x :: Sy.ordM _ (d + 1) (((kidsL P n M)[x]?).getD [] ++ []) = _
    rw [kidsL_at M (Nat.le_of_lt hxn), hk]; rfl
theorem Ch.size {n : Nat} {a R S : List Nat} {l : List Ls} {P : List Int} (h : Ch n a l) (hp : Sy.ParOf (namedM l) P) (hR : Sy.All n R) (hS : Sy.Szt P n R S) : ∀ d i x : Nat, i + d + 1 = n → a[i]? = some x → S[x]? = some (d + 1) := by
  intro d
  induction d with
  | zero =>
    intro i x hi hx
    have hxn := h.lt x (List.mem_of_getElem? hx)
    rw [hS.sum x hxn, if_pos ((hR.mem x).2 hxn), (h.kids hp hR).2.2 x (by rw [show n - 1 = i by omega]; exact hx) (by omega)]
    rfl
  | succ d ih =>
    intro i x hi hx
    obtain ⟨y, hy⟩ : ∃ y, a[i + 1]? = some y := ⟨_, List.getElem?_eq_getElem (by have := h.la; omega)⟩
    have hxn := h.lt x (List.mem_of_getElem? hx)
    rw [hS.sum x hxn, if_pos ((hR.mem x).2 hxn), (h.kids hp hR).2.1 i y x hy hx, Sy.tot_one, ih (i + 1) y (by omega) hy]
    simp only [Option.getD_some]
    congr 1
    omega
end Go.Proofs.Ytgldjjmpjaegfaa
