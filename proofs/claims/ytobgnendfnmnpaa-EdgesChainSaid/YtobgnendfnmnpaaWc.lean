/- Edges of a chain, plainly. -/
import Derived.Test.YtobgnendfnmnpaaVy
namespace Go.Proofs.Ytobgnendfnmnpaa
open Go.RowKit
set_option linter.unusedVariables false
set_option linter.unusedSimpArgs false
set_option maxRecDepth 100000

def nmC (k : Nat) : ByteArray := (⟨#[97, 98, 99, 100]⟩ : ByteArray).extract k (k + 1)
theorem four {P : Nat → Prop} (h0 : P 0) (h1 : P 1) (h2 : P 2) (h3 : P 3) : ∀ k, k < 4 → P k := fun k hk => by
  match k, hk with
  | 0, _ => exact h0
  | 1, _ => exact h1
  | 2, _ => exact h2
  | 3, _ => exact h3
  | k + 4, h => omega
theorem nm_form : ∀ k, k < 4 → nmC k = ⟨#[(97 + UInt8.ofNat k)]⟩ := four (by decide +kernel) (by decide +kernel) (by decide +kernel) (by decide +kernel)
theorem nm_inj {k m : Nat} (hk : k < 4) (hm : m < 4) (h : nmC k = nmC m) : k = m := by
  have h1 : ∀ k, k < 4 → ∀ m, m < 4 → nmC k = nmC m → k = m := four (four (by decide +kernel) (by decide +kernel) (by decide +kernel) (by decide +kernel)) (four (by decide +kernel) (by decide +kernel) (by decide +kernel) (by decide +kernel)) (four (by decide +kernel) (by decide +kernel) (by decide +kernel) (by decide +kernel)) (four (by decide +kernel) (by decide +kernel) (by decide +kernel) (by decide +kernel))
  exact h1 k hk m hm h
theorem nm_size : ∀ k, k < 4 → (nmC k).size = 1 := four (by decide +kernel) (by decide +kernel) (by decide +kernel) (by decide +kernel)
theorem nm_right : ∀ k, k < 4 → nameB (nmC k) = true := four (by decide +kernel) (by decide +kernel) (by decide +kernel) (by decide +kernel)
def spC (k : Nat → Nat) (e : Nat → Bool) (i : Nat) : Ls := ⟨⟨0, 0, ((i + 1 : Nat) : Int), (i : Int), nmC (k i), ⟨#[111]⟩, 0, 0, e i, []⟩, none, 0⟩
def lsC (k : Nat → Nat) (e : Nat → Bool) (n : Nat) : List Ls := (List.range n).map (spC k e)
theorem lsC_len (k : Nat → Nat) (e : Nat → Bool) (n : Nat) : (lsC k e n).length = n := by simp [lsC]
theorem lsC_succ (k : Nat → Nat) (e : Nat → Bool) (n : Nat) : lsC k e (n + 1) = lsC k e n ++ [spC k e n] := by simp [lsC, List.range_succ]
theorem lsC_at {k : Nat → Nat} {e : Nat → Bool} {n i : Nat} (h : i < n) : (lsC k e n)[i]? = some (spC k e i) := by simp [lsC, h]
def chC (k : Nat → Nat) (e : Nat → Bool) : Nat → List Call
  | 0 => []
  | i + 1 => chC k e i ++ (if 0 < i ∧ k (i - 1) ≠ k i then [(nmC (k (i - 1)), nmC (k i), e i)] else [])
theorem chC_succ (k : Nat → Nat) (e : Nat → Bool) (i : Nat) : chC k e (i + 1) = chC k e i ++ (if 0 < i ∧ k (i - 1) ≠ k i then [(nmC (k (i - 1)), nmC (k i), e i)] else []) := rfl
theorem chC_len (k : Nat → Nat) (e : Nat → Bool) : ∀ i, (chC k e i).length ≤ i
  | 0 => by simp [chC]
  | i + 1 => by
    have h := chC_len k e i
    rw [chC_succ]
    rw [List.length_append]
    split <;> simp <;> omega
theorem spC_right {k : Nat → Nat} (hk : ∀ i, k i < 4) (e : Nat → Bool) (i : Nat) : right (spC k e i).s = true := by
  unfold right spC
  simp only [nm_right _ (hk i)]
  rfl
theorem chain_fst {k : Nat → Nat} (hk : ∀ i, k i < 4) (e : Nat → Bool) (n i : Nat) (hi : i < n) : fstN ((lsC k e n).map Ls.s) (0, 0, (i : Int)) = if 0 < i then some (i - 1) else none := by
  have hget : ∀ j, (hj : j < ((lsC k e n).map Ls.s).length) → ((lsC k e n).map Ls.s)[j] = (spC k e j).s := fun j hj => by simp [lsC]
  unfold fstN
  by_cases h0 : 0 < i
  · rw [if_pos h0, List.findIdx?_eq_some_iff_getElem]
    refine ⟨by rw [List.length_map, lsC_len]; omega, ?_, fun j hj => ?_⟩
    · rw [hget, spC_right hk, Bool.true_and]
      refine decide_eq_true ?_
      show ((0 : Int), (0 : Int), ((i - 1 + 1 : Nat) : Int)) = _
      rw [show i - 1 + 1 = i from by omega]
    · rw [hget, spC_right hk, Bool.true_and]
      intro hd
      have h1 : ((0 : Int), (0 : Int), ((j + 1 : Nat) : Int)) = (0, 0, (i : Int)) := of_decide_eq_true hd
      simp only [Prod.mk.injEq, true_and] at h1
      omega
  · rw [if_neg h0, List.findIdx?_eq_none_iff]
    intro s hs
    obtain ⟨x, hx, rfl⟩ := List.mem_map.1 hs
    simp only [lsC, List.mem_map] at hx
    obtain ⟨j, _, rfl⟩ := hx
    rw [spC_right hk, Bool.true_and]
    refine decide_eq_false fun h1 => ?_
    have h2 : ((0 : Int), (0 : Int), ((j + 1 : Nat) : Int)) = (0, 0, (i : Int)) := h1
    simp only [Prod.mk.injEq, true_and] at h2
    omega
theorem chain_calls {k : Nat → Nat} (hk : ∀ i, k i < 4) (e : Nat → Bool) (n : Nat) : ∀ i, i ≤ n → callsK (lsC k e n) i = chC k e i
  | 0, _ => by simp [callsK, chC]
  | i + 1, hi => by
    have ih := chain_calls hk e n i (by omega)
    rw [calls_snoc _ i (spC k e i) (lsC_at (by omega)), ih]
    rw [chC_succ]
    congr 1
    unfold callOf
    rw [show ((spC k e i).s.hi, (spC k e i).s.lo, (spC k e i).s.pa) = (0, 0, (i : Int)) from rfl, chain_fst hk e n i (by omega)]
    by_cases h0 : 0 < i
    · rw [if_pos h0]
      have hg : ((lsC k e n).map Ls.s)[i - 1]? = some (spC k e (i - 1)).s := by rw [List.getElem?_map, lsC_at (by omega)]; rfl
      simp only [Option.bind_some, hg]
      rw [spC_right hk]
      by_cases hne : k (i - 1) = k i
      · rw [if_neg (fun h => h.2 (by simp only [spC, hne])), if_neg (fun h => h.2 hne)]; rfl
      · rw [if_pos ⟨rfl, fun h => hne (nm_inj (hk _) (hk _) h)⟩, if_pos ⟨h0, hne⟩]; rfl
    · rw [if_neg h0, if_neg (fun h => h0 h.1)]; rfl
theorem chC_mem {k : Nat → Nat} {e : Nat → Bool} (hk : ∀ i, k i < 4) : ∀ {i : Nat} {c : Call}, c ∈ chC k e i → ∃ p q, p < 4 ∧ q < 4 ∧ p ≠ q ∧ c.1 = nmC p ∧ c.2.1 = nmC q
  | 0, c, h => by simp [chC] at h
  | i + 1, c, h => by
    rw [chC_succ] at h
    rcases List.mem_append.1 h with h | h
    · exact chC_mem hk h
    · split at h
      · rename_i hh
        simp only [List.mem_singleton] at h
        subst h
        exact ⟨_, _, hk _, hk _, hh.2, rfl, rfl⟩
      · cases h
/-- Counters as the law keeps them: of each pair how often it was called, and how often it failed. -/
structure NumC (k : Nat → Nat) (e : Nat → Bool) (i : Nat) (nn bb : List Int) : Prop where
  ln : nn.length = 16
  lb : bb.length = 16
  bn : ∀ j, j < 16 → 0 ≤ nn.getD j 0 ∧ nn.getD j 0 ≤ i
  be : ∀ j, j < 16 → 0 ≤ bb.getD j 0 ∧ bb.getD j 0 ≤ i
  cn : ∀ p q, p < 4 → q < 4 → p ≠ q → nn.getD (p * 4 + q) 0 = (cntC (chC k e i) (nmC p) (nmC q) : Int)
  cb : ∀ p q, p < 4 → q < 4 → p ≠ q → bb.getD (p * 4 + q) 0 = (errC (chC k e i) (nmC p) (nmC q) : Int)
theorem NumC.zero (k : Nat → Nat) (e : Nat → Bool) : NumC k e 0 (List.replicate 16 0) (List.replicate 16 0) := by
  have hz : ∀ j, (List.replicate 16 (0 : Int)).getD j 0 = 0 := fun j => by
    rw [List.getD_eq_getElem?_getD, List.getElem?_replicate]; split <;> rfl
  refine ⟨by simp, by simp, fun j _ => by rw [hz]; simp, fun j _ => by rw [hz]; simp, fun p q _ _ _ => by rw [hz]; simp [chC, cntC], fun p q _ _ _ => by rw [hz]; simp [chC, errC]⟩
theorem getD_set {l : List Int} {j m : Nat} {v : Int} (hm : m < l.length) : (l.set m v).getD j 0 = if j = m then v else l.getD j 0 := by
  rw [List.getD_eq_getElem?_getD, List.getD_eq_getElem?_getD, List.getElem?_set]
  by_cases h : m = j
  · subst h; rw [if_pos rfl, if_pos hm, if_pos rfl]; rfl
  · rw [if_neg h, if_neg (fun e => h e.symm)]
theorem NumC.first {k : Nat → Nat} {e : Nat → Bool} {nn bb : List Int} (h : NumC k e 0 nn bb) : NumC k e 1 nn bb := by
  refine ⟨h.ln, h.lb, fun j hj => ?_, fun j hj => ?_, fun p q hp hq hn => ?_, fun p q hp hq hn => ?_⟩
  · have := h.bn j hj; omega
  · have := h.be j hj; omega
  · rw [h.cn p q hp hq hn]; simp [chC]
  · rw [h.cb p q hp hq hn]; simp [chC]
theorem pair_ix {p q a b : Nat} (hq : q < 4) (hb : b < 4) : (p * 4 + q = a * 4 + b) ↔ (p = a ∧ q = b) := by omega
theorem NumC.next {k : Nat → Nat} {e : Nat → Bool} {i : Nat} {nn bb : List Int} (hk : ∀ i, k i < 4) (h : NumC k e i nn bb) (h0 : 0 < i) (b : Bool) (hb : b = e i) :
    NumC k e (i + 1) (nn.set (k (i - 1) * 4 + k i) (nn.getD (k (i - 1) * 4 + k i) 0 + 1)) (if b = true then bb.set (k (i - 1) * 4 + k i) (bb.getD (k (i - 1) * 4 + k i) 0 + 1) else bb) := by
  subst hb
  have k1 := hk (i - 1)
  have k2 := hk i
  have hm : k (i - 1) * 4 + k i < 16 := by omega
  have hbb : ∀ j, (if e i = true then bb.set (k (i - 1) * 4 + k i) (bb.getD (k (i - 1) * 4 + k i) 0 + 1) else bb).getD j 0 = if j = k (i - 1) * 4 + k i ∧ e i = true then bb.getD (k (i - 1) * 4 + k i) 0 + 1 else bb.getD j 0 := fun j => by
    by_cases he : e i = true
    · rw [if_pos he, getD_set (by rw [h.lb]; exact hm)]
      by_cases hj : j = k (i - 1) * 4 + k i
      · rw [if_pos hj, if_pos ⟨hj, he⟩]
      · rw [if_neg hj, if_neg (fun h => hj h.1)]
    · rw [if_neg he, if_neg (fun h => he h.2)]
  have hc : ∀ p q, p < 4 → q < 4 → p ≠ q → cntC (chC k e (i + 1)) (nmC p) (nmC q) = cntC (chC k e i) (nmC p) (nmC q) + (if p * 4 + q = k (i - 1) * 4 + k i then 1 else 0) := fun p q hp hq hn => by
    rw [chC_succ]
    by_cases hd : k (i - 1) = k i
    · rw [if_neg (fun h => h.2 hd), List.append_nil, if_neg (by rw [pair_ix hq k2]; omega)]; rfl
    · rw [if_pos ⟨h0, hd⟩, cntC_snoc]
      congr 1
      by_cases hx : p * 4 + q = k (i - 1) * 4 + k i
      · obtain ⟨e1, e2⟩ := (pair_ix hq k2).1 hx
        rw [if_pos hx, if_pos ⟨by rw [e1], by rw [e2]⟩]
      · rw [if_neg hx, if_neg (fun h => hx ((pair_ix hq k2).2 ⟨(nm_inj k1 hp h.1).symm, (nm_inj k2 hq h.2).symm⟩))]
  have hr : ∀ p q, p < 4 → q < 4 → p ≠ q → errC (chC k e (i + 1)) (nmC p) (nmC q) = errC (chC k e i) (nmC p) (nmC q) + (if p * 4 + q = k (i - 1) * 4 + k i ∧ e i = true then 1 else 0) := fun p q hp hq hn => by
    rw [chC_succ]
    by_cases hd : k (i - 1) = k i
    · rw [if_neg (fun h => h.2 hd), List.append_nil, if_neg (fun hh => by have := (pair_ix hq k2).1 hh.1; omega)]; rfl
    · rw [if_pos ⟨h0, hd⟩, errC_snoc]
      congr 1
      by_cases hx : p * 4 + q = k (i - 1) * 4 + k i
      · obtain ⟨e1, e2⟩ := (pair_ix hq k2).1 hx
        by_cases he : e i = true
        · rw [if_pos (show (nmC (k (i - 1)) = nmC p ∧ nmC (k i) = nmC q) ∧ e i = true from ⟨⟨by rw [e1], by rw [e2]⟩, he⟩), if_pos ⟨hx, he⟩]
        · rw [if_neg (show ¬ ((nmC (k (i - 1)) = nmC p ∧ nmC (k i) = nmC q) ∧ e i = true) from fun h => he h.2), if_neg (fun h => he h.2)]
      · rw [if_neg (show ¬ ((nmC (k (i - 1)) = nmC p ∧ nmC (k i) = nmC q) ∧ e i = true) from fun h => hx ((pair_ix hq k2).2 ⟨(nm_inj k1 hp h.1.1).symm, (nm_inj k2 hq h.1.2).symm⟩)), if_neg (fun h => hx h.1)]
  refine ⟨by rw [List.length_set, h.ln], by split <;> simp [h.lb], fun j hj => ?_, fun j hj => ?_, fun p q hp hq hn => ?_, fun p q hp hq hn => ?_⟩
  · rw [getD_set (by rw [h.ln]; exact hm)]
    have b1 := h.bn j hj
    have b2 := h.bn _ hm
    split <;> omega
  · rw [hbb]
    have b1 := h.be j hj
    have b2 := h.be _ hm
    split <;> omega
  · rw [getD_set (by rw [h.ln]; exact hm), hc p q hp hq hn, h.cn p q hp hq hn]
    by_cases hx : p * 4 + q = k (i - 1) * 4 + k i
    · rw [if_pos hx, if_pos hx, ← hx, h.cn p q hp hq hn]; omega
    · rw [if_neg hx, if_neg hx]; omega
  · rw [hbb, hr p q hp hq hn, h.cb p q hp hq hn]
    by_cases hx : p * 4 + q = k (i - 1) * 4 + k i ∧ e i = true
    · rw [if_pos hx, if_pos hx, ← hx.1, h.cb p q hp hq hn]; omega
    · rw [if_neg hx, if_neg hx]; omega
/-- The edges that the law expects, of the first j pairs. -/
def egC (nn bb : List Int) (j : Nat) : Option Eg := if j / 4 ≠ j % 4 ∧ 0 < nn.getD j 0 then some ⟨nmC (j / 4), nmC (j % 4), nn.getD j 0, bb.getD j 0⟩ else none
def wantC (nn bb : List Int) (j : Nat) : List Eg := (List.range j).filterMap (egC nn bb)
theorem wantC_succ (nn bb : List Int) (j : Nat) : wantC nn bb (j + 1) = wantC nn bb j ++ (egC nn bb j).toList := by
  unfold wantC
  rw [List.range_succ, List.filterMap_append]
  congr 1
theorem wantC_len (nn bb : List Int) (j : Nat) : (wantC nn bb j).length ≤ j := by
  unfold wantC
  refine Nat.le_trans (List.length_filterMap_le _ _) ?_
  simp
def ordJ (a b : Nat) : Bool := decide (ordG ⟨nmC (a / 4), nmC (a % 4), 0, 0⟩ (nmC (b / 4)) (nmC (b % 4)) < 0)
theorem ordJ_all : (List.range 16).all (fun a => (List.range 16).all (fun b => decide (b ≤ a) || ordJ a b)) = true := by decide +kernel
theorem ordJ_lt {a b : Nat} (hb : b < 16) (h : a < b) : ordJ a b = true := by
  have h1 := List.all_eq_true.1 ordJ_all a (List.mem_range.2 (by omega))
  have h2 := List.all_eq_true.1 h1 b (List.mem_range.2 hb)
  rcases (Bool.or_eq_true _ _).mp h2 with h3 | h3
  · have := of_decide_eq_true h3; omega
  · exact h3
theorem egC_some {nn bb : List Int} {j : Nat} {y : Eg} (h : egC nn bb j = some y) : j / 4 ≠ j % 4 ∧ 0 < nn.getD j 0 ∧ y = ⟨nmC (j / 4), nmC (j % 4), nn.getD j 0, bb.getD j 0⟩ := by
  unfold egC at h
  split at h
  · rename_i hh
    injection h with h
    exact ⟨hh.1, hh.2, h.symm⟩
  · cases h
theorem wantC_ord (nn bb : List Int) : ∀ j, j ≤ 16 → (wantC nn bb j).Pairwise bef
  | 0, _ => by simp [wantC]
  | j + 1, hj => by
    rw [wantC_succ]
    refine List.pairwise_append.2 ⟨wantC_ord nn bb j (by omega), by cases egC nn bb j <;> simp, fun a ha b hb => ?_⟩
    obtain ⟨m, hm, hma⟩ := List.mem_filterMap.1 ha
    have hm2 := List.mem_range.1 hm
    obtain ⟨_, _, rfl⟩ := egC_some hma
    obtain ⟨_, _, rfl⟩ := egC_some (by simpa using hb)
    have := ordJ_lt (a := m) (b := j) (by omega) hm2
    have h9 : ordG ⟨nmC (m / 4), nmC (m % 4), 0, 0⟩ (nmC (j / 4)) (nmC (j % 4)) < 0 := of_decide_eq_true this
    exact h9
theorem NumC.tally {k : Nat → Nat} {e : Nat → Bool} {n : Nat} {nn bb : List Int} (hk : ∀ i, k i < 4) (h : NumC k e n nn bb) (hn : n ≤ 1000) : Tally 1000 (chC k e n) (wantC nn bb 16) := by
  refine ⟨wantC_ord nn bb 16 (Nat.le_refl _), fun y hy => ?_, fun fr tt hc => ?_⟩
  · obtain ⟨j, hj, hjy⟩ := List.mem_filterMap.1 hy
    have hj2 := List.mem_range.1 hj
    obtain ⟨h1, h2, rfl⟩ := egC_some hjy
    have e0 : j / 4 * 4 + j % 4 = j := by omega
    have c1 := h.cn (j / 4) (j % 4) (by omega) (by omega) h1
    have c2 := h.cb (j / 4) (j % 4) (by omega) (by omega) h1
    rw [e0] at c1 c2
    have l1 := cntC_le (chC k e n) (nmC (j / 4)) (nmC (j % 4))
    have l2 := errC_le (chC k e n) (nmC (j / 4)) (nmC (j % 4))
    have l3 := chC_len k e n
    refine ⟨?_, ?_, ?_⟩
    · show 0 < cntC (chC k e n) (nmC (j / 4)) (nmC (j % 4)); omega
    · show nn.getD j 0 = min (cntC (chC k e n) (nmC (j / 4)) (nmC (j % 4)) : Int) 1000; omega
    · show bb.getD j 0 = min (errC (chC k e n) (nmC (j / 4)) (nmC (j % 4)) : Int) 1000; omega
  · unfold cntC at hc
    obtain ⟨c, hc1, hc2⟩ := List.countP_pos_iff.1 hc
    obtain ⟨p, q, hp, hq, hpq, e1, e2⟩ := chC_mem hk hc1
    obtain ⟨f1, f2⟩ := of_decide_eq_true hc2
    rw [e1] at f1
    rw [e2] at f2
    have hc' : 0 < cntC (chC k e n) (nmC p) (nmC q) := by rw [f1, f2]; exact hc
    have hcn := h.cn p q hp hq hpq
    have d1 : (p * 4 + q) / 4 = p := by omega
    have d2 : (p * 4 + q) % 4 = q := by omega
    refine ⟨⟨nmC p, nmC q, nn.getD (p * 4 + q) 0, bb.getD (p * 4 + q) 0⟩, List.mem_filterMap.2 ⟨p * 4 + q, List.mem_range.2 (by omega), ?_⟩, f1, f2⟩
    unfold egC
    rw [d1, d2, if_pos ⟨hpq, by omega⟩]
/-- What Add makes of the chain is what the law expects. -/
theorem chain_same {k : Nat → Nat} {e : Nat → Bool} {n : Nat} {nn bb : List Int} {M : List Eg} (hk : ∀ i, k i < 4) (h : NumC k e n nn bb) (hn : n ≤ 60) (hc : CA 1000 [] (callsK (lsC k e n) n) M) : M = wantC nn bb 16 := by
  rw [chain_calls hk e n n (Nat.le_refl _)] at hc
  have h1 := chC_len k e n
  have x := Tally.steps (by decide) (Tally.nil 1000) (by simp; omega) hc
  exact Tally.same x (h.tally hk (by omega)) (fun _ _ => rfl) (fun _ _ => rfl)
end Go.Proofs.Ytobgnendfnmnpaa
