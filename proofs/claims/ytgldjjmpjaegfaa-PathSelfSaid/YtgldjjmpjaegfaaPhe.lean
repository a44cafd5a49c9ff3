/- Chapter 30, path, plainly: how many milliseconds lie in none of some intervals. -/
import Derived.Test.YtgldjjmpjaegfaaPhb
namespace Go.Proofs.Ytgldjjmpjaegfaa.Sy
open Go.Proofs.Ytgldjjmpjaegfaa
set_option linter.unusedVariables false
set_option linter.unusedSimpArgs false

def cnt (p : Int → Bool) (u : Int) : Nat → Nat
  | 0 => 0
  | k + 1 => cnt p u k + (if p (u + (k : Int)) = true then 1 else 0)
theorem cnt_add (p : Int → Bool) (u : Int) (m : Nat) : ∀ k, cnt p u (m + k) = cnt p u m + cnt p (u + (m : Int)) k
  | 0 => rfl
  | k + 1 => by
    show cnt p u (m + k) + (if p (u + ((m + k : Nat) : Int)) = true then 1 else 0) = cnt p u m + (cnt p (u + (m : Int)) k + _)
    rw [cnt_add p u m k, show u + ((m + k : Nat) : Int) = u + (m : Int) + (k : Int) by omega]
    omega
theorem cnt_congr {p q : Int → Bool} {u : Int} : ∀ {k : Nat}, (∀ t, u ≤ t → t < u + (k : Int) → p t = q t) → cnt p u k = cnt q u k
  | 0, _ => rfl
  | k + 1, h => by
    show cnt p u k + _ = cnt q u k + _
    rw [cnt_congr (k := k) fun t h1 h2 => h t h1 (by omega), h (u + (k : Int)) (by omega) (by omega)]
theorem cnt_all {p : Int → Bool} {u : Int} : ∀ {k : Nat}, (∀ t, u ≤ t → t < u + (k : Int) → p t = true) → cnt p u k = k
  | 0, _ => rfl
  | k + 1, h => by
    show cnt p u k + _ = k + 1
    rw [cnt_all (k := k) fun t h1 h2 => h t h1 (by omega), h (u + (k : Int)) (by omega) (by omega)]
    rfl
theorem cnt_none {p : Int → Bool} {u : Int} : ∀ {k : Nat}, (∀ t, u ≤ t → t < u + (k : Int) → p t = false) → cnt p u k = 0
  | 0, _ => rfl
  | k + 1, h => by
    show cnt p u k + _ = 0
    rw [cnt_none (k := k) fun t h1 h2 => h t h1 (by omega), h (u + (k : Int)) (by omega) (by omega)]
    rfl
theorem cnt_le (p : Int → Bool) (u : Int) : ∀ k, cnt p u k ≤ k
  | 0 => Nat.le_refl _
  | k + 1 => by
    show cnt p u k + _ ≤ k + 1
    have := cnt_le p u k
    split <;> omega
/-- In none of these intervals. -/
def freeB (R : List (Int × Int)) (t : Int) : Bool := R.all fun x => decide (t < x.1) || decide (x.2 ≤ t)
theorem freeB_cons (x : Int × Int) (R : List (Int × Int)) (t : Int) : freeB (x :: R) t = ((decide (t < x.1) || decide (x.2 ≤ t)) && freeB R t) := rfl
theorem freeB_iff {R : List (Int × Int)} {t : Int} : freeB R t = true ↔ ∀ x ∈ R, t < x.1 ∨ x.2 ≤ t := by
  unfold freeB
  rw [List.all_eq_true]
  constructor
  · intro h x hx
    have := h x hx
    simpa using this
  · intro h x hx
    simpa using h x hx
def CI (R : List (Int × Int)) (u v : Int) : Nat := cnt (freeB R) u (v - u).toNat
theorem CI_empty {R : List (Int × Int)} {u v : Int} (h : v ≤ u) : CI R u v = 0 := by unfold CI; rw [show (v - u).toNat = 0 by omega]; rfl
theorem CI_split {R : List (Int × Int)} {u m v : Int} (h1 : u ≤ m) (h2 : m ≤ v) : CI R u v = CI R u m + CI R m v := by
  unfold CI
  rw [show (v - u).toNat = (m - u).toNat + (v - m).toNat by omega, cnt_add, show u + ((m - u).toNat : Int) = m by omega]
theorem CI_congr {R Q : List (Int × Int)} {u v : Int} (h : ∀ t, u ≤ t → t < v → freeB R t = freeB Q t) : CI R u v = CI Q u v := by
  unfold CI
  exact cnt_congr fun t h1 h2 => h t h1 (by omega)
theorem CI_nil {u v : Int} : (CI [] u v : Int) = max (v - u) 0 := by
  unfold CI
  have h := cnt_all (p := freeB []) (u := u) (k := (v - u).toNat) fun t _ _ => rfl
  omega
theorem CI_all {R : List (Int × Int)} {u v : Int} (h : ∀ t, u ≤ t → t < v → freeB R t = true) : (CI R u v : Int) = max (v - u) 0 := by
  unfold CI
  rw [cnt_all fun t h1 h2 => h t h1 (by omega)]
  omega
theorem CI_none {R : List (Int × Int)} {u v : Int} (h : ∀ t, u ≤ t → t < v → freeB R t = false) : CI R u v = 0 := by
  unfold CI
  exact cnt_none fun t h1 h2 => h t h1 (by omega)
theorem CI_le {R : List (Int × Int)} {u v : Int} (h : u ≤ v) : (CI R u v : Int) ≤ v - u := by
  unfold CI
  have := cnt_le (freeB R) u (v - u).toNat
  omega
/-- One interval more, cut out of [u, v). -/
theorem CI_cut {R : List (Int × Int)} {x y u v : Int} (hxy : x ≤ y) (huv : u ≤ v) : CI ((x, y) :: R) u v = (if y ≤ u ∨ v ≤ x then CI R u v else CI R u x + CI R y v) := by
  split
  · rename_i h
    refine CI_congr fun t h1 h2 => ?_
    rw [freeB_cons]
    have : (decide (t < x) || decide (y ≤ t)) = true := by
      rw [Bool.or_eq_true, decide_eq_true_eq, decide_eq_true_eq]; omega
    dsimp only
    rw [this, Bool.true_and]
  · rename_i h
    -- [u, x), [max u x, min y v), [y, v)
    have e1 : CI ((x, y) :: R) u (max u x) = CI R u x := by
      rcases Int.le_total u x with h1 | h1
      · rw [show max u x = x by omega]
        refine CI_congr fun t h2 h3 => ?_
        rw [freeB_cons]
        have : decide (t < x) = true := decide_eq_true h3
        dsimp only
        rw [this, Bool.true_or, Bool.true_and]
      · rw [CI_empty (by omega), CI_empty h1]
    have e3 : CI ((x, y) :: R) (min y v) v = CI R y v := by
      rcases Int.le_total y v with h1 | h1
      · rw [show min y v = y by omega]
        refine CI_congr fun t h2 h3 => ?_
        rw [freeB_cons]
        have : decide (y ≤ t) = true := decide_eq_true h2
        dsimp only
        rw [this, Bool.or_true, Bool.true_and]
      · rw [CI_empty (by omega), CI_empty h1]
    have e2 : CI ((x, y) :: R) (max u x) (min y v) = 0 := CI_none fun t h1 h2 => by
      rw [freeB_cons]
      have a : decide (t < x) = false := decide_eq_false (by omega)
      have b : decide (y ≤ t) = false := decide_eq_false (by omega)
      dsimp only
      rw [a, b]; rfl
    rw [CI_split (m := max u x) (by omega) (by omega), CI_split (u := max u x) (m := min y v) (by omega) (by omega), e1, e2, e3]
    omega
/-- The code's way: kids by their beginning. -/
def selfF (last : Int) : List (Int × Int) → Int → Int → Int
  | [], at_, own => own + max (last - at_) 0
  | (b, e) :: r, at_, own => selfF last r (max at_ e) (own + max (min b last - at_) 0)
theorem selfF_is (last : Int) : ∀ (R : List (Int × Int)) (at_ own : Int), R.Pairwise (fun a b => a.1 ≤ b.1) → (∀ x ∈ R, x.1 ≤ x.2) → selfF last R at_ own = own + (CI R at_ last : Int)
  | [], at_, own, _, _ => by rw [CI_nil]; rfl
  | (b, e) :: r, at_, own, hs, hl => by
    rw [List.pairwise_cons] at hs
    have hbe := hl (b, e) List.mem_cons_self
    dsimp only at hbe
    show selfF last r (max at_ e) (own + max (min b last - at_) 0) = _
    rw [selfF_is last r _ _ hs.2 fun x hx => hl x (List.mem_cons_of_mem _ hx)]
    have key : (CI ((b, e) :: r) at_ last : Int) = max (min b last - at_) 0 + (CI r (max at_ e) last : Int) := by
      rcases Int.le_total last at_ with h | h
      · rw [CI_empty h, CI_empty (by omega)]
        omega
      · rw [CI_cut hbe h]
        split
        · rename_i hc
          rcases hc with hc | hc
          · rw [show max at_ e = at_ by omega]
            omega
          · -- all of it is ahead of b, so ahead of all
            rw [CI_all fun t h1 h2 => freeB_iff.2 fun x hx => .inl (by have := hs.1 x hx; dsimp only at this; omega), CI_empty (by omega)]
            omega
        · rename_i hc
          have e1 : (CI r at_ b : Int) = max (b - at_) 0 := CI_all fun t h1 h2 => freeB_iff.2 fun x hx => .inl (by have := hs.1 x hx; dsimp only at this; omega)
          rw [Int.natCast_add, e1, show max at_ e = e by omega]
          omega
    rw [key]
    omega
/-- The document's way: what is left, cut by each kid. -/
def cutL (x y : Int) : List (Int × Int) → List (Int × Int)
  | [] => []
  | (u, v) :: L => (if y ≤ u ∨ v ≤ x then [(u, v)] else (if u < x then [(u, x)] else []) ++ (if y < v then [(y, v)] else [])) ++ cutL x y L
def totL (R : List (Int × Int)) (L : List (Int × Int)) : Nat := (L.map fun z => CI R z.1 z.2).sum
theorem totL_append (R L Q : List (Int × Int)) : totL R (L ++ Q) = totL R L + totL R Q := by unfold totL; rw [List.map_append, List.sum_append]
theorem cutL_ord {x y : Int} : ∀ {L : List (Int × Int)}, (∀ z ∈ L, z.1 ≤ z.2) → ∀ z ∈ cutL x y L, z.1 ≤ z.2
  | [], _, z, hz => by cases hz
  | (u, v) :: L, h, z, hz => by
    have h1 := h (u, v) List.mem_cons_self
    dsimp only at h1
    unfold cutL at hz
    rcases List.mem_append.1 hz with e | e
    · split at e
      · rw [List.mem_singleton] at e; rw [e]; exact h1
      · rcases List.mem_append.1 e with e | e
        · split at e
          · rw [List.mem_singleton] at e; rw [e]; dsimp only; omega
          · cases e
        · split at e
          · rw [List.mem_singleton] at e; rw [e]; dsimp only; omega
          · cases e
    · exact cutL_ord (fun z hz => h z (List.mem_cons_of_mem _ hz)) z e
theorem cutL_tot {x y : Int} (R : List (Int × Int)) (hxy : x ≤ y) : ∀ {L : List (Int × Int)}, (∀ z ∈ L, z.1 ≤ z.2) → totL ((x, y) :: R) L = totL R (cutL x y L)
  | [], _ => rfl
  | (u, v) :: L, h => by
    have h1 := h (u, v) List.mem_cons_self
    dsimp only at h1
    unfold cutL
    rw [totL_append, ← cutL_tot R hxy fun z hz => h z (List.mem_cons_of_mem _ hz)]
    have e : totL ((x, y) :: R) ((u, v) :: L) = CI ((x, y) :: R) u v + totL ((x, y) :: R) L := by unfold totL; simp
    rw [e, CI_cut hxy h1]
    congr 1
    split
    · unfold totL; simp
    · rw [totL_append]
      congr 1
      · split
        · unfold totL; simp
        · rw [CI_empty (by omega)]; rfl
      · split
        · unfold totL; simp
        · rw [CI_empty (by omega)]; rfl
def sumL (L : List (Int × Int)) : Int := (L.map fun z => z.2 - z.1).sum
theorem sumL_is : ∀ {L : List (Int × Int)}, (∀ z ∈ L, z.1 ≤ z.2) → (totL [] L : Int) = sumL L
  | [], _ => rfl
  | (u, v) :: L, h => by
    have h1 := h (u, v) List.mem_cons_self
    dsimp only at h1
    have e1 : totL [] ((u, v) :: L) = CI [] u v + totL [] L := by unfold totL; simp
    have e2 : sumL ((u, v) :: L) = (v - u) + sumL L := by unfold sumL; simp
    rw [e1, e2, Int.natCast_add, sumL_is fun z hz => h z (List.mem_cons_of_mem _ hz), CI_nil]
    omega
/-- All cuts, one after the other. -/
def cutAll : List (Int × Int) → List (Int × Int) → List (Int × Int)
  | [], L => L
  | (x, y) :: R, L => cutAll R (cutL x y L)
theorem cutAll_is : ∀ {R L : List (Int × Int)}, (∀ z ∈ L, z.1 ≤ z.2) → (∀ z ∈ R, z.1 ≤ z.2) → (totL R L : Int) = sumL (cutAll R L)
  | [], L, hL, _ => sumL_is hL
  | (x, y) :: R, L, hL, hR => by
    have h1 := hR (x, y) List.mem_cons_self
    dsimp only at h1
    rw [cutL_tot R h1 hL]
    exact cutAll_is (cutL_ord hL) fun z hz => hR z (List.mem_cons_of_mem _ hz)
theorem cutAll_snoc (R : List (Int × Int)) (x y : Int) : ∀ (L : List (Int × Int)), cutAll (R ++ [(x, y)]) L = cutL x y (cutAll R L) := by
  induction R with
  | nil => intro L; rfl
  | cons z R ih =>
    intro L
    obtain ⟨a, b⟩ := z
    exact ih (cutL a b L)
theorem freeB_perm {R Q : List (Int × Int)} (h : ∀ x, x ∈ R ↔ x ∈ Q) (t : Int) : freeB R t = freeB Q t := by
  rw [Bool.eq_iff_iff, freeB_iff, freeB_iff]
  exact ⟨fun a x hx => a x ((h x).2 hx), fun a x hx => a x ((h x).1 hx)⟩
end Go.Proofs.Ytgldjjmpjaegfaa.Sy
