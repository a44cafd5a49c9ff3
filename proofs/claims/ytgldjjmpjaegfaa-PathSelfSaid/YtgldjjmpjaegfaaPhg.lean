/- Chapter 30, path: Self, the document's. -/
import Derived.Test.YtgldjjmpjaegfaaPhf
namespace Go.Proofs.Ytgldjjmpjaegfaa
open Go.RowKit Go.Maps
set_option linter.unusedVariables false
set_option linter.unusedSimpArgs false
set_option maxRecDepth 100000

namespace Sy
theorem cutL_in {x y : Int} : ∀ {L : List (Int × Int)}, (∀ z ∈ L, z.1 ≤ z.2) → ∀ z ∈ cutL x y L, ∃ o ∈ L, o.1 ≤ z.1 ∧ z.2 ≤ o.2
  | [], _, z, hz => by cases hz
  | (u, v) :: L, h, z, hz => by
    have h1 := h (u, v) List.mem_cons_self
    dsimp only at h1
    unfold cutL at hz
    rcases List.mem_append.1 hz with e | e
    · refine ⟨(u, v), List.mem_cons_self, ?_⟩
      dsimp only
      split at e
      · rw [List.mem_singleton] at e; rw [e]; dsimp only; omega
      · rcases List.mem_append.1 e with e | e
        · split at e
          · rw [List.mem_singleton] at e; rw [e]; dsimp only; omega
          · cases e
        · split at e
          · rw [List.mem_singleton] at e; rw [e]; dsimp only; omega
          · cases e
    · obtain ⟨o, ho, h2⟩ := cutL_in (fun z hz => h z (List.mem_cons_of_mem _ hz)) z e
      exact ⟨o, List.mem_cons_of_mem _ ho, h2⟩
theorem cutL_far {x y : Int} : ∀ {L : List (Int × Int)}, (∀ z ∈ L, y ≤ z.1) → cutL x y L = L
  | [], _ => rfl
  | (u, v) :: L, h => by
    have h1 := h (u, v) List.mem_cons_self
    dsimp only at h1
    unfold cutL
    rw [if_pos (.inl h1), cutL_far fun z hz => h z (List.mem_cons_of_mem _ hz)]; rfl
structure Dj (L : List (Int × Int)) : Prop where
  ord : ∀ z ∈ L, z.1 ≤ z.2
  far : L.Pairwise fun a b => a.2 ≤ b.1
theorem Dj.cut {x y : Int} (hxy : x ≤ y) : ∀ {L : List (Int × Int)}, Dj L → Dj (cutL x y L) ∧ (cutL x y L).length ≤ L.length + 1
  | [], h => ⟨h, Nat.zero_le _⟩
  | (u, v) :: L, h => by
    have h1 := h.ord (u, v) List.mem_cons_self
    dsimp only at h1
    have hp := h.far
    rw [List.pairwise_cons] at hp
    have hL : Dj L := ⟨fun z hz => h.ord z (List.mem_cons_of_mem _ hz), hp.2⟩
    obtain ⟨i1, i2⟩ := Dj.cut hxy hL
    have hfar : ∀ z ∈ cutL x y L, v ≤ z.1 := fun z hz => by
      obtain ⟨o, ho, h3⟩ := cutL_in hL.ord z hz
      have := hp.1 o ho
      dsimp only at this
      omega
    refine ⟨⟨cutL_ord h.ord, ?_⟩, ?_⟩
    · unfold cutL
      rw [List.pairwise_append]
      refine ⟨?_, i1.far, fun a ha b hb => ?_⟩
      · split
        · exact List.pairwise_singleton _ _
        · rw [List.pairwise_append]
          refine ⟨by split; exact List.pairwise_singleton _ _; exact List.Pairwise.nil, by split; exact List.pairwise_singleton _ _; exact List.Pairwise.nil, fun a ha b hb => ?_⟩
          split at ha
          · split at hb
            · rw [List.mem_singleton] at ha hb; rw [ha, hb]; exact hxy
            · cases hb
          · cases ha
      · have hb2 := hfar b hb
        split at ha
        · rw [List.mem_singleton] at ha; rw [ha]; exact hb2
        · rcases List.mem_append.1 ha with e | e
          · split at e
            · rw [List.mem_singleton] at e; rw [e]; dsimp only; omega
            · cases e
          · split at e
            · rw [List.mem_singleton] at e; rw [e]; exact hb2
            · cases e
    · by_cases hs : u < x ∧ y < v
      · have e : cutL x y L = L := cutL_far fun z hz => by
          have := hp.1 z hz
          dsimp only at this
          omega
        unfold cutL
        rw [e, List.length_append, List.length_cons]
        split
        · simp; omega
        · rw [List.length_append]
          split <;> split <;> simp <;> omega
      · unfold cutL
        rw [List.length_append, List.length_cons]
        split
        · simp; omega
        · rw [List.length_append]
          split
          · split
            · omega
            · simp; omega
          · split <;> simp <;> omega
theorem Dj.one {a b : Int} (h : a ≤ b) : Dj [(a, b)] := ⟨fun z hz => by rw [List.mem_singleton] at hz; rw [hz]; exact h, List.pairwise_singleton _ _⟩
theorem cutL_snoc (x y u v : Int) : ∀ L : List (Int × Int), cutL x y (L ++ [(u, v)]) = cutL x y L ++ (if y ≤ u ∨ v ≤ x then [(u, v)] else (if u < x then [(u, x)] else []) ++ (if y < v then [(y, v)] else []))
  | [] => by
    show cutL x y [(u, v)] = _
    unfold cutL
    show _ ++ [] = _
    rw [List.append_nil]; rfl
  | (a, b) :: L => by
    show cutL x y ((a, b) :: (L ++ [(u, v)])) = _
    unfold cutL
    rw [cutL_snoc x y u v L, List.append_assoc]
theorem sumL_snoc (L : List (Int × Int)) (u v : Int) : sumL (L ++ [(u, v)]) = sumL L + (v - u) := by unfold sumL; simp
theorem sumL_bd : ∀ {L : List (Int × Int)}, (∀ z ∈ L, 0 ≤ z.1 ∧ z.1 ≤ z.2 ∧ z.2 ≤ 2000000000000000) → 0 ≤ sumL L ∧ sumL L ≤ (L.length : Int) * 2000000000000000
  | [], _ => ⟨Int.le_refl _, by simp [sumL]⟩
  | (u, v) :: L, h => by
    have h1 := h (u, v) List.mem_cons_self
    have h2 := sumL_bd fun z hz => h z (List.mem_cons_of_mem _ hz)
    have e : sumL ((u, v) :: L) = (v - u) + sumL L := by unfold sumL; simp
    rw [e, List.length_cons]
    dsimp only at h1
    omega
end Sy
def encP (z : Int × Int) : List Value := [.int .i64 z.1, .int .i64 z.2]
theorem info_pair : (Try.prog.info? 53).map (fun i => (i.zero, i.size, i.bytes)) = some (some (.agg #[.int .i64 0, .int .i64 0]), 2, 16) := by kernel_rfl
theorem appP1 {w : World} {base n : Nat} {v : Value} {L : List (Int × Int)} {ty : TypeId} (h : w.ownsRow base 53 2 v n (L.flatMap encP)) (a b : Int) (hn : n ≤ 100000) (hbase : base ≤ w.heap.size) :
    ∃ v' w', (Builtin.append_ #[54, 54] ty #[v, .slice (some ⟨w.heap.size, 0, none⟩) 1 1]).run Try.prog (w.alloc (.cells #[.int .i64 a, .int .i64 b] 53)) = .ok v' w' ∧ (w'.ownsRow base 53 2 v' (n + 1) ((L ++ [(a, b)]).flatMap encP) ∧ Grew w w' v v') := by
  obtain ⟨i0, hi, hz0, hz1, hz2⟩ := info_parts info_pair
  have hq := heap_alloc_new w (.cells #[.int .i64 a, .int .i64 b] 53)
  obtain ⟨v', w', r1, r2, r3⟩ := run_append_rd (P := Try.prog) (w.alloc (.cells #[.int .i64 a, .int .i64 b] 53)) base 54 ty 53 i0 _ 2 16 Try.underlying54 hi hz0 hz1 hz2 rfl v n (L.flatMap encP) (own_below h ((Below.refl w.heap.size w).alloc (Nat.le_refl _) _)) (w.heap.size + 1) (some ⟨w.heap.size, 0, none⟩) 1 1 [.int .i64 a, .int .i64 b] rfl
    (fun _ => ⟨_, rfl, Nat.lt_succ_self _, fun j u hu => by
      rw [Addr.add_lit, Nat.zero_add, cell_of_row _ w.heap.size j _ _ (0, 0) hq]
      simpa using hu⟩) (fun u hu => by simp only [List.mem_cons, List.not_mem_nil, or_false] at hu; rcases hu with rfl | rfl <;> rfl) (by unfold maxLen; omega) (by omega) (by simp; omega)
  exact ⟨v', w', r1, by rw [List.flatMap_append, List.flatMap_singleton]; exact r2, r3.alloc⟩
theorem rdP_at {w : World} {B : Nat} {A : Option Addr} {L : List (Int × Int)} {j : Nat} {u v : Int} (hr : Rd w B A (L.flatMap encP)) (hj : L[j]? = some (u, v)) : ∃ a, A = some a ∧ a.block < B ∧ w.cell? (a.add (j * 2)) = some (.int .i64 u) ∧ w.cell? (a.add (j * 2 + 1)) = some (.int .i64 v) := by
  have key : ∀ (L : List (Int × Int)) (j : Nat), L[j]? = some (u, v) → (L.flatMap encP)[j * 2]? = some (.int .i64 u) ∧ (L.flatMap encP)[j * 2 + 1]? = some (.int .i64 v) := by
    intro L
    induction L with
    | nil => intro j h; cases h
    | cons z L ih =>
      intro j h
      cases j with
      | zero => injection h with h; subst h; exact ⟨rfl, rfl⟩
      | succ j =>
        have h2 := ih j (by simpa using h)
        rw [List.flatMap_cons, show (j + 1) * 2 = j * 2 + 2 by omega]
        exact h2
  obtain ⟨k1, k2⟩ := key L j hj
  obtain ⟨a, h1, h2, h3⟩ := hr (by have := (List.getElem?_eq_some_iff.1 k1).1; omega)
  exact ⟨a, h1, h2, h3 _ _ k1, h3 _ _ k2⟩
/-- The kids among the first i places, in their order. -/
def placeI (l : List Ls) (P : List Int) (k i : Nat) : List (Int × Int) := ((List.range i).filter fun q => P[q]? == some (k : Int)).map fun q => (Bn l q, En l q)
theorem place_hit {l : List Ls} {P : List Int} {k i : Nat} (h : P[i]? = some (k : Int)) : placeI l P k (i + 1) = placeI l P k i ++ [(Bn l i, En l i)] := by
  unfold placeI
  rw [List.range_succ, List.filter_append, List.map_append]
  simp [h]
theorem place_miss {l : List Ls} {P : List Int} {k i : Nat} (h : P[i]? ≠ some (k : Int)) : placeI l P k (i + 1) = placeI l P k i := by
  unfold placeI
  rw [List.range_succ, List.filter_append, List.map_append]
  have : (P[i]? == some (k : Int)) = false := beq_eq_false_iff_ne.2 h
  simp [this]
theorem place_ord (l : List Ls) (P : List Int) (k i : Nat) : ∀ x ∈ placeI l P k i, x.1 ≤ x.2 := fun x hx => by
  obtain ⟨q, _, rfl⟩ := List.mem_map.1 hx
  exact (Bn_bd l q).2
theorem place_len (l : List Ls) (P : List Int) (k i : Nat) : (placeI l P k i).length ≤ i := by
  unfold placeI
  rw [List.length_map]
  have := List.length_filter_le (fun q => P[q]? == some (k : Int)) (List.range i)
  rw [List.length_range] at this
  exact this
theorem place_kids {l : List Ls} {n k : Nat} {P : List Int} {M O : List Nat} (hF : Sy.Fo l n P M O) (hk : k < n) : ∀ x, x ∈ placeI l P k n ↔ x ∈ kidI l P n M k := fun x => by
  unfold placeI kidI
  rw [List.mem_map, List.mem_map]
  have key : ∀ q, q ∈ (List.range n).filter (fun q => P[q]? == some (k : Int)) ↔ q ∈ M.filter fun q => parN P n q == k := fun q => by
    rw [Sy.kid_mem hF.all, List.mem_filter, List.mem_range]
    constructor
    · rintro ⟨h1, h2⟩
      refine ⟨h1, ?_⟩
      unfold parN
      rw [eq_of_beq h2]
      simp only
      rw [if_neg (by omega)]; omega
    · rintro ⟨h1, h2⟩
      refine ⟨h1, ?_⟩
      obtain ⟨z, hz⟩ : ∃ z, P[q]? = some z := ⟨_, List.getElem?_eq_getElem (by rw [hF.pl]; exact h1)⟩
      have := hF.plain q z hz
      unfold parN at h2
      rw [hz] at h2 ⊢
      simp only at h2
      split at h2
      · omega
      · rw [beq_iff_eq]; congr 1; omega
  constructor
  · rintro ⟨q, h1, h2⟩; exact ⟨q, (key q).1 h1, h2⟩
  · rintro ⟨q, h1, h2⟩; exact ⟨q, (key q).2 h1, h2⟩
def bdL (L : List (Int × Int)) : Prop := ∀ z ∈ L, 0 ≤ z.1 ∧ z.1 ≤ z.2 ∧ z.2 ≤ 2000000000000000
theorem bdL_cut {x y : Int} {L : List (Int × Int)} (h : bdL L) : bdL (Sy.cutL x y L) := fun z hz => by
  have ho : ∀ z ∈ L, z.1 ≤ z.2 := fun z hz => (h z hz).2.1
  obtain ⟨o, h1, h2⟩ := Sy.cutL_in ho z hz
  have := h o h1
  have := Sy.cutL_ord ho z hz
  omega
end Go.Proofs.Ytgldjjmpjaegfaa
