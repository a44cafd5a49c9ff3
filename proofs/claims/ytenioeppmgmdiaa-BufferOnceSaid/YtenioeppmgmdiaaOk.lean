/- A row of one's own of structs, one of them replaced; what an episode's put is, plainly. -/
import Derived.Test.YtenioeppmgmdiaaCe
namespace Go.Proofs.Ytenioeppmgmdiaa
open Go.RowKit
set_option linter.unusedVariables false
set_option linter.unusedSimpArgs false
set_option maxRecDepth 100000

/-- A store into a row of one's own, of whatever elements. -/
theorem own_setk {w : World} {base g cap n size : Nat} {e : TypeId} {xs : List Value} (h : w.ownsRow base e size (.slice (some ⟨g, 0, none⟩) n cap) n xs) {i : Nat} (hi : i < n * size) (u : Value) :
    w.frozen? ⟨g, i, none⟩ = false ∧ w.cell? ⟨g, i, none⟩ = xs[i]? ∧ (w.setCell ⟨g, i, none⟩ u).ownsRow base e size (.slice (some ⟨g, 0, none⟩) n cap) n (xs.set i u) ∧
      Grew w (w.setCell ⟨g, i, none⟩ u) (.slice (some ⟨g, 0, none⟩) n cap) (.slice (some ⟨g, 0, none⟩) n cap) := by
  rcases h.2 with ⟨h0, _⟩ | ⟨g', cap', cur, hv, hb, hg, hnc, hcm, hcs, htake⟩
  · cases h0
  · simp only [Value.slice.injEq, Option.some.injEq, Addr.mk.injEq] at hv
    obtain ⟨⟨rfl, _⟩, _, rfl⟩ := hv
    have hset := setCell_eq_setRow w g i cur e (0, 0) u hg
    have hi2 : i < cur.size := by rw [hcs]; exact Nat.lt_of_lt_of_le hi (Nat.mul_le_mul_right _ hnc)
    have hcell : w.cell? ⟨g, i, none⟩ = xs[i]? := by
      rw [cell_of_row w g i cur e (0, 0) hg, ← htake, List.getElem?_take, if_pos hi]
      simp
    refine ⟨by simp [World.frozen?, hg], hcell, ⟨by rw [List.length_set]; exact h.1, .inr ⟨g, cap, cur.setIfInBounds i u, rfl, hb, ?_, hnc, hcm, ?_, ?_⟩⟩, ⟨⟨?_, ?_, ?_, ?_, ?_⟩, .inl rfl⟩⟩
    · rw [hset]; exact setRow_heap w g cur _ e _ hg
    · simpa using hcs
    · rw [← htake, Array.toList_setIfInBounds, List.take_set]
    · rw [hset]; rfl
    · rw [hset]; rfl
    · rw [hset]; rfl
    · rw [hset]; simp
    · intro k hk hne
      rw [hset]
      exact setRow_other w g k _ (fun e => hne (by simp [Value.ownBlock, e]))
theorem set6 (l : List Le) (k : Nat) (e : Le) (hk : k < l.length) :
    ((((((l.flatMap Le.cells).set (k * 6) (.int .u64 e.hi)).set (k * 6 + 1) (.int .u64 e.lo)).set (k * 6 + 2) (.int .i64 e.f)).set (k * 6 + 3) (.int .i64 e.la)).set (k * 6 + 4) (.bool e.su)).set (k * 6 + 5) (.slice e.A e.l.length e.c) = (l.set k e).flatMap Le.cells := by
  apply List.ext_getElem?
  intro i
  have hlen : (l.flatMap Le.cells).length = l.length * 6 := flatMap_len _ 6 ecells_len l
  obtain ⟨q, r, hr, rfl⟩ : ∃ q r, r < 6 ∧ i = q * 6 + r := ⟨i / 6, i % 6, Nat.mod_lt _ (by omega), by omega⟩
  rw [flatMap_at _ 6 ecells_len (l.set k e) q r hr]
  simp only [List.getElem?_set, List.length_set, hlen]
  by_cases hq : q = k
  · subst hq
    rcases (show r = 0 ∨ r = 1 ∨ r = 2 ∨ r = 3 ∨ r = 4 ∨ r = 5 by omega) with rfl | rfl | rfl | rfl | rfl | rfl
    · rw [if_neg (by omega), if_neg (by omega), if_neg (by omega), if_neg (by omega), if_neg (by omega), if_pos (by omega), if_pos (by omega), if_pos rfl, if_pos hk]; rfl
    · rw [if_neg (by omega), if_neg (by omega), if_neg (by omega), if_neg (by omega), if_pos (by omega), if_pos (by omega), if_pos rfl, if_pos hk]; rfl
    · rw [if_neg (by omega), if_neg (by omega), if_neg (by omega), if_pos (by omega), if_pos (by omega), if_pos rfl, if_pos hk]; rfl
    · rw [if_neg (by omega), if_neg (by omega), if_pos (by omega), if_pos (by omega), if_pos rfl, if_pos hk]; rfl
    · rw [if_neg (by omega), if_pos (by omega), if_pos (by omega), if_pos rfl, if_pos hk]; rfl
    · rw [if_pos (by omega), if_pos (by omega), if_pos rfl, if_pos hk]; rfl
  · rw [if_neg (by omega), if_neg (by omega), if_neg (by omega), if_neg (by omega), if_neg (by omega), if_neg (by omega), if_neg (fun h => hq h.symm), flatMap_at _ 6 ecells_len l q r hr]
theorem set_su (l : List Le) (k : Nat) (e : Le) (su : Bool) (hk : l[k]? = some e) : (l.flatMap Le.cells).set (k * 6 + 4) (.bool su) = (l.set k { e with su := su }).flatMap Le.cells := by
  have hkl : k < l.length := by
    rcases Nat.lt_or_ge k l.length with h | h
    · exact h
    · rw [List.getElem?_eq_none h] at hk; cases hk
  apply List.ext_getElem?
  intro i
  have hlen : (l.flatMap Le.cells).length = l.length * 6 := flatMap_len _ 6 ecells_len l
  obtain ⟨q, r, hr, rfl⟩ : ∃ q r, r < 6 ∧ i = q * 6 + r := ⟨i / 6, i % 6, Nat.mod_lt _ (by omega), by omega⟩
  rw [flatMap_at _ 6 ecells_len (l.set k _) q r hr]
  simp only [List.getElem?_set, hlen]
  by_cases hq : q = k
  · subst hq
    rw [if_pos rfl, if_pos hkl]
    rcases (show r = 0 ∨ r = 1 ∨ r = 2 ∨ r = 3 ∨ r = 4 ∨ r = 5 by omega) with rfl | rfl | rfl | rfl | rfl | rfl
    all_goals first
      | (rw [if_neg (by omega), flatMap_at _ 6 ecells_len l q _ hr, hk]; rfl)
      | (rw [if_pos rfl, if_pos (by omega)]; rfl)
  · rw [if_neg (by omega), if_neg (fun h => hq h.symm), flatMap_at _ 6 ecells_len l q r hr]
/-- A span put into the first episode of its trace, or into one of its own. -/
def putE : List Ep → Sp → Int → Bool → List Ep
  | [], s, now, sure => [⟨s.hi, s.lo, now, now, sure, [s]⟩]
  | e :: r, s, now, sure => if e.hi = s.hi ∧ e.lo = s.lo then ⟨e.hi, e.lo, e.f, now, e.su || sure, if hasId e.l s.id then e.l else e.l ++ [s]⟩ :: r else e :: putE r s now sure
theorem putE_none : ∀ (l : List Ep) (s : Sp) (now : Int) (sure : Bool), (∀ e ∈ l, ¬ (e.hi = s.hi ∧ e.lo = s.lo)) → putE l s now sure = l ++ [⟨s.hi, s.lo, now, now, sure, [s]⟩]
  | [], _, _, _, _ => rfl
  | e :: r, s, now, sure, h => by
    unfold putE
    rw [if_neg (h e (List.mem_cons_self ..)), putE_none r s now sure (fun x hx => h x (List.mem_cons_of_mem _ hx))]
    rfl
theorem putE_some : ∀ (l : List Ep) (s : Sp) (now : Int) (sure : Bool) (k : Nat) (e : Ep), l[k]? = some e → (e.hi = s.hi ∧ e.lo = s.lo) → (∀ x ∈ l.take k, ¬ (x.hi = s.hi ∧ x.lo = s.lo)) → putE l s now sure = l.set k ⟨e.hi, e.lo, e.f, now, e.su || sure, if hasId e.l s.id then e.l else e.l ++ [s]⟩
  | [], _, _, _, _, _, h, _, _ => by cases h
  | x :: r, s, now, sure, 0, e, h, ht, _ => by
    simp only [List.getElem?_cons_zero, Option.some.injEq] at h
    subst h
    unfold putE
    rw [if_pos ht]
    rfl
  | x :: r, s, now, sure, k + 1, e, h, ht, hp => by
    unfold putE
    rw [if_neg (hp x (by simp)), putE_some r s now sure k e (by simpa using h) ht (fun y hy => hp y (by rw [List.take_succ_cons]; exact List.mem_cons_of_mem _ hy))]
    rfl
end Go.Proofs.Ytenioeppmgmdiaa
