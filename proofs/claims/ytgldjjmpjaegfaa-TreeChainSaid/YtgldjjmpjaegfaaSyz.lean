/- TreeChain, walked. -/
import Derived.Test.YtgldjjmpjaegfaaSyu
import Derived.Test.YtgldjjmpjaegfaaSyx
import Derived.Test.YtgldjjmpjaegfaaYr
namespace Go.Proofs.Ytgldjjmpjaegfaa
open Go.RowKit Go.Maps
set_option linter.unusedVariables false
set_option linter.unusedSimpArgs false
set_option maxRecDepth 100000

/-- The first i of the chain have their places. -/
structure ChI (n i : Nat) (a : List Nat) (H : List Bool) (W : List Nat) (L : List Ls) : Prop where
  la : a.length = i
  lH : H.length = n
  lW : W.length = n
  lL : L.length = n
  perm : (a ++ rest (List.range n) H).Perm (List.range n)
  wh : ∀ j x : Nat, a[j]? = some x → W[j]? = some x
  at_ : ∀ j x : Nat, a[j]? = some x → L[x]? = some (spZ ((j + 1 : Nat) : Int) ((j : Nat) : Int))
theorem ChI.start (n : Nat) : ChI n 0 [] (List.replicate n false) (List.replicate n 0) (List.replicate n (spZ 0 0)) :=
  ⟨rfl, by simp, by simp, by simp, by
    rw [List.nil_append]
    have h := rest_all (List.range n)
    rw [List.length_range] at h
    rw [h], fun j x h => by simp at h, fun j x h => by simp at h⟩
theorem ChI.free {n i : Nat} {a : List Nat} {H : List Bool} {W : List Nat} {L : List Ls} (h : ChI n i a H W L) (hi : i < n) : ∃ j : Nat, j < n ∧ H.getD j true = false := by
  have hl : (rest (List.range n) H).length = n - i := by have := h.perm.length_eq; rw [List.length_append, h.la, List.length_range] at this; omega
  obtain ⟨j, hj⟩ := rest_free (List.range n) H (by intro e; rw [e] at hl; simp at hl; omega)
  exact ⟨j, by have := (List.getElem?_eq_some_iff.1 hj).1; rw [h.lH] at this; exact this, by simp [List.getD, hj]⟩
theorem ChI.step {n i k : Nat} {a : List Nat} {H : List Bool} {W : List Nat} {L : List Ls} (h : ChI n i a H W L) (hi : i < n) (hk : k < n) (hf : H[k]? = some false) :
    ChI n (i + 1) (a ++ [k]) (H.set k true) (W.set i k) (L.set k (spZ ((i + 1 : Nat) : Int) ((i : Nat) : Int))) := by
  have hp := rest_set (List.range n) H k k (List.getElem?_range hk) hf
  have hp2 : (a ++ [k] ++ rest (List.range n) (H.set k true)).Perm (List.range n) := by
    rw [List.append_assoc]
    exact ((List.Perm.append_left a hp).symm).trans h.perm
  have hnd : (a ++ [k] ++ rest (List.range n) (H.set k true)).Nodup := hp2.nodup_iff.2 List.nodup_range
  have hka : k ∉ a := by
    have h1 := (List.nodup_append.1 hnd).1
    have h2 := (List.nodup_append.1 h1).2.2
    intro hm
    exact h2 k hm k List.mem_cons_self rfl
  refine ⟨by rw [List.length_append, h.la]; rfl, by rw [List.length_set]; exact h.lH, by rw [List.length_set]; exact h.lW, by rw [List.length_set]; exact h.lL, hp2, fun j x hx => ?_, fun j x hx => ?_⟩
  · rcases Nat.lt_or_ge j i with hj | hj
    · rw [List.getElem?_append_left (by rw [h.la]; exact hj)] at hx
      rw [List.getElem?_set_ne (by omega)]
      exact h.wh j x hx
    · have hjl := (List.getElem?_eq_some_iff.1 hx).1
      rw [List.length_append, h.la, List.length_singleton] at hjl
      obtain rfl : j = i := by omega
      rw [List.getElem?_append_right (by rw [h.la]; exact Nat.le_refl _), h.la, Nat.sub_self] at hx
      injection hx with hx
      rw [List.getElem?_set_self (by rw [h.lW]; exact hi), ← hx]
  · rcases Nat.lt_or_ge j i with hj | hj
    · rw [List.getElem?_append_left (by rw [h.la]; exact hj)] at hx
      have hxk : k ≠ x := fun e => hka (e ▸ List.mem_of_getElem? hx)
      rw [List.getElem?_set_ne hxk]
      exact h.at_ j x hx
    · have hjl := (List.getElem?_eq_some_iff.1 hx).1
      rw [List.length_append, h.la, List.length_singleton] at hjl
      obtain rfl : j = i := by omega
      rw [List.getElem?_append_right (by rw [h.la]; exact Nat.le_refl _), h.la, Nat.sub_self] at hx
      injection hx with hx
      subst hx
      rw [List.getElem?_set_self (by rw [h.lL]; exact hk)]
theorem ChI.fin {n : Nat} {a : List Nat} {H : List Bool} {W : List Nat} {L : List Ls} (h : ChI n n a H W L) : Ch n a L := by
  have hl : (rest (List.range n) H).length = 0 := by have := h.perm.length_eq; rw [List.length_append, h.la, List.length_range] at this; omega
  have hp := h.perm
  rw [List.length_eq_zero_iff.1 hl, List.append_nil] at hp
  exact ⟨h.lL, h.la, hp.nodup_iff.2 List.nodup_range, fun x hx => List.mem_range.1 (hp.mem_iff.1 hx), h.at_⟩
theorem made_rep10 (z : Array Value) (n : Nat) (hz : z.size = 10) : (madeCells z (n * 10)).toList = (List.replicate n z.toList).flatten := by
  apply List.ext_getElem?
  intro i
  have e2 : ((List.replicate n z.toList).flatten)[i]? = if i < n * 10 then z[i % 10]? else none := by
    induction n generalizing i with
    | zero => simp
    | succ n ih =>
      rw [List.replicate_succ, List.flatten_cons]
      rcases Nat.lt_or_ge i 10 with h | h
      · rw [List.getElem?_append_left (by simpa [hz] using h), if_pos (by omega), Nat.mod_eq_of_lt h]
        simp
      · rw [List.getElem?_append_right (by simpa [hz] using h), ih]
        have e : (i - z.toList.length) % 10 = i % 10 := by
          simp only [Array.length_toList, hz]
          omega
        rw [e]
        simp only [Array.length_toList, hz]
        by_cases h2 : i < (n + 1) * 10
        · rw [if_pos h2, if_pos (by omega)]
        · rw [if_neg h2, if_neg (by omega)]
  rw [e2]
  unfold madeCells
  by_cases h : i < n * 10
  · rw [if_pos h]
    have hm : i % 10 < z.size := by rw [hz]; exact Nat.mod_lt _ (by decide)
    rw [Array.getElem?_toList, Array.getElem?_map, Array.getElem?_range, if_pos h, Array.getElem?_eq_getElem hm]
    simp only [Option.map_some, hz]
    congr 1
    exact getElem!_pos z (i % 10) hm
  · rw [if_neg h]
    apply List.getElem?_eq_none
    simp
    omega
theorem make_spans (n : Nat) (hn : n ≤ 100000) (W : World) :
    ∃ W', (Instr.makeSlice 22 (.int .i64 (n : Int)) (.int .i64 (n : Int))).run Try.prog W = .ok (.slice (some ⟨W.heap.size, 0, none⟩) n n) W' ∧ W'.ownsRow W.heap.size 34 10 (.slice (some ⟨W.heap.size, 0, none⟩) n n) n ((List.replicate n (spZ 0 0)).flatMap Ls.cells) ∧ Below W.heap.size W W' ∧ W'.heap.size = W.heap.size + 1 := by
  obtain ⟨i0, hi, hz0, hz1, hz2⟩ := info_parts info_sp
  have h := run_makeSlice (P := Try.prog) (w := W) 22 34 i0 _ Try.underlying22 hi hz0 .i64 .i64 (n : Int) (n : Int) (by omega) (Int.le_refl _) (by rw [hz1]; simp only [Int.toNat_natCast]; omega) (by
    rw [hz2]
    omega) (by omega)
  rw [hz1] at h
  simp only [Int.toNat_natCast] at h
  refine ⟨_, h, ⟨by rw [List.length_flatMap]; simp [Ls.cells], .inr ⟨W.heap.size, n, _, rfl, Nat.le_refl _, heap_alloc_new W _, Nat.le_refl _, by unfold maxLen; omega, by rw [size_madeCells], ?_⟩⟩, (Below.refl W.heap.size W).alloc (Nat.le_refl _) _, by simp⟩
  have e := made_rep10 (Value.agg #[.int .u64 0, .int .u64 0, .int .u64 0, .int .u64 0, .string ⟨#[]⟩, .string ⟨#[]⟩, .int .i64 0, .int .i64 0, .bool false, .slice none 0 0]).cells n rfl
  have e3 : (Value.agg #[.int .u64 0, .int .u64 0, .int .u64 0, .int .u64 0, .string ⟨#[]⟩, .string ⟨#[]⟩, .int .i64 0, .int .i64 0, .bool false, .slice none 0 0]).cells.toList = (spZ 0 0).cells := rfl
  have e4 : (List.replicate n (spZ 0 0)).flatMap Ls.cells = (List.replicate n (spZ 0 0).cells).flatten := by
    rw [List.flatMap_def, List.map_replicate]
  rw [e3] at e
  rw [e4, ← e]
  apply List.take_of_length_le
  rw [Array.length_toList, size_madeCells]
  exact Nat.le_refl _
theorem sflat_take (M : List Ls) : ∀ k, (M.flatMap Ls.cells).take (k * 10) = (M.take k).flatMap Ls.cells := by
  induction M with
  | nil => intro k; simp
  | cons x M ih =>
    intro k
    cases k with
    | zero => simp
    | succ k =>
      rw [List.flatMap_cons, List.take_succ_cons, List.flatMap_cons, ← ih k, List.take_append]
      have h6 : x.cells.length = 10 := rfl
      rw [h6, List.take_of_length_le (by rw [h6]; omega), show (k + 1) * 10 - 10 = k * 10 by omega]
theorem sflat_drop (M : List Ls) : ∀ k, (M.flatMap Ls.cells).drop (k * 10) = (M.drop k).flatMap Ls.cells := by
  induction M with
  | nil => intro k; simp
  | cons x M ih =>
    intro k
    cases k with
    | zero => simp
    | succ k =>
      rw [List.flatMap_cons, List.drop_succ_cons, ← ih k, List.drop_append]
      have h6 : x.cells.length = 10 := rfl
      rw [h6, List.drop_eq_nil_of_le (by rw [h6]; omega), show (k + 1) * 10 - 10 = k * 10 by omega, List.nil_append]
theorem s_set (M : List Ls) (p : Nat) (z : Ls) (hp : p < M.length) : (M.flatMap Ls.cells).take (p * 10) ++ z.cells ++ (M.flatMap Ls.cells).drop (p * 10 + z.cells.length) = (M.set p z).flatMap Ls.cells := by
  have h4 : p * 10 + z.cells.length = (p + 1) * 10 := by show p * 10 + 10 = _; omega
  rw [h4, sflat_take, sflat_drop, List.set_eq_take_append_cons_drop, if_pos hp, List.flatMap_append, List.flatMap_cons, List.append_assoc]
/-- A span stored whole into a row of one's own. -/
theorem own_setS {w : World} {base g cap n k : Nat} {L : List Ls} (h : w.ownsRow base 34 10 (.slice (some ⟨g, 0, none⟩) n cap) n (L.flatMap Ls.cells)) (hl : L.length = n) (hk : k < n) (a b : Int) :
    (w.setCells g (k * 10) (spZ a b).cells).ownsRow base 34 10 (.slice (some ⟨g, 0, none⟩) n cap) n ((L.set k (spZ a b)).flatMap Ls.cells) ∧ Grew w (w.setCells g (k * 10) (spZ a b).cells) (.slice (some ⟨g, 0, none⟩) n cap) (.slice (some ⟨g, 0, none⟩) n cap) := by
  obtain ⟨h1, h2⟩ := own_setks' (spZ a b).cells (k * 10) h (by show k * 10 + 10 ≤ _; omega)
  rw [s_set _ k _ (by rw [hl]; exact hk)] at h1
  exact ⟨h1, h2⟩
theorem spZ_sets (w : World) (g p : Nat) (a b : Int) : w.setCells g p (spZ a b).cells = ((((((((((w.setCell ⟨g, p, none⟩ (.int .u64 0)).setCell ⟨g, p + 1, none⟩ (.int .u64 0)).setCell ⟨g, p + 2, none⟩ (.int .u64 a)).setCell ⟨g, p + 3, none⟩ (.int .u64 b)).setCell ⟨g, p + 4, none⟩ (.string ⟨#[]⟩)).setCell ⟨g, p + 5, none⟩ (.string ⟨#[]⟩)).setCell ⟨g, p + 6, none⟩ (.int .i64 0)).setCell ⟨g, p + 7, none⟩ (.int .i64 0)).setCell ⟨g, p + 8, none⟩ (.bool false)).setCell ⟨g, p + 9, none⟩ (.slice none 0 0)) := rfl
end Go.Proofs.Ytgldjjmpjaegfaa
