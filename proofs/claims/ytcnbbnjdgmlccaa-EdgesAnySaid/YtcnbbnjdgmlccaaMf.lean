/- A map that holds of each number the place where it came first, in memory of one's own. -/
import Derived.Test.YtcnbbnjdgmlccaaSp
import Derived.Test.YtcnbbnjdgmlccaaBs
import Derived.Maps.Own
import Derived.Maps.OwnOps
import Derived.Maps.OwnSet
import Derived.Maps.Views
namespace Go.Proofs.Ytcnbbnjdgmlccaa
open Go.RowKit Go.Maps
set_option linter.unusedVariables false
set_option linter.unusedSimpArgs false
set_option maxRecDepth 100000

theorem keyI : Keyed Try.prog 3 := int_keyed Try.underlying3
theorem zeroI' (w : World) : (zeroValue 3).run Try.prog w = .ok (.int .i64 0) w := by kernel_rfl
def MapFst (w : World) (b n : Nat) (ts : List Int) : Prop :=
  ∃ D : DataW Unit, w.ownsMap Try.prog 3 (plainElem Try.prog 3) b n D ∧ IsMap D ∧ ∀ t : Int, has D (.int .i64 t) = decide (t ∈ ts) ∧ (t ∈ ts → D.atKey (.int .i64 t) (.lit (.int .i64 0)) = .lit (.int .i64 ((ts.idxOf t : Nat) : Int)))
theorem MapFst.made (w : World) : MapFst (w.alloc (.map #[] 0)) w.heap.size 0 [] := ⟨.map [], World.ownsMap_made _ _ _ _, isMap_empty, fun t => ⟨rfl, fun h => by cases h⟩⟩
theorem MapFst.block {w w' : World} {b n : Nat} {ts : List Int} (h : MapFst w b n ts) (he : w'.heap[b]? = w.heap[b]?) : MapFst w' b n ts := by
  obtain ⟨D, ⟨es, clock, h1, h2⟩, h3⟩ := h
  exact ⟨D, ⟨es, clock, he.trans h1, h2⟩, h3⟩
theorem MapFst.lt {w : World} {b n : Nat} {ts : List Int} (h : MapFst w b n ts) : b < w.heap.size := by
  obtain ⟨D, ⟨es, clock, h1, h2⟩, h3⟩ := h
  rcases Nat.lt_or_ge b w.heap.size with h | h
  · exact h
  · rw [Array.getElem?_eq_none h] at h1; cases h1
theorem MapFst.again {w : World} {b n : Nat} {ts : List Int} {t : Int} (h : MapFst w b n ts) (ht : t ∈ ts) : MapFst w b n (ts ++ [t]) := by
  obtain ⟨D, h1, h2, h3⟩ := h
  refine ⟨D, h1, h2, fun u => ?_⟩
  have hm : u ∈ ts ++ [t] ↔ u ∈ ts := by
    rw [List.mem_append, List.mem_singleton]
    constructor
    · rintro (h | rfl)
      · exact h
      · exact ht
    · exact Or.inl
  refine ⟨by rw [(h3 u).1]; simp only [hm], fun hu => ?_⟩
  rw [(h3 u).2 (hm.1 hu), List.idxOf_append, if_pos (hm.1 hu)]
theorem wfI {t : Int} (h : -9223372036854775808 ≤ t ∧ t ≤ 9223372036854775807) : (Lit.int .i64 t).wf = true := WalkArith.wf_i64 (by omega)
theorem wpList_fst {w : World} {ops : Array Oper} {rest : List Oper} {o : Oper} {a : Act} {Q : Exit → Act → World → Prop} {b n : Nat} {ts : List Int} {t : Int} (h : MapFst w b n ts) (ht : -9223372036854775808 ≤ t ∧ t ≤ 9223372036854775807)
    (hg : o.guard = none) (m x : Operand) (hop : o.op = Op.lookup 61 m x true) (hm : a.eval m = .map (some b)) (hx : a.eval x = .int .i64 t)
    (hK : ∀ c : Int, (t ∈ ts → c = ((ts.idxOf t : Nat) : Int)) → wpList Try.prog ops Q rest (a.put o.dst (.tuple #[.int .i64 c, .bool (decide (t ∈ ts))])) w) : wpList Try.prog ops Q (o :: rest) a w := by
  obtain ⟨D, h1, h2, h3⟩ := h
  refine wpList_lookup_own_ok_int w hg m x 61 hop 3 3 .i64 keyI Try.underlying61 Try.underlying3 (zeroI' w) b n D hm h1 _ (.int .i64 t) hx (keyOf_int_mk Try.underlying3 (wfI ht)) fun c hat hwc => ?_
  rw [(h3 t).1]
  refine hK c fun hts => ?_
  rw [(h3 t).2 hts] at hat
  injection hat with hat
  injection hat with _ hat
  exact hat.symm
theorem wpList_fst_put {w : World} {ops : Array Oper} {rest : List Oper} {o : Oper} {a : Act} {Q : Exit → Act → World → Prop} {b n : Nat} {ts : List Int} {t : Int} (h : MapFst w b n ts) (ht : -9223372036854775808 ≤ t ∧ t ≤ 9223372036854775807) (hts : t ∉ ts) (hn : n ≤ 2000000) (hl : ts.length ≤ 2000000)
    (hg : o.guard = none) (m x v : Operand) (hop : o.op = Op.mapUpdate 61 m x v) (hm : a.eval m = .map (some b)) (hx : a.eval x = .int .i64 t) (hv : a.eval v = .int .i64 ((ts.length : Nat) : Int))
    (hK : ∀ w', MapFst w' b (n + 1) (ts ++ [t]) → w.grownBy w' (some b) → wpList Try.prog ops Q rest (a.put o.dst undef) w') : wpList Try.prog ops Q (o :: rest) a w := by
  obtain ⟨D, h1, h2, h3⟩ := h
  have hk : Go.WideAt.IsKeyLit (.int .i64 t) := by simp [Go.WideAt.IsKeyLit]
  refine wpList_mapUpdate_own w hg m x v 61 hop 3 3 keyI Try.underlying61 _ b n D hm h1 (by unfold maxLen; omega) _ _ (.int .i64 t) hx hv (keyOf_int_mk Try.underlying3 (wfI ht)) (.lit (.int .i64 ((ts.length : Nat) : Int))) [] (plainElem_int Try.underlying3 (wfI (by omega))) fun w' ho hgr => ?_
  refine hK w' ⟨_, ho, h2.put _ _, fun u => ?_⟩ hgr
  by_cases he : u = t
  · subst he
    refine ⟨by rw [has_put_same h2 hk]; simp, fun _ => ?_⟩
    rw [atKey_put_same h2 hk, List.idxOf_append, if_neg hts]
    simp
  · have hne : (Lit.int .i64 u) ≠ .int .i64 t := by simpa using he
    refine ⟨by rw [has_put_other hne, (h3 u).1]; simp [he], fun hu => ?_⟩
    have hu' : u ∈ ts := by
      rcases List.mem_append.1 hu with h | h
      · exact h
      · simp at h; exact absurd h he
    rw [atKey_put_other hne, (h3 u).2 hu', List.idxOf_append, if_pos hu']
end Go.Proofs.Ytcnbbnjdgmlccaa
