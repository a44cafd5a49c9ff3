/- A map that counts numbers, in memory of one's own. -/
import Derived.Test.YtchcjbapbdfhkaaLe
import Derived.Maps.Own
import Derived.Maps.OwnOps
import Derived.Maps.Views
namespace Go.Proofs.Ytchcjbapbdfhkaa
open Go.RowKit Go.Maps
set_option linter.unusedVariables false
set_option maxRecDepth 100000

theorem keyU : Keyed Try.prog 26 := int_keyed Try.underlying26
theorem zeroI (w : World) : (zeroValue 3).run Try.prog w = .ok (.int .i64 0) w := by kernel_rfl
/-- The map in block b counts how often each number stands in ids. -/
def MapCnt (w : World) (b n : Nat) (ids : List Int) : Prop :=
  ∃ D : DataW Unit, w.ownsMap Try.prog 26 (plainElem Try.prog 3) b n D ∧ IsMap D ∧ ∀ id : Int, D.atKey (.int .u64 id) (.lit (.int .i64 0)) = .lit (.int .i64 (ids.count id : Nat))
theorem MapCnt.made (w : World) : MapCnt (w.alloc (.map #[] 0)) w.heap.size 0 [] := ⟨.map [], World.ownsMap_made _ _ _ _, isMap_empty, fun id => rfl⟩
theorem MapCnt.block {w w' : World} {b n : Nat} {ids : List Int} (h : MapCnt w b n ids) (he : w'.heap[b]? = w.heap[b]?) : MapCnt w' b n ids := by
  obtain ⟨D, ⟨es, clock, h1, h2⟩, h3⟩ := h
  exact ⟨D, ⟨es, clock, he.trans h1, h2⟩, h3⟩
theorem MapCnt.lt {w : World} {b n : Nat} {ids : List Int} (h : MapCnt w b n ids) : b < w.heap.size := by
  obtain ⟨D, ⟨es, clock, h1, h2⟩, h3⟩ := h
  exact in_heap h1
theorem MapCnt.not_own {w : World} {b n : Nat} {ids : List Int} (h : MapCnt w b n ids) {base e size m : Nat} {v : Value} {xs : List Value} (ho : w.ownsRow base e size v m xs) : v.ownBlock ≠ some b := by
  obtain ⟨D, ⟨es, clock, h1, h2⟩, h3⟩ := h
  rcases ho.2 with ⟨rfl, _⟩ | ⟨g, cap, cur, rfl, _, hg, _⟩
  · simp [Value.ownBlock]
  · simp only [Value.ownBlock]
    intro he
    injection he with he
    subst he
    rw [hg] at h1
    cases h1
theorem wfU {id : Int} (h : 0 ≤ id ∧ id ≤ 18446744073709551615) : (Lit.int .u64 id).wf = true := WalkArith.wf_u64 (by omega)
/-- How often it was counted. -/
theorem wpList_cnt {w : World} {ops : Array Oper} {rest : List Oper} {o : Oper} {a : Act} {Q : Exit → Act → World → Prop} {b n : Nat} {ids : List Int} {id : Int} (h : MapCnt w b n ids) (hid : 0 ≤ id ∧ id ≤ 18446744073709551615)
    (hg : o.guard = none) (m x : Operand) (hop : o.op = Op.lookup 126 m x false) (hm : a.eval m = .map (some b)) (hx : a.eval x = .int .u64 id)
    (hK : wpList Try.prog ops Q rest (a.put o.dst (.int .i64 (ids.count id : Nat))) w) : wpList Try.prog ops Q (o :: rest) a w := by
  obtain ⟨D, h1, h2, h3⟩ := h
  refine wpList_lookup_own_int w hg m x 126 hop 26 3 .i64 keyU Try.underlying126 Try.underlying3 (zeroI w) b n D hm h1 _ (.int .u64 id) hx (keyOf_int_mk Try.underlying26 (wfU hid)) fun c hat hwc => ?_
  rw [h3 id] at hat
  injection hat with hat
  injection hat with _ hat
  rw [← hat]
  exact hK
/-- Once more. -/
theorem wpList_cnt_put {w : World} {ops : Array Oper} {rest : List Oper} {o : Oper} {a : Act} {Q : Exit → Act → World → Prop} {b n : Nat} {ids : List Int} {id : Int} (h : MapCnt w b n ids) (hid : 0 ≤ id ∧ id ≤ 18446744073709551615) (hn : n ≤ 2000000) (hl : ids.length ≤ 2000000)
    (hg : o.guard = none) (m x v : Operand) (hop : o.op = Op.mapUpdate 126 m x v) (hm : a.eval m = .map (some b)) (hx : a.eval x = .int .u64 id) (hv : a.eval v = .int .i64 ((ids.count id : Nat) + 1))
    (hK : ∀ w', MapCnt w' b (n + 1) (ids ++ [id]) → w.grownBy w' (some b) → wpList Try.prog ops Q rest (a.put o.dst undef) w') : wpList Try.prog ops Q (o :: rest) a w := by
  obtain ⟨D, h1, h2, h3⟩ := h
  have hc : ids.count id ≤ ids.length := List.count_le_length
  refine wpList_mapUpdate_own w hg m x v 126 hop 26 3 keyU Try.underlying126 _ b n D hm h1 (by unfold maxLen; omega) _ _ (.int .u64 id) hx hv (keyOf_int_mk Try.underlying26 (wfU hid)) (.lit (.int .i64 ((ids.count id : Nat) + 1))) [] (plainElem_int Try.underlying3 (WalkArith.wf_i64 (by omega))) fun w' ho hgr => ?_
  refine hK w' ⟨_, ho, h2.put _ _, fun id' => ?_⟩ hgr
  by_cases he : id' = id
  · subst he
    have hk : Go.WideAt.IsKeyLit (.int .u64 id') := by simp [Go.WideAt.IsKeyLit]
    rw [atKey_put_same h2 hk, List.count_append]
    simp
  · rw [atKey_put_other (by simpa using he), h3 id', List.count_append, List.count_singleton]
    have : (id == id') = false := by simpa using fun h => he h.symm
    simp [this]
end Go.Proofs.Ytchcjbapbdfhkaa
