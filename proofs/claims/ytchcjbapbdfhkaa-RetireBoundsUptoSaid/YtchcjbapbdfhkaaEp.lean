/- The spans of a trace's episodes, each Id once. -/
import Derived.Test.YtchcjbapbdfhkaaMc
import Derived.Laws.StructEq
namespace Go.Proofs.Ytchcjbapbdfhkaa
open Go.RowKit Go.Maps
set_option linter.unusedVariables false
set_option maxRecDepth 100000

/-- A span more: what lies there, which Ids were seen. -/
def spn (a : List Sp × List Int) (s : Sp) : List Sp × List Int := (if a.2.count s.id = 0 then a.1 ++ [s] else a.1, a.2 ++ [s.id])
def epSps (th tl : Int) (e : Le) : List Sp := if e.hi = th ∧ e.lo = tl then e.l.map Ls.s else []
def spAll (th tl : Int) (l : List Le) : List Sp × List Int := (l.flatMap (epSps th tl)).foldl spn ([], [])
theorem spAll_step (th tl : Int) (l : List Le) (k : Nat) (e : Le) (he : l[k]? = some e) : spAll th tl (l.take (k + 1)) = (epSps th tl e).foldl spn (spAll th tl (l.take k)) := by
  unfold spAll
  rw [List.take_add_one, he, List.flatMap_append, List.foldl_append]
  simp
theorem spn_len : ∀ (l : List Sp) (a : List Sp × List Int), (l.foldl spn a).2.length = a.2.length + l.length ∧ (l.foldl spn a).1.length ≤ a.1.length + l.length
  | [], a => by simp
  | s :: l, a => by
    have h := spn_len l (spn a s)
    have h1 : (spn a s).2.length = a.2.length + 1 := by simp [spn]
    have h2 : (spn a s).1.length ≤ a.1.length + 1 := by
      unfold spn
      split <;> simp
    simp only [List.foldl_cons, List.length_cons]
    omega
theorem OwnSps.counted {w w' : World} {base b n : Nat} {v : Value} {l : List Ls} {ids : List Int} (h : OwnSps w base v l) (hm : MapCnt w b n ids) (hg : w.grownBy w' (some b)) : OwnSps w' base v l :=
  ⟨h.own.kept hg (.inr (hm.not_own h.own)), fun x hx => ⟨(h.each x hx).own.kept hg (.inr (hm.not_own (h.each x hx).own)), (h.each x hx).ok⟩⟩
/-- The lookup, its outcome by name. -/
theorem wpList_cntN {w : World} {ops : Array Oper} {rest : List Oper} {o : Oper} {a : Act} {Q : Exit → Act → World → Prop} {b n : Nat} {ids : List Int} {id : Int} (cn : Nat) (h : MapCnt w b n ids) (hid : 0 ≤ id ∧ id ≤ 18446744073709551615) (hcn : ids.count id = cn)
    (hg : o.guard = none) (m x : Operand) (hop : o.op = Op.lookup 126 m x false) (hm : a.eval m = .map (some b)) (hx : a.eval x = .int .u64 id)
    (hK : wpList Try.prog ops Q rest (a.put o.dst (.int .i64 (cn : Nat))) w) : wpList Try.prog ops Q (o :: rest) a w := by
  subst hcn
  exact wpList_cnt h hid hg m x hop hm hx hK
theorem wpList_cntN_put {w : World} {ops : Array Oper} {rest : List Oper} {o : Oper} {a : Act} {Q : Exit → Act → World → Prop} {b n : Nat} {ids : List Int} {id : Int} (cn : Nat) (h : MapCnt w b n ids) (hid : 0 ≤ id ∧ id ≤ 18446744073709551615) (hn : n ≤ 2000000) (hl : ids.length ≤ 2000000) (hcn : ids.count id = cn)
    (hg : o.guard = none) (m x v : Operand) (hop : o.op = Op.mapUpdate 126 m x v) (hm : a.eval m = .map (some b)) (hx : a.eval x = .int .u64 id) (hv : a.eval v = .int .i64 ((cn : Int) + 1))
    (hK : ∀ w', MapCnt w' b (n + 1) (ids ++ [id]) → w.grownBy w' (some b) → wpList Try.prog ops Q rest (a.put o.dst undef) w') : wpList Try.prog ops Q (o :: rest) a w := by
  subst hcn
  exact wpList_cnt_put h hid hn hl hg m x v hop hm hx hv hK

end Go.Proofs.Ytchcjbapbdfhkaa
