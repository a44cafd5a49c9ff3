/- tree.named, plainly; a map of places, keyed by numbers, in memory of one's own. -/
import Derived.Test.YtgldjjmpjaegfaaSp
import Derived.Test.YtgldjjmpjaegfaaBs
import Derived.Maps.Own
import Derived.Maps.OwnOps
import Derived.Maps.OwnSet
import Derived.Maps.Views
namespace Go.Proofs.Ytgldjjmpjaegfaa
open Go.RowKit Go.Maps
set_option linter.unusedVariables false
set_option linter.unusedSimpArgs false
set_option maxRecDepth 100000

theorem keyU' : Keyed Try.prog 29 := int_keyed Try.underlying29
theorem zeroU' (w : World) : (zeroValue 3).run Try.prog w = .ok (.int .i64 0) w := by kernel_rfl
/-- The map in block b holds of each number the place that f tells. -/
def MapU (w : World) (b n : Nat) (f : Int → Option Nat) : Prop :=
  ∃ D : DataW Unit, w.ownsMap Try.prog 29 (plainElem Try.prog 3) b n D ∧ IsMap D ∧ ∀ t : Int, has D (.int .u64 t) = (f t).isSome ∧ D.atKey (.int .u64 t) (.lit (.int .i64 0)) = .lit (.int .i64 (((f t).getD 0 : Nat) : Int))
theorem MapU.made (w : World) : MapU (w.alloc (.map #[] 0)) w.heap.size 0 (fun _ => none) := ⟨.map [], World.ownsMap_made _ _ _ _, isMap_empty, fun t => ⟨rfl, rfl⟩⟩
theorem MapU.block {w w' : World} {b n : Nat} {f : Int → Option Nat} (h : MapU w b n f) (he : w'.heap[b]? = w.heap[b]?) : MapU w' b n f := by
  obtain ⟨D, ⟨es, clock, h1, h2⟩, h3⟩ := h
  exact ⟨D, ⟨es, clock, he.trans h1, h2⟩, h3⟩
theorem MapU.lt {w : World} {b n : Nat} {f : Int → Option Nat} (h : MapU w b n f) : b < w.heap.size := by
  obtain ⟨D, ⟨es, clock, h1, h2⟩, h3⟩ := h
  rcases Nat.lt_or_ge b w.heap.size with h | h
  · exact h
  · rw [Array.getElem?_eq_none h] at h1; cases h1
theorem MapU.congr {w : World} {b n : Nat} {f f' : Int → Option Nat} (h : MapU w b n f) (e : ∀ t, f t = f' t) : MapU w b n f' := by
  have : f = f' := funext e
  rw [← this]; exact h
theorem MapU.not_own {w : World} {b n : Nat} {f : Int → Option Nat} (h : MapU w b n f) {base e size m : Nat} {v : Value} {xs : List Value} (ho : w.ownsRow base e size v m xs) : v.ownBlock ≠ some b := by
  obtain ⟨D, ⟨es, clock, h1, h2⟩, h3⟩ := h
  rcases ho.2 with ⟨rfl, _⟩ | ⟨g, cap, cur, rfl, _, hg, _⟩
  · simp [Value.ownBlock]
  · simp only [Value.ownBlock]
    intro he
    injection he with he
    subst he
    rw [hg] at h1
    cases h1
theorem wfU' {t : Int} (h : 0 ≤ t ∧ t ≤ 18446744073709551615) : (Lit.int .u64 t).wf = true := WalkArith.wf_u64 (by omega)
theorem wpList_mapu {w : World} {ops : Array Oper} {rest : List Oper} {o : Oper} {a : Act} {Q : Exit → Act → World → Prop} {b n : Nat} {f : Int → Option Nat} {t : Int} (h : MapU w b n f) (ht : 0 ≤ t ∧ t ≤ 18446744073709551615) {ok : Bool} {at_ : Int} (hok : (f t).isSome = ok) (hat : (((f t).getD 0 : Nat) : Int) = at_)
    (hg : o.guard = none) (m x : Operand) (hop : o.op = Op.lookup 55 m x true) (hm : a.eval m = .map (some b)) (hx : a.eval x = .int .u64 t)
    (hK : wpList Try.prog ops Q rest (a.put o.dst (.tuple #[.int .i64 at_, .bool ok])) w) : wpList Try.prog ops Q (o :: rest) a w := by
  obtain ⟨D, h1, h2, h3⟩ := h
  refine wpList_lookup_own_ok_int w hg m x 55 hop 29 3 .i64 keyU' Try.underlying55 Try.underlying3 (zeroU' w) b n D hm h1 _ (.int .u64 t) hx (keyOf_int_mk Try.underlying29 (wfU' ht)) fun c hat2 hwc => ?_
  rw [(h3 t).1, hok]
  rw [(h3 t).2, hat] at hat2
  injection hat2 with hat2
  injection hat2 with _ hat2
  rw [← hat2]
  exact hK
theorem wpList_mapu_put {w : World} {ops : Array Oper} {rest : List Oper} {o : Oper} {a : Act} {Q : Exit → Act → World → Prop} {b n : Nat} {f : Int → Option Nat} {t : Int} {k : Nat} (h : MapU w b n f) (ht : 0 ≤ t ∧ t ≤ 18446744073709551615) (hn : n ≤ 2000000) (hk : k ≤ 2000000)
    (hg : o.guard = none) (m x v : Operand) (hop : o.op = Op.mapUpdate 55 m x v) (hm : a.eval m = .map (some b)) (hx : a.eval x = .int .u64 t) (hv : a.eval v = .int .i64 (k : Int))
    (hK : ∀ w', MapU w' b (n + 1) (fun u => if u = t then some k else f u) → w.grownBy w' (some b) → wpList Try.prog ops Q rest (a.put o.dst undef) w') : wpList Try.prog ops Q (o :: rest) a w := by
  obtain ⟨D, h1, h2, h3⟩ := h
  have hkl : Go.WideAt.IsKeyLit (.int .u64 t) := by simp [Go.WideAt.IsKeyLit]
  refine wpList_mapUpdate_own w hg m x v 55 hop 29 3 keyU' Try.underlying55 _ b n D hm h1 (by unfold maxLen; omega) _ _ (.int .u64 t) hx hv (keyOf_int_mk Try.underlying29 (wfU' ht)) (.lit (.int .i64 (k : Int))) [] (plainElem_int Try.underlying3 (WalkArith.wf_i64 (by omega))) fun w' ho hgr => ?_
  refine hK w' ⟨_, ho, h2.put _ _, fun u => ?_⟩ hgr
  by_cases he : u = t
  · subst he
    simp only [if_pos]
    exact ⟨by rw [has_put_same h2 hkl]; rfl, by rw [atKey_put_same h2 hkl]; rfl⟩
  · have hne : (Lit.int .u64 u) ≠ .int .u64 t := by simpa using he
    simp only [if_neg he]
    exact ⟨by rw [has_put_other hne, (h3 u).1], by rw [atKey_put_other hne, (h3 u).2]⟩

/-- The places of a number in a list. -/
def plc (I : List Int) (u : Int) : List Nat := (List.range I.length).filter fun j => I[j]? == some u
theorem plc_append (I : List Int) (t u : Int) : plc (I ++ [t]) u = plc I u ++ (if u = t then [I.length] else []) := by
  unfold plc
  rw [List.length_append, List.length_singleton, List.range_succ, List.filter_append]
  congr 1
  · apply List.filter_congr
    intro j hj
    rw [List.getElem?_append_left (List.mem_range.1 hj)]
  · by_cases h : u = t
    · subst h; simp
    · have h2 : ¬ t = u := fun e => h e.symm
      simp [h, h2]
theorem plc_mem {I : List Int} {u : Int} {j : Nat} : j ∈ plc I u ↔ I[j]? = some u := by
  unfold plc
  rw [List.mem_filter, List.mem_range]
  constructor
  · rintro ⟨_, h⟩; exact eq_of_beq h
  · intro h
    exact ⟨(List.getElem?_eq_some_iff.1 h).1, by rw [h]; exact beq_self_eq_true _⟩
theorem plc_sorted (I : List Int) (u : Int) : (plc I u).Pairwise (· < ·) := List.Pairwise.filter _ List.pairwise_lt_range
theorem plc_lt {I : List Int} {u : Int} {j k : Nat} (h : (plc I u)[j]? = some k) : k < I.length := (List.getElem?_eq_some_iff.1 (plc_mem.1 (List.mem_of_getElem? h))).1
/-- Whom a span names: the first other one of the number. -/
def namedO (I : List Int) (p : Int) (i : Nat) : Option Nat := if (plc I p)[0]? = some i then (plc I p)[1]? else (plc I p)[0]?
def plO : Option Nat → Int
  | none => -1
  | some j => j
theorem namedO_lt {I : List Int} {p : Int} {i j : Nat} (h : namedO I p i = some j) : j < I.length ∧ j ≠ i ∧ I[j]? = some p := by
  unfold namedO at h
  split at h
  · rename_i h0
    have hm := plc_mem.1 (List.mem_of_getElem? h)
    refine ⟨plc_lt h, ?_, hm⟩
    have hs := plc_sorted I p
    obtain ⟨g0, g0'⟩ := List.getElem?_eq_some_iff.1 h0
    obtain ⟨g1, g1'⟩ := List.getElem?_eq_some_iff.1 h
    have := (List.pairwise_iff_getElem.1 hs) 0 1 g0 g1 (by omega)
    omega
  · rename_i h0
    exact ⟨plc_lt h, fun e => h0 (by rw [h, e]), plc_mem.1 (List.mem_of_getElem? h)⟩
def namedM (l : List Ls) : List Int := (List.range l.length).map fun i => plO (namedO (l.map fun x => x.s.id) (((l[i]?).map fun x => x.s.pa).getD 0) i)
theorem namedM_len (l : List Ls) : (namedM l).length = l.length := by unfold namedM; rw [List.length_map, List.length_range]
theorem namedM_at {l : List Ls} {i : Nat} {x : Ls} (h : l[i]? = some x) : (namedM l)[i]? = some (plO (namedO (l.map fun x => x.s.id) x.s.pa i)) := by
  unfold namedM
  rw [List.getElem?_map, List.getElem?_range (List.getElem?_eq_some_iff.1 h).1, Option.map_some, h]
  rfl
end Go.Proofs.Ytgldjjmpjaegfaa
