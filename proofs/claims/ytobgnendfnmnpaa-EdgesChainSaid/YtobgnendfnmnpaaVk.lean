/- A map that holds of names of spans a place, in memory of one's own. -/
import Derived.Test.YtobgnendfnmnpaaSp
import Derived.Test.YtobgnendfnmnpaaBs
import Derived.Test.YtobgnendfnmnpaaMf
import Derived.Maps.Own
import Derived.Maps.OwnOps
import Derived.Maps.OwnSet
import Derived.Maps.Views
import Derived.DeepKeys4
namespace Go.Proofs.Ytobgnendfnmnpaa
open Go.RowKit Go.Maps
set_option linter.unusedVariables false
set_option linter.unusedSimpArgs false
set_option maxRecDepth 100000

/-- What a span is known by: its trace's two halves, its number. -/
abbrev Nm := Int × Int × Int
def Nm.ok (k : Nm) : Prop := (0 ≤ k.1 ∧ k.1 ≤ 18446744073709551615) ∧ (0 ≤ k.2.1 ∧ k.2.1 ≤ 18446744073709551615) ∧ (0 ≤ k.2.2 ∧ k.2.2 ≤ 18446744073709551615)
def nmV (k : Nm) : Value := .agg #[.int .u64 k.1, .int .u64 k.2.1, .int .u64 k.2.2]
def nmL (k : Nm) : Lit := .string (keyBytes [.int .u64 k.1, .int .u64 k.2.1, .int .u64 k.2.2])
theorem nm_row : (47 : TypeId) < Try.prog.types.size := of_decide_eq_true (by kernel_rfl)
theorem nm_laid : laidOutB Try.prog = true := by kernel_rfl
theorem nm_wide : (match Try.prog.underlying 47 with | some (.array _ _) | some (.struct _) => true | _ => false) = true := by rw [Try.underlying47]
theorem nm_keyed : Keyed Try.prog 47 := Keyed.of_law (deep_law_laid nm_laid (m := 3) (by omega) nm_row (by kernel_rfl) nm_wide)
theorem nm_cells : Try.prog.cellsOf 47 = 3 := by kernel_rfl
theorem nm_cellsT : Try.prog.cellsOf 30 = 2 := by kernel_rfl
theorem nm_cellsU : Try.prog.cellsOf 28 = 1 := by kernel_rfl
theorem nm_lits (d : Nat) (x y z : Int) (h1 : (Lit.int .u64 x).wf = true) (h2 : (Lit.int .u64 y).wf = true) (h3 : (Lit.int .u64 z).wf = true) : Try.prog.keyLits (d + 3) 47 [.int .u64 x, .int .u64 y, .int .u64 z] = some [.int .u64 x, .int .u64 y, .int .u64 z] := by
  simp [Program.keyLits, Try.underlying47, Try.underlying30, Try.underlying28, nm_cells, nm_cellsT, nm_cellsU, h1, h2, h3]
  rw [if_pos (by intro i hi; rcases (show i = 0 ∨ i = 1 by omega) with rfl | rfl <;> simp)]
  rfl
theorem nm_keyOf {k : Nm} (h : k.ok) : keyOf Try.prog 47 (nmV k) = some (nmL k) := by
  have hw : ∀ x : Int, 0 ≤ x ∧ x ≤ 18446744073709551615 → (Lit.int .u64 x).wf = true := fun x hx => WalkArith.wf_u64 (by omega)
  have h1 := hw _ h.1
  have h2 := hw _ h.2.1
  have h3 := hw _ h.2.2
  obtain ⟨d, hd⟩ : ∃ d, Try.prog.types.size + 1 = d + 3 := ⟨Try.prog.types.size - 2, by have h : (47 : Nat) < Try.prog.types.size := nm_row; omega⟩
  have hk : Try.prog.keyType 47 = true := by kernel_rfl
  have hf : (nmV k).formed Try.prog 47 = true := by simp [nmV, Value.formed, Try.underlying47, nm_cells]
  unfold keyOf
  rw [Try.underlying47]
  simp only [hk, hf, Bool.and_self, if_true, hd]
  show (Try.prog.keyLits (d + 3) 47 [.int .u64 k.1, .int .u64 k.2.1, .int .u64 k.2.2]).map _ = _
  rw [nm_lits d _ _ _ h1 h2 h3]
  rfl
theorem nmL_inj {k u : Nm} (hk : k.ok) (hu : u.ok) (h : nmL k = nmL u) : k = u := by
  have h1 := nm_keyOf hk
  rw [h] at h1
  have h2 := nm_keyed.inj h1 (nm_keyOf hu)
  obtain ⟨a, b, c⟩ := k
  obtain ⟨a', b', c'⟩ := u
  simp [nmV] at h2
  obtain ⟨rfl, rfl, rfl⟩ := h2
  rfl

/-- The map of one's own at b, of n entries, holds f of every name. -/
def MapNm (w : World) (b n : Nat) (f : Nm → Option Nat) : Prop :=
  ∃ D : DataW Unit, w.ownsMap Try.prog 47 (plainElem Try.prog 3) b n D ∧ IsMap D ∧ ∀ t : Nm, t.ok → has D (nmL t) = (f t).isSome ∧ ∀ p, f t = some p → D.atKey (nmL t) (.lit (.int .i64 0)) = .lit (.int .i64 (p : Int))
theorem MapNm.made (w : World) : MapNm (w.alloc (.map #[] 0)) w.heap.size 0 (fun _ => none) := ⟨.map [], World.ownsMap_made _ _ _ _, isMap_empty, fun t _ => ⟨rfl, fun p h => by cases h⟩⟩
theorem MapNm.block {w w' : World} {b n : Nat} {f : Nm → Option Nat} (h : MapNm w b n f) (he : w'.heap[b]? = w.heap[b]?) : MapNm w' b n f := by
  obtain ⟨D, ⟨es, clock, h1, h2⟩, h3⟩ := h
  exact ⟨D, ⟨es, clock, he.trans h1, h2⟩, h3⟩
theorem MapNm.lt {w : World} {b n : Nat} {f : Nm → Option Nat} (h : MapNm w b n f) : b < w.heap.size := by
  obtain ⟨D, ⟨es, clock, h1, h2⟩, h3⟩ := h
  rcases Nat.lt_or_ge b w.heap.size with h | h
  · exact h
  · rw [Array.getElem?_eq_none h] at h1; cases h1
theorem wpList_nm {w : World} {ops : Array Oper} {rest : List Oper} {o : Oper} {a : Act} {Q : Exit → Act → World → Prop} {b n : Nat} {f : Nm → Option Nat} {t : Nm} (h : MapNm w b n f) (ht : t.ok)
    (hg : o.guard = none) (m x : Operand) (hop : o.op = Op.lookup 43 m x true) (hm : a.eval m = .map (some b)) (hx : a.eval x = nmV t)
    (hK : ∀ c : Int, (∀ p, f t = some p → c = (p : Int)) → wpList Try.prog ops Q rest (a.put o.dst (.tuple #[.int .i64 c, .bool (f t).isSome])) w) : wpList Try.prog ops Q (o :: rest) a w := by
  obtain ⟨D, h1, h2, h3⟩ := h
  refine wpList_lookup_own_ok_int w hg m x 43 hop 47 3 .i64 nm_keyed Try.underlying43 Try.underlying3 (zeroI' w) b n D hm h1 _ (nmL t) hx (nm_keyOf ht) fun c hat hwc => ?_
  rw [(h3 t ht).1]
  refine hK c fun p hp => ?_
  rw [(h3 t ht).2 p hp] at hat
  injection hat with hat
  injection hat with _ hat
  exact hat.symm
theorem wpList_nm_put {w : World} {ops : Array Oper} {rest : List Oper} {o : Oper} {a : Act} {Q : Exit → Act → World → Prop} {b n : Nat} {f : Nm → Option Nat} {t : Nm} {p : Nat} (h : MapNm w b n f) (ht : t.ok) (hn : n ≤ 2000000) (hl : p ≤ 2000000)
    (hg : o.guard = none) (m x v : Operand) (hop : o.op = Op.mapUpdate 43 m x v) (hm : a.eval m = .map (some b)) (hx : a.eval x = nmV t) (hv : a.eval v = .int .i64 (p : Int))
    (hK : ∀ w', MapNm w' b (n + 1) (fun u => if u = t then some p else f u) → w.grownBy w' (some b) → wpList Try.prog ops Q rest (a.put o.dst undef) w') : wpList Try.prog ops Q (o :: rest) a w := by
  obtain ⟨D, h1, h2, h3⟩ := h
  have hk : Go.WideAt.IsKeyLit (nmL t) := by simp [Go.WideAt.IsKeyLit, nmL]
  refine wpList_mapUpdate_own w hg m x v 43 hop 47 3 nm_keyed Try.underlying43 _ b n D hm h1 (by unfold maxLen; omega) _ _ (nmL t) hx hv (nm_keyOf ht) (.lit (.int .i64 (p : Int))) [] (plainElem_int Try.underlying3 (wfI (by omega))) fun w' ho hgr => ?_
  refine hK w' ⟨_, ho, h2.put _ _, fun u hu => ?_⟩ hgr
  by_cases he : u = t
  · subst he
    refine ⟨by rw [has_put_same h2 hk]; simp, fun q hq => ?_⟩
    rw [atKey_put_same h2 hk]
    simp at hq
    rw [hq]
  · have hne : nmL u ≠ nmL t := fun h => he (nmL_inj hu ht h)
    simp only [if_neg he]
    refine ⟨by rw [has_put_other hne, (h3 u hu).1], fun q hq => ?_⟩
    rw [atKey_put_other hne, (h3 u hu).2 q hq]
end Go.Proofs.Ytobgnendfnmnpaa
