/- Policies in memory of one's own: a row of nodes, and what is below each in other blocks of one's own. -/
import Derived.Test.YtgiahfjndononaaDoorRx
import Derived.Test.YtgiahfjndononaaDoorOt
namespace Go.Proofs.YtgiahfjndononaaDoor
open Go.RowKit
set_option linter.unusedVariables false
set_option linter.unusedSimpArgs false
set_option maxRecDepth 100000

def RowP (w : World) (P : Nat → Prop) (kA : Option Addr) (m : Nat) (cs : Nat → List Value) : Prop :=
  0 < m → ∃ a, kA = some a ∧ P a.block ∧ ∀ i, i < m → ∀ j u, (cs i)[j]? = some u → w.cell? (a.add (i * 5 + j)) = some u
/-- A policy lies there, all that is below its node in blocks of P. -/
inductive RdP (w : World) (P : Nat → Prop) : Rt → List Value → Prop
  | mk (k n : Int) (key val : ByteArray) (kids : List Rt) (kA : Option Addr) (kc : Nat) (cs : Nat → List Value)
      (hk : -9223372036854775808 ≤ k ∧ k ≤ 9223372036854775807) (hn : -9223372036854775808 ≤ n ∧ n ≤ 9223372036854775807)
      (hkey : key.size ≤ maxLen) (hval : val.size ≤ maxLen) (hc : kids.length ≤ kc) (hm : kc ≤ maxLen)
      (hrow : RowP w P kA kids.length cs) (hkid : ∀ i r, kids[i]? = some r → RdP w P r (cs i)) :
      RdP w P (.mk k n key val kids) (rcs k n key val kA kids.length kc)
section
variable {w w' : World} {P Q : Nat → Prop} {B : Nat} {t : Rt} {c : List Value}
theorem RdP.keep (h : RdP w P t c) (hk : ∀ p : Addr, P p.block → w'.cell? p = w.cell? p) : RdP w' P t c := by
  induction h with
  | mk k n key val kids kA kc cs h1 h2 h3 h4 h5 h6 hrow hkid ih =>
    exact .mk k n key val kids kA kc cs h1 h2 h3 h4 h5 h6 (fun hm => by
      obtain ⟨a, e, hb, hc⟩ := hrow hm
      exact ⟨a, e, hb, fun i hi j u hu => (hk _ (by rw [block_add]; exact hb)).trans (hc i hi j u hu)⟩) ih
theorem RdP.heap (h : RdP w P t c) (hk : ∀ b, P b → w'.heap[b]? = w.heap[b]?) : RdP w' P t c := h.keep fun p hp => World.cell?_of_block (hk _ hp)
theorem RdP.imp (h : RdP w P t c) (hi : ∀ b, P b → Q b) : RdP w Q t c := by
  induction h with
  | mk k n key val kids kA kc cs h1 h2 h3 h4 h5 h6 hrow hkid ih =>
    exact .mk k n key val kids kA kc cs h1 h2 h3 h4 h5 h6 (fun hm => by
      obtain ⟨a, e, hb, hc⟩ := hrow hm
      exact ⟨a, e, hi _ hb, hc⟩) ih
theorem RdP.toR (h : RdP w P t c) (hi : ∀ b, P b → b < B) : RdR w B t c := by
  induction h with
  | mk k n key val kids kA kc cs h1 h2 h3 h4 h5 h6 hrow hkid ih =>
    exact .mk k n key val kids kA kc cs h1 h2 h3 h4 h5 h6 (fun hm => by
      obtain ⟨a, e, hb, hc⟩ := hrow hm
      exact ⟨a, e, hi _ hb, hc⟩) ih
theorem RdP.inv (h : RdP w P t c) : ∃ k n key val kA m kc, c = rcs k n key val kA m kc := by
  cases h with
  | mk k n key val kids kA kc cs h1 h2 h3 h4 h5 h6 hrow hkid => exact ⟨k, n, key, val, kA, _, kc, rfl⟩
theorem RdP.leaf (w : World) (P : Nat → Prop) (k n : Int) (key val : ByteArray) (hk : -9223372036854775808 ≤ k ∧ k ≤ 9223372036854775807) (hn : -9223372036854775808 ≤ n ∧ n ≤ 9223372036854775807) (h3 : key.size ≤ maxLen) (h4 : val.size ≤ maxLen) : RdP w P (.mk k n key val []) (rcs k n key val none 0 0) :=
  .mk k n key val [] none 0 (fun _ => []) hk hn h3 h4 (Nat.le_refl _) (Nat.zero_le _) (fun h => absurd h (by simp)) (fun i r h => by simp at h)
end
/-- A node as it lies. -/
structure Kr where
  t : Rt
  k : Int
  n : Int
  key : ByteArray
  val : ByteArray
  A : Option Addr
  m : Nat
  kc : Nat
def Kr.cells (x : Kr) : List Value := rcs x.k x.n x.key x.val x.A x.m x.kc
theorem Kr.len (x : Kr) : x.cells.length = 5 := rfl
theorem Kr.one (x : Kr) : ∀ u ∈ x.cells, u.oneCell' = true := by
  intro u hu
  simp only [Kr.cells, rcs, List.mem_cons, List.not_mem_nil, or_false] at hu
  rcases hu with rfl | rfl | rfl | rfl | rfl <;> rfl
def KrOk (w : World) (base : Nat) (V : Value) (x : Kr) : Prop := RdP w (fun b => base ≤ b ∧ b < w.heap.size ∧ V.ownBlock ≠ some b) x.t x.cells
structure OwnKids (w : World) (base : Nat) (V : Value) (L : List Kr) : Prop where
  own : w.ownsRow base 24 5 V L.length (L.flatMap Kr.cells)
  each : ∀ x ∈ L, KrOk w base V x
theorem infoRu : (Tryd.prog.info? 24).map (fun i => (i.zero, i.size, i.bytes)) = some (some (.agg #[.int .i64 0, .int .i64 0, .string ⟨#[]⟩, .string ⟨#[]⟩, .slice none 0 0]), 5, 72) := by kernel_rfl
section
variable {w w' : World} {base g : Nat} {V V' : Value} {L : List Kr} {x : Kr}
theorem OwnKids.nil (w : World) (base : Nat) : OwnKids w base (.slice none 0 0) [] := ⟨World.ownsRow_nil _ _ _ _, fun _ h => by cases h⟩
theorem KrOk.kept (h : KrOk w base V x) (hg : w.grownBy w' (some g)) (hgb : g < base) : KrOk w' base V x :=
  (RdP.heap h fun b hb => hg.block b hb.2.1 (by intro e; injection e with e; omega)).imp fun b hb => ⟨hb.1, Nat.lt_of_lt_of_le hb.2.1 hg.size, hb.2.2⟩
theorem OwnKids.kept (h : OwnKids w base V L) (hg : w.grownBy w' (some g)) (hgb : g < base) : OwnKids w' base V L :=
  ⟨h.own.kept hg (.inr fun e => by have := own_block_ge h.own g e; omega), fun x hx => (h.each x hx).kept hg hgb⟩
theorem KrOk.below (h : KrOk w base V x) (hb : Below w.heap.size w w') : KrOk w' base V x :=
  (RdP.heap h fun b hb2 => hb.block b hb2.2.1).imp fun b hb2 => ⟨hb2.1, Nat.lt_of_lt_of_le hb2.2.1 hb.size, hb2.2.2⟩
theorem OwnKids.below (h : OwnKids w base V L) (hb : Below w.heap.size w w') : OwnKids w' base V L := ⟨own_below h.own hb, fun x hx => (h.each x hx).below hb⟩
theorem KrOk.grew (h : KrOk w base V x) (hg : Grew w w' V V') : KrOk w' base V' x :=
  (RdP.heap h fun b hb => hg.grown.block b hb.2.1 (Ne.symm hb.2.2)).imp fun b hb => ⟨hb.1, Nat.lt_of_lt_of_le hb.2.1 hg.grown.size, by
    rcases hg.blk with e | ⟨q, e, hq⟩
    · rw [e]; exact hb.2.2
    · rw [e]; intro e2; injection e2 with e2; omega⟩
/-- One more node, appended. -/
theorem appKid {ty : TypeId} (h : OwnKids w base V L) (hx : KrOk w base V x) {B : Nat} {a : Addr} (hr : Rd w B (some a) x.cells) (hl : L.length ≤ 1000000) (hbase : base ≤ w.heap.size) :
    ∃ v' w', (Builtin.append_ #[22, 22] ty #[V, .slice (some a) 1 1]).run Tryd.prog w = .ok v' w' ∧ (OwnKids w' base v' (L ++ [x]) ∧ Grew w w' V v') := by
  obtain ⟨i0, hi, hz0, hz1, hz2⟩ := info_parts infoRu
  obtain ⟨v', w', r1, r2, r3⟩ := run_append_rd (P := Tryd.prog) w base 22 ty 24 i0 _ 5 72 Tryd.underlying22 hi hz0 hz1 hz2 rfl V L.length (L.flatMap Kr.cells) h.own B (some a) 1 1 x.cells rfl hr (Kr.one x) (by unfold maxLen; omega) (by omega) hbase
  refine ⟨v', w', r1, ⟨by rw [List.length_append, List.flatMap_append]; simpa using r2, fun y hy => ?_⟩, r3⟩
  rcases List.mem_append.1 hy with hy | hy
  · exact (h.each y hy).grew r3
  · simp at hy; subst hy; exact hx.grew r3
/-- All of it together is a policy. -/
theorem OwnKids.tree (h : OwnKids w base V L) (k n : Int) (key val : ByteArray) (hk : -9223372036854775808 ≤ k ∧ k ≤ 9223372036854775807) (hn : -9223372036854775808 ≤ n ∧ n ≤ 9223372036854775807) (h3 : key.size ≤ maxLen) (h4 : val.size ≤ maxLen) :
    ∃ A c, V = .slice A L.length c ∧ RdP w (fun b => base ≤ b ∧ b < w.heap.size) (.mk k n key val (L.map Kr.t)) (rcs k n key val A L.length c) := by
  obtain ⟨A, c, rfl, hc, hr⟩ := own_rd h.own
  have hcap := own_cap h.own
  refine ⟨A, c, rfl, ?_⟩
  have main := RdP.mk (w := w) (P := fun b => base ≤ b ∧ b < w.heap.size) k n key val (L.map Kr.t) A c (fun i => ((L[i]?).map Kr.cells).getD []) hk hn h3 h4 (by rw [List.length_map]; exact hc) hcap.2
    (fun hm => by
      rw [List.length_map] at hm
      obtain ⟨a, rfl, hb, hcell⟩ := hr (by rw [flatMap_len _ 5 Kr.len]; omega)
      obtain ⟨q, cap, hv, _, hlt⟩ := h.own.form (by omega)
      injection hv with hv
      injection hv with hv
      subst hv
      refine ⟨_, rfl, ⟨own_block_ge h.own q rfl, hlt⟩, fun i hi j u hu => hcell _ u ?_⟩
      rw [List.length_map] at hi
      simp only [List.getElem?_eq_getElem hi, Option.map_some, Option.getD_some] at hu
      have hj : j < 5 := by
        rcases Nat.lt_or_ge j 5 with h5 | h5
        · exact h5
        · rw [List.getElem?_eq_none (by rw [Kr.len]; exact h5)] at hu; cases hu
      rw [flatMap_at _ 5 Kr.len L i j hj, List.getElem?_eq_getElem hi]
      exact hu)
    (fun i r hr2 => by
      rw [List.getElem?_map] at hr2
      cases hx : L[i]? with
      | none => rw [hx] at hr2; cases hr2
      | some x =>
        rw [hx] at hr2
        simp only [Option.map_some, Option.some.injEq] at hr2
        subst hr2
        simp only [hx, Option.map_some, Option.getD_some]
        exact (h.each x (List.mem_of_getElem? hx)).imp fun b hb => ⟨hb.1, hb.2.1⟩)
  rw [List.length_map] at main
  exact main
end
end Go.Proofs.YtgiahfjndononaaDoor
