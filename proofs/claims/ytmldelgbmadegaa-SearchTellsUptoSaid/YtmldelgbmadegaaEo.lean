/- Episodes in memory of one's own. -/
import Derived.Test.YtmldelgbmadegaaLe
namespace Go.Proofs.Ytmldelgbmadegaa
open Go.RowKit
set_option linter.unusedVariables false
set_option maxRecDepth 100000

theorem infoEp : (Try.prog.info? 48).map (fun i => (i.zero, i.size, i.bytes)) = some (some (.agg #[.int .u64 0, .int .u64 0, .int .i64 0, .int .i64 0, .bool false, .slice none 0 0]), 6, 64) := by kernel_rfl
/-- An episode whose spans lie in memory of one's own. -/
def OwnE (w : World) (base : Nat) (e : Le) : Prop := OwnSps w base (.slice e.A e.l.length e.c) e.l
/-- Episodes, all in memory of one's own. -/
structure OwnEps (w : World) (base : Nat) (v : Value) (l : List Le) : Prop where
  own : w.ownsRow base 48 6 v l.length (l.flatMap Le.cells)
  each : ∀ e ∈ l, OwnE w base e
section
variable {w w' : World} {base base' : Nat} {v v' : Value} {e : Le} {l : List Le}
theorem OwnSps.grew {l : List Ls} {u : Value} (h : OwnSps w base u l) {n size : Nat} {xs : List Value} {t : TypeId} (hv : w.ownsRow base' t size v n xs) (hg : Grew w w' v v') (h1 : 71 ≠ t) (h2 : 116 ≠ t) : OwnSps w' base u l :=
  ⟨own_grew h.own hg (own_apart h.own hv h1), fun x hx => (h.each x hx).grew hv hg h2⟩
theorem OwnEps.below (h : OwnEps w base v l) (hb : Below w.heap.size w w') : OwnEps w' base v l := ⟨own_below h.own hb, fun x hx => OwnSps.below (h.each x hx) hb⟩
theorem OwnEps.mono (h : OwnEps w base v l) (hb : base' ≤ base) : OwnEps w base' v l := ⟨own_mono h.own hb, fun x hx => OwnSps.mono (h.each x hx) hb⟩
theorem OwnEps.nil : OwnEps w base (.slice none 0 0) [] := ⟨World.ownsRow_nil _ _ _ _, fun _ h => by cases h⟩
theorem OwnE.rd (h : OwnE w base e) : RdSps w w.heap.size e.A e.l := by
  obtain ⟨A, c, hv, hc, hr⟩ := OwnSps.rd h
  injection hv with h1 _ h3
  subst h1
  exact hr
theorem OwnEps.rd (h : OwnEps w base v l) : ∃ A c, v = .slice A l.length c ∧ l.length ≤ c ∧ RdEps w w.heap.size A l := by
  obtain ⟨A, c, hv, hc, hr⟩ := own_rd h.own
  exact ⟨A, c, hv, hc, hr, fun x hx => (h.each x hx).rd⟩
theorem ecells_one (l : List Le) : ∀ u ∈ l.flatMap Le.cells, u.oneCell' = true := by
  intro u hu
  obtain ⟨e, _, hu⟩ := List.mem_flatMap.1 hu
  simp only [Le.cells, List.mem_cons, List.not_mem_nil, or_false] at hu
  rcases hu with rfl | rfl | rfl | rfl | rfl | rfl <;> rfl
end
/-- Episodes more, appended. -/
theorem appEp {w : World} {ty : TypeId} {base : Nat} {v : Value} {l xs : List Le} (m c : Nat) (hm : m = xs.length) (h : OwnEps w base v l) (hx : ∀ e ∈ xs, OwnE w base e) {B : Nat} {A : Option Addr} (hr : Rd w B A (xs.flatMap Le.cells)) (hl : l.length ≤ 1000000) (hxl : m ≤ 1000) (hbase : base ≤ w.heap.size) :
    ∃ v' w', (Builtin.append_ #[22, 22] ty #[v, .slice A m c]).run Try.prog w = .ok v' w' ∧ (OwnEps w' base v' (l ++ xs) ∧ Grew w w' v v') := by
  obtain ⟨i0, hi, hz0, hz1, hz2⟩ := info_parts infoEp
  obtain ⟨v', w', r1, r2, r3⟩ := run_append_rd (P := Try.prog) w base 22 ty 48 i0 _ 6 64 Try.underlying22 hi hz0 hz1 hz2 rfl v l.length (l.flatMap Le.cells) h.own B A m c (xs.flatMap Le.cells) (by rw [flatMap_len _ 6 ecells_len, hm]) hr (ecells_one xs) (by unfold maxLen; omega) (by omega) hbase
  refine ⟨v', w', r1, ⟨by rw [List.length_append, List.flatMap_append, ← hm]; exact r2, fun y hy => ?_⟩, r3⟩
  rcases List.mem_append.1 hy with hy | hy
  · exact OwnSps.grew (h.each y hy) h.own r3 (by decide) (by decide)
  · exact OwnSps.grew (hx y hy) h.own r3 (by decide) (by decide)
end Go.Proofs.Ytmldelgbmadegaa
