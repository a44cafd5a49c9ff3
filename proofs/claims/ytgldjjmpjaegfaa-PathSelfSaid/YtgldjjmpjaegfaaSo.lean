/- Spans in memory of one's own; a span's copy. -/
import Derived.Test.YtgldjjmpjaegfaaSp
import Derived.Test.YtgldjjmpjaegfaaBs
import Derived.Test.YtgldjjmpjaegfaaOt
import Derived.BigQuiet
import Derived.LoopTactic
namespace Go.Proofs.Ytgldjjmpjaegfaa
open Go.RowKit
set_option linter.unusedVariables false
set_option maxRecDepth 100000

theorem infoAt : (Try.prog.info? 50).map (fun i => (i.zero, i.size, i.bytes)) = some (some (.agg #[.string ⟨#[]⟩, .string ⟨#[]⟩]), 2, 32) := by kernel_rfl
theorem infoSp : (Try.prog.info? 34).map (fun i => (i.zero, i.size, i.bytes)) = some (some (.agg #[.int .u64 0, .int .u64 0, .int .u64 0, .int .u64 0, .string ⟨#[]⟩, .string ⟨#[]⟩, .int .i64 0, .int .i64 0, .bool false, .slice none 0 0]), 10, 112) := by kernel_rfl

/-- A span whose attributes lie in memory of one's own. -/
structure OwnL (w : World) (base : Nat) (x : Ls) : Prop where
  own : w.ownsRow base 50 2 (.slice x.aA x.s.ats.length x.ac) x.s.ats.length (x.s.ats.flatMap atC)
  ok : x.s.ok
/-- Spans, all in memory of one's own. -/
structure OwnSps (w : World) (base : Nat) (v : Value) (l : List Ls) : Prop where
  own : w.ownsRow base 34 10 v l.length (l.flatMap Ls.cells)
  each : ∀ x ∈ l, OwnL w base x

section
variable {w w' : World} {base base' : Nat} {v v' : Value} {x : Ls} {l : List Ls}
theorem OwnL.rd (h : OwnL w base x) : RdL w w.heap.size x := ⟨Rd.of_own h.own, own_cap h.own, h.ok⟩
theorem OwnL.below (h : OwnL w base x) (hb : Below w.heap.size w w') : OwnL w' base x := ⟨own_below h.own hb, h.ok⟩
theorem OwnL.mono (h : OwnL w base x) (hb : base' ≤ base) : OwnL w base' x := ⟨own_mono h.own hb, h.ok⟩
theorem OwnL.grew (h : OwnL w base x) {n size : Nat} {xs : List Value} {e : TypeId} (hv : w.ownsRow base' e size v n xs) (hg : Grew w w' v v') (hne : 50 ≠ e) : OwnL w' base x :=
  ⟨own_grew h.own hg (own_apart h.own hv hne), h.ok⟩
theorem OwnSps.below (h : OwnSps w base v l) (hb : Below w.heap.size w w') : OwnSps w' base v l := ⟨own_below h.own hb, fun x hx => (h.each x hx).below hb⟩
theorem OwnSps.mono (h : OwnSps w base v l) (hb : base' ≤ base) : OwnSps w base' v l := ⟨own_mono h.own hb, fun x hx => (h.each x hx).mono hb⟩
theorem OwnSps.nil : OwnSps w base (.slice none 0 0) [] := ⟨World.ownsRow_nil _ _ _ _, fun _ h => by cases h⟩
theorem OwnSps.rd (h : OwnSps w base v l) : ∃ A c, v = .slice A l.length c ∧ l.length ≤ c ∧ RdSps w w.heap.size A l := by
  obtain ⟨A, c, hv, hc, hr⟩ := own_rd h.own
  exact ⟨A, c, hv, hc, hr, fun x hx => (h.each x hx).rd⟩
theorem cells_one (x : Ls) : ∀ u ∈ x.cells, u.oneCell' = true := by
  intro u hu
  simp only [Ls.cells, List.mem_cons, List.not_mem_nil, or_false] at hu
  rcases hu with rfl | rfl | rfl | rfl | rfl | rfl | rfl | rfl | rfl | rfl <;> rfl
theorem atC_one (l : List (ByteArray × ByteArray)) : ∀ u ∈ l.flatMap atC, u.oneCell' = true := by
  intro u hu
  obtain ⟨a, _, ha⟩ := List.mem_flatMap.1 hu
  simp only [atC, List.mem_cons, List.not_mem_nil, or_false] at ha
  rcases ha with rfl | rfl <;> rfl
end

/-- One more span, appended. -/
theorem appSp {w : World} {ty : TypeId} {base : Nat} {v : Value} {l : List Ls} {x : Ls} (h : OwnSps w base v l) (hx : OwnL w base x) {B : Nat} {a : Addr} (hr : Rd w B (some a) x.cells) (hl : l.length ≤ 1000000) (hbase : base ≤ w.heap.size) :
    ∃ v' w', (Builtin.append_ #[22, 22] ty #[v, .slice (some a) 1 1]).run Try.prog w = .ok v' w' ∧ (OwnSps w' base v' (l ++ [x]) ∧ Grew w w' v v') := by
  obtain ⟨i0, hi, hz0, hz1, hz2⟩ := info_parts infoSp
  obtain ⟨v', w', r1, r2, r3⟩ := run_append_rd (P := Try.prog) w base 22 ty 34 i0 _ 10 112 Try.underlying22 hi hz0 hz1 hz2 rfl v l.length (l.flatMap Ls.cells) h.own B (some a) 1 1 x.cells rfl hr (cells_one x) (by unfold maxLen; omega) (by omega) hbase
  refine ⟨v', w', r1, ⟨by rw [List.length_append, List.flatMap_append]; simpa using r2, fun y hy => ?_⟩, r3⟩
  rcases List.mem_append.1 hy with hy | hy
  · exact (h.each y hy).grew h.own r3 (by decide)
  · simp at hy; subst hy; exact hx.grew h.own r3 (by decide)

/-- What a copy of a span is. -/
def CopySp (s : Sp) (w : World) (e : Ending) (w' : World) : Prop := ∃ (A : Option Addr) (c : Nat), e = .returned (.agg (Ls.mk s A c).cells.toArray) ∧ OwnL w' w.heap.size ⟨s, A, c⟩ ∧ Below w.heap.size w w'

theorem copySp_mk (s : Sp) (A : Option Addr) (c n : Nat) (hn : n = s.ats.length) {w w' : World} (ho : w'.ownsRow w.heap.size 50 2 (.slice A n c) n (s.ats.flatMap atC)) (hok : s.ok) (hb : Below w.heap.size w w') :
    CopySp s w (.returned (.agg #[.int .u64 s.hi, .int .u64 s.lo, .int .u64 s.id, .int .u64 s.pa, .string s.sv, .string s.op, .int .i64 s.st, .int .i64 s.du, .bool s.er, .slice A n c])) w' := by
  subst hn
  exact ⟨A, c, rfl, ⟨ho, hok⟩, hb⟩

end Go.Proofs.Ytgldjjmpjaegfaa
