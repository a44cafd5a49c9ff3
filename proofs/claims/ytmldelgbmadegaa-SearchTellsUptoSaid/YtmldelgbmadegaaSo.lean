/- Spans in memory of one's own; a span's copy. -/
import Derived.Test.YtmldelgbmadegaaSp
import Derived.Test.YtmldelgbmadegaaBs
import Derived.Test.YtmldelgbmadegaaOt
import Derived.BigQuiet
import Derived.LoopTactic
namespace Go.Proofs.Ytmldelgbmadegaa
open Go.RowKit
set_option linter.unusedVariables false
set_option maxRecDepth 100000

theorem infoAt : (Try.prog.info? 116).map (fun i => (i.zero, i.size, i.bytes)) = some (some (.agg #[.string ⟨#[]⟩, .string ⟨#[]⟩]), 2, 32) := by kernel_rfl
theorem infoSp : (Try.prog.info? 71).map (fun i => (i.zero, i.size, i.bytes)) = some (some (.agg #[.int .u64 0, .int .u64 0, .int .u64 0, .int .u64 0, .string ⟨#[]⟩, .string ⟨#[]⟩, .int .i64 0, .int .i64 0, .bool false, .slice none 0 0]), 10, 112) := by kernel_rfl

/-- A span whose attributes lie in memory of one's own. -/
structure OwnL (w : World) (base : Nat) (x : Ls) : Prop where
  own : w.ownsRow base 116 2 (.slice x.aA x.s.ats.length x.ac) x.s.ats.length (x.s.ats.flatMap atC)
  ok : x.s.ok
/-- Spans, all in memory of one's own. -/
structure OwnSps (w : World) (base : Nat) (v : Value) (l : List Ls) : Prop where
  own : w.ownsRow base 71 10 v l.length (l.flatMap Ls.cells)
  each : ∀ x ∈ l, OwnL w base x

section
variable {w w' : World} {base base' : Nat} {v v' : Value} {x : Ls} {l : List Ls}
theorem OwnL.rd (h : OwnL w base x) : RdL w w.heap.size x := ⟨Rd.of_own h.own, own_cap h.own, h.ok⟩
theorem OwnL.below (h : OwnL w base x) (hb : Below w.heap.size w w') : OwnL w' base x := ⟨own_below h.own hb, h.ok⟩
theorem OwnL.mono (h : OwnL w base x) (hb : base' ≤ base) : OwnL w base' x := ⟨own_mono h.own hb, h.ok⟩
theorem OwnL.grew (h : OwnL w base x) {n size : Nat} {xs : List Value} {e : TypeId} (hv : w.ownsRow base' e size v n xs) (hg : Grew w w' v v') (hne : 116 ≠ e) : OwnL w' base x :=
  ⟨own_grew h.own hg (own_apart h.own hv hne), h.ok⟩
theorem OwnSps.below (h : OwnSps w base v l) (hb : Below w.heap.size w w') : OwnSps w' base v l := ⟨own_below h.own hb, fun x hx => (h.each x hx).below hb⟩
theorem OwnSps.mono (h : OwnSps w base v l) (hb : base' ≤ base) : OwnSps w base' v l := ⟨own_mono h.own hb, fun x hx => (h.each x hx).mono hb⟩
theorem OwnSps.nil : OwnSps w base (.slice none 0 0) [] := ⟨World.ownsRow_nil _ _ _ _, fun _ h => by cases h⟩
theorem OwnSps.rd (h : OwnSps w base v l) : ∃ A c, v = .slice A l.length c ∧ l.length ≤ c ∧ RdSps w w.heap.size A l := by
  obtain ⟨A, c, hv, hc, hr⟩ := own_rd h.own
  exact ⟨A, c, hv, hc, hr, fun x hx => (h.each x hx).rd⟩
theorem cells_one (x : Ls) : ∀ u ∈ x.cells, u.oneCell' = true := by
  intro u hu
  simp only [Ls.cells, List.mem_cons, List.not_mem_nil, or_false] at hu
  rcases hu with rfl | rfl | rfl | rfl | rfl | rfl | rfl | rfl | rfl | rfl <;> rfl
theorem atC_one (l : List (ByteArray × ByteArray)) : ∀ u ∈ l.flatMap atC, u.oneCell' = true := by
  intro u hu
  obtain ⟨a, _, ha⟩ := List.mem_flatMap.1 hu
  simp only [atC, List.mem_cons, List.not_mem_nil, or_false] at ha
  rcases ha with rfl | rfl <;> rfl
end

/-- One more span, appended. -/
theorem appSp {w : World} {ty : TypeId} {base : Nat} {v : Value} {l : List Ls} {x : Ls} (h : OwnSps w base v l) (hx : OwnL w base x) {B : Nat} {a : Addr} (hr : Rd w B (some a) x.cells) (hl : l.length ≤ 1000000) (hbase : base ≤ w.heap.size) :
    ∃ v' w', (Builtin.append_ #[46, 46] ty #[v, .slice (some a) 1 1]).run Try.prog w = .ok v' w' ∧ (OwnSps w' base v' (l ++ [x]) ∧ Grew w w' v v') := by
  obtain ⟨i0, hi, hz0, hz1, hz2⟩ := info_parts infoSp
  obtain ⟨v', w', r1, r2, r3⟩ := run_append_rd (P := Try.prog) w base 46 ty 71 i0 _ 10 112 Try.underlying46 hi hz0 hz1 hz2 rfl v l.length (l.flatMap Ls.cells) h.own B (some a) 1 1 x.cells rfl hr (cells_one x) (by unfold maxLen; omega) (by omega) hbase
  refine ⟨v', w', r1, ⟨by rw [List.length_append, List.flatMap_append]; simpa using r2, fun y hy => ?_⟩, r3⟩
  rcases List.mem_append.1 hy with hy | hy
  · exact (h.each y hy).grew h.own r3 (by decide)
  · simp at hy; subst hy; exact hx.grew h.own r3 (by decide)

/-- What a copy of a span is. -/
def CopySp (s : Sp) (w : World) (e : Ending) (w' : World) : Prop := ∃ (A : Option Addr) (c : Nat), e = .returned (.agg (Ls.mk s A c).cells.toArray) ∧ OwnL w' w.heap.size ⟨s, A, c⟩ ∧ Below w.heap.size w w'

theorem copySp_mk (s : Sp) (A : Option Addr) (c n : Nat) (hn : n = s.ats.length) {w w' : World} (ho : w'.ownsRow w.heap.size 116 2 (.slice A n c) n (s.ats.flatMap atC)) (hok : s.ok) (hb : Below w.heap.size w w') :
    CopySp s w (.returned (.agg #[.int .u64 s.hi, .int .u64 s.lo, .int .u64 s.id, .int .u64 s.pa, .string s.sv, .string s.op, .int .i64 s.st, .int .i64 s.du, .bool s.er, .slice A n c])) w' := by
  subst hn
  exact ⟨A, c, rfl, ⟨ho, hok⟩, hb⟩

set_option maxHeartbeats 4000000 in
theorem copy_any (y : Ls) (B : Nat) (w : World) (hy : RdL w B y) (hB : B ≤ w.heap.size) (hl : y.s.ats.length ≤ 100000) :
    Calls Try.prog 127 #[.agg y.cells.toArray] w (CopySp y.s w) := by
  obtain ⟨i0, hi, hz0, hz1, hz2⟩ := info_parts infoAt
  obtain ⟨⟨x0, x1, x2, x3, x4, x5, x6, x7, x8, ats⟩, aA, ac⟩ := y
  have hok := Lib.hid hy.ok
  have hrd := hy.rd
  simp only at hrd hl
  clear hy
  obtain ⟨n, hn⟩ : ∃ n, n = ats.length := ⟨_, rfl⟩
  simp only [Ls.cells]
  rw [← hn] at hl ⊢
  have HN := Lib.hid hn
  have hlen : (ats.flatMap atC).length = n * 2 := by rw [flatMap_len _ 2 atC_len, hn]
  have HL := Lib.hid hlen
  clear hn hlen
  have HR := Lib.hid hrd
  clear hrd
  have HRW := Lib.hid ((HR.out.alloc hB (.cells #[.int .u64 x0, .int .u64 x1, .int .u64 x2, .int .u64 x3, .string x4, .string x5, .int .i64 x6, .int .i64 x7, .bool x8, .slice aA n ac] 71)).alloc (by simp <;> omega) (.cells #[.int .u64 0, .int .u64 0, .int .u64 0, .int .u64 0, .string ⟨#[]⟩, .string ⟨#[]⟩, .int .i64 0, .int .i64 0, .bool false, .slice none 0 0] 71))
  have hzW : ((w.alloc (.cells #[.int .u64 x0, .int .u64 x1, .int .u64 x2, .int .u64 x3, .string x4, .string x5, .int .i64 x6, .int .i64 x7, .bool x8, .slice aA n ac] 71)).alloc (.cells #[.int .u64 0, .int .u64 0, .int .u64 0, .int .u64 0, .string ⟨#[]⟩, .string ⟨#[]⟩, .int .i64 0, .int .i64 0, .bool false, .slice none 0 0] 71)).heap.size = w.heap.size + 2 := by simp
  have hBW : Hid (∀ w1, Below ((w.alloc (.cells #[.int .u64 x0, .int .u64 x1, .int .u64 x2, .int .u64 x3, .string x4, .string x5, .int .i64 x6, .int .i64 x7, .bool x8, .slice aA n ac] 71)).alloc (.cells #[.int .u64 0, .int .u64 0, .int .u64 0, .int .u64 0, .string ⟨#[]⟩, .string ⟨#[]⟩, .int .i64 0, .int .i64 0, .bool false, .slice none 0 0] 71)).heap.size ((w.alloc (.cells #[.int .u64 x0, .int .u64 x1, .int .u64 x2, .int .u64 x3, .string x4, .string x5, .int .i64 x6, .int .i64 x7, .bool x8, .slice aA n ac] 71)).alloc (.cells #[.int .u64 0, .int .u64 0, .int .u64 0, .int .u64 0, .string ⟨#[]⟩, .string ⟨#[]⟩, .int .i64 0, .int .i64 0, .bool false, .slice none 0 0] 71)) w1 → w1.heap[w.heap.size]? = some (.cells #[.int .u64 x0, .int .u64 x1, .int .u64 x2, .int .u64 x3, .string x4, .string x5, .int .i64 x6, .int .i64 x7, .bool x8, .slice aA n ac] 71) ∧ w1.heap[w.heap.size + 1]? = some (.cells #[.int .u64 0, .int .u64 0, .int .u64 0, .int .u64 0, .string ⟨#[]⟩, .string ⟨#[]⟩, .int .i64 0, .int .i64 0, .bool false, .slice none 0 0] 71) ∧ Below w.heap.size w w1 ∧ w.heap.size + 2 ≤ w1.heap.size) := Lib.hid (fun w1 hb => by
    have hs := hb.size
    rw [hzW] at hs
    exact ⟨(hb.block _ (by rw [hzW]; omega)).trans (two0 w _ _), (hb.block _ (by rw [hzW]; omega)).trans (two1 w _ _), (((Below.refl _ _).alloc (Nat.le_refl _) _).alloc (by simp <;> omega) _).trans (hb.mono (by rw [hzW]; omega)), hs⟩)
  have HZ := Lib.hid hzW
  clear hzW
  have HAPP := Lib.hid (run_append_rd (P := Try.prog) ((w.alloc (.cells #[.int .u64 x0, .int .u64 x1, .int .u64 x2, .int .u64 x3, .string x4, .string x5, .int .i64 x6, .int .i64 x7, .bool x8, .slice aA n ac] 71)).alloc (.cells #[.int .u64 0, .int .u64 0, .int .u64 0, .int .u64 0, .string ⟨#[]⟩, .string ⟨#[]⟩, .int .i64 0, .int .i64 0, .bool false, .slice none 0 0] 71)) (w.heap.size + 2) 69 69 116 i0 _ 2 32 Try.underlying69 hi hz0 hz1 hz2 rfl (.slice none 0 0) 0 [] (World.ownsRow_nil _ _ _ _) B aA n ac (ats.flatMap atC) HL.out HRW.out (atC_one ats) (by unfold maxLen; omega) (by omega) (Nat.le_of_eq HZ.out.symm))
  clear hi hz0 hz1 hz2 HRW
  go_enter Try.func127, Try.ntmps127
  go_wp2_with (at_builtin; (refine wpList_app rfl (.const (.slice none 0 0)) (.tmp 4) _ _ rfl rfl rfl HAPP.out ?_; rintro v1 w1 ⟨ho1, hg1⟩; rw [List.nil_append, Nat.zero_add] at ho1; obtain ⟨A1, c1, rfl, _, _⟩ := own_rd ho1; have hb1 := hg1.new; obtain ⟨hO, hP, hB1, hz1'⟩ := hBW.out _ hb1; have o0 : w1.cell? ⟨w.heap.size, 0, none⟩ = some (.int .u64 x0) := cell_of_row _ _ 0 _ _ (0, 0) hO; have p0 : w1.cell? ⟨w.heap.size + 1, 0, none⟩ = some (.int .u64 0) := cell_of_row _ _ 0 _ _ (0, 0) hP; have q0 : w1.frozen? ⟨w.heap.size + 1, 0, none⟩ = false := (by simp [World.frozen?, hP]); have o1 : w1.cell? ⟨w.heap.size, 1, none⟩ = some (.int .u64 x1) := cell_of_row _ _ 1 _ _ (0, 0) hO; have p1 : w1.cell? ⟨w.heap.size + 1, 1, none⟩ = some (.int .u64 0) := cell_of_row _ _ 1 _ _ (0, 0) hP; have q1 : w1.frozen? ⟨w.heap.size + 1, 1, none⟩ = false := (by simp [World.frozen?, hP]); have o2 : w1.cell? ⟨w.heap.size, 2, none⟩ = some (.int .u64 x2) := cell_of_row _ _ 2 _ _ (0, 0) hO; have p2 : w1.cell? ⟨w.heap.size + 1, 2, none⟩ = some (.int .u64 0) := cell_of_row _ _ 2 _ _ (0, 0) hP; have q2 : w1.frozen? ⟨w.heap.size + 1, 2, none⟩ = false := (by simp [World.frozen?, hP]); have o3 : w1.cell? ⟨w.heap.size, 3, none⟩ = some (.int .u64 x3) := cell_of_row _ _ 3 _ _ (0, 0) hO; have p3 : w1.cell? ⟨w.heap.size + 1, 3, none⟩ = some (.int .u64 0) := cell_of_row _ _ 3 _ _ (0, 0) hP; have q3 : w1.frozen? ⟨w.heap.size + 1, 3, none⟩ = false := (by simp [World.frozen?, hP]); have o4 : w1.cell? ⟨w.heap.size, 4, none⟩ = some (.string x4) := cell_of_row _ _ 4 _ _ (0, 0) hO; have p4 : w1.cell? ⟨w.heap.size + 1, 4, none⟩ = some (.string ⟨#[]⟩) := cell_of_row _ _ 4 _ _ (0, 0) hP; have q4 : w1.frozen? ⟨w.heap.size + 1, 4, none⟩ = false := (by simp [World.frozen?, hP]); have o5 : w1.cell? ⟨w.heap.size, 5, none⟩ = some (.string x5) := cell_of_row _ _ 5 _ _ (0, 0) hO; have p5 : w1.cell? ⟨w.heap.size + 1, 5, none⟩ = some (.string ⟨#[]⟩) := cell_of_row _ _ 5 _ _ (0, 0) hP; have q5 : w1.frozen? ⟨w.heap.size + 1, 5, none⟩ = false := (by simp [World.frozen?, hP]); have o6 : w1.cell? ⟨w.heap.size, 6, none⟩ = some (.int .i64 x6) := cell_of_row _ _ 6 _ _ (0, 0) hO; have p6 : w1.cell? ⟨w.heap.size + 1, 6, none⟩ = some (.int .i64 0) := cell_of_row _ _ 6 _ _ (0, 0) hP; have q6 : w1.frozen? ⟨w.heap.size + 1, 6, none⟩ = false := (by simp [World.frozen?, hP]); have o7 : w1.cell? ⟨w.heap.size, 7, none⟩ = some (.int .i64 x7) := cell_of_row _ _ 7 _ _ (0, 0) hO; have p7 : w1.cell? ⟨w.heap.size + 1, 7, none⟩ = some (.int .i64 0) := cell_of_row _ _ 7 _ _ (0, 0) hP; have q7 : w1.frozen? ⟨w.heap.size + 1, 7, none⟩ = false := (by simp [World.frozen?, hP]); have o8 : w1.cell? ⟨w.heap.size, 8, none⟩ = some (.bool x8) := cell_of_row _ _ 8 _ _ (0, 0) hO; have p8 : w1.cell? ⟨w.heap.size + 1, 8, none⟩ = some (.bool false) := cell_of_row _ _ 8 _ _ (0, 0) hP; have q8 : w1.frozen? ⟨w.heap.size + 1, 8, none⟩ = false := (by simp [World.frozen?, hP]); have o9 : w1.cell? ⟨w.heap.size, 9, none⟩ = some (.slice aA n ac) := cell_of_row _ _ 9 _ _ (0, 0) hO; have p9 : w1.cell? ⟨w.heap.size + 1, 9, none⟩ = some (.slice none 0 0) := cell_of_row _ _ 9 _ _ (0, 0) hP; have q9 : w1.frozen? ⟨w.heap.size + 1, 9, none⟩ = false := (by simp [World.frozen?, hP]); have r9 : w1.frozen? ⟨w.heap.size, 9, none⟩ = false := (by simp [World.frozen?, hO]); have HO1 := Lib.hid ho1; have HB1 := Lib.hid hB1; clear hB1 ho1 hg1 hb1 hO hP))
  have LB : Below w.heap.size w (((((((((((w1.setCell ⟨w.heap.size, 9, none⟩ (.slice A1 n c1)).setCell ⟨w.heap.size + 1, 0, none⟩ (.int .u64 x0)).setCell ⟨w.heap.size + 1, 1, none⟩ (.int .u64 x1)).setCell ⟨w.heap.size + 1, 2, none⟩ (.int .u64 x2)).setCell ⟨w.heap.size + 1, 3, none⟩ (.int .u64 x3)).setCell ⟨w.heap.size + 1, 4, none⟩ (.string x4)).setCell ⟨w.heap.size + 1, 5, none⟩ (.string x5)).setCell ⟨w.heap.size + 1, 6, none⟩ (.int .i64 x6)).setCell ⟨w.heap.size + 1, 7, none⟩ (.int .i64 x7)).setCell ⟨w.heap.size + 1, 8, none⟩ (.bool x8)).setCell ⟨w.heap.size + 1, 9, none⟩ (.slice A1 n c1)) := by repeat' (first | (with_reducible exact HB1.out) | (refine Below.setCell ?_ (by simp) _))
  have LO : (((((((((((w1.setCell ⟨w.heap.size, 9, none⟩ (.slice A1 n c1)).setCell ⟨w.heap.size + 1, 0, none⟩ (.int .u64 x0)).setCell ⟨w.heap.size + 1, 1, none⟩ (.int .u64 x1)).setCell ⟨w.heap.size + 1, 2, none⟩ (.int .u64 x2)).setCell ⟨w.heap.size + 1, 3, none⟩ (.int .u64 x3)).setCell ⟨w.heap.size + 1, 4, none⟩ (.string x4)).setCell ⟨w.heap.size + 1, 5, none⟩ (.string x5)).setCell ⟨w.heap.size + 1, 6, none⟩ (.int .i64 x6)).setCell ⟨w.heap.size + 1, 7, none⟩ (.int .i64 x7)).setCell ⟨w.heap.size + 1, 8, none⟩ (.bool x8)).setCell ⟨w.heap.size + 1, 9, none⟩ (.slice A1 n c1)).ownsRow (w.heap.size + 2) 116 2 (.slice A1 n c1) n (ats.flatMap atC) := by repeat' (first | (with_reducible exact HO1.out) | (refine own_far ?_ (by simp) _))
  refine bodyPost_ret (v := .agg #[.int .u64 x0, .int .u64 x1, .int .u64 x2, .int .u64 x3, .string x4, .string x5, .int .i64 x6, .int .i64 x7, .bool x8, .slice A1 n c1]) (by simp [results, Try.results127, go_sem, p0, p1, p2, p3, p4, p5, p6, p7, p8, p9]) rfl ?_
  exact copySp_mk ⟨x0, x1, x2, x3, x4, x5, x6, x7, x8, ats⟩ A1 c1 n HN.out (own_mono LO (by omega)) hok.out LB
end Go.Proofs.Ytmldelgbmadegaa
