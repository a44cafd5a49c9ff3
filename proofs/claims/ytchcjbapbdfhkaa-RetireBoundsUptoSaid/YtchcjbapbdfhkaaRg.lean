/- A span read: the code's ReadFrom. -/
import Derived.Test.YtchcjbapbdfhkaaRf
import Derived.Test.YtchcjbapbdfhkaaSq
namespace Go.Proofs.Ytchcjbapbdfhkaa
open Go.RowKit
set_option linter.unusedVariables false
set_option maxRecDepth 100000

theorem own_grown {w w' : World} {base e size n g : Nat} {v : Value} {xs : List Value} (h : w.ownsRow base e size v n xs) (hg : w.grownBy w' (some g)) (hb : g < base) : w'.ownsRow base e size v n xs :=
  h.kept hg (.inr (fun he => by have := own_block_ge h g he; omega))
theorem grown_old {w w' : World} {row : Option Nat} (h : w.grownBy w' row) {p : Addr} (hp : w.heap.size ≤ p.block) (v : Value) : w.grownBy (w'.setCell p v) row :=
  ⟨h.os, h.tape, h.output, by simpa using h.size, fun k hk hn => (Below.heap_setCell w' p v k (by omega)).trans (h.block k hk hn)⟩
theorem RSt.set {w : World} {B g : Nat} {r : Rm.R} (h : RSt w B g r) {p : Addr} (hp : g < p.block) (v : Value) : RSt (w.setCell p v) B g r :=
  h.keep (row := some p.block) ⟨rfl, rfl, rfl, by simp, fun k _ hk => Below.heap_setCell w p v k (fun e => hk (by rw [e]))⟩ (fun e => by injection e with e; omega) (fun j e => by injection e with e; have := h.lt; omega)
theorem appAt {w : World} {ty : TypeId} {base q : Nat} {v : Value} {l : List (ByteArray × ByteArray)} {x y : ByteArray} (h : w.ownsRow base 132 2 v q (l.flatMap atC)) (hq : q = l.length) {B : Nat} {a : Addr} (hr : Rd w B (some a) [.string x, .string y]) (hl : q ≤ 1000000) (hbase : base ≤ w.heap.size) :
    ∃ v' w', (Builtin.append_ #[73, 73] ty #[v, .slice (some a) 1 1]).run Try.prog w = .ok v' w' ∧ (w'.ownsRow base 132 2 v' (q + 1) ((l ++ [(x, y)]).flatMap atC) ∧ Grew w w' v v') := by
  obtain ⟨i0, hi, hz0, hz1, hz2⟩ := info_parts infoAt
  obtain ⟨v', w', r1, r2, r3⟩ := run_append_rd (P := Try.prog) w base 73 ty 132 i0 _ 2 32 Try.underlying73 hi hz0 hz1 hz2 rfl v q (l.flatMap atC) h B (some a) 1 1 [.string x, .string y] rfl hr (fun u hu => by simp only [List.mem_cons, List.not_mem_nil, or_false] at hu; rcases hu with rfl | rfl <;> rfl) (by unfold maxLen; omega) (by omega) hbase
  exact ⟨v', w', r1, by rw [List.flatMap_append]; simpa [atC] using r2, r3⟩

theorem less_one {m : Nat} (h : 0 < m) : Value.int .i64 ((m : Int) - 1) = .int .i64 ((m - 1 : Nat) : Int) := by
  have e : ((m - 1 : Nat) : Int) = (m : Int) - 1 := by omega
  rw [e]
theorem fst0 {w : World} {B g : Nat} {r : Rm.R} (h : RSt w B g r) : FSt w ((w.alloc (.cells #[.int .u64 0, .int .u64 0, .int .u64 0, .int .u64 0, .string ⟨#[]⟩, .string ⟨#[]⟩, .int .i64 0, .int .i64 0, .bool false, .slice none 0 0] 75)).alloc (.cells #[.int .u64 0, .int .u64 0, .int .u64 0, .int .u64 0, .string ⟨#[]⟩, .string ⟨#[]⟩, .int .i64 0, .int .i64 0, .bool false, .slice none 0 0] 75)) B g r #[.int .u64 0, .int .u64 0, .int .u64 0, .int .u64 0, .string ⟨#[]⟩, .string ⟨#[]⟩, .int .i64 0, .int .i64 0, .bool false, .slice none 0 0] := by
  have hlt : g < w.heap.size := by obtain ⟨⟨A, n, c, hx, _⟩, _⟩ := h; exact in_heap hx
  have hg : w.grownBy ((w.alloc (.cells #[.int .u64 0, .int .u64 0, .int .u64 0, .int .u64 0, .string ⟨#[]⟩, .string ⟨#[]⟩, .int .i64 0, .int .i64 0, .bool false, .slice none 0 0] 75)).alloc (.cells #[.int .u64 0, .int .u64 0, .int .u64 0, .int .u64 0, .string ⟨#[]⟩, .string ⟨#[]⟩, .int .i64 0, .int .i64 0, .bool false, .slice none 0 0] 75)) none := ⟨rfl, rfl, rfl, by simp <;> omega, fun k hk _ => (heap_alloc_old _ _ (show k < _ by simp <;> omega)).trans (heap_alloc_old _ _ hk)⟩
  exact ⟨h.keep hg (by simp) (fun j e => by cases e), two0 w _ _, two1 w _ _, ⟨hg.os, hg.tape, hg.output, hg.size, fun k hk _ => hg.block k hk (by simp)⟩, hlt, by simp <;> omega⟩
theorem zero_ok : Rm.zero.ok := ⟨⟨by decide, by decide⟩, ⟨by decide, by decide⟩, ⟨by decide, by decide⟩, ⟨by decide, by decide⟩, by simp [Rm.zero, ByteArray.size, maxLen], by simp [Rm.zero, ByteArray.size, maxLen], ⟨by decide, by decide⟩, ⟨by decide, by decide⟩, by simp [Rm.zero, maxLen], fun a h => by cases h⟩
theorem spanOf_mk (s : Sp) (A : Option Addr) (c n : Nat) (hn : n = s.ats.length) {r : Rm.R} {B g : Nat} {w w' : World} (ho : w'.ownsRow w.heap.size 132 2 (.slice A n c) n (s.ats.flatMap atC)) (hok : s.ok) (hr : RSt w' B g r) (hg : w.grownBy w' (some g)) :
    SpanOf s r B g w (.returned (.agg #[.int .u64 s.hi, .int .u64 s.lo, .int .u64 s.id, .int .u64 s.pa, .string s.sv, .string s.op, .int .i64 s.st, .int .i64 s.du, .bool s.er, .slice A n c])) w' := by
  subst hn
  exact ⟨A, c, rfl, ⟨ho, hok⟩, hr, hg⟩
theorem spanOf_no {B g : Nat} {w w' : World} (hr : RSt w' B g Rm.fail) (hg : w.grownBy w' (some g)) :
    SpanOf Rm.zero Rm.fail B g w (.returned (.agg #[.int .u64 0, .int .u64 0, .int .u64 0, .int .u64 0, .string ⟨#[]⟩, .string ⟨#[]⟩, .int .i64 0, .int .i64 0, .bool false, .slice none 0 0])) w' :=
  spanOf_mk Rm.zero none 0 0 rfl (World.ownsRow_nil _ _ _ _) zero_ok hr hg

set_option maxHeartbeats 16000000 in
theorem readfrom_any (g B : Nat) (r : Rm.R) (w : World) (h : RSt w B g r) :
    Calls Try.prog 88 #[.pointer (some ⟨g, 0, none⟩)] w (SpanOf (Rm.span r).1 (Rm.span r).2 B g w) := by
  have hlen : r.1.length ≤ 140737488351232 := by obtain ⟨⟨A, n, c, _, hn, _, h1, h2, _⟩, _⟩ := h; omega
  have HOK := Lib.hid (raw_ok r (by unfold maxLen; omega))
  clear hlen
  rcases hp0 : Rm.p0 r with ⟨v0, r0⟩
  rcases hp1 : Rm.p1 r with ⟨v1, r1⟩
  rcases hp2 : Rm.p2 r with ⟨v2, r2⟩
  rcases hp3 : Rm.p3 r with ⟨v3, r3⟩
  rcases hp4 : Rm.p4 r with ⟨v4, r4⟩
  rcases hp5 : Rm.p5 r with ⟨v5, r5⟩
  rcases hp6 : Rm.p6 r with ⟨v6, r6⟩
  rcases hp7 : Rm.p7 r with ⟨v7, r7⟩
  rcases hp8 : Rm.p8 r with ⟨v8, r8⟩
  rcases hp9 : Rm.p9 r with ⟨v9, r9⟩
  rcases hpa : Rm.pa r with ⟨rE, aE⟩
  have HW0 : Hid (Rm.wide r = (v0, r0)) := Lib.hid (by have h' := hp0; unfold Rm.p0 at h'; exact h')
  have HW1 : Hid (Rm.wide r0 = (v1, r1)) := Lib.hid (by have h' := hp1; unfold Rm.p1 at h'; rw [hp0] at h'; exact h')
  have HW2 : Hid (Rm.wide r1 = (v2, r2)) := Lib.hid (by have h' := hp2; unfold Rm.p2 at h'; rw [hp1] at h'; exact h')
  have HW3 : Hid (Rm.wide r2 = (v3, r3)) := Lib.hid (by have h' := hp3; unfold Rm.p3 at h'; rw [hp2] at h'; exact h')
  have HW4 : Hid (Rm.text r3 = (v4, r4)) := Lib.hid (by have h' := hp4; unfold Rm.p4 at h'; rw [hp3] at h'; exact h')
  have HW5 : Hid (Rm.text r4 = (v5, r5)) := Lib.hid (by have h' := hp5; unfold Rm.p5 at h'; rw [hp4] at h'; exact h')
  have HW6 : Hid (Rm.num r5 = (v6, r6)) := Lib.hid (by have h' := hp6; unfold Rm.p6 at h'; rw [hp5] at h'; exact h')
  have HW7 : Hid (Rm.num r6 = (v7, r7)) := Lib.hid (by have h' := hp7; unfold Rm.p7 at h'; rw [hp6] at h'; exact h')
  have HW8 : Hid (Rm.flag r7 = (v8, r8)) := Lib.hid (by have h' := hp8; unfold Rm.p8 at h'; rw [hp7] at h'; exact h')
  have HW9 : Hid (Rm.num r8 = (v9, r9)) := Lib.hid (by have h' := hp9; unfold Rm.p9 at h'; rw [hp8] at h'; exact h')
  have HAT : Hid (Rm.atl 5 v9 r9 [] = (rE, aE)) := Lib.hid (by have h' := hpa; unfold Rm.pa at h'; rw [hp9] at h'; exact h')
  have HRAW : Hid (Rm.raw r = ⟨v0, v1, v2, v3, S8 v4, S8 v5, v6, v7, v8, aE⟩) := Lib.hid (by unfold Rm.raw; rw [hp0, hp1, hp2, hp3, hp4, hp5, hp6, hp7, hp8, hpa])
  have HSP : Hid (Rm.span r = if rE.2 = false ∧ right ⟨v0, v1, v2, v3, S8 v4, S8 v5, v6, v7, v8, aE⟩ = true then (⟨v0, v1, v2, v3, S8 v4, S8 v5, v6, v7, v8, aE⟩, rE) else (Rm.zero, Rm.fail)) := Lib.hid (by unfold Rm.span; rw [hpa, HRAW.out])
  rw [HRAW.out] at HOK
  have b9 : v9 ≤ 9223372036854775807 := by have h' := num_lt r8; rw [HW9.out] at h'; exact h'
  clear hp0 hp1 hp2 hp3 hp4 hp5 hp6 hp7 hp8 hp9 hpa HRAW
  have HA0 : Hid (FSt w ((w.alloc (.cells #[.int .u64 0, .int .u64 0, .int .u64 0, .int .u64 0, .string ⟨#[]⟩, .string ⟨#[]⟩, .int .i64 0, .int .i64 0, .bool false, .slice none 0 0] 75)).alloc (.cells #[.int .u64 0, .int .u64 0, .int .u64 0, .int .u64 0, .string ⟨#[]⟩, .string ⟨#[]⟩, .int .i64 0, .int .i64 0, .bool false, .slice none 0 0] 75)) B g r #[.int .u64 0, .int .u64 0, .int .u64 0, .int .u64 0, .string ⟨#[]⟩, .string ⟨#[]⟩, .int .i64 0, .int .i64 0, .bool false, .slice none 0 0]) := Lib.hid (fst0 h)
  clear h
  go_enter Try.func88, Try.ntmps88
  go_wp2_with fail
  generalize (w.alloc (.cells #[.int .u64 0, .int .u64 0, .int .u64 0, .int .u64 0, .string ⟨#[]⟩, .string ⟨#[]⟩, .int .i64 0, .int .i64 0, .bool false, .slice none 0 0] 75)).alloc (.cells #[.int .u64 0, .int .u64 0, .int .u64 0, .int .u64 0, .string ⟨#[]⟩, .string ⟨#[]⟩, .int .i64 0, .int .i64 0, .bool false, .slice none 0 0] 75) = u0 at *
  have C0 := Lib.hid (wide_any g B r u0 HA0.out.rd)
  rw [HW0.out] at C0
  refine C0.out.mono ?_
  rintro e w0 ⟨rfl, hr, hg⟩
  have HB0 := Lib.hid (HA0.out.call hr hg)
  have ck : w0.cell? ⟨w.heap.size + 1, 0, none⟩ = some (.int .u64 0) := cell_of_row _ _ 0 _ _ (0, 0) HB0.out.box
  have fk : w0.frozen? ⟨w.heap.size + 1, 0, none⟩ = false := by simp [World.frozen?, HB0.out.box]
  have HA1 : Hid (FSt w (w0.setCell ⟨w.heap.size + 1, 0, none⟩ (.int .u64 (v0 : Int))) B g r0 #[.int .u64 (v0 : Int), .int .u64 0, .int .u64 0, .int .u64 0, .string ⟨#[]⟩, .string ⟨#[]⟩, .int .i64 0, .int .i64 0, .bool false, .slice none 0 0]) := Lib.hid (HB0.out.set 0 (.int .u64 (v0 : Int)))
  clear hr hg C0 HA0 HW0
  go_wp2_with fail
  generalize w0.setCell ⟨w.heap.size + 1, 0, none⟩ (.int .u64 (v0 : Int)) = u1 at *
  clear ck fk HB0
  have C1 := Lib.hid (wide_any g B r0 u1 HA1.out.rd)
  rw [HW1.out] at C1
  refine C1.out.mono ?_
  rintro e w1 ⟨rfl, hr, hg⟩
  have HB1 := Lib.hid (HA1.out.call hr hg)
  have ck : w1.cell? ⟨w.heap.size + 1, 1, none⟩ = some (.int .u64 0) := cell_of_row _ _ 1 _ _ (0, 0) HB1.out.box
  have fk : w1.frozen? ⟨w.heap.size + 1, 1, none⟩ = false := by simp [World.frozen?, HB1.out.box]
  have HA2 : Hid (FSt w (w1.setCell ⟨w.heap.size + 1, 1, none⟩ (.int .u64 (v1 : Int))) B g r1 #[.int .u64 (v0 : Int), .int .u64 (v1 : Int), .int .u64 0, .int .u64 0, .string ⟨#[]⟩, .string ⟨#[]⟩, .int .i64 0, .int .i64 0, .bool false, .slice none 0 0]) := Lib.hid (HB1.out.set 1 (.int .u64 (v1 : Int)))
  clear hr hg C1 HA1 HW1
  go_wp2_with fail
  generalize w1.setCell ⟨w.heap.size + 1, 1, none⟩ (.int .u64 (v1 : Int)) = u2 at *
  clear ck fk HB1
  have C2 := Lib.hid (wide_any g B r1 u2 HA2.out.rd)
  rw [HW2.out] at C2
  refine C2.out.mono ?_
  rintro e w2 ⟨rfl, hr, hg⟩
  have HB2 := Lib.hid (HA2.out.call hr hg)
  have ck : w2.cell? ⟨w.heap.size + 1, 2, none⟩ = some (.int .u64 0) := cell_of_row _ _ 2 _ _ (0, 0) HB2.out.box
  have fk : w2.frozen? ⟨w.heap.size + 1, 2, none⟩ = false := by simp [World.frozen?, HB2.out.box]
  have HA3 : Hid (FSt w (w2.setCell ⟨w.heap.size + 1, 2, none⟩ (.int .u64 (v2 : Int))) B g r2 #[.int .u64 (v0 : Int), .int .u64 (v1 : Int), .int .u64 (v2 : Int), .int .u64 0, .string ⟨#[]⟩, .string ⟨#[]⟩, .int .i64 0, .int .i64 0, .bool false, .slice none 0 0]) := Lib.hid (HB2.out.set 2 (.int .u64 (v2 : Int)))
  clear hr hg C2 HA2 HW2
  go_wp2_with fail
  generalize w2.setCell ⟨w.heap.size + 1, 2, none⟩ (.int .u64 (v2 : Int)) = u3 at *
  clear ck fk HB2
  have C3 := Lib.hid (wide_any g B r2 u3 HA3.out.rd)
  rw [HW3.out] at C3
  refine C3.out.mono ?_
  rintro e w3 ⟨rfl, hr, hg⟩
  have HB3 := Lib.hid (HA3.out.call hr hg)
  have ck : w3.cell? ⟨w.heap.size + 1, 3, none⟩ = some (.int .u64 0) := cell_of_row _ _ 3 _ _ (0, 0) HB3.out.box
  have fk : w3.frozen? ⟨w.heap.size + 1, 3, none⟩ = false := by simp [World.frozen?, HB3.out.box]
  have HA4 : Hid (FSt w (w3.setCell ⟨w.heap.size + 1, 3, none⟩ (.int .u64 (v3 : Int))) B g r3 #[.int .u64 (v0 : Int), .int .u64 (v1 : Int), .int .u64 (v2 : Int), .int .u64 (v3 : Int), .string ⟨#[]⟩, .string ⟨#[]⟩, .int .i64 0, .int .i64 0, .bool false, .slice none 0 0]) := Lib.hid (HB3.out.set 3 (.int .u64 (v3 : Int)))
  clear hr hg C3 HA3 HW3
  go_wp2_with fail
  generalize w3.setCell ⟨w.heap.size + 1, 3, none⟩ (.int .u64 (v3 : Int)) = u4 at *
  clear ck fk HB3
  have C4 := Lib.hid (text_any g B r3 u4 HA4.out.rd)
  rw [HW4.out] at C4
  refine C4.out.mono ?_
  rintro e w4 ⟨rfl, hr, hg⟩
  have HB4 := Lib.hid (HA4.out.call hr hg)
  have ck : w4.cell? ⟨w.heap.size + 1, 4, none⟩ = some (.string ⟨#[]⟩) := cell_of_row _ _ 4 _ _ (0, 0) HB4.out.box
  have fk : w4.frozen? ⟨w.heap.size + 1, 4, none⟩ = false := by simp [World.frozen?, HB4.out.box]
  have HA5 : Hid (FSt w (w4.setCell ⟨w.heap.size + 1, 4, none⟩ (.string (S8 v4))) B g r4 #[.int .u64 (v0 : Int), .int .u64 (v1 : Int), .int .u64 (v2 : Int), .int .u64 (v3 : Int), .string (S8 v4), .string ⟨#[]⟩, .int .i64 0, .int .i64 0, .bool false, .slice none 0 0]) := Lib.hid (HB4.out.set 4 (.string (S8 v4)))
  clear hr hg C4 HA4 HW4
  go_wp2_with fail
  generalize w4.setCell ⟨w.heap.size + 1, 4, none⟩ (.string (S8 v4)) = u5 at *
  clear ck fk HB4
  have C5 := Lib.hid (text_any g B r4 u5 HA5.out.rd)
  rw [HW5.out] at C5
  refine C5.out.mono ?_
  rintro e w5 ⟨rfl, hr, hg⟩
  have HB5 := Lib.hid (HA5.out.call hr hg)
  have ck : w5.cell? ⟨w.heap.size + 1, 5, none⟩ = some (.string ⟨#[]⟩) := cell_of_row _ _ 5 _ _ (0, 0) HB5.out.box
  have fk : w5.frozen? ⟨w.heap.size + 1, 5, none⟩ = false := by simp [World.frozen?, HB5.out.box]
  have HA6 : Hid (FSt w (w5.setCell ⟨w.heap.size + 1, 5, none⟩ (.string (S8 v5))) B g r5 #[.int .u64 (v0 : Int), .int .u64 (v1 : Int), .int .u64 (v2 : Int), .int .u64 (v3 : Int), .string (S8 v4), .string (S8 v5), .int .i64 0, .int .i64 0, .bool false, .slice none 0 0]) := Lib.hid (HB5.out.set 5 (.string (S8 v5)))
  clear hr hg C5 HA5 HW5
  go_wp2_with fail
  generalize w5.setCell ⟨w.heap.size + 1, 5, none⟩ (.string (S8 v5)) = u6 at *
  clear ck fk HB5
  have C6 := Lib.hid (num_any g B r5 u6 HA6.out.rd)
  rw [HW6.out] at C6
  refine C6.out.mono ?_
  rintro e w6 ⟨rfl, hr, hg⟩
  have HB6 := Lib.hid (HA6.out.call hr hg)
  have ck : w6.cell? ⟨w.heap.size + 1, 6, none⟩ = some (.int .i64 0) := cell_of_row _ _ 6 _ _ (0, 0) HB6.out.box
  have fk : w6.frozen? ⟨w.heap.size + 1, 6, none⟩ = false := by simp [World.frozen?, HB6.out.box]
  have HA7 : Hid (FSt w (w6.setCell ⟨w.heap.size + 1, 6, none⟩ (.int .i64 (v6 : Int))) B g r6 #[.int .u64 (v0 : Int), .int .u64 (v1 : Int), .int .u64 (v2 : Int), .int .u64 (v3 : Int), .string (S8 v4), .string (S8 v5), .int .i64 (v6 : Int), .int .i64 0, .bool false, .slice none 0 0]) := Lib.hid (HB6.out.set 6 (.int .i64 (v6 : Int)))
  clear hr hg C6 HA6 HW6
  go_wp2_with fail
  generalize w6.setCell ⟨w.heap.size + 1, 6, none⟩ (.int .i64 (v6 : Int)) = u7 at *
  clear ck fk HB6
  have C7 := Lib.hid (num_any g B r6 u7 HA7.out.rd)
  rw [HW7.out] at C7
  refine C7.out.mono ?_
  rintro e w7 ⟨rfl, hr, hg⟩
  have HB7 := Lib.hid (HA7.out.call hr hg)
  have ck : w7.cell? ⟨w.heap.size + 1, 7, none⟩ = some (.int .i64 0) := cell_of_row _ _ 7 _ _ (0, 0) HB7.out.box
  have fk : w7.frozen? ⟨w.heap.size + 1, 7, none⟩ = false := by simp [World.frozen?, HB7.out.box]
  have HA8 : Hid (FSt w (w7.setCell ⟨w.heap.size + 1, 7, none⟩ (.int .i64 (v7 : Int))) B g r7 #[.int .u64 (v0 : Int), .int .u64 (v1 : Int), .int .u64 (v2 : Int), .int .u64 (v3 : Int), .string (S8 v4), .string (S8 v5), .int .i64 (v6 : Int), .int .i64 (v7 : Int), .bool false, .slice none 0 0]) := Lib.hid (HB7.out.set 7 (.int .i64 (v7 : Int)))
  clear hr hg C7 HA7 HW7
  go_wp2_with fail
  generalize w7.setCell ⟨w.heap.size + 1, 7, none⟩ (.int .i64 (v7 : Int)) = u8 at *
  clear ck fk HB7
  have C8 := Lib.hid (flag_any g B r7 u8 HA8.out.rd)
  rw [HW8.out] at C8
  refine C8.out.mono ?_
  rintro e w8 ⟨rfl, hr, hg⟩
  have HB8 := Lib.hid (HA8.out.call hr hg)
  have ck : w8.cell? ⟨w.heap.size + 1, 8, none⟩ = some (.bool false) := cell_of_row _ _ 8 _ _ (0, 0) HB8.out.box
  have fk : w8.frozen? ⟨w.heap.size + 1, 8, none⟩ = false := by simp [World.frozen?, HB8.out.box]
  have HA9 : Hid (FSt w (w8.setCell ⟨w.heap.size + 1, 8, none⟩ (.bool v8)) B g r8 #[.int .u64 (v0 : Int), .int .u64 (v1 : Int), .int .u64 (v2 : Int), .int .u64 (v3 : Int), .string (S8 v4), .string (S8 v5), .int .i64 (v6 : Int), .int .i64 (v7 : Int), .bool v8, .slice none 0 0]) := Lib.hid (HB8.out.set 8 (.bool v8))
  clear hr hg C8 HA8 HW8
  go_wp2_with fail
  generalize w8.setCell ⟨w.heap.size + 1, 8, none⟩ (.bool v8) = u9 at *
  clear ck fk HB8
  have C9 := Lib.hid (num_any g B r8 u9 HA9.out.rd)
  rw [HW9.out] at C9
  refine C9.out.mono ?_
  rintro e w9 ⟨rfl, hr, hg⟩
  have HB9 := Lib.hid (HA9.out.call hr hg)
  clear hr hg C9 HA9 HW9
  go_wp2_with fail
  go_loopw [4] (fun n wr => ∃ (m f q c : Nat) (r' : Rm.R) (acc : List (ByteArray × ByteArray)) (A : Option Addr), n = .int .i64 m ∧ m ≤ 9223372036854775807 ∧ q + f = 5 ∧ Hid (q = acc.length) ∧ Hid (Rm.atl f m r' acc = (rE, aE)) ∧ Hid (FSt w wr B g r' #[.int .u64 (v0 : Int), .int .u64 (v1 : Int), .int .u64 (v2 : Int), .int .u64 (v3 : Int), .string (S8 v4), .string (S8 v5), .int .i64 (v6 : Int), .int .i64 (v7 : Int), .bool v8, .slice A q c]) ∧ Hid (wr.ownsRow (w.heap.size + 2) 132 2 (.slice A q c) q (acc.flatMap atC))) (fun n _ => (intOf n).toNat)
  case atStart => exact ⟨v9, 5, 0, 0, r9, [], none, rfl, b9, rfl, Lib.hid rfl, HAT, HB9, Lib.hid (World.ownsRow_nil _ _ _ _)⟩
  case round =>
    obtain ⟨m, f, q, c, r', acc, A, rfl, hm, hqf, HQL, HAT2, HF, HO⟩ := hrel
    clear HAT HB9 b9
    obtain ⟨rest, bad⟩ := r'
    have hgb : g < w.heap.size := HF.out.lt
    have c1 : wr.cell? ⟨g, 1, none⟩ = some (.bool bad) := by obtain ⟨rA, rn, rc, hx, _⟩ := HF.out.rd.cell; exact cell_of_row _ _ 1 _ _ (0, 0) hx
    have b9 : wr.cell? ⟨w.heap.size + 1, 9, none⟩ = some (.slice A q c) := cell_of_row _ _ 9 _ _ (0, 0) HF.out.box
    by_cases hgo : 0 < m ∧ bad = false ∧ 0 < f
    · obtain ⟨hm0, rfl, hf0⟩ := hgo
      obtain ⟨f, rfl⟩ : ∃ f', f = f' + 1 := ⟨f - 1, by omega⟩
      rcases ht1 : Rm.text (rest, false) with ⟨k1, s1⟩
      rcases ht2 : Rm.text s1 with ⟨k2, s2⟩
      have HAT3 : Hid (Rm.atl f (m - 1) s2 (acc ++ [(S8 k1, S8 k2)]) = (rE, aE)) := Lib.hid (by have h' := HAT2.out; unfold Rm.atl at h'; rw [if_pos ⟨hm0, rfl⟩, ht1] at h'; simp only at h'; rw [ht2] at h'; exact h')
      have hd1 : decide ((0 : Int) < (m : Int)) = true := decide_eq_true (by omega)
      have hd2 : decide ((q : Int) ≤ 4) = true := decide_eq_true (by omega)
      have hm1 : (1 : Int) ≤ (m : Int) := by omega
      have C1 := Lib.hid (text_any g B (rest, false) wr HF.out.rd)
      rw [ht1] at C1
      have HT2 := Lib.hid ht2
      clear ht1 ht2 HAT2
      go_wp2_with fail
      refine C1.out.mono ?_
      rintro e x1 ⟨rfl, hr, hg⟩
      have HF1 := Lib.hid (HF.out.call hr hg)
      have HO1 := Lib.hid (own_grown HO.out hg (by omega))
      have C2 := Lib.hid (text_any g B s1 x1 hr)
      rw [HT2.out] at C2
      clear hr hg C1 HF HO c1 b9
      go_wp2_with fail
      refine C2.out.mono ?_
      rintro e x2 ⟨rfl, hr, hg⟩
      have HF2 := Lib.hid (HF1.out.call hr hg)
      have HO2 := Lib.hid (own_grown HO1.out hg (by omega))
      clear hr hg C2 HF1 HO1 HT2
      have b9 : x2.cell? ⟨w.heap.size + 1, 9, none⟩ = some (.slice A q c) := cell_of_row _ _ 9 _ _ (0, 0) HF2.out.box
      have hzz : w.heap.size + 2 ≤ x2.heap.size := HF2.out.sz
      have HF3 := Lib.hid (HF2.out.new ((Below.refl _ _).alloc (Nat.le_refl _) (.cells #[.string (S8 k1), .string (S8 k2)] 132)))
      have HO3 := Lib.hid (own_below HO2.out ((Below.refl _ _).alloc (Nat.le_refl _) (.cells #[.string (S8 k1), .string (S8 k2)] 132)))
      have AP := Lib.hid (fun ty => appAt (ty := ty) HO3.out HQL.out (Rd.lit x2 #[.string (S8 k1), .string (S8 k2)] 132) (by omega) (by simp; omega))
      go_wp2_with (at_builtin; (refine wpList_app rfl (.tmp 61) (.tmp 65) _ _ rfl rfl rfl (AP.out _) ?_); rintro y3 w3 ⟨ho, hg⟩; obtain ⟨A3, c3, rfl, _, _⟩ := own_rd ho; have HF4 := Lib.hid (HF3.out.grew hg HO3.out (Nat.le_refl _)); have HO4 := Lib.hid ho; have d9 : w3.cell? ⟨w.heap.size + 1, 9, none⟩ = some (.slice A q c) := cell_of_row _ _ 9 _ _ (0, 0) HF4.out.box; have g9 : w3.frozen? ⟨w.heap.size + 1, 9, none⟩ = false := (by simp [World.frozen?, HF4.out.box]); clear ho hg)
      have HF5 : Hid (FSt w (w3.setCell ⟨w.heap.size + 1, 9, none⟩ (.slice A3 (q + 1) c3)) B g s2 #[.int .u64 (v0 : Int), .int .u64 (v1 : Int), .int .u64 (v2 : Int), .int .u64 (v3 : Int), .string (S8 v4), .string (S8 v5), .int .i64 (v6 : Int), .int .i64 (v7 : Int), .bool v8, .slice A3 (q + 1) c3]) := Lib.hid (HF4.out.set 9 _)
      have HO5 := Lib.hid (own_far HO4.out (p := ⟨w.heap.size + 1, 9, none⟩) (by simp) (.slice A3 (q + 1) c3))
      go_roundw
      case rel => exact ⟨m - 1, f, q + 1, c3, s2, acc ++ [(S8 k1, S8 k2)], A3, less_one hm0, by omega, by omega, Lib.hid (by rw [List.length_append, HQL.out]; rfl), HAT3, HF5, HO5⟩
      case measure => simp [intOf]; omega
    · have hst : Rm.atl f m (rest, bad) acc = ((rest, bad), acc) := by
        cases f with
        | zero => rfl
        | succ f => unfold Rm.atl; rw [if_neg (fun hh => hgo ⟨hh.1, hh.2, by omega⟩)]
      have hes := HAT2.out
      rw [hst] at hes
      injection hes with he1 he2
      subst he1
      subst he2
      have hcc : (m = 0 ∧ bad = false) ∨ (m = 0 ∧ bad = true) ∨ (0 < m ∧ bad = true) ∨ ((0 < m ∧ bad = false) ∧ q = 5) := by
        cases bad <;> simp at hgo ⊢ <;> omega
      clear hgo hst HAT2
      rcases hcc with ⟨rfl, rfl⟩ | ⟨rfl, rfl⟩ | ⟨hm0, rfl⟩ | ⟨⟨hm0, rfl⟩, rfl⟩
      · clear hm hqf
        have HQL' := HQL
        have b0 : wr.cell? ⟨w.heap.size + 1, 0, none⟩ = some (.int .u64 (v0 : Int)) := cell_of_row _ _ 0 _ _ (0, 0) HF.out.box
        have b1 : wr.cell? ⟨w.heap.size + 1, 1, none⟩ = some (.int .u64 (v1 : Int)) := cell_of_row _ _ 1 _ _ (0, 0) HF.out.box
        have b2 : wr.cell? ⟨w.heap.size + 1, 2, none⟩ = some (.int .u64 (v2 : Int)) := cell_of_row _ _ 2 _ _ (0, 0) HF.out.box
        have b3 : wr.cell? ⟨w.heap.size + 1, 3, none⟩ = some (.int .u64 (v3 : Int)) := cell_of_row _ _ 3 _ _ (0, 0) HF.out.box
        have b4 : wr.cell? ⟨w.heap.size + 1, 4, none⟩ = some (.string (S8 v4)) := cell_of_row _ _ 4 _ _ (0, 0) HF.out.box
        have b5 : wr.cell? ⟨w.heap.size + 1, 5, none⟩ = some (.string (S8 v5)) := cell_of_row _ _ 5 _ _ (0, 0) HF.out.box
        have b6 : wr.cell? ⟨w.heap.size + 1, 6, none⟩ = some (.int .i64 (v6 : Int)) := cell_of_row _ _ 6 _ _ (0, 0) HF.out.box
        have b7 : wr.cell? ⟨w.heap.size + 1, 7, none⟩ = some (.int .i64 (v7 : Int)) := cell_of_row _ _ 7 _ _ (0, 0) HF.out.box
        have b8 : wr.cell? ⟨w.heap.size + 1, 8, none⟩ = some (.bool v8) := cell_of_row _ _ 8 _ _ (0, 0) HF.out.box
        have b9' : wr.cell? ⟨w.heap.size + 1, 9, none⟩ = some (.slice A q c) := cell_of_row _ _ 9 _ _ (0, 0) HF.out.box
        have RL : RdL wr wr.heap.size ⟨⟨v0, v1, v2, v3, S8 v4, S8 v5, v6, v7, v8, acc⟩, A, c⟩ := ⟨Rd.of_own HO.out, by have := own_cap HO.out; rw [← HQL.out]; exact this, HOK.out⟩
        have RC := Lib.hid (right_lit v0 v1 v2 v3 (S8 v4) (S8 v5) v6 v7 v8 acc A c q wr.heap.size wr HQL.out RL (Nat.le_refl _))
        clear RL
        cases hri : right ⟨v0, v1, v2, v3, S8 v4, S8 v5, v6, v7, v8, acc⟩
        · rw [hri] at RC HSP
          have HQ : Hid (Rm.span r = (Rm.zero, Rm.fail)) := Lib.hid (by rw [HSP.out, if_neg (by simp)])
          clear hri
          go_wp2_with (first | (go_at_call 96; (with_reducible refine (RC.out).mono ?_); rintro e x1 ⟨rfl, hb⟩; have HF1 := Lib.hid (HF.out.new hb); have FC := Lib.hid (fail_any g B _ x1 HF1.out.rd); clear hb) | (go_at_call 86; (with_reducible refine (FC.out).mono ?_); rintro e x2 ⟨rfl, hr, hg⟩; have HF2 := Lib.hid (HF1.out.call hr hg); have p0 : x2.cell? ⟨w.heap.size, 0, none⟩ = some (.int .u64 0) := cell_of_row _ _ 0 _ _ (0, 0) HF2.out.res; have q0 : x2.frozen? ⟨w.heap.size, 0, none⟩ = false := (by simp [World.frozen?, HF2.out.res]); have p1 : x2.cell? ⟨w.heap.size, 1, none⟩ = some (.int .u64 0) := cell_of_row _ _ 1 _ _ (0, 0) HF2.out.res; have q1 : x2.frozen? ⟨w.heap.size, 1, none⟩ = false := (by simp [World.frozen?, HF2.out.res]); have p2 : x2.cell? ⟨w.heap.size, 2, none⟩ = some (.int .u64 0) := cell_of_row _ _ 2 _ _ (0, 0) HF2.out.res; have q2 : x2.frozen? ⟨w.heap.size, 2, none⟩ = false := (by simp [World.frozen?, HF2.out.res]); have p3 : x2.cell? ⟨w.heap.size, 3, none⟩ = some (.int .u64 0) := cell_of_row _ _ 3 _ _ (0, 0) HF2.out.res; have q3 : x2.frozen? ⟨w.heap.size, 3, none⟩ = false := (by simp [World.frozen?, HF2.out.res]); have p4 : x2.cell? ⟨w.heap.size, 4, none⟩ = some (.string ⟨#[]⟩) := cell_of_row _ _ 4 _ _ (0, 0) HF2.out.res; have q4 : x2.frozen? ⟨w.heap.size, 4, none⟩ = false := (by simp [World.frozen?, HF2.out.res]); have p5 : x2.cell? ⟨w.heap.size, 5, none⟩ = some (.string ⟨#[]⟩) := cell_of_row _ _ 5 _ _ (0, 0) HF2.out.res; have q5 : x2.frozen? ⟨w.heap.size, 5, none⟩ = false := (by simp [World.frozen?, HF2.out.res]); have p6 : x2.cell? ⟨w.heap.size, 6, none⟩ = some (.int .i64 0) := cell_of_row _ _ 6 _ _ (0, 0) HF2.out.res; have q6 : x2.frozen? ⟨w.heap.size, 6, none⟩ = false := (by simp [World.frozen?, HF2.out.res]); have p7 : x2.cell? ⟨w.heap.size, 7, none⟩ = some (.int .i64 0) := cell_of_row _ _ 7 _ _ (0, 0) HF2.out.res; have q7 : x2.frozen? ⟨w.heap.size, 7, none⟩ = false := (by simp [World.frozen?, HF2.out.res]); have p8 : x2.cell? ⟨w.heap.size, 8, none⟩ = some (.bool false) := cell_of_row _ _ 8 _ _ (0, 0) HF2.out.res; have q8 : x2.frozen? ⟨w.heap.size, 8, none⟩ = false := (by simp [World.frozen?, HF2.out.res]); have p9 : x2.cell? ⟨w.heap.size, 9, none⟩ = some (.slice none 0 0) := cell_of_row _ _ 9 _ _ (0, 0) HF2.out.res; have q9 : x2.frozen? ⟨w.heap.size, 9, none⟩ = false := (by simp [World.frozen?, HF2.out.res]); clear hr hg))
          have LR : RSt ((((((((((x2.setCell ⟨w.heap.size, 0, none⟩ (.int .u64 0)).setCell ⟨w.heap.size, 1, none⟩ (.int .u64 0)).setCell ⟨w.heap.size, 2, none⟩ (.int .u64 0)).setCell ⟨w.heap.size, 3, none⟩ (.int .u64 0)).setCell ⟨w.heap.size, 4, none⟩ (.string ⟨#[]⟩)).setCell ⟨w.heap.size, 5, none⟩ (.string ⟨#[]⟩)).setCell ⟨w.heap.size, 6, none⟩ (.int .i64 0)).setCell ⟨w.heap.size, 7, none⟩ (.int .i64 0)).setCell ⟨w.heap.size, 8, none⟩ (.bool false)).setCell ⟨w.heap.size, 9, none⟩ (.slice none 0 0)) B g Rm.fail := by repeat' (first | (with_reducible exact HF2.out.rd) | (refine RSt.set ?_ (by simp; omega) _))
          have LG : w.grownBy ((((((((((x2.setCell ⟨w.heap.size, 0, none⟩ (.int .u64 0)).setCell ⟨w.heap.size, 1, none⟩ (.int .u64 0)).setCell ⟨w.heap.size, 2, none⟩ (.int .u64 0)).setCell ⟨w.heap.size, 3, none⟩ (.int .u64 0)).setCell ⟨w.heap.size, 4, none⟩ (.string ⟨#[]⟩)).setCell ⟨w.heap.size, 5, none⟩ (.string ⟨#[]⟩)).setCell ⟨w.heap.size, 6, none⟩ (.int .i64 0)).setCell ⟨w.heap.size, 7, none⟩ (.int .i64 0)).setCell ⟨w.heap.size, 8, none⟩ (.bool false)).setCell ⟨w.heap.size, 9, none⟩ (.slice none 0 0)) (some g) := by repeat' (first | (with_reducible exact HF2.out.grown) | (refine grown_old ?_ (by simp) _))
          refine bodyPost_ret (v := .agg #[.int .u64 0, .int .u64 0, .int .u64 0, .int .u64 0, .string ⟨#[]⟩, .string ⟨#[]⟩, .int .i64 0, .int .i64 0, .bool false, .slice none 0 0]) (by simp [results, Try.results88, go_sem, p0, p1, p2, p3, p4, p5, p6, p7, p8, p9]) rfl ?_
          rw [HQ.out]
          exact spanOf_no LR LG
        · rw [hri] at RC HSP
          have HQ : Hid (Rm.span r = (⟨v0, v1, v2, v3, S8 v4, S8 v5, v6, v7, v8, acc⟩, (rest, false))) := Lib.hid (by rw [HSP.out, if_pos ⟨rfl, rfl⟩])
          clear hri
          go_wp2_with (go_at_call 96; (with_reducible refine (RC.out).mono ?_); rintro e x1 ⟨rfl, hb⟩; have HF1 := Lib.hid (HF.out.new hb); have HO1 := Lib.hid (own_below HO.out hb); have d0 : x1.cell? ⟨w.heap.size + 1, 0, none⟩ = some (.int .u64 (v0 : Int)) := cell_of_row _ _ 0 _ _ (0, 0) HF1.out.box; have d1 : x1.cell? ⟨w.heap.size + 1, 1, none⟩ = some (.int .u64 (v1 : Int)) := cell_of_row _ _ 1 _ _ (0, 0) HF1.out.box; have d2 : x1.cell? ⟨w.heap.size + 1, 2, none⟩ = some (.int .u64 (v2 : Int)) := cell_of_row _ _ 2 _ _ (0, 0) HF1.out.box; have d3 : x1.cell? ⟨w.heap.size + 1, 3, none⟩ = some (.int .u64 (v3 : Int)) := cell_of_row _ _ 3 _ _ (0, 0) HF1.out.box; have d4 : x1.cell? ⟨w.heap.size + 1, 4, none⟩ = some (.string (S8 v4)) := cell_of_row _ _ 4 _ _ (0, 0) HF1.out.box; have d5 : x1.cell? ⟨w.heap.size + 1, 5, none⟩ = some (.string (S8 v5)) := cell_of_row _ _ 5 _ _ (0, 0) HF1.out.box; have d6 : x1.cell? ⟨w.heap.size + 1, 6, none⟩ = some (.int .i64 (v6 : Int)) := cell_of_row _ _ 6 _ _ (0, 0) HF1.out.box; have d7 : x1.cell? ⟨w.heap.size + 1, 7, none⟩ = some (.int .i64 (v7 : Int)) := cell_of_row _ _ 7 _ _ (0, 0) HF1.out.box; have d8 : x1.cell? ⟨w.heap.size + 1, 8, none⟩ = some (.bool v8) := cell_of_row _ _ 8 _ _ (0, 0) HF1.out.box; have d9 : x1.cell? ⟨w.heap.size + 1, 9, none⟩ = some (.slice A q c) := cell_of_row _ _ 9 _ _ (0, 0) HF1.out.box; have p0 : x1.cell? ⟨w.heap.size, 0, none⟩ = some (.int .u64 0) := cell_of_row _ _ 0 _ _ (0, 0) HF1.out.res; have q0 : x1.frozen? ⟨w.heap.size, 0, none⟩ = false := (by simp [World.frozen?, HF1.out.res]); have p1 : x1.cell? ⟨w.heap.size, 1, none⟩ = some (.int .u64 0) := cell_of_row _ _ 1 _ _ (0, 0) HF1.out.res; have q1 : x1.frozen? ⟨w.heap.size, 1, none⟩ = false := (by simp [World.frozen?, HF1.out.res]); have p2 : x1.cell? ⟨w.heap.size, 2, none⟩ = some (.int .u64 0) := cell_of_row _ _ 2 _ _ (0, 0) HF1.out.res; have q2 : x1.frozen? ⟨w.heap.size, 2, none⟩ = false := (by simp [World.frozen?, HF1.out.res]); have p3 : x1.cell? ⟨w.heap.size, 3, none⟩ = some (.int .u64 0) := cell_of_row _ _ 3 _ _ (0, 0) HF1.out.res; have q3 : x1.frozen? ⟨w.heap.size, 3, none⟩ = false := (by simp [World.frozen?, HF1.out.res]); have p4 : x1.cell? ⟨w.heap.size, 4, none⟩ = some (.string ⟨#[]⟩) := cell_of_row _ _ 4 _ _ (0, 0) HF1.out.res; have q4 : x1.frozen? ⟨w.heap.size, 4, none⟩ = false := (by simp [World.frozen?, HF1.out.res]); have p5 : x1.cell? ⟨w.heap.size, 5, none⟩ = some (.string ⟨#[]⟩) := cell_of_row _ _ 5 _ _ (0, 0) HF1.out.res; have q5 : x1.frozen? ⟨w.heap.size, 5, none⟩ = false := (by simp [World.frozen?, HF1.out.res]); have p6 : x1.cell? ⟨w.heap.size, 6, none⟩ = some (.int .i64 0) := cell_of_row _ _ 6 _ _ (0, 0) HF1.out.res; have q6 : x1.frozen? ⟨w.heap.size, 6, none⟩ = false := (by simp [World.frozen?, HF1.out.res]); have p7 : x1.cell? ⟨w.heap.size, 7, none⟩ = some (.int .i64 0) := cell_of_row _ _ 7 _ _ (0, 0) HF1.out.res; have q7 : x1.frozen? ⟨w.heap.size, 7, none⟩ = false := (by simp [World.frozen?, HF1.out.res]); have p8 : x1.cell? ⟨w.heap.size, 8, none⟩ = some (.bool false) := cell_of_row _ _ 8 _ _ (0, 0) HF1.out.res; have q8 : x1.frozen? ⟨w.heap.size, 8, none⟩ = false := (by simp [World.frozen?, HF1.out.res]); have p9 : x1.cell? ⟨w.heap.size, 9, none⟩ = some (.slice none 0 0) := cell_of_row _ _ 9 _ _ (0, 0) HF1.out.res; have q9 : x1.frozen? ⟨w.heap.size, 9, none⟩ = false := (by simp [World.frozen?, HF1.out.res]); clear hb)
          have LR : RSt ((((((((((x1.setCell ⟨w.heap.size, 0, none⟩ (.int .u64 (v0 : Int))).setCell ⟨w.heap.size, 1, none⟩ (.int .u64 (v1 : Int))).setCell ⟨w.heap.size, 2, none⟩ (.int .u64 (v2 : Int))).setCell ⟨w.heap.size, 3, none⟩ (.int .u64 (v3 : Int))).setCell ⟨w.heap.size, 4, none⟩ (.string (S8 v4))).setCell ⟨w.heap.size, 5, none⟩ (.string (S8 v5))).setCell ⟨w.heap.size, 6, none⟩ (.int .i64 (v6 : Int))).setCell ⟨w.heap.size, 7, none⟩ (.int .i64 (v7 : Int))).setCell ⟨w.heap.size, 8, none⟩ (.bool v8)).setCell ⟨w.heap.size, 9, none⟩ (.slice A q c)) B g (rest, false) := by repeat' (first | (with_reducible exact HF1.out.rd) | (refine RSt.set ?_ (by simp; omega) _))
          have LG : w.grownBy ((((((((((x1.setCell ⟨w.heap.size, 0, none⟩ (.int .u64 (v0 : Int))).setCell ⟨w.heap.size, 1, none⟩ (.int .u64 (v1 : Int))).setCell ⟨w.heap.size, 2, none⟩ (.int .u64 (v2 : Int))).setCell ⟨w.heap.size, 3, none⟩ (.int .u64 (v3 : Int))).setCell ⟨w.heap.size, 4, none⟩ (.string (S8 v4))).setCell ⟨w.heap.size, 5, none⟩ (.string (S8 v5))).setCell ⟨w.heap.size, 6, none⟩ (.int .i64 (v6 : Int))).setCell ⟨w.heap.size, 7, none⟩ (.int .i64 (v7 : Int))).setCell ⟨w.heap.size, 8, none⟩ (.bool v8)).setCell ⟨w.heap.size, 9, none⟩ (.slice A q c)) (some g) := by repeat' (first | (with_reducible exact HF1.out.grown) | (refine grown_old ?_ (by simp) _))
          have LO : ((((((((((x1.setCell ⟨w.heap.size, 0, none⟩ (.int .u64 (v0 : Int))).setCell ⟨w.heap.size, 1, none⟩ (.int .u64 (v1 : Int))).setCell ⟨w.heap.size, 2, none⟩ (.int .u64 (v2 : Int))).setCell ⟨w.heap.size, 3, none⟩ (.int .u64 (v3 : Int))).setCell ⟨w.heap.size, 4, none⟩ (.string (S8 v4))).setCell ⟨w.heap.size, 5, none⟩ (.string (S8 v5))).setCell ⟨w.heap.size, 6, none⟩ (.int .i64 (v6 : Int))).setCell ⟨w.heap.size, 7, none⟩ (.int .i64 (v7 : Int))).setCell ⟨w.heap.size, 8, none⟩ (.bool v8)).setCell ⟨w.heap.size, 9, none⟩ (.slice A q c)).ownsRow (w.heap.size + 2) 132 2 (.slice A q c) q (acc.flatMap atC) := by repeat' (first | (with_reducible exact HO1.out) | (refine own_far ?_ (by simp) _))
          refine bodyPost_ret (v := .agg #[.int .u64 (v0 : Int), .int .u64 (v1 : Int), .int .u64 (v2 : Int), .int .u64 (v3 : Int), .string (S8 v4), .string (S8 v5), .int .i64 (v6 : Int), .int .i64 (v7 : Int), .bool v8, .slice A q c]) (by simp [results, Try.results88, go_sem, p0, p1, p2, p3, p4, p5, p6, p7, p8, p9]) rfl ?_
          rw [HQ.out]
          exact spanOf_mk ⟨v0, v1, v2, v3, S8 v4, S8 v5, v6, v7, v8, acc⟩ A c q HQL.out (own_mono LO (by omega)) HOK.out LR LG
      · clear hm hqf
        have HQ : Hid (Rm.span r = (Rm.zero, Rm.fail)) := Lib.hid (by rw [HSP.out, if_neg (by simp)])
        have FC := Lib.hid (fail_any g B _ wr HF.out.rd)
        go_wp2_with (go_at_call 86; (with_reducible refine (FC.out).mono ?_); rintro e x2 ⟨rfl, hr, hg⟩; have HF2 := Lib.hid (HF.out.call hr hg); have p0 : x2.cell? ⟨w.heap.size, 0, none⟩ = some (.int .u64 0) := cell_of_row _ _ 0 _ _ (0, 0) HF2.out.res; have q0 : x2.frozen? ⟨w.heap.size, 0, none⟩ = false := (by simp [World.frozen?, HF2.out.res]); have p1 : x2.cell? ⟨w.heap.size, 1, none⟩ = some (.int .u64 0) := cell_of_row _ _ 1 _ _ (0, 0) HF2.out.res; have q1 : x2.frozen? ⟨w.heap.size, 1, none⟩ = false := (by simp [World.frozen?, HF2.out.res]); have p2 : x2.cell? ⟨w.heap.size, 2, none⟩ = some (.int .u64 0) := cell_of_row _ _ 2 _ _ (0, 0) HF2.out.res; have q2 : x2.frozen? ⟨w.heap.size, 2, none⟩ = false := (by simp [World.frozen?, HF2.out.res]); have p3 : x2.cell? ⟨w.heap.size, 3, none⟩ = some (.int .u64 0) := cell_of_row _ _ 3 _ _ (0, 0) HF2.out.res; have q3 : x2.frozen? ⟨w.heap.size, 3, none⟩ = false := (by simp [World.frozen?, HF2.out.res]); have p4 : x2.cell? ⟨w.heap.size, 4, none⟩ = some (.string ⟨#[]⟩) := cell_of_row _ _ 4 _ _ (0, 0) HF2.out.res; have q4 : x2.frozen? ⟨w.heap.size, 4, none⟩ = false := (by simp [World.frozen?, HF2.out.res]); have p5 : x2.cell? ⟨w.heap.size, 5, none⟩ = some (.string ⟨#[]⟩) := cell_of_row _ _ 5 _ _ (0, 0) HF2.out.res; have q5 : x2.frozen? ⟨w.heap.size, 5, none⟩ = false := (by simp [World.frozen?, HF2.out.res]); have p6 : x2.cell? ⟨w.heap.size, 6, none⟩ = some (.int .i64 0) := cell_of_row _ _ 6 _ _ (0, 0) HF2.out.res; have q6 : x2.frozen? ⟨w.heap.size, 6, none⟩ = false := (by simp [World.frozen?, HF2.out.res]); have p7 : x2.cell? ⟨w.heap.size, 7, none⟩ = some (.int .i64 0) := cell_of_row _ _ 7 _ _ (0, 0) HF2.out.res; have q7 : x2.frozen? ⟨w.heap.size, 7, none⟩ = false := (by simp [World.frozen?, HF2.out.res]); have p8 : x2.cell? ⟨w.heap.size, 8, none⟩ = some (.bool false) := cell_of_row _ _ 8 _ _ (0, 0) HF2.out.res; have q8 : x2.frozen? ⟨w.heap.size, 8, none⟩ = false := (by simp [World.frozen?, HF2.out.res]); have p9 : x2.cell? ⟨w.heap.size, 9, none⟩ = some (.slice none 0 0) := cell_of_row _ _ 9 _ _ (0, 0) HF2.out.res; have q9 : x2.frozen? ⟨w.heap.size, 9, none⟩ = false := (by simp [World.frozen?, HF2.out.res]); clear hr hg)
        have LR : RSt ((((((((((x2.setCell ⟨w.heap.size, 0, none⟩ (.int .u64 0)).setCell ⟨w.heap.size, 1, none⟩ (.int .u64 0)).setCell ⟨w.heap.size, 2, none⟩ (.int .u64 0)).setCell ⟨w.heap.size, 3, none⟩ (.int .u64 0)).setCell ⟨w.heap.size, 4, none⟩ (.string ⟨#[]⟩)).setCell ⟨w.heap.size, 5, none⟩ (.string ⟨#[]⟩)).setCell ⟨w.heap.size, 6, none⟩ (.int .i64 0)).setCell ⟨w.heap.size, 7, none⟩ (.int .i64 0)).setCell ⟨w.heap.size, 8, none⟩ (.bool false)).setCell ⟨w.heap.size, 9, none⟩ (.slice none 0 0)) B g Rm.fail := by repeat' (first | (with_reducible exact HF2.out.rd) | (refine RSt.set ?_ (by simp; omega) _))
        have LG : w.grownBy ((((((((((x2.setCell ⟨w.heap.size, 0, none⟩ (.int .u64 0)).setCell ⟨w.heap.size, 1, none⟩ (.int .u64 0)).setCell ⟨w.heap.size, 2, none⟩ (.int .u64 0)).setCell ⟨w.heap.size, 3, none⟩ (.int .u64 0)).setCell ⟨w.heap.size, 4, none⟩ (.string ⟨#[]⟩)).setCell ⟨w.heap.size, 5, none⟩ (.string ⟨#[]⟩)).setCell ⟨w.heap.size, 6, none⟩ (.int .i64 0)).setCell ⟨w.heap.size, 7, none⟩ (.int .i64 0)).setCell ⟨w.heap.size, 8, none⟩ (.bool false)).setCell ⟨w.heap.size, 9, none⟩ (.slice none 0 0)) (some g) := by repeat' (first | (with_reducible exact HF2.out.grown) | (refine grown_old ?_ (by simp) _))
        refine bodyPost_ret (v := .agg #[.int .u64 0, .int .u64 0, .int .u64 0, .int .u64 0, .string ⟨#[]⟩, .string ⟨#[]⟩, .int .i64 0, .int .i64 0, .bool false, .slice none 0 0]) (by simp [results, Try.results88, go_sem, p0, p1, p2, p3, p4, p5, p6, p7, p8, p9]) rfl ?_
        rw [HQ.out]
        exact spanOf_no LR LG
      · have hd1 : decide ((0 : Int) < (m : Int)) = true := decide_eq_true (by omega)
        have HQ : Hid (Rm.span r = (Rm.zero, Rm.fail)) := Lib.hid (by rw [HSP.out, if_neg (by simp)])
        have FC := Lib.hid (fail_any g B _ wr HF.out.rd)
        go_wp2_with (go_at_call 86; (with_reducible refine (FC.out).mono ?_); rintro e x2 ⟨rfl, hr, hg⟩; have HF2 := Lib.hid (HF.out.call hr hg); have p0 : x2.cell? ⟨w.heap.size, 0, none⟩ = some (.int .u64 0) := cell_of_row _ _ 0 _ _ (0, 0) HF2.out.res; have q0 : x2.frozen? ⟨w.heap.size, 0, none⟩ = false := (by simp [World.frozen?, HF2.out.res]); have p1 : x2.cell? ⟨w.heap.size, 1, none⟩ = some (.int .u64 0) := cell_of_row _ _ 1 _ _ (0, 0) HF2.out.res; have q1 : x2.frozen? ⟨w.heap.size, 1, none⟩ = false := (by simp [World.frozen?, HF2.out.res]); have p2 : x2.cell? ⟨w.heap.size, 2, none⟩ = some (.int .u64 0) := cell_of_row _ _ 2 _ _ (0, 0) HF2.out.res; have q2 : x2.frozen? ⟨w.heap.size, 2, none⟩ = false := (by simp [World.frozen?, HF2.out.res]); have p3 : x2.cell? ⟨w.heap.size, 3, none⟩ = some (.int .u64 0) := cell_of_row _ _ 3 _ _ (0, 0) HF2.out.res; have q3 : x2.frozen? ⟨w.heap.size, 3, none⟩ = false := (by simp [World.frozen?, HF2.out.res]); have p4 : x2.cell? ⟨w.heap.size, 4, none⟩ = some (.string ⟨#[]⟩) := cell_of_row _ _ 4 _ _ (0, 0) HF2.out.res; have q4 : x2.frozen? ⟨w.heap.size, 4, none⟩ = false := (by simp [World.frozen?, HF2.out.res]); have p5 : x2.cell? ⟨w.heap.size, 5, none⟩ = some (.string ⟨#[]⟩) := cell_of_row _ _ 5 _ _ (0, 0) HF2.out.res; have q5 : x2.frozen? ⟨w.heap.size, 5, none⟩ = false := (by simp [World.frozen?, HF2.out.res]); have p6 : x2.cell? ⟨w.heap.size, 6, none⟩ = some (.int .i64 0) := cell_of_row _ _ 6 _ _ (0, 0) HF2.out.res; have q6 : x2.frozen? ⟨w.heap.size, 6, none⟩ = false := (by simp [World.frozen?, HF2.out.res]); have p7 : x2.cell? ⟨w.heap.size, 7, none⟩ = some (.int .i64 0) := cell_of_row _ _ 7 _ _ (0, 0) HF2.out.res; have q7 : x2.frozen? ⟨w.heap.size, 7, none⟩ = false := (by simp [World.frozen?, HF2.out.res]); have p8 : x2.cell? ⟨w.heap.size, 8, none⟩ = some (.bool false) := cell_of_row _ _ 8 _ _ (0, 0) HF2.out.res; have q8 : x2.frozen? ⟨w.heap.size, 8, none⟩ = false := (by simp [World.frozen?, HF2.out.res]); have p9 : x2.cell? ⟨w.heap.size, 9, none⟩ = some (.slice none 0 0) := cell_of_row _ _ 9 _ _ (0, 0) HF2.out.res; have q9 : x2.frozen? ⟨w.heap.size, 9, none⟩ = false := (by simp [World.frozen?, HF2.out.res]); clear hr hg)
        have LR : RSt ((((((((((x2.setCell ⟨w.heap.size, 0, none⟩ (.int .u64 0)).setCell ⟨w.heap.size, 1, none⟩ (.int .u64 0)).setCell ⟨w.heap.size, 2, none⟩ (.int .u64 0)).setCell ⟨w.heap.size, 3, none⟩ (.int .u64 0)).setCell ⟨w.heap.size, 4, none⟩ (.string ⟨#[]⟩)).setCell ⟨w.heap.size, 5, none⟩ (.string ⟨#[]⟩)).setCell ⟨w.heap.size, 6, none⟩ (.int .i64 0)).setCell ⟨w.heap.size, 7, none⟩ (.int .i64 0)).setCell ⟨w.heap.size, 8, none⟩ (.bool false)).setCell ⟨w.heap.size, 9, none⟩ (.slice none 0 0)) B g Rm.fail := by repeat' (first | (with_reducible exact HF2.out.rd) | (refine RSt.set ?_ (by simp; omega) _))
        have LG : w.grownBy ((((((((((x2.setCell ⟨w.heap.size, 0, none⟩ (.int .u64 0)).setCell ⟨w.heap.size, 1, none⟩ (.int .u64 0)).setCell ⟨w.heap.size, 2, none⟩ (.int .u64 0)).setCell ⟨w.heap.size, 3, none⟩ (.int .u64 0)).setCell ⟨w.heap.size, 4, none⟩ (.string ⟨#[]⟩)).setCell ⟨w.heap.size, 5, none⟩ (.string ⟨#[]⟩)).setCell ⟨w.heap.size, 6, none⟩ (.int .i64 0)).setCell ⟨w.heap.size, 7, none⟩ (.int .i64 0)).setCell ⟨w.heap.size, 8, none⟩ (.bool false)).setCell ⟨w.heap.size, 9, none⟩ (.slice none 0 0)) (some g) := by repeat' (first | (with_reducible exact HF2.out.grown) | (refine grown_old ?_ (by simp) _))
        refine bodyPost_ret (v := .agg #[.int .u64 0, .int .u64 0, .int .u64 0, .int .u64 0, .string ⟨#[]⟩, .string ⟨#[]⟩, .int .i64 0, .int .i64 0, .bool false, .slice none 0 0]) (by simp [results, Try.results88, go_sem, p0, p1, p2, p3, p4, p5, p6, p7, p8, p9]) rfl ?_
        rw [HQ.out]
        exact spanOf_no LR LG
      · have hd1 : decide ((0 : Int) < (m : Int)) = true := decide_eq_true (by omega)
        have HQL' := HQL
        have b0 : wr.cell? ⟨w.heap.size + 1, 0, none⟩ = some (.int .u64 (v0 : Int)) := cell_of_row _ _ 0 _ _ (0, 0) HF.out.box
        have b1 : wr.cell? ⟨w.heap.size + 1, 1, none⟩ = some (.int .u64 (v1 : Int)) := cell_of_row _ _ 1 _ _ (0, 0) HF.out.box
        have b2 : wr.cell? ⟨w.heap.size + 1, 2, none⟩ = some (.int .u64 (v2 : Int)) := cell_of_row _ _ 2 _ _ (0, 0) HF.out.box
        have b3 : wr.cell? ⟨w.heap.size + 1, 3, none⟩ = some (.int .u64 (v3 : Int)) := cell_of_row _ _ 3 _ _ (0, 0) HF.out.box
        have b4 : wr.cell? ⟨w.heap.size + 1, 4, none⟩ = some (.string (S8 v4)) := cell_of_row _ _ 4 _ _ (0, 0) HF.out.box
        have b5 : wr.cell? ⟨w.heap.size + 1, 5, none⟩ = some (.string (S8 v5)) := cell_of_row _ _ 5 _ _ (0, 0) HF.out.box
        have b6 : wr.cell? ⟨w.heap.size + 1, 6, none⟩ = some (.int .i64 (v6 : Int)) := cell_of_row _ _ 6 _ _ (0, 0) HF.out.box
        have b7 : wr.cell? ⟨w.heap.size + 1, 7, none⟩ = some (.int .i64 (v7 : Int)) := cell_of_row _ _ 7 _ _ (0, 0) HF.out.box
        have b8 : wr.cell? ⟨w.heap.size + 1, 8, none⟩ = some (.bool v8) := cell_of_row _ _ 8 _ _ (0, 0) HF.out.box
        have b9' : wr.cell? ⟨w.heap.size + 1, 9, none⟩ = some (.slice A 5 c) := cell_of_row _ _ 9 _ _ (0, 0) HF.out.box
        have RL : RdL wr wr.heap.size ⟨⟨v0, v1, v2, v3, S8 v4, S8 v5, v6, v7, v8, acc⟩, A, c⟩ := ⟨Rd.of_own HO.out, by have := own_cap HO.out; rw [← HQL.out]; exact this, HOK.out⟩
        have RC := Lib.hid (right_lit v0 v1 v2 v3 (S8 v4) (S8 v5) v6 v7 v8 acc A c 5 wr.heap.size wr HQL.out RL (Nat.le_refl _))
        clear RL
        cases hri : right ⟨v0, v1, v2, v3, S8 v4, S8 v5, v6, v7, v8, acc⟩
        · rw [hri] at RC HSP
          have HQ : Hid (Rm.span r = (Rm.zero, Rm.fail)) := Lib.hid (by rw [HSP.out, if_neg (by simp)])
          clear hri
          go_wp2_with (first | (go_at_call 96; (with_reducible refine (RC.out).mono ?_); rintro e x1 ⟨rfl, hb⟩; have HF1 := Lib.hid (HF.out.new hb); have FC := Lib.hid (fail_any g B _ x1 HF1.out.rd); clear hb) | (go_at_call 86; (with_reducible refine (FC.out).mono ?_); rintro e x2 ⟨rfl, hr, hg⟩; have HF2 := Lib.hid (HF1.out.call hr hg); have p0 : x2.cell? ⟨w.heap.size, 0, none⟩ = some (.int .u64 0) := cell_of_row _ _ 0 _ _ (0, 0) HF2.out.res; have q0 : x2.frozen? ⟨w.heap.size, 0, none⟩ = false := (by simp [World.frozen?, HF2.out.res]); have p1 : x2.cell? ⟨w.heap.size, 1, none⟩ = some (.int .u64 0) := cell_of_row _ _ 1 _ _ (0, 0) HF2.out.res; have q1 : x2.frozen? ⟨w.heap.size, 1, none⟩ = false := (by simp [World.frozen?, HF2.out.res]); have p2 : x2.cell? ⟨w.heap.size, 2, none⟩ = some (.int .u64 0) := cell_of_row _ _ 2 _ _ (0, 0) HF2.out.res; have q2 : x2.frozen? ⟨w.heap.size, 2, none⟩ = false := (by simp [World.frozen?, HF2.out.res]); have p3 : x2.cell? ⟨w.heap.size, 3, none⟩ = some (.int .u64 0) := cell_of_row _ _ 3 _ _ (0, 0) HF2.out.res; have q3 : x2.frozen? ⟨w.heap.size, 3, none⟩ = false := (by simp [World.frozen?, HF2.out.res]); have p4 : x2.cell? ⟨w.heap.size, 4, none⟩ = some (.string ⟨#[]⟩) := cell_of_row _ _ 4 _ _ (0, 0) HF2.out.res; have q4 : x2.frozen? ⟨w.heap.size, 4, none⟩ = false := (by simp [World.frozen?, HF2.out.res]); have p5 : x2.cell? ⟨w.heap.size, 5, none⟩ = some (.string ⟨#[]⟩) := cell_of_row _ _ 5 _ _ (0, 0) HF2.out.res; have q5 : x2.frozen? ⟨w.heap.size, 5, none⟩ = false := (by simp [World.frozen?, HF2.out.res]); have p6 : x2.cell? ⟨w.heap.size, 6, none⟩ = some (.int .i64 0) := cell_of_row _ _ 6 _ _ (0, 0) HF2.out.res; have q6 : x2.frozen? ⟨w.heap.size, 6, none⟩ = false := (by simp [World.frozen?, HF2.out.res]); have p7 : x2.cell? ⟨w.heap.size, 7, none⟩ = some (.int .i64 0) := cell_of_row _ _ 7 _ _ (0, 0) HF2.out.res; have q7 : x2.frozen? ⟨w.heap.size, 7, none⟩ = false := (by simp [World.frozen?, HF2.out.res]); have p8 : x2.cell? ⟨w.heap.size, 8, none⟩ = some (.bool false) := cell_of_row _ _ 8 _ _ (0, 0) HF2.out.res; have q8 : x2.frozen? ⟨w.heap.size, 8, none⟩ = false := (by simp [World.frozen?, HF2.out.res]); have p9 : x2.cell? ⟨w.heap.size, 9, none⟩ = some (.slice none 0 0) := cell_of_row _ _ 9 _ _ (0, 0) HF2.out.res; have q9 : x2.frozen? ⟨w.heap.size, 9, none⟩ = false := (by simp [World.frozen?, HF2.out.res]); clear hr hg))
          have LR : RSt ((((((((((x2.setCell ⟨w.heap.size, 0, none⟩ (.int .u64 0)).setCell ⟨w.heap.size, 1, none⟩ (.int .u64 0)).setCell ⟨w.heap.size, 2, none⟩ (.int .u64 0)).setCell ⟨w.heap.size, 3, none⟩ (.int .u64 0)).setCell ⟨w.heap.size, 4, none⟩ (.string ⟨#[]⟩)).setCell ⟨w.heap.size, 5, none⟩ (.string ⟨#[]⟩)).setCell ⟨w.heap.size, 6, none⟩ (.int .i64 0)).setCell ⟨w.heap.size, 7, none⟩ (.int .i64 0)).setCell ⟨w.heap.size, 8, none⟩ (.bool false)).setCell ⟨w.heap.size, 9, none⟩ (.slice none 0 0)) B g Rm.fail := by repeat' (first | (with_reducible exact HF2.out.rd) | (refine RSt.set ?_ (by simp; omega) _))
          have LG : w.grownBy ((((((((((x2.setCell ⟨w.heap.size, 0, none⟩ (.int .u64 0)).setCell ⟨w.heap.size, 1, none⟩ (.int .u64 0)).setCell ⟨w.heap.size, 2, none⟩ (.int .u64 0)).setCell ⟨w.heap.size, 3, none⟩ (.int .u64 0)).setCell ⟨w.heap.size, 4, none⟩ (.string ⟨#[]⟩)).setCell ⟨w.heap.size, 5, none⟩ (.string ⟨#[]⟩)).setCell ⟨w.heap.size, 6, none⟩ (.int .i64 0)).setCell ⟨w.heap.size, 7, none⟩ (.int .i64 0)).setCell ⟨w.heap.size, 8, none⟩ (.bool false)).setCell ⟨w.heap.size, 9, none⟩ (.slice none 0 0)) (some g) := by repeat' (first | (with_reducible exact HF2.out.grown) | (refine grown_old ?_ (by simp) _))
          refine bodyPost_ret (v := .agg #[.int .u64 0, .int .u64 0, .int .u64 0, .int .u64 0, .string ⟨#[]⟩, .string ⟨#[]⟩, .int .i64 0, .int .i64 0, .bool false, .slice none 0 0]) (by simp [results, Try.results88, go_sem, p0, p1, p2, p3, p4, p5, p6, p7, p8, p9]) rfl ?_
          rw [HQ.out]
          exact spanOf_no LR LG
        · rw [hri] at RC HSP
          have HQ : Hid (Rm.span r = (⟨v0, v1, v2, v3, S8 v4, S8 v5, v6, v7, v8, acc⟩, (rest, false))) := Lib.hid (by rw [HSP.out, if_pos ⟨rfl, rfl⟩])
          clear hri
          go_wp2_with (go_at_call 96; (with_reducible refine (RC.out).mono ?_); rintro e x1 ⟨rfl, hb⟩; have HF1 := Lib.hid (HF.out.new hb); have HO1 := Lib.hid (own_below HO.out hb); have d0 : x1.cell? ⟨w.heap.size + 1, 0, none⟩ = some (.int .u64 (v0 : Int)) := cell_of_row _ _ 0 _ _ (0, 0) HF1.out.box; have d1 : x1.cell? ⟨w.heap.size + 1, 1, none⟩ = some (.int .u64 (v1 : Int)) := cell_of_row _ _ 1 _ _ (0, 0) HF1.out.box; have d2 : x1.cell? ⟨w.heap.size + 1, 2, none⟩ = some (.int .u64 (v2 : Int)) := cell_of_row _ _ 2 _ _ (0, 0) HF1.out.box; have d3 : x1.cell? ⟨w.heap.size + 1, 3, none⟩ = some (.int .u64 (v3 : Int)) := cell_of_row _ _ 3 _ _ (0, 0) HF1.out.box; have d4 : x1.cell? ⟨w.heap.size + 1, 4, none⟩ = some (.string (S8 v4)) := cell_of_row _ _ 4 _ _ (0, 0) HF1.out.box; have d5 : x1.cell? ⟨w.heap.size + 1, 5, none⟩ = some (.string (S8 v5)) := cell_of_row _ _ 5 _ _ (0, 0) HF1.out.box; have d6 : x1.cell? ⟨w.heap.size + 1, 6, none⟩ = some (.int .i64 (v6 : Int)) := cell_of_row _ _ 6 _ _ (0, 0) HF1.out.box; have d7 : x1.cell? ⟨w.heap.size + 1, 7, none⟩ = some (.int .i64 (v7 : Int)) := cell_of_row _ _ 7 _ _ (0, 0) HF1.out.box; have d8 : x1.cell? ⟨w.heap.size + 1, 8, none⟩ = some (.bool v8) := cell_of_row _ _ 8 _ _ (0, 0) HF1.out.box; have d9 : x1.cell? ⟨w.heap.size + 1, 9, none⟩ = some (.slice A 5 c) := cell_of_row _ _ 9 _ _ (0, 0) HF1.out.box; have p0 : x1.cell? ⟨w.heap.size, 0, none⟩ = some (.int .u64 0) := cell_of_row _ _ 0 _ _ (0, 0) HF1.out.res; have q0 : x1.frozen? ⟨w.heap.size, 0, none⟩ = false := (by simp [World.frozen?, HF1.out.res]); have p1 : x1.cell? ⟨w.heap.size, 1, none⟩ = some (.int .u64 0) := cell_of_row _ _ 1 _ _ (0, 0) HF1.out.res; have q1 : x1.frozen? ⟨w.heap.size, 1, none⟩ = false := (by simp [World.frozen?, HF1.out.res]); have p2 : x1.cell? ⟨w.heap.size, 2, none⟩ = some (.int .u64 0) := cell_of_row _ _ 2 _ _ (0, 0) HF1.out.res; have q2 : x1.frozen? ⟨w.heap.size, 2, none⟩ = false := (by simp [World.frozen?, HF1.out.res]); have p3 : x1.cell? ⟨w.heap.size, 3, none⟩ = some (.int .u64 0) := cell_of_row _ _ 3 _ _ (0, 0) HF1.out.res; have q3 : x1.frozen? ⟨w.heap.size, 3, none⟩ = false := (by simp [World.frozen?, HF1.out.res]); have p4 : x1.cell? ⟨w.heap.size, 4, none⟩ = some (.string ⟨#[]⟩) := cell_of_row _ _ 4 _ _ (0, 0) HF1.out.res; have q4 : x1.frozen? ⟨w.heap.size, 4, none⟩ = false := (by simp [World.frozen?, HF1.out.res]); have p5 : x1.cell? ⟨w.heap.size, 5, none⟩ = some (.string ⟨#[]⟩) := cell_of_row _ _ 5 _ _ (0, 0) HF1.out.res; have q5 : x1.frozen? ⟨w.heap.size, 5, none⟩ = false := (by simp [World.frozen?, HF1.out.res]); have p6 : x1.cell? ⟨w.heap.size, 6, none⟩ = some (.int .i64 0) := cell_of_row _ _ 6 _ _ (0, 0) HF1.out.res; have q6 : x1.frozen? ⟨w.heap.size, 6, none⟩ = false := (by simp [World.frozen?, HF1.out.res]); have p7 : x1.cell? ⟨w.heap.size, 7, none⟩ = some (.int .i64 0) := cell_of_row _ _ 7 _ _ (0, 0) HF1.out.res; have q7 : x1.frozen? ⟨w.heap.size, 7, none⟩ = false := (by simp [World.frozen?, HF1.out.res]); have p8 : x1.cell? ⟨w.heap.size, 8, none⟩ = some (.bool false) := cell_of_row _ _ 8 _ _ (0, 0) HF1.out.res; have q8 : x1.frozen? ⟨w.heap.size, 8, none⟩ = false := (by simp [World.frozen?, HF1.out.res]); have p9 : x1.cell? ⟨w.heap.size, 9, none⟩ = some (.slice none 0 0) := cell_of_row _ _ 9 _ _ (0, 0) HF1.out.res; have q9 : x1.frozen? ⟨w.heap.size, 9, none⟩ = false := (by simp [World.frozen?, HF1.out.res]); clear hb)
          have LR : RSt ((((((((((x1.setCell ⟨w.heap.size, 0, none⟩ (.int .u64 (v0 : Int))).setCell ⟨w.heap.size, 1, none⟩ (.int .u64 (v1 : Int))).setCell ⟨w.heap.size, 2, none⟩ (.int .u64 (v2 : Int))).setCell ⟨w.heap.size, 3, none⟩ (.int .u64 (v3 : Int))).setCell ⟨w.heap.size, 4, none⟩ (.string (S8 v4))).setCell ⟨w.heap.size, 5, none⟩ (.string (S8 v5))).setCell ⟨w.heap.size, 6, none⟩ (.int .i64 (v6 : Int))).setCell ⟨w.heap.size, 7, none⟩ (.int .i64 (v7 : Int))).setCell ⟨w.heap.size, 8, none⟩ (.bool v8)).setCell ⟨w.heap.size, 9, none⟩ (.slice A 5 c)) B g (rest, false) := by repeat' (first | (with_reducible exact HF1.out.rd) | (refine RSt.set ?_ (by simp; omega) _))
          have LG : w.grownBy ((((((((((x1.setCell ⟨w.heap.size, 0, none⟩ (.int .u64 (v0 : Int))).setCell ⟨w.heap.size, 1, none⟩ (.int .u64 (v1 : Int))).setCell ⟨w.heap.size, 2, none⟩ (.int .u64 (v2 : Int))).setCell ⟨w.heap.size, 3, none⟩ (.int .u64 (v3 : Int))).setCell ⟨w.heap.size, 4, none⟩ (.string (S8 v4))).setCell ⟨w.heap.size, 5, none⟩ (.string (S8 v5))).setCell ⟨w.heap.size, 6, none⟩ (.int .i64 (v6 : Int))).setCell ⟨w.heap.size, 7, none⟩ (.int .i64 (v7 : Int))).setCell ⟨w.heap.size, 8, none⟩ (.bool v8)).setCell ⟨w.heap.size, 9, none⟩ (.slice A 5 c)) (some g) := by repeat' (first | (with_reducible exact HF1.out.grown) | (refine grown_old ?_ (by simp) _))
          have LO : ((((((((((x1.setCell ⟨w.heap.size, 0, none⟩ (.int .u64 (v0 : Int))).setCell ⟨w.heap.size, 1, none⟩ (.int .u64 (v1 : Int))).setCell ⟨w.heap.size, 2, none⟩ (.int .u64 (v2 : Int))).setCell ⟨w.heap.size, 3, none⟩ (.int .u64 (v3 : Int))).setCell ⟨w.heap.size, 4, none⟩ (.string (S8 v4))).setCell ⟨w.heap.size, 5, none⟩ (.string (S8 v5))).setCell ⟨w.heap.size, 6, none⟩ (.int .i64 (v6 : Int))).setCell ⟨w.heap.size, 7, none⟩ (.int .i64 (v7 : Int))).setCell ⟨w.heap.size, 8, none⟩ (.bool v8)).setCell ⟨w.heap.size, 9, none⟩ (.slice A 5 c)).ownsRow (w.heap.size + 2) 132 2 (.slice A 5 c) 5 (acc.flatMap atC) := by repeat' (first | (with_reducible exact HO1.out) | (refine own_far ?_ (by simp) _))
          refine bodyPost_ret (v := .agg #[.int .u64 (v0 : Int), .int .u64 (v1 : Int), .int .u64 (v2 : Int), .int .u64 (v3 : Int), .string (S8 v4), .string (S8 v5), .int .i64 (v6 : Int), .int .i64 (v7 : Int), .bool v8, .slice A 5 c]) (by simp [results, Try.results88, go_sem, p0, p1, p2, p3, p4, p5, p6, p7, p8, p9]) rfl ?_
          rw [HQ.out]
          exact spanOf_mk ⟨v0, v1, v2, v3, S8 v4, S8 v5, v6, v7, v8, acc⟩ A c 5 HQL.out (own_mono LO (by omega)) HOK.out LR LG
end Go.Proofs.Ytchcjbapbdfhkaa
