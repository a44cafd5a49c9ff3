/- Has one of the spans all that a query asks for? -/
import Derived.Test.YtmldelgbmadegaaBre
namespace Go.Proofs.Ytmldelgbmadegaa
open Go.RowKit
set_option linter.unusedVariables false
set_option linter.unusedSimpArgs false
set_option maxRecDepth 100000

def Qm.cells (q : Qm) : List Value := [.string q.sv, .string q.op, .string q.ky, .string q.vl, .int .i64 q.du, .bool q.er]
theorem match_any (q : Qm) (x : Ls) (B : Nat) (w : World) (hy : RdL w B x) (hB : B ≤ w.heap.size) (hl : x.s.ats.length ≤ 100000) :
    Calls Try.prog 44 #[.agg q.cells.toArray, .agg x.cells.toArray] w fun e w' => e = .returned (.bool (q.mt x.s)) ∧ Below w.heap.size w w' := by
  obtain ⟨sv, op, ky, vl, du, er⟩ := q
  obtain ⟨⟨hi, lo, id, pa, xs, xo, st, xd, xe, ats⟩, aA, ac⟩ := x
  exact match_lit sv op ky vl du er hi lo id pa xs xo st xd xe ats aA ats.length ac B w rfl hy.rd hB hl
set_option maxHeartbeats 4000000 in
theorem clos_any (q : Qm) (x : Ls) (B p : Nat) (w : World) (hy : RdL w B x) (hB : B ≤ w.heap.size) (hl : x.s.ats.length ≤ 100000) (hq : w.heap[p]? = some (.cells q.cells.toArray 68)) :
    Calls Try.prog 112 #[.agg x.cells.toArray, .pointer (some ⟨p, 0, none⟩)] w fun e w' => e = .returned (.bool (q.mt x.s)) ∧ Below w.heap.size w w' := by
  have hp := in_heap hq
  have HM := Lib.hid (fun V (hV : Below w.heap.size w V) => match_any q x B V ⟨hy.rd.below (hV.mono hB), hy.cap, hy.ok⟩ (Nat.le_trans hB hV.size) hl)
  generalize q.mt x.s = b at *
  obtain ⟨sv, op, ky, vl, du, er⟩ := q
  obtain ⟨⟨hi, lo, id, pa, xs, xo, st, xd, xe, ats⟩, aA, ac⟩ := x
  simp only [Ls.cells, Qm.cells] at *
  generalize ats.length = m at *
  have hb0 := (Below.refl w.heap.size w).alloc (Nat.le_refl _) (.cells #[.int .u64 hi, .int .u64 lo, .int .u64 id, .int .u64 pa, .string xs, .string xo, .int .i64 st, .int .i64 xd, .bool xe, .slice aA m ac] 71)
  have q1 := heap_alloc_new w (.cells #[.int .u64 hi, .int .u64 lo, .int .u64 id, .int .u64 pa, .string xs, .string xo, .int .i64 st, .int .i64 xd, .bool xe, .slice aA m ac] 71)
  have q0 := (hb0.block p hp).trans hq
  have HB0 := Lib.hid hb0
  clear hy hl hq hb0
  go_enter Try.func112, Try.ntmps112
  go_upto_region 1 with fail
  generalize w.alloc (.cells #[.int .u64 hi, .int .u64 lo, .int .u64 id, .int .u64 pa, .string xs, .string xo, .int .i64 st, .int .i64 xd, .bool xe, .slice aA m ac] 71) = W at *
  have c0 : W.cell? ⟨p, 0, none⟩ = some (.string sv) := cell_of_row _ _ 0 _ _ (0, 0) q0
  have c1 : W.cell? ⟨p, 1, none⟩ = some (.string op) := cell_of_row _ _ 1 _ _ (0, 0) q0
  have c2 : W.cell? ⟨p, 2, none⟩ = some (.string ky) := cell_of_row _ _ 2 _ _ (0, 0) q0
  have c3 : W.cell? ⟨p, 3, none⟩ = some (.string vl) := cell_of_row _ _ 3 _ _ (0, 0) q0
  have c4 : W.cell? ⟨p, 4, none⟩ = some (.int .i64 du) := cell_of_row _ _ 4 _ _ (0, 0) q0
  have c5 : W.cell? ⟨p, 5, none⟩ = some (.bool er) := cell_of_row _ _ 5 _ _ (0, 0) q0
  have r0 : W.cell? ⟨w.heap.size, 0, none⟩ = some (.int .u64 hi) := cell_of_row _ _ 0 _ _ (0, 0) q1
  have r1 : W.cell? ⟨w.heap.size, 1, none⟩ = some (.int .u64 lo) := cell_of_row _ _ 1 _ _ (0, 0) q1
  have r2 : W.cell? ⟨w.heap.size, 2, none⟩ = some (.int .u64 id) := cell_of_row _ _ 2 _ _ (0, 0) q1
  have r3 : W.cell? ⟨w.heap.size, 3, none⟩ = some (.int .u64 pa) := cell_of_row _ _ 3 _ _ (0, 0) q1
  have r4 : W.cell? ⟨w.heap.size, 4, none⟩ = some (.string xs) := cell_of_row _ _ 4 _ _ (0, 0) q1
  have r5 : W.cell? ⟨w.heap.size, 5, none⟩ = some (.string xo) := cell_of_row _ _ 5 _ _ (0, 0) q1
  have r6 : W.cell? ⟨w.heap.size, 6, none⟩ = some (.int .i64 st) := cell_of_row _ _ 6 _ _ (0, 0) q1
  have r7 : W.cell? ⟨w.heap.size, 7, none⟩ = some (.int .i64 xd) := cell_of_row _ _ 7 _ _ (0, 0) q1
  have r8 : W.cell? ⟨w.heap.size, 8, none⟩ = some (.bool xe) := cell_of_row _ _ 8 _ _ (0, 0) q1
  have r9 : W.cell? ⟨w.heap.size, 9, none⟩ = some (.slice aA m ac) := cell_of_row _ _ 9 _ _ (0, 0) q1
  clear q0 q1
  go_wp2_with (go_at_call 44; (with_reducible refine (HM.out _ HB0.out).mono ?_); rintro e w1 ⟨rfl, hb1⟩; have HB1 := Lib.hid (HB0.out.trans (hb1.mono HB0.out.size)); clear hb1)
  go_ret
  exact ⟨rfl, HB1.out⟩
set_option maxHeartbeats 4000000 in
theorem spindex_any (q : Qm) (A : Option Addr) (l : List Ls) (n c B p : Nat) (w : World) (hn : n = l.length) (hy : RdSps w B A l) (hB : B ≤ w.heap.size) (hl : n ≤ 100000) (ha : ∀ x ∈ l, x.s.ats.length ≤ 100000) (hq : w.heap[p]? = some (.cells q.cells.toArray 68)) :
    Calls Try.prog 129 #[.slice A n c, .func (.func 112) #[] #[.pointer (some ⟨p, 0, none⟩)]] w fun e w' => ∃ z : Int, e = .returned (.int .i64 z) ∧ decide (0 ≤ z) = l.any (fun x => q.mt x.s) ∧ Below w.heap.size w w' := by
  have HN := Lib.hid hn
  have HY := Lib.hid hy
  have HA := Lib.hid ha
  have HQ := Lib.hid hq
  obtain ⟨b, hb⟩ : ∃ b, l.any (fun x => q.mt x.s) = b := ⟨_, rfl⟩
  have HF := Lib.hid hb
  rw [hb]
  clear hn hy ha hq hb
  go_enter Try.func129, Try.ntmps129
  go_wp2_with fail
  go_loopw [8] (fun i wr => ∃ k : Nat, i = .int .i64 k ∧ k ≤ n ∧ Hid ((l.take k).any (fun x => q.mt x.s) = false) ∧ Hid (Below w.heap.size w wr)) (fun i _ => n - (intOf i).toNat)
  case atStart => exact ⟨0, rfl, Nat.zero_le _, Lib.hid (by simp), Lib.hid (Below.refl _ _)⟩
  case round =>
    obtain ⟨k, rfl, hk, HK, HB⟩ := hrel
    by_cases hlt : k < n
    · obtain ⟨x, hx⟩ : ∃ x, l[k]? = some x := ⟨_, List.getElem?_eq_getElem (by rw [← HN.out]; exact hlt)⟩
      have hR := HY.out.below (HB.out.mono hB)
      obtain ⟨a, h1, h2, h3, h4⟩ := hR.at_ hx
      subst h1
      have HX := Lib.hid hx
      have CLS := Lib.hid (clos_any q x B p wr h4 (Nat.le_trans hB HB.out.size) (HA.out x (List.mem_of_getElem? hx)) ((HB.out.block p (in_heap HQ.out)).trans HQ.out))
      have HSTEP : Hid ((l.take (k + 1)).any (fun x => q.mt x.s) = q.mt x.s) := Lib.hid (by rw [List.take_add_one, hx]; simp [HK.out])
      have HIN : Hid (q.mt x.s = true → b = true) := Lib.hid (fun h => by rw [← HF.out, List.any_eq_true]; exact ⟨x, List.mem_of_getElem? HX.out, h⟩)
      generalize q.mt x.s = bx at *
      obtain ⟨⟨hi, lo, id, pa, xs, xo, st, xd, xe, ats⟩, aA, ac⟩ := x
      simp only [Ls.cells] at *
      generalize ats.length = m at *
      have r0 : wr.cell? (a.add (k * 10)) = some (.int .u64 hi) := h3 0 _ rfl
      have r1 : wr.cell? ⟨(a.add (k * 10)).block, (a.add (k * 10)).off + 1, none⟩ = some (.int .u64 lo) := cell_far (h3 1 _ rfl) (by omega)
      have r2 : wr.cell? ⟨(a.add (k * 10)).block, (a.add (k * 10)).off + 2, none⟩ = some (.int .u64 id) := cell_far (h3 2 _ rfl) (by omega)
      have r3 : wr.cell? ⟨(a.add (k * 10)).block, (a.add (k * 10)).off + 3, none⟩ = some (.int .u64 pa) := cell_far (h3 3 _ rfl) (by omega)
      have r4 : wr.cell? ⟨(a.add (k * 10)).block, (a.add (k * 10)).off + 4, none⟩ = some (.string xs) := cell_far (h3 4 _ rfl) (by omega)
      have r5 : wr.cell? ⟨(a.add (k * 10)).block, (a.add (k * 10)).off + 5, none⟩ = some (.string xo) := cell_far (h3 5 _ rfl) (by omega)
      have r6 : wr.cell? ⟨(a.add (k * 10)).block, (a.add (k * 10)).off + 6, none⟩ = some (.int .i64 st) := cell_far (h3 6 _ rfl) (by omega)
      have r7 : wr.cell? ⟨(a.add (k * 10)).block, (a.add (k * 10)).off + 7, none⟩ = some (.int .i64 xd) := cell_far (h3 7 _ rfl) (by omega)
      have r8 : wr.cell? ⟨(a.add (k * 10)).block, (a.add (k * 10)).off + 8, none⟩ = some (.bool xe) := cell_far (h3 8 _ rfl) (by omega)
      have r9 : wr.cell? ⟨(a.add (k * 10)).block, (a.add (k * 10)).off + 9, none⟩ = some (.slice aA m ac) := cell_far (h3 9 _ rfl) (by omega)
      clear h2 h3 h4 hR hx
      cases bx
      · go_wp2_with (go_at_call 112; (with_reducible refine CLS.out.mono ?_); rintro e w1 ⟨rfl, hb1⟩; have HB1 := Lib.hid (HB.out.trans (hb1.mono HB.out.size)); clear hb1)
        go_roundw
        case rel => exact ⟨k + 1, by go_num, by omega, HSTEP, HB1⟩
        case measure => simp [intOf]; omega
      · go_wp2_with (go_at_call 112; (with_reducible refine CLS.out.mono ?_); rintro e w1 ⟨rfl, hb1⟩; have HB1 := Lib.hid (HB.out.trans (hb1.mono HB.out.size)); clear hb1)
        go_ret
        exact ⟨_, rfl, by rw [HIN.out (by first | rfl | trivial)]; exact decide_eq_true (by omega), HB1.out⟩
    · obtain rfl : k = n := by omega
      have HQ : Hid (b = false) := Lib.hid (by rw [← HF.out]; have := HK.out; rwa [List.take_of_length_le (by rw [← HN.out]; exact Nat.le_refl _)] at this)
      go_wp2_with fail
      go_ret
      exact ⟨_, rfl, by rw [HQ.out]; rfl, HB.out⟩
set_option maxHeartbeats 4000000 in
theorem spcontains_any (q : Qm) (A : Option Addr) (l : List Ls) (n c B p : Nat) (w : World) (hn : n = l.length) (hy : RdSps w B A l) (hB : B ≤ w.heap.size) (hl : n ≤ 100000) (ha : ∀ x ∈ l, x.s.ats.length ≤ 100000) (hq : w.heap[p]? = some (.cells q.cells.toArray 68)) :
    Calls Try.prog 111 #[.slice A n c, .func (.func 112) #[] #[.pointer (some ⟨p, 0, none⟩)]] w fun e w' => e = .returned (.bool (l.any fun x => q.mt x.s)) ∧ Below w.heap.size w w' := by
  have HC := Lib.hid (spindex_any q A l n c B p w hn hy hB hl ha hq)
  clear hn hy ha hq
  generalize l.any (fun x => q.mt x.s) = b at *
  go_enter Try.func111, Try.ntmps111
  go_wp2_with (go_at_call 129; (with_reducible refine HC.out.mono ?_); rintro e w1 ⟨z, rfl, hz, hb1⟩; have HB1 := Lib.hid hb1; have HZ := Lib.hid hz; clear hb1 hz)
  all_goals
    go_ret
    exact ⟨by rw [← HZ.out] <;> rfl, HB1.out⟩
end Go.Proofs.Ytmldelgbmadegaa
