/- SearchTells: which spans a query asks for, which traces it finds, the first so many, and how many there are. -/
import Derived.Test.YtmldelgbmadegaaBrx
namespace Go.Proofs.Ytmldelgbmadegaa
open Go.RowKit
set_option linter.unusedVariables false
set_option linter.unusedSimpArgs false
set_option maxRecDepth 100000

def StF (B0 n c : Nat) (A : Option Addr) (sv op ky vl : ByteArray) (du : Int) (er : Bool) (hi lo id pa : Int) (xs xo : ByteArray) (st xd : Int) (xe : Bool) (aA : Option Addr) (m ac : Nat) (z cnt : Int) (mb : Bool) (R : List Tc) : Nat → Value → World → Prop
  | 0, v, _ => v = .agg #[.string sv, .string op, .string ky, .string vl, .int .i64 du, .bool er]
  | 1, v, _ => v = .agg #[.int .u64 hi, .int .u64 lo, .int .u64 id, .int .u64 pa, .string xs, .string xo, .int .i64 st, .int .i64 xd, .bool xe, .slice aA m ac]
  | 2, v, _ => v = .bool mb
  | 3, v, _ => v = .agg #[.string sv, .string op, .string ky, .string vl, .int .i64 du, .bool er]
  | 4, v, _ => v = .agg #[.int .u64 hi, .int .u64 lo, .int .u64 id, .int .u64 pa, .string xs, .string xo, .int .i64 st, .int .i64 xd, .bool xe, .slice aA m ac]
  | 5, v, _ => v = .bool mb
  | 6, v, _ => v = .bool true
  | 7, v, _ => v = .bool true
  | 8, v, _ => v = .slice A n c
  | 9, v, _ => v = .agg #[.string sv, .string op, .string ky, .string vl, .int .i64 du, .bool er]
  | 10, v, _ => v = .int .i64 z
  | 11, v, w => ∃ Ax cx, v = .slice Ax R.length cx ∧ Rd w w.heap.size Ax (R.flatMap trC)
  | 12, v, _ => v = .slice A n c
  | 13, v, _ => v = .agg #[.string sv, .string op, .string ky, .string vl, .int .i64 du, .bool er]
  | 14, v, _ => v = .int .i64 z
  | 15, v, w => ∃ Ax cx, v = .slice Ax R.length cx ∧ Rd w w.heap.size Ax (R.flatMap trC)
  | 16, v, _ => v = .bool true
  | 17, v, _ => v = .bool true
  | 18, v, _ => v = .bool true
  | 19, v, _ => v = .slice A n c
  | 20, v, _ => v = .agg #[.string sv, .string op, .string ky, .string vl, .int .i64 du, .bool er]
  | 21, v, _ => v = .int .i64 cnt
  | 22, v, _ => v = .slice A n c
  | 23, v, _ => v = .agg #[.string sv, .string op, .string ky, .string vl, .int .i64 du, .bool er]
  | 24, v, _ => v = .int .i64 cnt
  | 25, v, _ => v = .bool true
  | 26, v, _ => v = .bool true
  | 27, v, _ => v = .bool true
  | _, _, _ => True
theorem StF.keep {B0 n c : Nat} {A : Option Addr} {sv op ky vl : ByteArray} {du : Int} {er : Bool} {hi lo id pa : Int} {xs xo : ByteArray} {st xd : Int} {xe : Bool} {aA : Option Addr} {m ac : Nat} {z cnt : Int} {mb : Bool} {R : List Tc} {w w' : World} {i : Nat} {v : Value} (hb : Below w.heap.size w w') (h : StF B0 n c A sv op ky vl du er hi lo id pa xs xo st xd xe aA m ac z cnt mb R i v w) : StF B0 n c A sv op ky vl du er hi lo id pa xs xo st xd xe aA m ac z cnt mb R i v w' := by
  match i, h with
  | 0, h => exact h
  | 1, h => exact h
  | 2, h => exact h
  | 3, h => exact h
  | 4, h => exact h
  | 5, h => exact h
  | 6, h => exact h
  | 7, h => exact h
  | 8, h => exact h
  | 9, h => exact h
  | 10, h => exact h
  | 11, h => obtain ⟨Ax, cx, h1, h2⟩ := h; exact ⟨Ax, cx, h1, (h2.below hb).more hb.size⟩
  | 12, h => exact h
  | 13, h => exact h
  | 14, h => exact h
  | 15, h => obtain ⟨Ax, cx, h1, h2⟩ := h; exact ⟨Ax, cx, h1, (h2.below hb).more hb.size⟩
  | 16, h => exact h
  | 17, h => exact h
  | 18, h => exact h
  | 19, h => exact h
  | 20, h => exact h
  | 21, h => exact h
  | 22, h => exact h
  | 23, h => exact h
  | 24, h => exact h
  | 25, h => exact h
  | 26, h => exact h
  | 27, h => exact h
  | _ + 28, h => trivial
theorem find_list (q : Qm) (A : Option Addr) (l : List Bl) (n c B : Nat) (z : Int) (W : World) (hn : n = l.length) (hy : RdBls W B A l) (hB : B ≤ W.heap.size) (hsm : SmallBls l) (hz : -9223372036854775808 ≤ z ∧ z ≤ 9223372036854775807) :
    Calls Try.prog 47 #[.slice A n c, .agg q.cells.toArray, .int .i64 z] W (ListOf ((q.all l).take (cutN z (q.all l).length)) W) :=
  (find_any q A l n c B z W hn hy hB hsm hz).mono fun e w' hh => by
    obtain ⟨v, h1, h2, h3⟩ := hh
    obtain ⟨Ax, cx, hv, _, hr⟩ := own_rd h2
    subst hv
    exact ⟨Ax, cx, h1, hr, h3⟩
set_option maxHeartbeats 32000000 in
theorem tells32 (A : Option Addr) (l : List Bl) (n c : Nat) (sv op ky vl : ByteArray) (du : Int) (er : Bool) (hi lo id pa : Int) (xs xo : ByteArray) (st xd : Int) (xe : Bool) (ats : List (ByteArray × ByteArray)) (aA : Option Addr) (m ac : Nat) (z : Int) (w : World) (hn : n = l.length) (hy : RdBls w w.heap.size A l) (hok : ∀ x ∈ l, x.ok) (hb : ∀ x ∈ l, x.l.length ≤ 1048576) (hq1 : sv.size ≤ maxLen) (hq2 : op.size ≤ maxLen) (hq3 : ky.size ≤ maxLen) (hq4 : vl.size ≤ maxLen) (hm : m = ats.length) (hs : RdL w w.heap.size ⟨⟨hi, lo, id, pa, xs, xo, st, xd, xe, ats⟩, aA, ac⟩) (hz : -9223372036854775808 ≤ z ∧ z ≤ 9223372036854775807) :
    Calls Try.prog 11 #[.slice A n c, .agg #[.string sv, .string op, .string ky, .string vl, .int .i64 du, .bool er], .agg #[.int .u64 hi, .int .u64 lo, .int .u64 id, .int .u64 pa, .string xs, .string xo, .int .i64 st, .int .i64 xd, .bool xe, .slice aA m ac], .int .i64 z] w fun e w' => e = .returned (.bool true) ∧ Below w.heap.size w w' := by
  have HFW := Lib.hid (fun W (hW : Below w.heap.size w W) => few19_any A l n c w.heap.size W hn (hy.below hW) hok hW.size hb)
  have HN := Lib.hid hn
  have HY := Lib.hid hy
  have HZ := Lib.hid hz
  have HRS := Lib.hid (fun W (hW : Below w.heap.size w W) => (⟨hs.rd.below hW, hs.cap, hs.ok⟩ : RdL W w.heap.size ⟨⟨hi, lo, id, pa, xs, xo, st, xd, xe, ats⟩, aA, ac⟩))
  have HFQ := Lib.hid (fun W => fewq_lit sv op ky vl du er W hq1 hq2 hq3 hq4)
  have HFS := Lib.hid (fun W (hW : Below w.heap.size w W) => few_any ⟨⟨hi, lo, id, pa, xs, xo, st, xd, xe, ats⟩, aA, ac⟩ w.heap.size W (HRS.out W hW) hW.size)
  simp only [Ls.cells] at HFS
  rw [← hm] at HFS
  have HFA : Hid (few ⟨hi, lo, id, pa, xs, xo, st, xd, xe, ats⟩ = true → m ≤ 100000) := Lib.hid (fun h => by
    unfold few at h
    simp only [Bool.and_eq_true, decide_eq_true_eq] at h
    omega)
  have HM := Lib.hid hm
  generalize Qm.few ⟨sv, op, ky, vl, du, er⟩ = bq at *
  generalize few ⟨hi, lo, id, pa, xs, xo, st, xd, xe, ats⟩ = bs at *
  have hz1 : (w.alloc (.cells #[.string sv, .string op, .string ky, .string vl, .int .i64 du, .bool er] 68)).heap.size = w.heap.size + 1 := by simp
  have q0' : ((w.alloc (.cells #[.string sv, .string op, .string ky, .string vl, .int .i64 du, .bool er] 68)).alloc (.cells #[.int .u64 hi, .int .u64 lo, .int .u64 id, .int .u64 pa, .string xs, .string xo, .int .i64 st, .int .i64 xd, .bool xe, .slice aA m ac] 71)).heap[w.heap.size]? = some (.cells #[.string sv, .string op, .string ky, .string vl, .int .i64 du, .bool er] 68) := (heap_alloc_old _ _ (by simp)).trans (heap_alloc_new w _)
  have q1' := heap_alloc_new (w.alloc (.cells #[.string sv, .string op, .string ky, .string vl, .int .i64 du, .bool er] 68)) (.cells #[.int .u64 hi, .int .u64 lo, .int .u64 id, .int .u64 pa, .string xs, .string xo, .int .i64 st, .int .i64 xd, .bool xe, .slice aA m ac] 71)
  rw [hz1] at q1'
  have HB0 := Lib.hid (((Below.refl w.heap.size w).alloc (Nat.le_refl _) (.cells #[.string sv, .string op, .string ky, .string vl, .int .i64 du, .bool er] 68)).alloc (by simp) (.cells #[.int .u64 hi, .int .u64 lo, .int .u64 id, .int .u64 pa, .string xs, .string xo, .int .i64 st, .int .i64 xd, .bool xe, .slice aA m ac] 71))
  clear hn hy hok hb hq1 hq2 hq3 hq4 hs hm hz hz1
  go_enter Try.func11, Try.ntmps11
  go_upto_region 1 with fail
  generalize (w.alloc (.cells #[.string sv, .string op, .string ky, .string vl, .int .i64 du, .bool er] 68)).alloc (.cells #[.int .u64 hi, .int .u64 lo, .int .u64 id, .int .u64 pa, .string xs, .string xo, .int .i64 st, .int .i64 xd, .bool xe, .slice aA m ac] 71) = w0 at *
  have HQ0 := Lib.hid q0'
  have HS0 := Lib.hid q1'
  clear q0' q1'
  have p0 : w0.cell? ⟨w.heap.size, 0, none⟩ = some (.string sv) := cell_of_row _ _ 0 _ _ (0, 0) HQ0.out
  have p1 : w0.cell? ⟨w.heap.size, 1, none⟩ = some (.string op) := cell_of_row _ _ 1 _ _ (0, 0) HQ0.out
  have p2 : w0.cell? ⟨w.heap.size, 2, none⟩ = some (.string ky) := cell_of_row _ _ 2 _ _ (0, 0) HQ0.out
  have p3 : w0.cell? ⟨w.heap.size, 3, none⟩ = some (.string vl) := cell_of_row _ _ 3 _ _ (0, 0) HQ0.out
  have p4 : w0.cell? ⟨w.heap.size, 4, none⟩ = some (.int .i64 du) := cell_of_row _ _ 4 _ _ (0, 0) HQ0.out
  have p5 : w0.cell? ⟨w.heap.size, 5, none⟩ = some (.bool er) := cell_of_row _ _ 5 _ _ (0, 0) HQ0.out
  have r0 : w0.cell? ⟨w.heap.size + 1, 0, none⟩ = some (.int .u64 hi) := cell_of_row _ _ 0 _ _ (0, 0) HS0.out
  have r1 : w0.cell? ⟨w.heap.size + 1, 1, none⟩ = some (.int .u64 lo) := cell_of_row _ _ 1 _ _ (0, 0) HS0.out
  have r2 : w0.cell? ⟨w.heap.size + 1, 2, none⟩ = some (.int .u64 id) := cell_of_row _ _ 2 _ _ (0, 0) HS0.out
  have r3 : w0.cell? ⟨w.heap.size + 1, 3, none⟩ = some (.int .u64 pa) := cell_of_row _ _ 3 _ _ (0, 0) HS0.out
  have r4 : w0.cell? ⟨w.heap.size + 1, 4, none⟩ = some (.string xs) := cell_of_row _ _ 4 _ _ (0, 0) HS0.out
  have r5 : w0.cell? ⟨w.heap.size + 1, 5, none⟩ = some (.string xo) := cell_of_row _ _ 5 _ _ (0, 0) HS0.out
  have r6 : w0.cell? ⟨w.heap.size + 1, 6, none⟩ = some (.int .i64 st) := cell_of_row _ _ 6 _ _ (0, 0) HS0.out
  have r7 : w0.cell? ⟨w.heap.size + 1, 7, none⟩ = some (.int .i64 xd) := cell_of_row _ _ 7 _ _ (0, 0) HS0.out
  have r8 : w0.cell? ⟨w.heap.size + 1, 8, none⟩ = some (.bool xe) := cell_of_row _ _ 8 _ _ (0, 0) HS0.out
  have r9 : w0.cell? ⟨w.heap.size + 1, 9, none⟩ = some (.slice aA m ac) := cell_of_row _ _ 9 _ _ (0, 0) HS0.out
  go_wp2_with fail
  refine (alive32_calls _).mono ?_
  rintro e w1 ⟨rfl, hb1⟩
  have HB1 := Lib.hid (HB0.out.trans (hb1.mono HB0.out.size))
  have HQ1 := Lib.hid ((hb1.block _ (in_heap HQ0.out)).trans HQ0.out)
  have HS1 := Lib.hid ((hb1.block _ (in_heap HS0.out)).trans HS0.out)
  clear hb1
  clear p0 p1 p2 p3 p4 p5 r0 r1 r2 r3 r4 r5 r6 r7 r8 r9
  have p0 : w1.cell? ⟨w.heap.size, 0, none⟩ = some (.string sv) := cell_of_row _ _ 0 _ _ (0, 0) HQ1.out
  have p1 : w1.cell? ⟨w.heap.size, 1, none⟩ = some (.string op) := cell_of_row _ _ 1 _ _ (0, 0) HQ1.out
  have p2 : w1.cell? ⟨w.heap.size, 2, none⟩ = some (.string ky) := cell_of_row _ _ 2 _ _ (0, 0) HQ1.out
  have p3 : w1.cell? ⟨w.heap.size, 3, none⟩ = some (.string vl) := cell_of_row _ _ 3 _ _ (0, 0) HQ1.out
  have p4 : w1.cell? ⟨w.heap.size, 4, none⟩ = some (.int .i64 du) := cell_of_row _ _ 4 _ _ (0, 0) HQ1.out
  have p5 : w1.cell? ⟨w.heap.size, 5, none⟩ = some (.bool er) := cell_of_row _ _ 5 _ _ (0, 0) HQ1.out
  have r0 : w1.cell? ⟨w.heap.size + 1, 0, none⟩ = some (.int .u64 hi) := cell_of_row _ _ 0 _ _ (0, 0) HS1.out
  have r1 : w1.cell? ⟨w.heap.size + 1, 1, none⟩ = some (.int .u64 lo) := cell_of_row _ _ 1 _ _ (0, 0) HS1.out
  have r2 : w1.cell? ⟨w.heap.size + 1, 2, none⟩ = some (.int .u64 id) := cell_of_row _ _ 2 _ _ (0, 0) HS1.out
  have r3 : w1.cell? ⟨w.heap.size + 1, 3, none⟩ = some (.int .u64 pa) := cell_of_row _ _ 3 _ _ (0, 0) HS1.out
  have r4 : w1.cell? ⟨w.heap.size + 1, 4, none⟩ = some (.string xs) := cell_of_row _ _ 4 _ _ (0, 0) HS1.out
  have r5 : w1.cell? ⟨w.heap.size + 1, 5, none⟩ = some (.string xo) := cell_of_row _ _ 5 _ _ (0, 0) HS1.out
  have r6 : w1.cell? ⟨w.heap.size + 1, 6, none⟩ = some (.int .i64 st) := cell_of_row _ _ 6 _ _ (0, 0) HS1.out
  have r7 : w1.cell? ⟨w.heap.size + 1, 7, none⟩ = some (.int .i64 xd) := cell_of_row _ _ 7 _ _ (0, 0) HS1.out
  have r8 : w1.cell? ⟨w.heap.size + 1, 8, none⟩ = some (.bool xe) := cell_of_row _ _ 8 _ _ (0, 0) HS1.out
  have r9 : w1.cell? ⟨w.heap.size + 1, 9, none⟩ = some (.slice aA m ac) := cell_of_row _ _ 9 _ _ (0, 0) HS1.out
  go_wp2_with fail
  refine (HFW.out w1 HB1.out).mono ?_
  rintro e w2 ⟨fb, rfl, hfb, hb2⟩
  have HB2 := Lib.hid (HB1.out.trans (hb2.mono HB1.out.size))
  have HQ2 := Lib.hid ((hb2.block _ (in_heap HQ1.out)).trans HQ1.out)
  have HS2 := Lib.hid ((hb2.block _ (in_heap HS1.out)).trans HS1.out)
  clear hb2
  clear p0 p1 p2 p3 p4 p5 r0 r1 r2 r3 r4 r5 r6 r7 r8 r9
  have p0 : w2.cell? ⟨w.heap.size, 0, none⟩ = some (.string sv) := cell_of_row _ _ 0 _ _ (0, 0) HQ2.out
  have p1 : w2.cell? ⟨w.heap.size, 1, none⟩ = some (.string op) := cell_of_row _ _ 1 _ _ (0, 0) HQ2.out
  have p2 : w2.cell? ⟨w.heap.size, 2, none⟩ = some (.string ky) := cell_of_row _ _ 2 _ _ (0, 0) HQ2.out
  have p3 : w2.cell? ⟨w.heap.size, 3, none⟩ = some (.string vl) := cell_of_row _ _ 3 _ _ (0, 0) HQ2.out
  have p4 : w2.cell? ⟨w.heap.size, 4, none⟩ = some (.int .i64 du) := cell_of_row _ _ 4 _ _ (0, 0) HQ2.out
  have p5 : w2.cell? ⟨w.heap.size, 5, none⟩ = some (.bool er) := cell_of_row _ _ 5 _ _ (0, 0) HQ2.out
  have r0 : w2.cell? ⟨w.heap.size + 1, 0, none⟩ = some (.int .u64 hi) := cell_of_row _ _ 0 _ _ (0, 0) HS2.out
  have r1 : w2.cell? ⟨w.heap.size + 1, 1, none⟩ = some (.int .u64 lo) := cell_of_row _ _ 1 _ _ (0, 0) HS2.out
  have r2 : w2.cell? ⟨w.heap.size + 1, 2, none⟩ = some (.int .u64 id) := cell_of_row _ _ 2 _ _ (0, 0) HS2.out
  have r3 : w2.cell? ⟨w.heap.size + 1, 3, none⟩ = some (.int .u64 pa) := cell_of_row _ _ 3 _ _ (0, 0) HS2.out
  have r4 : w2.cell? ⟨w.heap.size + 1, 4, none⟩ = some (.string xs) := cell_of_row _ _ 4 _ _ (0, 0) HS2.out
  have r5 : w2.cell? ⟨w.heap.size + 1, 5, none⟩ = some (.string xo) := cell_of_row _ _ 5 _ _ (0, 0) HS2.out
  have r6 : w2.cell? ⟨w.heap.size + 1, 6, none⟩ = some (.int .i64 st) := cell_of_row _ _ 6 _ _ (0, 0) HS2.out
  have r7 : w2.cell? ⟨w.heap.size + 1, 7, none⟩ = some (.int .i64 xd) := cell_of_row _ _ 7 _ _ (0, 0) HS2.out
  have r8 : w2.cell? ⟨w.heap.size + 1, 8, none⟩ = some (.bool xe) := cell_of_row _ _ 8 _ _ (0, 0) HS2.out
  have r9 : w2.cell? ⟨w.heap.size + 1, 9, none⟩ = some (.slice aA m ac) := cell_of_row _ _ 9 _ _ (0, 0) HS2.out
  cases fb
  · go_wp2_with fail
    go_ret
    exact ⟨rfl, HB2.out⟩
  have hgood : GoodBls l := hfb rfl
  have HSM := Lib.hid (small_good hgood)
  have HM120 : (l.flatMap Bl.l).length ≤ 120 := hgood.2.1
  clear hfb hgood
  go_wp2_with fail
  refine (HFQ.out w2).mono ?_
  rintro e w3 ⟨rfl, hb3⟩
  have HB3 := Lib.hid (HB2.out.trans (hb3.mono HB2.out.size))
  have HQ3 := Lib.hid ((hb3.block _ (in_heap HQ2.out)).trans HQ2.out)
  have HS3 := Lib.hid ((hb3.block _ (in_heap HS2.out)).trans HS2.out)
  clear hb3
  clear p0 p1 p2 p3 p4 p5 r0 r1 r2 r3 r4 r5 r6 r7 r8 r9
  have p0 : w3.cell? ⟨w.heap.size, 0, none⟩ = some (.string sv) := cell_of_row _ _ 0 _ _ (0, 0) HQ3.out
  have p1 : w3.cell? ⟨w.heap.size, 1, none⟩ = some (.string op) := cell_of_row _ _ 1 _ _ (0, 0) HQ3.out
  have p2 : w3.cell? ⟨w.heap.size, 2, none⟩ = some (.string ky) := cell_of_row _ _ 2 _ _ (0, 0) HQ3.out
  have p3 : w3.cell? ⟨w.heap.size, 3, none⟩ = some (.string vl) := cell_of_row _ _ 3 _ _ (0, 0) HQ3.out
  have p4 : w3.cell? ⟨w.heap.size, 4, none⟩ = some (.int .i64 du) := cell_of_row _ _ 4 _ _ (0, 0) HQ3.out
  have p5 : w3.cell? ⟨w.heap.size, 5, none⟩ = some (.bool er) := cell_of_row _ _ 5 _ _ (0, 0) HQ3.out
  have r0 : w3.cell? ⟨w.heap.size + 1, 0, none⟩ = some (.int .u64 hi) := cell_of_row _ _ 0 _ _ (0, 0) HS3.out
  have r1 : w3.cell? ⟨w.heap.size + 1, 1, none⟩ = some (.int .u64 lo) := cell_of_row _ _ 1 _ _ (0, 0) HS3.out
  have r2 : w3.cell? ⟨w.heap.size + 1, 2, none⟩ = some (.int .u64 id) := cell_of_row _ _ 2 _ _ (0, 0) HS3.out
  have r3 : w3.cell? ⟨w.heap.size + 1, 3, none⟩ = some (.int .u64 pa) := cell_of_row _ _ 3 _ _ (0, 0) HS3.out
  have r4 : w3.cell? ⟨w.heap.size + 1, 4, none⟩ = some (.string xs) := cell_of_row _ _ 4 _ _ (0, 0) HS3.out
  have r5 : w3.cell? ⟨w.heap.size + 1, 5, none⟩ = some (.string xo) := cell_of_row _ _ 5 _ _ (0, 0) HS3.out
  have r6 : w3.cell? ⟨w.heap.size + 1, 6, none⟩ = some (.int .i64 st) := cell_of_row _ _ 6 _ _ (0, 0) HS3.out
  have r7 : w3.cell? ⟨w.heap.size + 1, 7, none⟩ = some (.int .i64 xd) := cell_of_row _ _ 7 _ _ (0, 0) HS3.out
  have r8 : w3.cell? ⟨w.heap.size + 1, 8, none⟩ = some (.bool xe) := cell_of_row _ _ 8 _ _ (0, 0) HS3.out
  have r9 : w3.cell? ⟨w.heap.size + 1, 9, none⟩ = some (.slice aA m ac) := cell_of_row _ _ 9 _ _ (0, 0) HS3.out
  cases bq
  · go_wp2_with fail
    go_ret
    exact ⟨rfl, HB3.out⟩
  go_wp2_with fail
  refine (HFS.out w3 HB3.out).mono ?_
  rintro e w4 ⟨rfl, hb4⟩
  have HB4 := Lib.hid (HB3.out.trans (hb4.mono HB3.out.size))
  have HQ4 := Lib.hid ((hb4.block _ (in_heap HQ3.out)).trans HQ3.out)
  have HS4 := Lib.hid ((hb4.block _ (in_heap HS3.out)).trans HS3.out)
  clear hb4
  clear p0 p1 p2 p3 p4 p5 r0 r1 r2 r3 r4 r5 r6 r7 r8 r9
  have p0 : w4.cell? ⟨w.heap.size, 0, none⟩ = some (.string sv) := cell_of_row _ _ 0 _ _ (0, 0) HQ4.out
  have p1 : w4.cell? ⟨w.heap.size, 1, none⟩ = some (.string op) := cell_of_row _ _ 1 _ _ (0, 0) HQ4.out
  have p2 : w4.cell? ⟨w.heap.size, 2, none⟩ = some (.string ky) := cell_of_row _ _ 2 _ _ (0, 0) HQ4.out
  have p3 : w4.cell? ⟨w.heap.size, 3, none⟩ = some (.string vl) := cell_of_row _ _ 3 _ _ (0, 0) HQ4.out
  have p4 : w4.cell? ⟨w.heap.size, 4, none⟩ = some (.int .i64 du) := cell_of_row _ _ 4 _ _ (0, 0) HQ4.out
  have p5 : w4.cell? ⟨w.heap.size, 5, none⟩ = some (.bool er) := cell_of_row _ _ 5 _ _ (0, 0) HQ4.out
  have r0 : w4.cell? ⟨w.heap.size + 1, 0, none⟩ = some (.int .u64 hi) := cell_of_row _ _ 0 _ _ (0, 0) HS4.out
  have r1 : w4.cell? ⟨w.heap.size + 1, 1, none⟩ = some (.int .u64 lo) := cell_of_row _ _ 1 _ _ (0, 0) HS4.out
  have r2 : w4.cell? ⟨w.heap.size + 1, 2, none⟩ = some (.int .u64 id) := cell_of_row _ _ 2 _ _ (0, 0) HS4.out
  have r3 : w4.cell? ⟨w.heap.size + 1, 3, none⟩ = some (.int .u64 pa) := cell_of_row _ _ 3 _ _ (0, 0) HS4.out
  have r4 : w4.cell? ⟨w.heap.size + 1, 4, none⟩ = some (.string xs) := cell_of_row _ _ 4 _ _ (0, 0) HS4.out
  have r5 : w4.cell? ⟨w.heap.size + 1, 5, none⟩ = some (.string xo) := cell_of_row _ _ 5 _ _ (0, 0) HS4.out
  have r6 : w4.cell? ⟨w.heap.size + 1, 6, none⟩ = some (.int .i64 st) := cell_of_row _ _ 6 _ _ (0, 0) HS4.out
  have r7 : w4.cell? ⟨w.heap.size + 1, 7, none⟩ = some (.int .i64 xd) := cell_of_row _ _ 7 _ _ (0, 0) HS4.out
  have r8 : w4.cell? ⟨w.heap.size + 1, 8, none⟩ = some (.bool xe) := cell_of_row _ _ 8 _ _ (0, 0) HS4.out
  have r9 : w4.cell? ⟨w.heap.size + 1, 9, none⟩ = some (.slice aA m ac) := cell_of_row _ _ 9 _ _ (0, 0) HS4.out
  cases bs
  · go_wp2_with fail
    go_ret
    exact ⟨rfl, HB4.out⟩
  have hm5 : m ≤ 100000 := HFA.out (by first | rfl | trivial)
  have HMT := Lib.hid (fun W (hW : Below w.heap.size w W) => match_lit sv op ky vl du er hi lo id pa xs xo st xd xe ats aA m ac w.heap.size W HM.out (HRS.out W hW).rd hW.size hm5)
  have HDM := Lib.hid (fun W (hW : Below w.heap.size w W) => dmatch_lit sv op ky vl du er hi lo id pa xs xo st xd xe ats aA m ac w.heap.size W HM.out (HRS.out W hW).rd hW.size hm5)
  have HF1 := Lib.hid (fun W (hW : Below w.heap.size w W) => find_list ⟨sv, op, ky, vl, du, er⟩ A l n c w.heap.size z W HN.out (HY.out.below hW) hW.size HSM.out HZ.out)
  have HF2 := Lib.hid (fun W (hW : Below w.heap.size w W) => dfind_lit sv op ky vl du er A l n c w.heap.size z W HN.out (HY.out.below hW) hW.size HSM.out HZ.out)
  have HC1 := Lib.hid (fun W (hW : Below w.heap.size w W) => count_lit sv op ky vl du er A l n c w.heap.size W HN.out (HY.out.below hW) hW.size HSM.out)
  have HC2 := Lib.hid (fun W (hW : Below w.heap.size w W) => dcount_lit sv op ky vl du er A l n c w.heap.size W HN.out (HY.out.below hW) hW.size HSM.out)
  have hal := allq_len ⟨sv, op, ky, vl, du, er⟩ l
  have HRL : Hid (((Qm.all ⟨sv, op, ky, vl, du, er⟩ l).take (cutN z (Qm.all ⟨sv, op, ky, vl, du, er⟩ l).length)).length ≤ 1000000) := Lib.hid (by rw [List.length_take]; omega)
  simp only [Qm.cells] at HF1
  generalize (Qm.all ⟨sv, op, ky, vl, du, er⟩ l).take (cutN z (Qm.all ⟨sv, op, ky, vl, du, er⟩ l).length) = R at *
  generalize ((Qm.all ⟨sv, op, ky, vl, du, er⟩ l).length : Int) = cnt at *
  generalize Qm.mt ⟨sv, op, ky, vl, du, er⟩ ⟨hi, lo, id, pa, xs, xo, st, xd, xe, ats⟩ = mb at *
  clear hal
  go_wp2_with fail
  obtain ⟨WD, hW⟩ : ∃ U, U = w4.drew := ⟨_, rfl⟩
  have hWr : Below w4.heap.size w4 WD := by rw [hW]; exact ⟨rfl, rfl, rfl, Nat.le_refl _, fun _ _ => rfl⟩
  obtain ⟨B0, hB0⟩ : ∃ b, b = w.heap.size := ⟨_, rfl⟩
  have HST := Lib.hid (show ∀ V, Below WD.heap.size WD V → V.heap[B0]? = some (.cells #[.string sv, .string op, .string ky, .string vl, .int .i64 du, .bool er] 68) ∧ V.heap[B0 + 1]? = some (.cells #[.int .u64 hi, .int .u64 lo, .int .u64 id, .int .u64 pa, .string xs, .string xo, .int .i64 st, .int .i64 xd, .bool xe, .slice aA m ac] 71) ∧ Below w.heap.size w V from fun V hV => by
    have h1 := hWr.trans (hV.mono hWr.size)
    rw [hB0]
    exact ⟨(h1.block _ (in_heap HQ4.out)).trans HQ4.out, (h1.block _ (in_heap HS4.out)).trans HS4.out, HB4.out.trans (h1.mono HB4.out.size)⟩)
  refine PI.wp_region_persG (R := (fun w w' => Below w.heap.size w w')) (G := fun _ _ => True) (I := fun _ _ _ => True) [(2, 0), (2, 1), (5, 3), (5, 4), (6, 2), (6, 5), (7, 6), (8, 7), (9, 7), (10, 7), (11, 7), (11, 8), (11, 9), (11, 10), (12, 7), (13, 7), (14, 7), (15, 7), (15, 12), (15, 13), (15, 14), (16, 7), (16, 11), (16, 15), (17, 7), (17, 16), (18, 17), (19, 18), (20, 18), (21, 18), (21, 19), (21, 20), (22, 18), (23, 18), (24, 18), (24, 22), (24, 23), (25, 18), (25, 21), (25, 24), (26, 18), (26, 25), (27, 26)] [27] (by kernel_rfl) (PI.formed_of (by kernel_rfl)) ⟨fun w => Below.refl _ w, fun _ _ _ h k => h.trans (k.mono h.size)⟩ (fun _ => trivial) (StF B0 n c A sv op ky vl du er hi lo id pa xs xo st xd xe aA m ac z cnt mb R) trivial ?_ ?_
  · rw [← hW, ← hB0]
    intro i o ho
    rcases i with _ | _ | _ | _ | _ | _ | _ | _ | _ | _ | _ | _ | _ | _ | _ | _ | _ | _ | _ | _ | _ | _ | _ | _ | _ | _ | _ | _ | i
    · obtain rfl := Option.some.inj (show some _ = some o from ho)
      refine PI.shown_val rfl fun a w5 L0 hr T => ?_
      have h1 : a.eval (.tmp 5) = .pointer (some ⟨B0, 0, none⟩) := T.was 5 (by kernel_rfl)
      have g0 := HST.out w5 hr
      have g1 : w5.cell? ⟨B0, 0, none⟩ = some (.string sv) := cell_of_row _ _ 0 _ _ (0, 0) g0.1
      have g2 : w5.cell? ⟨B0, 1, none⟩ = some (.string op) := cell_of_row _ _ 1 _ _ (0, 0) g0.1
      have g3 : w5.cell? ⟨B0, 2, none⟩ = some (.string ky) := cell_of_row _ _ 2 _ _ (0, 0) g0.1
      have g4 : w5.cell? ⟨B0, 3, none⟩ = some (.string vl) := cell_of_row _ _ 3 _ _ (0, 0) g0.1
      have g5 : w5.cell? ⟨B0, 4, none⟩ = some (.int .i64 du) := cell_of_row _ _ 4 _ _ (0, 0) g0.1
      have g6 : w5.cell? ⟨B0, 5, none⟩ = some (.bool er) := cell_of_row _ _ 5 _ _ (0, 0) g0.1
      exact ⟨.agg #[.string sv, .string op, .string ky, .string vl, .int .i64 du, .bool er], w5, by simp only [execOp, h1]; simp [go_sem, g1, g2, g3, g4, g5, g6], PI.Post.pure ⟨fun w => Below.refl _ w, fun _ _ _ h k => h.trans (k.mono h.size)⟩ rfl trivial⟩
    · obtain rfl := Option.some.inj (show some _ = some o from ho)
      refine PI.shown_val rfl fun a w5 L0 hr T => ?_
      have h1 : a.eval (.tmp 6) = .pointer (some ⟨B0 + 1, 0, none⟩) := T.was 6 (by kernel_rfl)
      have g0 := HST.out w5 hr
      have g1 : w5.cell? ⟨B0 + 1, 0, none⟩ = some (.int .u64 hi) := cell_of_row _ _ 0 _ _ (0, 0) g0.2.1
      have g2 : w5.cell? ⟨B0 + 1, 1, none⟩ = some (.int .u64 lo) := cell_of_row _ _ 1 _ _ (0, 0) g0.2.1
      have g3 : w5.cell? ⟨B0 + 1, 2, none⟩ = some (.int .u64 id) := cell_of_row _ _ 2 _ _ (0, 0) g0.2.1
      have g4 : w5.cell? ⟨B0 + 1, 3, none⟩ = some (.int .u64 pa) := cell_of_row _ _ 3 _ _ (0, 0) g0.2.1
      have g5 : w5.cell? ⟨B0 + 1, 4, none⟩ = some (.string xs) := cell_of_row _ _ 4 _ _ (0, 0) g0.2.1
      have g6 : w5.cell? ⟨B0 + 1, 5, none⟩ = some (.string xo) := cell_of_row _ _ 5 _ _ (0, 0) g0.2.1
      have g7 : w5.cell? ⟨B0 + 1, 6, none⟩ = some (.int .i64 st) := cell_of_row _ _ 6 _ _ (0, 0) g0.2.1
      have g8 : w5.cell? ⟨B0 + 1, 7, none⟩ = some (.int .i64 xd) := cell_of_row _ _ 7 _ _ (0, 0) g0.2.1
      have g9 : w5.cell? ⟨B0 + 1, 8, none⟩ = some (.bool xe) := cell_of_row _ _ 8 _ _ (0, 0) g0.2.1
      have g10 : w5.cell? ⟨B0 + 1, 9, none⟩ = some (.slice aA m ac) := cell_of_row _ _ 9 _ _ (0, 0) g0.2.1
      exact ⟨.agg #[.int .u64 hi, .int .u64 lo, .int .u64 id, .int .u64 pa, .string xs, .string xo, .int .i64 st, .int .i64 xd, .bool xe, .slice aA m ac], w5, by simp only [execOp, h1]; simp [go_sem, g1, g2, g3, g4, g5, g6, g7, g8, g9, g10], PI.Post.pure ⟨fun w => Below.refl _ w, fun _ _ _ h k => h.trans (k.mono h.size)⟩ rfl trivial⟩
    · obtain rfl := Option.some.inj (show some _ = some o from ho)
      refine PI.shown_call rfl 44 fun a w5 L0 hr T => ?_
      have h0 : a.eval (.tmp 29) = .agg #[.string sv, .string op, .string ky, .string vl, .int .i64 du, .bool er] := T.at_ 0 29 (by kernel_rfl) (by kernel_rfl) (by kernel_rfl)
      have h1 : a.eval (.tmp 30) = .agg #[.int .u64 hi, .int .u64 lo, .int .u64 id, .int .u64 pa, .string xs, .string xo, .int .i64 st, .int .i64 xd, .bool xe, .slice aA m ac] := T.at_ 1 30 (by kernel_rfl) (by kernel_rfl) (by kernel_rfl)
      refine ⟨#[.agg #[.string sv, .string op, .string ky, .string vl, .int .i64 du, .bool er], .agg #[.int .u64 hi, .int .u64 lo, .int .u64 id, .int .u64 pa, .string xs, .string xo, .int .i64 st, .int .i64 xd, .bool xe, .slice aA m ac]], by simp only [execOp, resolve, List.map_toArray, List.map_cons, List.map_nil, h0, h1]; simp [go_sem, Act.eval], ?_⟩
      refine (HMT.out w5 (HST.out w5 hr).2.2).mono fun e w6 hh => ?_
      obtain ⟨rfl, hb6⟩ := hh
      exact ⟨_, rfl, hb6, rfl, fun _ _ h => h, fun j v _ _ _ _ h => StF.keep hb6 h, trivial⟩
    · obtain rfl := Option.some.inj (show some _ = some o from ho)
      refine PI.shown_val rfl fun a w5 L0 hr T => ?_
      have h1 : a.eval (.tmp 5) = .pointer (some ⟨B0, 0, none⟩) := T.was 5 (by kernel_rfl)
      have g0 := HST.out w5 hr
      have g1 : w5.cell? ⟨B0, 0, none⟩ = some (.string sv) := cell_of_row _ _ 0 _ _ (0, 0) g0.1
      have g2 : w5.cell? ⟨B0, 1, none⟩ = some (.string op) := cell_of_row _ _ 1 _ _ (0, 0) g0.1
      have g3 : w5.cell? ⟨B0, 2, none⟩ = some (.string ky) := cell_of_row _ _ 2 _ _ (0, 0) g0.1
      have g4 : w5.cell? ⟨B0, 3, none⟩ = some (.string vl) := cell_of_row _ _ 3 _ _ (0, 0) g0.1
      have g5 : w5.cell? ⟨B0, 4, none⟩ = some (.int .i64 du) := cell_of_row _ _ 4 _ _ (0, 0) g0.1
      have g6 : w5.cell? ⟨B0, 5, none⟩ = some (.bool er) := cell_of_row _ _ 5 _ _ (0, 0) g0.1
      exact ⟨.agg #[.string sv, .string op, .string ky, .string vl, .int .i64 du, .bool er], w5, by simp only [execOp, h1]; simp [go_sem, g1, g2, g3, g4, g5, g6], PI.Post.pure ⟨fun w => Below.refl _ w, fun _ _ _ h k => h.trans (k.mono h.size)⟩ rfl trivial⟩
    · obtain rfl := Option.some.inj (show some _ = some o from ho)
      refine PI.shown_val rfl fun a w5 L0 hr T => ?_
      have h1 : a.eval (.tmp 6) = .pointer (some ⟨B0 + 1, 0, none⟩) := T.was 6 (by kernel_rfl)
      have g0 := HST.out w5 hr
      have g1 : w5.cell? ⟨B0 + 1, 0, none⟩ = some (.int .u64 hi) := cell_of_row _ _ 0 _ _ (0, 0) g0.2.1
      have g2 : w5.cell? ⟨B0 + 1, 1, none⟩ = some (.int .u64 lo) := cell_of_row _ _ 1 _ _ (0, 0) g0.2.1
      have g3 : w5.cell? ⟨B0 + 1, 2, none⟩ = some (.int .u64 id) := cell_of_row _ _ 2 _ _ (0, 0) g0.2.1
      have g4 : w5.cell? ⟨B0 + 1, 3, none⟩ = some (.int .u64 pa) := cell_of_row _ _ 3 _ _ (0, 0) g0.2.1
      have g5 : w5.cell? ⟨B0 + 1, 4, none⟩ = some (.string xs) := cell_of_row _ _ 4 _ _ (0, 0) g0.2.1
      have g6 : w5.cell? ⟨B0 + 1, 5, none⟩ = some (.string xo) := cell_of_row _ _ 5 _ _ (0, 0) g0.2.1
      have g7 : w5.cell? ⟨B0 + 1, 6, none⟩ = some (.int .i64 st) := cell_of_row _ _ 6 _ _ (0, 0) g0.2.1
      have g8 : w5.cell? ⟨B0 + 1, 7, none⟩ = some (.int .i64 xd) := cell_of_row _ _ 7 _ _ (0, 0) g0.2.1
      have g9 : w5.cell? ⟨B0 + 1, 8, none⟩ = some (.bool xe) := cell_of_row _ _ 8 _ _ (0, 0) g0.2.1
      have g10 : w5.cell? ⟨B0 + 1, 9, none⟩ = some (.slice aA m ac) := cell_of_row _ _ 9 _ _ (0, 0) g0.2.1
      exact ⟨.agg #[.int .u64 hi, .int .u64 lo, .int .u64 id, .int .u64 pa, .string xs, .string xo, .int .i64 st, .int .i64 xd, .bool xe, .slice aA m ac], w5, by simp only [execOp, h1]; simp [go_sem, g1, g2, g3, g4, g5, g6, g7, g8, g9, g10], PI.Post.pure ⟨fun w => Below.refl _ w, fun _ _ _ h k => h.trans (k.mono h.size)⟩ rfl trivial⟩
    · obtain rfl := Option.some.inj (show some _ = some o from ho)
      refine PI.shown_call rfl 45 fun a w5 L0 hr T => ?_
      have h0 : a.eval (.tmp 32) = .agg #[.string sv, .string op, .string ky, .string vl, .int .i64 du, .bool er] := T.at_ 3 32 (by kernel_rfl) (by kernel_rfl) (by kernel_rfl)
      have h1 : a.eval (.tmp 33) = .agg #[.int .u64 hi, .int .u64 lo, .int .u64 id, .int .u64 pa, .string xs, .string xo, .int .i64 st, .int .i64 xd, .bool xe, .slice aA m ac] := T.at_ 4 33 (by kernel_rfl) (by kernel_rfl) (by kernel_rfl)
      refine ⟨#[.agg #[.string sv, .string op, .string ky, .string vl, .int .i64 du, .bool er], .agg #[.int .u64 hi, .int .u64 lo, .int .u64 id, .int .u64 pa, .string xs, .string xo, .int .i64 st, .int .i64 xd, .bool xe, .slice aA m ac]], by simp only [execOp, resolve, List.map_toArray, List.map_cons, List.map_nil, h0, h1]; simp [go_sem, Act.eval], ?_⟩
      refine (HDM.out w5 (HST.out w5 hr).2.2).mono fun e w6 hh => ?_
      obtain ⟨rfl, hb6⟩ := hh
      exact ⟨_, rfl, hb6, rfl, fun _ _ h => h, fun j v _ _ _ _ h => StF.keep hb6 h, trivial⟩
    · obtain rfl := Option.some.inj (show some _ = some o from ho)
      refine PI.shown_val rfl fun a w5 L0 hr T => ?_
      have h1 : a.eval (.tmp 31) = .bool mb := T.at_ 2 31 (by kernel_rfl) (by kernel_rfl) (by kernel_rfl)
      have h2 : a.eval (.tmp 34) = .bool mb := T.at_ 5 34 (by kernel_rfl) (by kernel_rfl) (by kernel_rfl)
      exact ⟨.bool true, w5, by simp only [execOp, h1, h2]; simp [go_sem, Act.eval], PI.Post.pure ⟨fun w => Below.refl _ w, fun _ _ _ h k => h.trans (k.mono h.size)⟩ rfl trivial⟩
    · obtain rfl := Option.some.inj (show some _ = some o from ho)
      refine PI.shown_val rfl fun a w5 L0 hr T => ?_
      have h1 : a.eval (.tmp 35) = .bool true := T.at_ 6 35 (by kernel_rfl) (by kernel_rfl) (by kernel_rfl)
      exact ⟨.bool true, w5, by simp only [execOp, h1]; simp [go_sem], PI.Post.pure ⟨fun w => Below.refl _ w, fun _ _ _ h k => h.trans (k.mono h.size)⟩ rfl trivial⟩
    · obtain rfl := Option.some.inj (show some _ = some o from ho)
      refine PI.shown_val_if 7 36 true rfl (by kernel_rfl) (by kernel_rfl) (by kernel_rfl) (fun v w h => h) fun a w5 L0 hr T => ?_
      have h1 : a.eval (.tmp 0) = .slice A n c := T.was 0 (by kernel_rfl)
      exact ⟨.slice A n c, w5, by simp only [execOp, h1]; simp [go_sem], PI.Post.pure ⟨fun w => Below.refl _ w, fun _ _ _ h k => h.trans (k.mono h.size)⟩ rfl trivial⟩
    · obtain rfl := Option.some.inj (show some _ = some o from ho)
      refine PI.shown_val_if 7 36 true rfl (by kernel_rfl) (by kernel_rfl) (by kernel_rfl) (fun v w h => h) fun a w5 L0 hr T => ?_
      have h1 : a.eval (.tmp 5) = .pointer (some ⟨B0, 0, none⟩) := T.was 5 (by kernel_rfl)
      have g0 := HST.out w5 hr
      have g1 : w5.cell? ⟨B0, 0, none⟩ = some (.string sv) := cell_of_row _ _ 0 _ _ (0, 0) g0.1
      have g2 : w5.cell? ⟨B0, 1, none⟩ = some (.string op) := cell_of_row _ _ 1 _ _ (0, 0) g0.1
      have g3 : w5.cell? ⟨B0, 2, none⟩ = some (.string ky) := cell_of_row _ _ 2 _ _ (0, 0) g0.1
      have g4 : w5.cell? ⟨B0, 3, none⟩ = some (.string vl) := cell_of_row _ _ 3 _ _ (0, 0) g0.1
      have g5 : w5.cell? ⟨B0, 4, none⟩ = some (.int .i64 du) := cell_of_row _ _ 4 _ _ (0, 0) g0.1
      have g6 : w5.cell? ⟨B0, 5, none⟩ = some (.bool er) := cell_of_row _ _ 5 _ _ (0, 0) g0.1
      exact ⟨.agg #[.string sv, .string op, .string ky, .string vl, .int .i64 du, .bool er], w5, by simp only [execOp, h1]; simp [go_sem, g1, g2, g3, g4, g5, g6], PI.Post.pure ⟨fun w => Below.refl _ w, fun _ _ _ h k => h.trans (k.mono h.size)⟩ rfl trivial⟩
    · obtain rfl := Option.some.inj (show some _ = some o from ho)
      refine PI.shown_val_if 7 36 true rfl (by kernel_rfl) (by kernel_rfl) (by kernel_rfl) (fun v w h => h) fun a w5 L0 hr T => ?_
      have h1 : a.eval (.tmp 3) = .int .i64 z := T.was 3 (by kernel_rfl)
      exact ⟨.int .i64 z, w5, by simp only [execOp, h1]; simp [go_sem], PI.Post.pure ⟨fun w => Below.refl _ w, fun _ _ _ h k => h.trans (k.mono h.size)⟩ rfl trivial⟩
    · obtain rfl := Option.some.inj (show some _ = some o from ho)
      refine PI.shown_call_if 7 36 true rfl (by kernel_rfl) (by kernel_rfl) (by kernel_rfl) (fun v w h => h) 47 fun a w5 L0 hr T => ?_
      have h0 : a.eval (.tmp 37) = .slice A n c := T.at_ 8 37 (by kernel_rfl) (by kernel_rfl) (by kernel_rfl)
      have h1 : a.eval (.tmp 38) = .agg #[.string sv, .string op, .string ky, .string vl, .int .i64 du, .bool er] := T.at_ 9 38 (by kernel_rfl) (by kernel_rfl) (by kernel_rfl)
      have h2 : a.eval (.tmp 39) = .int .i64 z := T.at_ 10 39 (by kernel_rfl) (by kernel_rfl) (by kernel_rfl)
      refine ⟨#[.slice A n c, .agg #[.string sv, .string op, .string ky, .string vl, .int .i64 du, .bool er], .int .i64 z], by simp only [execOp, resolve, List.map_toArray, List.map_cons, List.map_nil, h0, h1, h2]; simp [go_sem, Act.eval], ?_⟩
      refine (HF1.out w5 (HST.out w5 hr).2.2).mono fun e w6 hh => ?_
      obtain ⟨Ax, cx, rfl, h7, hb6⟩ := hh
      exact ⟨_, rfl, hb6, ⟨Ax, cx, rfl, h7⟩, fun _ _ h => h, fun j v _ _ _ _ h => StF.keep hb6 h, trivial⟩
    · obtain rfl := Option.some.inj (show some _ = some o from ho)
      refine PI.shown_val_if 7 36 true rfl (by kernel_rfl) (by kernel_rfl) (by kernel_rfl) (fun v w h => h) fun a w5 L0 hr T => ?_
      have h1 : a.eval (.tmp 0) = .slice A n c := T.was 0 (by kernel_rfl)
      exact ⟨.slice A n c, w5, by simp only [execOp, h1]; simp [go_sem], PI.Post.pure ⟨fun w => Below.refl _ w, fun _ _ _ h k => h.trans (k.mono h.size)⟩ rfl trivial⟩
    · obtain rfl := Option.some.inj (show some _ = some o from ho)
      refine PI.shown_val_if 7 36 true rfl (by kernel_rfl) (by kernel_rfl) (by kernel_rfl) (fun v w h => h) fun a w5 L0 hr T => ?_
      have h1 : a.eval (.tmp 5) = .pointer (some ⟨B0, 0, none⟩) := T.was 5 (by kernel_rfl)
      have g0 := HST.out w5 hr
      have g1 : w5.cell? ⟨B0, 0, none⟩ = some (.string sv) := cell_of_row _ _ 0 _ _ (0, 0) g0.1
      have g2 : w5.cell? ⟨B0, 1, none⟩ = some (.string op) := cell_of_row _ _ 1 _ _ (0, 0) g0.1
      have g3 : w5.cell? ⟨B0, 2, none⟩ = some (.string ky) := cell_of_row _ _ 2 _ _ (0, 0) g0.1
      have g4 : w5.cell? ⟨B0, 3, none⟩ = some (.string vl) := cell_of_row _ _ 3 _ _ (0, 0) g0.1
      have g5 : w5.cell? ⟨B0, 4, none⟩ = some (.int .i64 du) := cell_of_row _ _ 4 _ _ (0, 0) g0.1
      have g6 : w5.cell? ⟨B0, 5, none⟩ = some (.bool er) := cell_of_row _ _ 5 _ _ (0, 0) g0.1
      exact ⟨.agg #[.string sv, .string op, .string ky, .string vl, .int .i64 du, .bool er], w5, by simp only [execOp, h1]; simp [go_sem, g1, g2, g3, g4, g5, g6], PI.Post.pure ⟨fun w => Below.refl _ w, fun _ _ _ h k => h.trans (k.mono h.size)⟩ rfl trivial⟩
    · obtain rfl := Option.some.inj (show some _ = some o from ho)
      refine PI.shown_val_if 7 36 true rfl (by kernel_rfl) (by kernel_rfl) (by kernel_rfl) (fun v w h => h) fun a w5 L0 hr T => ?_
      have h1 : a.eval (.tmp 3) = .int .i64 z := T.was 3 (by kernel_rfl)
      exact ⟨.int .i64 z, w5, by simp only [execOp, h1]; simp [go_sem], PI.Post.pure ⟨fun w => Below.refl _ w, fun _ _ _ h k => h.trans (k.mono h.size)⟩ rfl trivial⟩
    · obtain rfl := Option.some.inj (show some _ = some o from ho)
      refine PI.shown_call_if 7 36 true rfl (by kernel_rfl) (by kernel_rfl) (by kernel_rfl) (fun v w h => h) 48 fun a w5 L0 hr T => ?_
      have h0 : a.eval (.tmp 41) = .slice A n c := T.at_ 12 41 (by kernel_rfl) (by kernel_rfl) (by kernel_rfl)
      have h1 : a.eval (.tmp 42) = .agg #[.string sv, .string op, .string ky, .string vl, .int .i64 du, .bool er] := T.at_ 13 42 (by kernel_rfl) (by kernel_rfl) (by kernel_rfl)
      have h2 : a.eval (.tmp 43) = .int .i64 z := T.at_ 14 43 (by kernel_rfl) (by kernel_rfl) (by kernel_rfl)
      refine ⟨#[.slice A n c, .agg #[.string sv, .string op, .string ky, .string vl, .int .i64 du, .bool er], .int .i64 z], by simp only [execOp, resolve, List.map_toArray, List.map_cons, List.map_nil, h0, h1, h2]; simp [go_sem, Act.eval], ?_⟩
      refine (HF2.out w5 (HST.out w5 hr).2.2).mono fun e w6 hh => ?_
      obtain ⟨Ax, cx, rfl, h7, hb6⟩ := hh
      exact ⟨_, rfl, hb6, ⟨Ax, cx, rfl, h7⟩, fun _ _ h => h, fun j v _ _ _ _ h => StF.keep hb6 h, trivial⟩
    · obtain rfl := Option.some.inj (show some _ = some o from ho)
      refine PI.shown_call_if 7 36 true rfl (by kernel_rfl) (by kernel_rfl) (by kernel_rfl) (fun v w h => h) 46 fun a w5 L0 hr T => ?_
      obtain ⟨Ax, cx, e1, k1⟩ := T.at_ 11 40 (by kernel_rfl) (by kernel_rfl) (by kernel_rfl)
      obtain ⟨Ay, cy, e2, k2⟩ := T.at_ 15 44 (by kernel_rfl) (by kernel_rfl) (by kernel_rfl)
      refine ⟨#[.slice Ax R.length cx, .slice Ay R.length cy], by simp only [execOp, resolve, List.map_toArray, List.map_cons, List.map_nil, e1, e2]; simp [go_sem, Act.eval], ?_⟩
      refine (sametr_same Ax Ay R R.length cx cy w5.heap.size w5 rfl k1 k2 (Nat.le_refl _) HRL.out).mono fun e w6 hh => ?_
      obtain ⟨rfl, hb6⟩ := hh
      exact ⟨_, rfl, hb6, rfl, fun _ _ h => h, fun j v _ _ _ _ h => StF.keep hb6 h, trivial⟩
    · obtain rfl := Option.some.inj (show some _ = some o from ho)
      refine PI.shown_val rfl fun a w5 L0 hr T => ?_
      have h0 : a.eval (.tmp 36) = .bool true := T.at_ 7 36 (by kernel_rfl) (by kernel_rfl) (by kernel_rfl)
      have h1 : a.eval (.tmp 45) = .bool true := T.at_ 16 45 (by kernel_rfl) (by kernel_rfl) (by kernel_rfl)
      exact ⟨.bool true, w5, by simp only [execOp, h0, h1]; simp [go_sem, Act.eval], PI.Post.pure ⟨fun w => Below.refl _ w, fun _ _ _ h k => h.trans (k.mono h.size)⟩ rfl trivial⟩
    · obtain rfl := Option.some.inj (show some _ = some o from ho)
      refine PI.shown_val rfl fun a w5 L0 hr T => ?_
      have h1 : a.eval (.tmp 46) = .bool true := T.at_ 17 46 (by kernel_rfl) (by kernel_rfl) (by kernel_rfl)
      exact ⟨.bool true, w5, by simp only [execOp, h1]; simp [go_sem], PI.Post.pure ⟨fun w => Below.refl _ w, fun _ _ _ h k => h.trans (k.mono h.size)⟩ rfl trivial⟩
    · obtain rfl := Option.some.inj (show some _ = some o from ho)
      refine PI.shown_val_if 18 47 true rfl (by kernel_rfl) (by kernel_rfl) (by kernel_rfl) (fun v w h => h) fun a w5 L0 hr T => ?_
      have h1 : a.eval (.tmp 0) = .slice A n c := T.was 0 (by kernel_rfl)
      exact ⟨.slice A n c, w5, by simp only [execOp, h1]; simp [go_sem], PI.Post.pure ⟨fun w => Below.refl _ w, fun _ _ _ h k => h.trans (k.mono h.size)⟩ rfl trivial⟩
    · obtain rfl := Option.some.inj (show some _ = some o from ho)
      refine PI.shown_val_if 18 47 true rfl (by kernel_rfl) (by kernel_rfl) (by kernel_rfl) (fun v w h => h) fun a w5 L0 hr T => ?_
      have h1 : a.eval (.tmp 5) = .pointer (some ⟨B0, 0, none⟩) := T.was 5 (by kernel_rfl)
      have g0 := HST.out w5 hr
      have g1 : w5.cell? ⟨B0, 0, none⟩ = some (.string sv) := cell_of_row _ _ 0 _ _ (0, 0) g0.1
      have g2 : w5.cell? ⟨B0, 1, none⟩ = some (.string op) := cell_of_row _ _ 1 _ _ (0, 0) g0.1
      have g3 : w5.cell? ⟨B0, 2, none⟩ = some (.string ky) := cell_of_row _ _ 2 _ _ (0, 0) g0.1
      have g4 : w5.cell? ⟨B0, 3, none⟩ = some (.string vl) := cell_of_row _ _ 3 _ _ (0, 0) g0.1
      have g5 : w5.cell? ⟨B0, 4, none⟩ = some (.int .i64 du) := cell_of_row _ _ 4 _ _ (0, 0) g0.1
      have g6 : w5.cell? ⟨B0, 5, none⟩ = some (.bool er) := cell_of_row _ _ 5 _ _ (0, 0) g0.1
      exact ⟨.agg #[.string sv, .string op, .string ky, .string vl, .int .i64 du, .bool er], w5, by simp only [execOp, h1]; simp [go_sem, g1, g2, g3, g4, g5, g6], PI.Post.pure ⟨fun w => Below.refl _ w, fun _ _ _ h k => h.trans (k.mono h.size)⟩ rfl trivial⟩
    · obtain rfl := Option.some.inj (show some _ = some o from ho)
      refine PI.shown_call_if 18 47 true rfl (by kernel_rfl) (by kernel_rfl) (by kernel_rfl) (fun v w h => h) 49 fun a w5 L0 hr T => ?_
      have h0 : a.eval (.tmp 48) = .slice A n c := T.at_ 19 48 (by kernel_rfl) (by kernel_rfl) (by kernel_rfl)
      have h1 : a.eval (.tmp 49) = .agg #[.string sv, .string op, .string ky, .string vl, .int .i64 du, .bool er] := T.at_ 20 49 (by kernel_rfl) (by kernel_rfl) (by kernel_rfl)
      refine ⟨#[.slice A n c, .agg #[.string sv, .string op, .string ky, .string vl, .int .i64 du, .bool er]], by simp only [execOp, resolve, List.map_toArray, List.map_cons, List.map_nil, h0, h1]; simp [go_sem, Act.eval], ?_⟩
      refine (HC1.out w5 (HST.out w5 hr).2.2).mono fun e w6 hh => ?_
      obtain ⟨rfl, hb6⟩ := hh
      exact ⟨_, rfl, hb6, rfl, fun _ _ h => h, fun j v _ _ _ _ h => StF.keep hb6 h, trivial⟩
    · obtain rfl := Option.some.inj (show some _ = some o from ho)
      refine PI.shown_val_if 18 47 true rfl (by kernel_rfl) (by kernel_rfl) (by kernel_rfl) (fun v w h => h) fun a w5 L0 hr T => ?_
      have h1 : a.eval (.tmp 0) = .slice A n c := T.was 0 (by kernel_rfl)
      exact ⟨.slice A n c, w5, by simp only [execOp, h1]; simp [go_sem], PI.Post.pure ⟨fun w => Below.refl _ w, fun _ _ _ h k => h.trans (k.mono h.size)⟩ rfl trivial⟩
    · obtain rfl := Option.some.inj (show some _ = some o from ho)
      refine PI.shown_val_if 18 47 true rfl (by kernel_rfl) (by kernel_rfl) (by kernel_rfl) (fun v w h => h) fun a w5 L0 hr T => ?_
      have h1 : a.eval (.tmp 5) = .pointer (some ⟨B0, 0, none⟩) := T.was 5 (by kernel_rfl)
      have g0 := HST.out w5 hr
      have g1 : w5.cell? ⟨B0, 0, none⟩ = some (.string sv) := cell_of_row _ _ 0 _ _ (0, 0) g0.1
      have g2 : w5.cell? ⟨B0, 1, none⟩ = some (.string op) := cell_of_row _ _ 1 _ _ (0, 0) g0.1
      have g3 : w5.cell? ⟨B0, 2, none⟩ = some (.string ky) := cell_of_row _ _ 2 _ _ (0, 0) g0.1
      have g4 : w5.cell? ⟨B0, 3, none⟩ = some (.string vl) := cell_of_row _ _ 3 _ _ (0, 0) g0.1
      have g5 : w5.cell? ⟨B0, 4, none⟩ = some (.int .i64 du) := cell_of_row _ _ 4 _ _ (0, 0) g0.1
      have g6 : w5.cell? ⟨B0, 5, none⟩ = some (.bool er) := cell_of_row _ _ 5 _ _ (0, 0) g0.1
      exact ⟨.agg #[.string sv, .string op, .string ky, .string vl, .int .i64 du, .bool er], w5, by simp only [execOp, h1]; simp [go_sem, g1, g2, g3, g4, g5, g6], PI.Post.pure ⟨fun w => Below.refl _ w, fun _ _ _ h k => h.trans (k.mono h.size)⟩ rfl trivial⟩
    · obtain rfl := Option.some.inj (show some _ = some o from ho)
      refine PI.shown_call_if 18 47 true rfl (by kernel_rfl) (by kernel_rfl) (by kernel_rfl) (fun v w h => h) 50 fun a w5 L0 hr T => ?_
      have h0 : a.eval (.tmp 51) = .slice A n c := T.at_ 22 51 (by kernel_rfl) (by kernel_rfl) (by kernel_rfl)
      have h1 : a.eval (.tmp 52) = .agg #[.string sv, .string op, .string ky, .string vl, .int .i64 du, .bool er] := T.at_ 23 52 (by kernel_rfl) (by kernel_rfl) (by kernel_rfl)
      refine ⟨#[.slice A n c, .agg #[.string sv, .string op, .string ky, .string vl, .int .i64 du, .bool er]], by simp only [execOp, resolve, List.map_toArray, List.map_cons, List.map_nil, h0, h1]; simp [go_sem, Act.eval], ?_⟩
      refine (HC2.out w5 (HST.out w5 hr).2.2).mono fun e w6 hh => ?_
      obtain ⟨rfl, hb6⟩ := hh
      exact ⟨_, rfl, hb6, rfl, fun _ _ h => h, fun j v _ _ _ _ h => StF.keep hb6 h, trivial⟩
    · obtain rfl := Option.some.inj (show some _ = some o from ho)
      refine PI.shown_val_if 18 47 true rfl (by kernel_rfl) (by kernel_rfl) (by kernel_rfl) (fun v w h => h) fun a w5 L0 hr T => ?_
      have h1 : a.eval (.tmp 50) = .int .i64 cnt := T.at_ 21 50 (by kernel_rfl) (by kernel_rfl) (by kernel_rfl)
      have h2 : a.eval (.tmp 53) = .int .i64 cnt := T.at_ 24 53 (by kernel_rfl) (by kernel_rfl) (by kernel_rfl)
      exact ⟨.bool true, w5, by simp only [execOp, h1, h2]; simp [go_sem, Act.eval], PI.Post.pure ⟨fun w => Below.refl _ w, fun _ _ _ h k => h.trans (k.mono h.size)⟩ rfl trivial⟩
    · obtain rfl := Option.some.inj (show some _ = some o from ho)
      refine PI.shown_val rfl fun a w5 L0 hr T => ?_
      have h0 : a.eval (.tmp 47) = .bool true := T.at_ 18 47 (by kernel_rfl) (by kernel_rfl) (by kernel_rfl)
      have h1 : a.eval (.tmp 54) = .bool true := T.at_ 25 54 (by kernel_rfl) (by kernel_rfl) (by kernel_rfl)
      exact ⟨.bool true, w5, by simp only [execOp, h0, h1]; simp [go_sem, Act.eval], PI.Post.pure ⟨fun w => Below.refl _ w, fun _ _ _ h k => h.trans (k.mono h.size)⟩ rfl trivial⟩
    · obtain rfl := Option.some.inj (show some _ = some o from ho)
      refine PI.shown_val rfl fun a w5 L0 hr T => ?_
      have h1 : a.eval (.tmp 55) = .bool true := T.at_ 26 55 (by kernel_rfl) (by kernel_rfl) (by kernel_rfl)
      exact ⟨.bool true, w5, by simp only [execOp, h1]; simp [go_sem], PI.Post.pure ⟨fun w => Below.refl _ w, fun _ _ _ h k => h.trans (k.mono h.size)⟩ rfl trivial⟩
    · cases ho
  · rw [← hW]
    intro x wE hr hf he _
    have h27 := hf 27 _ 8 rfl rfl (by decide)
    have hx27 : x 27 = .bool true := h27
    have HBE := Lib.hid (HST.out wE hr).2.2
    clear hf he hr h27
    simp only [PI.putAll, Act.put, List.setIfInBounds_toArray, List.set_cons_zero, List.set_cons_succ]
    rw [hx27]
    go_wp2_with fail
    go_ret
    exact ⟨rfl, HBE.out⟩
end Go.Proofs.Ytmldelgbmadegaa
