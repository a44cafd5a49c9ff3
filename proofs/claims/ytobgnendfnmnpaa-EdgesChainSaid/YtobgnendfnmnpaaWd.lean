/- EdgesChain. -/
import Derived.Test.YtobgnendfnmnpaaWc
import Derived.Test.YtobgnendfnmnpaaWe
import Derived.Test.YtobgnendfnmnpaaOt
import Derived.StillTailTactics
import Derived.Deep.RegionHeld3
namespace Go.Proofs.Ytobgnendfnmnpaa
open Go.RowKit
set_option linter.unusedVariables false
set_option linter.unusedSimpArgs false
set_option maxRecDepth 100000

theorem i64_and3 (n : Int) : bits .and .i64 n 3 = n % 4 := by
  have h15 : (BitVec.ofInt 64 3).toNat = 2 ^ 2 - 1 := by decide
  have key : (BitVec.ofInt 64 n &&& BitVec.ofInt 64 3).toNat = (n % ((2 ^ 64 : Nat) : Int)).toNat % 2 ^ 2 := by
    rw [BitVec.toNat_and, BitVec.toNat_ofInt, h15, Nat.and_two_pow_sub_one_eq_mod]
  show IntKind.i64.wrap ((BitVec.ofInt 64 n &&& BitVec.ofInt 64 3).toNat : Nat) = n % 4
  rw [key, IntKind.wrap_i64]
  omega
def kOf (s : List Int) (i : Nat) : Nat := (s.getD i 0 % 4).toNat
theorem kOf_lt (s : List Int) (i : Nat) : kOf s i < 4 := by unfold kOf; omega
def eOf (e : List Bool) (i : Nat) : Bool := e.getD i false
theorem spC_ok {k : Nat → Nat} (hk : ∀ i, k i < 4) (e : Nat → Bool) (i : Nat) (hi : i ≤ 1000) : (spC k e i).s.ok := ⟨(show (0 : Int) ≤ 0 ∧ (0 : Int) ≤ 18446744073709551615 by decide), (show (0 : Int) ≤ 0 ∧ (0 : Int) ≤ 18446744073709551615 by decide), (show (0 : Int) ≤ ((i + 1 : Nat) : Int) ∧ ((i + 1 : Nat) : Int) ≤ 18446744073709551615 by omega), (show (0 : Int) ≤ (i : Int) ∧ (i : Int) ≤ 18446744073709551615 by omega), (show (nmC (k i)).size ≤ maxLen by rw [nm_size _ (hk i)]; decide), (show (1 : Nat) ≤ maxLen by decide), (show (-9223372036854775808 : Int) ≤ 0 ∧ (0 : Int) ≤ 9223372036854775807 by decide), (show (-9223372036854775808 : Int) ≤ 0 ∧ (0 : Int) ≤ 9223372036854775807 by decide), Nat.zero_le _, fun a h => by cases h⟩
def rowZ (nn : List Int) : Obj := .cells (nn.map (Value.int .i64)).toArray 27
theorem rowZ_cell {W : World} {N j : Nat} {nn : List Int} {v : Int} (h : W.heap[N]? = some (rowZ nn)) (hj : j < nn.length) (hv : v = nn.getD j 0) : W.cell? ⟨N, j, none⟩ = some (.int .i64 v) := by
  refine (cell_of_row W N j _ 27 (0, 0) h).trans ?_
  rw [hv, List.getD_eq_getElem?_getD, List.getElem?_eq_getElem hj]
  simp [hj]
structure ChS (w : World) (N : Nat) (k : Nat → Nat) (e : Nat → Bool) (i : Nat) (nn bb : List Int) (lv : Value) (wr : World) : Prop where
  b : Below w.heap.size w wr
  lo : w.heap.size ≤ N
  sz : N + 2 ≤ wr.heap.size
  n : wr.heap[N]? = some (rowZ nn)
  m : wr.heap[N + 1]? = some (rowZ bb)
  row : RowS wr (N + 2) 0 lv (lsC k e i)
  num : NumC k e i nn bb
structure Store2 (w : World) (N : Nat) (nn bb : List Int) (lv : Value) (l : List Ls) (wr : World) : Prop where
  b : Below w.heap.size w wr
  lo : w.heap.size ≤ N
  sz : N + 2 ≤ wr.heap.size
  n : wr.heap[N]? = some (rowZ nn)
  m : wr.heap[N + 1]? = some (rowZ bb)
  row : RowS wr (N + 2) 0 lv l
theorem rowZ_set {w : World} {N j : Nat} {nn : List Int} {v : Int} (h : w.heap[N]? = some (rowZ nn)) : (w.setCell ⟨N, j, none⟩ (.int .i64 v)).heap[N]? = some (rowZ (nn.set j v)) := by
  refine (heap_setCell_same w N j _ _ _ h).trans ?_
  unfold rowZ
  simp [List.map_set]
theorem Store2.setN {w : World} {N : Nat} {nn bb : List Int} {lv : Value} {l : List Ls} {wr : World} (h : Store2 w N nn bb lv l wr) {j : Nat} {v : Int} (hj : j < nn.length) : Store2 w N (nn.set j v) bb lv l (wr.setCell ⟨N, j, none⟩ (.int .i64 v)).drew :=
  ⟨(h.b.setCell (by have := h.lo; show w.heap.size ≤ N; omega) _ : Below w.heap.size w (wr.setCell ⟨N, j, none⟩ (.int .i64 v))).trans ⟨rfl, rfl, rfl, Nat.le_refl _, fun _ _ => rfl⟩, h.lo, (by have := h.sz; show N + 2 ≤ (wr.setCell ⟨N, j, none⟩ (.int .i64 v)).heap.size; simpa using this), rowZ_set h.n, (heap_setCell_other wr ⟨N, j, none⟩ (N + 1) _ (by simp)).trans h.m,
    ⟨own_drew (own_far h.row.own (by show N < N + 2; omega) _), fun x hx => (h.row.each x hx).keep (fun p hp => absurd hp (Nat.not_lt_zero _))⟩⟩
theorem Store2.setM {w : World} {N : Nat} {nn bb : List Int} {lv : Value} {l : List Ls} {wr : World} (h : Store2 w N nn bb lv l wr) {j : Nat} {v : Int} (hj : j < bb.length) : Store2 w N nn (bb.set j v) lv l (wr.setCell ⟨N + 1, j, none⟩ (.int .i64 v)).drew :=
  ⟨(h.b.setCell (by have := h.lo; show w.heap.size ≤ N + 1; omega) _ : Below w.heap.size w (wr.setCell ⟨N + 1, j, none⟩ (.int .i64 v))).trans ⟨rfl, rfl, rfl, Nat.le_refl _, fun _ _ => rfl⟩, h.lo, (by have := h.sz; show N + 2 ≤ (wr.setCell ⟨N + 1, j, none⟩ (.int .i64 v)).heap.size; simpa using this), (heap_setCell_other wr ⟨N + 1, j, none⟩ N _ (by simp)).trans h.n, rowZ_set h.m,
    ⟨own_drew (own_far h.row.own (by show N + 1 < N + 2; omega) _), fun x hx => (h.row.each x hx).keep (fun p hp => absurd hp (Nat.not_lt_zero _))⟩⟩
theorem cell_setCell_else (w : World) {p q : Addr} (h : p.block ≠ q.block) (v : Value) : (w.setCell p v).drew.cell? q = w.cell? q :=
  World.cell?_of_block (heap_setCell_other w p q.block v (fun e => h e.symm))
theorem infoEdg : (Try.prog.info? 36).map (fun i => (i.zero, i.size, i.bytes)) = some (some (.agg #[.string ⟨#[]⟩, .string ⟨#[]⟩, .int .i64 0, .int .i64 0]), 4, 48) := by kernel_rfl
structure WantS (w : World) (N K : Nat) (nn bb : List Int) (lv : Value) (l : List Ls) (L : List Eg) (vv : Value) (wr : World) : Prop where
  st : Store2 w N nn bb lv l wr
  own : wr.ownsRow K 36 4 vv L.length (L.flatMap Eg.cells)
  sz : K ≤ wr.heap.size
  lo : N + 2 ≤ K
theorem Store2.below {w : World} {N : Nat} {nn bb : List Int} {lv : Value} {l : List Ls} {wr w2 : World} (h : Store2 w N nn bb lv l wr) (hb : Below wr.heap.size wr w2) : Store2 w N nn bb lv l w2 :=
  ⟨h.b.trans (hb.mono h.b.size), h.lo, Nat.le_trans h.sz hb.size, (hb.block _ (by have := h.sz; omega)).trans h.n, (hb.block _ (by have := h.sz; omega)).trans h.m, h.row.below hb (Nat.zero_le _)⟩
theorem WantS.below {w : World} {N K : Nat} {nn bb : List Int} {lv : Value} {l : List Ls} {L : List Eg} {vv : Value} {wr w2 : World} (h : WantS w N K nn bb lv l L vv wr) (hb : Below wr.heap.size wr w2) : WantS w N K nn bb lv l L vv w2 :=
  ⟨h.st.below hb, own_below h.own hb, Nat.le_trans h.sz hb.size, h.lo⟩
theorem appWant {w : World} {N K : Nat} {nn bb : List Int} {lv : Value} {l : List Ls} {L : List Eg} {vv : Value} {wr : World} {ty : TypeId} {y : Eg} {B' : Nat} {A : Option Addr} (h : WantS w N K nn bb lv l L vv wr) (hr : Rd wr B' A ([y].flatMap Eg.cells)) (hl : L.length ≤ 1000) :
    ∃ v' w', (Builtin.append_ #[34, 34] ty #[vv, .slice A 1 1]).run Try.prog wr = .ok v' w' ∧ WantS w N K nn bb lv l (L ++ [y]) v' w' := by
  obtain ⟨i0, hi, hz0, hz1, hz2⟩ := info_parts infoEdg
  obtain ⟨v', w', r1, r2, r3⟩ := run_append_rd (P := Try.prog) wr K 34 ty 36 i0 _ 4 48 Try.underlying34 hi hz0 hz1 hz2 rfl vv L.length (L.flatMap Eg.cells) h.own B' A 1 1 ([y].flatMap Eg.cells) rfl hr (by simpa using gcells_one1 y) (by unfold maxLen; omega) (by omega) h.sz
  have hb : Below K wr w' := r3.below (Below.refl K wr) h.sz (own_block_ge h.own)
  have hlo := h.lo
  refine ⟨v', w', r1, ⟨⟨h.st.b.trans (hb.mono (by have := h.st.lo; omega)), h.st.lo, Nat.le_trans h.st.sz hb.size, (hb.block _ (by omega)).trans h.st.n, (hb.block _ (by omega)).trans h.st.m, ⟨own_grew h.st.row.own r3 (own_apart h.st.row.own h.own (by decide)), fun x hx => (h.st.row.each x hx).keep (fun p hp => absurd hp (Nat.not_lt_zero _))⟩⟩, by rw [List.length_append, List.flatMap_append]; exact r2, Nat.le_trans h.sz hb.size, h.lo⟩⟩
set_option maxHeartbeats 16000000 in
theorem chain11 (sA eA : Option Addr) (s : List Int) (e : List Bool) (n sc m ec : Nat) (w : World) (hn : n = s.length) (hm : m = e.length) (hs : Rd w w.heap.size sA (s.map (Value.int .i64))) (he : Rd w w.heap.size eA (e.map Value.bool)) (hmn : n ≤ maxLen) (hmm : m ≤ maxLen) :
    Calls Try.prog 3 #[.slice sA n sc, .slice eA m ec] w fun e w' => e = .returned (.bool true) ∧ Below w.heap.size w w' := by
  have HN := Lib.hid hn
  have HM := Lib.hid hm
  have HS := Lib.hid hs
  have HE := Lib.hid he
  simp only [maxLen] at hmn hmm
  clear hn hm hs he
  by_cases h40 : n ≤ 40
  case neg =>
    have d1 : decide ((40 : Int) < (n : Int)) = true := decide_eq_true (by omega)
    go_enter Try.func3, Try.ntmps3
    go_wp2_with (go_at_call 5; (with_reducible refine (alive11_calls _).mono ?_); rintro ex w1 ⟨rfl, hb1⟩; have HB1 := Lib.hid hb1; clear hb1)
    go_ret
    exact ⟨rfl, HB1.out⟩
  have d1 : decide ((40 : Int) < (n : Int)) = false := decide_eq_false (by omega)
  by_cases hml : n ≤ m
  case neg =>
    have d2 : decide ((m : Int) < (n : Int)) = true := decide_eq_true (by omega)
    go_enter Try.func3, Try.ntmps3
    go_wp2_with (go_at_call 5; (with_reducible refine (alive11_calls _).mono ?_); rintro ex w1 ⟨rfl, hb1⟩; have HB1 := Lib.hid hb1; clear hb1)
    go_ret
    exact ⟨rfl, HB1.out⟩
  have d2 : decide (m < n) = false := decide_eq_false (by omega)
  go_enter Try.func3, Try.ntmps3
  go_wp2_with (go_at_call 5; (with_reducible refine (alive11_calls _).mono ?_); rintro ex w1 ⟨rfl, hb1⟩; have HB1 := Lib.hid hb1; clear hb1)
  clear d1 d2
  obtain ⟨N, hN⟩ : ∃ N, N = w1.heap.size := ⟨_, rfl⟩
  have HNE := Lib.hid hN
  rw [← hN]
  go_loopw [7, 10] (fun lv iv wr => ∃ (i : Nat) (nn bb : List Int), iv = .int .i64 i ∧ i ≤ n ∧ Hid (ChS w N (kOf s) (eOf e) i nn bb lv wr)) (fun _ iv _ => n - (intOf iv).toNat)
  case atStart =>
    refine ⟨0, List.replicate 16 0, List.replicate 16 0, rfl, Nat.zero_le _, Lib.hid ⟨?_, by rw [hN]; exact HB1.out.size, by rw [hN]; simp, ?_, ?_, RowS.nil _ _ _, NumC.zero _ _⟩⟩
    · exact (HB1.out.alloc HB1.out.size _).alloc (by simp; exact Nat.le_succ_of_le HB1.out.size) _
    · rw [hN]; exact two0 w1 _ _
    · rw [hN]; exact two1 w1 _ _
  case round =>
    obtain ⟨i, nn, bb, rfl, hi, HC⟩ := hrel
    clear hN
    by_cases hlt : i < n
    · obtain ⟨x, hx⟩ : ∃ x, s[i]? = some x := ⟨_, List.getElem?_eq_getElem (by rw [← HN.out]; exact hlt)⟩
      obtain ⟨b, hb⟩ : ∃ b, e[i]? = some b := ⟨_, List.getElem?_eq_getElem (by rw [← HM.out]; omega)⟩
      obtain ⟨sa, hsa, hsb, hsc⟩ := (HS.out.below HC.out.b) (by rw [List.length_map, ← HN.out]; omega)
      obtain ⟨ea, hea, heb, hec⟩ := (HE.out.below HC.out.b) (by rw [List.length_map, ← HM.out]; omega)
      subst hsa
      subst hea
      have c0 : wr.cell? (sa.add i) = some (.int .i64 x) := hsc i _ (by rw [List.getElem?_map, hx]; rfl)
      have c1 : wr.cell? (ea.add i) = some (.bool b) := hec i _ (by rw [List.getElem?_map, hb]; rfl)
      obtain ⟨q, hq⟩ : ∃ q, q = kOf s i := ⟨_, rfl⟩
      have hq4 : q < 4 := by rw [hq]; exact kOf_lt s i
      have e3 : bits .and .i64 x 3 = (q : Int) := by
        rw [i64_and3, hq]; unfold kOf
        rw [List.getD_eq_getElem?_getD, hx]
        simp only [Option.getD_some]; omega
      have HQ := Lib.hid hq
      have HBE : Hid (b = eOf e i) := Lib.hid (by unfold eOf; rw [List.getD_eq_getElem?_getD, hb]; rfl)
      clear hx hb hsc hec hq
      go_upto_region 11 with fail
      have HO := Lib.hid HC.out.row.own
      obtain ⟨nl, hnl⟩ : ∃ nl, nl = (lsC (kOf s) (eOf e) i).length := ⟨_, rfl⟩
      have hnli : nl ≤ 40 := by rw [hnl, lsC_len]; omega
      have HNL := Lib.hid (hnl.trans (lsC_len _ _ _))
      rw [← hnl] at HO
      clear hnl
      obtain ⟨i1, hi1⟩ : ∃ i1, i1 = i + 1 := ⟨_, rfl⟩
      obtain ⟨q1, hq1⟩ : ∃ q1, q1 = q + 1 := ⟨_, rfl⟩
      have iw1 : IntKind.i64.wrap ((i : Int) + 1) = (i1 : Int) := by rw [IntKind.wrap_i64]; omega
      have iw2 : IntKind.u64.wrap (i1 : Int) = (i1 : Int) := by rw [IntKind.wrap_u64]; omega
      have iw3 : IntKind.u64.wrap (i : Int) = (i : Int) := by rw [IntKind.wrap_u64]; omega
      have iw4 : IntKind.i64.wrap ((q : Int) + 1) = (q1 : Int) := by rw [IntKind.wrap_i64]; omega
      have iw5 : IntKind.i64.wrap (q1 : Int) = (q1 : Int) := by rw [IntKind.wrap_i64]; omega
      have iw6 : IntKind.i64.wrap (i1 : Int) = (i1 : Int) := by rw [IntKind.wrap_i64]; omega
      have j1 : (0 : Int) ≤ (q : Int) := by omega
      have j2 : (q : Int) ≤ (q1 : Int) := by omega
      have j3 : (q1 : Int) ≤ 4 := by omega
      have j4 : q ≤ q1 := by omega
      have j5 : q1 ≤ 4 := by omega
      have k0 : (0 : Int) ≤ (i : Int) := by omega
      have k1 : (i : Int) < (n : Int) := by omega
      have k2 : (i : Int) < (m : Int) := by omega
      have HI1 := Lib.hid hi1
      have HQ1 := Lib.hid hq1
      have na := World.new_ne wr _ c1
      have KA : Hid ((ea.add i).block < w.heap.size) := Lib.hid (by rw [block_add]; exact heb)
      clear hi1 hq1 heb hsb
      have hsp : (spC (kOf s) (eOf e) i).cells = [.int .u64 0, .int .u64 0, .int .u64 (i1 : Int), .int .u64 (i : Int), .string ((⟨#[97, 98, 99, 100]⟩ : ByteArray).extract q q1), .string ⟨#[111]⟩, .int .i64 0, .int .i64 0, .bool b, .slice none 0 0] := by
        rw [HI1.out, HQ1.out, HQ.out, HBE.out]; rfl
      have HRA : Hid (RowS (wr.alloc (.cells #[.int .u64 0, .int .u64 0, .int .u64 (i1 : Int), .int .u64 (i : Int), .string ((⟨#[97, 98, 99, 100]⟩ : ByteArray).extract q q1), .string ⟨#[111]⟩, .int .i64 0, .int .i64 0, .bool b, .slice none 0 0] 33)).drew (N + 2) 0 u7 (lsC (kOf s) (eOf e) i)) := Lib.hid ⟨own_drew (HC.out.row.own.alloc _), fun x hx => (HC.out.row.each x hx).keep (fun p hp => absurd hp (Nat.not_lt_zero _))⟩
      have HRB : Hid (Rd (wr.alloc (.cells #[.int .u64 0, .int .u64 0, .int .u64 (i1 : Int), .int .u64 (i : Int), .string ((⟨#[97, 98, 99, 100]⟩ : ByteArray).extract q q1), .string ⟨#[111]⟩, .int .i64 0, .int .i64 0, .bool b, .slice none 0 0] 33)).drew (wr.heap.size + 1) (some ⟨wr.heap.size, 0, none⟩) ([spC (kOf s) (eOf e) i].flatMap Ls.cells)) := Lib.hid (by
        rw [List.flatMap_cons, List.flatMap_nil, List.append_nil, hsp]
        exact Rd.drew (Rd.lit wr #[.int .u64 0, .int .u64 0, .int .u64 (i1 : Int), .int .u64 (i : Int), .string ((⟨#[97, 98, 99, 100]⟩ : ByteArray).extract q q1), .string ⟨#[111]⟩, .int .i64 0, .int .i64 0, .bool b, .slice none 0 0] _))
      have APP := Lib.hid (fun ty => appRowS (ty := ty) (xs := [spC (kOf s) (eOf e) i]) 1 1 rfl HRA.out (fun y hy => by
        rw [List.mem_singleton] at hy; subst hy
        exact ⟨Rd.nil, ⟨Nat.le_refl _, Nat.zero_le _⟩, spC_ok (kOf_lt s) (eOf e) i (by omega)⟩) HRB.out (by rw [lsC_len]; omega) (by decide) (show N + 2 ≤ (wr.alloc (.cells #[.int .u64 0, .int .u64 0, .int .u64 (i1 : Int), .int .u64 (i : Int), .string ((⟨#[97, 98, 99, 100]⟩ : ByteArray).extract q q1), .string ⟨#[111]⟩, .int .i64 0, .int .i64 0, .bool b, .slice none 0 0] 33)).drew.heap.size from Nat.le_trans HC.out.sz ((Below.refl wr.heap.size wr).alloc (Nat.le_refl _) _).size) (Nat.zero_le _))
      have HSZA : Hid (N + 2 ≤ (wr.alloc (.cells #[.int .u64 0, .int .u64 0, .int .u64 (i1 : Int), .int .u64 (i : Int), .string ((⟨#[97, 98, 99, 100]⟩ : ByteArray).extract q q1), .string ⟨#[111]⟩, .int .i64 0, .int .i64 0, .bool b, .slice none 0 0] 33)).drew.heap.size) := Lib.hid (Nat.le_trans HC.out.sz ((Below.refl wr.heap.size wr).alloc (Nat.le_refl _) (.cells #[.int .u64 0, .int .u64 0, .int .u64 (i1 : Int), .int .u64 (i : Int), .string ((⟨#[97, 98, 99, 100]⟩ : ByteArray).extract q q1), .string ⟨#[111]⟩, .int .i64 0, .int .i64 0, .bool b, .slice none 0 0] 33)).size)
      have HNB : Hid (∀ k, u7.ownBlock = some k → N + 2 ≤ k) := Lib.hid (own_block_ge HC.out.row.own)
      have KB : Hid ((ea.add i).block < N + 2) := Lib.hid (by have := KA.out; have := HC.out.lo; omega)
      clear hsp
      go_region_held3 (fun w' => w'.cell? (ea.add i) = some (.bool b))
        (first
          | go_keep
          | exact (hg1.cell HSZA.out HNB.out KB.out).trans (by go_simp))
        ((refine step_app (by rfl) (.tmp 43) (.tmp 59) _ _ (by rfl) (by rfl) (by rfl) (APP.out _) ?_; rintro v2 w2 ⟨ho1, hg1⟩))
      have HG1 := Lib.hid (grew_drew hg1).alloc
      have HB2 := Lib.hid (HG1.out.below (Below.refl (N + 2) wr) HC.out.sz HNB.out)
      rw [← lsC_succ] at ho1
      have HRW := Lib.hid ho1
      have HC2 : Hid (Below w.heap.size w w2 ∧ N + 2 ≤ w2.heap.size ∧ w2.heap[N]? = some (rowZ nn) ∧ w2.heap[N + 1]? = some (rowZ bb)) := Lib.hid ⟨HC.out.b.trans (HB2.out.mono (by have := HC.out.lo; omega)), Nat.le_trans HC.out.sz HB2.out.size, (HB2.out.block _ (by omega)).trans HC.out.n, (HB2.out.block _ (by omega)).trans HC.out.m⟩
      have HNUM := Lib.hid HC.out.num
      have HLO := Lib.hid HC.out.lo
      clear hg1 ho1 HC HRA HRB APP HO HSZA HG1 HB2 c0 c1 iw1 iw2 iw3 iw4 iw5 iw6
      rcases Nat.eq_zero_or_pos i with h0 | h0
      · have d0 : decide ((0 : Int) < (i : Int)) = false := decide_eq_false (by omega)
        go_wp2_with fail
        go_roundw
        case rel =>
          refine ⟨i + 1, nn, bb, by go_num, by omega, Lib.hid ⟨HC2.out.1, HLO.out, HC2.out.2.1, HC2.out.2.2.1, HC2.out.2.2.2, HRW.out, ?_⟩⟩
          have := HNUM.out
          rw [h0] at this ⊢
          exact this.first
        case measure => simp [intOf]; omega
      · have d0 : decide ((0 : Int) < (i : Int)) = true := decide_eq_true (by omega)
        obtain ⟨i0, hi0⟩ : ∃ i0, i0 = i - 1 := ⟨_, rfl⟩
        have i7 : (i : Int) - 1 = (i0 : Int) := by omega
        have k3 : (0 : Int) ≤ (i0 : Int) := by omega
        have k4 : (i0 : Int) < (n : Int) := by omega
        obtain ⟨y, hy⟩ : ∃ y, s[i0]? = some y := ⟨_, List.getElem?_eq_getElem (by rw [← HN.out]; omega)⟩
        obtain ⟨sa', hsa, _, hsc⟩ := (HS.out.below HC2.out.1) (by rw [List.length_map, ← HN.out]; omega)
        injection hsa with hsa
        subst hsa
        have c2 : w2.cell? (sa.add i0) = some (.int .i64 y) := hsc i0 _ (by rw [List.getElem?_map, hy]; rfl)
        obtain ⟨p, hp⟩ : ∃ p, p = kOf s i0 := ⟨_, rfl⟩
        have hp4 : p < 4 := by rw [hp]; exact kOf_lt s i0
        have e4 : bits .and .i64 y 3 = (p : Int) := by
          rw [i64_and3, hp]; unfold kOf
          rw [List.getD_eq_getElem?_getD, hy]
          simp only [Option.getD_some]; omega
        have HP := Lib.hid hp
        have HI0 := Lib.hid hi0
        obtain ⟨ea', hea, _, hec⟩ := (HE.out.below HC2.out.1) (by rw [List.length_map, ← HM.out]; omega)
        injection hea with hea
        subst hea
        have c3 : w2.cell? (ea.add i) = some (.bool b) := by
          refine hec i _ ?_
          rw [List.getElem?_map, HBE.out]
          unfold eOf
          rw [List.getD_eq_getElem?_getD, List.getElem?_eq_getElem (by rw [← HM.out]; omega)]; rfl
        clear hy hsc hec hp hi0
        obtain ⟨v, hv⟩ : ∃ v, v = nn.getD (p * 4 + q) 0 := ⟨_, rfl⟩
        obtain ⟨v', hv'⟩ : ∃ v', v' = bb.getD (p * 4 + q) 0 := ⟨_, rfl⟩
        have hvb : 0 ≤ v ∧ v ≤ 40 := by have := HNUM.out.bn (p * 4 + q) (by omega); rw [← hv] at this; omega
        have hvb' : 0 ≤ v' ∧ v' ≤ 40 := by have := HNUM.out.be (p * 4 + q) (by omega); rw [← hv'] at this; omega
        go_upto_region 14 with fail
        have g1 : w2.cell? ⟨N, p * 4 + q, none⟩ = some (.int .i64 v) := rowZ_cell HC2.out.2.2.1 (by rw [HNUM.out.ln]; omega) hv
        have g2 : w2.frozen? ⟨N, p * 4 + q, none⟩ = false := by simp [World.frozen?, HC2.out.2.2.1, rowZ]
        have g3 : w2.cell? ⟨N + 1, p * 4 + q, none⟩ = some (.int .i64 v') := rowZ_cell HC2.out.2.2.2 (by rw [HNUM.out.lb]; omega) hv'
        have g4 : w2.frozen? ⟨N + 1, p * 4 + q, none⟩ = false := by simp [World.frozen?, HC2.out.2.2.2, rowZ]
        have k5 : (0 : Int) ≤ (p : Int) := by omega
        have k6 : (p : Int) < 4 := by omega
        have k7 : (q : Int) < 4 := by omega
        have HV := Lib.hid hv
        have HV' := Lib.hid hv'
        obtain ⟨v1, hv1⟩ : ∃ v1, v1 = v + 1 := ⟨_, rfl⟩
        obtain ⟨v1', hv1'⟩ : ∃ v1', v1' = v' + 1 := ⟨_, rfl⟩
        have iw8 : IntKind.i64.wrap (v + 1) = v1 := by rw [IntKind.wrap_i64]; omega
        have iw9 : IntKind.i64.wrap v1 = v1 := by rw [IntKind.wrap_i64]; omega
        have iw10 : IntKind.i64.wrap (v' + 1) = v1' := by rw [IntKind.wrap_i64]; omega
        have iw11 : IntKind.i64.wrap v1' = v1' := by rw [IntKind.wrap_i64]; omega
        have HV1 := Lib.hid hv1
        have HV1' := Lib.hid hv1'
        clear hv hv' hv1 hv1' hvb hvb'
        go_still_tail 8, (by kernel_rfl)
        change wpList _ _ _ _ _ w2.drew
        go_upto_region 15 with fail
        have HS3 : Hid (Store2 w N nn bb v2 (lsC (kOf s) (eOf e) (i + 1)) w2) := Lib.hid ⟨HC2.out.1, HLO.out, HC2.out.2.1, HC2.out.2.2.1, HC2.out.2.2.2, HRW.out⟩
        have HS4 := Lib.hid (HS3.out.setN (j := p * 4 + q) (v := v1) (by rw [HNUM.out.ln]; omega))
        have c4 : (w2.setCell ⟨N, p * 4 + q, none⟩ (.int .i64 v1)).drew.cell? (ea.add i) = some (.bool b) := by
          refine Eq.trans ?_ c3
          exact cell_setCell_else w2 (by have := KA.out; have := HLO.out; show N ≠ (ea.add i).block; omega) _
        have g5 : (w2.setCell ⟨N, p * 4 + q, none⟩ (.int .i64 v1)).drew.cell? ⟨N + 1, p * 4 + q, none⟩ = some (.int .i64 v') := rowZ_cell HS4.out.m (by rw [HNUM.out.lb]; omega) HV'.out
        have g6 : (w2.setCell ⟨N, p * 4 + q, none⟩ (.int .i64 v1)).drew.frozen? ⟨N + 1, p * 4 + q, none⟩ = false := by simp [World.frozen?, HS4.out.m, rowZ]
        have HNX := Lib.hid (HNUM.out.next (kOf_lt s) h0 b HBE.out)
        rw [← HI0.out, ← HP.out, ← HQ.out, ← HV.out, ← HV'.out, ← HV1.out, ← HV1'.out] at HNX
        generalize (w2.setCell ⟨N, p * 4 + q, none⟩ (.int .i64 v1)).drew = W3 at *
        clear g1 g2 g3 g4 c2 c3
        cases b
        · go_wp2_with fail
          go_roundw
          case rel =>
            exact ⟨i + 1, _, _, by go_num, by omega, Lib.hid ⟨HS4.out.b, HLO.out, HS4.out.sz, HS4.out.n, HS4.out.m, HS4.out.row, HNX.out⟩⟩
          case measure => simp [intOf]; omega
        · go_upto_region 16 with fail
          go_still_tail 8, (by kernel_rfl)
          change wpList _ _ _ _ _ W3.drew
          go_wp2_with fail
          have HS5 := Lib.hid (HS4.out.setM (j := p * 4 + q) (v := v1') (by rw [HNUM.out.lb]; omega))
          generalize (W3.setCell ⟨N + 1, p * 4 + q, none⟩ (.int .i64 v1')).drew = W4 at *
          go_roundw
          case rel =>
            exact ⟨i + 1, _, _, by go_num, by omega, Lib.hid ⟨HS5.out.b, HLO.out, HS5.out.sz, HS5.out.n, HS5.out.m, HS5.out.row, HNX.out⟩⟩
          case measure => simp [intOf]; omega
    · obtain rfl : i = n := by omega
      clear hlt
      have HSTO : Hid (Store2 w N nn bb u7 (lsC (kOf s) (eOf e) i) wr) := Lib.hid ⟨HC.out.b, HC.out.lo, HC.out.sz, HC.out.n, HC.out.m, HC.out.row⟩
      have HNUM := Lib.hid HC.out.num
      obtain ⟨K, hK⟩ : ∃ K, K = wr.heap.size := ⟨_, rfl⟩
      have HKE := Lib.hid hK
      have HKN : Hid (N + 2 ≤ K) := Lib.hid (by rw [hK]; exact HC.out.sz)
      clear hK HC
      go_wp2_with fail
      go_loopw [13, 14, 15] (fun vv pv kv wx => ∃ (p : Nat), pv = .int .i64 p ∧ p ≤ 4 ∧ Hid (WantS w N K nn bb u7 (lsC (kOf s) (eOf e) i) (wantC nn bb (p * 4)) vv wx)) (fun _ pv _ _ => 4 - (intOf pv).toNat)
      case atStart => exact ⟨0, rfl, by omega, Lib.hid ⟨HSTO.out, World.ownsRow_nil _ _ _ _, Nat.le_of_eq HKE.out, HKN.out⟩⟩
      case round =>
        obtain ⟨p, rfl, hp, HW⟩ := hrel
        by_cases hp4 : p < 4
        · have dp : ((p : Int) < 4) := by omega
          go_wp2_with fail
          go_loopw [13, 15] (fun vv kv wx => ∃ (k : Nat), kv = .int .i64 k ∧ k ≤ 4 ∧ Hid (WantS w N K nn bb u7 (lsC (kOf s) (eOf e) i) (wantC nn bb (p * 4 + k)) vv wx)) (fun _ kv _ => 4 - (intOf kv).toNat)
          case atStart => exact ⟨0, rfl, by omega, HW⟩
          case round =>
            clear HW
            obtain ⟨k, rfl, hk, HW⟩ := hrel
            by_cases hk4 : k < 4
            · obtain ⟨v, hv⟩ : ∃ v, v = nn.getD (p * 4 + k) 0 := ⟨_, rfl⟩
              obtain ⟨v', hv'⟩ : ∃ v', v' = bb.getD (p * 4 + k) 0 := ⟨_, rfl⟩
              have HSU := Lib.hid (wantC_succ nn bb (p * 4 + k))
              have hlw := wantC_len nn bb (p * 4 + k)
              have d1 : (p * 4 + k) / 4 = p := by omega
              have d2 : (p * 4 + k) % 4 = k := by omega
              have HEG : Hid (egC nn bb (p * 4 + k) = if p ≠ k ∧ 0 < v then some ⟨nmC p, nmC k, v, v'⟩ else none) := Lib.hid (by unfold egC; rw [d1, d2, ← hv, ← hv'])
              have g1 : wr.cell? ⟨N, p * 4 + k, none⟩ = some (.int .i64 v) := rowZ_cell HW.out.st.n (by rw [HNUM.out.ln]; omega) hv
              have g3 : wr.cell? ⟨N + 1, p * 4 + k, none⟩ = some (.int .i64 v') := rowZ_cell HW.out.st.m (by rw [HNUM.out.lb]; omega) hv'
              have k0 : (0 : Int) ≤ (k : Int) := by omega
              have k1 : (k : Int) < 4 := by omega
              have k2 : (0 : Int) ≤ (p : Int) := by omega
              have HVE := Lib.hid hv
              have HVE' := Lib.hid hv'
              clear hv hv' d1 d2
              by_cases hpk : p = k
              · subst hpk
                have hd : Hid (wantC nn bb (p * 4 + p + 1) = wantC nn bb (p * 4 + p)) := Lib.hid (by rw [HSU.out, HEG.out, if_neg (fun h => h.1 rfl)]; simp)
                clear HSU HEG
                go_wp2_with fail
                go_roundw
                case rel => exact ⟨p + 1, by go_num, by omega, by rw [show p * 4 + (p + 1) = p * 4 + p + 1 from rfl, hd.out]; exact HW⟩
                case measure => simp [intOf]; omega
              · have n1 : ((p : Int) == (k : Int)) = false := by rw [beq_eq_false_iff_ne]; omega
                have n2 : ((p : Int) != (k : Int)) = true := by rw [bne_iff_ne]; omega
                by_cases hv0 : 0 < v
                · have dv : decide (0 < v) = true := decide_eq_true hv0
                  have hd : Hid (wantC nn bb (p * 4 + k + 1) = wantC nn bb (p * 4 + k) ++ [⟨nmC p, nmC k, v, v'⟩]) := Lib.hid (by rw [HSU.out, HEG.out, if_pos ⟨hpk, hv0⟩]; rfl)
                  clear HSU HEG
                  generalize wantC nn bb (p * 4 + k) = WL at *
                  obtain ⟨p1, hp1⟩ : ∃ p1, p1 = p + 1 := ⟨_, rfl⟩
                  obtain ⟨q1, hq1⟩ : ∃ q1, q1 = k + 1 := ⟨_, rfl⟩
                  have iw1 : IntKind.i64.wrap ((p : Int) + 1) = (p1 : Int) := by rw [IntKind.wrap_i64]; omega
                  have iw2 : IntKind.i64.wrap (p1 : Int) = (p1 : Int) := by rw [IntKind.wrap_i64]; omega
                  have iw3 : IntKind.i64.wrap ((k : Int) + 1) = (q1 : Int) := by rw [IntKind.wrap_i64]; omega
                  have iw4 : IntKind.i64.wrap (q1 : Int) = (q1 : Int) := by rw [IntKind.wrap_i64]; omega
                  have j1 : (p : Int) ≤ (p1 : Int) := by omega
                  have j2 : (p1 : Int) ≤ 4 := by omega
                  have j3 : (k : Int) ≤ (q1 : Int) := by omega
                  have j4 : (q1 : Int) ≤ 4 := by omega
                  have j5 : p ≤ p1 := by omega
                  have j6 : p1 ≤ 4 := by omega
                  have j7 : k ≤ q1 := by omega
                  have j8 : q1 ≤ 4 := by omega
                  have HP1 := Lib.hid hp1
                  have HQ1 := Lib.hid hq1
                  have hN0 : N ≠ wr.heap.size := by have := HW.out.st.sz; omega
                  have hN1 : N + 1 ≠ wr.heap.size := by have := HW.out.st.sz; omega
                  have hN2 : wr.heap.size ≠ N := fun h => hN0 h.symm
                  have hN3 : wr.heap.size ≠ N + 1 := fun h => hN1 h.symm
                  have hsp : [(⟨nmC p, nmC k, v, v'⟩ : Eg)].flatMap Eg.cells = [.string ((⟨#[97, 98, 99, 100]⟩ : ByteArray).extract p p1), .string ((⟨#[97, 98, 99, 100]⟩ : ByteArray).extract k q1), .int .i64 v, .int .i64 v'] := by
                    rw [hp1, hq1]; rfl
                  have HAW : Hid (WantS w N K nn bb u7 (lsC (kOf s) (eOf e) i) WL u13 (wr.alloc (.cells #[.string ((⟨#[97, 98, 99, 100]⟩ : ByteArray).extract p p1), .string ((⟨#[97, 98, 99, 100]⟩ : ByteArray).extract k q1), .int .i64 v, .int .i64 v'] 36)).drew) := Lib.hid (HW.out.below (((Below.refl wr.heap.size wr).alloc (Nat.le_refl _) (.cells #[.string ((⟨#[97, 98, 99, 100]⟩ : ByteArray).extract p p1), .string ((⟨#[97, 98, 99, 100]⟩ : ByteArray).extract k q1), .int .i64 v, .int .i64 v'] 36)).trans ⟨rfl, rfl, rfl, Nat.le_refl _, fun _ _ => rfl⟩))
                  have HRB : Hid (Rd (wr.alloc (.cells #[.string ((⟨#[97, 98, 99, 100]⟩ : ByteArray).extract p p1), .string ((⟨#[97, 98, 99, 100]⟩ : ByteArray).extract k q1), .int .i64 v, .int .i64 v'] 36)).drew (wr.heap.size + 1) (some ⟨wr.heap.size, 0, none⟩) ([(⟨nmC p, nmC k, v, v'⟩ : Eg)].flatMap Eg.cells)) := Lib.hid (by
                    rw [hsp]
                    exact Rd.drew (Rd.lit wr #[.string ((⟨#[97, 98, 99, 100]⟩ : ByteArray).extract p p1), .string ((⟨#[97, 98, 99, 100]⟩ : ByteArray).extract k q1), .int .i64 v, .int .i64 v'] _))
                  have APP := Lib.hid (fun ty => appWant (ty := ty) (A := some ⟨wr.heap.size, 0, none⟩) HAW.out HRB.out (by omega))
                  clear hsp hp1 hq1
                  go_upto_region 25 with fail
                  go_region_held3 (fun w' => w'.cell? ⟨N, p * 4 + k, none⟩ = some (.int .i64 v) ∧ w'.cell? ⟨N + 1, p * 4 + k, none⟩ = some (.int .i64 v'))
                    (first
                      | go_keep
                      | exact ⟨(rowZ_cell hg1.st.n (by rw [HNUM.out.ln]; omega) HVE.out), (rowZ_cell hg1.st.m (by rw [HNUM.out.lb]; omega) HVE'.out)⟩)
                    ((refine step_app (by rfl) (.tmp 108) (.tmp 130) _ _ (by rfl) (by rfl) (by rfl) (APP.out _) ?_; rintro v2 w2 hg1))
                  have HW2 := Lib.hid hg1
                  clear hg1 HAW HRB APP iw1 iw2 iw3 iw4
                  go_wp2_with fail
                  go_roundw
                  case rel => exact ⟨k + 1, by go_num, by omega, by rw [show p * 4 + (k + 1) = p * 4 + k + 1 from rfl, hd.out]; exact HW2⟩
                  case measure => simp [intOf]; omega
                · have dv : decide (0 < v) = false := decide_eq_false hv0
                  have hd : Hid (wantC nn bb (p * 4 + k + 1) = wantC nn bb (p * 4 + k)) := Lib.hid (by rw [HSU.out, HEG.out, if_neg (fun h => hv0 h.2)]; simp)
                  clear HSU HEG
                  go_wp2_with fail
                  go_roundw
                  case rel => exact ⟨k + 1, by go_num, by omega, by rw [show p * 4 + (k + 1) = p * 4 + k + 1 from rfl, hd.out]; exact HW⟩
                  case measure => simp [intOf]; omega
            · obtain rfl : k = 4 := by omega
              go_wp2_with fail
              go_roundw
              case rel => exact ⟨p + 1, by go_num, by omega, by rw [show (p + 1) * 4 = p * 4 + 4 by omega]; exact HW⟩
              case measure => simp [intOf]; omega
        · obtain rfl : p = 4 := by omega
          obtain ⟨A9, c9, hu, _, hy9⟩ := HW.out.st.row.rdn i (lsC_len _ _ _).symm (Nat.zero_le _)
          obtain ⟨A8, c8, hu8, _, hr8⟩ := own_rd HW.out.own
          obtain ⟨nW, hnW⟩ : ∃ nW, nW = (wantC nn bb (4 * 4)).length := ⟨_, rfl⟩
          rw [← hnW] at hu8
          subst hu
          subst hu8
          have HNW := Lib.hid hnW
          have HR8 := Lib.hid hr8
          have ADN := Lib.hid (add_nil wr wr (Below.refl _ _) A9 i c9 (lsC (kOf s) (eOf e) i) (lsC_len _ _ _).symm hy9 (by omega) 1000 1000 (by decide) ⟨by decide, by decide⟩)
          have HSAME := Lib.hid (fun (M : List Eg) (hc : CA 1000 [] (callsK (lsC (kOf s) (eOf e) i) i) M) => chain_same (kOf_lt s) HNUM.out (by omega) hc)
          clear hnW hr8 hy9
          go_wp2_with (first
            | (go_at_call 6; (with_reducible refine SE.out.mono ?_); rintro ex w6 ⟨rfl, hb6⟩; have HB6 := Lib.hid hb6; clear hb6)
            | (go_at_call 7; (with_reducible refine ADN.out.mono ?_); rintro ex w5 ⟨A5, n5, c5, M5, rfl, hn5, hl5, hc5, he5, hr5, hb5, hx5⟩; have hM := HSAME.out M5 hc5; subst hM; have hn6 : n5 = nW := hn5.trans HNW.out.symm; subst hn6; have HX5 := Lib.hid hx5; have SE := Lib.hid (sameedges_eq A5 A8 n5 c5 c8 (wantC nn bb 16) w5.heap.size w5 (by omega) hn5 hr5 ((HR8.out.below hx5).more hx5.size)); clear hn5 hc5 he5 hr5 hb5 hx5))
          go_ret
          exact ⟨rfl, HW.out.st.b.trans ((HX5.out.trans (HB6.out.mono HX5.out.size)).mono HW.out.st.b.size)⟩
end Go.Proofs.Ytobgnendfnmnpaa
