/- A span written: the flag, the whole. -/
import Derived.Test.YtchcjbapbdfhkaaRi
import Derived.Test.YtchcjbapbdfhkaaEa
import Derived.Test.YtchcjbapbdfhkaaPut
namespace Go.Proofs.Ytchcjbapbdfhkaa
open Go.RowKit
set_option linter.unusedVariables false
set_option maxRecDepth 100000

theorem appOne {w : World} {ty : TypeId} {base : Nat} {v : Value} {k : List UInt8} (hown : w.ownsRow base 5 1 v k.length (k.map B8)) {B : Nat} {a : Addr} (u : UInt8) (hr : Rd w B (some a) [B8 u]) (hl : k.length ≤ 4294967295) (hbase : base ≤ w.heap.size) :
    ∃ v' w', (Builtin.append_ #[25, 25] ty #[v, .slice (some a) 1 1]).run Try.prog w = .ok v' w' ∧ (w'.ownsRow base 5 1 v' (k ++ [u]).length ((k ++ [u]).map B8) ∧ Grew w w' v v') :=
  appB (l := [u]) (c := 1) hown hr (by simp; omega) hbase
def flag (b : Bool) : List UInt8 := [if b then 1 else 0]
set_option maxHeartbeats 2000000 in
theorem appendflag_calls (base : Nat) (v : Value) (l : List UInt8) (b : Bool) (w : World) (hown : w.ownsRow base 5 1 v l.length (l.map B8)) (hbase : base ≤ w.heap.size) (hl : l.length ≤ 4294967295) :
    Calls Try.prog 80 #[v, .bool b] w fun e w' => ∃ v', e = .returned v' ∧ w'.ownsRow base 5 1 v' (l ++ flag b).length ((l ++ flag b).map B8) ∧ Grew w w' v v' := by
  have HO := Lib.hid (own_below hown ((Below.refl w.heap.size w).alloc (Nat.le_refl _) (.cells #[.int .u8 (if b then 1 else 0)] 5)))
  have HG0 : Hid (Grew w (w.alloc (.cells #[.int .u8 (if b then 1 else 0)] 5)) v v) := Lib.hid ⟨⟨rfl, rfl, rfl, by simp, fun k hk _ => Below.heap_alloc w _ k hk⟩, .inl rfl⟩
  clear hown
  cases b
  · have HO2 : Hid ((w.alloc (.cells #[.int .u8 0] 5)).ownsRow base 5 1 v l.length (l.map B8)) := HO
    have HG2 : Hid (Grew w (w.alloc (.cells #[.int .u8 0] 5)) v v) := HG0
    clear HO HG0
    go_enter Try.func80, Try.ntmps80
    go_wp2_with (at_builtin; refine wpList_app rfl (.tmp 9) (.tmp 10) _ _ rfl rfl rfl (appOne HO2.out 0 (Rd.lit w #[.int .u8 0] 5) hl (by simp; omega)) ?_; rintro v1 w1 ⟨ho1, hg1⟩; have HO1 := Lib.hid ho1; have HG1 := Lib.hid (HG2.out.trans hg1); clear ho1 hg1)
    go_ret
    exact ⟨v1, rfl, HO1.out, HG1.out⟩
  · have HO2 : Hid ((w.alloc (.cells #[.int .u8 1] 5)).ownsRow base 5 1 v l.length (l.map B8)) := HO
    have HG2 : Hid (Grew w (w.alloc (.cells #[.int .u8 1] 5)) v v) := HG0
    clear HO HG0
    go_enter Try.func80, Try.ntmps80
    go_wp2_with (at_builtin; refine wpList_app rfl (.tmp 6) (.tmp 7) _ _ rfl rfl rfl (appOne HO2.out 1 (Rd.lit w #[.int .u8 1] 5) hl (by simp; omega)) ?_; rintro v1 w1 ⟨ho1, hg1⟩; have HO1 := Lib.hid ho1; have HG1 := Lib.hid (HG2.out.trans hg1); clear ho1 hg1)
    go_ret
    exact ⟨v1, rfl, HO1.out, HG1.out⟩

/-- Attributes, a whole span, as bytes. -/
def encA (l : List (ByteArray × ByteArray)) : List UInt8 := l.flatMap fun a => Mi.text a.1.data.toList ++ Mi.text a.2.data.toList
def enc (s : Sp) : List UInt8 := Mi.put s.hi.toNat ++ (Mi.put s.lo.toNat ++ (Mi.put s.id.toNat ++ (Mi.put s.pa.toNat ++ (Mi.text s.sv.data.toList ++ (Mi.text s.op.data.toList ++ (Mi.put s.st.toNat ++ (Mi.put s.du.toNat ++ (flag s.er ++ (Mi.put s.ats.length ++ encA s.ats)))))))))
theorem encA_step (l : List (ByteArray × ByteArray)) (k : Nat) (a : ByteArray × ByteArray) (h : l[k]? = some a) : encA (l.take (k + 1)) = encA (l.take k) ++ (Mi.text a.1.data.toList ++ Mi.text a.2.data.toList) := by
  unfold encA
  rw [List.take_add_one, h, List.flatMap_append]
  simp
/-- The state on the way: the row, the span's block. -/
structure ASt (v0 : Value) (w0 w : World) (base k : Nat) (O : Obj) (v : Value) (L : List UInt8) : Prop where
  own : w.ownsRow base 5 1 v L.length (L.map B8)
  box : w.heap[k]? = some O
  below : Below base w0 w
  gr : Grew w0 w v0 v
theorem below_grew {w w' : World} (v : Value) (hb : Below w.heap.size w w') : Grew w w' v v := ⟨⟨hb.os, hb.tape, hb.output, hb.size, fun i hi _ => hb.block i hi⟩, .inl rfl⟩
theorem ASt.step {v0 : Value} {w0 w w' : World} {base k : Nat} {cs : Array Value} {v v' : Value} {L L' : List UInt8} (h : ASt v0 w0 w base k (.cells cs 75) v L) (ho : w'.ownsRow base 5 1 v' L'.length (L'.map B8)) (hg : Grew w w' v v') (hb : base ≤ w0.heap.size) : ASt v0 w0 w' base k (.cells cs 75) v' L' :=
  ⟨ho, (hg.grown.block k (in_heap h.box) (Ne.symm (own_not h.own h.box (by decide)))).trans h.box, hg.below h.below (Nat.le_trans hb h.below.size) (own_block_ge h.own), h.gr.trans hg⟩
theorem ASt.keep {v0 : Value} {w0 w w' : World} {base k : Nat} {O : Obj} {v : Value} {L : List UInt8} (h : ASt v0 w0 w base k O v L) (hb : Below w.heap.size w w') (hk : base ≤ w0.heap.size) : ASt v0 w0 w' base k O v L :=
  ⟨own_below h.own hb, (hb.block k (in_heap h.box)).trans h.box, h.below.trans (hb.mono (Nat.le_trans hk h.below.size)), h.gr.trans (below_grew v hb)⟩
theorem text_len (s : ByteArray) (h : s.size ≤ 16) : (Mi.text s.data.toList).length ≤ 26 := by
  unfold Mi.text
  rw [List.length_append, size_list]
  have := (Mi.put_len s.size).2
  omega
theorem nameB_len {s : ByteArray} (h : nameB s = true) : 1 ≤ s.size ∧ s.size ≤ 16 := by
  unfold nameB at h
  simpa using h
theorem okAt_len {l : List (ByteArray × ByteArray)} (h : rightAts l = true) {k : Nat} {a : ByteArray × ByteArray} (ha : l[k]? = some a) : a.1.size ≤ 16 ∧ a.2.size ≤ 16 := by
  unfold rightAts at h
  simp only [Bool.and_eq_true, decide_eq_true_eq, List.all_eq_true, List.mem_range] at h
  have hk : k < l.length := by
    rcases Nat.lt_or_ge k l.length with h | h
    · exact h
    · rw [List.getElem?_eq_none h] at ha; cases ha
  have := h.2 k hk
  unfold okAt at this
  rw [ha] at this
  simp only [Bool.and_eq_true, decide_eq_true_eq] at this
  exact ⟨(nameB_len this.1.1).2, this.1.2⟩
theorem rightAts_len {l : List (ByteArray × ByteArray)} (h : rightAts l = true) : l.length ≤ 4 := by
  unfold rightAts at h
  simp only [Bool.and_eq_true, decide_eq_true_eq] at h
  exact h.1
theorem right_parts {s : Sp} (h : right s = true) : nameB s.sv = true ∧ nameB s.op = true ∧ 0 ≤ s.st ∧ s.st ≤ 1099511627776 ∧ 0 ≤ s.du ∧ s.du ≤ 1073741824 ∧ rightAts s.ats = true := by
  unfold right at h
  simpa using h

set_option maxHeartbeats 16000000 in
theorem spanappend_gr (x0 x1 x2 x3 : Nat) (x4 x5 : ByteArray) (x6 x7 : Nat) (x8 : Bool) (ats : List (ByteArray × ByteArray)) (xA : Option Addr) (xc n B base : Nat) (v : Value) (l : List UInt8) (w : World) (hn : n = ats.length) (hy : RdL w B ⟨⟨x0, x1, x2, x3, x4, x5, x6, x7, x8, ats⟩, xA, xc⟩) (hB : B ≤ w.heap.size) (hBb : B ≤ base) (hown : w.ownsRow base 5 1 v l.length (l.map B8)) (hbase : base ≤ w.heap.size) (hl : l.length ≤ 1000000000)
    (hr : right ⟨x0, x1, x2, x3, x4, x5, x6, x7, x8, ats⟩ = true) :
    Calls Try.prog 81 #[v, .agg #[.int .u64 (x0 : Int), .int .u64 (x1 : Int), .int .u64 (x2 : Int), .int .u64 (x3 : Int), .string x4, .string x5, .int .i64 x6, .int .i64 x7, .bool x8, .slice xA n xc]] w fun e w' => ∃ v', e = .returned v' ∧ w'.ownsRow base 5 1 v' (l ++ enc ⟨x0, x1, x2, x3, x4, x5, x6, x7, x8, ats⟩).length ((l ++ enc ⟨x0, x1, x2, x3, x4, x5, x6, x7, x8, ats⟩).map B8) ∧ Below base w w' ∧ Grew w w' v v' := by
  have HB0 := Lib.hid ((Below.refl w.heap.size w).alloc (Nat.le_refl _) (.cells #[.int .u64 (x0 : Int), .int .u64 (x1 : Int), .int .u64 (x2 : Int), .int .u64 (x3 : Int), .string x4, .string x5, .int .i64 x6, .int .i64 x7, .bool x8, .slice xA n xc] 75))
  have HX0 := Lib.hid (heap_alloc_new w (.cells #[.int .u64 (x0 : Int), .int .u64 (x1 : Int), .int .u64 (x2 : Int), .int .u64 (x3 : Int), .string x4, .string x5, .int .i64 x6, .int .i64 x7, .bool x8, .slice xA n xc] 75))
  have hok := hy.ok
  have HRT := Lib.hid (right_lit x0 x1 x2 x3 x4 x5 x6 x7 x8 ats xA xc n B (w.alloc (.cells #[.int .u64 (x0 : Int), .int .u64 (x1 : Int), .int .u64 (x2 : Int), .int .u64 (x3 : Int), .string x4, .string x5, .int .i64 x6, .int .i64 x7, .bool x8, .slice xA n xc] 75)) hn (hy.keep (fun p hp => World.cell?_alloc_lt w _ p (by omega))) (by simp; omega))
  have HEN : Hid (enc ⟨x0, x1, x2, x3, x4, x5, x6, x7, x8, ats⟩ = Mi.put x0 ++ (Mi.put x1 ++ (Mi.put x2 ++ (Mi.put x3 ++ (Mi.text x4.data.toList ++ (Mi.text x5.data.toList ++ (Mi.put x6 ++ (Mi.put x7 ++ (flag x8 ++ (Mi.put n ++ encA ats)))))))))) := Lib.hid (by rw [hn]; rfl)
  obtain ⟨r1, r2, r3, r4, r5, r6, r7⟩ := right_parts hr
  rw [hr] at HRT
  simp only at r1 r2 r3 r4 r5 r6 r7
  have q0 : x0 < 18446744073709551616 := by have := hok.hi.2; (try simp only at this); omega
  have q1 : x1 < 18446744073709551616 := by have := hok.lo.2; (try simp only at this); omega
  have q2 : x2 < 18446744073709551616 := by have := hok.id.2; (try simp only at this); omega
  have q3 : x3 < 18446744073709551616 := by have := hok.pa.2; (try simp only at this); omega
  have q4 := (nameB_len r1).2
  have q5 := (nameB_len r2).2
  have q6 : x6 ≤ 1099511627776 := by omega
  have q7 : x7 ≤ 1073741824 := by omega
  have q8 : n ≤ 4 := by rw [hn]; exact rightAts_len r7
  have l0 := (Mi.put_len x0).2
  have l1 := (Mi.put_len x1).2
  have l2 := (Mi.put_len x2).2
  have l3 := (Mi.put_len x3).2
  have l4 := text_len x4 q4
  have l5 := text_len x5 q5
  have l6 := (Mi.put_len x6).2
  have l7 := (Mi.put_len x7).2
  have l8 : (flag x8).length = 1 := rfl
  have l9 := (Mi.put_len n).2
  have HL := Lib.hid (And.intro l0 (And.intro l1 (And.intro l2 (And.intro l3 (And.intro l4 (And.intro l5 (And.intro l6 (And.intro l7 (And.intro l8 l9)))))))))
  have HAT := Lib.hid r7
  have HN := Lib.hid hn
  have HRD := Lib.hid hy.rd
  have HOW := Lib.hid hown
  clear l0 l1 l2 l3 l4 l5 l6 l7 l8 l9 r1 r2 r3 r4 r5 r6 r7 hr hok hy hown hn
  go_enter Try.func81, Try.ntmps81
  go_wp2_with (go_at_call 96; (with_reducible refine (HRT.out).mono ?_); rintro e w0 ⟨rfl, hb0⟩; have hX := (hb0.block w.heap.size (by simp)).trans HX0.out; have HA0 : Hid (ASt v w w0 base w.heap.size (.cells #[.int .u64 (x0 : Int), .int .u64 (x1 : Int), .int .u64 (x2 : Int), .int .u64 (x3 : Int), .string x4, .string x5, .int .i64 x6, .int .i64 x7, .bool x8, .slice xA n xc] 75) v l) := Lib.hid ⟨own_below (own_below HOW.out HB0.out) hb0, hX, (HB0.out.mono hbase).trans (hb0.mono (Nat.le_trans hbase HB0.out.size)), (below_grew v HB0.out).trans (below_grew v hb0)⟩; have c0 : w0.cell? ⟨w.heap.size, 0, none⟩ = some (.int .u64 (x0 : Int)) := cell_of_row _ _ 0 _ _ (0, 0) hX; clear hb0 hX)
  have hz0 : base ≤ w0.heap.size := Nat.le_trans hbase HA0.out.below.size
  have hL0 : (l).length ≤ 4294967295 := by obtain ⟨l0, l1, l2, l3, l4, l5, l6, l7, l8, l9⟩ := HL.out; (try simp only [List.length_append]); omega
  have C0 := Lib.hid (append_calls base v (l) x0 w0 HA0.out.own hz0 (Nat.le_succ_of_le hL0) (by omega))
  refine C0.out.mono ?_
  rintro e w1 ⟨v1, rfl, ho, hg⟩
  have HA1 : Hid (ASt v w w1 base w.heap.size (.cells #[.int .u64 (x0 : Int), .int .u64 (x1 : Int), .int .u64 (x2 : Int), .int .u64 (x3 : Int), .string x4, .string x5, .int .i64 x6, .int .i64 x7, .bool x8, .slice xA n xc] 75) v1 (l ++ Mi.put x0)) := Lib.hid (HA0.out.step ho hg hbase)
  clear ho hg C0 HA0 hz0 hL0 c0
  have c1 : w1.cell? ⟨w.heap.size, 1, none⟩ = some (.int .u64 (x1 : Int)) := cell_of_row _ _ 1 _ _ (0, 0) HA1.out.box
  go_wp2_with fail
  have hz1 : base ≤ w1.heap.size := Nat.le_trans hbase HA1.out.below.size
  have hL1 : (l ++ Mi.put x0).length ≤ 4294967295 := by obtain ⟨l0, l1, l2, l3, l4, l5, l6, l7, l8, l9⟩ := HL.out; (try simp only [List.length_append]); omega
  have C1 := Lib.hid (append_calls base v1 (l ++ Mi.put x0) x1 w1 HA1.out.own hz1 (Nat.le_succ_of_le hL1) (by omega))
  refine C1.out.mono ?_
  rintro e w2 ⟨v2, rfl, ho, hg⟩
  have HA2 : Hid (ASt v w w2 base w.heap.size (.cells #[.int .u64 (x0 : Int), .int .u64 (x1 : Int), .int .u64 (x2 : Int), .int .u64 (x3 : Int), .string x4, .string x5, .int .i64 x6, .int .i64 x7, .bool x8, .slice xA n xc] 75) v2 ((l ++ Mi.put x0) ++ Mi.put x1)) := Lib.hid (HA1.out.step ho hg hbase)
  clear ho hg C1 HA1 hz1 hL1 c1
  have c2 : w2.cell? ⟨w.heap.size, 2, none⟩ = some (.int .u64 (x2 : Int)) := cell_of_row _ _ 2 _ _ (0, 0) HA2.out.box
  go_wp2_with fail
  have hz2 : base ≤ w2.heap.size := Nat.le_trans hbase HA2.out.below.size
  have hL2 : ((l ++ Mi.put x0) ++ Mi.put x1).length ≤ 4294967295 := by obtain ⟨l0, l1, l2, l3, l4, l5, l6, l7, l8, l9⟩ := HL.out; (try simp only [List.length_append]); omega
  have C2 := Lib.hid (append_calls base v2 ((l ++ Mi.put x0) ++ Mi.put x1) x2 w2 HA2.out.own hz2 (Nat.le_succ_of_le hL2) (by omega))
  refine C2.out.mono ?_
  rintro e w3 ⟨v3, rfl, ho, hg⟩
  have HA3 : Hid (ASt v w w3 base w.heap.size (.cells #[.int .u64 (x0 : Int), .int .u64 (x1 : Int), .int .u64 (x2 : Int), .int .u64 (x3 : Int), .string x4, .string x5, .int .i64 x6, .int .i64 x7, .bool x8, .slice xA n xc] 75) v3 (((l ++ Mi.put x0) ++ Mi.put x1) ++ Mi.put x2)) := Lib.hid (HA2.out.step ho hg hbase)
  clear ho hg C2 HA2 hz2 hL2 c2
  have c3 : w3.cell? ⟨w.heap.size, 3, none⟩ = some (.int .u64 (x3 : Int)) := cell_of_row _ _ 3 _ _ (0, 0) HA3.out.box
  go_wp2_with fail
  have hz3 : base ≤ w3.heap.size := Nat.le_trans hbase HA3.out.below.size
  have hL3 : (((l ++ Mi.put x0) ++ Mi.put x1) ++ Mi.put x2).length ≤ 4294967295 := by obtain ⟨l0, l1, l2, l3, l4, l5, l6, l7, l8, l9⟩ := HL.out; (try simp only [List.length_append]); omega
  have C3 := Lib.hid (append_calls base v3 (((l ++ Mi.put x0) ++ Mi.put x1) ++ Mi.put x2) x3 w3 HA3.out.own hz3 (Nat.le_succ_of_le hL3) (by omega))
  refine C3.out.mono ?_
  rintro e w4 ⟨v4, rfl, ho, hg⟩
  have HA4 : Hid (ASt v w w4 base w.heap.size (.cells #[.int .u64 (x0 : Int), .int .u64 (x1 : Int), .int .u64 (x2 : Int), .int .u64 (x3 : Int), .string x4, .string x5, .int .i64 x6, .int .i64 x7, .bool x8, .slice xA n xc] 75) v4 ((((l ++ Mi.put x0) ++ Mi.put x1) ++ Mi.put x2) ++ Mi.put x3)) := Lib.hid (HA3.out.step ho hg hbase)
  clear ho hg C3 HA3 hz3 hL3 c3
  have c4 : w4.cell? ⟨w.heap.size, 4, none⟩ = some (.string x4) := cell_of_row _ _ 4 _ _ (0, 0) HA4.out.box
  go_wp2_with fail
  have hz4 : base ≤ w4.heap.size := Nat.le_trans hbase HA4.out.below.size
  have hL4 : ((((l ++ Mi.put x0) ++ Mi.put x1) ++ Mi.put x2) ++ Mi.put x3).length ≤ 4294967295 := by obtain ⟨l0, l1, l2, l3, l4, l5, l6, l7, l8, l9⟩ := HL.out; (try simp only [List.length_append]); omega
  have C4 := Lib.hid (appendtext_calls base v4 ((((l ++ Mi.put x0) ++ Mi.put x1) ++ Mi.put x2) ++ Mi.put x3) x4 w4 HA4.out.own hz4 (Nat.le_succ_of_le hL4) (by omega))
  refine C4.out.mono ?_
  rintro e w5 ⟨v5, rfl, ho, hg⟩
  have HA5 : Hid (ASt v w w5 base w.heap.size (.cells #[.int .u64 (x0 : Int), .int .u64 (x1 : Int), .int .u64 (x2 : Int), .int .u64 (x3 : Int), .string x4, .string x5, .int .i64 x6, .int .i64 x7, .bool x8, .slice xA n xc] 75) v5 (((((l ++ Mi.put x0) ++ Mi.put x1) ++ Mi.put x2) ++ Mi.put x3) ++ Mi.text x4.data.toList)) := Lib.hid (HA4.out.step ho hg hbase)
  clear ho hg C4 HA4 hz4 hL4 c4
  have c5 : w5.cell? ⟨w.heap.size, 5, none⟩ = some (.string x5) := cell_of_row _ _ 5 _ _ (0, 0) HA5.out.box
  go_wp2_with fail
  have hz5 : base ≤ w5.heap.size := Nat.le_trans hbase HA5.out.below.size
  have hL5 : (((((l ++ Mi.put x0) ++ Mi.put x1) ++ Mi.put x2) ++ Mi.put x3) ++ Mi.text x4.data.toList).length ≤ 4294967295 := by obtain ⟨l0, l1, l2, l3, l4, l5, l6, l7, l8, l9⟩ := HL.out; (try simp only [List.length_append]); omega
  have C5 := Lib.hid (appendtext_calls base v5 (((((l ++ Mi.put x0) ++ Mi.put x1) ++ Mi.put x2) ++ Mi.put x3) ++ Mi.text x4.data.toList) x5 w5 HA5.out.own hz5 (Nat.le_succ_of_le hL5) (by omega))
  refine C5.out.mono ?_
  rintro e w6 ⟨v6, rfl, ho, hg⟩
  have HA6 : Hid (ASt v w w6 base w.heap.size (.cells #[.int .u64 (x0 : Int), .int .u64 (x1 : Int), .int .u64 (x2 : Int), .int .u64 (x3 : Int), .string x4, .string x5, .int .i64 x6, .int .i64 x7, .bool x8, .slice xA n xc] 75) v6 ((((((l ++ Mi.put x0) ++ Mi.put x1) ++ Mi.put x2) ++ Mi.put x3) ++ Mi.text x4.data.toList) ++ Mi.text x5.data.toList)) := Lib.hid (HA5.out.step ho hg hbase)
  clear ho hg C5 HA5 hz5 hL5 c5
  have c6 : w6.cell? ⟨w.heap.size, 6, none⟩ = some (.int .i64 (x6 : Int)) := cell_of_row _ _ 6 _ _ (0, 0) HA6.out.box
  go_wp2_with fail
  have hz6 : base ≤ w6.heap.size := Nat.le_trans hbase HA6.out.below.size
  have hL6 : ((((((l ++ Mi.put x0) ++ Mi.put x1) ++ Mi.put x2) ++ Mi.put x3) ++ Mi.text x4.data.toList) ++ Mi.text x5.data.toList).length ≤ 4294967295 := by obtain ⟨l0, l1, l2, l3, l4, l5, l6, l7, l8, l9⟩ := HL.out; (try simp only [List.length_append]); omega
  have C6 := Lib.hid (append_calls base v6 ((((((l ++ Mi.put x0) ++ Mi.put x1) ++ Mi.put x2) ++ Mi.put x3) ++ Mi.text x4.data.toList) ++ Mi.text x5.data.toList) x6 w6 HA6.out.own hz6 (Nat.le_succ_of_le hL6) (by omega))
  refine C6.out.mono ?_
  rintro e w7 ⟨v7, rfl, ho, hg⟩
  have HA7 : Hid (ASt v w w7 base w.heap.size (.cells #[.int .u64 (x0 : Int), .int .u64 (x1 : Int), .int .u64 (x2 : Int), .int .u64 (x3 : Int), .string x4, .string x5, .int .i64 x6, .int .i64 x7, .bool x8, .slice xA n xc] 75) v7 (((((((l ++ Mi.put x0) ++ Mi.put x1) ++ Mi.put x2) ++ Mi.put x3) ++ Mi.text x4.data.toList) ++ Mi.text x5.data.toList) ++ Mi.put x6)) := Lib.hid (HA6.out.step ho hg hbase)
  clear ho hg C6 HA6 hz6 hL6 c6
  have c7 : w7.cell? ⟨w.heap.size, 7, none⟩ = some (.int .i64 (x7 : Int)) := cell_of_row _ _ 7 _ _ (0, 0) HA7.out.box
  go_wp2_with fail
  have hz7 : base ≤ w7.heap.size := Nat.le_trans hbase HA7.out.below.size
  have hL7 : (((((((l ++ Mi.put x0) ++ Mi.put x1) ++ Mi.put x2) ++ Mi.put x3) ++ Mi.text x4.data.toList) ++ Mi.text x5.data.toList) ++ Mi.put x6).length ≤ 4294967295 := by obtain ⟨l0, l1, l2, l3, l4, l5, l6, l7, l8, l9⟩ := HL.out; (try simp only [List.length_append]); omega
  have C7 := Lib.hid (append_calls base v7 (((((((l ++ Mi.put x0) ++ Mi.put x1) ++ Mi.put x2) ++ Mi.put x3) ++ Mi.text x4.data.toList) ++ Mi.text x5.data.toList) ++ Mi.put x6) x7 w7 HA7.out.own hz7 (Nat.le_succ_of_le hL7) (by omega))
  refine C7.out.mono ?_
  rintro e w8 ⟨v8, rfl, ho, hg⟩
  have HA8 : Hid (ASt v w w8 base w.heap.size (.cells #[.int .u64 (x0 : Int), .int .u64 (x1 : Int), .int .u64 (x2 : Int), .int .u64 (x3 : Int), .string x4, .string x5, .int .i64 x6, .int .i64 x7, .bool x8, .slice xA n xc] 75) v8 ((((((((l ++ Mi.put x0) ++ Mi.put x1) ++ Mi.put x2) ++ Mi.put x3) ++ Mi.text x4.data.toList) ++ Mi.text x5.data.toList) ++ Mi.put x6) ++ Mi.put x7)) := Lib.hid (HA7.out.step ho hg hbase)
  clear ho hg C7 HA7 hz7 hL7 c7
  have c8 : w8.cell? ⟨w.heap.size, 8, none⟩ = some (.bool x8) := cell_of_row _ _ 8 _ _ (0, 0) HA8.out.box
  go_wp2_with fail
  have hz8 : base ≤ w8.heap.size := Nat.le_trans hbase HA8.out.below.size
  have hL8 : ((((((((l ++ Mi.put x0) ++ Mi.put x1) ++ Mi.put x2) ++ Mi.put x3) ++ Mi.text x4.data.toList) ++ Mi.text x5.data.toList) ++ Mi.put x6) ++ Mi.put x7).length ≤ 4294967295 := by obtain ⟨l0, l1, l2, l3, l4, l5, l6, l7, l8, l9⟩ := HL.out; (try simp only [List.length_append]); omega
  have C8 := Lib.hid (appendflag_calls base v8 ((((((((l ++ Mi.put x0) ++ Mi.put x1) ++ Mi.put x2) ++ Mi.put x3) ++ Mi.text x4.data.toList) ++ Mi.text x5.data.toList) ++ Mi.put x6) ++ Mi.put x7) x8 w8 HA8.out.own hz8 hL8)
  refine C8.out.mono ?_
  rintro e w9 ⟨v9, rfl, ho, hg⟩
  have HA9 : Hid (ASt v w w9 base w.heap.size (.cells #[.int .u64 (x0 : Int), .int .u64 (x1 : Int), .int .u64 (x2 : Int), .int .u64 (x3 : Int), .string x4, .string x5, .int .i64 x6, .int .i64 x7, .bool x8, .slice xA n xc] 75) v9 (((((((((l ++ Mi.put x0) ++ Mi.put x1) ++ Mi.put x2) ++ Mi.put x3) ++ Mi.text x4.data.toList) ++ Mi.text x5.data.toList) ++ Mi.put x6) ++ Mi.put x7) ++ flag x8)) := Lib.hid (HA8.out.step ho hg hbase)
  clear ho hg C8 HA8 hz8 hL8 c8
  have c9 : w9.cell? ⟨w.heap.size, 9, none⟩ = some (.slice xA n xc) := cell_of_row _ _ 9 _ _ (0, 0) HA9.out.box
  go_wp2_with fail
  have hz9 : base ≤ w9.heap.size := Nat.le_trans hbase HA9.out.below.size
  have hL9 : (((((((((l ++ Mi.put x0) ++ Mi.put x1) ++ Mi.put x2) ++ Mi.put x3) ++ Mi.text x4.data.toList) ++ Mi.text x5.data.toList) ++ Mi.put x6) ++ Mi.put x7) ++ flag x8).length ≤ 4294967295 := by obtain ⟨l0, l1, l2, l3, l4, l5, l6, l7, l8, l9⟩ := HL.out; (try simp only [List.length_append]); omega
  have C9 := Lib.hid (append_calls base v9 (((((((((l ++ Mi.put x0) ++ Mi.put x1) ++ Mi.put x2) ++ Mi.put x3) ++ Mi.text x4.data.toList) ++ Mi.text x5.data.toList) ++ Mi.put x6) ++ Mi.put x7) ++ flag x8) n w9 HA9.out.own hz9 (Nat.le_succ_of_le hL9) (by omega))
  refine C9.out.mono ?_
  rintro e w10 ⟨v10, rfl, ho, hg⟩
  have HA10 : Hid (ASt v w w10 base w.heap.size (.cells #[.int .u64 (x0 : Int), .int .u64 (x1 : Int), .int .u64 (x2 : Int), .int .u64 (x3 : Int), .string x4, .string x5, .int .i64 x6, .int .i64 x7, .bool x8, .slice xA n xc] 75) v10 ((((((((((l ++ Mi.put x0) ++ Mi.put x1) ++ Mi.put x2) ++ Mi.put x3) ++ Mi.text x4.data.toList) ++ Mi.text x5.data.toList) ++ Mi.put x6) ++ Mi.put x7) ++ flag x8) ++ Mi.put n)) := Lib.hid (HA9.out.step ho hg hbase)
  clear ho hg C9 HA9 hz9 hL9 c9
  have c9 : w10.cell? ⟨w.heap.size, 9, none⟩ = some (.slice xA n xc) := cell_of_row _ _ 9 _ _ (0, 0) HA10.out.box
  go_wp2_with fail
  go_loopw [0, 60] (fun u i wr => ∃ k : Nat, i = .int .i64 k ∧ k ≤ n ∧ (encA (ats.take k)).length ≤ 60 * k ∧ Hid (ASt v w wr base w.heap.size (.cells #[.int .u64 (x0 : Int), .int .u64 (x1 : Int), .int .u64 (x2 : Int), .int .u64 (x3 : Int), .string x4, .string x5, .int .i64 x6, .int .i64 x7, .bool x8, .slice xA n xc] 75) u (((((((((((l ++ Mi.put x0) ++ Mi.put x1) ++ Mi.put x2) ++ Mi.put x3) ++ Mi.text x4.data.toList) ++ Mi.text x5.data.toList) ++ Mi.put x6) ++ Mi.put x7) ++ flag x8) ++ Mi.put n) ++ encA (ats.take k)))) (fun _ i _ => n - (intOf i).toNat)
  case atStart => exact ⟨0, rfl, Nat.zero_le _, by simp [encA], Lib.hid (by simpa [encA] using HA10.out)⟩
  case round =>
    clear HA10 c9
    obtain ⟨k, rfl, hk, hek, HA⟩ := hrel
    by_cases hlt : k < n
    · obtain ⟨x, hx⟩ : ∃ x, ats[k]? = some x := ⟨_, List.getElem?_eq_getElem (by rw [← HN.out]; exact hlt)⟩
      obtain ⟨a, ha, hab, hc⟩ := (HRD.out.below (HA.out.below.mono hBb)) (by rw [flatMap_len _ 2 atC_len]; (try simp only); rw [← HN.out]; omega)
      (try simp only at ha)
      subst ha
      have g0 := flatMap_at atC 2 atC_len ats k 0 (by omega)
      have g1 := flatMap_at atC 2 atC_len ats k 1 (by omega)
      rw [hx] at g0 g1
      obtain ⟨s1, s2⟩ := okAt_len HAT.out hx
      have hst := encA_step ats k x hx
      obtain ⟨y1, y2⟩ := x
      simp only at s1 s2 hst
      have c0 : wr.cell? (a.add (k * 2)) = some (.string y1) := hc (k * 2) _ g0
      have c1 : wr.cell? ⟨(a.add (k * 2)).block, (a.add (k * 2)).off + 1, none⟩ = some (.string y2) := cell_far (hc (k * 2 + 1) _ g1) (by omega)
      have t1 := text_len y1 s1
      have t2 := text_len y2 s2
      have HST := Lib.hid hst
      have HTL := Lib.hid (And.intro t1 t2)
      have hzr : base ≤ wr.heap.size := Nat.le_trans hbase HA.out.below.size
      have HA0 : Hid (ASt v w (wr.alloc (.cells #[.string y1, .string y2] 132)) base w.heap.size (.cells #[.int .u64 (x0 : Int), .int .u64 (x1 : Int), .int .u64 (x2 : Int), .int .u64 (x3 : Int), .string x4, .string x5, .int .i64 x6, .int .i64 x7, .bool x8, .slice (some a) n xc] 75) u0 (((((((((((l ++ Mi.put x0) ++ Mi.put x1) ++ Mi.put x2) ++ Mi.put x3) ++ Mi.text x4.data.toList) ++ Mi.text x5.data.toList) ++ Mi.put x6) ++ Mi.put x7) ++ flag x8) ++ Mi.put n) ++ encA (ats.take k))) := Lib.hid (HA.out.keep ((Below.refl _ _).alloc (Nat.le_refl _) _) hbase)
      have hz0 : base ≤ (wr.alloc (.cells #[.string y1, .string y2] 132)).heap.size := by simp; omega
      have hL0 : (((((((((((l ++ Mi.put x0) ++ Mi.put x1) ++ Mi.put x2) ++ Mi.put x3) ++ Mi.text x4.data.toList) ++ Mi.text x5.data.toList) ++ Mi.put x6) ++ Mi.put x7) ++ flag x8) ++ Mi.put n) ++ encA (ats.take k)).length ≤ 4294967296 := by obtain ⟨l0, l1, l2, l3, l4, l5, l6, l7, l8, l9⟩ := HL.out; (try simp only [List.length_append]); omega
      have C0 := Lib.hid (appendtext_calls base u0 (((((((((((l ++ Mi.put x0) ++ Mi.put x1) ++ Mi.put x2) ++ Mi.put x3) ++ Mi.text x4.data.toList) ++ Mi.text x5.data.toList) ++ Mi.put x6) ++ Mi.put x7) ++ flag x8) ++ Mi.put n) ++ encA (ats.take k)) y1 (wr.alloc (.cells #[.string y1, .string y2] 132)) HA0.out.own hz0 hL0 (by omega))
      have HK0 : Hid ((wr.alloc (.cells #[.string y1, .string y2] 132)).heap[wr.heap.size]? = some (.cells #[.string y1, .string y2] 132)) := Lib.hid (heap_alloc_new wr _)
      clear g0 g1 hc hx hst t1 t2 hz0 hL0
      go_wp2_with fail
      refine C0.out.mono ?_
      rintro e w1 ⟨v1, rfl, ho, hg⟩
      have hK1 : w1.heap[wr.heap.size]? = some (.cells #[.string y1, .string y2] 132) := (hg.grown.block _ (by simp) (Ne.symm (own_not HA0.out.own HK0.out (by decide)))).trans HK0.out
      have HA1 : Hid (ASt v w w1 base w.heap.size (.cells #[.int .u64 (x0 : Int), .int .u64 (x1 : Int), .int .u64 (x2 : Int), .int .u64 (x3 : Int), .string x4, .string x5, .int .i64 x6, .int .i64 x7, .bool x8, .slice (some a) n xc] 75) v1 ((((((((((((l ++ Mi.put x0) ++ Mi.put x1) ++ Mi.put x2) ++ Mi.put x3) ++ Mi.text x4.data.toList) ++ Mi.text x5.data.toList) ++ Mi.put x6) ++ Mi.put x7) ++ flag x8) ++ Mi.put n) ++ encA (ats.take k)) ++ Mi.text y1.data.toList)) := Lib.hid (HA0.out.step ho hg hbase)
      have k1 : w1.cell? ⟨wr.heap.size, 1, none⟩ = some (.string y2) := cell_of_row _ _ 1 _ _ (0, 0) hK1
      clear ho hg hK1 C0 HA0 HK0
      have hz1 : base ≤ w1.heap.size := Nat.le_trans hbase HA1.out.below.size
      have hL1 : ((((((((((((l ++ Mi.put x0) ++ Mi.put x1) ++ Mi.put x2) ++ Mi.put x3) ++ Mi.text x4.data.toList) ++ Mi.text x5.data.toList) ++ Mi.put x6) ++ Mi.put x7) ++ flag x8) ++ Mi.put n) ++ encA (ats.take k)) ++ Mi.text y1.data.toList).length ≤ 4294967296 := by obtain ⟨l0, l1, l2, l3, l4, l5, l6, l7, l8, l9⟩ := HL.out; have := HTL.out.1; simp only [List.length_append]; omega
      have C1 := Lib.hid (appendtext_calls base v1 ((((((((((((l ++ Mi.put x0) ++ Mi.put x1) ++ Mi.put x2) ++ Mi.put x3) ++ Mi.text x4.data.toList) ++ Mi.text x5.data.toList) ++ Mi.put x6) ++ Mi.put x7) ++ flag x8) ++ Mi.put n) ++ encA (ats.take k)) ++ Mi.text y1.data.toList) y2 w1 HA1.out.own hz1 hL1 (by omega))
      clear hL1
      go_wp2_with fail
      refine C1.out.mono ?_
      rintro e w2 ⟨v2, rfl, ho, hg⟩
      have HA2 : Hid (ASt v w w2 base w.heap.size (.cells #[.int .u64 (x0 : Int), .int .u64 (x1 : Int), .int .u64 (x2 : Int), .int .u64 (x3 : Int), .string x4, .string x5, .int .i64 x6, .int .i64 x7, .bool x8, .slice (some a) n xc] 75) v2 (((((((((((((l ++ Mi.put x0) ++ Mi.put x1) ++ Mi.put x2) ++ Mi.put x3) ++ Mi.text x4.data.toList) ++ Mi.text x5.data.toList) ++ Mi.put x6) ++ Mi.put x7) ++ flag x8) ++ Mi.put n) ++ encA (ats.take k)) ++ Mi.text y1.data.toList) ++ Mi.text y2.data.toList)) := Lib.hid (HA1.out.step ho hg hbase)
      clear ho hg C1 HA1
      go_wp2_with fail
      go_roundw
      case rel => exact ⟨k + 1, by go_num, by omega, by rw [HST.out]; have := HTL.out; simp only [List.length_append]; omega, Lib.hid (by rw [HST.out]; have := HA2.out; simpa only [List.append_assoc] using this)⟩
      case measure => simp [intOf]; omega
    · obtain rfl : n = k := by omega
      have HFI : Hid (((((((((((l ++ Mi.put x0) ++ Mi.put x1) ++ Mi.put x2) ++ Mi.put x3) ++ Mi.text x4.data.toList) ++ Mi.text x5.data.toList) ++ Mi.put x6) ++ Mi.put x7) ++ flag x8) ++ Mi.put n) ++ encA (ats.take n) = l ++ enc ⟨x0, x1, x2, x3, x4, x5, x6, x7, x8, ats⟩) := Lib.hid (by rw [List.take_of_length_le (by rw [← HN.out]; exact Nat.le_refl _), HEN.out]; simp only [List.append_assoc])
      go_wp2_with fail
      go_ret
      exact ⟨_, rfl, by rw [← HFI.out]; exact HA.out.own, HA.out.below, HA.out.gr⟩
theorem spanappend_yes (x0 x1 x2 x3 : Nat) (x4 x5 : ByteArray) (x6 x7 : Nat) (x8 : Bool) (ats : List (ByteArray × ByteArray)) (xA : Option Addr) (xc n B base : Nat) (v : Value) (l : List UInt8) (w : World) (hn : n = ats.length) (hy : RdL w B ⟨⟨x0, x1, x2, x3, x4, x5, x6, x7, x8, ats⟩, xA, xc⟩) (hB : B ≤ w.heap.size) (hBb : B ≤ base) (hown : w.ownsRow base 5 1 v l.length (l.map B8)) (hbase : base ≤ w.heap.size) (hl : l.length ≤ 1000000000)
    (hr : right ⟨x0, x1, x2, x3, x4, x5, x6, x7, x8, ats⟩ = true) :
    Calls Try.prog 81 #[v, .agg #[.int .u64 (x0 : Int), .int .u64 (x1 : Int), .int .u64 (x2 : Int), .int .u64 (x3 : Int), .string x4, .string x5, .int .i64 x6, .int .i64 x7, .bool x8, .slice xA n xc]] w fun e w' => ∃ v', e = .returned v' ∧ w'.ownsRow base 5 1 v' (l ++ enc ⟨x0, x1, x2, x3, x4, x5, x6, x7, x8, ats⟩).length ((l ++ enc ⟨x0, x1, x2, x3, x4, x5, x6, x7, x8, ats⟩).map B8) ∧ Below base w w' := (spanappend_gr x0 x1 x2 x3 x4 x5 x6 x7 x8 ats xA xc n B base v l w hn hy hB hBb hown hbase hl hr).mono fun e w' ⟨v', h1, h2, h3, _⟩ => ⟨v', h1, h2, h3⟩
set_option maxHeartbeats 4000000 in
theorem spanappend_no (x0 x1 x2 x3 : Int) (x4 x5 : ByteArray) (x6 x7 : Int) (x8 : Bool) (ats : List (ByteArray × ByteArray)) (xA : Option Addr) (xc n B base : Nat) (v : Value) (l : List UInt8) (w : World) (hn : n = ats.length) (hy : RdL w B ⟨⟨x0, x1, x2, x3, x4, x5, x6, x7, x8, ats⟩, xA, xc⟩) (hB : B ≤ w.heap.size) (hown : w.ownsRow base 5 1 v l.length (l.map B8)) (hbase : base ≤ w.heap.size)
    (hr : right ⟨x0, x1, x2, x3, x4, x5, x6, x7, x8, ats⟩ = false) :
    Calls Try.prog 81 #[v, .agg #[.int .u64 x0, .int .u64 x1, .int .u64 x2, .int .u64 x3, .string x4, .string x5, .int .i64 x6, .int .i64 x7, .bool x8, .slice xA n xc]] w fun e w' => ∃ v', e = .returned v' ∧ w'.ownsRow base 5 1 v' l.length (l.map B8) ∧ Below base w w' := by
  have HB0 := Lib.hid ((Below.refl w.heap.size w).alloc (Nat.le_refl _) (.cells #[.int .u64 x0, .int .u64 x1, .int .u64 x2, .int .u64 x3, .string x4, .string x5, .int .i64 x6, .int .i64 x7, .bool x8, .slice xA n xc] 75))
  have HRT := Lib.hid (right_lit x0 x1 x2 x3 x4 x5 x6 x7 x8 ats xA xc n B (w.alloc (.cells #[.int .u64 x0, .int .u64 x1, .int .u64 x2, .int .u64 x3, .string x4, .string x5, .int .i64 x6, .int .i64 x7, .bool x8, .slice xA n xc] 75)) hn (hy.keep (fun p hp => World.cell?_alloc_lt w _ p (by omega))) (by simp; omega))
  rw [hr] at HRT
  have HOW := Lib.hid hown
  clear hr hy hown hn
  go_enter Try.func81, Try.ntmps81
  go_wp2_with (go_at_call 96; (with_reducible refine (HRT.out).mono ?_); rintro e w0 ⟨rfl, hb0⟩; have HO0 := Lib.hid (own_below (own_below HOW.out HB0.out) hb0); have HBB := Lib.hid ((HB0.out.mono hbase).trans (hb0.mono (Nat.le_trans hbase HB0.out.size))); clear hb0)
  go_ret
  exact ⟨_, rfl, HO0.out, HBB.out⟩

/-- What Bytes hands back: a row of its own. -/
def BytesOf (L : List UInt8) (w : World) (e : Ending) (w' : World) : Prop := ∃ v, e = .returned v ∧ w'.ownsRow w.heap.size 5 1 v L.length (L.map B8) ∧ Below w.heap.size w w'
theorem sp_nat {s : Sp} (hok : s.ok) (hr : right s = true) : s = ⟨(s.hi.toNat : Nat), (s.lo.toNat : Nat), (s.id.toNat : Nat), (s.pa.toNat : Nat), s.sv, s.op, (s.st.toNat : Nat), (s.du.toNat : Nat), s.er, s.ats⟩ := by
  obtain ⟨r1, r2, r3, r4, r5, r6, r7⟩ := right_parts hr
  have h1 := hok.hi.1
  have h2 := hok.lo.1
  have h3 := hok.id.1
  have h4 := hok.pa.1
  obtain ⟨x0, x1, x2, x3, x4, x5, x6, x7, x8, ats⟩ := s
  simp only at *
  rw [Int.toNat_of_nonneg h1, Int.toNat_of_nonneg h2, Int.toNat_of_nonneg h3, Int.toNat_of_nonneg h4, Int.toNat_of_nonneg r3, Int.toNat_of_nonneg r5]
end Go.Proofs.Ytchcjbapbdfhkaa
