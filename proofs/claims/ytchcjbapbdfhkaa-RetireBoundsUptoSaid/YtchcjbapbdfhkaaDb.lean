/- The document's Bit, AddSpan. -/
import Derived.Test.YtchcjbapbdfhkaaBk3
import Derived.Test.YtchcjbapbdfhkaaPut
import Derived.Test.YtchcjbapbdfhkaaBs
namespace Go.Proofs.Ytchcjbapbdfhkaa
open Go.RowKit
set_option linter.unusedVariables false
set_option maxRecDepth 100000

def RB (base k : Nat) (w w' : World) : Prop := Below base w w' ∧ w'.heap[k]? = w.heap[k]?
theorem RB.goes {base k : Nat} : PI.Goes (RB base k) := ⟨fun w => ⟨Below.refl _ w, rfl⟩, fun _ _ _ h q => ⟨h.1.trans q.1, q.2.trans h.2⟩⟩
theorem PI.ToldG.done_ {ops : Array Oper} {a0 : Act} {R : World → World → Prop} {G : Nat → World → Prop} {FF : Nat → Value → World → Prop} {nd : List (Nat × Nat)} {I : (Nat → Bool) → Act → World → Prop} {L : Nat → Bool} {i : Nat} {o : Oper} {a : Act} {w : World} (T : PI.ToldG ops a0 R G FF nd I L i o a w) (j : Nat) (h : (o.after.any fun e => Region.binds .any e && e.on == j) = true) : L j = true := by
  obtain ⟨e, he, hb, rfl⟩ := PI.after_of h
  exact T.done e he hb
set_option maxHeartbeats 2000000 in
theorem bit_any (b : Bool) (w : World) : Calls Try.prog 97 #[.bool b] w fun e w' => e = .returned (.int .u64 (((if b then 1 else 0 : Nat)) : Int)) ∧ w = w' := by
  cases b
  · go_enter Try.func97, Try.ntmps97
    go_wp2_with fail
    go_ret
    exact ⟨rfl, rfl⟩
  · go_enter Try.func97, Try.ntmps97
    go_wp2_with fail
    go_ret
    exact ⟨rfl, rfl⟩
def DF8 (x0 x1 x2 x3 : Nat) (x4 x5 : ByteArray) (x6 x7 : Nat) (x8 : Bool) (n xc bt : Nat) (xA : Option Addr) (k base : Nat) (v : Value) (L : List UInt8)(aa : Addr) (j : Nat) (y1 y2 : ByteArray) : Nat → Value → World → Prop
  | 0, u, _ => u = v
  | 1, u, _ => u = .pointer (some ⟨k, 9, none⟩)
  | 2, u, _ => u = .slice (some aa) n xc
  | 3, u, _ => u = .int .i64 (j : Int)
  | 4, u, _ => u = .pointer (some (aa.add (j * 2)))
  | 5, u, _ => u = .pointer (some (aa.add (j * 2)))
  | 6, u, _ => u = .string y1
  | 7, u, w => w.ownsRow base 5 1 u ((L ++ Mi.text y1.data.toList)).length (((L ++ Mi.text y1.data.toList)).map B8)
  | 8, u, _ => u = .pointer (some ⟨k, 9, none⟩)
  | 9, u, _ => u = .slice (some aa) n xc
  | 10, u, _ => u = .int .i64 (j : Int)
  | 11, u, _ => u = .pointer (some (aa.add (j * 2)))
  | 12, u, _ => u = .pointer (some ⟨(aa.add (j * 2)).block, (aa.add (j * 2)).off + 1, none⟩)
  | 13, u, _ => u = .string y2
  | 14, u, w => w.ownsRow base 5 1 u (((L ++ Mi.text y1.data.toList) ++ Mi.text y2.data.toList)).length ((((L ++ Mi.text y1.data.toList) ++ Mi.text y2.data.toList)).map B8)
  | 15, u, w => w.ownsRow base 5 1 u (((L ++ Mi.text y1.data.toList) ++ Mi.text y2.data.toList)).length ((((L ++ Mi.text y1.data.toList) ++ Mi.text y2.data.toList)).map B8)
  | _, _, _ => True
theorem DF8.other {i : Nat} {u : Value} {x0 x1 x2 x3 : Nat} {x4 x5 : ByteArray} {x6 x7 : Nat} {x8 : Bool} {n xc bt : Nat} {xA : Option Addr} {k base : Nat} {v : Value} {L : List UInt8}{aa : Addr} {j : Nat} {y1 y2 : ByteArray} {w w' : World} (h : DF8 x0 x1 x2 x3 x4 x5 x6 x7 x8 n xc bt xA k base v L aa j y1 y2 i u w) (hi : ¬ (i = 7 ∨ i = 14 ∨ i = 15)) : DF8 x0 x1 x2 x3 x4 x5 x6 x7 x8 n xc bt xA k base v L aa j y1 y2 i u w' := by
  match i, h, hi with
  | 0, h, hi => exact h
  | 1, h, hi => exact h
  | 2, h, hi => exact h
  | 3, h, hi => exact h
  | 4, h, hi => exact h
  | 5, h, hi => exact h
  | 6, h, hi => exact h
  | 7, h, hi => exact absurd (by decide) hi
  | 8, h, hi => exact h
  | 9, h, hi => exact h
  | 10, h, hi => exact h
  | 11, h, hi => exact h
  | 12, h, hi => exact h
  | 13, h, hi => exact h
  | 14, h, hi => exact absurd (by decide) hi
  | 15, h, hi => exact absurd (by decide) hi
  | _ + 16, h, hi => trivial

def DF3 (x0 x1 x2 x3 : Nat) (x4 x5 : ByteArray) (x6 x7 : Nat) (x8 : Bool) (n xc bt : Nat) (xA : Option Addr) (k base : Nat) (v : Value) (L : List UInt8) : Nat → Value → World → Prop
  | 0, u, _ => u = v
  | 1, u, _ => u = .pointer (some ⟨k, 6, none⟩)
  | 2, u, _ => u = .int .i64 (x6 : Int)
  | 3, u, _ => u = .int .u64 (x6 : Int)
  | 4, u, w => w.ownsRow base 5 1 u ((L ++ Mi.put x6)).length (((L ++ Mi.put x6)).map B8)
  | 5, u, _ => u = .pointer (some ⟨k, 7, none⟩)
  | 6, u, _ => u = .int .i64 (x7 : Int)
  | 7, u, _ => u = .int .u64 (x7 : Int)
  | 8, u, w => w.ownsRow base 5 1 u (((L ++ Mi.put x6) ++ Mi.put x7)).length ((((L ++ Mi.put x6) ++ Mi.put x7)).map B8)
  | 9, u, _ => u = .pointer (some ⟨k, 8, none⟩)
  | 10, u, _ => u = .bool x8
  | 11, u, _ => u = .int .u64 (bt : Int)
  | 12, u, w => w.ownsRow base 5 1 u ((((L ++ Mi.put x6) ++ Mi.put x7) ++ Mi.put bt)).length (((((L ++ Mi.put x6) ++ Mi.put x7) ++ Mi.put bt)).map B8)
  | 13, u, w => w.ownsRow base 5 1 u ((((L ++ Mi.put x6) ++ Mi.put x7) ++ Mi.put bt)).length (((((L ++ Mi.put x6) ++ Mi.put x7) ++ Mi.put bt)).map B8)
  | _, _, _ => True
theorem DF3.other {i : Nat} {u : Value} {x0 x1 x2 x3 : Nat} {x4 x5 : ByteArray} {x6 x7 : Nat} {x8 : Bool} {n xc bt : Nat} {xA : Option Addr} {k base : Nat} {v : Value} {L : List UInt8} {w w' : World} (h : DF3 x0 x1 x2 x3 x4 x5 x6 x7 x8 n xc bt xA k base v L i u w) (hi : ¬ (i = 4 ∨ i = 8 ∨ i = 12 ∨ i = 13)) : DF3 x0 x1 x2 x3 x4 x5 x6 x7 x8 n xc bt xA k base v L i u w' := by
  match i, h, hi with
  | 0, h, hi => exact h
  | 1, h, hi => exact h
  | 2, h, hi => exact h
  | 3, h, hi => exact h
  | 4, h, hi => exact absurd (by decide) hi
  | 5, h, hi => exact h
  | 6, h, hi => exact h
  | 7, h, hi => exact h
  | 8, h, hi => exact absurd (by decide) hi
  | 9, h, hi => exact h
  | 10, h, hi => exact h
  | 11, h, hi => exact h
  | 12, h, hi => exact absurd (by decide) hi
  | 13, h, hi => exact absurd (by decide) hi
  | _ + 14, h, hi => trivial

def DF2 (x0 x1 x2 x3 : Nat) (x4 x5 : ByteArray) (x6 x7 : Nat) (x8 : Bool) (n xc bt : Nat) (xA : Option Addr) (k base : Nat) (v : Value) (L : List UInt8) : Nat → Value → World → Prop
  | 0, u, _ => u = v
  | 1, u, _ => u = .pointer (some ⟨k, 4, none⟩)
  | 2, u, _ => u = .string x4
  | 3, u, w => w.ownsRow base 5 1 u ((L ++ Mi.text x4.data.toList)).length (((L ++ Mi.text x4.data.toList)).map B8)
  | 4, u, _ => u = .pointer (some ⟨k, 5, none⟩)
  | 5, u, _ => u = .string x5
  | 6, u, w => w.ownsRow base 5 1 u (((L ++ Mi.text x4.data.toList) ++ Mi.text x5.data.toList)).length ((((L ++ Mi.text x4.data.toList) ++ Mi.text x5.data.toList)).map B8)
  | 7, u, w => w.ownsRow base 5 1 u (((L ++ Mi.text x4.data.toList) ++ Mi.text x5.data.toList)).length ((((L ++ Mi.text x4.data.toList) ++ Mi.text x5.data.toList)).map B8)
  | _, _, _ => True
theorem DF2.other {i : Nat} {u : Value} {x0 x1 x2 x3 : Nat} {x4 x5 : ByteArray} {x6 x7 : Nat} {x8 : Bool} {n xc bt : Nat} {xA : Option Addr} {k base : Nat} {v : Value} {L : List UInt8} {w w' : World} (h : DF2 x0 x1 x2 x3 x4 x5 x6 x7 x8 n xc bt xA k base v L i u w) (hi : ¬ (i = 3 ∨ i = 6 ∨ i = 7)) : DF2 x0 x1 x2 x3 x4 x5 x6 x7 x8 n xc bt xA k base v L i u w' := by
  match i, h, hi with
  | 0, h, hi => exact h
  | 1, h, hi => exact h
  | 2, h, hi => exact h
  | 3, h, hi => exact absurd (by decide) hi
  | 4, h, hi => exact h
  | 5, h, hi => exact h
  | 6, h, hi => exact absurd (by decide) hi
  | 7, h, hi => exact absurd (by decide) hi
  | _ + 8, h, hi => trivial

def DF1 (x0 x1 x2 x3 : Nat) (x4 x5 : ByteArray) (x6 x7 : Nat) (x8 : Bool) (n xc bt : Nat) (xA : Option Addr) (k base : Nat) (v : Value) (L : List UInt8) : Nat → Value → World → Prop
  | 0, u, _ => u = v
  | 1, u, _ => u = .pointer (some ⟨k, 0, none⟩)
  | 2, u, _ => u = .pointer (some ⟨k, 0, none⟩)
  | 3, u, _ => u = .int .u64 (x0 : Int)
  | 4, u, w => w.ownsRow base 5 1 u ((L ++ Mi.put x0)).length (((L ++ Mi.put x0)).map B8)
  | 5, u, _ => u = .pointer (some ⟨k, 0, none⟩)
  | 6, u, _ => u = .pointer (some ⟨k, 1, none⟩)
  | 7, u, _ => u = .int .u64 (x1 : Int)
  | 8, u, w => w.ownsRow base 5 1 u (((L ++ Mi.put x0) ++ Mi.put x1)).length ((((L ++ Mi.put x0) ++ Mi.put x1)).map B8)
  | 9, u, _ => u = .pointer (some ⟨k, 2, none⟩)
  | 10, u, _ => u = .int .u64 (x2 : Int)
  | 11, u, w => w.ownsRow base 5 1 u ((((L ++ Mi.put x0) ++ Mi.put x1) ++ Mi.put x2)).length (((((L ++ Mi.put x0) ++ Mi.put x1) ++ Mi.put x2)).map B8)
  | 12, u, _ => u = .pointer (some ⟨k, 3, none⟩)
  | 13, u, _ => u = .int .u64 (x3 : Int)
  | 14, u, w => w.ownsRow base 5 1 u (((((L ++ Mi.put x0) ++ Mi.put x1) ++ Mi.put x2) ++ Mi.put x3)).length ((((((L ++ Mi.put x0) ++ Mi.put x1) ++ Mi.put x2) ++ Mi.put x3)).map B8)
  | 15, u, w => w.ownsRow base 5 1 u (((((L ++ Mi.put x0) ++ Mi.put x1) ++ Mi.put x2) ++ Mi.put x3)).length ((((((L ++ Mi.put x0) ++ Mi.put x1) ++ Mi.put x2) ++ Mi.put x3)).map B8)
  | _, _, _ => True
theorem DF1.other {i : Nat} {u : Value} {x0 x1 x2 x3 : Nat} {x4 x5 : ByteArray} {x6 x7 : Nat} {x8 : Bool} {n xc bt : Nat} {xA : Option Addr} {k base : Nat} {v : Value} {L : List UInt8} {w w' : World} (h : DF1 x0 x1 x2 x3 x4 x5 x6 x7 x8 n xc bt xA k base v L i u w) (hi : ¬ (i = 4 ∨ i = 8 ∨ i = 11 ∨ i = 14 ∨ i = 15)) : DF1 x0 x1 x2 x3 x4 x5 x6 x7 x8 n xc bt xA k base v L i u w' := by
  match i, h, hi with
  | 0, h, hi => exact h
  | 1, h, hi => exact h
  | 2, h, hi => exact h
  | 3, h, hi => exact h
  | 4, h, hi => exact absurd (by decide) hi
  | 5, h, hi => exact h
  | 6, h, hi => exact h
  | 7, h, hi => exact h
  | 8, h, hi => exact absurd (by decide) hi
  | 9, h, hi => exact h
  | 10, h, hi => exact h
  | 11, h, hi => exact absurd (by decide) hi
  | 12, h, hi => exact h
  | 13, h, hi => exact h
  | 14, h, hi => exact absurd (by decide) hi
  | 15, h, hi => exact absurd (by decide) hi
  | _ + 16, h, hi => trivial
set_option maxHeartbeats 32000000 in
theorem addspan_any (x0 x1 x2 x3 : Nat) (x4 x5 : ByteArray) (x6 x7 : Nat) (x8 : Bool) (ats : List (ByteArray × ByteArray)) (xA : Option Addr) (xc n B base : Nat) (v : Value) (L : List UInt8) (w : World) (hn : n = ats.length) (hy : RdL w B ⟨⟨x0, x1, x2, x3, x4, x5, x6, x7, x8, ats⟩, xA, xc⟩) (hB : B ≤ w.heap.size) (hBb : B ≤ base) (hown : w.ownsRow base 5 1 v L.length (L.map B8)) (hbase : base ≤ w.heap.size) (hl : L.length ≤ 1000000000)
    (hr : right ⟨x0, x1, x2, x3, x4, x5, x6, x7, x8, ats⟩ = true) :
    Calls Try.prog 98 #[v, .agg #[.int .u64 (x0 : Int), .int .u64 (x1 : Int), .int .u64 (x2 : Int), .int .u64 (x3 : Int), .string x4, .string x5, .int .i64 (x6 : Int), .int .i64 (x7 : Int), .bool x8, .slice xA n xc]] w fun e w' => ∃ v', e = .returned v' ∧ w'.ownsRow base 5 1 v' (L ++ enc ⟨x0, x1, x2, x3, x4, x5, x6, x7, x8, ats⟩).length ((L ++ enc ⟨x0, x1, x2, x3, x4, x5, x6, x7, x8, ats⟩).map B8) ∧ Below base w w' := by
  have hok := hy.ok
  obtain ⟨r1, r2, r3, r4, r5, r6, r7⟩ := right_parts hr
  simp only at r1 r2 r3 r4 r5 r6 r7
  have q0 : x0 < 18446744073709551616 := by have := hok.hi.2; (try simp only at this); omega
  have q1 : x1 < 18446744073709551616 := by have := hok.lo.2; (try simp only at this); omega
  have q2 : x2 < 18446744073709551616 := by have := hok.id.2; (try simp only at this); omega
  have q3 : x3 < 18446744073709551616 := by have := hok.pa.2; (try simp only at this); omega
  have q4 := (nameB_len r1).2
  have q5 := (nameB_len r2).2
  have q6 : x6 ≤ 1099511627776 := by omega
  have q7 : x7 ≤ 1073741824 := by omega
  have q8 : n ≤ 4 := by rw [hn]; exact rightAts_len r7
  have l0 := (Mi.put_len x0).2
  have l1 := (Mi.put_len x1).2
  have l2 := (Mi.put_len x2).2
  have l3 := (Mi.put_len x3).2
  have l4 := text_len x4 q4
  have l5 := text_len x5 q5
  have l6 := (Mi.put_len x6).2
  have l7 := (Mi.put_len x7).2
  have l9 := (Mi.put_len n).2
  obtain ⟨k, hk⟩ : ∃ k, k = w.heap.size := ⟨_, rfl⟩
  obtain ⟨bt, hbt⟩ : ∃ bt : Nat, bt = (if x8 then 1 else 0) := ⟨_, rfl⟩
  have HBIT : Hid (∀ W, Calls Try.prog 97 #[.bool x8] W fun e w' => e = .returned (.int .u64 (bt : Int)) ∧ W = w') := Lib.hid (fun W => by rw [hbt]; exact bit_any x8 W)
  have qb : bt ≤ 1 := by rw [hbt]; split <;> omega
  have lb := (Mi.put_len bt).2
  have HBT := Lib.hid hbt
  obtain ⟨EN, hEN⟩ : ∃ EN, EN = enc ⟨x0, x1, x2, x3, x4, x5, x6, x7, x8, ats⟩ := ⟨_, rfl⟩
  have HENC : Hid (EN = Mi.put x0 ++ (Mi.put x1 ++ (Mi.put x2 ++ (Mi.put x3 ++ (Mi.text x4.data.toList ++ (Mi.text x5.data.toList ++ (Mi.put x6 ++ (Mi.put x7 ++ (flag x8 ++ (Mi.put n ++ encA ats)))))))))) := Lib.hid (by rw [hEN, hn]; rfl)
  rw [← hEN]
  obtain ⟨L00, hL00⟩ : ∃ L', L' = L := ⟨_, rfl⟩
  clear hEN
  clear hbt
  have HN := Lib.hid hn
  have HL00 := Lib.hid hL00
  clear hL00
  have HYH := Lib.hid hy
  clear hn hy hok
  have HQ := Lib.hid (And.intro q0 (And.intro q1 (And.intro q2 (And.intro q3 (And.intro q4 (And.intro q5 (And.intro q6 (And.intro q7 q8))))))))
  have HL := Lib.hid (And.intro l0 (And.intro l1 (And.intro l2 (And.intro l3 (And.intro l4 (And.intro l5 (And.intro l6 (And.intro l7 l9))))))))
  have HX0 := Lib.hid (heap_alloc_new w (.cells #[.int .u64 (x0 : Int), .int .u64 (x1 : Int), .int .u64 (x2 : Int), .int .u64 (x3 : Int), .string x4, .string x5, .int .i64 (x6 : Int), .int .i64 (x7 : Int), .bool x8, .slice xA n xc] 75))
  have HB0 := Lib.hid ((Below.refl w.heap.size w).alloc (Nat.le_refl _) (.cells #[.int .u64 (x0 : Int), .int .u64 (x1 : Int), .int .u64 (x2 : Int), .int .u64 (x3 : Int), .string x4, .string x5, .int .i64 (x6 : Int), .int .i64 (x7 : Int), .bool x8, .slice xA n xc] 75))
  have HO0 := Lib.hid (own_below hown HB0.out)
  obtain ⟨vA, vc, rfl, _, _⟩ := own_rd hown
  clear q0 q1 q2 q3 q4 q5 q6 q7 q8 l0 l1 l2 l3 l4 l5 l6 l7 l9 hown
  go_enter Try.func98, Try.ntmps98
  go_wp2_with fail
  have hbase0 := hbase
  generalize w.alloc (.cells #[.int .u64 (x0 : Int), .int .u64 (x1 : Int), .int .u64 (x2 : Int), .int .u64 (x3 : Int), .string x4, .string x5, .int .i64 (x6 : Int), .int .i64 (x7 : Int), .bool x8, .slice xA n xc] 75) = W0 at *
  rw [← hk]
  have HO : Hid (W0.drew.ownsRow base 5 1 (.slice vA L.length vc) L.length (L.map B8)) := Lib.hid (own_drew HO0.out)
  have HX : Hid (W0.drew.heap[k]? = some (.cells #[.int .u64 (x0 : Int), .int .u64 (x1 : Int), .int .u64 (x2 : Int), .int .u64 (x3 : Int), .string x4, .string x5, .int .i64 (x6 : Int), .int .i64 (x7 : Int), .bool x8, .slice xA n xc] 75)) := Lib.hid (by rw [hk]; exact HX0.out)
  have HBW : Hid (Below base w W0.drew) := Lib.hid (below_drew (HB0.out.mono hbase))
  replace hbase : base ≤ W0.drew.heap.size := Nat.le_trans hbase0 HBW.out.size
  obtain ⟨q0, q1, q2, q3, q4, q5, q6, q7, q8⟩ := HQ.out
  obtain ⟨l0, l1, l2, l3, l4, l5, l6, l7, l9⟩ := HL.out
  generalize hv : Value.slice vA L.length vc = v at *
  have HLL : Hid True := Lib.hid trivial
  refine PI.wp_region_persG (R := RB base k) (G := fun _ _ => True) (I := fun L0 _ w => L0 4 = false → w.ownsRow base 5 1 v L.length (L.map B8)) [(2, 1), (3, 2), (4, 0), (4, 3), (6, 5), (7, 6), (8, 4), (8, 7), (10, 9), (11, 8), (11, 10), (13, 12), (14, 11), (14, 13), (15, 14)] [15] (by kernel_rfl) (PI.formed_of (by kernel_rfl)) RB.goes (fun _ => trivial) (DF1 x0 x1 x2 x3 x4 x5 x6 x7 x8 n xc bt xA k base v L) (fun _ => HO.out) ?_ ?_
  · intro i o ho
    rcases i with _ | _ | _ | _ | _ | _ | _ | _ | _ | _ | _ | _ | _ | _ | _ | _ | i
    · obtain rfl := Option.some.inj (show some _ = some o from ho)
      refine PI.shown_val rfl fun a w3 L0 hr T => ?_
      have h0 : a.eval (.tmp 0) = v := T.was 0 (by kernel_rfl)
      exact ⟨v, w3, by simp only [execOp, h0]; simp [go_sem], PI.Post.pure RB.goes rfl (fun hl => T.inv hl)⟩
    · obtain rfl := Option.some.inj (show some _ = some o from ho)
      refine PI.shown_val rfl fun a w3 L0 hr T => ?_
      have h3 : a.eval (.tmp 3) = .pointer (some ⟨k, 0, none⟩) := T.was 3 (by kernel_rfl)
      exact ⟨.pointer (some ⟨k, 0, none⟩), w3, by simp only [execOp, h3]; simp [go_sem], PI.Post.pure RB.goes rfl (fun hl => T.inv hl)⟩
    · obtain rfl := Option.some.inj (show some _ = some o from ho)
      refine PI.shown_val rfl fun a w3 L0 hr T => ?_
      have h7 : a.eval (.tmp 7) = .pointer (some ⟨k, 0, none⟩) := T.at_ 1 7 (by kernel_rfl) (by kernel_rfl) (by kernel_rfl)
      exact ⟨.pointer (some ⟨k, 0, none⟩), w3, by simp only [execOp, h7]; simp [go_sem], PI.Post.pure RB.goes rfl (fun hl => T.inv hl)⟩
    · obtain rfl := Option.some.inj (show some _ = some o from ho)
      refine PI.shown_val rfl fun a w3 L0 hr T => ?_
      have h8 : a.eval (.tmp 8) = .pointer (some ⟨k, 0, none⟩) := T.at_ 2 8 (by kernel_rfl) (by kernel_rfl) (by kernel_rfl)
      have hc : w3.cell? ⟨k, 0, none⟩ = some (.int .u64 (x0 : Int)) := cell_of_row _ _ 0 _ _ (0, 0) (hr.2.trans HX.out)
      exact ⟨.int .u64 (x0 : Int), w3, by simp only [execOp, h8]; simp [go_sem, hc], PI.Post.pure RB.goes rfl (fun hl => T.inv hl)⟩
    · obtain rfl := Option.some.inj (show some _ = some o from ho)
      refine PI.shown_call rfl 34 fun a w3 L0 hr T => ?_
      have h6 : a.eval (.tmp 6) = v := T.at_ 0 6 (by kernel_rfl) (by kernel_rfl) (by kernel_rfl)
      have h1 : w3.ownsRow base 5 1 (a.eval (.tmp 6)) (L).length ((L).map B8) := by rw [h6]; exact T.inv T.yetNot
      have h9 : a.eval (.tmp 9) = .int .u64 (x0 : Int) := T.at_ 3 9 (by kernel_rfl) (by kernel_rfl) (by kernel_rfl)
      refine ⟨#[a.eval (.tmp 6), .int .u64 (x0 : Int)], by simp only [execOp, resolve, List.map_toArray, List.map_cons, List.map_nil, h9]; simp [go_sem, Act.eval], ?_⟩
      refine (rput_calls base _ _ x0 w3 h1 (Nat.le_trans hbase hr.1.size) (by (try simp only [List.length_append]); omega) (by omega)).mono fun e w4 hh => ?_
      obtain ⟨u4, rfl, ho4, hg4⟩ := hh
      have hX3 := hr.2.trans HX.out
      refine ⟨_, rfl, ⟨hg4.below (Below.refl _ _) (Nat.le_trans hbase hr.1.size) (own_block_ge h1), hg4.grown.block k (in_heap hX3) (Ne.symm (own_not h1 hX3 (by decide)))⟩, ho4, fun _ _ h => h, fun j u hj hLj hnd hw h => ?_, fun hl => by exfalso; simp [PI.upd] at hl⟩
      by_cases hjr : j = 4 ∨ j = 8 ∨ j = 11 ∨ j = 14 ∨ j = 15
      · rcases hjr with rfl | rfl | rfl | rfl | rfl
        · exact absurd rfl hj
        · exact absurd (T.shut_ 8 4 (by kernel_rfl) hLj) (by rw [T.yetNot]; decide)
        · exact absurd (T.shut_ 8 4 (by kernel_rfl) (T.shut_ 11 8 (by kernel_rfl) hLj)) (by rw [T.yetNot]; decide)
        · exact absurd (T.shut_ 8 4 (by kernel_rfl) (T.shut_ 11 8 (by kernel_rfl) (T.shut_ 14 11 (by kernel_rfl) hLj))) (by rw [T.yetNot]; decide)
        · exact absurd (T.shut_ 8 4 (by kernel_rfl) (T.shut_ 11 8 (by kernel_rfl) (T.shut_ 14 11 (by kernel_rfl) (T.shut_ 15 14 (by kernel_rfl) hLj)))) (by rw [T.yetNot]; decide)
      · exact DF1.other h hjr
    · obtain rfl := Option.some.inj (show some _ = some o from ho)
      refine PI.shown_val rfl fun a w3 L0 hr T => ?_
      have h3 : a.eval (.tmp 3) = .pointer (some ⟨k, 0, none⟩) := T.was 3 (by kernel_rfl)
      exact ⟨.pointer (some ⟨k, 0, none⟩), w3, by simp only [execOp, h3]; simp [go_sem], PI.Post.pure RB.goes rfl (fun hl => T.inv hl)⟩
    · obtain rfl := Option.some.inj (show some _ = some o from ho)
      refine PI.shown_val rfl fun a w3 L0 hr T => ?_
      have h11 : a.eval (.tmp 11) = .pointer (some ⟨k, 0, none⟩) := T.at_ 5 11 (by kernel_rfl) (by kernel_rfl) (by kernel_rfl)
      exact ⟨.pointer (some ⟨k, 1, none⟩), w3, by simp only [execOp, h11]; simp [go_sem], PI.Post.pure RB.goes rfl (fun hl => T.inv hl)⟩
    · obtain rfl := Option.some.inj (show some _ = some o from ho)
      refine PI.shown_val rfl fun a w3 L0 hr T => ?_
      have h12 : a.eval (.tmp 12) = .pointer (some ⟨k, 1, none⟩) := T.at_ 6 12 (by kernel_rfl) (by kernel_rfl) (by kernel_rfl)
      have hc : w3.cell? ⟨k, 1, none⟩ = some (.int .u64 (x1 : Int)) := cell_of_row _ _ 1 _ _ (0, 0) (hr.2.trans HX.out)
      exact ⟨.int .u64 (x1 : Int), w3, by simp only [execOp, h12]; simp [go_sem, hc], PI.Post.pure RB.goes rfl (fun hl => T.inv hl)⟩
    · obtain rfl := Option.some.inj (show some _ = some o from ho)
      refine PI.shown_call rfl 34 fun a w3 L0 hr T => ?_
      have h1 : w3.ownsRow base 5 1 (a.eval (.tmp 10)) ((L ++ Mi.put x0)).length (((L ++ Mi.put x0)).map B8) := T.at_ 4 10 (by kernel_rfl) (by kernel_rfl) (by kernel_rfl)
      have h13 : a.eval (.tmp 13) = .int .u64 (x1 : Int) := T.at_ 7 13 (by kernel_rfl) (by kernel_rfl) (by kernel_rfl)
      refine ⟨#[a.eval (.tmp 10), .int .u64 (x1 : Int)], by simp only [execOp, resolve, List.map_toArray, List.map_cons, List.map_nil, h13]; simp [go_sem, Act.eval], ?_⟩
      refine (rput_calls base _ _ x1 w3 h1 (Nat.le_trans hbase hr.1.size) (by (try simp only [List.length_append]); omega) (by omega)).mono fun e w4 hh => ?_
      obtain ⟨u4, rfl, ho4, hg4⟩ := hh
      have hX3 := hr.2.trans HX.out
      have hl4 : L0 4 = true := PI.ToldG.done_ T 4 (by kernel_rfl)
      refine ⟨_, rfl, ⟨hg4.below (Below.refl _ _) (Nat.le_trans hbase hr.1.size) (own_block_ge h1), hg4.grown.block k (in_heap hX3) (Ne.symm (own_not h1 hX3 (by decide)))⟩, ho4, fun _ _ h => h, fun j u hj hLj hnd hw h => ?_, fun hl => by exfalso; simp [PI.upd, hl4] at hl⟩
      by_cases hjr : j = 4 ∨ j = 8 ∨ j = 11 ∨ j = 14 ∨ j = 15
      · rcases hjr with rfl | rfl | rfl | rfl | rfl
        · simp [PI.needB] at hnd
        · exact absurd rfl hj
        · exact absurd (T.shut_ 11 8 (by kernel_rfl) hLj) (by rw [T.yetNot]; decide)
        · exact absurd (T.shut_ 11 8 (by kernel_rfl) (T.shut_ 14 11 (by kernel_rfl) hLj)) (by rw [T.yetNot]; decide)
        · exact absurd (T.shut_ 11 8 (by kernel_rfl) (T.shut_ 14 11 (by kernel_rfl) (T.shut_ 15 14 (by kernel_rfl) hLj))) (by rw [T.yetNot]; decide)
      · exact DF1.other h hjr
    · obtain rfl := Option.some.inj (show some _ = some o from ho)
      refine PI.shown_val rfl fun a w3 L0 hr T => ?_
      have h3 : a.eval (.tmp 3) = .pointer (some ⟨k, 0, none⟩) := T.was 3 (by kernel_rfl)
      exact ⟨.pointer (some ⟨k, 2, none⟩), w3, by simp only [execOp, h3]; simp [go_sem], PI.Post.pure RB.goes rfl (fun hl => T.inv hl)⟩
    · obtain rfl := Option.some.inj (show some _ = some o from ho)
      refine PI.shown_val rfl fun a w3 L0 hr T => ?_
      have h15 : a.eval (.tmp 15) = .pointer (some ⟨k, 2, none⟩) := T.at_ 9 15 (by kernel_rfl) (by kernel_rfl) (by kernel_rfl)
      have hc : w3.cell? ⟨k, 2, none⟩ = some (.int .u64 (x2 : Int)) := cell_of_row _ _ 2 _ _ (0, 0) (hr.2.trans HX.out)
      exact ⟨.int .u64 (x2 : Int), w3, by simp only [execOp, h15]; simp [go_sem, hc], PI.Post.pure RB.goes rfl (fun hl => T.inv hl)⟩
    · obtain rfl := Option.some.inj (show some _ = some o from ho)
      refine PI.shown_call rfl 34 fun a w3 L0 hr T => ?_
      have h1 : w3.ownsRow base 5 1 (a.eval (.tmp 14)) (((L ++ Mi.put x0) ++ Mi.put x1)).length ((((L ++ Mi.put x0) ++ Mi.put x1)).map B8) := T.at_ 8 14 (by kernel_rfl) (by kernel_rfl) (by kernel_rfl)
      have h16 : a.eval (.tmp 16) = .int .u64 (x2 : Int) := T.at_ 10 16 (by kernel_rfl) (by kernel_rfl) (by kernel_rfl)
      refine ⟨#[a.eval (.tmp 14), .int .u64 (x2 : Int)], by simp only [execOp, resolve, List.map_toArray, List.map_cons, List.map_nil, h16]; simp [go_sem, Act.eval], ?_⟩
      refine (rput_calls base _ _ x2 w3 h1 (Nat.le_trans hbase hr.1.size) (by (try simp only [List.length_append]); omega) (by omega)).mono fun e w4 hh => ?_
      obtain ⟨u4, rfl, ho4, hg4⟩ := hh
      have hX3 := hr.2.trans HX.out
      have hl8 : L0 8 = true := PI.ToldG.done_ T 8 (by kernel_rfl)
      have hl4 : L0 4 = true := T.shut_ 8 4 (by kernel_rfl) hl8
      refine ⟨_, rfl, ⟨hg4.below (Below.refl _ _) (Nat.le_trans hbase hr.1.size) (own_block_ge h1), hg4.grown.block k (in_heap hX3) (Ne.symm (own_not h1 hX3 (by decide)))⟩, ho4, fun _ _ h => h, fun j u hj hLj hnd hw h => ?_, fun hl => by exfalso; simp [PI.upd, hl4] at hl⟩
      by_cases hjr : j = 4 ∨ j = 8 ∨ j = 11 ∨ j = 14 ∨ j = 15
      · rcases hjr with rfl | rfl | rfl | rfl | rfl
        · simp [PI.needB, hl8] at hnd
        · simp [PI.needB] at hnd
        · exact absurd rfl hj
        · exact absurd (T.shut_ 14 11 (by kernel_rfl) hLj) (by rw [T.yetNot]; decide)
        · exact absurd (T.shut_ 14 11 (by kernel_rfl) (T.shut_ 15 14 (by kernel_rfl) hLj)) (by rw [T.yetNot]; decide)
      · exact DF1.other h hjr
    · obtain rfl := Option.some.inj (show some _ = some o from ho)
      refine PI.shown_val rfl fun a w3 L0 hr T => ?_
      have h3 : a.eval (.tmp 3) = .pointer (some ⟨k, 0, none⟩) := T.was 3 (by kernel_rfl)
      exact ⟨.pointer (some ⟨k, 3, none⟩), w3, by simp only [execOp, h3]; simp [go_sem], PI.Post.pure RB.goes rfl (fun hl => T.inv hl)⟩
    · obtain rfl := Option.some.inj (show some _ = some o from ho)
      refine PI.shown_val rfl fun a w3 L0 hr T => ?_
      have h18 : a.eval (.tmp 18) = .pointer (some ⟨k, 3, none⟩) := T.at_ 12 18 (by kernel_rfl) (by kernel_rfl) (by kernel_rfl)
      have hc : w3.cell? ⟨k, 3, none⟩ = some (.int .u64 (x3 : Int)) := cell_of_row _ _ 3 _ _ (0, 0) (hr.2.trans HX.out)
      exact ⟨.int .u64 (x3 : Int), w3, by simp only [execOp, h18]; simp [go_sem, hc], PI.Post.pure RB.goes rfl (fun hl => T.inv hl)⟩
    · obtain rfl := Option.some.inj (show some _ = some o from ho)
      refine PI.shown_call rfl 34 fun a w3 L0 hr T => ?_
      have h1 : w3.ownsRow base 5 1 (a.eval (.tmp 17)) ((((L ++ Mi.put x0) ++ Mi.put x1) ++ Mi.put x2)).length (((((L ++ Mi.put x0) ++ Mi.put x1) ++ Mi.put x2)).map B8) := T.at_ 11 17 (by kernel_rfl) (by kernel_rfl) (by kernel_rfl)
      have h19 : a.eval (.tmp 19) = .int .u64 (x3 : Int) := T.at_ 13 19 (by kernel_rfl) (by kernel_rfl) (by kernel_rfl)
      refine ⟨#[a.eval (.tmp 17), .int .u64 (x3 : Int)], by simp only [execOp, resolve, List.map_toArray, List.map_cons, List.map_nil, h19]; simp [go_sem, Act.eval], ?_⟩
      refine (rput_calls base _ _ x3 w3 h1 (Nat.le_trans hbase hr.1.size) (by (try simp only [List.length_append]); omega) (by omega)).mono fun e w4 hh => ?_
      obtain ⟨u4, rfl, ho4, hg4⟩ := hh
      have hX3 := hr.2.trans HX.out
      have hl11 : L0 11 = true := PI.ToldG.done_ T 11 (by kernel_rfl)
      have hl8 : L0 8 = true := T.shut_ 11 8 (by kernel_rfl) hl11
      have hl4 : L0 4 = true := T.shut_ 8 4 (by kernel_rfl) hl8
      refine ⟨_, rfl, ⟨hg4.below (Below.refl _ _) (Nat.le_trans hbase hr.1.size) (own_block_ge h1), hg4.grown.block k (in_heap hX3) (Ne.symm (own_not h1 hX3 (by decide)))⟩, ho4, fun _ _ h => h, fun j u hj hLj hnd hw h => ?_, fun hl => by exfalso; simp [PI.upd, hl4] at hl⟩
      by_cases hjr : j = 4 ∨ j = 8 ∨ j = 11 ∨ j = 14 ∨ j = 15
      · rcases hjr with rfl | rfl | rfl | rfl | rfl
        · simp [PI.needB, hl8] at hnd
        · simp [PI.needB, hl11] at hnd
        · simp [PI.needB] at hnd
        · exact absurd rfl hj
        · exact absurd (T.shut_ 15 14 (by kernel_rfl) hLj) (by rw [T.yetNot]; decide)
      · exact DF1.other h hjr
    · obtain rfl := Option.some.inj (show some _ = some o from ho)
      refine PI.shown_val rfl fun a w3 L0 hr T => ?_
      have h1 : w3.ownsRow base 5 1 (a.eval (.tmp 20)) (((((L ++ Mi.put x0) ++ Mi.put x1) ++ Mi.put x2) ++ Mi.put x3)).length ((((((L ++ Mi.put x0) ++ Mi.put x1) ++ Mi.put x2) ++ Mi.put x3)).map B8) := T.at_ 14 20 (by kernel_rfl) (by kernel_rfl) (by kernel_rfl)
      exact ⟨a.eval (.tmp 20), w3, by simp only [execOp]; simp [go_sem], PI.Post.pure RB.goes h1 (fun hl => T.inv hl)⟩
    · cases ho
  · intro x w5 hr hf he _
    have h1 := hf 15 _ 0 rfl rfl (by decide)
    change w5.ownsRow base 5 1 (x 15) (((((L ++ Mi.put x0) ++ Mi.put x1) ++ Mi.put x2) ++ Mi.put x3)).length ((((((L ++ Mi.put x0) ++ Mi.put x1) ++ Mi.put x2) ++ Mi.put x3)).map B8) at h1
    have HX := Lib.hid (hr.2.trans HX.out)
    have HBN := Lib.hid (HBW.out.trans hr.1)
    have HBW := Lib.hid (below_drew HBN.out)
    have hlen : (((((L ++ Mi.put x0) ++ Mi.put x1) ++ Mi.put x2) ++ Mi.put x3)).length ≤ L.length + 40 := by simp only [List.length_append]; omega
    obtain ⟨v, hv⟩ : ∃ v', v' = x 15 := ⟨_, rfl⟩
    obtain ⟨L, hL⟩ : ∃ L', L' = ((((L ++ Mi.put x0) ++ Mi.put x1) ++ Mi.put x2) ++ Mi.put x3) := ⟨_, rfl⟩
    rw [← hL] at h1 hlen
    rw [← hv] at h1
    have HO := Lib.hid h1
    have HLL := Lib.hid (And.intro hL HLL.out)
    have hl : L.length ≤ 1000000000 + 50 := by omega
    simp only [PI.putAll, Act.put, List.setIfInBounds_toArray, List.set_cons_zero, List.set_cons_succ]
    rw [← hv]
    clear hf he h1 hlen hL hv
    have hbase : base ≤ w5.drew.heap.size := Nat.le_trans hbase hr.1.size
    have HS := Lib.hid (And.intro q0 (And.intro q1 (And.intro q2 (And.intro q3 (And.intro q4 (And.intro q5 (And.intro q6 (And.intro q7 (And.intro q8 (And.intro l0 (And.intro l1 (And.intro l2 (And.intro l3 (And.intro l4 (And.intro l5 (And.intro l6 (And.intro l7 (And.intro qb (And.intro lb (And.intro l9 hl))))))))))))))))))))
    clear q0 q1 q2 q3 q4 q5 q6 q7 q8 l0 l1 l2 l3 l4 l5 l6 l7 qb lb l9 hl hr
    obtain ⟨vA, vc, hv, _, _⟩ := own_rd HO.out
    subst hv
    go_wp2_with fail
    try rw [← hk]
    generalize hv : Value.slice vA L.length vc = v at *
    clear hv
    obtain ⟨q0, q1, q2, q3, q4, q5, q6, q7, q8, l0, l1, l2, l3, l4, l5, l6, l7, qb, lb, l9, hl⟩ := HS.out
    refine PI.wp_region_persG (R := RB base k) (G := fun _ _ => True) (I := fun L0 _ w => L0 3 = false → w.ownsRow base 5 1 v L.length (L.map B8)) [(2, 1), (3, 0), (3, 2), (5, 4), (6, 3), (6, 5), (7, 6)] [7] (by kernel_rfl) (PI.formed_of (by kernel_rfl)) RB.goes (fun _ => trivial) (DF2 x0 x1 x2 x3 x4 x5 x6 x7 x8 n xc bt xA k base v L) (fun _ => HO.out) ?_ ?_
    · intro i o ho
      rcases i with _ | _ | _ | _ | _ | _ | _ | _ | i
      · obtain rfl := Option.some.inj (show some _ = some o from ho)
        refine PI.shown_val rfl fun a w3 L0 hr T => ?_
        have h0 : a.eval (.tmp 0) = v := T.was 0 (by kernel_rfl)
        exact ⟨v, w3, by simp only [execOp, h0]; simp [go_sem], PI.Post.pure RB.goes rfl (fun hl => T.inv hl)⟩
      · obtain rfl := Option.some.inj (show some _ = some o from ho)
        refine PI.shown_val rfl fun a w3 L0 hr T => ?_
        have h3 : a.eval (.tmp 3) = .pointer (some ⟨k, 0, none⟩) := T.was 3 (by kernel_rfl)
        exact ⟨.pointer (some ⟨k, 4, none⟩), w3, by simp only [execOp, h3]; simp [go_sem], PI.Post.pure RB.goes rfl (fun hl => T.inv hl)⟩
      · obtain rfl := Option.some.inj (show some _ = some o from ho)
        refine PI.shown_val rfl fun a w3 L0 hr T => ?_
        have h22 : a.eval (.tmp 22) = .pointer (some ⟨k, 4, none⟩) := T.at_ 1 22 (by kernel_rfl) (by kernel_rfl) (by kernel_rfl)
        have hc : w3.cell? ⟨k, 4, none⟩ = some (.string x4) := cell_of_row _ _ 4 _ _ (0, 0) (hr.2.trans HX.out)
        exact ⟨.string x4, w3, by simp only [execOp, h22]; simp [go_sem, hc], PI.Post.pure RB.goes rfl (fun hl => T.inv hl)⟩
      · obtain rfl := Option.some.inj (show some _ = some o from ho)
        refine PI.shown_call rfl 114 fun a w3 L0 hr T => ?_
        have h21 : a.eval (.tmp 21) = v := T.at_ 0 21 (by kernel_rfl) (by kernel_rfl) (by kernel_rfl)
        have h1 : w3.ownsRow base 5 1 (a.eval (.tmp 21)) (L).length ((L).map B8) := by rw [h21]; exact T.inv T.yetNot
        have h23 : a.eval (.tmp 23) = .string x4 := T.at_ 2 23 (by kernel_rfl) (by kernel_rfl) (by kernel_rfl)
        refine ⟨#[a.eval (.tmp 21), .string x4], by simp only [execOp, resolve, List.map_toArray, List.map_cons, List.map_nil, h23]; simp [go_sem, Act.eval], ?_⟩
        refine (rtext_calls base _ _ x4 w3 h1 (Nat.le_trans hbase hr.1.size) (by (try simp only [List.length_append]); omega) (by omega)).mono fun e w4 hh => ?_
        obtain ⟨u4, rfl, ho4, hg4⟩ := hh
        have hX3 := hr.2.trans HX.out
        refine ⟨_, rfl, ⟨hg4.below (Below.refl _ _) (Nat.le_trans hbase hr.1.size) (own_block_ge h1), hg4.grown.block k (in_heap hX3) (Ne.symm (own_not h1 hX3 (by decide)))⟩, ho4, fun _ _ h => h, fun j u hj hLj hnd hw h => ?_, fun hl => by exfalso; simp [PI.upd] at hl⟩
        by_cases hjr : j = 3 ∨ j = 6 ∨ j = 7
        · rcases hjr with rfl | rfl | rfl
          · exact absurd rfl hj
          · exact absurd (T.shut_ 6 3 (by kernel_rfl) hLj) (by rw [T.yetNot]; decide)
          · exact absurd (T.shut_ 6 3 (by kernel_rfl) (T.shut_ 7 6 (by kernel_rfl) hLj)) (by rw [T.yetNot]; decide)
        · exact DF2.other h hjr
      · obtain rfl := Option.some.inj (show some _ = some o from ho)
        refine PI.shown_val rfl fun a w3 L0 hr T => ?_
        have h3 : a.eval (.tmp 3) = .pointer (some ⟨k, 0, none⟩) := T.was 3 (by kernel_rfl)
        exact ⟨.pointer (some ⟨k, 5, none⟩), w3, by simp only [execOp, h3]; simp [go_sem], PI.Post.pure RB.goes rfl (fun hl => T.inv hl)⟩
      · obtain rfl := Option.some.inj (show some _ = some o from ho)
        refine PI.shown_val rfl fun a w3 L0 hr T => ?_
        have h25 : a.eval (.tmp 25) = .pointer (some ⟨k, 5, none⟩) := T.at_ 4 25 (by kernel_rfl) (by kernel_rfl) (by kernel_rfl)
        have hc : w3.cell? ⟨k, 5, none⟩ = some (.string x5) := cell_of_row _ _ 5 _ _ (0, 0) (hr.2.trans HX.out)
        exact ⟨.string x5, w3, by simp only [execOp, h25]; simp [go_sem, hc], PI.Post.pure RB.goes rfl (fun hl => T.inv hl)⟩
      · obtain rfl := Option.some.inj (show some _ = some o from ho)
        refine PI.shown_call rfl 114 fun a w3 L0 hr T => ?_
        have h1 : w3.ownsRow base 5 1 (a.eval (.tmp 24)) ((L ++ Mi.text x4.data.toList)).length (((L ++ Mi.text x4.data.toList)).map B8) := T.at_ 3 24 (by kernel_rfl) (by kernel_rfl) (by kernel_rfl)
        have h26 : a.eval (.tmp 26) = .string x5 := T.at_ 5 26 (by kernel_rfl) (by kernel_rfl) (by kernel_rfl)
        refine ⟨#[a.eval (.tmp 24), .string x5], by simp only [execOp, resolve, List.map_toArray, List.map_cons, List.map_nil, h26]; simp [go_sem, Act.eval], ?_⟩
        refine (rtext_calls base _ _ x5 w3 h1 (Nat.le_trans hbase hr.1.size) (by (try simp only [List.length_append]); omega) (by omega)).mono fun e w4 hh => ?_
        obtain ⟨u4, rfl, ho4, hg4⟩ := hh
        have hX3 := hr.2.trans HX.out
        have hl3 : L0 3 = true := PI.ToldG.done_ T 3 (by kernel_rfl)
        refine ⟨_, rfl, ⟨hg4.below (Below.refl _ _) (Nat.le_trans hbase hr.1.size) (own_block_ge h1), hg4.grown.block k (in_heap hX3) (Ne.symm (own_not h1 hX3 (by decide)))⟩, ho4, fun _ _ h => h, fun j u hj hLj hnd hw h => ?_, fun hl => by exfalso; simp [PI.upd, hl3] at hl⟩
        by_cases hjr : j = 3 ∨ j = 6 ∨ j = 7
        · rcases hjr with rfl | rfl | rfl
          · simp [PI.needB] at hnd
          · exact absurd rfl hj
          · exact absurd (T.shut_ 7 6 (by kernel_rfl) hLj) (by rw [T.yetNot]; decide)
        · exact DF2.other h hjr
      · obtain rfl := Option.some.inj (show some _ = some o from ho)
        refine PI.shown_val rfl fun a w3 L0 hr T => ?_
        have h1 : w3.ownsRow base 5 1 (a.eval (.tmp 27)) (((L ++ Mi.text x4.data.toList) ++ Mi.text x5.data.toList)).length ((((L ++ Mi.text x4.data.toList) ++ Mi.text x5.data.toList)).map B8) := T.at_ 6 27 (by kernel_rfl) (by kernel_rfl) (by kernel_rfl)
        exact ⟨a.eval (.tmp 27), w3, by simp only [execOp]; simp [go_sem], PI.Post.pure RB.goes h1 (fun hl => T.inv hl)⟩
      · cases ho
    · intro x w5 hr hf he _
      have h1 := hf 7 _ 0 rfl rfl (by decide)
      change w5.ownsRow base 5 1 (x 7) (((L ++ Mi.text x4.data.toList) ++ Mi.text x5.data.toList)).length ((((L ++ Mi.text x4.data.toList) ++ Mi.text x5.data.toList)).map B8) at h1
      have HX := Lib.hid (hr.2.trans HX.out)
      have HBN := Lib.hid (HBW.out.trans hr.1)
      have HBW := Lib.hid (below_drew HBN.out)
      have hlen : (((L ++ Mi.text x4.data.toList) ++ Mi.text x5.data.toList)).length ≤ L.length + 60 := by simp only [List.length_append]; omega
      obtain ⟨v, hv⟩ : ∃ v', v' = x 7 := ⟨_, rfl⟩
      obtain ⟨L, hL⟩ : ∃ L', L' = ((L ++ Mi.text x4.data.toList) ++ Mi.text x5.data.toList) := ⟨_, rfl⟩
      rw [← hL] at h1 hlen
      rw [← hv] at h1
      have HO := Lib.hid h1
      have HLL := Lib.hid (And.intro hL HLL.out)
      have hl : L.length ≤ 1000000000 + 120 := by omega
      simp only [PI.putAll, Act.put, List.setIfInBounds_toArray, List.set_cons_zero, List.set_cons_succ]
      rw [← hv]
      clear hf he h1 hlen hL hv
      have hbase : base ≤ w5.drew.heap.size := Nat.le_trans hbase hr.1.size
      have HS := Lib.hid (And.intro q0 (And.intro q1 (And.intro q2 (And.intro q3 (And.intro q4 (And.intro q5 (And.intro q6 (And.intro q7 (And.intro q8 (And.intro l0 (And.intro l1 (And.intro l2 (And.intro l3 (And.intro l4 (And.intro l5 (And.intro l6 (And.intro l7 (And.intro qb (And.intro lb (And.intro l9 hl))))))))))))))))))))
      clear q0 q1 q2 q3 q4 q5 q6 q7 q8 l0 l1 l2 l3 l4 l5 l6 l7 qb lb l9 hl hr
      obtain ⟨vA, vc, hv, _, _⟩ := own_rd HO.out
      subst hv
      go_wp2_with fail
      try rw [← hk]
      generalize hv : Value.slice vA L.length vc = v at *
      clear hv
      obtain ⟨q0, q1, q2, q3, q4, q5, q6, q7, q8, l0, l1, l2, l3, l4, l5, l6, l7, qb, lb, l9, hl⟩ := HS.out
      refine PI.wp_region_persG (R := RB base k) (G := fun _ _ => True) (I := fun L0 _ w => L0 4 = false → w.ownsRow base 5 1 v L.length (L.map B8)) [(2, 1), (3, 2), (4, 0), (4, 3), (6, 5), (7, 6), (8, 4), (8, 7), (10, 9), (11, 10), (12, 8), (12, 11), (13, 12)] [13] (by kernel_rfl) (PI.formed_of (by kernel_rfl)) RB.goes (fun _ => trivial) (DF3 x0 x1 x2 x3 x4 x5 x6 x7 x8 n xc bt xA k base v L) (fun _ => HO.out) ?_ ?_
      · intro i o ho
        rcases i with _ | _ | _ | _ | _ | _ | _ | _ | _ | _ | _ | _ | _ | _ | i
        · obtain rfl := Option.some.inj (show some _ = some o from ho)
          refine PI.shown_val rfl fun a w3 L0 hr T => ?_
          have h0 : a.eval (.tmp 0) = v := T.was 0 (by kernel_rfl)
          exact ⟨v, w3, by simp only [execOp, h0]; simp [go_sem], PI.Post.pure RB.goes rfl (fun hl => T.inv hl)⟩
        · obtain rfl := Option.some.inj (show some _ = some o from ho)
          refine PI.shown_val rfl fun a w3 L0 hr T => ?_
          have h3 : a.eval (.tmp 3) = .pointer (some ⟨k, 0, none⟩) := T.was 3 (by kernel_rfl)
          exact ⟨.pointer (some ⟨k, 6, none⟩), w3, by simp only [execOp, h3]; simp [go_sem], PI.Post.pure RB.goes rfl (fun hl => T.inv hl)⟩
        · obtain rfl := Option.some.inj (show some _ = some o from ho)
          refine PI.shown_val rfl fun a w3 L0 hr T => ?_
          have h29 : a.eval (.tmp 29) = .pointer (some ⟨k, 6, none⟩) := T.at_ 1 29 (by kernel_rfl) (by kernel_rfl) (by kernel_rfl)
          have hc : w3.cell? ⟨k, 6, none⟩ = some (.int .i64 (x6 : Int)) := cell_of_row _ _ 6 _ _ (0, 0) (hr.2.trans HX.out)
          exact ⟨.int .i64 (x6 : Int), w3, by simp only [execOp, h29]; simp [go_sem, hc], PI.Post.pure RB.goes rfl (fun hl => T.inv hl)⟩
        · obtain rfl := Option.some.inj (show some _ = some o from ho)
          refine PI.shown_val rfl fun a w3 L0 hr T => ?_
          have h30 : a.eval (.tmp 30) = .int .i64 (x6 : Int) := T.at_ 2 30 (by kernel_rfl) (by kernel_rfl) (by kernel_rfl)
          exact ⟨.int .u64 (x6 : Int), w3, by simp only [execOp, h30]; (simp [go_sem]; try (rw [IntKind.wrap_u64]; omega)), PI.Post.pure RB.goes rfl (fun hl => T.inv hl)⟩
        · obtain rfl := Option.some.inj (show some _ = some o from ho)
          refine PI.shown_call rfl 34 fun a w3 L0 hr T => ?_
          have h28 : a.eval (.tmp 28) = v := T.at_ 0 28 (by kernel_rfl) (by kernel_rfl) (by kernel_rfl)
          have h1 : w3.ownsRow base 5 1 (a.eval (.tmp 28)) (L).length ((L).map B8) := by rw [h28]; exact T.inv T.yetNot
          have h31 : a.eval (.tmp 31) = .int .u64 (x6 : Int) := T.at_ 3 31 (by kernel_rfl) (by kernel_rfl) (by kernel_rfl)
          refine ⟨#[a.eval (.tmp 28), .int .u64 (x6 : Int)], by simp only [execOp, resolve, List.map_toArray, List.map_cons, List.map_nil, h31]; simp [go_sem, Act.eval], ?_⟩
          refine (rput_calls base _ _ x6 w3 h1 (Nat.le_trans hbase hr.1.size) (by (try simp only [List.length_append]); omega) (by omega)).mono fun e w4 hh => ?_
          obtain ⟨u4, rfl, ho4, hg4⟩ := hh
          have hX3 := hr.2.trans HX.out
          refine ⟨_, rfl, ⟨hg4.below (Below.refl _ _) (Nat.le_trans hbase hr.1.size) (own_block_ge h1), hg4.grown.block k (in_heap hX3) (Ne.symm (own_not h1 hX3 (by decide)))⟩, ho4, fun _ _ h => h, fun j u hj hLj hnd hw h => ?_, fun hl => by exfalso; simp [PI.upd] at hl⟩
          by_cases hjr : j = 4 ∨ j = 8 ∨ j = 12 ∨ j = 13
          · rcases hjr with rfl | rfl | rfl | rfl
            · exact absurd rfl hj
            · exact absurd (T.shut_ 8 4 (by kernel_rfl) hLj) (by rw [T.yetNot]; decide)
            · exact absurd (T.shut_ 8 4 (by kernel_rfl) (T.shut_ 12 8 (by kernel_rfl) hLj)) (by rw [T.yetNot]; decide)
            · exact absurd (T.shut_ 8 4 (by kernel_rfl) (T.shut_ 12 8 (by kernel_rfl) (T.shut_ 13 12 (by kernel_rfl) hLj))) (by rw [T.yetNot]; decide)
          · exact DF3.other h hjr
        · obtain rfl := Option.some.inj (show some _ = some o from ho)
          refine PI.shown_val rfl fun a w3 L0 hr T => ?_
          have h3 : a.eval (.tmp 3) = .pointer (some ⟨k, 0, none⟩) := T.was 3 (by kernel_rfl)
          exact ⟨.pointer (some ⟨k, 7, none⟩), w3, by simp only [execOp, h3]; simp [go_sem], PI.Post.pure RB.goes rfl (fun hl => T.inv hl)⟩
        · obtain rfl := Option.some.inj (show some _ = some o from ho)
          refine PI.shown_val rfl fun a w3 L0 hr T => ?_
          have h33 : a.eval (.tmp 33) = .pointer (some ⟨k, 7, none⟩) := T.at_ 5 33 (by kernel_rfl) (by kernel_rfl) (by kernel_rfl)
          have hc : w3.cell? ⟨k, 7, none⟩ = some (.int .i64 (x7 : Int)) := cell_of_row _ _ 7 _ _ (0, 0) (hr.2.trans HX.out)
          exact ⟨.int .i64 (x7 : Int), w3, by simp only [execOp, h33]; simp [go_sem, hc], PI.Post.pure RB.goes rfl (fun hl => T.inv hl)⟩
        · obtain rfl := Option.some.inj (show some _ = some o from ho)
          refine PI.shown_val rfl fun a w3 L0 hr T => ?_
          have h34 : a.eval (.tmp 34) = .int .i64 (x7 : Int) := T.at_ 6 34 (by kernel_rfl) (by kernel_rfl) (by kernel_rfl)
          exact ⟨.int .u64 (x7 : Int), w3, by simp only [execOp, h34]; (simp [go_sem]; try (rw [IntKind.wrap_u64]; omega)), PI.Post.pure RB.goes rfl (fun hl => T.inv hl)⟩
        · obtain rfl := Option.some.inj (show some _ = some o from ho)
          refine PI.shown_call rfl 34 fun a w3 L0 hr T => ?_
          have h1 : w3.ownsRow base 5 1 (a.eval (.tmp 32)) ((L ++ Mi.put x6)).length (((L ++ Mi.put x6)).map B8) := T.at_ 4 32 (by kernel_rfl) (by kernel_rfl) (by kernel_rfl)
          have h35 : a.eval (.tmp 35) = .int .u64 (x7 : Int) := T.at_ 7 35 (by kernel_rfl) (by kernel_rfl) (by kernel_rfl)
          refine ⟨#[a.eval (.tmp 32), .int .u64 (x7 : Int)], by simp only [execOp, resolve, List.map_toArray, List.map_cons, List.map_nil, h35]; simp [go_sem, Act.eval], ?_⟩
          refine (rput_calls base _ _ x7 w3 h1 (Nat.le_trans hbase hr.1.size) (by (try simp only [List.length_append]); omega) (by omega)).mono fun e w4 hh => ?_
          obtain ⟨u4, rfl, ho4, hg4⟩ := hh
          have hX3 := hr.2.trans HX.out
          have hl4 : L0 4 = true := PI.ToldG.done_ T 4 (by kernel_rfl)
          refine ⟨_, rfl, ⟨hg4.below (Below.refl _ _) (Nat.le_trans hbase hr.1.size) (own_block_ge h1), hg4.grown.block k (in_heap hX3) (Ne.symm (own_not h1 hX3 (by decide)))⟩, ho4, fun _ _ h => h, fun j u hj hLj hnd hw h => ?_, fun hl => by exfalso; simp [PI.upd, hl4] at hl⟩
          by_cases hjr : j = 4 ∨ j = 8 ∨ j = 12 ∨ j = 13
          · rcases hjr with rfl | rfl | rfl | rfl
            · simp [PI.needB] at hnd
            · exact absurd rfl hj
            · exact absurd (T.shut_ 12 8 (by kernel_rfl) hLj) (by rw [T.yetNot]; decide)
            · exact absurd (T.shut_ 12 8 (by kernel_rfl) (T.shut_ 13 12 (by kernel_rfl) hLj)) (by rw [T.yetNot]; decide)
          · exact DF3.other h hjr
        · obtain rfl := Option.some.inj (show some _ = some o from ho)
          refine PI.shown_val rfl fun a w3 L0 hr T => ?_
          have h3 : a.eval (.tmp 3) = .pointer (some ⟨k, 0, none⟩) := T.was 3 (by kernel_rfl)
          exact ⟨.pointer (some ⟨k, 8, none⟩), w3, by simp only [execOp, h3]; simp [go_sem], PI.Post.pure RB.goes rfl (fun hl => T.inv hl)⟩
        · obtain rfl := Option.some.inj (show some _ = some o from ho)
          refine PI.shown_val rfl fun a w3 L0 hr T => ?_
          have h37 : a.eval (.tmp 37) = .pointer (some ⟨k, 8, none⟩) := T.at_ 9 37 (by kernel_rfl) (by kernel_rfl) (by kernel_rfl)
          have hc : w3.cell? ⟨k, 8, none⟩ = some (.bool x8) := cell_of_row _ _ 8 _ _ (0, 0) (hr.2.trans HX.out)
          exact ⟨.bool x8, w3, by simp only [execOp, h37]; simp [go_sem, hc], PI.Post.pure RB.goes rfl (fun hl => T.inv hl)⟩
        · obtain rfl := Option.some.inj (show some _ = some o from ho)
          refine PI.shown_call rfl 97 fun a w3 L0 hr T => ?_
          have h38 : a.eval (.tmp 38) = .bool x8 := T.at_ 10 38 (by kernel_rfl) (by kernel_rfl) (by kernel_rfl)
          refine ⟨#[.bool x8], by simp only [execOp, resolve, List.map_toArray, List.map_cons, List.map_nil, h38]; simp [go_sem, Act.eval], ?_⟩
          refine (HBIT.out w3).mono fun e w4 hh => ?_
          obtain ⟨rfl, rfl⟩ := hh
          exact ⟨_, rfl, PI.Post.pure RB.goes rfl (fun hl => T.inv hl)⟩
        · obtain rfl := Option.some.inj (show some _ = some o from ho)
          refine PI.shown_call rfl 34 fun a w3 L0 hr T => ?_
          have h1 : w3.ownsRow base 5 1 (a.eval (.tmp 36)) (((L ++ Mi.put x6) ++ Mi.put x7)).length ((((L ++ Mi.put x6) ++ Mi.put x7)).map B8) := T.at_ 8 36 (by kernel_rfl) (by kernel_rfl) (by kernel_rfl)
          have h39 : a.eval (.tmp 39) = .int .u64 (bt : Int) := T.at_ 11 39 (by kernel_rfl) (by kernel_rfl) (by kernel_rfl)
          refine ⟨#[a.eval (.tmp 36), .int .u64 (bt : Int)], by simp only [execOp, resolve, List.map_toArray, List.map_cons, List.map_nil, h39]; simp [go_sem, Act.eval], ?_⟩
          refine (rput_calls base _ _ bt w3 h1 (Nat.le_trans hbase hr.1.size) (by (try simp only [List.length_append]); omega) (by omega)).mono fun e w4 hh => ?_
          obtain ⟨u4, rfl, ho4, hg4⟩ := hh
          have hX3 := hr.2.trans HX.out
          have hl8 : L0 8 = true := PI.ToldG.done_ T 8 (by kernel_rfl)
          have hl4 : L0 4 = true := T.shut_ 8 4 (by kernel_rfl) hl8
          refine ⟨_, rfl, ⟨hg4.below (Below.refl _ _) (Nat.le_trans hbase hr.1.size) (own_block_ge h1), hg4.grown.block k (in_heap hX3) (Ne.symm (own_not h1 hX3 (by decide)))⟩, ho4, fun _ _ h => h, fun j u hj hLj hnd hw h => ?_, fun hl => by exfalso; simp [PI.upd, hl4] at hl⟩
          by_cases hjr : j = 4 ∨ j = 8 ∨ j = 12 ∨ j = 13
          · rcases hjr with rfl | rfl | rfl | rfl
            · simp [PI.needB, hl8] at hnd
            · simp [PI.needB] at hnd
            · exact absurd rfl hj
            · exact absurd (T.shut_ 13 12 (by kernel_rfl) hLj) (by rw [T.yetNot]; decide)
          · exact DF3.other h hjr
        · obtain rfl := Option.some.inj (show some _ = some o from ho)
          refine PI.shown_val rfl fun a w3 L0 hr T => ?_
          have h1 : w3.ownsRow base 5 1 (a.eval (.tmp 40)) ((((L ++ Mi.put x6) ++ Mi.put x7) ++ Mi.put bt)).length (((((L ++ Mi.put x6) ++ Mi.put x7) ++ Mi.put bt)).map B8) := T.at_ 12 40 (by kernel_rfl) (by kernel_rfl) (by kernel_rfl)
          exact ⟨a.eval (.tmp 40), w3, by simp only [execOp]; simp [go_sem], PI.Post.pure RB.goes h1 (fun hl => T.inv hl)⟩
        · cases ho
      · intro x w5 hr hf he _
        have h1 := hf 13 _ 0 rfl rfl (by decide)
        change w5.ownsRow base 5 1 (x 13) ((((L ++ Mi.put x6) ++ Mi.put x7) ++ Mi.put bt)).length (((((L ++ Mi.put x6) ++ Mi.put x7) ++ Mi.put bt)).map B8) at h1
        have HX := Lib.hid (hr.2.trans HX.out)
        have HBN := Lib.hid (HBW.out.trans hr.1)
        have HBW := Lib.hid (below_drew HBN.out)
        have hlen : ((((L ++ Mi.put x6) ++ Mi.put x7) ++ Mi.put bt)).length ≤ L.length + 40 := by simp only [List.length_append]; omega
        obtain ⟨v, hv⟩ : ∃ v', v' = x 13 := ⟨_, rfl⟩
        obtain ⟨L, hL⟩ : ∃ L', L' = (((L ++ Mi.put x6) ++ Mi.put x7) ++ Mi.put bt) := ⟨_, rfl⟩
        rw [← hL] at h1 hlen
        rw [← hv] at h1
        have HO := Lib.hid h1
        have HLL := Lib.hid (And.intro hL HLL.out)
        have hl : L.length ≤ 1000000000 + 200 := by omega
        simp only [PI.putAll, Act.put, List.setIfInBounds_toArray, List.set_cons_zero, List.set_cons_succ]
        rw [← hv]
        clear hf he h1 hlen hL hv
        have hbase : base ≤ w5.heap.size := Nat.le_trans hbase hr.1.size
        have HS := Lib.hid (And.intro q0 (And.intro q1 (And.intro q2 (And.intro q3 (And.intro q4 (And.intro q5 (And.intro q6 (And.intro q7 (And.intro q8 (And.intro l0 (And.intro l1 (And.intro l2 (And.intro l3 (And.intro l4 (And.intro l5 (And.intro l6 (And.intro l7 (And.intro qb (And.intro lb (And.intro l9 hl))))))))))))))))))))
        clear q0 q1 q2 q3 q4 q5 q6 q7 q8 l0 l1 l2 l3 l4 l5 l6 l7 qb lb l9 hl hr
        obtain ⟨vA, vc, hv, _, _⟩ := own_rd HO.out
        subst hv
        obtain ⟨q0, q1, q2, q3, q4, q5, q6, q7, q8, l0, l1, l2, l3, l4, l5, l6, l7, qb, lb, l9, hl⟩ := HS.out
        have c9 : w5.cell? ⟨w.heap.size, 9, none⟩ = some (.slice xA n xc) := by rw [← hk]; exact cell_of_row _ _ 9 _ _ (0, 0) HX.out
        have C := Lib.hid (rput_calls base (.slice vA L.length vc) L n w5 HO.out hbase (by omega) (by omega))
        have HQ8 := Lib.hid q8
        clear q0 q1 q2 q3 q4 q5 q6 q7 l0 l1 l2 l3 l4 l5 l6 l7 qb lb l9 hl
        go_wp2_with fail
        with_reducible refine C.out.mono ?_
        rintro e w6 ⟨v6, rfl, ho6, hg6⟩
        have HX6 := Lib.hid ((hg6.grown.block k (in_heap HX.out) (Ne.symm (own_not HO.out HX.out (by decide)))).trans HX.out)
        have HB6 : Hid (Below base w w6) := Lib.hid (hg6.below HBN.out hbase (own_block_ge HO.out))
        have HO6 := Lib.hid ho6
        clear C c9 ho6 hg6 HX HBW HO hbase
        go_wp2_with fail
        go_loopw [5, 0] (fun i u wr => ∃ j : Nat, i = .int .i64 j ∧ j ≤ n ∧ Hid (((L ++ Mi.put n) ++ encA (ats.take j)).length ≤ 1000001000 + 52 * j) ∧ Hid (wr.ownsRow base 5 1 u ((L ++ Mi.put n) ++ encA (ats.take j)).length (((L ++ Mi.put n) ++ encA (ats.take j)).map B8)) ∧ Hid (wr.heap[k]? = some (.cells #[.int .u64 (x0 : Int), .int .u64 (x1 : Int), .int .u64 (x2 : Int), .int .u64 (x3 : Int), .string x4, .string x5, .int .i64 (x6 : Int), .int .i64 (x7 : Int), .bool x8, .slice xA n xc] 75)) ∧ Hid (Below base w wr)) (fun i _ _ => n - (intOf i).toNat)
        case atStart => exact ⟨0, rfl, Nat.zero_le _, Lib.hid (by obtain ⟨q0, q1, q2, q3, q4, q5, q6, q7, q8, l0, l1, l2, l3, l4, l5, l6, l7, qb, lb, l9, hl⟩ := HS.out; simp [encA]; omega), Lib.hid (by have := HO6.out; simpa [encA] using this), HX6, HB6⟩
        case round =>
          obtain ⟨j, rfl, hj, HLJ, HO, HX, HB⟩ := hrel
          clear HX6 HB6 HO6
          have c9 : wr.cell? ⟨w.heap.size, 9, none⟩ = some (.slice xA n xc) := by rw [← hk]; exact cell_of_row _ _ 9 _ _ (0, 0) HX.out
          by_cases hlt : j < n
          · obtain ⟨y, hx⟩ : ∃ y, ats[j]? = some y := ⟨_, List.getElem?_eq_getElem (by rw [← HN.out]; exact hlt)⟩
            obtain ⟨aa, ha, hab0, hc⟩ := (HYH.out.rd.below (HB.out.mono hBb)) (by rw [flatMap_len _ 2 atC_len, ← HN.out]; omega)
            subst ha
            have g0 := flatMap_at atC 2 atC_len ats j 0 (by omega)
            have g1 := flatMap_at atC 2 atC_len ats j 1 (by omega)
            rw [hx] at g0 g1
            obtain ⟨s1, s2⟩ := okAt_len r7 hx
            have hst := encA_step ats j y hx
            obtain ⟨y1, y2⟩ := y
            simp only at s1 s2 hst
            have HC0 : Hid (wr.drew.cell? (aa.add (j * 2)) = some (.string y1)) := Lib.hid (hc (j * 2) _ g0)
            have HC1 : Hid (wr.drew.cell? ⟨(aa.add (j * 2)).block, (aa.add (j * 2)).off + 1, none⟩ = some (.string y2)) := Lib.hid (cell_far (hc (j * 2 + 1) _ g1) (by omega))
            have hab : (aa.add (j * 2)).block < base := by rw [block_add]; omega
            have hab2 : (⟨(aa.add (j * 2)).block, (aa.add (j * 2)).off + 1, none⟩ : Addr).block < base := hab
            have t1 := text_len y1 s1
            have t2 := text_len y2 s2
            obtain ⟨vA, vc, hv, _, _⟩ := own_rd HO.out
            obtain ⟨L8, hL8⟩ : ∃ L', L' = (L ++ Mi.put n) ++ encA (ats.take j) := ⟨_, rfl⟩
            have hst8 : (L ++ Mi.put n) ++ encA (ats.take (j + 1)) = (L8 ++ Mi.text y1.data.toList) ++ Mi.text y2.data.toList := by rw [hst, hL8]; simp only [List.append_assoc]
            have HST := Lib.hid hst8
            rw [← hL8] at HO HLJ hv
            subst hv
            have hl := HLJ.out
            have hbase : base ≤ wr.drew.heap.size := Nat.le_trans hbase0 HB.out.size
            have i1 : (0 : Int) ≤ j := by omega
            have i2 : (j : Int) < n := by omega
            have q8 : n ≤ 4 := HQ8.out
            clear g0 g1 hc hx hst hst8 hL8
            go_wp2_with fail
            try rw [← hk]
            clear c9
            generalize hv : Value.slice vA L8.length vc = v at *
            clear hv
            refine PI.wp_region_persG (R := RB base k) (G := fun _ _ => True) (I := fun L0 _ w => L0 7 = false → w.ownsRow base 5 1 v L8.length (L8.map B8)) [(2, 1), (4, 2), (4, 3), (5, 4), (6, 5), (7, 0), (7, 6), (9, 8), (11, 9), (11, 10), (12, 11), (13, 12), (14, 7), (14, 13), (15, 14)] [15] (by kernel_rfl) (PI.formed_of (by kernel_rfl)) RB.goes (fun _ => trivial) (DF8 x0 x1 x2 x3 x4 x5 x6 x7 x8 n xc bt (some aa) k base v L8 aa j y1 y2) (fun _ => HO.out) ?_ ?_
            · intro i o ho
              rcases i with _ | _ | _ | _ | _ | _ | _ | _ | _ | _ | _ | _ | _ | _ | _ | _ | i
              · obtain rfl := Option.some.inj (show some _ = some o from ho)
                refine PI.shown_val rfl fun a w3 L0 hr T => ?_
                have h0 : a.eval (.tmp 0) = v := T.was 0 (by kernel_rfl)
                exact ⟨v, w3, by simp only [execOp, h0]; simp [go_sem], PI.Post.pure RB.goes rfl (fun hl => T.inv hl)⟩
              · obtain rfl := Option.some.inj (show some _ = some o from ho)
                refine PI.shown_val rfl fun a w3 L0 hr T => ?_
                have h3 : a.eval (.tmp 3) = .pointer (some ⟨k, 0, none⟩) := T.was 3 (by kernel_rfl)
                exact ⟨.pointer (some ⟨k, 9, none⟩), w3, by simp only [execOp, h3]; simp [go_sem], PI.Post.pure RB.goes rfl (fun hl => T.inv hl)⟩
              · obtain rfl := Option.some.inj (show some _ = some o from ho)
                refine PI.shown_val rfl fun a w3 L0 hr T => ?_
                have h55 : a.eval (.tmp 55) = .pointer (some ⟨k, 9, none⟩) := T.at_ 1 55 (by kernel_rfl) (by kernel_rfl) (by kernel_rfl)
                have hc : w3.cell? ⟨k, 9, none⟩ = some (.slice (some aa) n xc) := cell_of_row _ _ 9 _ _ (0, 0) (hr.2.trans HX.out)
                exact ⟨.slice (some aa) n xc, w3, by simp only [execOp, h55]; simp [go_sem, hc], PI.Post.pure RB.goes rfl (fun hl => T.inv hl)⟩
              · obtain rfl := Option.some.inj (show some _ = some o from ho)
                refine PI.shown_val rfl fun a w3 L0 hr T => ?_
                have h5 : a.eval (.tmp 5) = .int .i64 (j : Int) := T.was 5 (by kernel_rfl)
                exact ⟨.int .i64 (j : Int), w3, by simp only [execOp, h5]; simp [go_sem], PI.Post.pure RB.goes rfl (fun hl => T.inv hl)⟩
              · obtain rfl := Option.some.inj (show some _ = some o from ho)
                refine PI.shown_val rfl fun a w3 L0 hr T => ?_
                have h56 : a.eval (.tmp 56) = .slice (some aa) n xc := T.at_ 2 56 (by kernel_rfl) (by kernel_rfl) (by kernel_rfl)
                have h57 : a.eval (.tmp 57) = .int .i64 (j : Int) := T.at_ 3 57 (by kernel_rfl) (by kernel_rfl) (by kernel_rfl)
                exact ⟨.pointer (some (aa.add (j * 2))), w3, by simp only [execOp, h56, h57]; simp [go_sem, i1, i2], PI.Post.pure RB.goes rfl (fun hl => T.inv hl)⟩
              · obtain rfl := Option.some.inj (show some _ = some o from ho)
                refine PI.shown_val rfl fun a w3 L0 hr T => ?_
                have h58 : a.eval (.tmp 58) = .pointer (some (aa.add (j * 2))) := T.at_ 4 58 (by kernel_rfl) (by kernel_rfl) (by kernel_rfl)
                exact ⟨.pointer (some (aa.add (j * 2))), w3, by simp only [execOp, h58]; simp [go_sem], PI.Post.pure RB.goes rfl (fun hl => T.inv hl)⟩
              · obtain rfl := Option.some.inj (show some _ = some o from ho)
                refine PI.shown_val rfl fun a w3 L0 hr T => ?_
                have h59 : a.eval (.tmp 59) = .pointer (some (aa.add (j * 2))) := T.at_ 5 59 (by kernel_rfl) (by kernel_rfl) (by kernel_rfl)
                have hc : w3.cell? (aa.add (j * 2)) = some (.string y1) := (hr.1.cell hab).trans HC0.out
                exact ⟨.string y1, w3, by simp only [execOp, h59]; simp [go_sem, hc], PI.Post.pure RB.goes rfl (fun hl => T.inv hl)⟩
              · obtain rfl := Option.some.inj (show some _ = some o from ho)
                refine PI.shown_call rfl 114 fun a w3 L0 hr T => ?_
                have h54 : a.eval (.tmp 54) = v := T.at_ 0 54 (by kernel_rfl) (by kernel_rfl) (by kernel_rfl)
                have h1 : w3.ownsRow base 5 1 (a.eval (.tmp 54)) (L8).length ((L8).map B8) := by rw [h54]; exact T.inv T.yetNot
                have h60 : a.eval (.tmp 60) = .string y1 := T.at_ 6 60 (by kernel_rfl) (by kernel_rfl) (by kernel_rfl)
                refine ⟨#[a.eval (.tmp 54), .string y1], by simp only [execOp, resolve, List.map_toArray, List.map_cons, List.map_nil, h60]; simp [go_sem, Act.eval], ?_⟩
                refine (rtext_calls base _ _ y1 w3 h1 (Nat.le_trans hbase hr.1.size) (by (try simp only [List.length_append]); omega) (by omega)).mono fun e w4 hh => ?_
                obtain ⟨u4, rfl, ho4, hg4⟩ := hh
                have hX3 := hr.2.trans HX.out
                refine ⟨_, rfl, ⟨hg4.below (Below.refl _ _) (Nat.le_trans hbase hr.1.size) (own_block_ge h1), hg4.grown.block k (in_heap hX3) (Ne.symm (own_not h1 hX3 (by decide)))⟩, ho4, fun _ _ h => h, fun j u hj hLj hnd hw h => ?_, fun hl => by exfalso; simp [PI.upd] at hl⟩
                by_cases hjr : j = 7 ∨ j = 14 ∨ j = 15
                · rcases hjr with rfl | rfl | rfl
                  · exact absurd rfl hj
                  · exact absurd (T.shut_ 14 7 (by kernel_rfl) hLj) (by rw [T.yetNot]; decide)
                  · exact absurd (T.shut_ 14 7 (by kernel_rfl) (T.shut_ 15 14 (by kernel_rfl) hLj)) (by rw [T.yetNot]; decide)
                · exact DF8.other h hjr
              · obtain rfl := Option.some.inj (show some _ = some o from ho)
                refine PI.shown_val rfl fun a w3 L0 hr T => ?_
                have h3 : a.eval (.tmp 3) = .pointer (some ⟨k, 0, none⟩) := T.was 3 (by kernel_rfl)
                exact ⟨.pointer (some ⟨k, 9, none⟩), w3, by simp only [execOp, h3]; simp [go_sem], PI.Post.pure RB.goes rfl (fun hl => T.inv hl)⟩
              · obtain rfl := Option.some.inj (show some _ = some o from ho)
                refine PI.shown_val rfl fun a w3 L0 hr T => ?_
                have h62 : a.eval (.tmp 62) = .pointer (some ⟨k, 9, none⟩) := T.at_ 8 62 (by kernel_rfl) (by kernel_rfl) (by kernel_rfl)
                have hc : w3.cell? ⟨k, 9, none⟩ = some (.slice (some aa) n xc) := cell_of_row _ _ 9 _ _ (0, 0) (hr.2.trans HX.out)
                exact ⟨.slice (some aa) n xc, w3, by simp only [execOp, h62]; simp [go_sem, hc], PI.Post.pure RB.goes rfl (fun hl => T.inv hl)⟩
              · obtain rfl := Option.some.inj (show some _ = some o from ho)
                refine PI.shown_val rfl fun a w3 L0 hr T => ?_
                have h5 : a.eval (.tmp 5) = .int .i64 (j : Int) := T.was 5 (by kernel_rfl)
                exact ⟨.int .i64 (j : Int), w3, by simp only [execOp, h5]; simp [go_sem], PI.Post.pure RB.goes rfl (fun hl => T.inv hl)⟩
              · obtain rfl := Option.some.inj (show some _ = some o from ho)
                refine PI.shown_val rfl fun a w3 L0 hr T => ?_
                have h63 : a.eval (.tmp 63) = .slice (some aa) n xc := T.at_ 9 63 (by kernel_rfl) (by kernel_rfl) (by kernel_rfl)
                have h64 : a.eval (.tmp 64) = .int .i64 (j : Int) := T.at_ 10 64 (by kernel_rfl) (by kernel_rfl) (by kernel_rfl)
                exact ⟨.pointer (some (aa.add (j * 2))), w3, by simp only [execOp, h63, h64]; simp [go_sem, i1, i2], PI.Post.pure RB.goes rfl (fun hl => T.inv hl)⟩
              · obtain rfl := Option.some.inj (show some _ = some o from ho)
                refine PI.shown_val rfl fun a w3 L0 hr T => ?_
                have h65 : a.eval (.tmp 65) = .pointer (some (aa.add (j * 2))) := T.at_ 11 65 (by kernel_rfl) (by kernel_rfl) (by kernel_rfl)
                exact ⟨.pointer (some ⟨(aa.add (j * 2)).block, (aa.add (j * 2)).off + 1, none⟩), w3, by simp only [execOp, h65]; simp [go_sem], PI.Post.pure RB.goes rfl (fun hl => T.inv hl)⟩
              · obtain rfl := Option.some.inj (show some _ = some o from ho)
                refine PI.shown_val rfl fun a w3 L0 hr T => ?_
                have h66 : a.eval (.tmp 66) = .pointer (some ⟨(aa.add (j * 2)).block, (aa.add (j * 2)).off + 1, none⟩) := T.at_ 12 66 (by kernel_rfl) (by kernel_rfl) (by kernel_rfl)
                have hc : w3.cell? ⟨(aa.add (j * 2)).block, (aa.add (j * 2)).off + 1, none⟩ = some (.string y2) := (show w3.cell? ⟨(aa.add (j * 2)).block, (aa.add (j * 2)).off + 1, none⟩ = wr.drew.cell? ⟨(aa.add (j * 2)).block, (aa.add (j * 2)).off + 1, none⟩ from hr.1.cell hab2).trans HC1.out
                exact ⟨.string y2, w3, by simp only [execOp, h66]; simp [go_sem, hc], PI.Post.pure RB.goes rfl (fun hl => T.inv hl)⟩
              · obtain rfl := Option.some.inj (show some _ = some o from ho)
                refine PI.shown_call rfl 114 fun a w3 L0 hr T => ?_
                have h1 : w3.ownsRow base 5 1 (a.eval (.tmp 61)) ((L8 ++ Mi.text y1.data.toList)).length (((L8 ++ Mi.text y1.data.toList)).map B8) := T.at_ 7 61 (by kernel_rfl) (by kernel_rfl) (by kernel_rfl)
                have h67 : a.eval (.tmp 67) = .string y2 := T.at_ 13 67 (by kernel_rfl) (by kernel_rfl) (by kernel_rfl)
                refine ⟨#[a.eval (.tmp 61), .string y2], by simp only [execOp, resolve, List.map_toArray, List.map_cons, List.map_nil, h67]; simp [go_sem, Act.eval], ?_⟩
                refine (rtext_calls base _ _ y2 w3 h1 (Nat.le_trans hbase hr.1.size) (by (try simp only [List.length_append]); omega) (by omega)).mono fun e w4 hh => ?_
                obtain ⟨u4, rfl, ho4, hg4⟩ := hh
                have hX3 := hr.2.trans HX.out
                have hl7 : L0 7 = true := PI.ToldG.done_ T 7 (by kernel_rfl)
                refine ⟨_, rfl, ⟨hg4.below (Below.refl _ _) (Nat.le_trans hbase hr.1.size) (own_block_ge h1), hg4.grown.block k (in_heap hX3) (Ne.symm (own_not h1 hX3 (by decide)))⟩, ho4, fun _ _ h => h, fun j u hj hLj hnd hw h => ?_, fun hl => by exfalso; simp [PI.upd, hl7] at hl⟩
                by_cases hjr : j = 7 ∨ j = 14 ∨ j = 15
                · rcases hjr with rfl | rfl | rfl
                  · simp [PI.needB] at hnd
                  · exact absurd rfl hj
                  · exact absurd (T.shut_ 15 14 (by kernel_rfl) hLj) (by rw [T.yetNot]; decide)
                · exact DF8.other h hjr
              · obtain rfl := Option.some.inj (show some _ = some o from ho)
                refine PI.shown_val rfl fun a w3 L0 hr T => ?_
                have h1 : w3.ownsRow base 5 1 (a.eval (.tmp 68)) (((L8 ++ Mi.text y1.data.toList) ++ Mi.text y2.data.toList)).length ((((L8 ++ Mi.text y1.data.toList) ++ Mi.text y2.data.toList)).map B8) := T.at_ 14 68 (by kernel_rfl) (by kernel_rfl) (by kernel_rfl)
                exact ⟨a.eval (.tmp 68), w3, by simp only [execOp]; simp [go_sem], PI.Post.pure RB.goes h1 (fun hl => T.inv hl)⟩
              · cases ho
            · intro x w5 hr hf he _
              have h1 := hf 15 _ 0 rfl rfl (by decide)
              change w5.ownsRow base 5 1 (x 15) (((L8 ++ Mi.text y1.data.toList) ++ Mi.text y2.data.toList)).length ((((L8 ++ Mi.text y1.data.toList) ++ Mi.text y2.data.toList)).map B8) at h1
              have HX5 := Lib.hid (hr.2.trans HX.out)
              have HB5 := Lib.hid ((below_drew HB.out).trans hr.1)
              have HO5 := Lib.hid h1
              simp only [PI.putAll, Act.put, List.setIfInBounds_toArray, List.set_cons_zero, List.set_cons_succ]
              clear hf he h1 hr
              go_wp2_with fail
              go_roundw
              case rel =>
                refine ⟨j + 1, by go_num, by omega, ?_, ?_, ?_⟩
                · have e := congrArg List.length HST.out
                  have e2 := Lib.hid hl
                  refine Lib.hid ?_
                  simp only [List.length_append] at e hl ⊢
                  omega
                · have q := HO5.out
                  rw [← HST.out] at q
                  exact Lib.hid (by simpa using q)
                · rw [← hk]
                  first | exact HX5 | exact ⟨HX5, HB5⟩
              case measure => simp [intOf]; omega
          · obtain rfl : n = j := by omega
            have HEE : Hid ((L ++ Mi.put n) ++ encA (ats.take n) = L00 ++ EN) := Lib.hid (by
              obtain ⟨h3, h2, h1, _⟩ := HLL.out
              have hf : flag x8 = Mi.put bt := by rw [HBT.out]; cases x8 <;> decide
              rw [List.take_of_length_le (by rw [← HN.out]; exact Nat.le_refl _), h3, h2, h1, HENC.out, HL00.out, hf]
              simp only [List.append_assoc])
            go_wp2_with fail
            go_ret
            exact ⟨_, rfl, by rw [← HL00.out, ← HEE.out]; exact HO.out, HB.out⟩
end Go.Proofs.Ytchcjbapbdfhkaa
