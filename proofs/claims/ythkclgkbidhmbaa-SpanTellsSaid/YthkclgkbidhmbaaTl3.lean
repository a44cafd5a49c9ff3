/- SpanTells: which spans may be, how any is written, which any bytes begin with, and which two are one. -/
import Derived.Test.YthkclgkbidhmbaaDk
import Derived.Test.YthkclgkbidhmbaaDc
import Derived.Test.YthkclgkbidhmbaaSn
import Derived.Test.YthkclgkbidhmbaaSa
import Derived.Test.YthkclgkbidhmbaaAl3
import Derived.Test.YthkclgkbidhmbaaFew
import Derived.Test.YthkclgkbidhmbaaPerj
namespace Go.Proofs.Ythkclgkbidhmbaa
open Go.RowKit
set_option linter.unusedVariables false
set_option linter.unusedSimpArgs false
set_option maxRecDepth 100000

/-- What a read of a span hands back: the span, how many bytes, the error. -/
def ReadRes (s : Sp) (i er : Int) (w : World) (e : Ending) (w' : World) : Prop := ∃ (A : Option Addr) (c : Nat), e = .returned (.tuple #[.agg (Ls.mk s A c).cells.toArray, .int .i64 i, .int .i64 er]) ∧ OwnL w' w.heap.size ⟨s, A, c⟩ ∧ Below w.heap.size w w'
theorem reads_both (l : List UInt8) : ∃ (s : Sp) (i er : Int),
    (∀ (A : Option Addr) (n c B : Nat) (w : World), n = l.length → Rd w B A (l.map B8) → B ≤ w.heap.size → (n ≤ c ∧ n ≤ 140737488351232 ∧ c ≤ maxLen) → Calls Try.prog 26 #[.slice A n c] w (ReadRes s i er w)) ∧
    (∀ (A : Option Addr) (n c B : Nat) (w : World), n = l.length → Rd w B A (l.map B8) → B ≤ w.heap.size → (n ≤ c ∧ n ≤ 140737488351232 ∧ c ≤ maxLen) → Calls Try.prog 27 #[.slice A n c] w (ReadRes s i er w)) := by
  have hb := dspan_both (l, false)
  rcases hR : Rm.span (l, false) with ⟨s, mm, bad⟩
  rw [hR] at hb
  simp only at hb
  cases bad
  · have hD := hb.2 rfl
    refine ⟨s, (l.length : Int) - (mm.length : Int), 0, fun A n c B w hn hr hB hc => ?_, fun A n c B w hn hr hB hc => ?_⟩
    · subst hn; exact read_yes A l mm _ c B s w rfl hr hB hc hR
    · subst hn; exact dread_yes A l mm _ c B s w rfl hr hB hc hD
  · rcases hD : Dm.span (l, false) with ⟨s2, mm2, bad2⟩
    have hb1 : bad2 = true := by have := hb.1; rw [hD] at this; exact this
    subst hb1
    refine ⟨Rm.zero, 0, 2, fun A n c B w hn hr hB hc => ?_, fun A n c B w hn hr hB hc => ?_⟩
    · refine (read_no A l mm n c B s w hn hr hB hc hR).mono fun e w' hh => ⟨none, 0, hh.1, ⟨World.ownsRow_nil _ _ _ _, zero_ok⟩, hh.2⟩
    · refine (dread_no A l mm2 n c B s2 w hn hr hB hc hD).mono fun e w' hh => ⟨none, 0, hh.1, ⟨World.ownsRow_nil _ _ _ _, zero_ok⟩, hh.2⟩
theorem readRes_lit {s : Sp} {i er : Int} {w : World} {e : Ending} {w' : World} (k : Nat) (hk : k = s.ats.length) (h : ReadRes s i er w e w') : ∃ (A : Option Addr) (c : Nat), e = .returned (.tuple #[.agg #[.int .u64 s.hi, .int .u64 s.lo, .int .u64 s.id, .int .u64 s.pa, .string s.sv, .string s.op, .int .i64 s.st, .int .i64 s.du, .bool s.er, .slice A k c], .int .i64 i, .int .i64 er]) ∧ Rd w' w'.heap.size A (s.ats.flatMap atC) ∧ k ≤ maxLen ∧ Below w.heap.size w w' := by
  obtain ⟨A, c, he, ho, hb⟩ := h
  subst hk
  exact ⟨A, c, he, ho.rd.rd, by have h1 := ho.rd.cap.1; have h2 := ho.rd.cap.2; simp only at h1 h2; omega, hb⟩
theorem spanbytes_no (x0 x1 x2 x3 : Int) (x4 x5 : ByteArray) (x6 x7 : Int) (x8 : Bool) (ats : List (ByteArray × ByteArray)) (xA : Option Addr) (xc k B : Nat) (w : World) (hk : k = ats.length) (hy : RdL w B ⟨⟨x0, x1, x2, x3, x4, x5, x6, x7, x8, ats⟩, xA, xc⟩) (hB : B ≤ w.heap.size) (hri : right ⟨x0, x1, x2, x3, x4, x5, x6, x7, x8, ats⟩ = false) :
    Calls Try.prog 31 #[.agg #[.int .u64 x0, .int .u64 x1, .int .u64 x2, .int .u64 x3, .string x4, .string x5, .int .i64 x6, .int .i64 x7, .bool x8, .slice xA k xc]] w fun e w' => e = .returned (.slice none 0 0) ∧ Below w.heap.size w w' := by
  have HB0 := Lib.hid ((Below.refl w.heap.size w).alloc (Nat.le_refl _) (.cells #[.int .u64 x0, .int .u64 x1, .int .u64 x2, .int .u64 x3, .string x4, .string x5, .int .i64 x6, .int .i64 x7, .bool x8, .slice xA k xc] 36))
  have HX0 := Lib.hid (heap_alloc_new w (.cells #[.int .u64 x0, .int .u64 x1, .int .u64 x2, .int .u64 x3, .string x4, .string x5, .int .i64 x6, .int .i64 x7, .bool x8, .slice xA k xc] 36))
  have HRI : Hid (∀ W, Below w.heap.size w W → Calls Try.prog 29 #[.agg #[.int .u64 x0, .int .u64 x1, .int .u64 x2, .int .u64 x3, .string x4, .string x5, .int .i64 x6, .int .i64 x7, .bool x8, .slice xA k xc]] W fun e w' => e = .returned (.bool false) ∧ Below W.heap.size W w') := Lib.hid (fun W hW => by have h := rightspan_lit x0 x1 x2 x3 x4 x5 x6 x7 x8 ats xA xc k B W hk (hy.below (hW.mono hB)) (Nat.le_trans hB hW.size); rw [hri] at h; exact h)
  clear hk hy hri
  go_enter Try.func31, Try.ntmps31
  go_wp2_with (first
    | (go_at_call 29; (with_reducible refine (HRI.out _ HB0.out).mono ?_); rintro e w1 ⟨rfl, hb1⟩; have hX1 := (hb1.block w.heap.size (in_heap HX0.out)).trans HX0.out; have HB1 := Lib.hid (HB0.out.trans (hb1.mono HB0.out.size)); have b0 : w1.cell? ⟨w.heap.size, 0, none⟩ = some (.int .u64 x0) := cell_of_row _ _ 0 _ _ (0, 0) hX1; have b1 : w1.cell? ⟨w.heap.size, 1, none⟩ = some (.int .u64 x1) := cell_of_row _ _ 1 _ _ (0, 0) hX1; have b2 : w1.cell? ⟨w.heap.size, 2, none⟩ = some (.int .u64 x2) := cell_of_row _ _ 2 _ _ (0, 0) hX1; have b3 : w1.cell? ⟨w.heap.size, 3, none⟩ = some (.int .u64 x3) := cell_of_row _ _ 3 _ _ (0, 0) hX1; have b4 : w1.cell? ⟨w.heap.size, 4, none⟩ = some (.string x4) := cell_of_row _ _ 4 _ _ (0, 0) hX1; have b5 : w1.cell? ⟨w.heap.size, 5, none⟩ = some (.string x5) := cell_of_row _ _ 5 _ _ (0, 0) hX1; have b6 : w1.cell? ⟨w.heap.size, 6, none⟩ = some (.int .i64 x6) := cell_of_row _ _ 6 _ _ (0, 0) hX1; have b7 : w1.cell? ⟨w.heap.size, 7, none⟩ = some (.int .i64 x7) := cell_of_row _ _ 7 _ _ (0, 0) hX1; have b8 : w1.cell? ⟨w.heap.size, 8, none⟩ = some (.bool x8) := cell_of_row _ _ 8 _ _ (0, 0) hX1; have b9 : w1.cell? ⟨w.heap.size, 9, none⟩ = some (.slice xA k xc) := cell_of_row _ _ 9 _ _ (0, 0) hX1; clear hX1 hb1))
  go_ret
  exact ⟨rfl, HB1.out⟩
theorem spanbytes_any (x0 x1 x2 x3 : Int) (x4 x5 : ByteArray) (x6 x7 : Int) (x8 : Bool) (ats : List (ByteArray × ByteArray)) (xA : Option Addr) (xc k B : Nat) (w : World) (hk : k = ats.length) (hy : RdL w B ⟨⟨x0, x1, x2, x3, x4, x5, x6, x7, x8, ats⟩, xA, xc⟩) (hB : B ≤ w.heap.size) :
    Calls Try.prog 31 #[.agg #[.int .u64 x0, .int .u64 x1, .int .u64 x2, .int .u64 x3, .string x4, .string x5, .int .i64 x6, .int .i64 x7, .bool x8, .slice xA k xc]] w (BytesOf (if right ⟨x0, x1, x2, x3, x4, x5, x6, x7, x8, ats⟩ then enc ⟨x0, x1, x2, x3, x4, x5, x6, x7, x8, ats⟩ else []) w) := by
  cases hri : right ⟨x0, x1, x2, x3, x4, x5, x6, x7, x8, ats⟩ with
  | false => exact (spanbytes_no x0 x1 x2 x3 x4 x5 x6 x7 x8 ats xA xc k B w hk hy hB hri).mono fun e w' hh => ⟨_, hh.1, own_nil _ _, hh.2⟩
  | true =>
    have hs := sp_nat hy.ok hri
    simp only [Sp.mk.injEq] at hs
    obtain ⟨e0, e1, e2, e3, _, _, e6, e7, _, _⟩ := hs
    generalize x0.toNat = n0 at e0
    generalize x1.toNat = n1 at e1
    generalize x2.toNat = n2 at e2
    generalize x3.toNat = n3 at e3
    generalize x6.toNat = n6 at e6
    generalize x7.toNat = n7 at e7
    subst e0 e1 e2 e3 e6 e7
    exact (spanbytes_in n0 n1 n2 n3 x4 x5 n6 n7 x8 ats xA xc k w hk (hy.more hB) hri).mono fun e w' ⟨v, h1, h2, h3⟩ => ⟨v, h1, h2, h3⟩

theorem own_cap' {w : World} {base e size n : Nat} {v : Value} {xs : List Value} (h : w.ownsRow base e size v n xs) : ∀ A c, v = .slice A n c → c ≤ maxLen := fun A c hv => by subst hv; exact (own_cap h).2
/-- What each operation of the law's last expression leaves. -/
def T3F (x0 x1 x2 x3 : Int) (x4 x5 : ByteArray) (x6 x7 : Int) (x8 : Bool) (xA : Option Addr) (k xc : Nat) (y0 y1 y2 y3 : Int) (y4 y5 : ByteArray) (y6 y7 : Int) (y8 : Bool) (yA : Option Addr) (m yc : Nat) (z0 z1 z2 z3 : Int) (z4 z5 : ByteArray) (z6 z7 : Int) (z8 : Bool) (uA : Option Addr) (uc : Nat) (vA : Option Addr) (vc j : Nat) (ri sm : Bool) (L : List UInt8) (I er : Int) (base : Nat) : Nat → Value → World → Prop
  | 0, v, _ => v = .agg #[.int .u64 x0, .int .u64 x1, .int .u64 x2, .int .u64 x3, .string x4, .string x5, .int .i64 x6, .int .i64 x7, .bool x8, .slice xA k xc]
  | 1, v, _ => v = .bool ri
  | 2, v, _ => v = .agg #[.int .u64 x0, .int .u64 x1, .int .u64 x2, .int .u64 x3, .string x4, .string x5, .int .i64 x6, .int .i64 x7, .bool x8, .slice xA k xc]
  | 3, v, _ => v = .bool ri
  | 4, v, _ => v = .bool true
  | 5, v, _ => v = .bool true
  | 6, v, _ => v = .agg #[.int .u64 x0, .int .u64 x1, .int .u64 x2, .int .u64 x3, .string x4, .string x5, .int .i64 x6, .int .i64 x7, .bool x8, .slice xA k xc]
  | 7, v, w => w.ownsRow base 5 1 v L.length (L.map B8)
  | 8, v, _ => v = .string (S8 L)
  | 9, v, _ => v = .agg #[.int .u64 x0, .int .u64 x1, .int .u64 x2, .int .u64 x3, .string x4, .string x5, .int .i64 x6, .int .i64 x7, .bool x8, .slice xA k xc]
  | 10, v, w => w.ownsRow base 5 1 v L.length (L.map B8)
  | 11, v, _ => v = .string (S8 L)
  | 12, v, _ => v = .bool true
  | 13, v, _ => v = .bool true
  | 14, v, _ => v = .bool true
  | 15, v, _ => v = .agg #[.int .u64 z0, .int .u64 z1, .int .u64 z2, .int .u64 z3, .string z4, .string z5, .int .i64 z6, .int .i64 z7, .bool z8, .slice uA j uc]
  | 16, v, _ => v = .agg #[.int .u64 z0, .int .u64 z1, .int .u64 z2, .int .u64 z3, .string z4, .string z5, .int .i64 z6, .int .i64 z7, .bool z8, .slice vA j vc]
  | 17, v, _ => v = .bool true
  | 18, v, _ => v = .bool true
  | 19, v, _ => v = .bool true
  | 20, v, _ => v = .int .i64 I
  | 21, v, _ => v = .int .i64 I
  | 22, v, _ => v = .bool true
  | 23, v, _ => v = .bool true
  | 24, v, _ => v = .bool true
  | 25, v, _ => v = .int .i64 er
  | 26, v, _ => v = .int .i64 er
  | 27, v, _ => v = .int .i64 er
  | 28, v, _ => v = .bool true
  | 29, v, _ => v = .bool true
  | 30, v, _ => v = .bool true
  | 31, v, _ => v = .agg #[.int .u64 x0, .int .u64 x1, .int .u64 x2, .int .u64 x3, .string x4, .string x5, .int .i64 x6, .int .i64 x7, .bool x8, .slice xA k xc]
  | 32, v, _ => v = .agg #[.int .u64 y0, .int .u64 y1, .int .u64 y2, .int .u64 y3, .string y4, .string y5, .int .i64 y6, .int .i64 y7, .bool y8, .slice yA m yc]
  | 33, v, _ => v = .bool sm
  | 34, v, _ => v = .agg #[.int .u64 x0, .int .u64 x1, .int .u64 x2, .int .u64 x3, .string x4, .string x5, .int .i64 x6, .int .i64 x7, .bool x8, .slice xA k xc]
  | 35, v, _ => v = .agg #[.int .u64 y0, .int .u64 y1, .int .u64 y2, .int .u64 y3, .string y4, .string y5, .int .i64 y6, .int .i64 y7, .bool y8, .slice yA m yc]
  | 36, v, _ => v = .bool sm
  | 37, v, _ => v = .bool true
  | 38, v, _ => v = .bool true
  | 39, v, _ => v = .bool true
  | 40, v, _ => v = .agg #[.int .u64 x0, .int .u64 x1, .int .u64 x2, .int .u64 x3, .string x4, .string x5, .int .i64 x6, .int .i64 x7, .bool x8, .slice xA k xc]
  | 41, v, _ => v = .agg #[.int .u64 x0, .int .u64 x1, .int .u64 x2, .int .u64 x3, .string x4, .string x5, .int .i64 x6, .int .i64 x7, .bool x8, .slice xA k xc]
  | 42, v, _ => v = .bool true
  | 43, v, _ => v = .bool true
  | 44, v, _ => v = .bool true
  | _, _, _ => True
section
variable {x0 x1 x2 x3 : Int} {x4 x5 : ByteArray} {x6 x7 : Int} {x8 : Bool} {xA : Option Addr} {k xc : Nat} {y0 y1 y2 y3 : Int} {y4 y5 : ByteArray} {y6 y7 : Int} {y8 : Bool} {yA : Option Addr} {m yc : Nat} {z0 z1 z2 z3 : Int} {z4 z5 : ByteArray} {z6 z7 : Int} {z8 : Bool} {uA : Option Addr} {uc : Nat} {vA : Option Addr} {vc j : Nat} {ri sm : Bool} {L : List UInt8} {I er : Int} {base : Nat} {w w' : World}
theorem T3F.keep {i : Nat} {v : Value} (h : T3F x0 x1 x2 x3 x4 x5 x6 x7 x8 xA k xc y0 y1 y2 y3 y4 y5 y6 y7 y8 yA m yc z0 z1 z2 z3 z4 z5 z6 z7 z8 uA uc vA vc j ri sm L I er base i v w) (hr : ∀ mm xs, w.ownsRow base 5 1 v mm xs → w'.ownsRow base 5 1 v mm xs) : T3F x0 x1 x2 x3 x4 x5 x6 x7 x8 xA k xc y0 y1 y2 y3 y4 y5 y6 y7 y8 yA m yc z0 z1 z2 z3 z4 z5 z6 z7 z8 uA uc vA vc j ri sm L I er base i v w' := by
  match i, h with
  | 0, h => exact h
  | 1, h => exact h
  | 2, h => exact h
  | 3, h => exact h
  | 4, h => exact h
  | 5, h => exact h
  | 6, h => exact h
  | 7, h => exact hr _ _ h
  | 8, h => exact h
  | 9, h => exact h
  | 10, h => exact hr _ _ h
  | 11, h => exact h
  | 12, h => exact h
  | 13, h => exact h
  | 14, h => exact h
  | 15, h => exact h
  | 16, h => exact h
  | 17, h => exact h
  | 18, h => exact h
  | 19, h => exact h
  | 20, h => exact h
  | 21, h => exact h
  | 22, h => exact h
  | 23, h => exact h
  | 24, h => exact h
  | 25, h => exact h
  | 26, h => exact h
  | 27, h => exact h
  | 28, h => exact h
  | 29, h => exact h
  | 30, h => exact h
  | 31, h => exact h
  | 32, h => exact h
  | 33, h => exact h
  | 34, h => exact h
  | 35, h => exact h
  | 36, h => exact h
  | 37, h => exact h
  | 38, h => exact h
  | 39, h => exact h
  | 40, h => exact h
  | 41, h => exact h
  | 42, h => exact h
  | 43, h => exact h
  | 44, h => exact h
  | _ + 45, h => trivial
end

set_option maxHeartbeats 16000000 in
theorem tell3_out (x0 x1 x2 x3 : Int) (x4 x5 : ByteArray) (x6 x7 : Int) (x8 : Bool) (ats : List (ByteArray × ByteArray)) (xA : Option Addr) (xc k : Nat) (y0 y1 y2 y3 : Int) (y4 y5 : ByteArray) (y6 y7 : Int) (y8 : Bool) (bts : List (ByteArray × ByteArray)) (yA : Option Addr) (yc m : Nat) (bA : Option Addr) (l : List UInt8) (n c : Nat) (w : World) (hk : k = ats.length) (hm : m = bts.length) (hx : RdL w w.heap.size ⟨⟨x0, x1, x2, x3, x4, x5, x6, x7, x8, ats⟩, xA, xc⟩) (hy : RdL w w.heap.size ⟨⟨y0, y1, y2, y3, y4, y5, y6, y7, y8, bts⟩, yA, yc⟩) (hn : n = l.length) (h : few ⟨x0, x1, x2, x3, x4, x5, x6, x7, x8, ats⟩ = false ∨ few ⟨y0, y1, y2, y3, y4, y5, y6, y7, y8, bts⟩ = false ∨ 500 < n) :
    Calls Try.prog 4 #[.agg #[.int .u64 x0, .int .u64 x1, .int .u64 x2, .int .u64 x3, .string x4, .string x5, .int .i64 x6, .int .i64 x7, .bool x8, .slice xA k xc], .agg #[.int .u64 y0, .int .u64 y1, .int .u64 y2, .int .u64 y3, .string y4, .string y5, .int .i64 y6, .int .i64 y7, .bool y8, .slice yA m yc], .slice bA n c] w fun e w' => e = .returned (.bool true) ∧ Below w.heap.size w w' := by
  have HX0 := Lib.hid (two_cells w (.cells #[.int .u64 x0, .int .u64 x1, .int .u64 x2, .int .u64 x3, .string x4, .string x5, .int .i64 x6, .int .i64 x7, .bool x8, .slice xA k xc] 36) (.cells #[.int .u64 y0, .int .u64 y1, .int .u64 y2, .int .u64 y3, .string y4, .string y5, .int .i64 y6, .int .i64 y7, .bool y8, .slice yA m yc] 36)).1
  have HY0 := Lib.hid (two_cells w (.cells #[.int .u64 x0, .int .u64 x1, .int .u64 x2, .int .u64 x3, .string x4, .string x5, .int .i64 x6, .int .i64 x7, .bool x8, .slice xA k xc] 36) (.cells #[.int .u64 y0, .int .u64 y1, .int .u64 y2, .int .u64 y3, .string y4, .string y5, .int .i64 y6, .int .i64 y7, .bool y8, .slice yA m yc] 36)).2
  have HB0 := Lib.hid (two_below w (.cells #[.int .u64 x0, .int .u64 x1, .int .u64 x2, .int .u64 x3, .string x4, .string x5, .int .i64 x6, .int .i64 x7, .bool x8, .slice xA k xc] 36) (.cells #[.int .u64 y0, .int .u64 y1, .int .u64 y2, .int .u64 y3, .string y4, .string y5, .int .i64 y6, .int .i64 y7, .bool y8, .slice yA m yc] 36))
  have HFX : Hid (∀ W, Below w.heap.size w W → Calls Try.prog 25 #[.agg #[.int .u64 x0, .int .u64 x1, .int .u64 x2, .int .u64 x3, .string x4, .string x5, .int .i64 x6, .int .i64 x7, .bool x8, .slice xA k xc]] W fun e w2 => e = .returned (.bool (few ⟨x0, x1, x2, x3, x4, x5, x6, x7, x8, ats⟩)) ∧ Below W.heap.size W w2) := Lib.hid (fun W hW => by subst hk; exact few_any ⟨⟨x0, x1, x2, x3, x4, x5, x6, x7, x8, ats⟩, xA, xc⟩ w.heap.size W (hx.below hW) hW.size)
  have HFY : Hid (∀ W, Below w.heap.size w W → Calls Try.prog 25 #[.agg #[.int .u64 y0, .int .u64 y1, .int .u64 y2, .int .u64 y3, .string y4, .string y5, .int .i64 y6, .int .i64 y7, .bool y8, .slice yA m yc]] W fun e w2 => e = .returned (.bool (few ⟨y0, y1, y2, y3, y4, y5, y6, y7, y8, bts⟩)) ∧ Below W.heap.size W w2) := Lib.hid (fun W hW => by subst hm; exact few_any ⟨⟨y0, y1, y2, y3, y4, y5, y6, y7, y8, bts⟩, yA, yc⟩ w.heap.size W (hy.below hW) hW.size)
  have hh : few ⟨x0, x1, x2, x3, x4, x5, x6, x7, x8, ats⟩ = false ∨ (few ⟨x0, x1, x2, x3, x4, x5, x6, x7, x8, ats⟩ = true ∧ few ⟨y0, y1, y2, y3, y4, y5, y6, y7, y8, bts⟩ = false) ∨ (few ⟨x0, x1, x2, x3, x4, x5, x6, x7, x8, ats⟩ = true ∧ few ⟨y0, y1, y2, y3, y4, y5, y6, y7, y8, bts⟩ = true ∧ 500 < n) := by
    cases hf : few ⟨x0, x1, x2, x3, x4, x5, x6, x7, x8, ats⟩ <;> cases hg : few ⟨y0, y1, y2, y3, y4, y5, y6, y7, y8, bts⟩ <;> simp_all
  clear h hx hy hk hm hn
  rcases hh with hr | ⟨hr, hq⟩ | ⟨hr, hq, hl⟩
  · rw [hr] at HFX
    clear hr
    go_enter Try.func4, Try.ntmps4
    go_wp2_with fail
    refine (alive3_calls _).mono ?_
    rintro e w1 ⟨rfl, hb⟩
    have HX1 := Lib.hid ((hb.block _ (in_heap HX0.out)).trans HX0.out)
    have HY1 := Lib.hid ((hb.block _ (in_heap HY0.out)).trans HY0.out)
    have HB1 := Lib.hid (HB0.out.trans (hb.mono HB0.out.size))
    
    have b0 : w1.cell? ⟨w.heap.size, 0, none⟩ = some (.int .u64 x0) := cell_of_row _ _ 0 _ _ (0, 0) HX1.out
    have b1 : w1.cell? ⟨w.heap.size, 1, none⟩ = some (.int .u64 x1) := cell_of_row _ _ 1 _ _ (0, 0) HX1.out
    have b2 : w1.cell? ⟨w.heap.size, 2, none⟩ = some (.int .u64 x2) := cell_of_row _ _ 2 _ _ (0, 0) HX1.out
    have b3 : w1.cell? ⟨w.heap.size, 3, none⟩ = some (.int .u64 x3) := cell_of_row _ _ 3 _ _ (0, 0) HX1.out
    have b4 : w1.cell? ⟨w.heap.size, 4, none⟩ = some (.string x4) := cell_of_row _ _ 4 _ _ (0, 0) HX1.out
    have b5 : w1.cell? ⟨w.heap.size, 5, none⟩ = some (.string x5) := cell_of_row _ _ 5 _ _ (0, 0) HX1.out
    have b6 : w1.cell? ⟨w.heap.size, 6, none⟩ = some (.int .i64 x6) := cell_of_row _ _ 6 _ _ (0, 0) HX1.out
    have b7 : w1.cell? ⟨w.heap.size, 7, none⟩ = some (.int .i64 x7) := cell_of_row _ _ 7 _ _ (0, 0) HX1.out
    have b8 : w1.cell? ⟨w.heap.size, 8, none⟩ = some (.bool x8) := cell_of_row _ _ 8 _ _ (0, 0) HX1.out
    have b9 : w1.cell? ⟨w.heap.size, 9, none⟩ = some (.slice xA k xc) := cell_of_row _ _ 9 _ _ (0, 0) HX1.out
    have d0 : w1.cell? ⟨w.heap.size + 1, 0, none⟩ = some (.int .u64 y0) := cell_of_row _ _ 0 _ _ (0, 0) HY1.out
    have d1 : w1.cell? ⟨w.heap.size + 1, 1, none⟩ = some (.int .u64 y1) := cell_of_row _ _ 1 _ _ (0, 0) HY1.out
    have d2 : w1.cell? ⟨w.heap.size + 1, 2, none⟩ = some (.int .u64 y2) := cell_of_row _ _ 2 _ _ (0, 0) HY1.out
    have d3 : w1.cell? ⟨w.heap.size + 1, 3, none⟩ = some (.int .u64 y3) := cell_of_row _ _ 3 _ _ (0, 0) HY1.out
    have d4 : w1.cell? ⟨w.heap.size + 1, 4, none⟩ = some (.string y4) := cell_of_row _ _ 4 _ _ (0, 0) HY1.out
    have d5 : w1.cell? ⟨w.heap.size + 1, 5, none⟩ = some (.string y5) := cell_of_row _ _ 5 _ _ (0, 0) HY1.out
    have d6 : w1.cell? ⟨w.heap.size + 1, 6, none⟩ = some (.int .i64 y6) := cell_of_row _ _ 6 _ _ (0, 0) HY1.out
    have d7 : w1.cell? ⟨w.heap.size + 1, 7, none⟩ = some (.int .i64 y7) := cell_of_row _ _ 7 _ _ (0, 0) HY1.out
    have d8 : w1.cell? ⟨w.heap.size + 1, 8, none⟩ = some (.bool y8) := cell_of_row _ _ 8 _ _ (0, 0) HY1.out
    have d9 : w1.cell? ⟨w.heap.size + 1, 9, none⟩ = some (.slice yA m yc) := cell_of_row _ _ 9 _ _ (0, 0) HY1.out
    clear hb HX0 HY0
    go_wp2_with fail
    refine (HFX.out w1 HB1.out).mono ?_
    rintro e w2 ⟨rfl, hb⟩
    have HX2 := Lib.hid ((hb.block _ (in_heap HX1.out)).trans HX1.out)
    have HY2 := Lib.hid ((hb.block _ (in_heap HY1.out)).trans HY1.out)
    have HB2 := Lib.hid (HB1.out.trans (hb.mono HB1.out.size))
    clear b0 d0 b1 d1 b2 d2 b3 d3 b4 d4 b5 d5 b6 d6 b7 d7 b8 d8 b9 d9
    have b0 : w2.cell? ⟨w.heap.size, 0, none⟩ = some (.int .u64 x0) := cell_of_row _ _ 0 _ _ (0, 0) HX2.out
    have b1 : w2.cell? ⟨w.heap.size, 1, none⟩ = some (.int .u64 x1) := cell_of_row _ _ 1 _ _ (0, 0) HX2.out
    have b2 : w2.cell? ⟨w.heap.size, 2, none⟩ = some (.int .u64 x2) := cell_of_row _ _ 2 _ _ (0, 0) HX2.out
    have b3 : w2.cell? ⟨w.heap.size, 3, none⟩ = some (.int .u64 x3) := cell_of_row _ _ 3 _ _ (0, 0) HX2.out
    have b4 : w2.cell? ⟨w.heap.size, 4, none⟩ = some (.string x4) := cell_of_row _ _ 4 _ _ (0, 0) HX2.out
    have b5 : w2.cell? ⟨w.heap.size, 5, none⟩ = some (.string x5) := cell_of_row _ _ 5 _ _ (0, 0) HX2.out
    have b6 : w2.cell? ⟨w.heap.size, 6, none⟩ = some (.int .i64 x6) := cell_of_row _ _ 6 _ _ (0, 0) HX2.out
    have b7 : w2.cell? ⟨w.heap.size, 7, none⟩ = some (.int .i64 x7) := cell_of_row _ _ 7 _ _ (0, 0) HX2.out
    have b8 : w2.cell? ⟨w.heap.size, 8, none⟩ = some (.bool x8) := cell_of_row _ _ 8 _ _ (0, 0) HX2.out
    have b9 : w2.cell? ⟨w.heap.size, 9, none⟩ = some (.slice xA k xc) := cell_of_row _ _ 9 _ _ (0, 0) HX2.out
    have d0 : w2.cell? ⟨w.heap.size + 1, 0, none⟩ = some (.int .u64 y0) := cell_of_row _ _ 0 _ _ (0, 0) HY2.out
    have d1 : w2.cell? ⟨w.heap.size + 1, 1, none⟩ = some (.int .u64 y1) := cell_of_row _ _ 1 _ _ (0, 0) HY2.out
    have d2 : w2.cell? ⟨w.heap.size + 1, 2, none⟩ = some (.int .u64 y2) := cell_of_row _ _ 2 _ _ (0, 0) HY2.out
    have d3 : w2.cell? ⟨w.heap.size + 1, 3, none⟩ = some (.int .u64 y3) := cell_of_row _ _ 3 _ _ (0, 0) HY2.out
    have d4 : w2.cell? ⟨w.heap.size + 1, 4, none⟩ = some (.string y4) := cell_of_row _ _ 4 _ _ (0, 0) HY2.out
    have d5 : w2.cell? ⟨w.heap.size + 1, 5, none⟩ = some (.string y5) := cell_of_row _ _ 5 _ _ (0, 0) HY2.out
    have d6 : w2.cell? ⟨w.heap.size + 1, 6, none⟩ = some (.int .i64 y6) := cell_of_row _ _ 6 _ _ (0, 0) HY2.out
    have d7 : w2.cell? ⟨w.heap.size + 1, 7, none⟩ = some (.int .i64 y7) := cell_of_row _ _ 7 _ _ (0, 0) HY2.out
    have d8 : w2.cell? ⟨w.heap.size + 1, 8, none⟩ = some (.bool y8) := cell_of_row _ _ 8 _ _ (0, 0) HY2.out
    have d9 : w2.cell? ⟨w.heap.size + 1, 9, none⟩ = some (.slice yA m yc) := cell_of_row _ _ 9 _ _ (0, 0) HY2.out
    clear hb HX1 HY1
    go_wp2_with fail
    go_ret
    exact ⟨rfl, HB2.out⟩
  · rw [hr] at HFX
    rw [hq] at HFY
    clear hr hq
    go_enter Try.func4, Try.ntmps4
    go_wp2_with fail
    refine (alive3_calls _).mono ?_
    rintro e w1 ⟨rfl, hb⟩
    have HX1 := Lib.hid ((hb.block _ (in_heap HX0.out)).trans HX0.out)
    have HY1 := Lib.hid ((hb.block _ (in_heap HY0.out)).trans HY0.out)
    have HB1 := Lib.hid (HB0.out.trans (hb.mono HB0.out.size))
    
    have b0 : w1.cell? ⟨w.heap.size, 0, none⟩ = some (.int .u64 x0) := cell_of_row _ _ 0 _ _ (0, 0) HX1.out
    have b1 : w1.cell? ⟨w.heap.size, 1, none⟩ = some (.int .u64 x1) := cell_of_row _ _ 1 _ _ (0, 0) HX1.out
    have b2 : w1.cell? ⟨w.heap.size, 2, none⟩ = some (.int .u64 x2) := cell_of_row _ _ 2 _ _ (0, 0) HX1.out
    have b3 : w1.cell? ⟨w.heap.size, 3, none⟩ = some (.int .u64 x3) := cell_of_row _ _ 3 _ _ (0, 0) HX1.out
    have b4 : w1.cell? ⟨w.heap.size, 4, none⟩ = some (.string x4) := cell_of_row _ _ 4 _ _ (0, 0) HX1.out
    have b5 : w1.cell? ⟨w.heap.size, 5, none⟩ = some (.string x5) := cell_of_row _ _ 5 _ _ (0, 0) HX1.out
    have b6 : w1.cell? ⟨w.heap.size, 6, none⟩ = some (.int .i64 x6) := cell_of_row _ _ 6 _ _ (0, 0) HX1.out
    have b7 : w1.cell? ⟨w.heap.size, 7, none⟩ = some (.int .i64 x7) := cell_of_row _ _ 7 _ _ (0, 0) HX1.out
    have b8 : w1.cell? ⟨w.heap.size, 8, none⟩ = some (.bool x8) := cell_of_row _ _ 8 _ _ (0, 0) HX1.out
    have b9 : w1.cell? ⟨w.heap.size, 9, none⟩ = some (.slice xA k xc) := cell_of_row _ _ 9 _ _ (0, 0) HX1.out
    have d0 : w1.cell? ⟨w.heap.size + 1, 0, none⟩ = some (.int .u64 y0) := cell_of_row _ _ 0 _ _ (0, 0) HY1.out
    have d1 : w1.cell? ⟨w.heap.size + 1, 1, none⟩ = some (.int .u64 y1) := cell_of_row _ _ 1 _ _ (0, 0) HY1.out
    have d2 : w1.cell? ⟨w.heap.size + 1, 2, none⟩ = some (.int .u64 y2) := cell_of_row _ _ 2 _ _ (0, 0) HY1.out
    have d3 : w1.cell? ⟨w.heap.size + 1, 3, none⟩ = some (.int .u64 y3) := cell_of_row _ _ 3 _ _ (0, 0) HY1.out
    have d4 : w1.cell? ⟨w.heap.size + 1, 4, none⟩ = some (.string y4) := cell_of_row _ _ 4 _ _ (0, 0) HY1.out
    have d5 : w1.cell? ⟨w.heap.size + 1, 5, none⟩ = some (.string y5) := cell_of_row _ _ 5 _ _ (0, 0) HY1.out
    have d6 : w1.cell? ⟨w.heap.size + 1, 6, none⟩ = some (.int .i64 y6) := cell_of_row _ _ 6 _ _ (0, 0) HY1.out
    have d7 : w1.cell? ⟨w.heap.size + 1, 7, none⟩ = some (.int .i64 y7) := cell_of_row _ _ 7 _ _ (0, 0) HY1.out
    have d8 : w1.cell? ⟨w.heap.size + 1, 8, none⟩ = some (.bool y8) := cell_of_row _ _ 8 _ _ (0, 0) HY1.out
    have d9 : w1.cell? ⟨w.heap.size + 1, 9, none⟩ = some (.slice yA m yc) := cell_of_row _ _ 9 _ _ (0, 0) HY1.out
    clear hb HX0 HY0
    go_wp2_with fail
    refine (HFX.out w1 HB1.out).mono ?_
    rintro e w2 ⟨rfl, hb⟩
    have HX2 := Lib.hid ((hb.block _ (in_heap HX1.out)).trans HX1.out)
    have HY2 := Lib.hid ((hb.block _ (in_heap HY1.out)).trans HY1.out)
    have HB2 := Lib.hid (HB1.out.trans (hb.mono HB1.out.size))
    clear b0 d0 b1 d1 b2 d2 b3 d3 b4 d4 b5 d5 b6 d6 b7 d7 b8 d8 b9 d9
    have b0 : w2.cell? ⟨w.heap.size, 0, none⟩ = some (.int .u64 x0) := cell_of_row _ _ 0 _ _ (0, 0) HX2.out
    have b1 : w2.cell? ⟨w.heap.size, 1, none⟩ = some (.int .u64 x1) := cell_of_row _ _ 1 _ _ (0, 0) HX2.out
    have b2 : w2.cell? ⟨w.heap.size, 2, none⟩ = some (.int .u64 x2) := cell_of_row _ _ 2 _ _ (0, 0) HX2.out
    have b3 : w2.cell? ⟨w.heap.size, 3, none⟩ = some (.int .u64 x3) := cell_of_row _ _ 3 _ _ (0, 0) HX2.out
    have b4 : w2.cell? ⟨w.heap.size, 4, none⟩ = some (.string x4) := cell_of_row _ _ 4 _ _ (0, 0) HX2.out
    have b5 : w2.cell? ⟨w.heap.size, 5, none⟩ = some (.string x5) := cell_of_row _ _ 5 _ _ (0, 0) HX2.out
    have b6 : w2.cell? ⟨w.heap.size, 6, none⟩ = some (.int .i64 x6) := cell_of_row _ _ 6 _ _ (0, 0) HX2.out
    have b7 : w2.cell? ⟨w.heap.size, 7, none⟩ = some (.int .i64 x7) := cell_of_row _ _ 7 _ _ (0, 0) HX2.out
    have b8 : w2.cell? ⟨w.heap.size, 8, none⟩ = some (.bool x8) := cell_of_row _ _ 8 _ _ (0, 0) HX2.out
    have b9 : w2.cell? ⟨w.heap.size, 9, none⟩ = some (.slice xA k xc) := cell_of_row _ _ 9 _ _ (0, 0) HX2.out
    have d0 : w2.cell? ⟨w.heap.size + 1, 0, none⟩ = some (.int .u64 y0) := cell_of_row _ _ 0 _ _ (0, 0) HY2.out
    have d1 : w2.cell? ⟨w.heap.size + 1, 1, none⟩ = some (.int .u64 y1) := cell_of_row _ _ 1 _ _ (0, 0) HY2.out
    have d2 : w2.cell? ⟨w.heap.size + 1, 2, none⟩ = some (.int .u64 y2) := cell_of_row _ _ 2 _ _ (0, 0) HY2.out
    have d3 : w2.cell? ⟨w.heap.size + 1, 3, none⟩ = some (.int .u64 y3) := cell_of_row _ _ 3 _ _ (0, 0) HY2.out
    have d4 : w2.cell? ⟨w.heap.size + 1, 4, none⟩ = some (.string y4) := cell_of_row _ _ 4 _ _ (0, 0) HY2.out
    have d5 : w2.cell? ⟨w.heap.size + 1, 5, none⟩ = some (.string y5) := cell_of_row _ _ 5 _ _ (0, 0) HY2.out
    have d6 : w2.cell? ⟨w.heap.size + 1, 6, none⟩ = some (.int .i64 y6) := cell_of_row _ _ 6 _ _ (0, 0) HY2.out
    have d7 : w2.cell? ⟨w.heap.size + 1, 7, none⟩ = some (.int .i64 y7) := cell_of_row _ _ 7 _ _ (0, 0) HY2.out
    have d8 : w2.cell? ⟨w.heap.size + 1, 8, none⟩ = some (.bool y8) := cell_of_row _ _ 8 _ _ (0, 0) HY2.out
    have d9 : w2.cell? ⟨w.heap.size + 1, 9, none⟩ = some (.slice yA m yc) := cell_of_row _ _ 9 _ _ (0, 0) HY2.out
    clear hb HX1 HY1
    go_wp2_with fail
    refine (HFY.out w2 HB2.out).mono ?_
    rintro e w3 ⟨rfl, hb⟩
    have HX3 := Lib.hid ((hb.block _ (in_heap HX2.out)).trans HX2.out)
    have HY3 := Lib.hid ((hb.block _ (in_heap HY2.out)).trans HY2.out)
    have HB3 := Lib.hid (HB2.out.trans (hb.mono HB2.out.size))
    clear b0 d0 b1 d1 b2 d2 b3 d3 b4 d4 b5 d5 b6 d6 b7 d7 b8 d8 b9 d9
    have b0 : w3.cell? ⟨w.heap.size, 0, none⟩ = some (.int .u64 x0) := cell_of_row _ _ 0 _ _ (0, 0) HX3.out
    have b1 : w3.cell? ⟨w.heap.size, 1, none⟩ = some (.int .u64 x1) := cell_of_row _ _ 1 _ _ (0, 0) HX3.out
    have b2 : w3.cell? ⟨w.heap.size, 2, none⟩ = some (.int .u64 x2) := cell_of_row _ _ 2 _ _ (0, 0) HX3.out
    have b3 : w3.cell? ⟨w.heap.size, 3, none⟩ = some (.int .u64 x3) := cell_of_row _ _ 3 _ _ (0, 0) HX3.out
    have b4 : w3.cell? ⟨w.heap.size, 4, none⟩ = some (.string x4) := cell_of_row _ _ 4 _ _ (0, 0) HX3.out
    have b5 : w3.cell? ⟨w.heap.size, 5, none⟩ = some (.string x5) := cell_of_row _ _ 5 _ _ (0, 0) HX3.out
    have b6 : w3.cell? ⟨w.heap.size, 6, none⟩ = some (.int .i64 x6) := cell_of_row _ _ 6 _ _ (0, 0) HX3.out
    have b7 : w3.cell? ⟨w.heap.size, 7, none⟩ = some (.int .i64 x7) := cell_of_row _ _ 7 _ _ (0, 0) HX3.out
    have b8 : w3.cell? ⟨w.heap.size, 8, none⟩ = some (.bool x8) := cell_of_row _ _ 8 _ _ (0, 0) HX3.out
    have b9 : w3.cell? ⟨w.heap.size, 9, none⟩ = some (.slice xA k xc) := cell_of_row _ _ 9 _ _ (0, 0) HX3.out
    have d0 : w3.cell? ⟨w.heap.size + 1, 0, none⟩ = some (.int .u64 y0) := cell_of_row _ _ 0 _ _ (0, 0) HY3.out
    have d1 : w3.cell? ⟨w.heap.size + 1, 1, none⟩ = some (.int .u64 y1) := cell_of_row _ _ 1 _ _ (0, 0) HY3.out
    have d2 : w3.cell? ⟨w.heap.size + 1, 2, none⟩ = some (.int .u64 y2) := cell_of_row _ _ 2 _ _ (0, 0) HY3.out
    have d3 : w3.cell? ⟨w.heap.size + 1, 3, none⟩ = some (.int .u64 y3) := cell_of_row _ _ 3 _ _ (0, 0) HY3.out
    have d4 : w3.cell? ⟨w.heap.size + 1, 4, none⟩ = some (.string y4) := cell_of_row _ _ 4 _ _ (0, 0) HY3.out
    have d5 : w3.cell? ⟨w.heap.size + 1, 5, none⟩ = some (.string y5) := cell_of_row _ _ 5 _ _ (0, 0) HY3.out
    have d6 : w3.cell? ⟨w.heap.size + 1, 6, none⟩ = some (.int .i64 y6) := cell_of_row _ _ 6 _ _ (0, 0) HY3.out
    have d7 : w3.cell? ⟨w.heap.size + 1, 7, none⟩ = some (.int .i64 y7) := cell_of_row _ _ 7 _ _ (0, 0) HY3.out
    have d8 : w3.cell? ⟨w.heap.size + 1, 8, none⟩ = some (.bool y8) := cell_of_row _ _ 8 _ _ (0, 0) HY3.out
    have d9 : w3.cell? ⟨w.heap.size + 1, 9, none⟩ = some (.slice yA m yc) := cell_of_row _ _ 9 _ _ (0, 0) HY3.out
    clear hb HX2 HY2
    go_wp2_with fail
    go_ret
    exact ⟨rfl, HB3.out⟩
  · rw [hr] at HFX
    rw [hq] at HFY
    have d1 : decide (500 < n) = true := decide_eq_true hl
    have d2 : decide ((500 : Int) < (n : Int)) = true := decide_eq_true (by omega)
    clear hr hq hl
    go_enter Try.func4, Try.ntmps4
    go_wp2_with fail
    refine (alive3_calls _).mono ?_
    rintro e w1 ⟨rfl, hb⟩
    have HX1 := Lib.hid ((hb.block _ (in_heap HX0.out)).trans HX0.out)
    have HY1 := Lib.hid ((hb.block _ (in_heap HY0.out)).trans HY0.out)
    have HB1 := Lib.hid (HB0.out.trans (hb.mono HB0.out.size))
    
    have b0 : w1.cell? ⟨w.heap.size, 0, none⟩ = some (.int .u64 x0) := cell_of_row _ _ 0 _ _ (0, 0) HX1.out
    have b1 : w1.cell? ⟨w.heap.size, 1, none⟩ = some (.int .u64 x1) := cell_of_row _ _ 1 _ _ (0, 0) HX1.out
    have b2 : w1.cell? ⟨w.heap.size, 2, none⟩ = some (.int .u64 x2) := cell_of_row _ _ 2 _ _ (0, 0) HX1.out
    have b3 : w1.cell? ⟨w.heap.size, 3, none⟩ = some (.int .u64 x3) := cell_of_row _ _ 3 _ _ (0, 0) HX1.out
    have b4 : w1.cell? ⟨w.heap.size, 4, none⟩ = some (.string x4) := cell_of_row _ _ 4 _ _ (0, 0) HX1.out
    have b5 : w1.cell? ⟨w.heap.size, 5, none⟩ = some (.string x5) := cell_of_row _ _ 5 _ _ (0, 0) HX1.out
    have b6 : w1.cell? ⟨w.heap.size, 6, none⟩ = some (.int .i64 x6) := cell_of_row _ _ 6 _ _ (0, 0) HX1.out
    have b7 : w1.cell? ⟨w.heap.size, 7, none⟩ = some (.int .i64 x7) := cell_of_row _ _ 7 _ _ (0, 0) HX1.out
    have b8 : w1.cell? ⟨w.heap.size, 8, none⟩ = some (.bool x8) := cell_of_row _ _ 8 _ _ (0, 0) HX1.out
    have b9 : w1.cell? ⟨w.heap.size, 9, none⟩ = some (.slice xA k xc) := cell_of_row _ _ 9 _ _ (0, 0) HX1.out
    have d0 : w1.cell? ⟨w.heap.size + 1, 0, none⟩ = some (.int .u64 y0) := cell_of_row _ _ 0 _ _ (0, 0) HY1.out
    have d1 : w1.cell? ⟨w.heap.size + 1, 1, none⟩ = some (.int .u64 y1) := cell_of_row _ _ 1 _ _ (0, 0) HY1.out
    have d2 : w1.cell? ⟨w.heap.size + 1, 2, none⟩ = some (.int .u64 y2) := cell_of_row _ _ 2 _ _ (0, 0) HY1.out
    have d3 : w1.cell? ⟨w.heap.size + 1, 3, none⟩ = some (.int .u64 y3) := cell_of_row _ _ 3 _ _ (0, 0) HY1.out
    have d4 : w1.cell? ⟨w.heap.size + 1, 4, none⟩ = some (.string y4) := cell_of_row _ _ 4 _ _ (0, 0) HY1.out
    have d5 : w1.cell? ⟨w.heap.size + 1, 5, none⟩ = some (.string y5) := cell_of_row _ _ 5 _ _ (0, 0) HY1.out
    have d6 : w1.cell? ⟨w.heap.size + 1, 6, none⟩ = some (.int .i64 y6) := cell_of_row _ _ 6 _ _ (0, 0) HY1.out
    have d7 : w1.cell? ⟨w.heap.size + 1, 7, none⟩ = some (.int .i64 y7) := cell_of_row _ _ 7 _ _ (0, 0) HY1.out
    have d8 : w1.cell? ⟨w.heap.size + 1, 8, none⟩ = some (.bool y8) := cell_of_row _ _ 8 _ _ (0, 0) HY1.out
    have d9 : w1.cell? ⟨w.heap.size + 1, 9, none⟩ = some (.slice yA m yc) := cell_of_row _ _ 9 _ _ (0, 0) HY1.out
    clear hb HX0 HY0
    go_wp2_with fail
    refine (HFX.out w1 HB1.out).mono ?_
    rintro e w2 ⟨rfl, hb⟩
    have HX2 := Lib.hid ((hb.block _ (in_heap HX1.out)).trans HX1.out)
    have HY2 := Lib.hid ((hb.block _ (in_heap HY1.out)).trans HY1.out)
    have HB2 := Lib.hid (HB1.out.trans (hb.mono HB1.out.size))
    clear b0 d0 b1 d1 b2 d2 b3 d3 b4 d4 b5 d5 b6 d6 b7 d7 b8 d8 b9 d9
    have b0 : w2.cell? ⟨w.heap.size, 0, none⟩ = some (.int .u64 x0) := cell_of_row _ _ 0 _ _ (0, 0) HX2.out
    have b1 : w2.cell? ⟨w.heap.size, 1, none⟩ = some (.int .u64 x1) := cell_of_row _ _ 1 _ _ (0, 0) HX2.out
    have b2 : w2.cell? ⟨w.heap.size, 2, none⟩ = some (.int .u64 x2) := cell_of_row _ _ 2 _ _ (0, 0) HX2.out
    have b3 : w2.cell? ⟨w.heap.size, 3, none⟩ = some (.int .u64 x3) := cell_of_row _ _ 3 _ _ (0, 0) HX2.out
    have b4 : w2.cell? ⟨w.heap.size, 4, none⟩ = some (.string x4) := cell_of_row _ _ 4 _ _ (0, 0) HX2.out
    have b5 : w2.cell? ⟨w.heap.size, 5, none⟩ = some (.string x5) := cell_of_row _ _ 5 _ _ (0, 0) HX2.out
    have b6 : w2.cell? ⟨w.heap.size, 6, none⟩ = some (.int .i64 x6) := cell_of_row _ _ 6 _ _ (0, 0) HX2.out
    have b7 : w2.cell? ⟨w.heap.size, 7, none⟩ = some (.int .i64 x7) := cell_of_row _ _ 7 _ _ (0, 0) HX2.out
    have b8 : w2.cell? ⟨w.heap.size, 8, none⟩ = some (.bool x8) := cell_of_row _ _ 8 _ _ (0, 0) HX2.out
    have b9 : w2.cell? ⟨w.heap.size, 9, none⟩ = some (.slice xA k xc) := cell_of_row _ _ 9 _ _ (0, 0) HX2.out
    have d0 : w2.cell? ⟨w.heap.size + 1, 0, none⟩ = some (.int .u64 y0) := cell_of_row _ _ 0 _ _ (0, 0) HY2.out
    have d1 : w2.cell? ⟨w.heap.size + 1, 1, none⟩ = some (.int .u64 y1) := cell_of_row _ _ 1 _ _ (0, 0) HY2.out
    have d2 : w2.cell? ⟨w.heap.size + 1, 2, none⟩ = some (.int .u64 y2) := cell_of_row _ _ 2 _ _ (0, 0) HY2.out
    have d3 : w2.cell? ⟨w.heap.size + 1, 3, none⟩ = some (.int .u64 y3) := cell_of_row _ _ 3 _ _ (0, 0) HY2.out
    have d4 : w2.cell? ⟨w.heap.size + 1, 4, none⟩ = some (.string y4) := cell_of_row _ _ 4 _ _ (0, 0) HY2.out
    have d5 : w2.cell? ⟨w.heap.size + 1, 5, none⟩ = some (.string y5) := cell_of_row _ _ 5 _ _ (0, 0) HY2.out
    have d6 : w2.cell? ⟨w.heap.size + 1, 6, none⟩ = some (.int .i64 y6) := cell_of_row _ _ 6 _ _ (0, 0) HY2.out
    have d7 : w2.cell? ⟨w.heap.size + 1, 7, none⟩ = some (.int .i64 y7) := cell_of_row _ _ 7 _ _ (0, 0) HY2.out
    have d8 : w2.cell? ⟨w.heap.size + 1, 8, none⟩ = some (.bool y8) := cell_of_row _ _ 8 _ _ (0, 0) HY2.out
    have d9 : w2.cell? ⟨w.heap.size + 1, 9, none⟩ = some (.slice yA m yc) := cell_of_row _ _ 9 _ _ (0, 0) HY2.out
    clear hb HX1 HY1
    go_wp2_with fail
    refine (HFY.out w2 HB2.out).mono ?_
    rintro e w3 ⟨rfl, hb⟩
    have HX3 := Lib.hid ((hb.block _ (in_heap HX2.out)).trans HX2.out)
    have HY3 := Lib.hid ((hb.block _ (in_heap HY2.out)).trans HY2.out)
    have HB3 := Lib.hid (HB2.out.trans (hb.mono HB2.out.size))
    clear b0 d0 b1 d1 b2 d2 b3 d3 b4 d4 b5 d5 b6 d6 b7 d7 b8 d8 b9 d9
    have b0 : w3.cell? ⟨w.heap.size, 0, none⟩ = some (.int .u64 x0) := cell_of_row _ _ 0 _ _ (0, 0) HX3.out
    have b1 : w3.cell? ⟨w.heap.size, 1, none⟩ = some (.int .u64 x1) := cell_of_row _ _ 1 _ _ (0, 0) HX3.out
    have b2 : w3.cell? ⟨w.heap.size, 2, none⟩ = some (.int .u64 x2) := cell_of_row _ _ 2 _ _ (0, 0) HX3.out
    have b3 : w3.cell? ⟨w.heap.size, 3, none⟩ = some (.int .u64 x3) := cell_of_row _ _ 3 _ _ (0, 0) HX3.out
    have b4 : w3.cell? ⟨w.heap.size, 4, none⟩ = some (.string x4) := cell_of_row _ _ 4 _ _ (0, 0) HX3.out
    have b5 : w3.cell? ⟨w.heap.size, 5, none⟩ = some (.string x5) := cell_of_row _ _ 5 _ _ (0, 0) HX3.out
    have b6 : w3.cell? ⟨w.heap.size, 6, none⟩ = some (.int .i64 x6) := cell_of_row _ _ 6 _ _ (0, 0) HX3.out
    have b7 : w3.cell? ⟨w.heap.size, 7, none⟩ = some (.int .i64 x7) := cell_of_row _ _ 7 _ _ (0, 0) HX3.out
    have b8 : w3.cell? ⟨w.heap.size, 8, none⟩ = some (.bool x8) := cell_of_row _ _ 8 _ _ (0, 0) HX3.out
    have b9 : w3.cell? ⟨w.heap.size, 9, none⟩ = some (.slice xA k xc) := cell_of_row _ _ 9 _ _ (0, 0) HX3.out
    have d0 : w3.cell? ⟨w.heap.size + 1, 0, none⟩ = some (.int .u64 y0) := cell_of_row _ _ 0 _ _ (0, 0) HY3.out
    have d1 : w3.cell? ⟨w.heap.size + 1, 1, none⟩ = some (.int .u64 y1) := cell_of_row _ _ 1 _ _ (0, 0) HY3.out
    have d2 : w3.cell? ⟨w.heap.size + 1, 2, none⟩ = some (.int .u64 y2) := cell_of_row _ _ 2 _ _ (0, 0) HY3.out
    have d3 : w3.cell? ⟨w.heap.size + 1, 3, none⟩ = some (.int .u64 y3) := cell_of_row _ _ 3 _ _ (0, 0) HY3.out
    have d4 : w3.cell? ⟨w.heap.size + 1, 4, none⟩ = some (.string y4) := cell_of_row _ _ 4 _ _ (0, 0) HY3.out
    have d5 : w3.cell? ⟨w.heap.size + 1, 5, none⟩ = some (.string y5) := cell_of_row _ _ 5 _ _ (0, 0) HY3.out
    have d6 : w3.cell? ⟨w.heap.size + 1, 6, none⟩ = some (.int .i64 y6) := cell_of_row _ _ 6 _ _ (0, 0) HY3.out
    have d7 : w3.cell? ⟨w.heap.size + 1, 7, none⟩ = some (.int .i64 y7) := cell_of_row _ _ 7 _ _ (0, 0) HY3.out
    have d8 : w3.cell? ⟨w.heap.size + 1, 8, none⟩ = some (.bool y8) := cell_of_row _ _ 8 _ _ (0, 0) HY3.out
    have d9 : w3.cell? ⟨w.heap.size + 1, 9, none⟩ = some (.slice yA m yc) := cell_of_row _ _ 9 _ _ (0, 0) HY3.out
    clear hb HX2 HY2
    go_wp2_with fail
    go_ret
    exact ⟨rfl, HB3.out⟩

set_option maxHeartbeats 32000000 in
theorem tell3_in (x0 x1 x2 x3 : Int) (x4 x5 : ByteArray) (x6 x7 : Int) (x8 : Bool) (ats : List (ByteArray × ByteArray)) (xA : Option Addr) (xc k : Nat) (y0 y1 y2 y3 : Int) (y4 y5 : ByteArray) (y6 y7 : Int) (y8 : Bool) (bts : List (ByteArray × ByteArray)) (yA : Option Addr) (yc m : Nat) (bA : Option Addr) (l : List UInt8) (n c : Nat) (w : World) (hk : k = ats.length) (hm : m = bts.length) (hx : RdL w w.heap.size ⟨⟨x0, x1, x2, x3, x4, x5, x6, x7, x8, ats⟩, xA, xc⟩) (hy : RdL w w.heap.size ⟨⟨y0, y1, y2, y3, y4, y5, y6, y7, y8, bts⟩, yA, yc⟩) (hn : n = l.length) (hb0 : Rd w w.heap.size bA (l.map B8)) (hnc : n ≤ c) (hcm : c ≤ maxLen) (hn5 : n ≤ 500) (hr : few ⟨x0, x1, x2, x3, x4, x5, x6, x7, x8, ats⟩ = true) (hq : few ⟨y0, y1, y2, y3, y4, y5, y6, y7, y8, bts⟩ = true) :
    Calls Try.prog 4 #[.agg #[.int .u64 x0, .int .u64 x1, .int .u64 x2, .int .u64 x3, .string x4, .string x5, .int .i64 x6, .int .i64 x7, .bool x8, .slice xA k xc], .agg #[.int .u64 y0, .int .u64 y1, .int .u64 y2, .int .u64 y3, .string y4, .string y5, .int .i64 y6, .int .i64 y7, .bool y8, .slice yA m yc], .slice bA n c] w fun e w' => e = .returned (.bool true) ∧ Below w.heap.size w w' := by
  have HX0 := Lib.hid (two_cells w (.cells #[.int .u64 x0, .int .u64 x1, .int .u64 x2, .int .u64 x3, .string x4, .string x5, .int .i64 x6, .int .i64 x7, .bool x8, .slice xA k xc] 36) (.cells #[.int .u64 y0, .int .u64 y1, .int .u64 y2, .int .u64 y3, .string y4, .string y5, .int .i64 y6, .int .i64 y7, .bool y8, .slice yA m yc] 36)).1
  have HY0 := Lib.hid (two_cells w (.cells #[.int .u64 x0, .int .u64 x1, .int .u64 x2, .int .u64 x3, .string x4, .string x5, .int .i64 x6, .int .i64 x7, .bool x8, .slice xA k xc] 36) (.cells #[.int .u64 y0, .int .u64 y1, .int .u64 y2, .int .u64 y3, .string y4, .string y5, .int .i64 y6, .int .i64 y7, .bool y8, .slice yA m yc] 36)).2
  have HB0 := Lib.hid (two_below w (.cells #[.int .u64 x0, .int .u64 x1, .int .u64 x2, .int .u64 x3, .string x4, .string x5, .int .i64 x6, .int .i64 x7, .bool x8, .slice xA k xc] 36) (.cells #[.int .u64 y0, .int .u64 y1, .int .u64 y2, .int .u64 y3, .string y4, .string y5, .int .i64 y6, .int .i64 y7, .bool y8, .slice yA m yc] 36))
  have HFX : Hid (∀ W, Below w.heap.size w W → Calls Try.prog 25 #[.agg #[.int .u64 x0, .int .u64 x1, .int .u64 x2, .int .u64 x3, .string x4, .string x5, .int .i64 x6, .int .i64 x7, .bool x8, .slice xA k xc]] W fun e w2 => e = .returned (.bool (few ⟨x0, x1, x2, x3, x4, x5, x6, x7, x8, ats⟩)) ∧ Below W.heap.size W w2) := Lib.hid (fun W hW => by subst hk; exact few_any ⟨⟨x0, x1, x2, x3, x4, x5, x6, x7, x8, ats⟩, xA, xc⟩ w.heap.size W (hx.below hW) hW.size)
  have HFY : Hid (∀ W, Below w.heap.size w W → Calls Try.prog 25 #[.agg #[.int .u64 y0, .int .u64 y1, .int .u64 y2, .int .u64 y3, .string y4, .string y5, .int .i64 y6, .int .i64 y7, .bool y8, .slice yA m yc]] W fun e w2 => e = .returned (.bool (few ⟨y0, y1, y2, y3, y4, y5, y6, y7, y8, bts⟩)) ∧ Below W.heap.size W w2) := Lib.hid (fun W hW => by subst hm; exact few_any ⟨⟨y0, y1, y2, y3, y4, y5, y6, y7, y8, bts⟩, yA, yc⟩ w.heap.size W (hy.below hW) hW.size)
  rw [hr] at HFX
  rw [hq] at HFY
  have hkm : k ≤ maxLen := by have h1 := hx.cap.1; have h2 := hx.cap.2; simp only at h1 h2; omega
  have hmm : m ≤ maxLen := by have h1 := hy.cap.1; have h2 := hy.cap.2; simp only at h1 h2; omega
  obtain ⟨sm, hsm⟩ : ∃ sm : Bool, (sm = true ∧ (⟨x0, x1, x2, x3, x4, x5, x6, x7, x8, ats⟩ : Sp) = ⟨y0, y1, y2, y3, y4, y5, y6, y7, y8, bts⟩) ∨ (sm = false ∧ ¬ (⟨x0, x1, x2, x3, x4, x5, x6, x7, x8, ats⟩ : Sp) = ⟨y0, y1, y2, y3, y4, y5, y6, y7, y8, bts⟩) := by
    by_cases h : (⟨x0, x1, x2, x3, x4, x5, x6, x7, x8, ats⟩ : Sp) = ⟨y0, y1, y2, y3, y4, y5, y6, y7, y8, bts⟩
    · exact ⟨true, .inl ⟨rfl, h⟩⟩
    · exact ⟨false, .inr ⟨rfl, h⟩⟩
  obtain ⟨ri, hri⟩ : ∃ ri, ri = right ⟨x0, x1, x2, x3, x4, x5, x6, x7, x8, ats⟩ := ⟨_, rfl⟩
  obtain ⟨L, hL⟩ : ∃ L, L = if right ⟨x0, x1, x2, x3, x4, x5, x6, x7, x8, ats⟩ then enc ⟨x0, x1, x2, x3, x4, x5, x6, x7, x8, ats⟩ else [] := ⟨_, rfl⟩
  have KRI : Hid (∀ W, Below w.heap.size w W → Calls Try.prog 28 #[.agg #[.int .u64 x0, .int .u64 x1, .int .u64 x2, .int .u64 x3, .string x4, .string x5, .int .i64 x6, .int .i64 x7, .bool x8, .slice xA k xc]] W fun e w' => e = .returned (.bool ri) ∧ Below W.heap.size W w') := Lib.hid (fun W hW => by rw [hri]; exact right_lit x0 x1 x2 x3 x4 x5 x6 x7 x8 ats xA xc k w.heap.size W hk (hx.below hW) hW.size)
  have KRD : Hid (∀ W, Below w.heap.size w W → Calls Try.prog 29 #[.agg #[.int .u64 x0, .int .u64 x1, .int .u64 x2, .int .u64 x3, .string x4, .string x5, .int .i64 x6, .int .i64 x7, .bool x8, .slice xA k xc]] W fun e w' => e = .returned (.bool ri) ∧ Below W.heap.size W w') := Lib.hid (fun W hW => by rw [hri]; exact rightspan_lit x0 x1 x2 x3 x4 x5 x6 x7 x8 ats xA xc k w.heap.size W hk (hx.below hW) hW.size)
  have KBYT : Hid (∀ W, Below w.heap.size w W → Calls Try.prog 30 #[.agg #[.int .u64 x0, .int .u64 x1, .int .u64 x2, .int .u64 x3, .string x4, .string x5, .int .i64 x6, .int .i64 x7, .bool x8, .slice xA k xc]] W (BytesOf L W)) := Lib.hid (fun W hW => by rw [hL]; exact bytes_lit x0 x1 x2 x3 x4 x5 x6 x7 x8 ats xA xc k w.heap.size W hk (hx.below hW) hW.size)
  have KBYD : Hid (∀ W, Below w.heap.size w W → Calls Try.prog 31 #[.agg #[.int .u64 x0, .int .u64 x1, .int .u64 x2, .int .u64 x3, .string x4, .string x5, .int .i64 x6, .int .i64 x7, .bool x8, .slice xA k xc]] W (BytesOf L W)) := Lib.hid (fun W hW => by rw [hL]; exact spanbytes_any x0 x1 x2 x3 x4 x5 x6 x7 x8 ats xA xc k w.heap.size W hk (hx.below hW) hW.size)
  have KSM : Hid (∀ W, Below w.heap.size w W → Calls Try.prog 34 #[.agg #[.int .u64 x0, .int .u64 x1, .int .u64 x2, .int .u64 x3, .string x4, .string x5, .int .i64 x6, .int .i64 x7, .bool x8, .slice xA k xc], .agg #[.int .u64 y0, .int .u64 y1, .int .u64 y2, .int .u64 y3, .string y4, .string y5, .int .i64 y6, .int .i64 y7, .bool y8, .slice yA m yc]] W fun e w' => e = .returned (.bool sm) ∧ Below W.heap.size W w') := Lib.hid (fun W hW => by
    rcases hsm with ⟨rfl, hs⟩ | ⟨rfl, hs⟩
    · simp only [Sp.mk.injEq] at hs
      obtain ⟨rfl, rfl, rfl, rfl, rfl, rfl, rfl, rfl, rfl, rfl⟩ := hs
      obtain rfl : m = k := by rw [hm, hk]
      exact same_eq x0 x1 x2 x3 x4 x5 x6 x7 x8 ats m xA yA xc yc w.heap.size W hk (hx.rd.below hW) (hy.rd.below hW) hW.size hkm
    · exact same_ne x0 x1 x2 x3 y0 y1 y2 y3 x4 x5 y4 y5 x6 x7 y6 y7 x8 y8 ats bts k m xA yA xc yc w.heap.size W hk hm (hx.rd.below hW) (hy.rd.below hW) hW.size hkm hmm hs)
  have KSD : Hid (∀ W, Below w.heap.size w W → Calls Try.prog 32 #[.agg #[.int .u64 x0, .int .u64 x1, .int .u64 x2, .int .u64 x3, .string x4, .string x5, .int .i64 x6, .int .i64 x7, .bool x8, .slice xA k xc], .agg #[.int .u64 y0, .int .u64 y1, .int .u64 y2, .int .u64 y3, .string y4, .string y5, .int .i64 y6, .int .i64 y7, .bool y8, .slice yA m yc]] W fun e w' => e = .returned (.bool sm) ∧ Below W.heap.size W w') := Lib.hid (fun W hW => by
    rcases hsm with ⟨rfl, hs⟩ | ⟨rfl, hs⟩
    · simp only [Sp.mk.injEq] at hs
      obtain ⟨rfl, rfl, rfl, rfl, rfl, rfl, rfl, rfl, rfl, rfl⟩ := hs
      obtain rfl : m = k := by rw [hm, hk]
      exact samespan_eq x0 x1 x2 x3 x4 x5 x6 x7 x8 ats m xA yA xc yc w.heap.size W hk (hx.rd.below hW) (hy.rd.below hW) hW.size hkm
    · exact samespan_ne x0 x1 x2 x3 y0 y1 y2 y3 x4 x5 y4 y5 x6 x7 y6 y7 x8 y8 ats bts k m xA yA xc yc w.heap.size W hk hm (hx.rd.below hW) (hy.rd.below hW) hW.size hkm hmm hs)
  have KSS : Hid (∀ W, Below w.heap.size w W → Calls Try.prog 34 #[.agg #[.int .u64 x0, .int .u64 x1, .int .u64 x2, .int .u64 x3, .string x4, .string x5, .int .i64 x6, .int .i64 x7, .bool x8, .slice xA k xc], .agg #[.int .u64 x0, .int .u64 x1, .int .u64 x2, .int .u64 x3, .string x4, .string x5, .int .i64 x6, .int .i64 x7, .bool x8, .slice xA k xc]] W fun e w' => e = .returned (.bool true) ∧ Below W.heap.size W w') := Lib.hid (fun W hW => same_eq x0 x1 x2 x3 x4 x5 x6 x7 x8 ats k xA xA xc xc w.heap.size W hk (hx.rd.below hW) (hx.rd.below hW) hW.size hkm)
  obtain ⟨⟨z0, z1, z2, z3, z4, z5, z6, z7, z8, zts⟩, I, er, hRC, hRD⟩ := reads_both l
  obtain ⟨j, hj⟩ : ∃ j, j = zts.length := ⟨_, rfl⟩
  have KJ := Lib.hid hj
  have KC := Lib.hid hRC
  have KD := Lib.hid hRD
  have HRD := Lib.hid hb0
  have HN := Lib.hid hn
  have HE := Lib.hid (And.intro hn5 (And.intro hnc hcm))
  have d1 : decide (500 < n) = false := decide_eq_false (by omega)
  have d2 : decide ((500 : Int) < (n : Int)) = false := decide_eq_false (by omega)
  clear hr hq hx hy hk hm hn hb0 hnc hcm hn5 hkm hmm hsm hri hL hRC hRD hj
  go_enter Try.func4, Try.ntmps4
  go_wp2_with fail
  refine (alive3_calls _).mono ?_
  rintro e w1 ⟨rfl, hb⟩
  have HX1 := Lib.hid ((hb.block _ (in_heap HX0.out)).trans HX0.out)
  have HY1 := Lib.hid ((hb.block _ (in_heap HY0.out)).trans HY0.out)
  have HB1 := Lib.hid (HB0.out.trans (hb.mono HB0.out.size))
  
  have b0 : w1.cell? ⟨w.heap.size, 0, none⟩ = some (.int .u64 x0) := cell_of_row _ _ 0 _ _ (0, 0) HX1.out
  have b1 : w1.cell? ⟨w.heap.size, 1, none⟩ = some (.int .u64 x1) := cell_of_row _ _ 1 _ _ (0, 0) HX1.out
  have b2 : w1.cell? ⟨w.heap.size, 2, none⟩ = some (.int .u64 x2) := cell_of_row _ _ 2 _ _ (0, 0) HX1.out
  have b3 : w1.cell? ⟨w.heap.size, 3, none⟩ = some (.int .u64 x3) := cell_of_row _ _ 3 _ _ (0, 0) HX1.out
  have b4 : w1.cell? ⟨w.heap.size, 4, none⟩ = some (.string x4) := cell_of_row _ _ 4 _ _ (0, 0) HX1.out
  have b5 : w1.cell? ⟨w.heap.size, 5, none⟩ = some (.string x5) := cell_of_row _ _ 5 _ _ (0, 0) HX1.out
  have b6 : w1.cell? ⟨w.heap.size, 6, none⟩ = some (.int .i64 x6) := cell_of_row _ _ 6 _ _ (0, 0) HX1.out
  have b7 : w1.cell? ⟨w.heap.size, 7, none⟩ = some (.int .i64 x7) := cell_of_row _ _ 7 _ _ (0, 0) HX1.out
  have b8 : w1.cell? ⟨w.heap.size, 8, none⟩ = some (.bool x8) := cell_of_row _ _ 8 _ _ (0, 0) HX1.out
  have b9 : w1.cell? ⟨w.heap.size, 9, none⟩ = some (.slice xA k xc) := cell_of_row _ _ 9 _ _ (0, 0) HX1.out
  have d0 : w1.cell? ⟨w.heap.size + 1, 0, none⟩ = some (.int .u64 y0) := cell_of_row _ _ 0 _ _ (0, 0) HY1.out
  have d1 : w1.cell? ⟨w.heap.size + 1, 1, none⟩ = some (.int .u64 y1) := cell_of_row _ _ 1 _ _ (0, 0) HY1.out
  have d2 : w1.cell? ⟨w.heap.size + 1, 2, none⟩ = some (.int .u64 y2) := cell_of_row _ _ 2 _ _ (0, 0) HY1.out
  have d3 : w1.cell? ⟨w.heap.size + 1, 3, none⟩ = some (.int .u64 y3) := cell_of_row _ _ 3 _ _ (0, 0) HY1.out
  have d4 : w1.cell? ⟨w.heap.size + 1, 4, none⟩ = some (.string y4) := cell_of_row _ _ 4 _ _ (0, 0) HY1.out
  have d5 : w1.cell? ⟨w.heap.size + 1, 5, none⟩ = some (.string y5) := cell_of_row _ _ 5 _ _ (0, 0) HY1.out
  have d6 : w1.cell? ⟨w.heap.size + 1, 6, none⟩ = some (.int .i64 y6) := cell_of_row _ _ 6 _ _ (0, 0) HY1.out
  have d7 : w1.cell? ⟨w.heap.size + 1, 7, none⟩ = some (.int .i64 y7) := cell_of_row _ _ 7 _ _ (0, 0) HY1.out
  have d8 : w1.cell? ⟨w.heap.size + 1, 8, none⟩ = some (.bool y8) := cell_of_row _ _ 8 _ _ (0, 0) HY1.out
  have d9 : w1.cell? ⟨w.heap.size + 1, 9, none⟩ = some (.slice yA m yc) := cell_of_row _ _ 9 _ _ (0, 0) HY1.out
  clear hb HX0 HY0
  go_wp2_with fail
  refine (HFX.out w1 HB1.out).mono ?_
  rintro e w2 ⟨rfl, hb⟩
  have HX2 := Lib.hid ((hb.block _ (in_heap HX1.out)).trans HX1.out)
  have HY2 := Lib.hid ((hb.block _ (in_heap HY1.out)).trans HY1.out)
  have HB2 := Lib.hid (HB1.out.trans (hb.mono HB1.out.size))
  clear b0 d0 b1 d1 b2 d2 b3 d3 b4 d4 b5 d5 b6 d6 b7 d7 b8 d8 b9 d9
  have b0 : w2.cell? ⟨w.heap.size, 0, none⟩ = some (.int .u64 x0) := cell_of_row _ _ 0 _ _ (0, 0) HX2.out
  have b1 : w2.cell? ⟨w.heap.size, 1, none⟩ = some (.int .u64 x1) := cell_of_row _ _ 1 _ _ (0, 0) HX2.out
  have b2 : w2.cell? ⟨w.heap.size, 2, none⟩ = some (.int .u64 x2) := cell_of_row _ _ 2 _ _ (0, 0) HX2.out
  have b3 : w2.cell? ⟨w.heap.size, 3, none⟩ = some (.int .u64 x3) := cell_of_row _ _ 3 _ _ (0, 0) HX2.out
  have b4 : w2.cell? ⟨w.heap.size, 4, none⟩ = some (.string x4) := cell_of_row _ _ 4 _ _ (0, 0) HX2.out
  have b5 : w2.cell? ⟨w.heap.size, 5, none⟩ = some (.string x5) := cell_of_row _ _ 5 _ _ (0, 0) HX2.out
  have b6 : w2.cell? ⟨w.heap.size, 6, none⟩ = some (.int .i64 x6) := cell_of_row _ _ 6 _ _ (0, 0) HX2.out
  have b7 : w2.cell? ⟨w.heap.size, 7, none⟩ = some (.int .i64 x7) := cell_of_row _ _ 7 _ _ (0, 0) HX2.out
  have b8 : w2.cell? ⟨w.heap.size, 8, none⟩ = some (.bool x8) := cell_of_row _ _ 8 _ _ (0, 0) HX2.out
  have b9 : w2.cell? ⟨w.heap.size, 9, none⟩ = some (.slice xA k xc) := cell_of_row _ _ 9 _ _ (0, 0) HX2.out
  have d0 : w2.cell? ⟨w.heap.size + 1, 0, none⟩ = some (.int .u64 y0) := cell_of_row _ _ 0 _ _ (0, 0) HY2.out
  have d1 : w2.cell? ⟨w.heap.size + 1, 1, none⟩ = some (.int .u64 y1) := cell_of_row _ _ 1 _ _ (0, 0) HY2.out
  have d2 : w2.cell? ⟨w.heap.size + 1, 2, none⟩ = some (.int .u64 y2) := cell_of_row _ _ 2 _ _ (0, 0) HY2.out
  have d3 : w2.cell? ⟨w.heap.size + 1, 3, none⟩ = some (.int .u64 y3) := cell_of_row _ _ 3 _ _ (0, 0) HY2.out
  have d4 : w2.cell? ⟨w.heap.size + 1, 4, none⟩ = some (.string y4) := cell_of_row _ _ 4 _ _ (0, 0) HY2.out
  have d5 : w2.cell? ⟨w.heap.size + 1, 5, none⟩ = some (.string y5) := cell_of_row _ _ 5 _ _ (0, 0) HY2.out
  have d6 : w2.cell? ⟨w.heap.size + 1, 6, none⟩ = some (.int .i64 y6) := cell_of_row _ _ 6 _ _ (0, 0) HY2.out
  have d7 : w2.cell? ⟨w.heap.size + 1, 7, none⟩ = some (.int .i64 y7) := cell_of_row _ _ 7 _ _ (0, 0) HY2.out
  have d8 : w2.cell? ⟨w.heap.size + 1, 8, none⟩ = some (.bool y8) := cell_of_row _ _ 8 _ _ (0, 0) HY2.out
  have d9 : w2.cell? ⟨w.heap.size + 1, 9, none⟩ = some (.slice yA m yc) := cell_of_row _ _ 9 _ _ (0, 0) HY2.out
  clear hb HX1 HY1
  go_wp2_with fail
  refine (HFY.out w2 HB2.out).mono ?_
  rintro e w3 ⟨rfl, hb⟩
  have HX3 := Lib.hid ((hb.block _ (in_heap HX2.out)).trans HX2.out)
  have HY3 := Lib.hid ((hb.block _ (in_heap HY2.out)).trans HY2.out)
  have HB3 := Lib.hid (HB2.out.trans (hb.mono HB2.out.size))
  clear b0 d0 b1 d1 b2 d2 b3 d3 b4 d4 b5 d5 b6 d6 b7 d7 b8 d8 b9 d9
  have b0 : w3.cell? ⟨w.heap.size, 0, none⟩ = some (.int .u64 x0) := cell_of_row _ _ 0 _ _ (0, 0) HX3.out
  have b1 : w3.cell? ⟨w.heap.size, 1, none⟩ = some (.int .u64 x1) := cell_of_row _ _ 1 _ _ (0, 0) HX3.out
  have b2 : w3.cell? ⟨w.heap.size, 2, none⟩ = some (.int .u64 x2) := cell_of_row _ _ 2 _ _ (0, 0) HX3.out
  have b3 : w3.cell? ⟨w.heap.size, 3, none⟩ = some (.int .u64 x3) := cell_of_row _ _ 3 _ _ (0, 0) HX3.out
  have b4 : w3.cell? ⟨w.heap.size, 4, none⟩ = some (.string x4) := cell_of_row _ _ 4 _ _ (0, 0) HX3.out
  have b5 : w3.cell? ⟨w.heap.size, 5, none⟩ = some (.string x5) := cell_of_row _ _ 5 _ _ (0, 0) HX3.out
  have b6 : w3.cell? ⟨w.heap.size, 6, none⟩ = some (.int .i64 x6) := cell_of_row _ _ 6 _ _ (0, 0) HX3.out
  have b7 : w3.cell? ⟨w.heap.size, 7, none⟩ = some (.int .i64 x7) := cell_of_row _ _ 7 _ _ (0, 0) HX3.out
  have b8 : w3.cell? ⟨w.heap.size, 8, none⟩ = some (.bool x8) := cell_of_row _ _ 8 _ _ (0, 0) HX3.out
  have b9 : w3.cell? ⟨w.heap.size, 9, none⟩ = some (.slice xA k xc) := cell_of_row _ _ 9 _ _ (0, 0) HX3.out
  have d0 : w3.cell? ⟨w.heap.size + 1, 0, none⟩ = some (.int .u64 y0) := cell_of_row _ _ 0 _ _ (0, 0) HY3.out
  have d1 : w3.cell? ⟨w.heap.size + 1, 1, none⟩ = some (.int .u64 y1) := cell_of_row _ _ 1 _ _ (0, 0) HY3.out
  have d2 : w3.cell? ⟨w.heap.size + 1, 2, none⟩ = some (.int .u64 y2) := cell_of_row _ _ 2 _ _ (0, 0) HY3.out
  have d3 : w3.cell? ⟨w.heap.size + 1, 3, none⟩ = some (.int .u64 y3) := cell_of_row _ _ 3 _ _ (0, 0) HY3.out
  have d4 : w3.cell? ⟨w.heap.size + 1, 4, none⟩ = some (.string y4) := cell_of_row _ _ 4 _ _ (0, 0) HY3.out
  have d5 : w3.cell? ⟨w.heap.size + 1, 5, none⟩ = some (.string y5) := cell_of_row _ _ 5 _ _ (0, 0) HY3.out
  have d6 : w3.cell? ⟨w.heap.size + 1, 6, none⟩ = some (.int .i64 y6) := cell_of_row _ _ 6 _ _ (0, 0) HY3.out
  have d7 : w3.cell? ⟨w.heap.size + 1, 7, none⟩ = some (.int .i64 y7) := cell_of_row _ _ 7 _ _ (0, 0) HY3.out
  have d8 : w3.cell? ⟨w.heap.size + 1, 8, none⟩ = some (.bool y8) := cell_of_row _ _ 8 _ _ (0, 0) HY3.out
  have d9 : w3.cell? ⟨w.heap.size + 1, 9, none⟩ = some (.slice yA m yc) := cell_of_row _ _ 9 _ _ (0, 0) HY3.out
  clear hb HX2 HY2
  clear HFX HFY d1 HB0 HB1 HB2
  have R3 : Hid (Rd w3 w.heap.size bA (l.map B8)) := Lib.hid (HRD.out.below HB3.out)
  have A1 := Lib.hid (fun ty => appB (ty := ty) (c := c) (own_nil w3 w3.heap.size) R3.out (by have := HE.out; have := HN.out; simp; omega) (Nat.le_refl _))
  rw [← HN.out] at A1
  go_wp2_with (at_builtin; (refine wpList_app rfl (.const (.slice none 0 0)) (.tmp 34) _ _ rfl rfl rfl (A1.out _) ?_); rintro v4 w4 ⟨ho4, hg4⟩; rw [List.nil_append, ← HN.out] at ho4; have HCP := Lib.hid (own_cap' ho4); obtain ⟨A4, c4, rfl, hc4, hr4⟩ := own_rd ho4; have HG4 := Lib.hid hg4.new; have R4 := Lib.hid hr4; clear ho4 hg4 hr4)
  have HX4 := Lib.hid ((HG4.out.block _ (in_heap HX3.out)).trans HX3.out)
  have HY4 := Lib.hid ((HG4.out.block _ (in_heap HY3.out)).trans HY3.out)
  have HB4 := Lib.hid (HB3.out.trans (HG4.out.mono HB3.out.size))
  refine (KC.out A4 n c4 w4.heap.size w4 HN.out R4.out (Nat.le_refl _) ⟨hc4, by have := HE.out; omega, HCP.out _ _ rfl⟩).mono ?_
  intro e w5 hh
  obtain ⟨uA, uc, rfl, hur, hjm, hb⟩ := readRes_lit j KJ.out hh
  have HX5 := Lib.hid ((hb.block _ (in_heap HX4.out)).trans HX4.out)
  have HY5 := Lib.hid ((hb.block _ (in_heap HY4.out)).trans HY4.out)
  have HB5 := Lib.hid (HB4.out.trans (hb.mono HB4.out.size))
  have HUR := Lib.hid hur
  have HJM := Lib.hid hjm
  have HU6 := Lib.hid (heap_alloc_new w5 (.cells #[.int .u64 z0, .int .u64 z1, .int .u64 z2, .int .u64 z3, .string z4, .string z5, .int .i64 z6, .int .i64 z7, .bool z8, .slice uA j uc] 36))
  have HX6 := Lib.hid ((heap_alloc_old w5 (.cells #[.int .u64 z0, .int .u64 z1, .int .u64 z2, .int .u64 z3, .string z4, .string z5, .int .i64 z6, .int .i64 z7, .bool z8, .slice uA j uc] 36) (in_heap HX5.out)).trans HX5.out)
  have HY6 := Lib.hid ((heap_alloc_old w5 (.cells #[.int .u64 z0, .int .u64 z1, .int .u64 z2, .int .u64 z3, .string z4, .string z5, .int .i64 z6, .int .i64 z7, .bool z8, .slice uA j uc] 36) (in_heap HY5.out)).trans HY5.out)
  have HB6 := Lib.hid (HB5.out.alloc HB5.out.size (.cells #[.int .u64 z0, .int .u64 z1, .int .u64 z2, .int .u64 z3, .string z4, .string z5, .int .i64 z6, .int .i64 z7, .bool z8, .slice uA j uc] 36))
  have HUB := Lib.hid ((Below.refl w5.heap.size w5).alloc (Nat.le_refl _) (.cells #[.int .u64 z0, .int .u64 z1, .int .u64 z2, .int .u64 z3, .string z4, .string z5, .int .i64 z6, .int .i64 z7, .bool z8, .slice uA j uc] 36))
  clear hh hur hjm hb R4 HG4 HX3 HY3 HX4 HY4 HX5 HY5 A1 hc4 HCP KC HB4 HB5 R3 HB3
  clear b0 d0 b1 d1 b2 d2 b3 d3 b4 d4 b5 d5 b6 d6 b7 d7 b8 d8 b9 d9
  go_wp2_with fail
  generalize w5.alloc (.cells #[.int .u64 z0, .int .u64 z1, .int .u64 z2, .int .u64 z3, .string z4, .string z5, .int .i64 z6, .int .i64 z7, .bool z8, .slice uA j uc] 36) = w6 at *
  have HUR6 : Hid (Rd w6 w5.heap.size uA (zts.flatMap atC)) := Lib.hid (HUR.out.below HUB.out)
  have HUS : Hid (w5.heap.size ≤ w6.heap.size) := Lib.hid HUB.out.size
  clear HUR HUB
  generalize w5.heap.size = gu at *
  refine (KD.out bA n c w.heap.size w6 HN.out (HRD.out.below HB6.out) HB6.out.size ⟨HE.out.2.1, by have := HE.out; omega, HE.out.2.2⟩).mono ?_
  intro e w7 hh
  obtain ⟨vA, vc, rfl, hvr, hjm, hb⟩ := readRes_lit j KJ.out hh
  have HX8 := Lib.hid ((heap_alloc_old w7 (.cells #[.int .u64 z0, .int .u64 z1, .int .u64 z2, .int .u64 z3, .string z4, .string z5, .int .i64 z6, .int .i64 z7, .bool z8, .slice vA j vc] 36) (in_heap ((hb.block _ (in_heap HX6.out)).trans HX6.out))).trans ((hb.block _ (in_heap HX6.out)).trans HX6.out))
  have HY8 := Lib.hid ((heap_alloc_old w7 (.cells #[.int .u64 z0, .int .u64 z1, .int .u64 z2, .int .u64 z3, .string z4, .string z5, .int .i64 z6, .int .i64 z7, .bool z8, .slice vA j vc] 36) (in_heap ((hb.block _ (in_heap HY6.out)).trans HY6.out))).trans ((hb.block _ (in_heap HY6.out)).trans HY6.out))
  have HU8 := Lib.hid ((heap_alloc_old w7 (.cells #[.int .u64 z0, .int .u64 z1, .int .u64 z2, .int .u64 z3, .string z4, .string z5, .int .i64 z6, .int .i64 z7, .bool z8, .slice vA j vc] 36) (in_heap ((hb.block _ (in_heap HU6.out)).trans HU6.out))).trans ((hb.block _ (in_heap HU6.out)).trans HU6.out))
  have HV8 := Lib.hid (heap_alloc_new w7 (.cells #[.int .u64 z0, .int .u64 z1, .int .u64 z2, .int .u64 z3, .string z4, .string z5, .int .i64 z6, .int .i64 z7, .bool z8, .slice vA j vc] 36))
  have HB7 := Lib.hid (HB6.out.trans (hb.mono HB6.out.size))
  have HB8 := Lib.hid (HB7.out.alloc HB7.out.size (.cells #[.int .u64 z0, .int .u64 z1, .int .u64 z2, .int .u64 z3, .string z4, .string z5, .int .i64 z6, .int .i64 z7, .bool z8, .slice vA j vc] 36))
  have HUR8 : Hid (Rd (w7.alloc (.cells #[.int .u64 z0, .int .u64 z1, .int .u64 z2, .int .u64 z3, .string z4, .string z5, .int .i64 z6, .int .i64 z7, .bool z8, .slice vA j vc] 36)) (w7.alloc (.cells #[.int .u64 z0, .int .u64 z1, .int .u64 z2, .int .u64 z3, .string z4, .string z5, .int .i64 z6, .int .i64 z7, .bool z8, .slice vA j vc] 36)).heap.size uA (zts.flatMap atC)) := Lib.hid (((HUR6.out.below (hb.mono HUS.out)).alloc (Nat.le_trans HUS.out hb.size) _).more (by have h1 := HUS.out; have h2 := hb.size; simp; omega))
  have HVR8 : Hid (Rd (w7.alloc (.cells #[.int .u64 z0, .int .u64 z1, .int .u64 z2, .int .u64 z3, .string z4, .string z5, .int .i64 z6, .int .i64 z7, .bool z8, .slice vA j vc] 36)) (w7.alloc (.cells #[.int .u64 z0, .int .u64 z1, .int .u64 z2, .int .u64 z3, .string z4, .string z5, .int .i64 z6, .int .i64 z7, .bool z8, .slice vA j vc] 36)).heap.size vA (zts.flatMap atC)) := Lib.hid ((hvr.alloc (Nat.le_refl _) _).more (by simp))
  clear hh hvr hjm hb HX6 HY6 HU6 HB6 HB7 HUR6 HUS KD HRD d2
  go_wp2_with fail
  generalize w7.alloc (.cells #[.int .u64 z0, .int .u64 z1, .int .u64 z2, .int .u64 z3, .string z4, .string z5, .int .i64 z6, .int .i64 z7, .bool z8, .slice vA j vc] 36) = w8 at *
  generalize w7.heap.size = gv at *
  obtain ⟨W, hW⟩ : ∃ W, W = w8.drew := ⟨_, rfl⟩
  have hWb : Below w8.heap.size w8 W := by rw [hW]; exact ⟨rfl, rfl, rfl, Nat.le_refl _, fun _ _ => rfl⟩
  have hWz : W.heap.size = w8.heap.size := by rw [hW]; rfl
  have HBW : Hid (Below w.heap.size w W) := Lib.hid (HB8.out.trans (hWb.mono HB8.out.size))
  have HXW := Lib.hid ((hWb.block _ (in_heap HX8.out)).trans HX8.out)
  have HYW := Lib.hid ((hWb.block _ (in_heap HY8.out)).trans HY8.out)
  have HUW := Lib.hid ((hWb.block _ (in_heap HU8.out)).trans HU8.out)
  have HVW := Lib.hid ((hWb.block _ (in_heap HV8.out)).trans HV8.out)
  have HSU : Hid (∀ W3, Below W.heap.size W W3 → Calls Try.prog 32 #[.agg #[.int .u64 z0, .int .u64 z1, .int .u64 z2, .int .u64 z3, .string z4, .string z5, .int .i64 z6, .int .i64 z7, .bool z8, .slice uA j uc], .agg #[.int .u64 z0, .int .u64 z1, .int .u64 z2, .int .u64 z3, .string z4, .string z5, .int .i64 z6, .int .i64 z7, .bool z8, .slice vA j vc]] W3 fun e w' => e = .returned (.bool true) ∧ Below W3.heap.size W3 w') := Lib.hid (fun W3 hW3 => by
    have h1 : Rd W W.heap.size uA (zts.flatMap atC) := by rw [hWz]; exact HUR8.out.below hWb
    have h2 : Rd W W.heap.size vA (zts.flatMap atC) := by rw [hWz]; exact HVR8.out.below hWb
    exact samespan_eq z0 z1 z2 z3 z4 z5 z6 z7 z8 zts j uA vA uc vc W.heap.size W3 KJ.out (h1.below hW3) (h2.below hW3) hW3.size HJM.out)
  have HRI := Lib.hid (fun W3 (h : Below W.heap.size W W3) => KRI.out W3 (HBW.out.trans (h.mono HBW.out.size)))
  have HRD := Lib.hid (fun W3 (h : Below W.heap.size W W3) => KRD.out W3 (HBW.out.trans (h.mono HBW.out.size)))
  have HBYT := Lib.hid (fun W3 (h : Below W.heap.size W W3) => KBYT.out W3 (HBW.out.trans (h.mono HBW.out.size)))
  have HBYD := Lib.hid (fun W3 (h : Below W.heap.size W W3) => KBYD.out W3 (HBW.out.trans (h.mono HBW.out.size)))
  have HSM := Lib.hid (fun W3 (h : Below W.heap.size W W3) => KSM.out W3 (HBW.out.trans (h.mono HBW.out.size)))
  have HSD := Lib.hid (fun W3 (h : Below W.heap.size W W3) => KSD.out W3 (HBW.out.trans (h.mono HBW.out.size)))
  have HSS := Lib.hid (fun W3 (h : Below W.heap.size W W3) => KSS.out W3 (HBW.out.trans (h.mono HBW.out.size)))
  clear HX8 HY8 HU8 HV8 HB8 HUR8 HVR8 KRI KRD KBYT KBYD KSM KSD KSS hWb hWz KJ HJM
  refine PI.wp_region_persG (R := Below W.heap.size) (G := fun _ _ => True) (I := fun _ _ _ => True) [(1, 0), (3, 2), (4, 1), (4, 3), (5, 4), (6, 5), (7, 5), (7, 6), (8, 5), (8, 7), (9, 5), (10, 5), (10, 9), (11, 5), (11, 10), (12, 5), (12, 8), (12, 11), (13, 5), (13, 12), (14, 13), (15, 14), (16, 14), (17, 14), (17, 15), (17, 16), (18, 14), (18, 17), (19, 18), (20, 19), (21, 19), (22, 19), (22, 20), (22, 21), (23, 19), (23, 22), (24, 23), (25, 24), (26, 24), (26, 25), (27, 24), (28, 24), (28, 26), (28, 27), (29, 24), (29, 28), (30, 29), (31, 30), (32, 30), (33, 30), (33, 31), (33, 32), (34, 30), (35, 30), (36, 30), (36, 34), (36, 35), (37, 30), (37, 33), (37, 36), (38, 30), (38, 37), (39, 38), (40, 39), (41, 39), (42, 39), (42, 40), (42, 41), (43, 39), (43, 42), (44, 43)] [44] (by kernel_rfl) (PI.formed_of (by kernel_rfl)) ⟨fun w => Below.refl _ w, fun _ _ _ h k => h.trans k⟩ (fun _ => trivial) (T3F x0 x1 x2 x3 x4 x5 x6 x7 x8 xA k xc y0 y1 y2 y3 y4 y5 y6 y7 y8 yA m yc z0 z1 z2 z3 z4 z5 z6 z7 z8 uA uc vA vc j ri sm L I er W.heap.size) trivial ?_ ?_
  · rw [← hW]
    intro i o ho
    rcases i with _ | _ | _ | _ | _ | _ | _ | _ | _ | _ | _ | _ | _ | _ | _ | _ | _ | _ | _ | _ | _ | _ | _ | _ | _ | _ | _ | _ | _ | _ | _ | _ | _ | _ | _ | _ | _ | _ | _ | _ | _ | _ | _ | _ | _ | i
    · obtain rfl := Option.some.inj (show some _ = some o from ho)
      refine PI.shown_val rfl fun a w3 L0 hr T => ?_
      have h1 : a.eval (.tmp 3) = .pointer (some ⟨w.heap.size, 0, none⟩) := T.was 3 (by kernel_rfl)
      have hO := (hr.block _ (in_heap HXW.out)).trans HXW.out
      have v0 : w3.cell? ⟨w.heap.size, 0, none⟩ = some (.int .u64 x0) := cell_of_row _ _ 0 _ _ (0, 0) hO
      have v1 : w3.cell? ⟨w.heap.size, 1, none⟩ = some (.int .u64 x1) := cell_of_row _ _ 1 _ _ (0, 0) hO
      have v2 : w3.cell? ⟨w.heap.size, 2, none⟩ = some (.int .u64 x2) := cell_of_row _ _ 2 _ _ (0, 0) hO
      have v3 : w3.cell? ⟨w.heap.size, 3, none⟩ = some (.int .u64 x3) := cell_of_row _ _ 3 _ _ (0, 0) hO
      have v4 : w3.cell? ⟨w.heap.size, 4, none⟩ = some (.string x4) := cell_of_row _ _ 4 _ _ (0, 0) hO
      have v5 : w3.cell? ⟨w.heap.size, 5, none⟩ = some (.string x5) := cell_of_row _ _ 5 _ _ (0, 0) hO
      have v6 : w3.cell? ⟨w.heap.size, 6, none⟩ = some (.int .i64 x6) := cell_of_row _ _ 6 _ _ (0, 0) hO
      have v7 : w3.cell? ⟨w.heap.size, 7, none⟩ = some (.int .i64 x7) := cell_of_row _ _ 7 _ _ (0, 0) hO
      have v8 : w3.cell? ⟨w.heap.size, 8, none⟩ = some (.bool x8) := cell_of_row _ _ 8 _ _ (0, 0) hO
      have v9 : w3.cell? ⟨w.heap.size, 9, none⟩ = some (.slice xA k xc) := cell_of_row _ _ 9 _ _ (0, 0) hO
      exact ⟨.agg #[.int .u64 x0, .int .u64 x1, .int .u64 x2, .int .u64 x3, .string x4, .string x5, .int .i64 x6, .int .i64 x7, .bool x8, .slice xA k xc], w3, by simp only [execOp, h1]; simp [go_sem, v0, v1, v2, v3, v4, v5, v6, v7, v8, v9], PI.Post.pure ⟨fun w => Below.refl _ w, fun _ _ _ h k => h.trans k⟩ rfl trivial⟩
    · obtain rfl := Option.some.inj (show some _ = some o from ho)
      refine PI.shown_call rfl 28 fun a w3 L0 hr T => ?_
      have h0 : a.eval (.tmp 46) = .agg #[.int .u64 x0, .int .u64 x1, .int .u64 x2, .int .u64 x3, .string x4, .string x5, .int .i64 x6, .int .i64 x7, .bool x8, .slice xA k xc] := T.at_ 0 46 (by kernel_rfl) (by kernel_rfl) (by kernel_rfl)
      refine ⟨#[.agg #[.int .u64 x0, .int .u64 x1, .int .u64 x2, .int .u64 x3, .string x4, .string x5, .int .i64 x6, .int .i64 x7, .bool x8, .slice xA k xc]], by simp only [execOp, resolve, List.map_toArray, List.map_cons, List.map_nil, h0]; simp [go_sem, Act.eval], ?_⟩
      refine (HRI.out w3 hr).mono fun e w4 hh => ?_
      obtain ⟨rfl, hb4⟩ := hh
      exact ⟨_, rfl, hb4.mono hr.size, rfl, fun _ _ h => h, fun j v _ _ _ _ h => h.keep (fun mm xs ho => own_below ho hb4), trivial⟩
    · obtain rfl := Option.some.inj (show some _ = some o from ho)
      refine PI.shown_val rfl fun a w3 L0 hr T => ?_
      have h1 : a.eval (.tmp 3) = .pointer (some ⟨w.heap.size, 0, none⟩) := T.was 3 (by kernel_rfl)
      have hO := (hr.block _ (in_heap HXW.out)).trans HXW.out
      have v0 : w3.cell? ⟨w.heap.size, 0, none⟩ = some (.int .u64 x0) := cell_of_row _ _ 0 _ _ (0, 0) hO
      have v1 : w3.cell? ⟨w.heap.size, 1, none⟩ = some (.int .u64 x1) := cell_of_row _ _ 1 _ _ (0, 0) hO
      have v2 : w3.cell? ⟨w.heap.size, 2, none⟩ = some (.int .u64 x2) := cell_of_row _ _ 2 _ _ (0, 0) hO
      have v3 : w3.cell? ⟨w.heap.size, 3, none⟩ = some (.int .u64 x3) := cell_of_row _ _ 3 _ _ (0, 0) hO
      have v4 : w3.cell? ⟨w.heap.size, 4, none⟩ = some (.string x4) := cell_of_row _ _ 4 _ _ (0, 0) hO
      have v5 : w3.cell? ⟨w.heap.size, 5, none⟩ = some (.string x5) := cell_of_row _ _ 5 _ _ (0, 0) hO
      have v6 : w3.cell? ⟨w.heap.size, 6, none⟩ = some (.int .i64 x6) := cell_of_row _ _ 6 _ _ (0, 0) hO
      have v7 : w3.cell? ⟨w.heap.size, 7, none⟩ = some (.int .i64 x7) := cell_of_row _ _ 7 _ _ (0, 0) hO
      have v8 : w3.cell? ⟨w.heap.size, 8, none⟩ = some (.bool x8) := cell_of_row _ _ 8 _ _ (0, 0) hO
      have v9 : w3.cell? ⟨w.heap.size, 9, none⟩ = some (.slice xA k xc) := cell_of_row _ _ 9 _ _ (0, 0) hO
      exact ⟨.agg #[.int .u64 x0, .int .u64 x1, .int .u64 x2, .int .u64 x3, .string x4, .string x5, .int .i64 x6, .int .i64 x7, .bool x8, .slice xA k xc], w3, by simp only [execOp, h1]; simp [go_sem, v0, v1, v2, v3, v4, v5, v6, v7, v8, v9], PI.Post.pure ⟨fun w => Below.refl _ w, fun _ _ _ h k => h.trans k⟩ rfl trivial⟩
    · obtain rfl := Option.some.inj (show some _ = some o from ho)
      refine PI.shown_call rfl 29 fun a w3 L0 hr T => ?_
      have h2 : a.eval (.tmp 48) = .agg #[.int .u64 x0, .int .u64 x1, .int .u64 x2, .int .u64 x3, .string x4, .string x5, .int .i64 x6, .int .i64 x7, .bool x8, .slice xA k xc] := T.at_ 2 48 (by kernel_rfl) (by kernel_rfl) (by kernel_rfl)
      refine ⟨#[.agg #[.int .u64 x0, .int .u64 x1, .int .u64 x2, .int .u64 x3, .string x4, .string x5, .int .i64 x6, .int .i64 x7, .bool x8, .slice xA k xc]], by simp only [execOp, resolve, List.map_toArray, List.map_cons, List.map_nil, h2]; simp [go_sem, Act.eval], ?_⟩
      refine (HRD.out w3 hr).mono fun e w4 hh => ?_
      obtain ⟨rfl, hb4⟩ := hh
      exact ⟨_, rfl, hb4.mono hr.size, rfl, fun _ _ h => h, fun j v _ _ _ _ h => h.keep (fun mm xs ho => own_below ho hb4), trivial⟩
    · obtain rfl := Option.some.inj (show some _ = some o from ho)
      refine PI.shown_val rfl fun a w3 L0 hr T => ?_
      have h1 : a.eval (.tmp 47) = .bool ri := T.at_ 1 47 (by kernel_rfl) (by kernel_rfl) (by kernel_rfl)
      have h2 : a.eval (.tmp 49) = .bool ri := T.at_ 3 49 (by kernel_rfl) (by kernel_rfl) (by kernel_rfl)
      exact ⟨.bool true, w3, by simp only [execOp, h1, h2]; simp [go_sem], PI.Post.pure ⟨fun w => Below.refl _ w, fun _ _ _ h k => h.trans k⟩ rfl trivial⟩
    · obtain rfl := Option.some.inj (show some _ = some o from ho)
      refine PI.shown_val rfl fun a w3 L0 hr T => ?_
      have h1 : a.eval (.tmp 50) = .bool true := T.at_ 4 50 (by kernel_rfl) (by kernel_rfl) (by kernel_rfl)
      exact ⟨.bool true, w3, by simp only [execOp, h1]; simp [go_sem], PI.Post.pure ⟨fun w => Below.refl _ w, fun _ _ _ h k => h.trans k⟩ rfl trivial⟩
    · obtain rfl := Option.some.inj (show some _ = some o from ho)
      refine PI.shown_val_if 5 51 true rfl (by kernel_rfl) (by kernel_rfl) (by kernel_rfl) (fun v w h => h) fun a w3 L0 hr T => ?_
      have h1 : a.eval (.tmp 3) = .pointer (some ⟨w.heap.size, 0, none⟩) := T.was 3 (by kernel_rfl)
      have hO := (hr.block _ (in_heap HXW.out)).trans HXW.out
      have v0 : w3.cell? ⟨w.heap.size, 0, none⟩ = some (.int .u64 x0) := cell_of_row _ _ 0 _ _ (0, 0) hO
      have v1 : w3.cell? ⟨w.heap.size, 1, none⟩ = some (.int .u64 x1) := cell_of_row _ _ 1 _ _ (0, 0) hO
      have v2 : w3.cell? ⟨w.heap.size, 2, none⟩ = some (.int .u64 x2) := cell_of_row _ _ 2 _ _ (0, 0) hO
      have v3 : w3.cell? ⟨w.heap.size, 3, none⟩ = some (.int .u64 x3) := cell_of_row _ _ 3 _ _ (0, 0) hO
      have v4 : w3.cell? ⟨w.heap.size, 4, none⟩ = some (.string x4) := cell_of_row _ _ 4 _ _ (0, 0) hO
      have v5 : w3.cell? ⟨w.heap.size, 5, none⟩ = some (.string x5) := cell_of_row _ _ 5 _ _ (0, 0) hO
      have v6 : w3.cell? ⟨w.heap.size, 6, none⟩ = some (.int .i64 x6) := cell_of_row _ _ 6 _ _ (0, 0) hO
      have v7 : w3.cell? ⟨w.heap.size, 7, none⟩ = some (.int .i64 x7) := cell_of_row _ _ 7 _ _ (0, 0) hO
      have v8 : w3.cell? ⟨w.heap.size, 8, none⟩ = some (.bool x8) := cell_of_row _ _ 8 _ _ (0, 0) hO
      have v9 : w3.cell? ⟨w.heap.size, 9, none⟩ = some (.slice xA k xc) := cell_of_row _ _ 9 _ _ (0, 0) hO
      exact ⟨.agg #[.int .u64 x0, .int .u64 x1, .int .u64 x2, .int .u64 x3, .string x4, .string x5, .int .i64 x6, .int .i64 x7, .bool x8, .slice xA k xc], w3, by simp only [execOp, h1]; simp [go_sem, v0, v1, v2, v3, v4, v5, v6, v7, v8, v9], PI.Post.pure ⟨fun w => Below.refl _ w, fun _ _ _ h k => h.trans k⟩ rfl trivial⟩
    · obtain rfl := Option.some.inj (show some _ = some o from ho)
      refine PI.shown_call_if 5 51 true rfl (by kernel_rfl) (by kernel_rfl) (by kernel_rfl) (fun v w h => h) 30 fun a w3 L0 hr T => ?_
      have h6 : a.eval (.tmp 52) = .agg #[.int .u64 x0, .int .u64 x1, .int .u64 x2, .int .u64 x3, .string x4, .string x5, .int .i64 x6, .int .i64 x7, .bool x8, .slice xA k xc] := T.at_ 6 52 (by kernel_rfl) (by kernel_rfl) (by kernel_rfl)
      refine ⟨#[.agg #[.int .u64 x0, .int .u64 x1, .int .u64 x2, .int .u64 x3, .string x4, .string x5, .int .i64 x6, .int .i64 x7, .bool x8, .slice xA k xc]], by simp only [execOp, resolve, List.map_toArray, List.map_cons, List.map_nil, h6]; simp [go_sem, Act.eval], ?_⟩
      refine (HBYT.out w3 hr).mono fun e w4 hh => ?_
      obtain ⟨v4, rfl, ho4, hb4⟩ := hh
      exact ⟨_, rfl, hb4.mono hr.size, own_mono ho4 hr.size, fun _ _ h => h, fun j v _ _ _ _ h => h.keep (fun mm xs ho => own_below ho hb4), trivial⟩
    · obtain rfl := Option.some.inj (show some _ = some o from ho)
      refine PI.shown_val_if 5 51 true rfl (by kernel_rfl) (by kernel_rfl) (by kernel_rfl) (fun v w h => h) fun a w3 L0 hr T => ?_
      have h1 : w3.ownsRow W.heap.size 5 1 (a.eval (.tmp 53)) L.length (L.map B8) := T.at_ 7 53 (by kernel_rfl) (by kernel_rfl) (by kernel_rfl)
      obtain ⟨A1, c1, hv, _, hr1⟩ := own_rd h1
      have h2 := run_str (P := Try.prog) 22 5 9 Try.underlying22 Try.underlying5 Try.underlying9 hr1 _ c1 rfl
      exact ⟨.string (S8 L), w3, by simp only [execOp, hv]; generalize L.length = qq at h2 ⊢; simp [go_sem, h2], PI.Post.pure ⟨fun w => Below.refl _ w, fun _ _ _ h k => h.trans k⟩ rfl trivial⟩
    · obtain rfl := Option.some.inj (show some _ = some o from ho)
      refine PI.shown_val_if 5 51 true rfl (by kernel_rfl) (by kernel_rfl) (by kernel_rfl) (fun v w h => h) fun a w3 L0 hr T => ?_
      have h1 : a.eval (.tmp 3) = .pointer (some ⟨w.heap.size, 0, none⟩) := T.was 3 (by kernel_rfl)
      have hO := (hr.block _ (in_heap HXW.out)).trans HXW.out
      have v0 : w3.cell? ⟨w.heap.size, 0, none⟩ = some (.int .u64 x0) := cell_of_row _ _ 0 _ _ (0, 0) hO
      have v1 : w3.cell? ⟨w.heap.size, 1, none⟩ = some (.int .u64 x1) := cell_of_row _ _ 1 _ _ (0, 0) hO
      have v2 : w3.cell? ⟨w.heap.size, 2, none⟩ = some (.int .u64 x2) := cell_of_row _ _ 2 _ _ (0, 0) hO
      have v3 : w3.cell? ⟨w.heap.size, 3, none⟩ = some (.int .u64 x3) := cell_of_row _ _ 3 _ _ (0, 0) hO
      have v4 : w3.cell? ⟨w.heap.size, 4, none⟩ = some (.string x4) := cell_of_row _ _ 4 _ _ (0, 0) hO
      have v5 : w3.cell? ⟨w.heap.size, 5, none⟩ = some (.string x5) := cell_of_row _ _ 5 _ _ (0, 0) hO
      have v6 : w3.cell? ⟨w.heap.size, 6, none⟩ = some (.int .i64 x6) := cell_of_row _ _ 6 _ _ (0, 0) hO
      have v7 : w3.cell? ⟨w.heap.size, 7, none⟩ = some (.int .i64 x7) := cell_of_row _ _ 7 _ _ (0, 0) hO
      have v8 : w3.cell? ⟨w.heap.size, 8, none⟩ = some (.bool x8) := cell_of_row _ _ 8 _ _ (0, 0) hO
      have v9 : w3.cell? ⟨w.heap.size, 9, none⟩ = some (.slice xA k xc) := cell_of_row _ _ 9 _ _ (0, 0) hO
      exact ⟨.agg #[.int .u64 x0, .int .u64 x1, .int .u64 x2, .int .u64 x3, .string x4, .string x5, .int .i64 x6, .int .i64 x7, .bool x8, .slice xA k xc], w3, by simp only [execOp, h1]; simp [go_sem, v0, v1, v2, v3, v4, v5, v6, v7, v8, v9], PI.Post.pure ⟨fun w => Below.refl _ w, fun _ _ _ h k => h.trans k⟩ rfl trivial⟩
    · obtain rfl := Option.some.inj (show some _ = some o from ho)
      refine PI.shown_call_if 5 51 true rfl (by kernel_rfl) (by kernel_rfl) (by kernel_rfl) (fun v w h => h) 31 fun a w3 L0 hr T => ?_
      have h9 : a.eval (.tmp 55) = .agg #[.int .u64 x0, .int .u64 x1, .int .u64 x2, .int .u64 x3, .string x4, .string x5, .int .i64 x6, .int .i64 x7, .bool x8, .slice xA k xc] := T.at_ 9 55 (by kernel_rfl) (by kernel_rfl) (by kernel_rfl)
      refine ⟨#[.agg #[.int .u64 x0, .int .u64 x1, .int .u64 x2, .int .u64 x3, .string x4, .string x5, .int .i64 x6, .int .i64 x7, .bool x8, .slice xA k xc]], by simp only [execOp, resolve, List.map_toArray, List.map_cons, List.map_nil, h9]; simp [go_sem, Act.eval], ?_⟩
      refine (HBYD.out w3 hr).mono fun e w4 hh => ?_
      obtain ⟨v4, rfl, ho4, hb4⟩ := hh
      exact ⟨_, rfl, hb4.mono hr.size, own_mono ho4 hr.size, fun _ _ h => h, fun j v _ _ _ _ h => h.keep (fun mm xs ho => own_below ho hb4), trivial⟩
    · obtain rfl := Option.some.inj (show some _ = some o from ho)
      refine PI.shown_val_if 5 51 true rfl (by kernel_rfl) (by kernel_rfl) (by kernel_rfl) (fun v w h => h) fun a w3 L0 hr T => ?_
      have h1 : w3.ownsRow W.heap.size 5 1 (a.eval (.tmp 56)) L.length (L.map B8) := T.at_ 10 56 (by kernel_rfl) (by kernel_rfl) (by kernel_rfl)
      obtain ⟨A1, c1, hv, _, hr1⟩ := own_rd h1
      have h2 := run_str (P := Try.prog) 22 5 9 Try.underlying22 Try.underlying5 Try.underlying9 hr1 _ c1 rfl
      exact ⟨.string (S8 L), w3, by simp only [execOp, hv]; generalize L.length = qq at h2 ⊢; simp [go_sem, h2], PI.Post.pure ⟨fun w => Below.refl _ w, fun _ _ _ h k => h.trans k⟩ rfl trivial⟩
    · obtain rfl := Option.some.inj (show some _ = some o from ho)
      refine PI.shown_val_if 5 51 true rfl (by kernel_rfl) (by kernel_rfl) (by kernel_rfl) (fun v w h => h) fun a w3 L0 hr T => ?_
      have h1 : a.eval (.tmp 54) = .string (S8 L) := T.at_ 8 54 (by kernel_rfl) (by kernel_rfl) (by kernel_rfl)
      have h2 : a.eval (.tmp 57) = .string (S8 L) := T.at_ 11 57 (by kernel_rfl) (by kernel_rfl) (by kernel_rfl)
      exact ⟨.bool true, w3, by simp only [execOp, h1, h2]; simp [go_sem], PI.Post.pure ⟨fun w => Below.refl _ w, fun _ _ _ h k => h.trans k⟩ rfl trivial⟩
    · obtain rfl := Option.some.inj (show some _ = some o from ho)
      refine PI.shown_val rfl fun a w3 L0 hr T => ?_
      have h1 : a.eval (.tmp 51) = .bool true := T.at_ 5 51 (by kernel_rfl) (by kernel_rfl) (by kernel_rfl)
      have h2 : a.eval (.tmp 58) = .bool true := T.at_ 12 58 (by kernel_rfl) (by kernel_rfl) (by kernel_rfl)
      exact ⟨.bool true, w3, by simp only [execOp, h1, h2]; simp [go_sem, Act.eval], PI.Post.pure ⟨fun w => Below.refl _ w, fun _ _ _ h k => h.trans k⟩ rfl trivial⟩
    · obtain rfl := Option.some.inj (show some _ = some o from ho)
      refine PI.shown_val rfl fun a w3 L0 hr T => ?_
      have h1 : a.eval (.tmp 59) = .bool true := T.at_ 13 59 (by kernel_rfl) (by kernel_rfl) (by kernel_rfl)
      exact ⟨.bool true, w3, by simp only [execOp, h1]; simp [go_sem], PI.Post.pure ⟨fun w => Below.refl _ w, fun _ _ _ h k => h.trans k⟩ rfl trivial⟩
    · obtain rfl := Option.some.inj (show some _ = some o from ho)
      refine PI.shown_val_if 14 60 true rfl (by kernel_rfl) (by kernel_rfl) (by kernel_rfl) (fun v w h => h) fun a w3 L0 hr T => ?_
      have h1 : a.eval (.tmp 8) = .pointer (some ⟨gu, 0, none⟩) := T.was 8 (by kernel_rfl)
      have hO := (hr.block _ (in_heap HUW.out)).trans HUW.out
      have v0 : w3.cell? ⟨gu, 0, none⟩ = some (.int .u64 z0) := cell_of_row _ _ 0 _ _ (0, 0) hO
      have v1 : w3.cell? ⟨gu, 1, none⟩ = some (.int .u64 z1) := cell_of_row _ _ 1 _ _ (0, 0) hO
      have v2 : w3.cell? ⟨gu, 2, none⟩ = some (.int .u64 z2) := cell_of_row _ _ 2 _ _ (0, 0) hO
      have v3 : w3.cell? ⟨gu, 3, none⟩ = some (.int .u64 z3) := cell_of_row _ _ 3 _ _ (0, 0) hO
      have v4 : w3.cell? ⟨gu, 4, none⟩ = some (.string z4) := cell_of_row _ _ 4 _ _ (0, 0) hO
      have v5 : w3.cell? ⟨gu, 5, none⟩ = some (.string z5) := cell_of_row _ _ 5 _ _ (0, 0) hO
      have v6 : w3.cell? ⟨gu, 6, none⟩ = some (.int .i64 z6) := cell_of_row _ _ 6 _ _ (0, 0) hO
      have v7 : w3.cell? ⟨gu, 7, none⟩ = some (.int .i64 z7) := cell_of_row _ _ 7 _ _ (0, 0) hO
      have v8 : w3.cell? ⟨gu, 8, none⟩ = some (.bool z8) := cell_of_row _ _ 8 _ _ (0, 0) hO
      have v9 : w3.cell? ⟨gu, 9, none⟩ = some (.slice uA j uc) := cell_of_row _ _ 9 _ _ (0, 0) hO
      exact ⟨.agg #[.int .u64 z0, .int .u64 z1, .int .u64 z2, .int .u64 z3, .string z4, .string z5, .int .i64 z6, .int .i64 z7, .bool z8, .slice uA j uc], w3, by simp only [execOp, h1]; simp [go_sem, v0, v1, v2, v3, v4, v5, v6, v7, v8, v9], PI.Post.pure ⟨fun w => Below.refl _ w, fun _ _ _ h k => h.trans k⟩ rfl trivial⟩
    · obtain rfl := Option.some.inj (show some _ = some o from ho)
      refine PI.shown_val_if 14 60 true rfl (by kernel_rfl) (by kernel_rfl) (by kernel_rfl) (fun v w h => h) fun a w3 L0 hr T => ?_
      have h1 : a.eval (.tmp 11) = .pointer (some ⟨gv, 0, none⟩) := T.was 11 (by kernel_rfl)
      have hO := (hr.block _ (in_heap HVW.out)).trans HVW.out
      have v0 : w3.cell? ⟨gv, 0, none⟩ = some (.int .u64 z0) := cell_of_row _ _ 0 _ _ (0, 0) hO
      have v1 : w3.cell? ⟨gv, 1, none⟩ = some (.int .u64 z1) := cell_of_row _ _ 1 _ _ (0, 0) hO
      have v2 : w3.cell? ⟨gv, 2, none⟩ = some (.int .u64 z2) := cell_of_row _ _ 2 _ _ (0, 0) hO
      have v3 : w3.cell? ⟨gv, 3, none⟩ = some (.int .u64 z3) := cell_of_row _ _ 3 _ _ (0, 0) hO
      have v4 : w3.cell? ⟨gv, 4, none⟩ = some (.string z4) := cell_of_row _ _ 4 _ _ (0, 0) hO
      have v5 : w3.cell? ⟨gv, 5, none⟩ = some (.string z5) := cell_of_row _ _ 5 _ _ (0, 0) hO
      have v6 : w3.cell? ⟨gv, 6, none⟩ = some (.int .i64 z6) := cell_of_row _ _ 6 _ _ (0, 0) hO
      have v7 : w3.cell? ⟨gv, 7, none⟩ = some (.int .i64 z7) := cell_of_row _ _ 7 _ _ (0, 0) hO
      have v8 : w3.cell? ⟨gv, 8, none⟩ = some (.bool z8) := cell_of_row _ _ 8 _ _ (0, 0) hO
      have v9 : w3.cell? ⟨gv, 9, none⟩ = some (.slice vA j vc) := cell_of_row _ _ 9 _ _ (0, 0) hO
      exact ⟨.agg #[.int .u64 z0, .int .u64 z1, .int .u64 z2, .int .u64 z3, .string z4, .string z5, .int .i64 z6, .int .i64 z7, .bool z8, .slice vA j vc], w3, by simp only [execOp, h1]; simp [go_sem, v0, v1, v2, v3, v4, v5, v6, v7, v8, v9], PI.Post.pure ⟨fun w => Below.refl _ w, fun _ _ _ h k => h.trans k⟩ rfl trivial⟩
    · obtain rfl := Option.some.inj (show some _ = some o from ho)
      refine PI.shown_call_if 14 60 true rfl (by kernel_rfl) (by kernel_rfl) (by kernel_rfl) (fun v w h => h) 32 fun a w3 L0 hr T => ?_
      have h15 : a.eval (.tmp 61) = .agg #[.int .u64 z0, .int .u64 z1, .int .u64 z2, .int .u64 z3, .string z4, .string z5, .int .i64 z6, .int .i64 z7, .bool z8, .slice uA j uc] := T.at_ 15 61 (by kernel_rfl) (by kernel_rfl) (by kernel_rfl)
      have h16 : a.eval (.tmp 62) = .agg #[.int .u64 z0, .int .u64 z1, .int .u64 z2, .int .u64 z3, .string z4, .string z5, .int .i64 z6, .int .i64 z7, .bool z8, .slice vA j vc] := T.at_ 16 62 (by kernel_rfl) (by kernel_rfl) (by kernel_rfl)
      refine ⟨#[.agg #[.int .u64 z0, .int .u64 z1, .int .u64 z2, .int .u64 z3, .string z4, .string z5, .int .i64 z6, .int .i64 z7, .bool z8, .slice uA j uc], .agg #[.int .u64 z0, .int .u64 z1, .int .u64 z2, .int .u64 z3, .string z4, .string z5, .int .i64 z6, .int .i64 z7, .bool z8, .slice vA j vc]], by simp only [execOp, resolve, List.map_toArray, List.map_cons, List.map_nil, h15, h16]; simp [go_sem, Act.eval], ?_⟩
      refine (HSU.out w3 hr).mono fun e w4 hh => ?_
      obtain ⟨rfl, hb4⟩ := hh
      exact ⟨_, rfl, hb4.mono hr.size, rfl, fun _ _ h => h, fun j v _ _ _ _ h => h.keep (fun mm xs ho => own_below ho hb4), trivial⟩
    · obtain rfl := Option.some.inj (show some _ = some o from ho)
      refine PI.shown_val rfl fun a w3 L0 hr T => ?_
      have h1 : a.eval (.tmp 60) = .bool true := T.at_ 14 60 (by kernel_rfl) (by kernel_rfl) (by kernel_rfl)
      have h2 : a.eval (.tmp 63) = .bool true := T.at_ 17 63 (by kernel_rfl) (by kernel_rfl) (by kernel_rfl)
      exact ⟨.bool true, w3, by simp only [execOp, h1, h2]; simp [go_sem, Act.eval], PI.Post.pure ⟨fun w => Below.refl _ w, fun _ _ _ h k => h.trans k⟩ rfl trivial⟩
    · obtain rfl := Option.some.inj (show some _ = some o from ho)
      refine PI.shown_val rfl fun a w3 L0 hr T => ?_
      have h1 : a.eval (.tmp 64) = .bool true := T.at_ 18 64 (by kernel_rfl) (by kernel_rfl) (by kernel_rfl)
      exact ⟨.bool true, w3, by simp only [execOp, h1]; simp [go_sem], PI.Post.pure ⟨fun w => Below.refl _ w, fun _ _ _ h k => h.trans k⟩ rfl trivial⟩
    · obtain rfl := Option.some.inj (show some _ = some o from ho)
      refine PI.shown_val_if 19 65 true rfl (by kernel_rfl) (by kernel_rfl) (by kernel_rfl) (fun v w h => h) fun a w3 L0 hr T => ?_
      have h1 : a.eval (.tmp 9) = .int .i64 I := T.was 9 (by kernel_rfl)
      exact ⟨.int .i64 I, w3, by simp only [execOp, h1]; simp [go_sem], PI.Post.pure ⟨fun w => Below.refl _ w, fun _ _ _ h k => h.trans k⟩ rfl trivial⟩
    · obtain rfl := Option.some.inj (show some _ = some o from ho)
      refine PI.shown_val_if 19 65 true rfl (by kernel_rfl) (by kernel_rfl) (by kernel_rfl) (fun v w h => h) fun a w3 L0 hr T => ?_
      have h1 : a.eval (.tmp 12) = .int .i64 I := T.was 12 (by kernel_rfl)
      exact ⟨.int .i64 I, w3, by simp only [execOp, h1]; simp [go_sem], PI.Post.pure ⟨fun w => Below.refl _ w, fun _ _ _ h k => h.trans k⟩ rfl trivial⟩
    · obtain rfl := Option.some.inj (show some _ = some o from ho)
      refine PI.shown_val_if 19 65 true rfl (by kernel_rfl) (by kernel_rfl) (by kernel_rfl) (fun v w h => h) fun a w3 L0 hr T => ?_
      have h1 : a.eval (.tmp 66) = .int .i64 I := T.at_ 20 66 (by kernel_rfl) (by kernel_rfl) (by kernel_rfl)
      have h2 : a.eval (.tmp 67) = .int .i64 I := T.at_ 21 67 (by kernel_rfl) (by kernel_rfl) (by kernel_rfl)
      exact ⟨.bool true, w3, by simp only [execOp, h1, h2]; simp [go_sem], PI.Post.pure ⟨fun w => Below.refl _ w, fun _ _ _ h k => h.trans k⟩ rfl trivial⟩
    · obtain rfl := Option.some.inj (show some _ = some o from ho)
      refine PI.shown_val rfl fun a w3 L0 hr T => ?_
      have h1 : a.eval (.tmp 65) = .bool true := T.at_ 19 65 (by kernel_rfl) (by kernel_rfl) (by kernel_rfl)
      have h2 : a.eval (.tmp 68) = .bool true := T.at_ 22 68 (by kernel_rfl) (by kernel_rfl) (by kernel_rfl)
      exact ⟨.bool true, w3, by simp only [execOp, h1, h2]; simp [go_sem, Act.eval], PI.Post.pure ⟨fun w => Below.refl _ w, fun _ _ _ h k => h.trans k⟩ rfl trivial⟩
    · obtain rfl := Option.some.inj (show some _ = some o from ho)
      refine PI.shown_val rfl fun a w3 L0 hr T => ?_
      have h1 : a.eval (.tmp 69) = .bool true := T.at_ 23 69 (by kernel_rfl) (by kernel_rfl) (by kernel_rfl)
      exact ⟨.bool true, w3, by simp only [execOp, h1]; simp [go_sem], PI.Post.pure ⟨fun w => Below.refl _ w, fun _ _ _ h k => h.trans k⟩ rfl trivial⟩
    · obtain rfl := Option.some.inj (show some _ = some o from ho)
      refine PI.shown_val_if 24 70 true rfl (by kernel_rfl) (by kernel_rfl) (by kernel_rfl) (fun v w h => h) fun a w3 L0 hr T => ?_
      have h1 : a.eval (.tmp 10) = .int .i64 er := T.was 10 (by kernel_rfl)
      exact ⟨.int .i64 er, w3, by simp only [execOp, h1]; simp [go_sem], PI.Post.pure ⟨fun w => Below.refl _ w, fun _ _ _ h k => h.trans k⟩ rfl trivial⟩
    · obtain rfl := Option.some.inj (show some _ = some o from ho)
      refine PI.shown_call_if 24 70 true rfl (by kernel_rfl) (by kernel_rfl) (by kernel_rfl) (fun v w h => h) 33 fun a w3 L0 hr T => ?_
      have h25 : a.eval (.tmp 71) = .int .i64 er := T.at_ 25 71 (by kernel_rfl) (by kernel_rfl) (by kernel_rfl)
      refine ⟨#[.int .i64 er], by simp only [execOp, resolve, List.map_toArray, List.map_cons, List.map_nil, h25]; simp [go_sem, Act.eval], ?_⟩
      refine (num3_any _ _).mono fun e w4 hh => ?_
      obtain ⟨rfl, rfl⟩ := hh
      exact ⟨_, rfl, PI.Post.pure ⟨fun w => Below.refl _ w, fun _ _ _ h k => h.trans k⟩ rfl trivial⟩
    · obtain rfl := Option.some.inj (show some _ = some o from ho)
      refine PI.shown_val_if 24 70 true rfl (by kernel_rfl) (by kernel_rfl) (by kernel_rfl) (fun v w h => h) fun a w3 L0 hr T => ?_
      have h1 : a.eval (.tmp 13) = .int .i64 er := T.was 13 (by kernel_rfl)
      exact ⟨.int .i64 er, w3, by simp only [execOp, h1]; simp [go_sem], PI.Post.pure ⟨fun w => Below.refl _ w, fun _ _ _ h k => h.trans k⟩ rfl trivial⟩
    · obtain rfl := Option.some.inj (show some _ = some o from ho)
      refine PI.shown_val_if 24 70 true rfl (by kernel_rfl) (by kernel_rfl) (by kernel_rfl) (fun v w h => h) fun a w3 L0 hr T => ?_
      have h1 : a.eval (.tmp 72) = .int .i64 er := T.at_ 26 72 (by kernel_rfl) (by kernel_rfl) (by kernel_rfl)
      have h2 : a.eval (.tmp 73) = .int .i64 er := T.at_ 27 73 (by kernel_rfl) (by kernel_rfl) (by kernel_rfl)
      exact ⟨.bool true, w3, by simp only [execOp, h1, h2]; simp [go_sem], PI.Post.pure ⟨fun w => Below.refl _ w, fun _ _ _ h k => h.trans k⟩ rfl trivial⟩
    · obtain rfl := Option.some.inj (show some _ = some o from ho)
      refine PI.shown_val rfl fun a w3 L0 hr T => ?_
      have h1 : a.eval (.tmp 70) = .bool true := T.at_ 24 70 (by kernel_rfl) (by kernel_rfl) (by kernel_rfl)
      have h2 : a.eval (.tmp 74) = .bool true := T.at_ 28 74 (by kernel_rfl) (by kernel_rfl) (by kernel_rfl)
      exact ⟨.bool true, w3, by simp only [execOp, h1, h2]; simp [go_sem, Act.eval], PI.Post.pure ⟨fun w => Below.refl _ w, fun _ _ _ h k => h.trans k⟩ rfl trivial⟩
    · obtain rfl := Option.some.inj (show some _ = some o from ho)
      refine PI.shown_val rfl fun a w3 L0 hr T => ?_
      have h1 : a.eval (.tmp 75) = .bool true := T.at_ 29 75 (by kernel_rfl) (by kernel_rfl) (by kernel_rfl)
      exact ⟨.bool true, w3, by simp only [execOp, h1]; simp [go_sem], PI.Post.pure ⟨fun w => Below.refl _ w, fun _ _ _ h k => h.trans k⟩ rfl trivial⟩
    · obtain rfl := Option.some.inj (show some _ = some o from ho)
      refine PI.shown_val_if 30 76 true rfl (by kernel_rfl) (by kernel_rfl) (by kernel_rfl) (fun v w h => h) fun a w3 L0 hr T => ?_
      have h1 : a.eval (.tmp 3) = .pointer (some ⟨w.heap.size, 0, none⟩) := T.was 3 (by kernel_rfl)
      have hO := (hr.block _ (in_heap HXW.out)).trans HXW.out
      have v0 : w3.cell? ⟨w.heap.size, 0, none⟩ = some (.int .u64 x0) := cell_of_row _ _ 0 _ _ (0, 0) hO
      have v1 : w3.cell? ⟨w.heap.size, 1, none⟩ = some (.int .u64 x1) := cell_of_row _ _ 1 _ _ (0, 0) hO
      have v2 : w3.cell? ⟨w.heap.size, 2, none⟩ = some (.int .u64 x2) := cell_of_row _ _ 2 _ _ (0, 0) hO
      have v3 : w3.cell? ⟨w.heap.size, 3, none⟩ = some (.int .u64 x3) := cell_of_row _ _ 3 _ _ (0, 0) hO
      have v4 : w3.cell? ⟨w.heap.size, 4, none⟩ = some (.string x4) := cell_of_row _ _ 4 _ _ (0, 0) hO
      have v5 : w3.cell? ⟨w.heap.size, 5, none⟩ = some (.string x5) := cell_of_row _ _ 5 _ _ (0, 0) hO
      have v6 : w3.cell? ⟨w.heap.size, 6, none⟩ = some (.int .i64 x6) := cell_of_row _ _ 6 _ _ (0, 0) hO
      have v7 : w3.cell? ⟨w.heap.size, 7, none⟩ = some (.int .i64 x7) := cell_of_row _ _ 7 _ _ (0, 0) hO
      have v8 : w3.cell? ⟨w.heap.size, 8, none⟩ = some (.bool x8) := cell_of_row _ _ 8 _ _ (0, 0) hO
      have v9 : w3.cell? ⟨w.heap.size, 9, none⟩ = some (.slice xA k xc) := cell_of_row _ _ 9 _ _ (0, 0) hO
      exact ⟨.agg #[.int .u64 x0, .int .u64 x1, .int .u64 x2, .int .u64 x3, .string x4, .string x5, .int .i64 x6, .int .i64 x7, .bool x8, .slice xA k xc], w3, by simp only [execOp, h1]; simp [go_sem, v0, v1, v2, v3, v4, v5, v6, v7, v8, v9], PI.Post.pure ⟨fun w => Below.refl _ w, fun _ _ _ h k => h.trans k⟩ rfl trivial⟩
    · obtain rfl := Option.some.inj (show some _ = some o from ho)
      refine PI.shown_val_if 30 76 true rfl (by kernel_rfl) (by kernel_rfl) (by kernel_rfl) (fun v w h => h) fun a w3 L0 hr T => ?_
      have h1 : a.eval (.tmp 4) = .pointer (some ⟨w.heap.size + 1, 0, none⟩) := T.was 4 (by kernel_rfl)
      have hO := (hr.block _ (in_heap HYW.out)).trans HYW.out
      have v0 : w3.cell? ⟨w.heap.size + 1, 0, none⟩ = some (.int .u64 y0) := cell_of_row _ _ 0 _ _ (0, 0) hO
      have v1 : w3.cell? ⟨w.heap.size + 1, 1, none⟩ = some (.int .u64 y1) := cell_of_row _ _ 1 _ _ (0, 0) hO
      have v2 : w3.cell? ⟨w.heap.size + 1, 2, none⟩ = some (.int .u64 y2) := cell_of_row _ _ 2 _ _ (0, 0) hO
      have v3 : w3.cell? ⟨w.heap.size + 1, 3, none⟩ = some (.int .u64 y3) := cell_of_row _ _ 3 _ _ (0, 0) hO
      have v4 : w3.cell? ⟨w.heap.size + 1, 4, none⟩ = some (.string y4) := cell_of_row _ _ 4 _ _ (0, 0) hO
      have v5 : w3.cell? ⟨w.heap.size + 1, 5, none⟩ = some (.string y5) := cell_of_row _ _ 5 _ _ (0, 0) hO
      have v6 : w3.cell? ⟨w.heap.size + 1, 6, none⟩ = some (.int .i64 y6) := cell_of_row _ _ 6 _ _ (0, 0) hO
      have v7 : w3.cell? ⟨w.heap.size + 1, 7, none⟩ = some (.int .i64 y7) := cell_of_row _ _ 7 _ _ (0, 0) hO
      have v8 : w3.cell? ⟨w.heap.size + 1, 8, none⟩ = some (.bool y8) := cell_of_row _ _ 8 _ _ (0, 0) hO
      have v9 : w3.cell? ⟨w.heap.size + 1, 9, none⟩ = some (.slice yA m yc) := cell_of_row _ _ 9 _ _ (0, 0) hO
      exact ⟨.agg #[.int .u64 y0, .int .u64 y1, .int .u64 y2, .int .u64 y3, .string y4, .string y5, .int .i64 y6, .int .i64 y7, .bool y8, .slice yA m yc], w3, by simp only [execOp, h1]; simp [go_sem, v0, v1, v2, v3, v4, v5, v6, v7, v8, v9], PI.Post.pure ⟨fun w => Below.refl _ w, fun _ _ _ h k => h.trans k⟩ rfl trivial⟩
    · obtain rfl := Option.some.inj (show some _ = some o from ho)
      refine PI.shown_call_if 30 76 true rfl (by kernel_rfl) (by kernel_rfl) (by kernel_rfl) (fun v w h => h) 34 fun a w3 L0 hr T => ?_
      have h31 : a.eval (.tmp 77) = .agg #[.int .u64 x0, .int .u64 x1, .int .u64 x2, .int .u64 x3, .string x4, .string x5, .int .i64 x6, .int .i64 x7, .bool x8, .slice xA k xc] := T.at_ 31 77 (by kernel_rfl) (by kernel_rfl) (by kernel_rfl)
      have h32 : a.eval (.tmp 78) = .agg #[.int .u64 y0, .int .u64 y1, .int .u64 y2, .int .u64 y3, .string y4, .string y5, .int .i64 y6, .int .i64 y7, .bool y8, .slice yA m yc] := T.at_ 32 78 (by kernel_rfl) (by kernel_rfl) (by kernel_rfl)
      refine ⟨#[.agg #[.int .u64 x0, .int .u64 x1, .int .u64 x2, .int .u64 x3, .string x4, .string x5, .int .i64 x6, .int .i64 x7, .bool x8, .slice xA k xc], .agg #[.int .u64 y0, .int .u64 y1, .int .u64 y2, .int .u64 y3, .string y4, .string y5, .int .i64 y6, .int .i64 y7, .bool y8, .slice yA m yc]], by simp only [execOp, resolve, List.map_toArray, List.map_cons, List.map_nil, h31, h32]; simp [go_sem, Act.eval], ?_⟩
      refine (HSM.out w3 hr).mono fun e w4 hh => ?_
      obtain ⟨rfl, hb4⟩ := hh
      exact ⟨_, rfl, hb4.mono hr.size, rfl, fun _ _ h => h, fun j v _ _ _ _ h => h.keep (fun mm xs ho => own_below ho hb4), trivial⟩
    · obtain rfl := Option.some.inj (show some _ = some o from ho)
      refine PI.shown_val_if 30 76 true rfl (by kernel_rfl) (by kernel_rfl) (by kernel_rfl) (fun v w h => h) fun a w3 L0 hr T => ?_
      have h1 : a.eval (.tmp 3) = .pointer (some ⟨w.heap.size, 0, none⟩) := T.was 3 (by kernel_rfl)
      have hO := (hr.block _ (in_heap HXW.out)).trans HXW.out
      have v0 : w3.cell? ⟨w.heap.size, 0, none⟩ = some (.int .u64 x0) := cell_of_row _ _ 0 _ _ (0, 0) hO
      have v1 : w3.cell? ⟨w.heap.size, 1, none⟩ = some (.int .u64 x1) := cell_of_row _ _ 1 _ _ (0, 0) hO
      have v2 : w3.cell? ⟨w.heap.size, 2, none⟩ = some (.int .u64 x2) := cell_of_row _ _ 2 _ _ (0, 0) hO
      have v3 : w3.cell? ⟨w.heap.size, 3, none⟩ = some (.int .u64 x3) := cell_of_row _ _ 3 _ _ (0, 0) hO
      have v4 : w3.cell? ⟨w.heap.size, 4, none⟩ = some (.string x4) := cell_of_row _ _ 4 _ _ (0, 0) hO
      have v5 : w3.cell? ⟨w.heap.size, 5, none⟩ = some (.string x5) := cell_of_row _ _ 5 _ _ (0, 0) hO
      have v6 : w3.cell? ⟨w.heap.size, 6, none⟩ = some (.int .i64 x6) := cell_of_row _ _ 6 _ _ (0, 0) hO
      have v7 : w3.cell? ⟨w.heap.size, 7, none⟩ = some (.int .i64 x7) := cell_of_row _ _ 7 _ _ (0, 0) hO
      have v8 : w3.cell? ⟨w.heap.size, 8, none⟩ = some (.bool x8) := cell_of_row _ _ 8 _ _ (0, 0) hO
      have v9 : w3.cell? ⟨w.heap.size, 9, none⟩ = some (.slice xA k xc) := cell_of_row _ _ 9 _ _ (0, 0) hO
      exact ⟨.agg #[.int .u64 x0, .int .u64 x1, .int .u64 x2, .int .u64 x3, .string x4, .string x5, .int .i64 x6, .int .i64 x7, .bool x8, .slice xA k xc], w3, by simp only [execOp, h1]; simp [go_sem, v0, v1, v2, v3, v4, v5, v6, v7, v8, v9], PI.Post.pure ⟨fun w => Below.refl _ w, fun _ _ _ h k => h.trans k⟩ rfl trivial⟩
    · obtain rfl := Option.some.inj (show some _ = some o from ho)
      refine PI.shown_val_if 30 76 true rfl (by kernel_rfl) (by kernel_rfl) (by kernel_rfl) (fun v w h => h) fun a w3 L0 hr T => ?_
      have h1 : a.eval (.tmp 4) = .pointer (some ⟨w.heap.size + 1, 0, none⟩) := T.was 4 (by kernel_rfl)
      have hO := (hr.block _ (in_heap HYW.out)).trans HYW.out
      have v0 : w3.cell? ⟨w.heap.size + 1, 0, none⟩ = some (.int .u64 y0) := cell_of_row _ _ 0 _ _ (0, 0) hO
      have v1 : w3.cell? ⟨w.heap.size + 1, 1, none⟩ = some (.int .u64 y1) := cell_of_row _ _ 1 _ _ (0, 0) hO
      have v2 : w3.cell? ⟨w.heap.size + 1, 2, none⟩ = some (.int .u64 y2) := cell_of_row _ _ 2 _ _ (0, 0) hO
      have v3 : w3.cell? ⟨w.heap.size + 1, 3, none⟩ = some (.int .u64 y3) := cell_of_row _ _ 3 _ _ (0, 0) hO
      have v4 : w3.cell? ⟨w.heap.size + 1, 4, none⟩ = some (.string y4) := cell_of_row _ _ 4 _ _ (0, 0) hO
      have v5 : w3.cell? ⟨w.heap.size + 1, 5, none⟩ = some (.string y5) := cell_of_row _ _ 5 _ _ (0, 0) hO
      have v6 : w3.cell? ⟨w.heap.size + 1, 6, none⟩ = some (.int .i64 y6) := cell_of_row _ _ 6 _ _ (0, 0) hO
      have v7 : w3.cell? ⟨w.heap.size + 1, 7, none⟩ = some (.int .i64 y7) := cell_of_row _ _ 7 _ _ (0, 0) hO
      have v8 : w3.cell? ⟨w.heap.size + 1, 8, none⟩ = some (.bool y8) := cell_of_row _ _ 8 _ _ (0, 0) hO
      have v9 : w3.cell? ⟨w.heap.size + 1, 9, none⟩ = some (.slice yA m yc) := cell_of_row _ _ 9 _ _ (0, 0) hO
      exact ⟨.agg #[.int .u64 y0, .int .u64 y1, .int .u64 y2, .int .u64 y3, .string y4, .string y5, .int .i64 y6, .int .i64 y7, .bool y8, .slice yA m yc], w3, by simp only [execOp, h1]; simp [go_sem, v0, v1, v2, v3, v4, v5, v6, v7, v8, v9], PI.Post.pure ⟨fun w => Below.refl _ w, fun _ _ _ h k => h.trans k⟩ rfl trivial⟩
    · obtain rfl := Option.some.inj (show some _ = some o from ho)
      refine PI.shown_call_if 30 76 true rfl (by kernel_rfl) (by kernel_rfl) (by kernel_rfl) (fun v w h => h) 32 fun a w3 L0 hr T => ?_
      have h34 : a.eval (.tmp 80) = .agg #[.int .u64 x0, .int .u64 x1, .int .u64 x2, .int .u64 x3, .string x4, .string x5, .int .i64 x6, .int .i64 x7, .bool x8, .slice xA k xc] := T.at_ 34 80 (by kernel_rfl) (by kernel_rfl) (by kernel_rfl)
      have h35 : a.eval (.tmp 81) = .agg #[.int .u64 y0, .int .u64 y1, .int .u64 y2, .int .u64 y3, .string y4, .string y5, .int .i64 y6, .int .i64 y7, .bool y8, .slice yA m yc] := T.at_ 35 81 (by kernel_rfl) (by kernel_rfl) (by kernel_rfl)
      refine ⟨#[.agg #[.int .u64 x0, .int .u64 x1, .int .u64 x2, .int .u64 x3, .string x4, .string x5, .int .i64 x6, .int .i64 x7, .bool x8, .slice xA k xc], .agg #[.int .u64 y0, .int .u64 y1, .int .u64 y2, .int .u64 y3, .string y4, .string y5, .int .i64 y6, .int .i64 y7, .bool y8, .slice yA m yc]], by simp only [execOp, resolve, List.map_toArray, List.map_cons, List.map_nil, h34, h35]; simp [go_sem, Act.eval], ?_⟩
      refine (HSD.out w3 hr).mono fun e w4 hh => ?_
      obtain ⟨rfl, hb4⟩ := hh
      exact ⟨_, rfl, hb4.mono hr.size, rfl, fun _ _ h => h, fun j v _ _ _ _ h => h.keep (fun mm xs ho => own_below ho hb4), trivial⟩
    · obtain rfl := Option.some.inj (show some _ = some o from ho)
      refine PI.shown_val_if 30 76 true rfl (by kernel_rfl) (by kernel_rfl) (by kernel_rfl) (fun v w h => h) fun a w3 L0 hr T => ?_
      have h1 : a.eval (.tmp 79) = .bool sm := T.at_ 33 79 (by kernel_rfl) (by kernel_rfl) (by kernel_rfl)
      have h2 : a.eval (.tmp 82) = .bool sm := T.at_ 36 82 (by kernel_rfl) (by kernel_rfl) (by kernel_rfl)
      exact ⟨.bool true, w3, by simp only [execOp, h1, h2]; simp [go_sem], PI.Post.pure ⟨fun w => Below.refl _ w, fun _ _ _ h k => h.trans k⟩ rfl trivial⟩
    · obtain rfl := Option.some.inj (show some _ = some o from ho)
      refine PI.shown_val rfl fun a w3 L0 hr T => ?_
      have h1 : a.eval (.tmp 76) = .bool true := T.at_ 30 76 (by kernel_rfl) (by kernel_rfl) (by kernel_rfl)
      have h2 : a.eval (.tmp 83) = .bool true := T.at_ 37 83 (by kernel_rfl) (by kernel_rfl) (by kernel_rfl)
      exact ⟨.bool true, w3, by simp only [execOp, h1, h2]; simp [go_sem, Act.eval], PI.Post.pure ⟨fun w => Below.refl _ w, fun _ _ _ h k => h.trans k⟩ rfl trivial⟩
    · obtain rfl := Option.some.inj (show some _ = some o from ho)
      refine PI.shown_val rfl fun a w3 L0 hr T => ?_
      have h1 : a.eval (.tmp 84) = .bool true := T.at_ 38 84 (by kernel_rfl) (by kernel_rfl) (by kernel_rfl)
      exact ⟨.bool true, w3, by simp only [execOp, h1]; simp [go_sem], PI.Post.pure ⟨fun w => Below.refl _ w, fun _ _ _ h k => h.trans k⟩ rfl trivial⟩
    · obtain rfl := Option.some.inj (show some _ = some o from ho)
      refine PI.shown_val_if 39 85 true rfl (by kernel_rfl) (by kernel_rfl) (by kernel_rfl) (fun v w h => h) fun a w3 L0 hr T => ?_
      have h1 : a.eval (.tmp 3) = .pointer (some ⟨w.heap.size, 0, none⟩) := T.was 3 (by kernel_rfl)
      have hO := (hr.block _ (in_heap HXW.out)).trans HXW.out
      have v0 : w3.cell? ⟨w.heap.size, 0, none⟩ = some (.int .u64 x0) := cell_of_row _ _ 0 _ _ (0, 0) hO
      have v1 : w3.cell? ⟨w.heap.size, 1, none⟩ = some (.int .u64 x1) := cell_of_row _ _ 1 _ _ (0, 0) hO
      have v2 : w3.cell? ⟨w.heap.size, 2, none⟩ = some (.int .u64 x2) := cell_of_row _ _ 2 _ _ (0, 0) hO
      have v3 : w3.cell? ⟨w.heap.size, 3, none⟩ = some (.int .u64 x3) := cell_of_row _ _ 3 _ _ (0, 0) hO
      have v4 : w3.cell? ⟨w.heap.size, 4, none⟩ = some (.string x4) := cell_of_row _ _ 4 _ _ (0, 0) hO
      have v5 : w3.cell? ⟨w.heap.size, 5, none⟩ = some (.string x5) := cell_of_row _ _ 5 _ _ (0, 0) hO
      have v6 : w3.cell? ⟨w.heap.size, 6, none⟩ = some (.int .i64 x6) := cell_of_row _ _ 6 _ _ (0, 0) hO
      have v7 : w3.cell? ⟨w.heap.size, 7, none⟩ = some (.int .i64 x7) := cell_of_row _ _ 7 _ _ (0, 0) hO
      have v8 : w3.cell? ⟨w.heap.size, 8, none⟩ = some (.bool x8) := cell_of_row _ _ 8 _ _ (0, 0) hO
      have v9 : w3.cell? ⟨w.heap.size, 9, none⟩ = some (.slice xA k xc) := cell_of_row _ _ 9 _ _ (0, 0) hO
      exact ⟨.agg #[.int .u64 x0, .int .u64 x1, .int .u64 x2, .int .u64 x3, .string x4, .string x5, .int .i64 x6, .int .i64 x7, .bool x8, .slice xA k xc], w3, by simp only [execOp, h1]; simp [go_sem, v0, v1, v2, v3, v4, v5, v6, v7, v8, v9], PI.Post.pure ⟨fun w => Below.refl _ w, fun _ _ _ h k => h.trans k⟩ rfl trivial⟩
    · obtain rfl := Option.some.inj (show some _ = some o from ho)
      refine PI.shown_val_if 39 85 true rfl (by kernel_rfl) (by kernel_rfl) (by kernel_rfl) (fun v w h => h) fun a w3 L0 hr T => ?_
      have h1 : a.eval (.tmp 3) = .pointer (some ⟨w.heap.size, 0, none⟩) := T.was 3 (by kernel_rfl)
      have hO := (hr.block _ (in_heap HXW.out)).trans HXW.out
      have v0 : w3.cell? ⟨w.heap.size, 0, none⟩ = some (.int .u64 x0) := cell_of_row _ _ 0 _ _ (0, 0) hO
      have v1 : w3.cell? ⟨w.heap.size, 1, none⟩ = some (.int .u64 x1) := cell_of_row _ _ 1 _ _ (0, 0) hO
      have v2 : w3.cell? ⟨w.heap.size, 2, none⟩ = some (.int .u64 x2) := cell_of_row _ _ 2 _ _ (0, 0) hO
      have v3 : w3.cell? ⟨w.heap.size, 3, none⟩ = some (.int .u64 x3) := cell_of_row _ _ 3 _ _ (0, 0) hO
      have v4 : w3.cell? ⟨w.heap.size, 4, none⟩ = some (.string x4) := cell_of_row _ _ 4 _ _ (0, 0) hO
      have v5 : w3.cell? ⟨w.heap.size, 5, none⟩ = some (.string x5) := cell_of_row _ _ 5 _ _ (0, 0) hO
      have v6 : w3.cell? ⟨w.heap.size, 6, none⟩ = some (.int .i64 x6) := cell_of_row _ _ 6 _ _ (0, 0) hO
      have v7 : w3.cell? ⟨w.heap.size, 7, none⟩ = some (.int .i64 x7) := cell_of_row _ _ 7 _ _ (0, 0) hO
      have v8 : w3.cell? ⟨w.heap.size, 8, none⟩ = some (.bool x8) := cell_of_row _ _ 8 _ _ (0, 0) hO
      have v9 : w3.cell? ⟨w.heap.size, 9, none⟩ = some (.slice xA k xc) := cell_of_row _ _ 9 _ _ (0, 0) hO
      exact ⟨.agg #[.int .u64 x0, .int .u64 x1, .int .u64 x2, .int .u64 x3, .string x4, .string x5, .int .i64 x6, .int .i64 x7, .bool x8, .slice xA k xc], w3, by simp only [execOp, h1]; simp [go_sem, v0, v1, v2, v3, v4, v5, v6, v7, v8, v9], PI.Post.pure ⟨fun w => Below.refl _ w, fun _ _ _ h k => h.trans k⟩ rfl trivial⟩
    · obtain rfl := Option.some.inj (show some _ = some o from ho)
      refine PI.shown_call_if 39 85 true rfl (by kernel_rfl) (by kernel_rfl) (by kernel_rfl) (fun v w h => h) 34 fun a w3 L0 hr T => ?_
      have h40 : a.eval (.tmp 86) = .agg #[.int .u64 x0, .int .u64 x1, .int .u64 x2, .int .u64 x3, .string x4, .string x5, .int .i64 x6, .int .i64 x7, .bool x8, .slice xA k xc] := T.at_ 40 86 (by kernel_rfl) (by kernel_rfl) (by kernel_rfl)
      have h41 : a.eval (.tmp 87) = .agg #[.int .u64 x0, .int .u64 x1, .int .u64 x2, .int .u64 x3, .string x4, .string x5, .int .i64 x6, .int .i64 x7, .bool x8, .slice xA k xc] := T.at_ 41 87 (by kernel_rfl) (by kernel_rfl) (by kernel_rfl)
      refine ⟨#[.agg #[.int .u64 x0, .int .u64 x1, .int .u64 x2, .int .u64 x3, .string x4, .string x5, .int .i64 x6, .int .i64 x7, .bool x8, .slice xA k xc], .agg #[.int .u64 x0, .int .u64 x1, .int .u64 x2, .int .u64 x3, .string x4, .string x5, .int .i64 x6, .int .i64 x7, .bool x8, .slice xA k xc]], by simp only [execOp, resolve, List.map_toArray, List.map_cons, List.map_nil, h40, h41]; simp [go_sem, Act.eval], ?_⟩
      refine (HSS.out w3 hr).mono fun e w4 hh => ?_
      obtain ⟨rfl, hb4⟩ := hh
      exact ⟨_, rfl, hb4.mono hr.size, rfl, fun _ _ h => h, fun j v _ _ _ _ h => h.keep (fun mm xs ho => own_below ho hb4), trivial⟩
    · obtain rfl := Option.some.inj (show some _ = some o from ho)
      refine PI.shown_val rfl fun a w3 L0 hr T => ?_
      have h1 : a.eval (.tmp 85) = .bool true := T.at_ 39 85 (by kernel_rfl) (by kernel_rfl) (by kernel_rfl)
      have h2 : a.eval (.tmp 88) = .bool true := T.at_ 42 88 (by kernel_rfl) (by kernel_rfl) (by kernel_rfl)
      exact ⟨.bool true, w3, by simp only [execOp, h1, h2]; simp [go_sem, Act.eval], PI.Post.pure ⟨fun w => Below.refl _ w, fun _ _ _ h k => h.trans k⟩ rfl trivial⟩
    · obtain rfl := Option.some.inj (show some _ = some o from ho)
      refine PI.shown_val rfl fun a w3 L0 hr T => ?_
      have h1 : a.eval (.tmp 89) = .bool true := T.at_ 43 89 (by kernel_rfl) (by kernel_rfl) (by kernel_rfl)
      exact ⟨.bool true, w3, by simp only [execOp, h1]; simp [go_sem], PI.Post.pure ⟨fun w => Below.refl _ w, fun _ _ _ h k => h.trans k⟩ rfl trivial⟩
    · cases ho
  · rw [← hW]
    intro x w9 hr hf he _
    have h44 := hf 44 _ 6 rfl rfl (by decide)
    have hx44 : x 44 = .bool true := h44
    have HB9 := Lib.hid (HBW.out.trans (hr.mono HBW.out.size))
    clear hf he hr h44
    simp only [PI.putAll, Act.put, List.setIfInBounds_toArray, List.set_cons_zero, List.set_cons_succ]
    rw [hx44]
    go_wp2_with fail
    go_ret
    exact ⟨rfl, HB9.out⟩
end Go.Proofs.Ythkclgkbidhmbaa
