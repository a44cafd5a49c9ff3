/- The document's AddRows. -/
import Derived.Test.YtkhhcnpmobgdgaaDoorYu
import Derived.Test.YtkhhcnpmobgdgaaDoorPil
namespace Go.Proofs.YtkhhcnpmobgdgaaDoor
open Go.RowKit
set_option linter.unusedVariables false
set_option linter.unusedSimpArgs false
set_option maxRecDepth 100000

theorem appRs {w : World} {ty : TypeId} {base n m c : Nat} {v : Value} {A : Option Addr} {L K : List Rw} (h : w.ownsRow base 48 14 v n (L.flatMap Rw.cells)) {B : Nat} (hr : Rd w B A (K.flatMap Rw.cells)) (hm : m = K.length) (hs : n + m ≤ 1000000) (hbase : base ≤ w.heap.size) :
    ∃ v' w', (Builtin.append_ #[22, 22] ty #[v, .slice A m c]).run Tryd.prog w = .ok v' w' ∧ w'.ownsRow base 48 14 v' (n + m) ((L ++ K).flatMap Rw.cells) ∧ Grew w w' v v' := by
  obtain ⟨i0, hi, hz0, hz1, hz2⟩ := info_parts r_info
  obtain ⟨v', w', r1, r2, r3⟩ := run_append_rd (P := Tryd.prog) w base 22 ty 48 i0 _ 14 128 Tryd.underlying22 hi hz0 hz1 hz2 rfl v n (L.flatMap Rw.cells) h B A m c (K.flatMap Rw.cells) (by rw [flatMap_len _ 14 rcells_len, hm]) hr (rcells_one K) (by unfold maxLen; omega) (by omega) hbase
  exact ⟨v', w', r1, by rw [List.flatMap_append]; exact r2, r3⟩
theorem rdR_take {w : World} {B : Nat} {A : Option Addr} {L : List Rw} {j : Nat} (hr : Rd w B A (L.flatMap Rw.cells)) : Rd w B A ((L.take j).flatMap Rw.cells) := fun h0 => by
  have he : L.flatMap Rw.cells = (L.take j).flatMap Rw.cells ++ (L.drop j).flatMap Rw.cells := by rw [← List.flatMap_append, List.take_append_drop]
  rw [he] at hr
  obtain ⟨a, h1, h2, h3⟩ := hr (by rw [List.length_append]; omega)
  refine ⟨a, h1, h2, fun i u hu => h3 i u ?_⟩
  rw [List.getElem?_append_left]
  · exact hu
  · exact (List.getElem?_eq_some_iff.1 hu).1
theorem rdR_drop {w : World} {B : Nat} {a : Addr} {L : List Rw} {j : Nat} (hj : j ≤ L.length) (hr : Rd w B (some a) (L.flatMap Rw.cells)) : Rd w B (some (a.add (j * 14))) ((L.drop j).flatMap Rw.cells) := fun h0 => by
  have he : L.flatMap Rw.cells = (L.take j).flatMap Rw.cells ++ (L.drop j).flatMap Rw.cells := by rw [← List.flatMap_append, List.take_append_drop]
  have hl : ((L.take j).flatMap Rw.cells).length = j * 14 := by rw [flatMap_len _ 14 rcells_len, List.length_take]; congr 1; omega
  rw [he] at hr
  obtain ⟨a', h1, h2, h3⟩ := hr (by rw [List.length_append]; omega)
  injection h1 with h1
  subst h1
  refine ⟨_, rfl, by unfold Addr.add; split <;> exact h2, fun i u hu => ?_⟩
  have h4 := h3 (j * 14 + i) u (by rw [List.getElem?_append_right (by omega), hl]; simpa using hu)
  rw [add_add]
  exact h4

theorem tail_store {w : World} {g : Nat} {t : TypeId} {a0 a1 a2 a3 b0 b1 b2 b3 b4 b5 b6 b7 b8 b9 c0 c1 c2 c3 c4 c5 c6 c7 c8 c9 : Value} (h : w.heap[g]? = some (.cells #[a0, a1, a2, a3, b0, b1, b2, b3, b4, b5, b6, b7, b8, b9] t (0, 0))) : (((((((((((w.setCell ⟨g, 4, none⟩ c0).setCell ⟨g, 5, none⟩ c1).setCell ⟨g, 6, none⟩ c2).setCell ⟨g, 7, none⟩ c3).setCell ⟨g, 8, none⟩ c4).setCell ⟨g, 9, none⟩ c5).setCell ⟨g, 10, none⟩ c6).setCell ⟨g, 11, none⟩ c7).setCell ⟨g, 12, none⟩ c8).setCell ⟨g, 13, none⟩ c9)).heap[g]? = some (.cells #[a0, a1, a2, a3, c0, c1, c2, c3, c4, c5, c6, c7, c8, c9] t (0, 0)) := by
  have h0 : ((w.setCell ⟨g, 4, none⟩ c0)).heap[g]? = some (.cells #[a0, a1, a2, a3, c0, b1, b2, b3, b4, b5, b6, b7, b8, b9] t (0, 0)) := heap_setCell_same _ g 4 _ _ c0 h
  have h1 : (((w.setCell ⟨g, 4, none⟩ c0).setCell ⟨g, 5, none⟩ c1)).heap[g]? = some (.cells #[a0, a1, a2, a3, c0, c1, b2, b3, b4, b5, b6, b7, b8, b9] t (0, 0)) := heap_setCell_same _ g 5 _ _ c1 h0
  have h2 : ((((w.setCell ⟨g, 4, none⟩ c0).setCell ⟨g, 5, none⟩ c1).setCell ⟨g, 6, none⟩ c2)).heap[g]? = some (.cells #[a0, a1, a2, a3, c0, c1, c2, b3, b4, b5, b6, b7, b8, b9] t (0, 0)) := heap_setCell_same _ g 6 _ _ c2 h1
  have h3 : (((((w.setCell ⟨g, 4, none⟩ c0).setCell ⟨g, 5, none⟩ c1).setCell ⟨g, 6, none⟩ c2).setCell ⟨g, 7, none⟩ c3)).heap[g]? = some (.cells #[a0, a1, a2, a3, c0, c1, c2, c3, b4, b5, b6, b7, b8, b9] t (0, 0)) := heap_setCell_same _ g 7 _ _ c3 h2
  have h4 : ((((((w.setCell ⟨g, 4, none⟩ c0).setCell ⟨g, 5, none⟩ c1).setCell ⟨g, 6, none⟩ c2).setCell ⟨g, 7, none⟩ c3).setCell ⟨g, 8, none⟩ c4)).heap[g]? = some (.cells #[a0, a1, a2, a3, c0, c1, c2, c3, c4, b5, b6, b7, b8, b9] t (0, 0)) := heap_setCell_same _ g 8 _ _ c4 h3
  have h5 : (((((((w.setCell ⟨g, 4, none⟩ c0).setCell ⟨g, 5, none⟩ c1).setCell ⟨g, 6, none⟩ c2).setCell ⟨g, 7, none⟩ c3).setCell ⟨g, 8, none⟩ c4).setCell ⟨g, 9, none⟩ c5)).heap[g]? = some (.cells #[a0, a1, a2, a3, c0, c1, c2, c3, c4, c5, b6, b7, b8, b9] t (0, 0)) := heap_setCell_same _ g 9 _ _ c5 h4
  have h6 : ((((((((w.setCell ⟨g, 4, none⟩ c0).setCell ⟨g, 5, none⟩ c1).setCell ⟨g, 6, none⟩ c2).setCell ⟨g, 7, none⟩ c3).setCell ⟨g, 8, none⟩ c4).setCell ⟨g, 9, none⟩ c5).setCell ⟨g, 10, none⟩ c6)).heap[g]? = some (.cells #[a0, a1, a2, a3, c0, c1, c2, c3, c4, c5, c6, b7, b8, b9] t (0, 0)) := heap_setCell_same _ g 10 _ _ c6 h5
  have h7 : (((((((((w.setCell ⟨g, 4, none⟩ c0).setCell ⟨g, 5, none⟩ c1).setCell ⟨g, 6, none⟩ c2).setCell ⟨g, 7, none⟩ c3).setCell ⟨g, 8, none⟩ c4).setCell ⟨g, 9, none⟩ c5).setCell ⟨g, 10, none⟩ c6).setCell ⟨g, 11, none⟩ c7)).heap[g]? = some (.cells #[a0, a1, a2, a3, c0, c1, c2, c3, c4, c5, c6, c7, b8, b9] t (0, 0)) := heap_setCell_same _ g 11 _ _ c7 h6
  have h8 : ((((((((((w.setCell ⟨g, 4, none⟩ c0).setCell ⟨g, 5, none⟩ c1).setCell ⟨g, 6, none⟩ c2).setCell ⟨g, 7, none⟩ c3).setCell ⟨g, 8, none⟩ c4).setCell ⟨g, 9, none⟩ c5).setCell ⟨g, 10, none⟩ c6).setCell ⟨g, 11, none⟩ c7).setCell ⟨g, 12, none⟩ c8)).heap[g]? = some (.cells #[a0, a1, a2, a3, c0, c1, c2, c3, c4, c5, c6, c7, c8, b9] t (0, 0)) := heap_setCell_same _ g 12 _ _ c8 h7
  have h9 : (((((((((((w.setCell ⟨g, 4, none⟩ c0).setCell ⟨g, 5, none⟩ c1).setCell ⟨g, 6, none⟩ c2).setCell ⟨g, 7, none⟩ c3).setCell ⟨g, 8, none⟩ c4).setCell ⟨g, 9, none⟩ c5).setCell ⟨g, 10, none⟩ c6).setCell ⟨g, 11, none⟩ c7).setCell ⟨g, 12, none⟩ c8).setCell ⟨g, 13, none⟩ c9)).heap[g]? = some (.cells #[a0, a1, a2, a3, c0, c1, c2, c3, c4, c5, c6, c7, c8, c9] t (0, 0)) := heap_setCell_same _ g 13 _ _ c9 h8
  exact h9
theorem tail_below {w a : World} {B g : Nat} {c0 c1 c2 c3 c4 c5 c6 c7 c8 c9 : Value} (h : Below B a w) (hg : B ≤ g) : Below B a (((((((((((w.setCell ⟨g, 4, none⟩ c0).setCell ⟨g, 5, none⟩ c1).setCell ⟨g, 6, none⟩ c2).setCell ⟨g, 7, none⟩ c3).setCell ⟨g, 8, none⟩ c4).setCell ⟨g, 9, none⟩ c5).setCell ⟨g, 10, none⟩ c6).setCell ⟨g, 11, none⟩ c7).setCell ⟨g, 12, none⟩ c8).setCell ⟨g, 13, none⟩ c9)) := ((((((((((h.setCell (p := ⟨g, 4, none⟩) hg c0).setCell (p := ⟨g, 5, none⟩) hg c1).setCell (p := ⟨g, 6, none⟩) hg c2).setCell (p := ⟨g, 7, none⟩) hg c3).setCell (p := ⟨g, 8, none⟩) hg c4).setCell (p := ⟨g, 9, none⟩) hg c5).setCell (p := ⟨g, 10, none⟩) hg c6).setCell (p := ⟨g, 11, none⟩) hg c7).setCell (p := ⟨g, 12, none⟩) hg c8).setCell (p := ⟨g, 13, none⟩) hg c9)
theorem PI.ToldG.doneY {ops : Array Oper} {a0 : Act} {R : World → World → Prop} {G : Nat → World → Prop} {FF : Nat → Value → World → Prop} {nd : List (Nat × Nat)} {I : (Nat → Bool) → Act → World → Prop} {L : Nat → Bool} {i : Nat} {o : Oper} {a : Act} {w : World} (T : PI.ToldG ops a0 R G FF nd I L i o a w) (j : Nat) (h : (o.after.any fun e => Region.binds .any e && e.on == j) = true) : L j = true := by
  obtain ⟨e, he, hb, rfl⟩ := PI.after_of h
  exact T.done e he hb
theorem GOESY {N : Nat} : PI.Goes (fun a b => Below N a b) := ⟨fun w => Below.refl _ w, fun _ _ _ h q => h.trans q⟩
def AsF (A' A3 : Option Addr) (n c p N : Nat) (r : Rw) (L : List Rw) : Nat → Value → World → Prop
  | 0, u, _ => u = .slice A' n c
  | 1, u, _ => u = .int .i64 (p : Int)
  | 2, u, _ => u = .slice A' p c
  | 3, u, w => w.ownsRow N 48 14 u p ((L.take p).flatMap Rw.cells)
  | 4, u, _ => u = .agg r.cells.toArray
  | 5, u, w => w.ownsRow N 48 14 u 1 (([r] : List Rw).flatMap Rw.cells)
  | 6, u, w => w.ownsRow N 48 14 u (p + 1) ((L.take p ++ [r]).flatMap Rw.cells)
  | 7, u, _ => u = .slice A' n c
  | 8, u, _ => u = .int .i64 (p : Int)
  | 9, u, _ => u = .slice A3 (n - p) (c - p)
  | 10, u, w => w.ownsRow N 48 14 u (n + 1) ((L.take p ++ [r] ++ L.drop p).flatMap Rw.cells)
  | 11, u, w => w.ownsRow N 48 14 u (n + 1) ((L.take p ++ [r] ++ L.drop p).flatMap Rw.cells)
  | _, _, _ => True
theorem AsF.keep {A' A3 : Option Addr} {n c p N : Nat} {r : Rw} {L : List Rw} {i : Nat} {u : Value} {w w' : World} (h : AsF A' A3 n c p N r L i u w) (hr : ∀ m xs, w.ownsRow N 48 14 u m xs → w'.ownsRow N 48 14 u m xs) : AsF A' A3 n c p N r L i u w' := by
  match i, h with
  | 0, h => exact h
  | 1, h => exact h
  | 2, h => exact h
  | 3, h => exact hr _ _ h
  | 4, h => exact h
  | 5, h => exact hr _ _ h
  | 6, h => exact hr _ _ h
  | 7, h => exact h
  | 8, h => exact h
  | 9, h => exact h
  | 10, h => exact hr _ _ h
  | 11, h => exact hr _ _ h
  | _ + 12, h => trivial
theorem AsF.other {A' A3 : Option Addr} {n c p N : Nat} {r : Rw} {L : List Rw} {i : Nat} {u : Value} {w w' : World} (h : AsF A' A3 n c p N r L i u w) (hi : ¬ (i = 3 ∨ i = 5 ∨ i = 6 ∨ i = 10 ∨ i = 11)) : AsF A' A3 n c p N r L i u w' := by
  match i, h, hi with
  | 0, h, hi => exact h
  | 1, h, hi => exact h
  | 2, h, hi => exact h
  | 3, h, hi => exact absurd (by decide) hi
  | 4, h, hi => exact h
  | 5, h, hi => exact absurd (by decide) hi
  | 6, h, hi => exact absurd (by decide) hi
  | 7, h, hi => exact h
  | 8, h, hi => exact h
  | 9, h, hi => exact h
  | 10, h, hi => exact absurd (by decide) hi
  | 11, h, hi => exact absurd (by decide) hi
  | _ + 12, h, hi => trivial

theorem own_block_geY {w : World} {base e size n : Nat} {v : Value} {xs : List Value} (h : w.ownsRow base e size v n xs) : ∀ k, v.ownBlock = some k → base ≤ k := own_block_ge h
theorem own_farY {w : World} {base e size n : Nat} {v : Value} {xs : List Value} (h : w.ownsRow base e size v n xs) {p : Addr} (hp : p.block < base) (u : Value) : (w.setCell p u).ownsRow base e size v n xs :=
  h.kept (row := some p.block) ⟨rfl, rfl, rfl, by simp, fun k _ hk => Below.heap_setCell w p u k (fun e => hk (by rw [e]))⟩ (.inr (fun he => by have := own_block_ge h p.block he; omega))

theorem take_er {α : Type} (l : List α) (p : Nat) (h : p ≤ l.length) : (l.eraseIdx p).take p = l.take p := by
  rw [List.eraseIdx_eq_take_drop_succ, List.take_left' (by rw [List.length_take]; omega)]
theorem drop_er {α : Type} (l : List α) (p : Nat) (h : p ≤ l.length) : (l.eraseIdx p).drop p = l.drop (p + 1) := by
  rw [List.eraseIdx_eq_take_drop_succ, List.drop_left' (by rw [List.length_take]; omega)]
def EsF (A' A3 : Option Addr) (n c p N : Nat) (L : List Rw) : Nat → Value → World → Prop
  | 0, u, _ => u = .slice A' n c
  | 1, u, _ => u = .int .i64 (p : Int)
  | 2, u, _ => u = .slice A' p c
  | 3, u, w => w.ownsRow N 48 14 u p ((L.take p).flatMap Rw.cells)
  | 4, u, _ => u = .slice A' n c
  | 5, u, _ => u = .int .i64 (p : Int)
  | 6, u, _ => u = .int .i64 ((p + 1 : Nat) : Int)
  | 7, u, _ => u = .slice A3 (n - (p + 1)) (c - (p + 1))
  | 8, u, w => w.ownsRow N 48 14 u (n - 1) ((L.eraseIdx p).flatMap Rw.cells)
  | 9, u, w => w.ownsRow N 48 14 u (n - 1) ((L.eraseIdx p).flatMap Rw.cells)
  | _, _, _ => True
theorem EsF.other {A' A3 : Option Addr} {n c p N : Nat} {L : List Rw} {i : Nat} {u : Value} {w w' : World} (h : EsF A' A3 n c p N L i u w) (hi : ¬ (i = 3 ∨ i = 8 ∨ i = 9)) : EsF A' A3 n c p N L i u w' := by
  match i, h, hi with
  | 0, h, hi => exact h
  | 1, h, hi => exact h
  | 2, h, hi => exact h
  | 3, h, hi => exact absurd (by decide) hi
  | 4, h, hi => exact h
  | 5, h, hi => exact h
  | 6, h, hi => exact h
  | 7, h, hi => exact h
  | 8, h, hi => exact absurd (by decide) hi
  | 9, h, hi => exact absurd (by decide) hi
  | _ + 10, h, hi => trivial
theorem own_stores {w : World} {N g n : Nat} {v : Value} {xs : List Value} {c0 c1 c2 c3 c4 c5 c6 c7 c8 c9 : Value} (h : w.ownsRow N 48 14 v n xs) (hg : g < N) : (((((((((((w.setCell ⟨g, 4, none⟩ c0).setCell ⟨g, 5, none⟩ c1).setCell ⟨g, 6, none⟩ c2).setCell ⟨g, 7, none⟩ c3).setCell ⟨g, 8, none⟩ c4).setCell ⟨g, 9, none⟩ c5).setCell ⟨g, 10, none⟩ c6).setCell ⟨g, 11, none⟩ c7).setCell ⟨g, 12, none⟩ c8).setCell ⟨g, 13, none⟩ c9)).ownsRow N 48 14 v n xs :=
  own_farY (own_farY (own_farY (own_farY (own_farY (own_farY (own_farY (own_farY (own_farY (own_farY h hg _) hg _) hg _) hg _) hg _) hg _) hg _) hg _) hg _) hg _

set_option maxHeartbeats 16000000 in
theorem daddrows_any (A : Option Addr) (l : List Rw) (n c B : Nat) (x0 x1 x2 x3 : Int) (x4 x5 : ByteArray) (x6 x7 : Int) (x8 : Bool) (ats : List (ByteArray × ByteArray)) (xA : Option Addr) (xc xn : Nat) (m : Int) (w : World) (hn : n = l.length) (hr : Rd w B A (l.flatMap Rw.cells)) (hA0 : A = none → c = 0) (hnc : n ≤ c) (hok : okL l) (hs : SortR l) (hxn : xn = ats.length) (hy : RdL w B ⟨⟨x0, x1, x2, x3, x4, x5, x6, x7, x8, ats⟩, xA, xc⟩) (hB : B ≤ w.heap.size) (hml : -9223372036854775808 ≤ m) (hm : m ≤ 9223372036854775807) (hsmall : n ≤ 90000) :
    Calls Tryd.prog 15 #[.slice A n c, .agg #[.int .u64 x0, .int .u64 x1, .int .u64 x2, .int .u64 x3, .string x4, .string x5, .int .i64 x6, .int .i64 x7, .bool x8, .slice xA xn xc], .int .i64 m] w fun e w' => ∃ v', e = .returned v' ∧ w'.ownsRow w.heap.size 48 14 v' (addS l ⟨x0, x1, x2, x3, x4, x5, x6, x7, x8, ats⟩ m).length ((addS l ⟨x0, x1, x2, x3, x4, x5, x6, x7, x8, ats⟩ m).flatMap Rw.cells) ∧ Below w.heap.size w w' := by
  obtain ⟨base, hbase⟩ : ∃ base, base = w.heap.size := ⟨_, rfl⟩
  obtain ⟨W0, hW0⟩ : ∃ W0, W0 = w.alloc (.cells #[.int .u64 x0, .int .u64 x1, .int .u64 x2, .int .u64 x3, .string x4, .string x5, .int .i64 x6, .int .i64 x7, .bool x8, .slice xA xn xc] 28) := ⟨_, rfl⟩
  have HB0 := Lib.hid (show Below base w W0 from by rw [hW0, hbase]; exact (Below.refl w.heap.size w).alloc (Nat.le_refl _) _)
  have HQ0 := Lib.hid (show W0.heap[base]? = some (.cells #[.int .u64 x0, .int .u64 x1, .int .u64 x2, .int .u64 x3, .string x4, .string x5, .int .i64 x6, .int .i64 x7, .bool x8, .slice xA xn xc] 28) from by rw [hW0, hbase]; exact heap_alloc_new w _)
  have HZ0 := Lib.hid (show W0.heap.size = base + 1 from by rw [hW0, hbase]; simp)
  rw [← hbase] at hB ⊢
  have HBE := Lib.hid hbase
  have HWE := Lib.hid hW0
  have RI := Lib.hid (rightspan_lit x0 x1 x2 x3 x4 x5 x6 x7 x8 ats xA xc xn B W0 hxn (hy.below (HB0.out.mono hB)) (by have := HZ0.out; omega))
  obtain ⟨SP, hSP⟩ : ∃ SP : Sp, SP = ⟨x0, x1, x2, x3, x4, x5, x6, x7, x8, ats⟩ := ⟨_, rfl⟩
  rw [← hSP] at RI ⊢
  obtain ⟨rb, hrb⟩ : ∃ rb, rb = right SP := ⟨_, rfl⟩
  rw [← hrb] at RI
  have HRB := Lib.hid hrb
  have HSP := Lib.hid hSP
  have HN := Lib.hid hn
  have HR := Lib.hid hr
  have HOK := Lib.hid hok
  have HSO := Lib.hid hs
  have HA0 := Lib.hid hA0
  have HSM := Lib.hid hsmall
  have HNC := Lib.hid hnc
  clear hbase hW0 hxn hy hrb hSP hn hr hok hs hA0 hsmall hnc
  have e0 : W0.cell? ⟨base, 0, none⟩ = some (.int .u64 x0) := cell_of_row _ _ 0 _ _ (0, 0) HQ0.out
  have e1 : W0.cell? ⟨base, 1, none⟩ = some (.int .u64 x1) := cell_of_row _ _ 1 _ _ (0, 0) HQ0.out
  have e2 : W0.cell? ⟨base, 2, none⟩ = some (.int .u64 x2) := cell_of_row _ _ 2 _ _ (0, 0) HQ0.out
  have e3 : W0.cell? ⟨base, 3, none⟩ = some (.int .u64 x3) := cell_of_row _ _ 3 _ _ (0, 0) HQ0.out
  have e4 : W0.cell? ⟨base, 4, none⟩ = some (.string x4) := cell_of_row _ _ 4 _ _ (0, 0) HQ0.out
  have e5 : W0.cell? ⟨base, 5, none⟩ = some (.string x5) := cell_of_row _ _ 5 _ _ (0, 0) HQ0.out
  have e6 : W0.cell? ⟨base, 6, none⟩ = some (.int .i64 x6) := cell_of_row _ _ 6 _ _ (0, 0) HQ0.out
  have e7 : W0.cell? ⟨base, 7, none⟩ = some (.int .i64 x7) := cell_of_row _ _ 7 _ _ (0, 0) HQ0.out
  have e8 : W0.cell? ⟨base, 8, none⟩ = some (.bool x8) := cell_of_row _ _ 8 _ _ (0, 0) HQ0.out
  have e9 : W0.cell? ⟨base, 9, none⟩ = some (.slice xA xn xc) := cell_of_row _ _ 9 _ _ (0, 0) HQ0.out
  cases rb
  · go_enter Tryd.func15, Tryd.ntmps15
    go_upto_region 1 with fail
    rw [← HWE.out, ← HBE.out]
    go_upto_region 2 with (go_at_call 24; (with_reducible refine RI.out.mono ?_); rintro ex w1 ⟨rfl, hb1⟩; have HB1 := Lib.hid hb1; clear hb1)
    clear e0 e1 e2 e3 e4 e5 e6 e7 e8 e9
    have HBW := Lib.hid (HB0.out.trans (HB1.out.mono (by have := HZ0.out; omega)))
    have APP := Lib.hid (fun ty => appRs (ty := ty) (c := c) (base := base) (n := 0) (L := []) (World.ownsRow_nil w1 base 48 14) (K := l) (HR.out.below (HBW.out.mono hB)) HN.out (by have := HSM.out; omega) (by have := HBW.out.size; have := HBE.out; omega))
    go_wp2_with (at_builtin; refine wpList_app rfl _ _ _ _ rfl rfl rfl (APP.out _) ?_; rintro v8 w8 ⟨ho8, hg8⟩; have HO8 := Lib.hid ho8; have HG8 := Lib.hid hg8; clear ho8 hg8)
    go_ret
    refine ⟨v8, rfl, ?_, HG8.out.below HBW.out (by have := HBW.out.size; have := HBE.out; omega) (fun k hk => by cases hk)⟩
    unfold addS
    rw [← HRB.out, if_neg (by decide), ← HN.out]
    have h := HO8.out
    rw [Nat.zero_add, List.nil_append] at h
    exact h
  · go_enter Tryd.func15, Tryd.ntmps15
    go_upto_region 1 with fail
    rw [← HWE.out, ← HBE.out]
    go_upto_region 4 with (go_at_call 24; (with_reducible refine RI.out.mono ?_); rintro ex w1 ⟨rfl, hb1⟩; have HB1 := Lib.hid hb1; clear hb1)
    clear e0 e1 e2 e3 e4 e5 e6 e7 e8 e9
    have HBW := Lib.hid (HB0.out.trans (HB1.out.mono (by have := HZ0.out; omega)))
    have HQ1 := Lib.hid ((HB1.out.block base (by have := HZ0.out; omega)).trans HQ0.out)
    have HR1 := Lib.hid ((HR.out.below (HBW.out.mono hB)).more (show B ≤ w1.heap.size from by have := HBW.out.size; have := HBE.out; omega))
    go_loopw [0, 7] (fun sl vu wr => ∃ (u n' c' : Nat) (A' : Option Addr) (L' : List Rw), vu = .int .i64 u ∧ u ≤ 3 ∧ sl = .slice A' n' c' ∧ Hid (n' ≤ n + u) ∧ Hid (n' ≤ c') ∧ Hid (A' = none → c' = 0) ∧ Hid (L' = addV l SP m u) ∧ Hid (n' = L'.length) ∧ Hid (Rd wr wr.heap.size A' (L'.flatMap Rw.cells)) ∧ Hid (0 < u → wr.ownsRow base 48 14 (.slice A' n' c') n' (L'.flatMap Rw.cells)) ∧ Hid (Below base w wr) ∧ Hid (wr.heap[base]? = some (.cells #[.int .u64 x0, .int .u64 x1, .int .u64 x2, .int .u64 x3, .string x4, .string x5, .int .i64 x6, .int .i64 x7, .bool x8, .slice xA xn xc] 28))) (fun _ vu _ => 3 - (intOf vu).toNat)
    case atStart => exact ⟨0, n, c, A, l, rfl, by omega, rfl, Lib.hid (Nat.le_refl _), HNC, HA0, Lib.hid rfl, HN, HR1, Lib.hid (fun h => by omega), HBW, HQ1⟩
    case round =>
      obtain ⟨u, n', c', A', L', rfl, hu, rfl, VNN, VNC, VA0, VL, VLN, VR, VO, VB, VQ⟩ := hrel
      by_cases hu3 : u < 3
      · have hlev : Wm.isLevel (u : Int) := by unfold Wm.isLevel; omega
        have HLEV := Lib.hid hlev
        obtain ⟨wi, hwi⟩ : ∃ wi, wi = Wm.win (u : Int) x6 := ⟨_, rfl⟩
        have WO := Lib.hid (fun W => window_any (u : Int) x6 W)
        rw [← hwi] at WO
        have HWI := Lib.hid hwi
        have q4 : wr.cell? ⟨base, 4, none⟩ = some (.string x4) := cell_of_row _ _ 4 _ _ (0, 0) VQ.out
        have q5 : wr.cell? ⟨base, 5, none⟩ = some (.string x5) := cell_of_row _ _ 5 _ _ (0, 0) VQ.out
        have q6 : wr.cell? ⟨base, 6, none⟩ = some (.int .i64 x6) := cell_of_row _ _ 6 _ _ (0, 0) VQ.out
        have uu0 : (0 : Int) ≤ (u : Int) := by omega
        have uu3 : (u : Int) < 3 := by omega
        obtain ⟨Y, hY⟩ : ∃ Y, Y = wr.heap.size := ⟨_, rfl⟩
        have HYE := Lib.hid hY
        clear hlev hwi hY
        go_upto_region 6 with fail
        go_cut [8] (fun s8 wx => s8 = .pointer (some ⟨Y, 0, none⟩) ∧ Hid (∃ q, wx = (wr.alloc (.cells #[.int .i64 (u : Int), .int .i64 wi, .string x4, .string x5, .int .i64 0, .int .i64 0, .int .i64 0, .int .i64 0, .int .i64 0, .int .i64 0, .int .i64 0, .int .i64 0, .int .i64 0, .int .i64 0] 48)).drewN q))
        case first =>
          all_goals
            go_region_held3 (fun W' => W'.cell? ⟨base, 4, none⟩ = some (.string x4) ∧ W'.cell? ⟨base, 5, none⟩ = some (.string x5) ∧ W'.cell? ⟨base, 6, none⟩ = some (.int .i64 x6))
              (first | go_keep)
              ((go_at_call 25; refine (WO.out _).mono ?_; rintro e w1 ⟨rfl, hw⟩; subst hw))
          all_goals
            go_wp2_with fail
            go_meet
            exact ⟨by rw [HYE.out], ⟨1, rfl⟩⟩
        case rest =>
          obtain ⟨rfl, HW⟩ := hcut
          have hb14 : Below Y wr wc := by
            obtain ⟨q, rfl⟩ := HW.out
            have h := (Below.refl wr.heap.size wr).alloc (Nat.le_refl _) (.cells #[.int .i64 (u : Int), .int .i64 wi, .string x4, .string x5, .int .i64 0, .int .i64 0, .int .i64 0, .int .i64 0, .int .i64 0, .int .i64 0, .int .i64 0, .int .i64 0, .int .i64 0, .int .i64 0] 48)
            rw [HYE.out]
            exact ⟨h.os, h.tape, h.output, h.size, h.block⟩
          have hq14 : wc.heap[Y]? = some (.cells #[.int .i64 (u : Int), .int .i64 wi, .string x4, .string x5, .int .i64 0, .int .i64 0, .int .i64 0, .int .i64 0, .int .i64 0, .int .i64 0, .int .i64 0, .int .i64 0, .int .i64 0, .int .i64 0] 48) := by
            obtain ⟨q, rfl⟩ := HW.out
            rw [HYE.out]; exact heap_alloc_new wr _
          have HXY := Lib.hid (show base < Y ∧ Y < wc.heap.size from by
            have h2 := VQ.out; have h4 := HYE.out
            refine ⟨?_, ?_⟩
            · rcases Nat.lt_or_ge base wr.heap.size with h | h
              · omega
              · rw [Array.getElem?_eq_none h] at h2; cases h2
            · rcases Nat.lt_or_ge Y wc.heap.size with h | h
              · exact h
              · rw [Array.getElem?_eq_none h] at hq14; cases hq14)
          have VR14 := Lib.hid ((VR.out.below (by rw [← HYE.out]; exact hb14)).more (show wr.heap.size ≤ wc.heap.size from by rw [← HYE.out]; have := HXY.out; omega))
          have VRY := Lib.hid (show Rd wc Y A' (L'.flatMap Rw.cells) from by have h := VR.out.below (show Below wr.heap.size wr wc from by rw [← HYE.out]; exact hb14); rw [← HYE.out] at h; exact h)
          have VB14 := Lib.hid (VB.out.trans (hb14.mono (by have := HXY.out; omega)))
          have VQ14 := Lib.hid ((hb14.block base HXY.out.1).trans VQ.out)
          have HQ14 := Lib.hid hq14
          have HSL := Lib.hid (show SortR L' ∧ okL L' from by rw [VL.out]; exact ⟨addV_sort _ _ HSO.out u, addV_ok _ _ hm HOK.out u⟩)
          obtain ⟨K, hK⟩ : ∃ K : Ky, K = ⟨(u : Int), wi, x4, x5⟩ := ⟨_, rfl⟩
          have HKK := Lib.hid (show K = spK (u : Int) SP from by rw [hK, HWI.out, HSP.out]; rfl)
          have HK := Lib.hid hK
          obtain ⟨p, hp⟩ : ∃ p, p = posR L' K := ⟨_, rfl⟩
          obtain ⟨hit, hhit⟩ : ∃ h, h = hitR L' K := ⟨_, rfl⟩
          have HP := Lib.hid hp
          have HH := Lib.hid hhit
          have HPL := Lib.hid (show p ≤ n' from by rw [hp, VLN.out]; exact posR_le _ _)
          have HPT := Lib.hid (fun t f (hf : L'[t]? = some f) => show ordK f.k K < 0 ↔ t < p from by rw [hp]; exact posR_lt HSL.out.1 hf)
          have nn1 : (n' : Int) ≤ 100000 := by have := VNN.out; have := HSM.out; omega
          clear hb14 hq14 hK hp hhit HW VR VB VQ VO WO q4 q5 q6 hu
          go_upto_region 8 with fail
          go_loopw [9] (fun v wq => ∃ i : Nat, v = .int .i64 i ∧ Hid (i ≤ p) ∧ Hid (Below wc.heap.size wc wq)) (fun v _ => p - (intOf v).toNat)
          case atStart => exact ⟨0, rfl, Lib.hid (Nat.zero_le _), Lib.hid (Below.refl _ _)⟩
          case round =>
            obtain ⟨i, rfl, HI, HW⟩ := hrel
            have HQW := Lib.hid ((HW.out.block Y HXY.out.2).trans HQ14.out)
            have ii0 : (0 : Int) ≤ (i : Int) := by omega
            by_cases hin : i < n'
            · obtain ⟨f, hf⟩ : ∃ f, L'[i]? = some f := ⟨_, List.getElem?_eq_getElem (by rw [← VLN.out]; exact hin)⟩
              have HPM := Lib.hid (HPT.out i f hf)
              obtain ⟨⟨flv, fwi, fsv, fop⟩, fct⟩ := f
              have HF := Lib.hid hf
              have hik : (i : Int) < (n' : Int) := by omega
              clear hf
              obtain ⟨b, hb⟩ : ∃ b, b = decide (ordK ⟨flv, fwi, fsv, fop⟩ K < 0) := ⟨_, rfl⟩
              have t0 : wr.cell? ⟨Y, 0, none⟩ = some (.int .i64 (u : Int)) := cell_of_row _ _ 0 _ _ (0, 0) HQW.out
              have t1 : wr.cell? ⟨Y, 1, none⟩ = some (.int .i64 wi) := cell_of_row _ _ 1 _ _ (0, 0) HQW.out
              have t2 : wr.cell? ⟨Y, 2, none⟩ = some (.string x4) := cell_of_row _ _ 2 _ _ (0, 0) HQW.out
              have t3 : wr.cell? ⟨Y, 3, none⟩ = some (.string x5) := cell_of_row _ _ 3 _ _ (0, 0) HQW.out
              have t4 : wr.cell? ⟨Y, 4, none⟩ = some (.int .i64 0) := cell_of_row _ _ 4 _ _ (0, 0) HQW.out
              have t5 : wr.cell? ⟨Y, 5, none⟩ = some (.int .i64 0) := cell_of_row _ _ 5 _ _ (0, 0) HQW.out
              have t6 : wr.cell? ⟨Y, 6, none⟩ = some (.int .i64 0) := cell_of_row _ _ 6 _ _ (0, 0) HQW.out
              have t7 : wr.cell? ⟨Y, 7, none⟩ = some (.int .i64 0) := cell_of_row _ _ 7 _ _ (0, 0) HQW.out
              have t8 : wr.cell? ⟨Y, 8, none⟩ = some (.int .i64 0) := cell_of_row _ _ 8 _ _ (0, 0) HQW.out
              have t9 : wr.cell? ⟨Y, 9, none⟩ = some (.int .i64 0) := cell_of_row _ _ 9 _ _ (0, 0) HQW.out
              have t10 : wr.cell? ⟨Y, 10, none⟩ = some (.int .i64 0) := cell_of_row _ _ 10 _ _ (0, 0) HQW.out
              have t11 : wr.cell? ⟨Y, 11, none⟩ = some (.int .i64 0) := cell_of_row _ _ 11 _ _ (0, 0) HQW.out
              have t12 : wr.cell? ⟨Y, 12, none⟩ = some (.int .i64 0) := cell_of_row _ _ 12 _ _ (0, 0) HQW.out
              have t13 : wr.cell? ⟨Y, 13, none⟩ = some (.int .i64 0) := cell_of_row _ _ 13 _ _ (0, 0) HQW.out
              obtain ⟨af, haf, _, d0, d1, d2, d3, d4, d5, d6, d7, d8, d9, d10, d11, d12, d13⟩ := row_cells (VR14.out.below HW.out) HF.out
              subst haf
              simp only at d0 d1 d2 d3 d4 d5 d6 d7 d8 d9 d10 d11 d12 d13
              have OC0 := fun (o0 o1 o2 o3 o4 o5 o6 o7 o8 o9 : Int) (W : World) => lessrow_lit flv fwi fsv fop o0 o1 o2 o3 o4 o5 o6 o7 o8 o9 (u : Int) wi x4 x5 0 0 0 0 0 0 0 0 0 0 W
              rw [← HK.out, ← hb] at OC0
              have HBB := Lib.hid hb
              have HIN := Lib.hid hin
              clear hb hin
              generalize fct.getD 0 0 = o0 at d4 d5 d6 d7 d8 d9 d10 d11 d12 d13
              generalize fct.getD 1 0 = o1 at d4 d5 d6 d7 d8 d9 d10 d11 d12 d13
              generalize fct.getD 2 0 = o2 at d4 d5 d6 d7 d8 d9 d10 d11 d12 d13
              generalize fct.getD 3 0 = o3 at d4 d5 d6 d7 d8 d9 d10 d11 d12 d13
              generalize fct.getD 4 0 = o4 at d4 d5 d6 d7 d8 d9 d10 d11 d12 d13
              generalize fct.getD 5 0 = o5 at d4 d5 d6 d7 d8 d9 d10 d11 d12 d13
              generalize fct.getD 6 0 = o6 at d4 d5 d6 d7 d8 d9 d10 d11 d12 d13
              generalize fct.getD 7 0 = o7 at d4 d5 d6 d7 d8 d9 d10 d11 d12 d13
              generalize fct.getD 8 0 = o8 at d4 d5 d6 d7 d8 d9 d10 d11 d12 d13
              generalize fct.getD 9 0 = o9 at d4 d5 d6 d7 d8 d9 d10 d11 d12 d13
              have OC := fun W => Lib.hid (OC0 o0 o1 o2 o3 o4 o5 o6 o7 o8 o9 W)
              clear OC0
              cases b
              · have hip : p = i := by
                  have h1 := HPM.out
                  have h2 := HBB.out
                  have h3 : ¬ i < p := fun h => by rw [decide_eq_true (h1.2 h)] at h2; cases h2
                  have := HI.out; omega
                subst hip
                go_wp2_with fail
                have n0 := fun p : NowB wr => p.cell d0
                have n1 := fun p : NowB wr => p.cell d1
                have n2 := fun p : NowB wr => p.cell d2
                have n3 := fun p : NowB wr => p.cell d3
                have n4 := fun p : NowB wr => p.cell d4
                have n5 := fun p : NowB wr => p.cell d5
                have n6 := fun p : NowB wr => p.cell d6
                have n7 := fun p : NowB wr => p.cell d7
                have n8 := fun p : NowB wr => p.cell d8
                have n9 := fun p : NowB wr => p.cell d9
                have n10 := fun p : NowB wr => p.cell d10
                have n11 := fun p : NowB wr => p.cell d11
                have n12 := fun p : NowB wr => p.cell d12
                have n13 := fun p : NowB wr => p.cell d13
                have m0 := fun p : NowB wr => p.cell t0
                have m1 := fun p : NowB wr => p.cell t1
                have m2 := fun p : NowB wr => p.cell t2
                have m3 := fun p : NowB wr => p.cell t3
                have m4 := fun p : NowB wr => p.cell t4
                have m5 := fun p : NowB wr => p.cell t5
                have m6 := fun p : NowB wr => p.cell t6
                have m7 := fun p : NowB wr => p.cell t7
                have m8 := fun p : NowB wr => p.cell t8
                have m9 := fun p : NowB wr => p.cell t9
                have m10 := fun p : NowB wr => p.cell t10
                have m11 := fun p : NowB wr => p.cell t11
                have m12 := fun p : NowB wr => p.cell t12
                have m13 := fun p : NowB wr => p.cell t13
                clear d0 d1 d2 d3 d4 d5 d6 d7 d8 d9 d10 d11 d12 d13 t0 t1 t2 t3 t4 t5 t6 t7 t8 t9 t10 t11 t12 t13
                refine wp_region_quiet_below (by kernel_rfl) (by kernel_rfl) ?_
                repeat (go_big_quiet_step ((go_at_call 32; with_reducible exact Calls.now_of (OC _).out)))
                refine wpQuiet_nil ?_
                intro _ hw'
                obtain ⟨pp, hw''⟩ := hw'
                subst hw''
                have HW9 := Lib.hid (HW.out.trans (pp.h.mono HW.out.size))
                have HP9 := Lib.hid pp.h
                generalize pp.W = w9 at *
                clear OC
                go_upto_region 10 with fail
                have HQ9 := Lib.hid ((HW9.out.block Y HXY.out.2).trans HQ14.out)
                have t0 : w9.cell? ⟨Y, 0, none⟩ = some (.int .i64 (u : Int)) := cell_of_row _ _ 0 _ _ (0, 0) HQ9.out
                have t1 : w9.cell? ⟨Y, 1, none⟩ = some (.int .i64 wi) := cell_of_row _ _ 1 _ _ (0, 0) HQ9.out
                have t2 : w9.cell? ⟨Y, 2, none⟩ = some (.string x4) := cell_of_row _ _ 2 _ _ (0, 0) HQ9.out
                have t3 : w9.cell? ⟨Y, 3, none⟩ = some (.string x5) := cell_of_row _ _ 3 _ _ (0, 0) HQ9.out
                have t4 : w9.cell? ⟨Y, 4, none⟩ = some (.int .i64 0) := cell_of_row _ _ 4 _ _ (0, 0) HQ9.out
                have t5 : w9.cell? ⟨Y, 5, none⟩ = some (.int .i64 0) := cell_of_row _ _ 5 _ _ (0, 0) HQ9.out
                have t6 : w9.cell? ⟨Y, 6, none⟩ = some (.int .i64 0) := cell_of_row _ _ 6 _ _ (0, 0) HQ9.out
                have t7 : w9.cell? ⟨Y, 7, none⟩ = some (.int .i64 0) := cell_of_row _ _ 7 _ _ (0, 0) HQ9.out
                have t8 : w9.cell? ⟨Y, 8, none⟩ = some (.int .i64 0) := cell_of_row _ _ 8 _ _ (0, 0) HQ9.out
                have t9 : w9.cell? ⟨Y, 9, none⟩ = some (.int .i64 0) := cell_of_row _ _ 9 _ _ (0, 0) HQ9.out
                have t10 : w9.cell? ⟨Y, 10, none⟩ = some (.int .i64 0) := cell_of_row _ _ 10 _ _ (0, 0) HQ9.out
                have t11 : w9.cell? ⟨Y, 11, none⟩ = some (.int .i64 0) := cell_of_row _ _ 11 _ _ (0, 0) HQ9.out
                have t12 : w9.cell? ⟨Y, 12, none⟩ = some (.int .i64 0) := cell_of_row _ _ 12 _ _ (0, 0) HQ9.out
                have t13 : w9.cell? ⟨Y, 13, none⟩ = some (.int .i64 0) := cell_of_row _ _ 13 _ _ (0, 0) HQ9.out
                obtain ⟨af, haf, _, d0, d1, d2, d3, d4, d5, d6, d7, d8, d9, d10, d11, d12, d13⟩ := row_cells (VR14.out.below HW9.out) HF.out
                injection haf with haf
                subst haf
                simp only at d0 d1 d2 d3 d4 d5 d6 d7 d8 d9 d10 d11 d12 d13
                generalize fct.getD 0 0 = o0 at d4 d5 d6 d7 d8 d9 d10 d11 d12 d13
                generalize fct.getD 1 0 = o1 at d4 d5 d6 d7 d8 d9 d10 d11 d12 d13
                generalize fct.getD 2 0 = o2 at d4 d5 d6 d7 d8 d9 d10 d11 d12 d13
                generalize fct.getD 3 0 = o3 at d4 d5 d6 d7 d8 d9 d10 d11 d12 d13
                generalize fct.getD 4 0 = o4 at d4 d5 d6 d7 d8 d9 d10 d11 d12 d13
                generalize fct.getD 5 0 = o5 at d4 d5 d6 d7 d8 d9 d10 d11 d12 d13
                generalize fct.getD 6 0 = o6 at d4 d5 d6 d7 d8 d9 d10 d11 d12 d13
                generalize fct.getD 7 0 = o7 at d4 d5 d6 d7 d8 d9 d10 d11 d12 d13
                generalize fct.getD 8 0 = o8 at d4 d5 d6 d7 d8 d9 d10 d11 d12 d13
                generalize fct.getD 9 0 = o9 at d4 d5 d6 d7 d8 d9 d10 d11 d12 d13
                obtain ⟨bq, hbq⟩ : ∃ b, b = decide (ordK K ⟨flv, fwi, fsv, fop⟩ < 0) := ⟨_, rfl⟩
                have OD0 := fun W : World => lessrow_lit (u : Int) wi x4 x5 0 0 0 0 0 0 0 0 0 0 flv fwi fsv fop o0 o1 o2 o3 o4 o5 o6 o7 o8 o9 W
                rw [← HK.out, ← hbq] at OD0
                have OD := fun W => Lib.hid (OD0 W)
                have hbh : bq = !hit := by
                  have h1 : ¬ ordK ⟨flv, fwi, fsv, fop⟩ K < 0 := of_decide_eq_false HBB.out.symm
                  have h2 := ordK_flip ⟨flv, fwi, fsv, fop⟩ K
                  rw [hbq, HH.out]
                  unfold hitR
                  rw [← HP.out, HF.out]
                  simp only [Option.any_some]
                  by_cases h0 : ordK ⟨flv, fwi, fsv, fop⟩ K = 0
                  · rw [decide_eq_true h0]; exact decide_eq_false (by omega)
                  · rw [decide_eq_false h0]; exact decide_eq_true (by omega)
                clear OD0 hbq
                have HPN := Lib.hid (show p < n' from HIN.out)
                rcases hht : hit with _ | _
                · have HHT := Lib.hid hht
                  rw [hht] at hbh
                  have hbt : bq = true := hbh
                  subst hbt
                  clear hbh hht
                  have n0 := fun p : NowB w9 => p.cell d0
                  have n1 := fun p : NowB w9 => p.cell d1
                  have n2 := fun p : NowB w9 => p.cell d2
                  have n3 := fun p : NowB w9 => p.cell d3
                  have n4 := fun p : NowB w9 => p.cell d4
                  have n5 := fun p : NowB w9 => p.cell d5
                  have n6 := fun p : NowB w9 => p.cell d6
                  have n7 := fun p : NowB w9 => p.cell d7
                  have n8 := fun p : NowB w9 => p.cell d8
                  have n9 := fun p : NowB w9 => p.cell d9
                  have n10 := fun p : NowB w9 => p.cell d10
                  have n11 := fun p : NowB w9 => p.cell d11
                  have n12 := fun p : NowB w9 => p.cell d12
                  have n13 := fun p : NowB w9 => p.cell d13
                  have m0 := fun p : NowB w9 => p.cell t0
                  have m1 := fun p : NowB w9 => p.cell t1
                  have m2 := fun p : NowB w9 => p.cell t2
                  have m3 := fun p : NowB w9 => p.cell t3
                  have m4 := fun p : NowB w9 => p.cell t4
                  have m5 := fun p : NowB w9 => p.cell t5
                  have m6 := fun p : NowB w9 => p.cell t6
                  have m7 := fun p : NowB w9 => p.cell t7
                  have m8 := fun p : NowB w9 => p.cell t8
                  have m9 := fun p : NowB w9 => p.cell t9
                  have m10 := fun p : NowB w9 => p.cell t10
                  have m11 := fun p : NowB w9 => p.cell t11
                  have m12 := fun p : NowB w9 => p.cell t12
                  have m13 := fun p : NowB w9 => p.cell t13
                  clear d0 d1 d2 d3 d4 d5 d6 d7 d8 d9 d10 d11 d12 d13 t0 t1 t2 t3 t4 t5 t6 t7 t8 t9 t10 t11 t12 t13
                  refine wp_region_quiet_below (by kernel_rfl) (by kernel_rfl) ?_
                  repeat (go_big_quiet_step ((go_at_call 32; with_reducible exact Calls.now_of (OD _).out)))
                  refine wpQuiet_nil ?_
                  intro _ hw'
                  obtain ⟨pp, hw''⟩ := hw'
                  subst hw''
                  have HWA := Lib.hid (HW9.out.trans (pp.h.mono HW9.out.size))
                  have HPA := Lib.hid pp.h
                  generalize pp.W = wA at *
                  generalize (some af : Option Addr) = A' at VRY VA0 ⊢
                  have HQA := Lib.hid ((HWA.out.block Y HXY.out.2).trans HQ14.out)
                  have HVA := Lib.hid ((HWA.out.block base (by have := HXY.out; omega)).trans VQ14.out)
                  have t0 : wA.cell? ⟨Y, 0, none⟩ = some (.int .i64 (u : Int)) := cell_of_row _ _ 0 _ _ (0, 0) HQA.out
                  have t1 : wA.cell? ⟨Y, 1, none⟩ = some (.int .i64 wi) := cell_of_row _ _ 1 _ _ (0, 0) HQA.out
                  have t2 : wA.cell? ⟨Y, 2, none⟩ = some (.string x4) := cell_of_row _ _ 2 _ _ (0, 0) HQA.out
                  have t3 : wA.cell? ⟨Y, 3, none⟩ = some (.string x5) := cell_of_row _ _ 3 _ _ (0, 0) HQA.out
                  have t4 : wA.cell? ⟨Y, 4, none⟩ = some (.int .i64 0) := cell_of_row _ _ 4 _ _ (0, 0) HQA.out
                  have t5 : wA.cell? ⟨Y, 5, none⟩ = some (.int .i64 0) := cell_of_row _ _ 5 _ _ (0, 0) HQA.out
                  have t6 : wA.cell? ⟨Y, 6, none⟩ = some (.int .i64 0) := cell_of_row _ _ 6 _ _ (0, 0) HQA.out
                  have t7 : wA.cell? ⟨Y, 7, none⟩ = some (.int .i64 0) := cell_of_row _ _ 7 _ _ (0, 0) HQA.out
                  have t8 : wA.cell? ⟨Y, 8, none⟩ = some (.int .i64 0) := cell_of_row _ _ 8 _ _ (0, 0) HQA.out
                  have t9 : wA.cell? ⟨Y, 9, none⟩ = some (.int .i64 0) := cell_of_row _ _ 9 _ _ (0, 0) HQA.out
                  have t10 : wA.cell? ⟨Y, 10, none⟩ = some (.int .i64 0) := cell_of_row _ _ 10 _ _ (0, 0) HQA.out
                  have t11 : wA.cell? ⟨Y, 11, none⟩ = some (.int .i64 0) := cell_of_row _ _ 11 _ _ (0, 0) HQA.out
                  have t12 : wA.cell? ⟨Y, 12, none⟩ = some (.int .i64 0) := cell_of_row _ _ 12 _ _ (0, 0) HQA.out
                  have t13 : wA.cell? ⟨Y, 13, none⟩ = some (.int .i64 0) := cell_of_row _ _ 13 _ _ (0, 0) HQA.out
                  have e0 : wA.cell? ⟨base, 0, none⟩ = some (.int .u64 x0) := cell_of_row _ _ 0 _ _ (0, 0) HVA.out
                  have e1 : wA.cell? ⟨base, 1, none⟩ = some (.int .u64 x1) := cell_of_row _ _ 1 _ _ (0, 0) HVA.out
                  have e2 : wA.cell? ⟨base, 2, none⟩ = some (.int .u64 x2) := cell_of_row _ _ 2 _ _ (0, 0) HVA.out
                  have e3 : wA.cell? ⟨base, 3, none⟩ = some (.int .u64 x3) := cell_of_row _ _ 3 _ _ (0, 0) HVA.out
                  have e4 : wA.cell? ⟨base, 4, none⟩ = some (.string x4) := cell_of_row _ _ 4 _ _ (0, 0) HVA.out
                  have e5 : wA.cell? ⟨base, 5, none⟩ = some (.string x5) := cell_of_row _ _ 5 _ _ (0, 0) HVA.out
                  have e6 : wA.cell? ⟨base, 6, none⟩ = some (.int .i64 x6) := cell_of_row _ _ 6 _ _ (0, 0) HVA.out
                  have e7 : wA.cell? ⟨base, 7, none⟩ = some (.int .i64 x7) := cell_of_row _ _ 7 _ _ (0, 0) HVA.out
                  have e8 : wA.cell? ⟨base, 8, none⟩ = some (.bool x8) := cell_of_row _ _ 8 _ _ (0, 0) HVA.out
                  have e9 : wA.cell? ⟨base, 9, none⟩ = some (.slice xA xn xc) := cell_of_row _ _ 9 _ _ (0, 0) HVA.out
                  have AC0 := fun W => addref_any [] x0 x1 x2 x3 x4 x5 x6 x7 x8 xA xn xc m W okC_nil hml hm
                  obtain ⟨jc, hjc⟩ : ∃ jc, jc = joinC [] (oneC (Bm.of x7) x8) m := ⟨_, rfl⟩
                  rw [← hjc] at AC0
                  have HJC := Lib.hid hjc
                  have hc0 : Cv [] = #[.int .i64 0, .int .i64 0, .int .i64 0, .int .i64 0, .int .i64 0, .int .i64 0, .int .i64 0, .int .i64 0, .int .i64 0, .int .i64 0] := rfl
                  rw [hc0] at AC0
                  obtain ⟨j0, hj0⟩ : ∃ j, j = jc.getD 0 0 := ⟨_, rfl⟩
                  obtain ⟨j1, hj1⟩ : ∃ j, j = jc.getD 1 0 := ⟨_, rfl⟩
                  obtain ⟨j2, hj2⟩ : ∃ j, j = jc.getD 2 0 := ⟨_, rfl⟩
                  obtain ⟨j3, hj3⟩ : ∃ j, j = jc.getD 3 0 := ⟨_, rfl⟩
                  obtain ⟨j4, hj4⟩ : ∃ j, j = jc.getD 4 0 := ⟨_, rfl⟩
                  obtain ⟨j5, hj5⟩ : ∃ j, j = jc.getD 5 0 := ⟨_, rfl⟩
                  obtain ⟨j6, hj6⟩ : ∃ j, j = jc.getD 6 0 := ⟨_, rfl⟩
                  obtain ⟨j7, hj7⟩ : ∃ j, j = jc.getD 7 0 := ⟨_, rfl⟩
                  obtain ⟨j8, hj8⟩ : ∃ j, j = jc.getD 8 0 := ⟨_, rfl⟩
                  obtain ⟨j9, hj9⟩ : ∃ j, j = jc.getD 9 0 := ⟨_, rfl⟩
                  unfold Cv at AC0
                  rw [← hj0, ← hj1, ← hj2, ← hj3, ← hj4, ← hj5, ← hj6, ← hj7, ← hj8, ← hj9] at AC0
                  have HJJ := Lib.hid (And.intro hj0 (And.intro hj1 (And.intro hj2 (And.intro hj3 (And.intro hj4 (And.intro hj5 (And.intro hj6 (And.intro hj7 (And.intro hj8 hj9)))))))))
                  have AC := fun W => Lib.hid (AC0 W)
                  clear AC0 hjc hc0 hj0 hj1 hj2 hj3 hj4 hj5 hj6 hj7 hj8 hj9
                  go_upto_region 14 with (go_at_call 34; (with_reducible refine (AC _).out.mono ?_); rintro ex wB ⟨rfl, hbB⟩; have HBB := Lib.hid hbB; clear hbB; have HQB := Lib.hid ((HBB.out.block Y (by have := HWA.out.size; have := HXY.out; omega)).trans HQA.out); have y0 : wB.cell? ⟨Y, 0, none⟩ = some (.int .i64 (u : Int)) := cell_of_row _ _ 0 _ _ (0, 0) HQB.out; have z0 : wB.frozen? ⟨Y, 0, none⟩ = false := (by simp [World.frozen?, HQB.out]); have y1 : wB.cell? ⟨Y, 1, none⟩ = some (.int .i64 wi) := cell_of_row _ _ 1 _ _ (0, 0) HQB.out; have z1 : wB.frozen? ⟨Y, 1, none⟩ = false := (by simp [World.frozen?, HQB.out]); have y2 : wB.cell? ⟨Y, 2, none⟩ = some (.string x4) := cell_of_row _ _ 2 _ _ (0, 0) HQB.out; have z2 : wB.frozen? ⟨Y, 2, none⟩ = false := (by simp [World.frozen?, HQB.out]); have y3 : wB.cell? ⟨Y, 3, none⟩ = some (.string x5) := cell_of_row _ _ 3 _ _ (0, 0) HQB.out; have z3 : wB.frozen? ⟨Y, 3, none⟩ = false := (by simp [World.frozen?, HQB.out]); have y4 : wB.cell? ⟨Y, 4, none⟩ = some (.int .i64 0) := cell_of_row _ _ 4 _ _ (0, 0) HQB.out; have z4 : wB.frozen? ⟨Y, 4, none⟩ = false := (by simp [World.frozen?, HQB.out]); have y5 : wB.cell? ⟨Y, 5, none⟩ = some (.int .i64 0) := cell_of_row _ _ 5 _ _ (0, 0) HQB.out; have z5 : wB.frozen? ⟨Y, 5, none⟩ = false := (by simp [World.frozen?, HQB.out]); have y6 : wB.cell? ⟨Y, 6, none⟩ = some (.int .i64 0) := cell_of_row _ _ 6 _ _ (0, 0) HQB.out; have z6 : wB.frozen? ⟨Y, 6, none⟩ = false := (by simp [World.frozen?, HQB.out]); have y7 : wB.cell? ⟨Y, 7, none⟩ = some (.int .i64 0) := cell_of_row _ _ 7 _ _ (0, 0) HQB.out; have z7 : wB.frozen? ⟨Y, 7, none⟩ = false := (by simp [World.frozen?, HQB.out]); have y8 : wB.cell? ⟨Y, 8, none⟩ = some (.int .i64 0) := cell_of_row _ _ 8 _ _ (0, 0) HQB.out; have z8 : wB.frozen? ⟨Y, 8, none⟩ = false := (by simp [World.frozen?, HQB.out]); have y9 : wB.cell? ⟨Y, 9, none⟩ = some (.int .i64 0) := cell_of_row _ _ 9 _ _ (0, 0) HQB.out; have z9 : wB.frozen? ⟨Y, 9, none⟩ = false := (by simp [World.frozen?, HQB.out]); have y10 : wB.cell? ⟨Y, 10, none⟩ = some (.int .i64 0) := cell_of_row _ _ 10 _ _ (0, 0) HQB.out; have z10 : wB.frozen? ⟨Y, 10, none⟩ = false := (by simp [World.frozen?, HQB.out]); have y11 : wB.cell? ⟨Y, 11, none⟩ = some (.int .i64 0) := cell_of_row _ _ 11 _ _ (0, 0) HQB.out; have z11 : wB.frozen? ⟨Y, 11, none⟩ = false := (by simp [World.frozen?, HQB.out]); have y12 : wB.cell? ⟨Y, 12, none⟩ = some (.int .i64 0) := cell_of_row _ _ 12 _ _ (0, 0) HQB.out; have z12 : wB.frozen? ⟨Y, 12, none⟩ = false := (by simp [World.frozen?, HQB.out]); have y13 : wB.cell? ⟨Y, 13, none⟩ = some (.int .i64 0) := cell_of_row _ _ 13 _ _ (0, 0) HQB.out; have z13 : wB.frozen? ⟨Y, 13, none⟩ = false := (by simp [World.frozen?, HQB.out]))
                  obtain ⟨r, hr0⟩ : ∃ r : Rw, r = ⟨K, jc⟩ := ⟨_, rfl⟩
                  have HRC := Lib.hid (show r.cells = [.int .i64 (u : Int), .int .i64 wi, .string x4, .string x5, .int .i64 j0, .int .i64 j1, .int .i64 j2, .int .i64 j3, .int .i64 j4, .int .i64 j5, .int .i64 j6, .int .i64 j7, .int .i64 j8, .int .i64 j9] from by
                    obtain ⟨q0, q1, q2, q3, q4, q5, q6, q7, q8, q9⟩ := HJJ.out
                    rw [hr0, HK.out]
                    simp only [Rw.cells]
                    rw [← q0, ← q1, ← q2, ← q3, ← q4, ← q5, ← q6, ← q7, ← q8, ← q9])
                  have HRE := Lib.hid hr0
                  obtain ⟨w14, hw14⟩ : ∃ w14, w14 = ((((((((((wB.setCell ⟨Y, 4, none⟩ (.int .i64 j0)).setCell ⟨Y, 5, none⟩ (.int .i64 j1)).setCell ⟨Y, 6, none⟩ (.int .i64 j2)).setCell ⟨Y, 7, none⟩ (.int .i64 j3)).setCell ⟨Y, 8, none⟩ (.int .i64 j4)).setCell ⟨Y, 9, none⟩ (.int .i64 j5)).setCell ⟨Y, 10, none⟩ (.int .i64 j6)).setCell ⟨Y, 11, none⟩ (.int .i64 j7)).setCell ⟨Y, 12, none⟩ (.int .i64 j8)).setCell ⟨Y, 13, none⟩ (.int .i64 j9)) := ⟨_, rfl⟩
                  rw [← hw14]
                  have hq14 : w14.heap[Y]? = some (.cells #[.int .i64 (u : Int), .int .i64 wi, .string x4, .string x5, .int .i64 j0, .int .i64 j1, .int .i64 j2, .int .i64 j3, .int .i64 j4, .int .i64 j5, .int .i64 j6, .int .i64 j7, .int .i64 j8, .int .i64 j9] 48 (0, 0)) := by rw [hw14]; exact tail_store HQB.out
                  have hbB : Below Y wc wB := (HWA.out.mono (by have := HXY.out; omega)).trans (HBB.out.mono (by have := HWA.out.size; have := HXY.out; omega))
                  have hb14 : Below Y wc w14 := by
                    rw [hw14]
                    exact tail_below hbB (Nat.le_refl _)
                  have HB14 := Lib.hid hb14
                  have HQC := Lib.hid hq14
                  clear hw14 hb14 hq14 hr0 hbB
                  obtain ⟨W, hW⟩ : ∃ W, W = w14.drew := ⟨_, rfl⟩
                  obtain ⟨N, hN⟩ : ∃ N, N = W.heap.size := ⟨_, rfl⟩
                  have HQW := Lib.hid (show W.heap[Y]? = some (.cells #[.int .i64 (u : Int), .int .i64 wi, .string x4, .string x5, .int .i64 j0, .int .i64 j1, .int .i64 j2, .int .i64 j3, .int .i64 j4, .int .i64 j5, .int .i64 j6, .int .i64 j7, .int .i64 j8, .int .i64 j9] 48 (0, 0)) from by rw [hW]; exact HQC.out)
                  have HBW := Lib.hid (show Below Y wc W from by rw [hW]; exact ⟨HB14.out.os, HB14.out.tape, HB14.out.output, HB14.out.size, HB14.out.block⟩)
                  have HYN := Lib.hid (show Y < N ∧ base < Y from by
                    have h2 := HQW.out
                    refine ⟨?_, HXY.out.1⟩
                    rcases Nat.lt_or_ge Y W.heap.size with h | h
                    · omega
                    · rw [Array.getElem?_eq_none h] at h2; cases h2)
                  obtain ⟨A3, hA3⟩ : ∃ A3 : Option Addr, A3 = (if c' = p then A' else A'.map (·.add (p * 14))) := ⟨_, rfl⟩
                  have HRD : Hid (∀ w3, Below N W w3 → Rd w3 N A' ((L'.take p).flatMap Rw.cells) ∧ Rd w3 N A3 ((L'.drop p).flatMap Rw.cells)) := Lib.hid (fun w3 hW3 => by
                    have h4 : Rd w3 N A' (L'.flatMap Rw.cells) := ((VRY.out.below HBW.out).more (Nat.le_of_lt HYN.out.1)).below hW3
                    refine ⟨rdR_take h4, ?_⟩
                    rw [hA3]
                    by_cases hc : c' = p
                    · rw [if_pos hc, List.drop_of_length_le (by have := VLN.out; have := VNC.out; omega)]
                      exact Rd.nil
                    · rw [if_neg hc]
                      rcases hAA : A' with _ | a
                      · exact absurd (VA0.out hAA) (by have := VNC.out; have := HPL.out; omega)
                      · rw [hAA] at h4
                        exact rdR_drop (by have := VLN.out; have := HPL.out; omega) h4)
                  have HYC := Lib.hid (fun (w3 : World) (h3 : Below N W w3) => show w3.heap[Y]? = some (.cells #[.int .i64 (u : Int), .int .i64 wi, .string x4, .string x5, .int .i64 j0, .int .i64 j1, .int .i64 j2, .int .i64 j3, .int .i64 j4, .int .i64 j5, .int .i64 j6, .int .i64 j7, .int .i64 j8, .int .i64 j9] 48 (0, 0)) from (h3.block Y HYN.out.1).trans HQW.out)
                  have HA3 := Lib.hid hA3
                  have HWW := Lib.hid hW
                  have HNN := Lib.hid hN
                  have p0 : (p : Int) ≤ (n' : Int) := by have := HPL.out; omega
                  have p1 : p ≤ n' := HPL.out
                  have p2 : n' ≤ c' := VNC.out
                  have p3 : (0 : Int) ≤ (p : Int) := by omega
                  have p4 : (p : Int) ≤ (c' : Int) := by omega
                  have p5 : (n' : Int) ≤ (c' : Int) := by omega
                  have p6 : p ≤ c' := by omega
                  clear hA3 hN hW
                  refine PI.wp_region_persG (R := fun a b => Below N a b) (G := fun _ _ => True) (I := PI.RI [(3, 80), (5, 82), (6, 83), (10, 87)] [(6, 3), (3, 6), (10, 6), (6, 10), (10, 3), (3, 10)]) [(2, 0), (2, 1), (3, 2), (5, 4), (6, 3), (6, 5), (9, 7), (9, 8), (10, 6), (10, 9), (11, 10)] [11] (by kernel_rfl) (PI.formed_of (by kernel_rfl)) GOESY (fun _ => trivial) (AsF A' A3 n' c' p N r L') (PI.RI.start (n := 89) (by decide) rfl) ?_ ?_
                  · rw [← HWW.out]
                    intro i o ho
                    rcases i with _ | _ | _ | _ | _ | _ | _ | _ | _ | _ | _ | _ | i
                    · obtain rfl := Option.some.inj (show some _ = some o from ho)
                      refine PI.shown_val rfl fun a w3 L0 hr T => ?_
                      have h1 : a.eval (.tmp 0) = .slice A' n' c' := T.was 0 (by kernel_rfl)
                      exact ⟨.slice A' n' c', w3, by simp only [execOp, h1]; simp [go_sem], PI.Post.pure GOESY rfl (PI.RI.pure T.inv _ (by decide) (Nat.le_refl _))⟩
                    · obtain rfl := Option.some.inj (show some _ = some o from ho)
                      refine PI.shown_val rfl fun a w3 L0 hr T => ?_
                      have h1 : a.eval (.tmp 9) = .int .i64 (p : Int) := T.was 9 (by kernel_rfl)
                      exact ⟨.int .i64 (p : Int), w3, by simp only [execOp, h1]; simp [go_sem], PI.Post.pure GOESY rfl (PI.RI.pure T.inv _ (by decide) (Nat.le_refl _))⟩
                    · obtain rfl := Option.some.inj (show some _ = some o from ho)
                      refine PI.shown_val rfl fun a w3 L0 hr T => ?_
                      have h1 : a.eval (.tmp 77) = .slice A' n' c' := T.at_ 0 77 (by kernel_rfl) (by kernel_rfl) (by kernel_rfl)
                      have h2 : a.eval (.tmp 78) = .int .i64 (p : Int) := T.at_ 1 78 (by kernel_rfl) (by kernel_rfl) (by kernel_rfl)
                      exact ⟨.slice A' p c', w3, by simp only [execOp, h1, h2, Option.map]; rcases A' with _ | a' <;> simp [go_sem, p0, p1, p2, p3, p4, p5, p6], PI.Post.pure GOESY rfl (PI.RI.pure T.inv _ (by decide) (Nat.le_refl _))⟩
                    · obtain rfl := Option.some.inj (show some _ = some o from ho)
                      refine PI.shown_val rfl fun a w3 L0 hr T => ?_
                      have h1 : a.eval (.tmp 79) = .slice A' p c' := T.at_ 2 79 (by kernel_rfl) (by kernel_rfl) (by kernel_rfl)
                      have h0 : a.eval (.const (.slice none 0 0)) = .slice none 0 0 := rfl
                      have hsz : N ≤ w3.heap.size := by rw [HNN.out]; exact hr.size
                      obtain ⟨v4, w4, e4, ho4, hg4⟩ := appRs (ty := 22) (c := c') (base := w3.heap.size) (n := 0) (L := []) (World.ownsRow_nil w3 _ 48 14) (K := L'.take p) ((HRD.out w3 hr).1) (m := p) (by rw [List.length_take]; have := VLN.out; omega) (by omega) (Nat.le_refl _)
                      rw [Nat.zero_add, List.nil_append] at ho4
                      have hb4 := hg4.new
                      exact ⟨v4, w4, by simp only [execOp, resolve, invoke, builtin, Sem.run_bind, Sem.run_pure, Result.andThen_ok, List.map_toArray, List.map_cons, List.map_nil, h0, h1, e4], hb4.mono hsz, own_mono ho4 hsz, fun _ _ h => h, fun j v _ _ _ _ h => h.keep (fun m xs ho => own_below ho hb4), PI.RI.row T.inv (by decide) (by decide) [] (by decide) (by decide) (fun j hj => by cases hj) hb4.size (fun b hvb => ⟨own_block_lt ho4 b hvb, .inl (own_block_ge ho4 b hvb)⟩)⟩
                    · obtain rfl := Option.some.inj (show some _ = some o from ho)
                      refine PI.shown_val rfl fun a w3 L0 hr T => ?_
                      have h1 : a.eval (.tmp 8) = .pointer (some ⟨Y, 0, none⟩) := T.was 8 (by kernel_rfl)
                      have c0 : w3.cell? ⟨Y, 0, none⟩ = some (.int .i64 (u : Int)) := cell_of_row _ _ 0 _ _ (0, 0) (HYC.out w3 hr)
                      have c1 : w3.cell? ⟨Y, 1, none⟩ = some (.int .i64 wi) := cell_of_row _ _ 1 _ _ (0, 0) (HYC.out w3 hr)
                      have c2 : w3.cell? ⟨Y, 2, none⟩ = some (.string x4) := cell_of_row _ _ 2 _ _ (0, 0) (HYC.out w3 hr)
                      have c3 : w3.cell? ⟨Y, 3, none⟩ = some (.string x5) := cell_of_row _ _ 3 _ _ (0, 0) (HYC.out w3 hr)
                      have c4 : w3.cell? ⟨Y, 4, none⟩ = some (.int .i64 j0) := cell_of_row _ _ 4 _ _ (0, 0) (HYC.out w3 hr)
                      have c5 : w3.cell? ⟨Y, 5, none⟩ = some (.int .i64 j1) := cell_of_row _ _ 5 _ _ (0, 0) (HYC.out w3 hr)
                      have c6 : w3.cell? ⟨Y, 6, none⟩ = some (.int .i64 j2) := cell_of_row _ _ 6 _ _ (0, 0) (HYC.out w3 hr)
                      have c7 : w3.cell? ⟨Y, 7, none⟩ = some (.int .i64 j3) := cell_of_row _ _ 7 _ _ (0, 0) (HYC.out w3 hr)
                      have c8 : w3.cell? ⟨Y, 8, none⟩ = some (.int .i64 j4) := cell_of_row _ _ 8 _ _ (0, 0) (HYC.out w3 hr)
                      have c9 : w3.cell? ⟨Y, 9, none⟩ = some (.int .i64 j5) := cell_of_row _ _ 9 _ _ (0, 0) (HYC.out w3 hr)
                      have c10 : w3.cell? ⟨Y, 10, none⟩ = some (.int .i64 j6) := cell_of_row _ _ 10 _ _ (0, 0) (HYC.out w3 hr)
                      have c11 : w3.cell? ⟨Y, 11, none⟩ = some (.int .i64 j7) := cell_of_row _ _ 11 _ _ (0, 0) (HYC.out w3 hr)
                      have c12 : w3.cell? ⟨Y, 12, none⟩ = some (.int .i64 j8) := cell_of_row _ _ 12 _ _ (0, 0) (HYC.out w3 hr)
                      have c13 : w3.cell? ⟨Y, 13, none⟩ = some (.int .i64 j9) := cell_of_row _ _ 13 _ _ (0, 0) (HYC.out w3 hr)
                      exact ⟨.agg #[.int .i64 (u : Int), .int .i64 wi, .string x4, .string x5, .int .i64 j0, .int .i64 j1, .int .i64 j2, .int .i64 j3, .int .i64 j4, .int .i64 j5, .int .i64 j6, .int .i64 j7, .int .i64 j8, .int .i64 j9], w3, by simp only [execOp, h1]; simp [go_sem, c0, c1, c2, c3, c4, c5, c6, c7, c8, c9, c10, c11, c12, c13], PI.Post.pure GOESY (by show _ = Value.agg r.cells.toArray; rw [HRC.out]) (PI.RI.pure T.inv _ (by decide) (Nat.le_refl _))⟩
                    · obtain rfl := Option.some.inj (show some _ = some o from ho)
                      refine PI.shown_val rfl fun a w3 L0 hr T => ?_
                      have h1 : a.eval (.tmp 81) = .agg #[.int .i64 (u : Int), .int .i64 wi, .string x4, .string x5, .int .i64 j0, .int .i64 j1, .int .i64 j2, .int .i64 j3, .int .i64 j4, .int .i64 j5, .int .i64 j6, .int .i64 j7, .int .i64 j8, .int .i64 j9] := (show a.eval (.tmp 81) = .agg r.cells.toArray from T.at_ 4 81 (by kernel_rfl) (by kernel_rfl) (by kernel_rfl)).trans (by rw [HRC.out])
                      have hsz : N ≤ w3.heap.size := by rw [HNN.out]; exact hr.size
                      have ho4 : (w3.alloc (.cells #[.int .i64 (u : Int), .int .i64 wi, .string x4, .string x5, .int .i64 j0, .int .i64 j1, .int .i64 j2, .int .i64 j3, .int .i64 j4, .int .i64 j5, .int .i64 j6, .int .i64 j7, .int .i64 j8, .int .i64 j9] 48)).ownsRow N 48 14 (.slice (some ⟨w3.heap.size, 0, none⟩) 1 1) 1 (([r] : List Rw).flatMap Rw.cells) := by
                        have h := World.ownsRow_lit (base := N) (e := 48) (size := 14) w3 #[.int .i64 (u : Int), .int .i64 wi, .string x4, .string x5, .int .i64 j0, .int .i64 j1, .int .i64 j2, .int .i64 j3, .int .i64 j4, .int .i64 j5, .int .i64 j6, .int .i64 j7, .int .i64 j8, .int .i64 j9] 1 hsz (by decide) rfl
                        have e1 : ([r] : List Rw).flatMap Rw.cells = [.int .i64 (u : Int), .int .i64 wi, .string x4, .string x5, .int .i64 j0, .int .i64 j1, .int .i64 j2, .int .i64 j3, .int .i64 j4, .int .i64 j5, .int .i64 j6, .int .i64 j7, .int .i64 j8, .int .i64 j9] := by simp only [List.flatMap_cons, List.flatMap_nil, List.append_nil]; exact HRC.out
                        rw [e1]; exact h
                      have hb4 := (Below.refl w3.heap.size w3).alloc (Nat.le_refl _) (.cells #[.int .i64 (u : Int), .int .i64 wi, .string x4, .string x5, .int .i64 j0, .int .i64 j1, .int .i64 j2, .int .i64 j3, .int .i64 j4, .int .i64 j5, .int .i64 j6, .int .i64 j7, .int .i64 j8, .int .i64 j9] 48)
                      have h1b := h1
                      simp only [Act.eval, Array.getD_eq_getD_getElem?] at h1b
                      exact ⟨.slice (some ⟨w3.heap.size, 0, none⟩) 1 1, _, by (simp only [execOp]; first | (simp [go_sem, h1b]; done) | (simp [go_sem, h1b]; rfl)), hb4.mono hsz, ho4, fun _ _ h => h, fun j v _ _ _ _ h => h.keep (fun m xs ho => own_below ho hb4), PI.RI.row T.inv (by decide) (by decide) [] (by decide) (by decide) (fun j hj => by cases hj) hb4.size (fun b hvb => ⟨own_block_lt ho4 b hvb, .inl (by injection hvb with hvb; rw [← hvb]; exact Nat.le_refl _)⟩)⟩
                    · obtain rfl := Option.some.inj (show some _ = some o from ho)
                      refine PI.shown_val rfl fun a w3 L0 hr T => ?_
                      have h1 : w3.ownsRow N 48 14 (a.eval (.tmp 80)) p ((L'.take p).flatMap Rw.cells) := T.at_ 3 80 (by kernel_rfl) (by kernel_rfl) (by kernel_rfl)
                      have h2 : w3.ownsRow N 48 14 (a.eval (.tmp 82)) 1 (([r] : List Rw).flatMap Rw.cells) := T.at_ 5 82 (by kernel_rfl) (by kernel_rfl) (by kernel_rfl)
                      have hsz : N ≤ w3.heap.size := by rw [HNN.out]; exact hr.size
                      obtain ⟨A5, c5, hv5, _, hrd5⟩ := own_rd h2
                      obtain ⟨v4, w4, e4, ho4, hg4⟩ := appRs (ty := 22) (c := c5) h1 (K := [r]) hrd5 (m := 1) rfl (by omega) hsz
                      have HI := T.inv
                      have hge := own_block_ge h1
                      have hL : L0 3 = true := T.doneY 3 (by kernel_rfl)
                      refine ⟨v4, w4, by simp only [execOp, resolve, invoke, builtin, Sem.run_bind, Sem.run_pure, Result.andThen_ok, List.map_toArray, List.map_cons, List.map_nil, hv5, e4], hg4.below (Below.refl _ _) hsz hge, ho4, fun _ _ h => h, fun j v hj hLj hnd hvj h => ?_, PI.RI.row HI (by decide) (by decide) [(3, 80)] (by decide) (by decide) (fun j hj => by rw [List.mem_singleton] at hj; subst hj; exact hL) hg4.grown.size (fun b hvb => ⟨own_block_lt ho4 b hvb, by
                        rcases hg4.blk with hk | ⟨g, hk, hk2⟩
                        · exact .inr ⟨_, List.mem_singleton.2 rfl, by rw [← hvb, hk]; rfl⟩
                        · rw [hk] at hvb; injection hvb with hvb; exact .inl (by omega)⟩)⟩
                      by_cases hjr : j = 3 ∨ j = 5 ∨ j = 6 ∨ j = 10 ∨ j = 11
                      · rcases hjr with rfl | rfl | rfl | rfl | rfl
                        · simp [PI.needB] at hnd
                        · simp [PI.needB] at hnd
                        · exact absurd rfl hj
                        · exact absurd (T.shut_ 10 6 (by kernel_rfl) hLj) (by rw [T.yetNot]; decide)
                        · exact absurd (T.shut_ 11 6 (by kernel_rfl) hLj) (by rw [T.yetNot]; decide)
                      · exact AsF.other h hjr
                    · obtain rfl := Option.some.inj (show some _ = some o from ho)
                      refine PI.shown_val rfl fun a w3 L0 hr T => ?_
                      have h1 : a.eval (.tmp 0) = .slice A' n' c' := T.was 0 (by kernel_rfl)
                      exact ⟨.slice A' n' c', w3, by simp only [execOp, h1]; simp [go_sem], PI.Post.pure GOESY rfl (PI.RI.pure T.inv _ (by decide) (Nat.le_refl _))⟩
                    · obtain rfl := Option.some.inj (show some _ = some o from ho)
                      refine PI.shown_val rfl fun a w3 L0 hr T => ?_
                      have h1 : a.eval (.tmp 9) = .int .i64 (p : Int) := T.was 9 (by kernel_rfl)
                      exact ⟨.int .i64 (p : Int), w3, by simp only [execOp, h1]; simp [go_sem], PI.Post.pure GOESY rfl (PI.RI.pure T.inv _ (by decide) (Nat.le_refl _))⟩
                    · obtain rfl := Option.some.inj (show some _ = some o from ho)
                      refine PI.shown_val rfl fun a w3 L0 hr T => ?_
                      have h1 : a.eval (.tmp 84) = .slice A' n' c' := T.at_ 7 84 (by kernel_rfl) (by kernel_rfl) (by kernel_rfl)
                      have h2 : a.eval (.tmp 85) = .int .i64 (p : Int) := T.at_ 8 85 (by kernel_rfl) (by kernel_rfl) (by kernel_rfl)
                      exact ⟨.slice A3 (n' - p) (c' - p), w3, by simp only [execOp, h1, h2, Option.map]; rw [HA3.out]; rcases A' with _ | a' <;> simp [go_sem, p0, p1, p2, p3, p4, p5, p6], PI.Post.pure GOESY rfl (PI.RI.pure T.inv _ (by decide) (Nat.le_refl _))⟩
                    · obtain rfl := Option.some.inj (show some _ = some o from ho)
                      refine PI.shown_val rfl fun a w3 L0 hr T => ?_
                      have h1 : w3.ownsRow N 48 14 (a.eval (.tmp 83)) (p + 1) ((L'.take p ++ [r]).flatMap Rw.cells) := T.at_ 6 83 (by kernel_rfl) (by kernel_rfl) (by kernel_rfl)
                      have h2 : a.eval (.tmp 86) = .slice A3 (n' - p) (c' - p) := T.at_ 9 86 (by kernel_rfl) (by kernel_rfl) (by kernel_rfl)
                      have hsz : N ≤ w3.heap.size := by rw [HNN.out]; exact hr.size
                      obtain ⟨v4, w4, e4, ho4, hg4⟩ := appRs (ty := 22) (c := c' - p) h1 (K := L'.drop p) ((HRD.out w3 hr).2) (m := n' - p) (by rw [List.length_drop]; have := VLN.out; omega) (by omega) hsz
                      rw [show p + 1 + (n' - p) = n' + 1 by omega] at ho4
                      have HI := T.inv
                      have hge := own_block_ge h1
                      have hL : L0 6 = true := T.doneY 6 (by kernel_rfl)
                      refine ⟨v4, w4, by simp only [execOp, resolve, invoke, builtin, Sem.run_bind, Sem.run_pure, Result.andThen_ok, List.map_toArray, List.map_cons, List.map_nil, h2, e4], hg4.below (Below.refl _ _) hsz hge, ho4, fun _ _ h => h, fun j v hj hLj hnd hvj h => ?_, PI.RI.row HI (by decide) (by decide) [(6, 83)] (by decide) (by decide) (fun j hj => by rw [List.mem_singleton] at hj; subst hj; exact hL) hg4.grown.size (fun b hvb => ⟨own_block_lt ho4 b hvb, by
                        rcases hg4.blk with hk | ⟨g, hk, hk2⟩
                        · exact .inr ⟨_, List.mem_singleton.2 rfl, by rw [← hvb, hk]; rfl⟩
                        · rw [hk] at hvb; injection hvb with hvb; exact .inl (by omega)⟩)⟩
                      by_cases hjr : j = 3 ∨ j = 5 ∨ j = 6 ∨ j = 10 ∨ j = 11
                      · rcases hjr with rfl | rfl | rfl | rfl | rfl
                        · simp [PI.needB, hL] at hnd
                        · simp [PI.needB, hL] at hnd
                        · simp [PI.needB] at hnd
                        · exact absurd rfl hj
                        · exact absurd (T.shut_ 11 10 (by kernel_rfl) hLj) (by rw [T.yetNot]; decide)
                      · exact AsF.other h hjr
                    · obtain rfl := Option.some.inj (show some _ = some o from ho)
                      refine PI.shown_val rfl fun a w3 L0 hr T => ?_
                      have h1 : w3.ownsRow N 48 14 (a.eval (.tmp 87)) (n' + 1) ((L'.take p ++ [r] ++ L'.drop p).flatMap Rw.cells) := T.at_ 10 87 (by kernel_rfl) (by kernel_rfl) (by kernel_rfl)
                      exact ⟨a.eval (.tmp 87), w3, by simp only [execOp]; simp [go_sem], PI.Post.pure GOESY h1 (PI.RI.pure T.inv _ (by decide) (Nat.le_refl _))⟩
                    · cases ho
                  · rw [← HWW.out]
                    intro x9 w9b hr hf he _
                    have h1 := hf 11 _ 0 rfl rfl (by decide)
                    change w9b.ownsRow N 48 14 (x9 11) (n' + 1) ((L'.take p ++ [r] ++ L'.drop p).flatMap Rw.cells) at h1
                    obtain ⟨A9, c9, hv9, hc9, _⟩ := own_rd h1
                    rw [hv9] at h1
                    have HBF := Lib.hid (show Below base w w9b from (VB14.out.trans (HBW.out.mono (Nat.le_of_lt HYN.out.2))).trans (hr.mono (by have := HYN.out; omega)))
                    have HQF := Lib.hid ((hr.block base (by have := HYN.out; omega)).trans ((HBW.out.block base HYN.out.2).trans VQ14.out))
                    have HO9 := Lib.hid (own_mono h1 (show base ≤ N by have := HYN.out; omega))
                    have HC9 := Lib.hid hc9
                    have HNEW := Lib.hid (show L'.take p ++ [r] ++ L'.drop p = addV l SP m (u + 1) from by
                      show _ = insR (spK (u : Int) SP) (fS SP m) (addV l SP m u)
                      rw [← VL.out, ← HKK.out, insR_miss K (fS SP m) HSL.out.1 (HH.out.symm.trans HHT.out), ← HP.out, HRE.out, HJC.out]; rw [HSP.out]; simp [fS, cS])
                    simp only [PI.putAll, Act.put, List.setIfInBounds_toArray, List.set_cons_zero, List.set_cons_succ]
                    rw [hv9]
                    clear hf he h1 hr hv9 hc9
                    go_wp2_with fail
                    go_roundw
                    case rel => exact ⟨u + 1, n' + 1, c9, A9, L'.take p ++ [r] ++ L'.drop p, by go_num, by omega, rfl, Lib.hid (by have := VNN.out; omega), HC9, Lib.hid (fun hA => by rw [hA] at HO9; rcases HO9.out.2 with ⟨h, h2⟩ | ⟨_, _, _, h, _⟩ <;> first | (exfalso; omega) | (exfalso; simp at h)), HNEW, Lib.hid (by simp only [List.length_append, List.length_take, List.length_drop, List.length_cons, List.length_nil]; have := VLN.out; omega), Lib.hid (Rd.of_own HO9.out), Lib.hid (fun _ => HO9.out), HBF, HQF⟩
                    case measure => simp [intOf]; omega
                · have HHT := Lib.hid hht
                  rw [hht] at hbh
                  have hbt : bq = false := hbh
                  subst hbt
                  clear hbh hht
                  have n0 := fun p : NowB w9 => p.cell d0
                  have n1 := fun p : NowB w9 => p.cell d1
                  have n2 := fun p : NowB w9 => p.cell d2
                  have n3 := fun p : NowB w9 => p.cell d3
                  have n4 := fun p : NowB w9 => p.cell d4
                  have n5 := fun p : NowB w9 => p.cell d5
                  have n6 := fun p : NowB w9 => p.cell d6
                  have n7 := fun p : NowB w9 => p.cell d7
                  have n8 := fun p : NowB w9 => p.cell d8
                  have n9 := fun p : NowB w9 => p.cell d9
                  have n10 := fun p : NowB w9 => p.cell d10
                  have n11 := fun p : NowB w9 => p.cell d11
                  have n12 := fun p : NowB w9 => p.cell d12
                  have n13 := fun p : NowB w9 => p.cell d13
                  have m0 := fun p : NowB w9 => p.cell t0
                  have m1 := fun p : NowB w9 => p.cell t1
                  have m2 := fun p : NowB w9 => p.cell t2
                  have m3 := fun p : NowB w9 => p.cell t3
                  have m4 := fun p : NowB w9 => p.cell t4
                  have m5 := fun p : NowB w9 => p.cell t5
                  have m6 := fun p : NowB w9 => p.cell t6
                  have m7 := fun p : NowB w9 => p.cell t7
                  have m8 := fun p : NowB w9 => p.cell t8
                  have m9 := fun p : NowB w9 => p.cell t9
                  have m10 := fun p : NowB w9 => p.cell t10
                  have m11 := fun p : NowB w9 => p.cell t11
                  have m12 := fun p : NowB w9 => p.cell t12
                  have m13 := fun p : NowB w9 => p.cell t13
                  clear d0 d1 d2 d3 d4 d5 d6 d7 d8 d9 d10 d11 d12 d13 t0 t1 t2 t3 t4 t5 t6 t7 t8 t9 t10 t11 t12 t13
                  refine wp_region_quiet_below (by kernel_rfl) (by kernel_rfl) ?_
                  repeat (go_big_quiet_step ((go_at_call 32; with_reducible exact Calls.now_of (OD _).out)))
                  refine wpQuiet_nil ?_
                  intro _ hw'
                  obtain ⟨pp, hw''⟩ := hw'
                  subst hw''
                  have HWA := Lib.hid (HW9.out.trans (pp.h.mono HW9.out.size))
                  have HPA := Lib.hid pp.h
                  generalize pp.W = wA at *
                  have HQA := Lib.hid ((HWA.out.block Y HXY.out.2).trans HQ14.out)
                  have t0 : wA.cell? ⟨Y, 0, none⟩ = some (.int .i64 (u : Int)) := cell_of_row _ _ 0 _ _ (0, 0) HQA.out
                  have t1 : wA.cell? ⟨Y, 1, none⟩ = some (.int .i64 wi) := cell_of_row _ _ 1 _ _ (0, 0) HQA.out
                  have t2 : wA.cell? ⟨Y, 2, none⟩ = some (.string x4) := cell_of_row _ _ 2 _ _ (0, 0) HQA.out
                  have t3 : wA.cell? ⟨Y, 3, none⟩ = some (.string x5) := cell_of_row _ _ 3 _ _ (0, 0) HQA.out
                  have t4 : wA.cell? ⟨Y, 4, none⟩ = some (.int .i64 0) := cell_of_row _ _ 4 _ _ (0, 0) HQA.out
                  have t5 : wA.cell? ⟨Y, 5, none⟩ = some (.int .i64 0) := cell_of_row _ _ 5 _ _ (0, 0) HQA.out
                  have t6 : wA.cell? ⟨Y, 6, none⟩ = some (.int .i64 0) := cell_of_row _ _ 6 _ _ (0, 0) HQA.out
                  have t7 : wA.cell? ⟨Y, 7, none⟩ = some (.int .i64 0) := cell_of_row _ _ 7 _ _ (0, 0) HQA.out
                  have t8 : wA.cell? ⟨Y, 8, none⟩ = some (.int .i64 0) := cell_of_row _ _ 8 _ _ (0, 0) HQA.out
                  have t9 : wA.cell? ⟨Y, 9, none⟩ = some (.int .i64 0) := cell_of_row _ _ 9 _ _ (0, 0) HQA.out
                  have t10 : wA.cell? ⟨Y, 10, none⟩ = some (.int .i64 0) := cell_of_row _ _ 10 _ _ (0, 0) HQA.out
                  have t11 : wA.cell? ⟨Y, 11, none⟩ = some (.int .i64 0) := cell_of_row _ _ 11 _ _ (0, 0) HQA.out
                  have t12 : wA.cell? ⟨Y, 12, none⟩ = some (.int .i64 0) := cell_of_row _ _ 12 _ _ (0, 0) HQA.out
                  have t13 : wA.cell? ⟨Y, 13, none⟩ = some (.int .i64 0) := cell_of_row _ _ 13 _ _ (0, 0) HQA.out
                  have z4 : wA.frozen? ⟨Y, 4, none⟩ = false := by simp [World.frozen?, HQA.out]
                  have z5 : wA.frozen? ⟨Y, 5, none⟩ = false := by simp [World.frozen?, HQA.out]
                  have z6 : wA.frozen? ⟨Y, 6, none⟩ = false := by simp [World.frozen?, HQA.out]
                  have z7 : wA.frozen? ⟨Y, 7, none⟩ = false := by simp [World.frozen?, HQA.out]
                  have z8 : wA.frozen? ⟨Y, 8, none⟩ = false := by simp [World.frozen?, HQA.out]
                  have z9 : wA.frozen? ⟨Y, 9, none⟩ = false := by simp [World.frozen?, HQA.out]
                  have z10 : wA.frozen? ⟨Y, 10, none⟩ = false := by simp [World.frozen?, HQA.out]
                  have z11 : wA.frozen? ⟨Y, 11, none⟩ = false := by simp [World.frozen?, HQA.out]
                  have z12 : wA.frozen? ⟨Y, 12, none⟩ = false := by simp [World.frozen?, HQA.out]
                  have z13 : wA.frozen? ⟨Y, 13, none⟩ = false := by simp [World.frozen?, HQA.out]
                  obtain ⟨af, haf, _, d0, d1, d2, d3, d4, d5, d6, d7, d8, d9, d10, d11, d12, d13⟩ := row_cells (VR14.out.below HWA.out) HF.out
                  injection haf with haf
                  subst haf
                  simp only at d0 d1 d2 d3 d4 d5 d6 d7 d8 d9 d10 d11 d12 d13
                  obtain ⟨o0, ho0⟩ : ∃ o, o = fct.getD 0 0 := ⟨_, rfl⟩
                  obtain ⟨o1, ho1⟩ : ∃ o, o = fct.getD 1 0 := ⟨_, rfl⟩
                  obtain ⟨o2, ho2⟩ : ∃ o, o = fct.getD 2 0 := ⟨_, rfl⟩
                  obtain ⟨o3, ho3⟩ : ∃ o, o = fct.getD 3 0 := ⟨_, rfl⟩
                  obtain ⟨o4, ho4⟩ : ∃ o, o = fct.getD 4 0 := ⟨_, rfl⟩
                  obtain ⟨o5, ho5⟩ : ∃ o, o = fct.getD 5 0 := ⟨_, rfl⟩
                  obtain ⟨o6, ho6⟩ : ∃ o, o = fct.getD 6 0 := ⟨_, rfl⟩
                  obtain ⟨o7, ho7⟩ : ∃ o, o = fct.getD 7 0 := ⟨_, rfl⟩
                  obtain ⟨o8, ho8⟩ : ∃ o, o = fct.getD 8 0 := ⟨_, rfl⟩
                  obtain ⟨o9, ho9⟩ : ∃ o, o = fct.getD 9 0 := ⟨_, rfl⟩
                  rw [← ho0] at d4
                  rw [← ho1] at d5
                  rw [← ho2] at d6
                  rw [← ho3] at d7
                  rw [← ho4] at d8
                  rw [← ho5] at d9
                  rw [← ho6] at d10
                  rw [← ho7] at d11
                  rw [← ho8] at d12
                  rw [← ho9] at d13
                  have HOO := Lib.hid (And.intro ho0 (And.intro ho1 (And.intro ho2 (And.intro ho3 (And.intro ho4 (And.intro ho5 (And.intro ho6 (And.intro ho7 (And.intro ho8 ho9)))))))))
                  clear ho0 ho1 ho2 ho3 ho4 ho5 ho6 ho7 ho8 ho9
                  have g1 : wA.cell? ⟨(af.add (p * 14)).block, (af.add (p * 14)).off + 4 + 1, none⟩ = some (.int .i64 o1) := d5
                  have g2 : wA.cell? ⟨(af.add (p * 14)).block, (af.add (p * 14)).off + 4 + 2, none⟩ = some (.int .i64 o2) := d6
                  have g3 : wA.cell? ⟨(af.add (p * 14)).block, (af.add (p * 14)).off + 4 + 3, none⟩ = some (.int .i64 o3) := d7
                  have g4 : wA.cell? ⟨(af.add (p * 14)).block, (af.add (p * 14)).off + 4 + 4, none⟩ = some (.int .i64 o4) := d8
                  have g5 : wA.cell? ⟨(af.add (p * 14)).block, (af.add (p * 14)).off + 4 + 5, none⟩ = some (.int .i64 o5) := d9
                  have g6 : wA.cell? ⟨(af.add (p * 14)).block, (af.add (p * 14)).off + 4 + 6, none⟩ = some (.int .i64 o6) := d10
                  have g7 : wA.cell? ⟨(af.add (p * 14)).block, (af.add (p * 14)).off + 4 + 7, none⟩ = some (.int .i64 o7) := d11
                  have g8 : wA.cell? ⟨(af.add (p * 14)).block, (af.add (p * 14)).off + 4 + 8, none⟩ = some (.int .i64 o8) := d12
                  have g9 : wA.cell? ⟨(af.add (p * 14)).block, (af.add (p * 14)).off + 4 + 9, none⟩ = some (.int .i64 o9) := d13
                  go_upto_region 12 with fail
                  have HPN1 := Lib.hid (show p < n' from HPN.out)
                  generalize (some af : Option Addr) = A' at VRY VA0 ⊢
                  obtain ⟨w11, hw11⟩ : ∃ w11, w11 = ((((((((((wA.setCell ⟨Y, 4, none⟩ (.int .i64 o0)).setCell ⟨Y, 5, none⟩ (.int .i64 o1)).setCell ⟨Y, 6, none⟩ (.int .i64 o2)).setCell ⟨Y, 7, none⟩ (.int .i64 o3)).setCell ⟨Y, 8, none⟩ (.int .i64 o4)).setCell ⟨Y, 9, none⟩ (.int .i64 o5)).setCell ⟨Y, 10, none⟩ (.int .i64 o6)).setCell ⟨Y, 11, none⟩ (.int .i64 o7)).setCell ⟨Y, 12, none⟩ (.int .i64 o8)).setCell ⟨Y, 13, none⟩ (.int .i64 o9)) := ⟨_, rfl⟩
                  rw [← hw11]
                  have hq11 : w11.heap[Y]? = some (.cells #[.int .i64 (u : Int), .int .i64 wi, .string x4, .string x5, .int .i64 o0, .int .i64 o1, .int .i64 o2, .int .i64 o3, .int .i64 o4, .int .i64 o5, .int .i64 o6, .int .i64 o7, .int .i64 o8, .int .i64 o9] 48 (0, 0)) := by rw [hw11]; exact tail_store HQA.out
                  have hb11 : Below Y wc w11 := by
                    rw [hw11]
                    exact tail_below (HWA.out.mono (by have := HXY.out; omega)) (Nat.le_refl _)
                  have HB11 := Lib.hid hb11
                  have HQ11 := Lib.hid hq11
                  clear hw11 hb11 hq11
                  obtain ⟨W, hW⟩ : ∃ W, W = w11.drew := ⟨_, rfl⟩
                  obtain ⟨N, hN⟩ : ∃ N, N = W.heap.size := ⟨_, rfl⟩
                  have HQW := Lib.hid (show W.heap[Y]? = some (.cells #[.int .i64 (u : Int), .int .i64 wi, .string x4, .string x5, .int .i64 o0, .int .i64 o1, .int .i64 o2, .int .i64 o3, .int .i64 o4, .int .i64 o5, .int .i64 o6, .int .i64 o7, .int .i64 o8, .int .i64 o9] 48 (0, 0)) from by rw [hW]; exact HQ11.out)
                  have HBW := Lib.hid (show Below Y wc W from by rw [hW]; exact ⟨HB11.out.os, HB11.out.tape, HB11.out.output, HB11.out.size, HB11.out.block⟩)
                  have HYN := Lib.hid (show Y < N ∧ base < Y from by
                    have h2 := HQW.out
                    refine ⟨?_, HXY.out.1⟩
                    rcases Nat.lt_or_ge Y W.heap.size with h | h
                    · omega
                    · rw [Array.getElem?_eq_none h] at h2; cases h2)
                  obtain ⟨A3, hA3⟩ : ∃ A3 : Option Addr, A3 = (if c' = p + 1 then A' else A'.map (·.add ((p + 1) * 14))) := ⟨_, rfl⟩
                  have HRD : Hid (∀ w3, Below N W w3 → Rd w3 N A' ((L'.take p).flatMap Rw.cells) ∧ Rd w3 N A3 ((L'.drop (p + 1)).flatMap Rw.cells)) := Lib.hid (fun w3 hW3 => by
                    have h4 : Rd w3 N A' (L'.flatMap Rw.cells) := ((VRY.out.below HBW.out).more (Nat.le_of_lt HYN.out.1)).below hW3
                    refine ⟨rdR_take h4, ?_⟩
                    rw [hA3]
                    by_cases hc : c' = p + 1
                    · rw [if_pos hc, List.drop_of_length_le (by have := VLN.out; have := VNC.out; omega)]
                      exact Rd.nil
                    · rw [if_neg hc]
                      rcases hAA : A' with _ | a
                      · exact absurd (VA0.out hAA) (by have := VNC.out; have := HPN1.out; omega)
                      · rw [hAA] at h4
                        exact rdR_drop (by have := VLN.out; have := HPN1.out; omega) h4)
                  have HA3 := Lib.hid hA3
                  have HWW := Lib.hid hW
                  have HNN := Lib.hid hN
                  have pw : IntKind.i64.wrap ((p : Int) + 1) = ((p + 1 : Nat) : Int) := by rw [IntKind.wrap_i64] <;> (have := HPN1.out; omega)
                  have p0 : (p : Int) ≤ (n' : Int) := by have := HPL.out; omega
                  have p1 : p ≤ n' := HPL.out
                  have p2 : n' ≤ c' := VNC.out
                  have p3 : (0 : Int) ≤ (p : Int) := by omega
                  have p4 : (p : Int) ≤ (c' : Int) := by omega
                  have p5 : (n' : Int) ≤ (c' : Int) := by omega
                  have p6 : p ≤ c' := by omega
                  have p7 : (p : Int) + 1 ≤ (n' : Int) := by have := HPN1.out; omega
                  have p8 : p + 1 ≤ n' := HPN1.out
                  have p9 : (p : Int) + 1 ≤ (c' : Int) := by omega
                  have p10 : p + 1 ≤ c' := by omega
                  have p11 : ((p : Int) + 1 < 0) = False := by simp; omega
                  clear hA3 hN hW
                  refine PI.wp_region_persG (R := fun a b => Below N a b) (G := fun _ _ => True) (I := fun _ _ _ => True) [(2, 0), (2, 1), (3, 2), (6, 5), (7, 4), (7, 6), (8, 3), (8, 7), (9, 8)] [9] (by kernel_rfl) (PI.formed_of (by kernel_rfl)) GOESY (fun _ => trivial) (EsF A' A3 n' c' p N L') trivial ?_ ?_
                  · rw [← HWW.out]
                    intro i o ho
                    rcases i with _ | _ | _ | _ | _ | _ | _ | _ | _ | _ | i
                    · obtain rfl := Option.some.inj (show some _ = some o from ho)
                      refine PI.shown_val rfl fun a w3 L0 hr T => ?_
                      have h1 : a.eval (.tmp 0) = (.slice A' n' c') := T.was 0 (by kernel_rfl)
                      exact ⟨(.slice A' n' c'), w3, by simp only [execOp, h1]; simp [go_sem], PI.Post.pure GOESY rfl trivial⟩
                    · obtain rfl := Option.some.inj (show some _ = some o from ho)
                      refine PI.shown_val rfl fun a w3 L0 hr T => ?_
                      have h1 : a.eval (.tmp 9) = .int .i64 (p : Int) := T.was 9 (by kernel_rfl)
                      exact ⟨.int .i64 (p : Int), w3, by simp only [execOp, h1]; simp [go_sem], PI.Post.pure GOESY rfl trivial⟩
                    · obtain rfl := Option.some.inj (show some _ = some o from ho)
                      refine PI.shown_val rfl fun a w3 L0 hr T => ?_
                      have h1 : a.eval (.tmp 62) = (.slice A' n' c') := T.at_ 0 62 (by kernel_rfl) (by kernel_rfl) (by kernel_rfl)
                      have h2 : a.eval (.tmp 63) = .int .i64 (p : Int) := T.at_ 1 63 (by kernel_rfl) (by kernel_rfl) (by kernel_rfl)
                      exact ⟨(.slice A' p c'), w3, by simp only [execOp, h1, h2, Option.map]; rcases A' with _ | a' <;> simp [go_sem, p0, p1, p2, p3, p4, p5, p6], PI.Post.pure GOESY rfl trivial⟩
                    · obtain rfl := Option.some.inj (show some _ = some o from ho)
                      refine PI.shown_val rfl fun a w3 L0 hr T => ?_
                      have h1 : a.eval (.tmp 64) = (.slice A' p c') := T.at_ 2 64 (by kernel_rfl) (by kernel_rfl) (by kernel_rfl)
                      have h0 : a.eval (.const (.slice none 0 0)) = .slice none 0 0 := rfl
                      have hsz : N ≤ w3.heap.size := by rw [HNN.out]; exact hr.size
                      obtain ⟨v4, w4, e4, ho4, hg4⟩ := appRs (ty := 22) (c := c') (base := N) (n := 0) (L := []) (World.ownsRow_nil w3 N 48 14) (K := L'.take p) ((HRD.out w3 hr).1) (m := p) (by rw [List.length_take]; have := VLN.out; omega) (by have := HSM.out; have := VNN.out; omega) hsz
                      rw [Nat.zero_add, List.nil_append] at ho4
                      have hb4 : Below N w3 w4 := hg4.below (Below.refl _ _) hsz (fun k hk => by simp [Value.ownBlock] at hk)
                      refine ⟨v4, w4, by simp only [execOp, resolve, invoke, builtin, Sem.run_bind, Sem.run_pure, Result.andThen_ok, List.map_toArray, List.map_cons, List.map_nil, h0, h1, e4], hb4, ho4, fun _ _ h => h, fun j u hj hLj hnd hw h => ?_, trivial⟩
                      by_cases hjr : j = 3 ∨ j = 8 ∨ j = 9
                      · rcases hjr with rfl | rfl | rfl
                        · exact absurd rfl hj
                        · exact absurd (T.shut_ 8 3 (by kernel_rfl) hLj) (by rw [T.yetNot]; decide)
                        · exact absurd (T.shut_ 8 3 (by kernel_rfl) (T.shut_ 9 8 (by kernel_rfl) hLj)) (by rw [T.yetNot]; decide)
                      · exact EsF.other h hjr
                    · obtain rfl := Option.some.inj (show some _ = some o from ho)
                      refine PI.shown_val rfl fun a w3 L0 hr T => ?_
                      have h1 : a.eval (.tmp 0) = (.slice A' n' c') := T.was 0 (by kernel_rfl)
                      exact ⟨(.slice A' n' c'), w3, by simp only [execOp, h1]; simp [go_sem], PI.Post.pure GOESY rfl trivial⟩
                    · obtain rfl := Option.some.inj (show some _ = some o from ho)
                      refine PI.shown_val rfl fun a w3 L0 hr T => ?_
                      have h1 : a.eval (.tmp 9) = .int .i64 (p : Int) := T.was 9 (by kernel_rfl)
                      exact ⟨.int .i64 (p : Int), w3, by simp only [execOp, h1]; simp [go_sem], PI.Post.pure GOESY rfl trivial⟩
                    · obtain rfl := Option.some.inj (show some _ = some o from ho)
                      refine PI.shown_val rfl fun a w3 L0 hr T => ?_
                      have h1 : a.eval (.tmp 67) = .int .i64 (p : Int) := T.at_ 5 67 (by kernel_rfl) (by kernel_rfl) (by kernel_rfl)
                      exact ⟨.int .i64 ((p + 1 : Nat) : Int), w3, by simp only [execOp, h1]; simp [go_sem, pw], PI.Post.pure GOESY rfl trivial⟩
                    · obtain rfl := Option.some.inj (show some _ = some o from ho)
                      refine PI.shown_val rfl fun a w3 L0 hr T => ?_
                      have h1 : a.eval (.tmp 66) = (.slice A' n' c') := T.at_ 4 66 (by kernel_rfl) (by kernel_rfl) (by kernel_rfl)
                      have h2 : a.eval (.tmp 68) = .int .i64 ((p + 1 : Nat) : Int) := T.at_ 6 68 (by kernel_rfl) (by kernel_rfl) (by kernel_rfl)
                      exact ⟨(.slice A3 (n' - (p + 1)) (c' - (p + 1))), w3, by simp only [execOp, h1, h2, Option.map]; rw [HA3.out]; rcases A' with _ | a' <;> simp [go_sem, p0, p1, p2, p3, p4, p5, p6, p7, p8, p9, p10, p11], PI.Post.pure GOESY rfl trivial⟩
                    · obtain rfl := Option.some.inj (show some _ = some o from ho)
                      refine PI.shown_val rfl fun a w3 L0 hr T => ?_
                      have h1 : w3.ownsRow N 48 14 (a.eval (.tmp 65)) p ((L'.take p).flatMap Rw.cells) := T.at_ 3 65 (by kernel_rfl) (by kernel_rfl) (by kernel_rfl)
                      have h2 : a.eval (.tmp 69) = (.slice A3 (n' - (p + 1)) (c' - (p + 1))) := T.at_ 7 69 (by kernel_rfl) (by kernel_rfl) (by kernel_rfl)
                      have hsz : N ≤ w3.heap.size := by rw [HNN.out]; exact hr.size
                      obtain ⟨v4, w4, e4, ho4, hg4⟩ := appRs (ty := 22) (c := c' - (p + 1)) h1 (K := L'.drop (p + 1)) ((HRD.out w3 hr).2) (m := n' - (p + 1)) (by rw [List.length_drop]; have := VLN.out; omega) (by have := HSM.out; have := VNN.out; omega) hsz
                      have hb4 : Below N w3 w4 := hg4.below (Below.refl _ _) hsz (own_block_ge h1)
                      refine ⟨v4, w4, by simp only [execOp, resolve, invoke, builtin, Sem.run_bind, Sem.run_pure, Result.andThen_ok, List.map_toArray, List.map_cons, List.map_nil, h2, e4], hb4, by (have e1 : p + (n' - (p + 1)) = n' - 1 := by omega); rw [e1] at ho4; show w4.ownsRow N 48 14 v4 (n' - 1) ((L'.eraseIdx p).flatMap Rw.cells); rw [List.eraseIdx_eq_take_drop_succ]; exact ho4, fun _ _ h => h, fun j u hj hLj hnd hw h => ?_, trivial⟩
                      by_cases hjr : j = 3 ∨ j = 8 ∨ j = 9
                      · rcases hjr with rfl | rfl | rfl
                        · simp [PI.needB] at hnd
                        · exact absurd rfl hj
                        · exact absurd (T.shut_ 9 8 (by kernel_rfl) hLj) (by rw [T.yetNot]; decide)
                      · exact EsF.other h hjr
                    · obtain rfl := Option.some.inj (show some _ = some o from ho)
                      refine PI.shown_val rfl fun a w3 L0 hr T => ?_
                      have h1 : w3.ownsRow N 48 14 (a.eval (.tmp 70)) (n' - 1) ((L'.eraseIdx p).flatMap Rw.cells) := T.at_ 8 70 (by kernel_rfl) (by kernel_rfl) (by kernel_rfl)
                      exact ⟨a.eval (.tmp 70), w3, by simp only [execOp]; simp [go_sem], PI.Post.pure GOESY h1 trivial⟩
                    · cases ho
                  · rw [← HWW.out]
                    intro x9 w12 hr hf he _
                    have h1 := hf 9 _ 0 rfl rfl (by decide)
                    change w12.ownsRow N 48 14 (x9 9) (n' - 1) ((L'.eraseIdx p).flatMap Rw.cells) at h1
                    obtain ⟨Aq, cq, hv9, hc9, _⟩ := own_rd h1
                    rw [hv9] at h1
                    obtain ⟨LE, hLE⟩ : ∃ LE, LE = L'.eraseIdx p := ⟨_, rfl⟩
                    obtain ⟨nq, hnq⟩ : ∃ nq, nq = n' - 1 := ⟨_, rfl⟩
                    rw [← hLE, ← hnq] at h1
                    rw [← hnq] at hc9 hv9
                    have HO12 := Lib.hid h1
                    have HWC := Lib.hid (HBW.out.trans (hr.mono (Nat.le_of_lt HYN.out.1)))
                    have HQC12 := Lib.hid ((hr.block Y HYN.out.1).trans HQW.out)
                    have HY12 := Lib.hid (show Y < w12.heap.size from by have := hr.size; have := HYN.out; have := HNN.out; omega)
                    have HYN12 := Lib.hid (show Y < N from HYN.out.1)
                    have HLE := Lib.hid hLE
                    have nq1 : nq ≤ 100000 := by omega
                    have VNN := Lib.hid (show nq + 1 ≤ n + u from by have := VNN.out; have := HPN1.out; omega)
                    have VLNq := Lib.hid (show nq = LE.length from by rw [hLE, List.length_eraseIdx_of_lt (by rw [← VLN.out]; exact HPN1.out), ← VLN.out, hnq])
                    have HPLq := Lib.hid (show p ≤ nq from by have := HPN1.out; omega)
                    have HPLL := Lib.hid (show p ≤ L'.length from by have := HPN1.out; have := VLN.out; omega)
                    have VNCq := Lib.hid hc9
                    have VA0q := Lib.hid (show Aq = none → cq = 0 from fun hA => by
                      rw [hA] at h1
                      rcases h1.2 with ⟨h, _⟩ | ⟨_, _, _, h, _⟩
                      · injection h
                      · simp at h)
                    simp only [PI.putAll, Act.put, List.setIfInBounds_toArray, List.set_cons_zero, List.set_cons_succ]
                    rw [hv9]
                    clear hf he h1 hr hv9 hc9 hLE hnq HBW HQW HYN HRD HA3 HWW HNN p0 p1 p2 p3 p4 p5 p6 p7 p8 p9 p10 p11 pw HB11 HQ11 VLN VNC VA0 HPL HQA
                    have VLN := VLNq
                    have VNC := VNCq
                    have VA0 := VA0q
                    have HPL := HPLq
                    clear VLNq VNCq VA0q HPLq
                    have HV12 := Lib.hid ((HWC.out.block base (by have := HXY.out; omega)).trans VQ14.out)
                    have t0 : w12.cell? ⟨Y, 0, none⟩ = some (.int .i64 (u : Int)) := cell_of_row _ _ 0 _ _ (0, 0) HQC12.out
                    have t1 : w12.cell? ⟨Y, 1, none⟩ = some (.int .i64 wi) := cell_of_row _ _ 1 _ _ (0, 0) HQC12.out
                    have t2 : w12.cell? ⟨Y, 2, none⟩ = some (.string x4) := cell_of_row _ _ 2 _ _ (0, 0) HQC12.out
                    have t3 : w12.cell? ⟨Y, 3, none⟩ = some (.string x5) := cell_of_row _ _ 3 _ _ (0, 0) HQC12.out
                    have t4 : w12.cell? ⟨Y, 4, none⟩ = some (.int .i64 o0) := cell_of_row _ _ 4 _ _ (0, 0) HQC12.out
                    have t5 : w12.cell? ⟨Y, 5, none⟩ = some (.int .i64 o1) := cell_of_row _ _ 5 _ _ (0, 0) HQC12.out
                    have t6 : w12.cell? ⟨Y, 6, none⟩ = some (.int .i64 o2) := cell_of_row _ _ 6 _ _ (0, 0) HQC12.out
                    have t7 : w12.cell? ⟨Y, 7, none⟩ = some (.int .i64 o3) := cell_of_row _ _ 7 _ _ (0, 0) HQC12.out
                    have t8 : w12.cell? ⟨Y, 8, none⟩ = some (.int .i64 o4) := cell_of_row _ _ 8 _ _ (0, 0) HQC12.out
                    have t9 : w12.cell? ⟨Y, 9, none⟩ = some (.int .i64 o5) := cell_of_row _ _ 9 _ _ (0, 0) HQC12.out
                    have t10 : w12.cell? ⟨Y, 10, none⟩ = some (.int .i64 o6) := cell_of_row _ _ 10 _ _ (0, 0) HQC12.out
                    have t11 : w12.cell? ⟨Y, 11, none⟩ = some (.int .i64 o7) := cell_of_row _ _ 11 _ _ (0, 0) HQC12.out
                    have t12 : w12.cell? ⟨Y, 12, none⟩ = some (.int .i64 o8) := cell_of_row _ _ 12 _ _ (0, 0) HQC12.out
                    have t13 : w12.cell? ⟨Y, 13, none⟩ = some (.int .i64 o9) := cell_of_row _ _ 13 _ _ (0, 0) HQC12.out
                    have e0 : w12.cell? ⟨base, 0, none⟩ = some (.int .u64 x0) := cell_of_row _ _ 0 _ _ (0, 0) HV12.out
                    have e1 : w12.cell? ⟨base, 1, none⟩ = some (.int .u64 x1) := cell_of_row _ _ 1 _ _ (0, 0) HV12.out
                    have e2 : w12.cell? ⟨base, 2, none⟩ = some (.int .u64 x2) := cell_of_row _ _ 2 _ _ (0, 0) HV12.out
                    have e3 : w12.cell? ⟨base, 3, none⟩ = some (.int .u64 x3) := cell_of_row _ _ 3 _ _ (0, 0) HV12.out
                    have e4 : w12.cell? ⟨base, 4, none⟩ = some (.string x4) := cell_of_row _ _ 4 _ _ (0, 0) HV12.out
                    have e5 : w12.cell? ⟨base, 5, none⟩ = some (.string x5) := cell_of_row _ _ 5 _ _ (0, 0) HV12.out
                    have e6 : w12.cell? ⟨base, 6, none⟩ = some (.int .i64 x6) := cell_of_row _ _ 6 _ _ (0, 0) HV12.out
                    have e7 : w12.cell? ⟨base, 7, none⟩ = some (.int .i64 x7) := cell_of_row _ _ 7 _ _ (0, 0) HV12.out
                    have e8 : w12.cell? ⟨base, 8, none⟩ = some (.bool x8) := cell_of_row _ _ 8 _ _ (0, 0) HV12.out
                    have e9 : w12.cell? ⟨base, 9, none⟩ = some (.slice xA xn xc) := cell_of_row _ _ 9 _ _ (0, 0) HV12.out
                    have AC0 := fun W => addref_any fct x0 x1 x2 x3 x4 x5 x6 x7 x8 xA xn xc m W (HSL.out.2 _ (List.mem_of_getElem? HF.out)) hml hm
                    obtain ⟨jc, hjc⟩ : ∃ jc, jc = joinC fct (oneC (Bm.of x7) x8) m := ⟨_, rfl⟩
                    rw [← hjc] at AC0
                    have HJC := Lib.hid hjc
                    have hc0 : Cv fct = #[.int .i64 o0, .int .i64 o1, .int .i64 o2, .int .i64 o3, .int .i64 o4, .int .i64 o5, .int .i64 o6, .int .i64 o7, .int .i64 o8, .int .i64 o9] := by obtain ⟨q0, q1, q2, q3, q4, q5, q6, q7, q8, q9⟩ := HOO.out; unfold Cv; rw [← q0, ← q1, ← q2, ← q3, ← q4, ← q5, ← q6, ← q7, ← q8, ← q9]
                    rw [hc0] at AC0
                    obtain ⟨j0, hj0⟩ : ∃ j, j = jc.getD 0 0 := ⟨_, rfl⟩
                    obtain ⟨j1, hj1⟩ : ∃ j, j = jc.getD 1 0 := ⟨_, rfl⟩
                    obtain ⟨j2, hj2⟩ : ∃ j, j = jc.getD 2 0 := ⟨_, rfl⟩
                    obtain ⟨j3, hj3⟩ : ∃ j, j = jc.getD 3 0 := ⟨_, rfl⟩
                    obtain ⟨j4, hj4⟩ : ∃ j, j = jc.getD 4 0 := ⟨_, rfl⟩
                    obtain ⟨j5, hj5⟩ : ∃ j, j = jc.getD 5 0 := ⟨_, rfl⟩
                    obtain ⟨j6, hj6⟩ : ∃ j, j = jc.getD 6 0 := ⟨_, rfl⟩
                    obtain ⟨j7, hj7⟩ : ∃ j, j = jc.getD 7 0 := ⟨_, rfl⟩
                    obtain ⟨j8, hj8⟩ : ∃ j, j = jc.getD 8 0 := ⟨_, rfl⟩
                    obtain ⟨j9, hj9⟩ : ∃ j, j = jc.getD 9 0 := ⟨_, rfl⟩
                    unfold Cv at AC0
                    rw [← hj0, ← hj1, ← hj2, ← hj3, ← hj4, ← hj5, ← hj6, ← hj7, ← hj8, ← hj9] at AC0
                    have HJJ := Lib.hid (And.intro hj0 (And.intro hj1 (And.intro hj2 (And.intro hj3 (And.intro hj4 (And.intro hj5 (And.intro hj6 (And.intro hj7 (And.intro hj8 hj9)))))))))
                    have AC := fun W => Lib.hid (AC0 W)
                    clear AC0 hjc hc0 hj0 hj1 hj2 hj3 hj4 hj5 hj6 hj7 hj8 hj9
                    go_upto_region 14 with (go_at_call 34; (with_reducible refine (AC _).out.mono ?_); rintro ex wB ⟨rfl, hbB⟩; have HBB := Lib.hid hbB; clear hbB; have HQB := Lib.hid ((HBB.out.block Y HY12.out).trans HQC12.out); have y0 : wB.cell? ⟨Y, 0, none⟩ = some (.int .i64 (u : Int)) := cell_of_row _ _ 0 _ _ (0, 0) HQB.out; have z0 : wB.frozen? ⟨Y, 0, none⟩ = false := (by simp [World.frozen?, HQB.out]); have y1 : wB.cell? ⟨Y, 1, none⟩ = some (.int .i64 wi) := cell_of_row _ _ 1 _ _ (0, 0) HQB.out; have z1 : wB.frozen? ⟨Y, 1, none⟩ = false := (by simp [World.frozen?, HQB.out]); have y2 : wB.cell? ⟨Y, 2, none⟩ = some (.string x4) := cell_of_row _ _ 2 _ _ (0, 0) HQB.out; have z2 : wB.frozen? ⟨Y, 2, none⟩ = false := (by simp [World.frozen?, HQB.out]); have y3 : wB.cell? ⟨Y, 3, none⟩ = some (.string x5) := cell_of_row _ _ 3 _ _ (0, 0) HQB.out; have z3 : wB.frozen? ⟨Y, 3, none⟩ = false := (by simp [World.frozen?, HQB.out]); have y4 : wB.cell? ⟨Y, 4, none⟩ = some (.int .i64 o0) := cell_of_row _ _ 4 _ _ (0, 0) HQB.out; have z4 : wB.frozen? ⟨Y, 4, none⟩ = false := (by simp [World.frozen?, HQB.out]); have y5 : wB.cell? ⟨Y, 5, none⟩ = some (.int .i64 o1) := cell_of_row _ _ 5 _ _ (0, 0) HQB.out; have z5 : wB.frozen? ⟨Y, 5, none⟩ = false := (by simp [World.frozen?, HQB.out]); have y6 : wB.cell? ⟨Y, 6, none⟩ = some (.int .i64 o2) := cell_of_row _ _ 6 _ _ (0, 0) HQB.out; have z6 : wB.frozen? ⟨Y, 6, none⟩ = false := (by simp [World.frozen?, HQB.out]); have y7 : wB.cell? ⟨Y, 7, none⟩ = some (.int .i64 o3) := cell_of_row _ _ 7 _ _ (0, 0) HQB.out; have z7 : wB.frozen? ⟨Y, 7, none⟩ = false := (by simp [World.frozen?, HQB.out]); have y8 : wB.cell? ⟨Y, 8, none⟩ = some (.int .i64 o4) := cell_of_row _ _ 8 _ _ (0, 0) HQB.out; have z8 : wB.frozen? ⟨Y, 8, none⟩ = false := (by simp [World.frozen?, HQB.out]); have y9 : wB.cell? ⟨Y, 9, none⟩ = some (.int .i64 o5) := cell_of_row _ _ 9 _ _ (0, 0) HQB.out; have z9 : wB.frozen? ⟨Y, 9, none⟩ = false := (by simp [World.frozen?, HQB.out]); have y10 : wB.cell? ⟨Y, 10, none⟩ = some (.int .i64 o6) := cell_of_row _ _ 10 _ _ (0, 0) HQB.out; have z10 : wB.frozen? ⟨Y, 10, none⟩ = false := (by simp [World.frozen?, HQB.out]); have y11 : wB.cell? ⟨Y, 11, none⟩ = some (.int .i64 o7) := cell_of_row _ _ 11 _ _ (0, 0) HQB.out; have z11 : wB.frozen? ⟨Y, 11, none⟩ = false := (by simp [World.frozen?, HQB.out]); have y12 : wB.cell? ⟨Y, 12, none⟩ = some (.int .i64 o8) := cell_of_row _ _ 12 _ _ (0, 0) HQB.out; have z12 : wB.frozen? ⟨Y, 12, none⟩ = false := (by simp [World.frozen?, HQB.out]); have y13 : wB.cell? ⟨Y, 13, none⟩ = some (.int .i64 o9) := cell_of_row _ _ 13 _ _ (0, 0) HQB.out; have z13 : wB.frozen? ⟨Y, 13, none⟩ = false := (by simp [World.frozen?, HQB.out]))
                    have HBYB := Lib.hid (HWC.out.trans (HBB.out.mono (Nat.le_of_lt HY12.out)))
                    have HO13 := Lib.hid (own_below HO12.out HBB.out)
                    obtain ⟨A'', hA''⟩ : ∃ A'', A'' = Aq := ⟨_, rfl⟩
                    subst hA''
                    obtain ⟨r, hr0⟩ : ∃ r : Rw, r = ⟨K, jc⟩ := ⟨_, rfl⟩
                    have HRC := Lib.hid (show r.cells = [.int .i64 (u : Int), .int .i64 wi, .string x4, .string x5, .int .i64 j0, .int .i64 j1, .int .i64 j2, .int .i64 j3, .int .i64 j4, .int .i64 j5, .int .i64 j6, .int .i64 j7, .int .i64 j8, .int .i64 j9] from by
                      obtain ⟨q0, q1, q2, q3, q4, q5, q6, q7, q8, q9⟩ := HJJ.out
                      rw [hr0, HK.out]
                      simp only [Rw.cells]
                      rw [← q0, ← q1, ← q2, ← q3, ← q4, ← q5, ← q6, ← q7, ← q8, ← q9])
                    have HRE := Lib.hid hr0
                    obtain ⟨w14, hw14⟩ : ∃ w14, w14 = ((((((((((wB.setCell ⟨Y, 4, none⟩ (.int .i64 j0)).setCell ⟨Y, 5, none⟩ (.int .i64 j1)).setCell ⟨Y, 6, none⟩ (.int .i64 j2)).setCell ⟨Y, 7, none⟩ (.int .i64 j3)).setCell ⟨Y, 8, none⟩ (.int .i64 j4)).setCell ⟨Y, 9, none⟩ (.int .i64 j5)).setCell ⟨Y, 10, none⟩ (.int .i64 j6)).setCell ⟨Y, 11, none⟩ (.int .i64 j7)).setCell ⟨Y, 12, none⟩ (.int .i64 j8)).setCell ⟨Y, 13, none⟩ (.int .i64 j9)) := ⟨_, rfl⟩
                    rw [← hw14]
                    have hq14 : w14.heap[Y]? = some (.cells #[.int .i64 (u : Int), .int .i64 wi, .string x4, .string x5, .int .i64 j0, .int .i64 j1, .int .i64 j2, .int .i64 j3, .int .i64 j4, .int .i64 j5, .int .i64 j6, .int .i64 j7, .int .i64 j8, .int .i64 j9] 48 (0, 0)) := by rw [hw14]; exact tail_store HQB.out
                    have hbB : Below Y wc wB := HBYB.out
                    have hb14 : Below Y wc w14 := by
                      rw [hw14]
                      exact tail_below hbB (Nat.le_refl _)
                    have HB14 := Lib.hid hb14
                    have HQC := Lib.hid hq14
                    have HO14 := Lib.hid (show w14.ownsRow N 48 14 (.slice A'' nq cq) nq (LE.flatMap Rw.cells) from by rw [hw14]; exact own_stores HO13.out HYN12.out)
                    clear hw14 hb14 hq14 hr0 hbB
                    obtain ⟨W, hW⟩ : ∃ W, W = w14.drew := ⟨_, rfl⟩
                    obtain ⟨M, hM⟩ : ∃ M, M = N := ⟨_, rfl⟩
                    subst hM
                    obtain ⟨N, hN⟩ : ∃ N, N = W.heap.size := ⟨_, rfl⟩
                    have HQW := Lib.hid (show W.heap[Y]? = some (.cells #[.int .i64 (u : Int), .int .i64 wi, .string x4, .string x5, .int .i64 j0, .int .i64 j1, .int .i64 j2, .int .i64 j3, .int .i64 j4, .int .i64 j5, .int .i64 j6, .int .i64 j7, .int .i64 j8, .int .i64 j9] 48 (0, 0)) from by rw [hW]; exact HQC.out)
                    have HBW := Lib.hid (show Below Y wc W from by rw [hW]; exact ⟨HB14.out.os, HB14.out.tape, HB14.out.output, HB14.out.size, HB14.out.block⟩)
                    have HYN := Lib.hid (show Y < N ∧ base < Y from by
                      have h2 := HQW.out
                      refine ⟨?_, HXY.out.1⟩
                      rcases Nat.lt_or_ge Y W.heap.size with h | h
                      · omega
                      · rw [Array.getElem?_eq_none h] at h2; cases h2)
                    obtain ⟨A3, hA3⟩ : ∃ A3 : Option Addr, A3 = (if cq = p then A'' else A''.map (·.add (p * 14))) := ⟨_, rfl⟩
                    have HR14 := Lib.hid (show Rd W N A'' (LE.flatMap Rw.cells) from by
                      rw [hN, hW]
                      exact Rd.of_own HO14.out)
                    have HRD : Hid (∀ w3, Below N W w3 → Rd w3 N A'' ((LE.take p).flatMap Rw.cells) ∧ Rd w3 N A3 ((LE.drop p).flatMap Rw.cells)) := Lib.hid (fun w3 hW3 => by
                      have h4 : Rd w3 N A'' (LE.flatMap Rw.cells) := HR14.out.below hW3
                      refine ⟨rdR_take h4, ?_⟩
                      rw [hA3]
                      by_cases hc : cq = p
                      · rw [if_pos hc, List.drop_of_length_le (by have := VLN.out; have := VNC.out; omega)]
                        exact Rd.nil
                      · rw [if_neg hc]
                        rcases hAA : A'' with _ | a
                        · exact absurd (VA0.out hAA) (by have := VNC.out; have := HPL.out; omega)
                        · rw [hAA] at h4
                          exact rdR_drop (by have := VLN.out; have := HPL.out; omega) h4)
                    have HYC := Lib.hid (fun (w3 : World) (h3 : Below N W w3) => show w3.heap[Y]? = some (.cells #[.int .i64 (u : Int), .int .i64 wi, .string x4, .string x5, .int .i64 j0, .int .i64 j1, .int .i64 j2, .int .i64 j3, .int .i64 j4, .int .i64 j5, .int .i64 j6, .int .i64 j7, .int .i64 j8, .int .i64 j9] 48 (0, 0)) from (h3.block Y HYN.out.1).trans HQW.out)
                    have HA3 := Lib.hid hA3
                    have HWW := Lib.hid hW
                    have HNN := Lib.hid hN
                    have p0 : (p : Int) ≤ (nq : Int) := by have := HPL.out; omega
                    have p1 : p ≤ nq := HPL.out
                    have p2 : nq ≤ cq := VNC.out
                    have p3 : (0 : Int) ≤ (p : Int) := by omega
                    have p4 : (p : Int) ≤ (cq : Int) := by omega
                    have p5 : (nq : Int) ≤ (cq : Int) := by omega
                    have p6 : p ≤ cq := by omega
                    clear hA3 hN hW
                    refine PI.wp_region_persG (R := fun a b => Below N a b) (G := fun _ _ => True) (I := PI.RI [(3, 80), (5, 82), (6, 83), (10, 87)] [(6, 3), (3, 6), (10, 6), (6, 10), (10, 3), (3, 10)]) [(2, 0), (2, 1), (3, 2), (5, 4), (6, 3), (6, 5), (9, 7), (9, 8), (10, 6), (10, 9), (11, 10)] [11] (by kernel_rfl) (PI.formed_of (by kernel_rfl)) GOESY (fun _ => trivial) (AsF A'' A3 nq cq p N r LE) (PI.RI.start (n := 89) (by decide) rfl) ?_ ?_
                    · rw [← HWW.out]
                      intro i o ho
                      rcases i with _ | _ | _ | _ | _ | _ | _ | _ | _ | _ | _ | _ | i
                      · obtain rfl := Option.some.inj (show some _ = some o from ho)
                        refine PI.shown_val rfl fun a w3 L0 hr T => ?_
                        have h1 : a.eval (.tmp 0) = .slice A'' nq cq := T.was 0 (by kernel_rfl)
                        exact ⟨.slice A'' nq cq, w3, by simp only [execOp, h1]; simp [go_sem], PI.Post.pure GOESY rfl (PI.RI.pure T.inv _ (by decide) (Nat.le_refl _))⟩
                      · obtain rfl := Option.some.inj (show some _ = some o from ho)
                        refine PI.shown_val rfl fun a w3 L0 hr T => ?_
                        have h1 : a.eval (.tmp 9) = .int .i64 (p : Int) := T.was 9 (by kernel_rfl)
                        exact ⟨.int .i64 (p : Int), w3, by simp only [execOp, h1]; simp [go_sem], PI.Post.pure GOESY rfl (PI.RI.pure T.inv _ (by decide) (Nat.le_refl _))⟩
                      · obtain rfl := Option.some.inj (show some _ = some o from ho)
                        refine PI.shown_val rfl fun a w3 L0 hr T => ?_
                        have h1 : a.eval (.tmp 77) = .slice A'' nq cq := T.at_ 0 77 (by kernel_rfl) (by kernel_rfl) (by kernel_rfl)
                        have h2 : a.eval (.tmp 78) = .int .i64 (p : Int) := T.at_ 1 78 (by kernel_rfl) (by kernel_rfl) (by kernel_rfl)
                        exact ⟨.slice A'' p cq, w3, by simp only [execOp, h1, h2, Option.map]; rcases A'' with _ | a' <;> simp [go_sem, p0, p1, p2, p3, p4, p5, p6], PI.Post.pure GOESY rfl (PI.RI.pure T.inv _ (by decide) (Nat.le_refl _))⟩
                      · obtain rfl := Option.some.inj (show some _ = some o from ho)
                        refine PI.shown_val rfl fun a w3 L0 hr T => ?_
                        have h1 : a.eval (.tmp 79) = .slice A'' p cq := T.at_ 2 79 (by kernel_rfl) (by kernel_rfl) (by kernel_rfl)
                        have h0 : a.eval (.const (.slice none 0 0)) = .slice none 0 0 := rfl
                        have hsz : N ≤ w3.heap.size := by rw [HNN.out]; exact hr.size
                        obtain ⟨v4, w4, e4, ho4, hg4⟩ := appRs (ty := 22) (c := cq) (base := w3.heap.size) (n := 0) (L := []) (World.ownsRow_nil w3 _ 48 14) (K := LE.take p) ((HRD.out w3 hr).1) (m := p) (by rw [List.length_take]; have := VLN.out; omega) (by omega) (Nat.le_refl _)
                        rw [Nat.zero_add, List.nil_append] at ho4
                        have hb4 := hg4.new
                        exact ⟨v4, w4, by simp only [execOp, resolve, invoke, builtin, Sem.run_bind, Sem.run_pure, Result.andThen_ok, List.map_toArray, List.map_cons, List.map_nil, h0, h1, e4], hb4.mono hsz, own_mono ho4 hsz, fun _ _ h => h, fun j v _ _ _ _ h => h.keep (fun m xs ho => own_below ho hb4), PI.RI.row T.inv (by decide) (by decide) [] (by decide) (by decide) (fun j hj => by cases hj) hb4.size (fun b hvb => ⟨own_block_lt ho4 b hvb, .inl (own_block_ge ho4 b hvb)⟩)⟩
                      · obtain rfl := Option.some.inj (show some _ = some o from ho)
                        refine PI.shown_val rfl fun a w3 L0 hr T => ?_
                        have h1 : a.eval (.tmp 8) = .pointer (some ⟨Y, 0, none⟩) := T.was 8 (by kernel_rfl)
                        have c0 : w3.cell? ⟨Y, 0, none⟩ = some (.int .i64 (u : Int)) := cell_of_row _ _ 0 _ _ (0, 0) (HYC.out w3 hr)
                        have c1 : w3.cell? ⟨Y, 1, none⟩ = some (.int .i64 wi) := cell_of_row _ _ 1 _ _ (0, 0) (HYC.out w3 hr)
                        have c2 : w3.cell? ⟨Y, 2, none⟩ = some (.string x4) := cell_of_row _ _ 2 _ _ (0, 0) (HYC.out w3 hr)
                        have c3 : w3.cell? ⟨Y, 3, none⟩ = some (.string x5) := cell_of_row _ _ 3 _ _ (0, 0) (HYC.out w3 hr)
                        have c4 : w3.cell? ⟨Y, 4, none⟩ = some (.int .i64 j0) := cell_of_row _ _ 4 _ _ (0, 0) (HYC.out w3 hr)
                        have c5 : w3.cell? ⟨Y, 5, none⟩ = some (.int .i64 j1) := cell_of_row _ _ 5 _ _ (0, 0) (HYC.out w3 hr)
                        have c6 : w3.cell? ⟨Y, 6, none⟩ = some (.int .i64 j2) := cell_of_row _ _ 6 _ _ (0, 0) (HYC.out w3 hr)
                        have c7 : w3.cell? ⟨Y, 7, none⟩ = some (.int .i64 j3) := cell_of_row _ _ 7 _ _ (0, 0) (HYC.out w3 hr)
                        have c8 : w3.cell? ⟨Y, 8, none⟩ = some (.int .i64 j4) := cell_of_row _ _ 8 _ _ (0, 0) (HYC.out w3 hr)
                        have c9 : w3.cell? ⟨Y, 9, none⟩ = some (.int .i64 j5) := cell_of_row _ _ 9 _ _ (0, 0) (HYC.out w3 hr)
                        have c10 : w3.cell? ⟨Y, 10, none⟩ = some (.int .i64 j6) := cell_of_row _ _ 10 _ _ (0, 0) (HYC.out w3 hr)
                        have c11 : w3.cell? ⟨Y, 11, none⟩ = some (.int .i64 j7) := cell_of_row _ _ 11 _ _ (0, 0) (HYC.out w3 hr)
                        have c12 : w3.cell? ⟨Y, 12, none⟩ = some (.int .i64 j8) := cell_of_row _ _ 12 _ _ (0, 0) (HYC.out w3 hr)
                        have c13 : w3.cell? ⟨Y, 13, none⟩ = some (.int .i64 j9) := cell_of_row _ _ 13 _ _ (0, 0) (HYC.out w3 hr)
                        exact ⟨.agg #[.int .i64 (u : Int), .int .i64 wi, .string x4, .string x5, .int .i64 j0, .int .i64 j1, .int .i64 j2, .int .i64 j3, .int .i64 j4, .int .i64 j5, .int .i64 j6, .int .i64 j7, .int .i64 j8, .int .i64 j9], w3, by simp only [execOp, h1]; simp [go_sem, c0, c1, c2, c3, c4, c5, c6, c7, c8, c9, c10, c11, c12, c13], PI.Post.pure GOESY (by show _ = Value.agg r.cells.toArray; rw [HRC.out]) (PI.RI.pure T.inv _ (by decide) (Nat.le_refl _))⟩
                      · obtain rfl := Option.some.inj (show some _ = some o from ho)
                        refine PI.shown_val rfl fun a w3 L0 hr T => ?_
                        have h1 : a.eval (.tmp 81) = .agg #[.int .i64 (u : Int), .int .i64 wi, .string x4, .string x5, .int .i64 j0, .int .i64 j1, .int .i64 j2, .int .i64 j3, .int .i64 j4, .int .i64 j5, .int .i64 j6, .int .i64 j7, .int .i64 j8, .int .i64 j9] := (show a.eval (.tmp 81) = .agg r.cells.toArray from T.at_ 4 81 (by kernel_rfl) (by kernel_rfl) (by kernel_rfl)).trans (by rw [HRC.out])
                        have hsz : N ≤ w3.heap.size := by rw [HNN.out]; exact hr.size
                        have ho4 : (w3.alloc (.cells #[.int .i64 (u : Int), .int .i64 wi, .string x4, .string x5, .int .i64 j0, .int .i64 j1, .int .i64 j2, .int .i64 j3, .int .i64 j4, .int .i64 j5, .int .i64 j6, .int .i64 j7, .int .i64 j8, .int .i64 j9] 48)).ownsRow N 48 14 (.slice (some ⟨w3.heap.size, 0, none⟩) 1 1) 1 (([r] : List Rw).flatMap Rw.cells) := by
                          have h := World.ownsRow_lit (base := N) (e := 48) (size := 14) w3 #[.int .i64 (u : Int), .int .i64 wi, .string x4, .string x5, .int .i64 j0, .int .i64 j1, .int .i64 j2, .int .i64 j3, .int .i64 j4, .int .i64 j5, .int .i64 j6, .int .i64 j7, .int .i64 j8, .int .i64 j9] 1 hsz (by decide) rfl
                          have e1 : ([r] : List Rw).flatMap Rw.cells = [.int .i64 (u : Int), .int .i64 wi, .string x4, .string x5, .int .i64 j0, .int .i64 j1, .int .i64 j2, .int .i64 j3, .int .i64 j4, .int .i64 j5, .int .i64 j6, .int .i64 j7, .int .i64 j8, .int .i64 j9] := by simp only [List.flatMap_cons, List.flatMap_nil, List.append_nil]; exact HRC.out
                          rw [e1]; exact h
                        have hb4 := (Below.refl w3.heap.size w3).alloc (Nat.le_refl _) (.cells #[.int .i64 (u : Int), .int .i64 wi, .string x4, .string x5, .int .i64 j0, .int .i64 j1, .int .i64 j2, .int .i64 j3, .int .i64 j4, .int .i64 j5, .int .i64 j6, .int .i64 j7, .int .i64 j8, .int .i64 j9] 48)
                        have h1b := h1
                        simp only [Act.eval, Array.getD_eq_getD_getElem?] at h1b
                        exact ⟨.slice (some ⟨w3.heap.size, 0, none⟩) 1 1, _, by (simp only [execOp]; first | (simp [go_sem, h1b]; done) | (simp [go_sem, h1b]; rfl)), hb4.mono hsz, ho4, fun _ _ h => h, fun j v _ _ _ _ h => h.keep (fun m xs ho => own_below ho hb4), PI.RI.row T.inv (by decide) (by decide) [] (by decide) (by decide) (fun j hj => by cases hj) hb4.size (fun b hvb => ⟨own_block_lt ho4 b hvb, .inl (by injection hvb with hvb; rw [← hvb]; exact Nat.le_refl _)⟩)⟩
                      · obtain rfl := Option.some.inj (show some _ = some o from ho)
                        refine PI.shown_val rfl fun a w3 L0 hr T => ?_
                        have h1 : w3.ownsRow N 48 14 (a.eval (.tmp 80)) p ((LE.take p).flatMap Rw.cells) := T.at_ 3 80 (by kernel_rfl) (by kernel_rfl) (by kernel_rfl)
                        have h2 : w3.ownsRow N 48 14 (a.eval (.tmp 82)) 1 (([r] : List Rw).flatMap Rw.cells) := T.at_ 5 82 (by kernel_rfl) (by kernel_rfl) (by kernel_rfl)
                        have hsz : N ≤ w3.heap.size := by rw [HNN.out]; exact hr.size
                        obtain ⟨A5, c5, hv5, _, hrd5⟩ := own_rd h2
                        obtain ⟨v4, w4, e4, ho4, hg4⟩ := appRs (ty := 22) (c := c5) h1 (K := [r]) hrd5 (m := 1) rfl (by omega) hsz
                        have HI := T.inv
                        have hge := own_block_ge h1
                        have hL : L0 3 = true := T.doneY 3 (by kernel_rfl)
                        refine ⟨v4, w4, by simp only [execOp, resolve, invoke, builtin, Sem.run_bind, Sem.run_pure, Result.andThen_ok, List.map_toArray, List.map_cons, List.map_nil, hv5, e4], hg4.below (Below.refl _ _) hsz hge, ho4, fun _ _ h => h, fun j v hj hLj hnd hvj h => ?_, PI.RI.row HI (by decide) (by decide) [(3, 80)] (by decide) (by decide) (fun j hj => by rw [List.mem_singleton] at hj; subst hj; exact hL) hg4.grown.size (fun b hvb => ⟨own_block_lt ho4 b hvb, by
                          rcases hg4.blk with hk | ⟨g, hk, hk2⟩
                          · exact .inr ⟨_, List.mem_singleton.2 rfl, by rw [← hvb, hk]; rfl⟩
                          · rw [hk] at hvb; injection hvb with hvb; exact .inl (by omega)⟩)⟩
                        by_cases hjr : j = 3 ∨ j = 5 ∨ j = 6 ∨ j = 10 ∨ j = 11
                        · rcases hjr with rfl | rfl | rfl | rfl | rfl
                          · simp [PI.needB] at hnd
                          · simp [PI.needB] at hnd
                          · exact absurd rfl hj
                          · exact absurd (T.shut_ 10 6 (by kernel_rfl) hLj) (by rw [T.yetNot]; decide)
                          · exact absurd (T.shut_ 11 6 (by kernel_rfl) hLj) (by rw [T.yetNot]; decide)
                        · exact AsF.other h hjr
                      · obtain rfl := Option.some.inj (show some _ = some o from ho)
                        refine PI.shown_val rfl fun a w3 L0 hr T => ?_
                        have h1 : a.eval (.tmp 0) = .slice A'' nq cq := T.was 0 (by kernel_rfl)
                        exact ⟨.slice A'' nq cq, w3, by simp only [execOp, h1]; simp [go_sem], PI.Post.pure GOESY rfl (PI.RI.pure T.inv _ (by decide) (Nat.le_refl _))⟩
                      · obtain rfl := Option.some.inj (show some _ = some o from ho)
                        refine PI.shown_val rfl fun a w3 L0 hr T => ?_
                        have h1 : a.eval (.tmp 9) = .int .i64 (p : Int) := T.was 9 (by kernel_rfl)
                        exact ⟨.int .i64 (p : Int), w3, by simp only [execOp, h1]; simp [go_sem], PI.Post.pure GOESY rfl (PI.RI.pure T.inv _ (by decide) (Nat.le_refl _))⟩
                      · obtain rfl := Option.some.inj (show some _ = some o from ho)
                        refine PI.shown_val rfl fun a w3 L0 hr T => ?_
                        have h1 : a.eval (.tmp 84) = .slice A'' nq cq := T.at_ 7 84 (by kernel_rfl) (by kernel_rfl) (by kernel_rfl)
                        have h2 : a.eval (.tmp 85) = .int .i64 (p : Int) := T.at_ 8 85 (by kernel_rfl) (by kernel_rfl) (by kernel_rfl)
                        exact ⟨.slice A3 (nq - p) (cq - p), w3, by simp only [execOp, h1, h2, Option.map]; rw [HA3.out]; rcases A'' with _ | a' <;> simp [go_sem, p0, p1, p2, p3, p4, p5, p6], PI.Post.pure GOESY rfl (PI.RI.pure T.inv _ (by decide) (Nat.le_refl _))⟩
                      · obtain rfl := Option.some.inj (show some _ = some o from ho)
                        refine PI.shown_val rfl fun a w3 L0 hr T => ?_
                        have h1 : w3.ownsRow N 48 14 (a.eval (.tmp 83)) (p + 1) ((LE.take p ++ [r]).flatMap Rw.cells) := T.at_ 6 83 (by kernel_rfl) (by kernel_rfl) (by kernel_rfl)
                        have h2 : a.eval (.tmp 86) = .slice A3 (nq - p) (cq - p) := T.at_ 9 86 (by kernel_rfl) (by kernel_rfl) (by kernel_rfl)
                        have hsz : N ≤ w3.heap.size := by rw [HNN.out]; exact hr.size
                        obtain ⟨v4, w4, e4, ho4, hg4⟩ := appRs (ty := 22) (c := cq - p) h1 (K := LE.drop p) ((HRD.out w3 hr).2) (m := nq - p) (by rw [List.length_drop]; have := VLN.out; omega) (by omega) hsz
                        rw [show p + 1 + (nq - p) = nq + 1 by omega] at ho4
                        have HI := T.inv
                        have hge := own_block_ge h1
                        have hL : L0 6 = true := T.doneY 6 (by kernel_rfl)
                        refine ⟨v4, w4, by simp only [execOp, resolve, invoke, builtin, Sem.run_bind, Sem.run_pure, Result.andThen_ok, List.map_toArray, List.map_cons, List.map_nil, h2, e4], hg4.below (Below.refl _ _) hsz hge, ho4, fun _ _ h => h, fun j v hj hLj hnd hvj h => ?_, PI.RI.row HI (by decide) (by decide) [(6, 83)] (by decide) (by decide) (fun j hj => by rw [List.mem_singleton] at hj; subst hj; exact hL) hg4.grown.size (fun b hvb => ⟨own_block_lt ho4 b hvb, by
                          rcases hg4.blk with hk | ⟨g, hk, hk2⟩
                          · exact .inr ⟨_, List.mem_singleton.2 rfl, by rw [← hvb, hk]; rfl⟩
                          · rw [hk] at hvb; injection hvb with hvb; exact .inl (by omega)⟩)⟩
                        by_cases hjr : j = 3 ∨ j = 5 ∨ j = 6 ∨ j = 10 ∨ j = 11
                        · rcases hjr with rfl | rfl | rfl | rfl | rfl
                          · simp [PI.needB, hL] at hnd
                          · simp [PI.needB, hL] at hnd
                          · simp [PI.needB] at hnd
                          · exact absurd rfl hj
                          · exact absurd (T.shut_ 11 10 (by kernel_rfl) hLj) (by rw [T.yetNot]; decide)
                        · exact AsF.other h hjr
                      · obtain rfl := Option.some.inj (show some _ = some o from ho)
                        refine PI.shown_val rfl fun a w3 L0 hr T => ?_
                        have h1 : w3.ownsRow N 48 14 (a.eval (.tmp 87)) (nq + 1) ((LE.take p ++ [r] ++ LE.drop p).flatMap Rw.cells) := T.at_ 10 87 (by kernel_rfl) (by kernel_rfl) (by kernel_rfl)
                        exact ⟨a.eval (.tmp 87), w3, by simp only [execOp]; simp [go_sem], PI.Post.pure GOESY h1 (PI.RI.pure T.inv _ (by decide) (Nat.le_refl _))⟩
                      · cases ho
                    · rw [← HWW.out]
                      intro x9 w9b hr hf he _
                      have h1 := hf 11 _ 0 rfl rfl (by decide)
                      change w9b.ownsRow N 48 14 (x9 11) (nq + 1) ((LE.take p ++ [r] ++ LE.drop p).flatMap Rw.cells) at h1
                      obtain ⟨A9, c9, hv9, hc9, _⟩ := own_rd h1
                      rw [hv9] at h1
                      have HBF := Lib.hid (show Below base w w9b from (VB14.out.trans (HBW.out.mono (Nat.le_of_lt HYN.out.2))).trans (hr.mono (by have := HYN.out; omega)))
                      have HQF := Lib.hid ((hr.block base (by have := HYN.out; omega)).trans ((HBW.out.block base HYN.out.2).trans VQ14.out))
                      have HO9 := Lib.hid (own_mono h1 (show base ≤ N by have := HYN.out; omega))
                      have HC9 := Lib.hid hc9
                      have HNEW := Lib.hid (show LE.take p ++ [r] ++ LE.drop p = addV l SP m (u + 1) from by
                        show _ = insR (spK (u : Int) SP) (fS SP m) (addV l SP m u)
                        obtain ⟨r0, e1, e2, e3, e4⟩ := insR_hit K (fS SP m) HSL.out.1 (HH.out.symm.trans HHT.out)
                        rw [← HP.out, HF.out] at e1
                        have e5 := Option.some.inj e1
                        rw [← VL.out, ← HKK.out, e4, ← HP.out, HRE.out, HJC.out, HLE.out, take_er _ _ HPLL.out, drop_er _ _ HPLL.out, ← e5]
                        rw [HSP.out]; simp [fS, cS])
                      simp only [PI.putAll, Act.put, List.setIfInBounds_toArray, List.set_cons_zero, List.set_cons_succ]
                      rw [hv9]
                      clear hf he h1 hr hv9 hc9
                      go_wp2_with fail
                      go_roundw
                      case rel => exact ⟨u + 1, nq + 1, c9, A9, LE.take p ++ [r] ++ LE.drop p, by go_num, by omega, rfl, Lib.hid (by have := VNN.out; omega), HC9, Lib.hid (fun hA => by rw [hA] at HO9; rcases HO9.out.2 with ⟨h, h2⟩ | ⟨_, _, _, h, _⟩ <;> first | (exfalso; omega) | (exfalso; simp at h)), HNEW, Lib.hid (by simp only [List.length_append, List.length_take, List.length_drop, List.length_cons, List.length_nil]; have := VLN.out; omega), Lib.hid (Rd.of_own HO9.out), Lib.hid (fun _ => HO9.out), HBF, HQF⟩
                      case measure => simp [intOf]; omega
              · have HIP := Lib.hid (show i + 1 ≤ p from HPM.out.1 (of_decide_eq_true HBB.out.symm))
                go_wp2_with fail
                have n0 := fun p : NowB wr => p.cell d0
                have n1 := fun p : NowB wr => p.cell d1
                have n2 := fun p : NowB wr => p.cell d2
                have n3 := fun p : NowB wr => p.cell d3
                have n4 := fun p : NowB wr => p.cell d4
                have n5 := fun p : NowB wr => p.cell d5
                have n6 := fun p : NowB wr => p.cell d6
                have n7 := fun p : NowB wr => p.cell d7
                have n8 := fun p : NowB wr => p.cell d8
                have n9 := fun p : NowB wr => p.cell d9
                have n10 := fun p : NowB wr => p.cell d10
                have n11 := fun p : NowB wr => p.cell d11
                have n12 := fun p : NowB wr => p.cell d12
                have n13 := fun p : NowB wr => p.cell d13
                have m0 := fun p : NowB wr => p.cell t0
                have m1 := fun p : NowB wr => p.cell t1
                have m2 := fun p : NowB wr => p.cell t2
                have m3 := fun p : NowB wr => p.cell t3
                have m4 := fun p : NowB wr => p.cell t4
                have m5 := fun p : NowB wr => p.cell t5
                have m6 := fun p : NowB wr => p.cell t6
                have m7 := fun p : NowB wr => p.cell t7
                have m8 := fun p : NowB wr => p.cell t8
                have m9 := fun p : NowB wr => p.cell t9
                have m10 := fun p : NowB wr => p.cell t10
                have m11 := fun p : NowB wr => p.cell t11
                have m12 := fun p : NowB wr => p.cell t12
                have m13 := fun p : NowB wr => p.cell t13
                clear d0 d1 d2 d3 d4 d5 d6 d7 d8 d9 d10 d11 d12 d13 t0 t1 t2 t3 t4 t5 t6 t7 t8 t9 t10 t11 t12 t13
                refine wp_region_quiet_below (by kernel_rfl) (by kernel_rfl) ?_
                repeat (go_big_quiet_step ((go_at_call 32; with_reducible exact Calls.now_of (OC _).out)))
                refine wpQuiet_nil ?_
                intro _ hw'
                obtain ⟨pp, hw''⟩ := hw'
                subst hw''
                have HW9 := Lib.hid (HW.out.trans (pp.h.mono HW.out.size))
                have HP9 := Lib.hid pp.h
                generalize pp.W = w9 at *
                go_wp2_with fail
                go_roundw
                case rel => exact ⟨i + 1, by go_num, HIP, HW9⟩
                case measure => have := HIP.out; simp [intOf]; omega
            · obtain rfl : i = n' := by have := HI.out; have := HPL.out; omega
              have hip : p = i := by have := HI.out; have := HPL.out; omega
              subst hip
              have gfa : decide ((p : Int) < (p : Int)) = false := decide_eq_false (by omega)
              have gfb : decide (p < p) = false := decide_eq_false (by omega)
              have t0 : wr.cell? ⟨Y, 0, none⟩ = some (.int .i64 (u : Int)) := cell_of_row _ _ 0 _ _ (0, 0) HQW.out
              have t1 : wr.cell? ⟨Y, 1, none⟩ = some (.int .i64 wi) := cell_of_row _ _ 1 _ _ (0, 0) HQW.out
              have t2 : wr.cell? ⟨Y, 2, none⟩ = some (.string x4) := cell_of_row _ _ 2 _ _ (0, 0) HQW.out
              have t3 : wr.cell? ⟨Y, 3, none⟩ = some (.string x5) := cell_of_row _ _ 3 _ _ (0, 0) HQW.out
              have t4 : wr.cell? ⟨Y, 4, none⟩ = some (.int .i64 0) := cell_of_row _ _ 4 _ _ (0, 0) HQW.out
              have t5 : wr.cell? ⟨Y, 5, none⟩ = some (.int .i64 0) := cell_of_row _ _ 5 _ _ (0, 0) HQW.out
              have t6 : wr.cell? ⟨Y, 6, none⟩ = some (.int .i64 0) := cell_of_row _ _ 6 _ _ (0, 0) HQW.out
              have t7 : wr.cell? ⟨Y, 7, none⟩ = some (.int .i64 0) := cell_of_row _ _ 7 _ _ (0, 0) HQW.out
              have t8 : wr.cell? ⟨Y, 8, none⟩ = some (.int .i64 0) := cell_of_row _ _ 8 _ _ (0, 0) HQW.out
              have t9 : wr.cell? ⟨Y, 9, none⟩ = some (.int .i64 0) := cell_of_row _ _ 9 _ _ (0, 0) HQW.out
              have t10 : wr.cell? ⟨Y, 10, none⟩ = some (.int .i64 0) := cell_of_row _ _ 10 _ _ (0, 0) HQW.out
              have t11 : wr.cell? ⟨Y, 11, none⟩ = some (.int .i64 0) := cell_of_row _ _ 11 _ _ (0, 0) HQW.out
              have t12 : wr.cell? ⟨Y, 12, none⟩ = some (.int .i64 0) := cell_of_row _ _ 12 _ _ (0, 0) HQW.out
              have t13 : wr.cell? ⟨Y, 13, none⟩ = some (.int .i64 0) := cell_of_row _ _ 13 _ _ (0, 0) HQW.out
              go_wp2_with fail
              have m0 := fun p : NowB wr => p.cell t0
              have m1 := fun p : NowB wr => p.cell t1
              have m2 := fun p : NowB wr => p.cell t2
              have m3 := fun p : NowB wr => p.cell t3
              have m4 := fun p : NowB wr => p.cell t4
              have m5 := fun p : NowB wr => p.cell t5
              have m6 := fun p : NowB wr => p.cell t6
              have m7 := fun p : NowB wr => p.cell t7
              have m8 := fun p : NowB wr => p.cell t8
              have m9 := fun p : NowB wr => p.cell t9
              have m10 := fun p : NowB wr => p.cell t10
              have m11 := fun p : NowB wr => p.cell t11
              have m12 := fun p : NowB wr => p.cell t12
              have m13 := fun p : NowB wr => p.cell t13
              clear t0 t1 t2 t3 t4 t5 t6 t7 t8 t9 t10 t11 t12 t13
              refine wp_region_quiet_below (by kernel_rfl) (by kernel_rfl) ?_
              repeat (go_big_quiet_step ((fail)))
              refine wpQuiet_nil ?_
              intro _ hw'
              obtain ⟨pp, hw''⟩ := hw'
              subst hw''
              have HW9 := Lib.hid (HW.out.trans (pp.h.mono HW.out.size))
              have HP9 := Lib.hid pp.h
              generalize pp.W = w9 at *
              go_upto_region 10 with fail
              have HQ9 := Lib.hid ((HW9.out.block Y HXY.out.2).trans HQ14.out)
              have t0 : w9.cell? ⟨Y, 0, none⟩ = some (.int .i64 (u : Int)) := cell_of_row _ _ 0 _ _ (0, 0) HQ9.out
              have t1 : w9.cell? ⟨Y, 1, none⟩ = some (.int .i64 wi) := cell_of_row _ _ 1 _ _ (0, 0) HQ9.out
              have t2 : w9.cell? ⟨Y, 2, none⟩ = some (.string x4) := cell_of_row _ _ 2 _ _ (0, 0) HQ9.out
              have t3 : w9.cell? ⟨Y, 3, none⟩ = some (.string x5) := cell_of_row _ _ 3 _ _ (0, 0) HQ9.out
              have t4 : w9.cell? ⟨Y, 4, none⟩ = some (.int .i64 0) := cell_of_row _ _ 4 _ _ (0, 0) HQ9.out
              have t5 : w9.cell? ⟨Y, 5, none⟩ = some (.int .i64 0) := cell_of_row _ _ 5 _ _ (0, 0) HQ9.out
              have t6 : w9.cell? ⟨Y, 6, none⟩ = some (.int .i64 0) := cell_of_row _ _ 6 _ _ (0, 0) HQ9.out
              have t7 : w9.cell? ⟨Y, 7, none⟩ = some (.int .i64 0) := cell_of_row _ _ 7 _ _ (0, 0) HQ9.out
              have t8 : w9.cell? ⟨Y, 8, none⟩ = some (.int .i64 0) := cell_of_row _ _ 8 _ _ (0, 0) HQ9.out
              have t9 : w9.cell? ⟨Y, 9, none⟩ = some (.int .i64 0) := cell_of_row _ _ 9 _ _ (0, 0) HQ9.out
              have t10 : w9.cell? ⟨Y, 10, none⟩ = some (.int .i64 0) := cell_of_row _ _ 10 _ _ (0, 0) HQ9.out
              have t11 : w9.cell? ⟨Y, 11, none⟩ = some (.int .i64 0) := cell_of_row _ _ 11 _ _ (0, 0) HQ9.out
              have t12 : w9.cell? ⟨Y, 12, none⟩ = some (.int .i64 0) := cell_of_row _ _ 12 _ _ (0, 0) HQ9.out
              have t13 : w9.cell? ⟨Y, 13, none⟩ = some (.int .i64 0) := cell_of_row _ _ 13 _ _ (0, 0) HQ9.out
              have m0 := fun p : NowB w9 => p.cell t0
              have m1 := fun p : NowB w9 => p.cell t1
              have m2 := fun p : NowB w9 => p.cell t2
              have m3 := fun p : NowB w9 => p.cell t3
              have m4 := fun p : NowB w9 => p.cell t4
              have m5 := fun p : NowB w9 => p.cell t5
              have m6 := fun p : NowB w9 => p.cell t6
              have m7 := fun p : NowB w9 => p.cell t7
              have m8 := fun p : NowB w9 => p.cell t8
              have m9 := fun p : NowB w9 => p.cell t9
              have m10 := fun p : NowB w9 => p.cell t10
              have m11 := fun p : NowB w9 => p.cell t11
              have m12 := fun p : NowB w9 => p.cell t12
              have m13 := fun p : NowB w9 => p.cell t13
              clear t0 t1 t2 t3 t4 t5 t6 t7 t8 t9 t10 t11 t12 t13
              refine wp_region_quiet_below (by kernel_rfl) (by kernel_rfl) ?_
              repeat (go_big_quiet_step ((fail)))
              refine wpQuiet_nil ?_
              intro _ hw'
              obtain ⟨pp, hw''⟩ := hw'
              subst hw''
              have HWA := Lib.hid (HW9.out.trans (pp.h.mono HW9.out.size))
              have HPA := Lib.hid pp.h
              generalize pp.W = wA at *
              have HHT := Lib.hid (show hit = false from by rw [HH.out]; unfold hitR; rw [List.getElem?_eq_none (by have := VLN.out; have := HP.out; omega)]; rfl)
              have HQA := Lib.hid ((HWA.out.block Y HXY.out.2).trans HQ14.out)
              have HVA := Lib.hid ((HWA.out.block base (by have := HXY.out; omega)).trans VQ14.out)
              have t0 : wA.cell? ⟨Y, 0, none⟩ = some (.int .i64 (u : Int)) := cell_of_row _ _ 0 _ _ (0, 0) HQA.out
              have t1 : wA.cell? ⟨Y, 1, none⟩ = some (.int .i64 wi) := cell_of_row _ _ 1 _ _ (0, 0) HQA.out
              have t2 : wA.cell? ⟨Y, 2, none⟩ = some (.string x4) := cell_of_row _ _ 2 _ _ (0, 0) HQA.out
              have t3 : wA.cell? ⟨Y, 3, none⟩ = some (.string x5) := cell_of_row _ _ 3 _ _ (0, 0) HQA.out
              have t4 : wA.cell? ⟨Y, 4, none⟩ = some (.int .i64 0) := cell_of_row _ _ 4 _ _ (0, 0) HQA.out
              have t5 : wA.cell? ⟨Y, 5, none⟩ = some (.int .i64 0) := cell_of_row _ _ 5 _ _ (0, 0) HQA.out
              have t6 : wA.cell? ⟨Y, 6, none⟩ = some (.int .i64 0) := cell_of_row _ _ 6 _ _ (0, 0) HQA.out
              have t7 : wA.cell? ⟨Y, 7, none⟩ = some (.int .i64 0) := cell_of_row _ _ 7 _ _ (0, 0) HQA.out
              have t8 : wA.cell? ⟨Y, 8, none⟩ = some (.int .i64 0) := cell_of_row _ _ 8 _ _ (0, 0) HQA.out
              have t9 : wA.cell? ⟨Y, 9, none⟩ = some (.int .i64 0) := cell_of_row _ _ 9 _ _ (0, 0) HQA.out
              have t10 : wA.cell? ⟨Y, 10, none⟩ = some (.int .i64 0) := cell_of_row _ _ 10 _ _ (0, 0) HQA.out
              have t11 : wA.cell? ⟨Y, 11, none⟩ = some (.int .i64 0) := cell_of_row _ _ 11 _ _ (0, 0) HQA.out
              have t12 : wA.cell? ⟨Y, 12, none⟩ = some (.int .i64 0) := cell_of_row _ _ 12 _ _ (0, 0) HQA.out
              have t13 : wA.cell? ⟨Y, 13, none⟩ = some (.int .i64 0) := cell_of_row _ _ 13 _ _ (0, 0) HQA.out
              have e0 : wA.cell? ⟨base, 0, none⟩ = some (.int .u64 x0) := cell_of_row _ _ 0 _ _ (0, 0) HVA.out
              have e1 : wA.cell? ⟨base, 1, none⟩ = some (.int .u64 x1) := cell_of_row _ _ 1 _ _ (0, 0) HVA.out
              have e2 : wA.cell? ⟨base, 2, none⟩ = some (.int .u64 x2) := cell_of_row _ _ 2 _ _ (0, 0) HVA.out
              have e3 : wA.cell? ⟨base, 3, none⟩ = some (.int .u64 x3) := cell_of_row _ _ 3 _ _ (0, 0) HVA.out
              have e4 : wA.cell? ⟨base, 4, none⟩ = some (.string x4) := cell_of_row _ _ 4 _ _ (0, 0) HVA.out
              have e5 : wA.cell? ⟨base, 5, none⟩ = some (.string x5) := cell_of_row _ _ 5 _ _ (0, 0) HVA.out
              have e6 : wA.cell? ⟨base, 6, none⟩ = some (.int .i64 x6) := cell_of_row _ _ 6 _ _ (0, 0) HVA.out
              have e7 : wA.cell? ⟨base, 7, none⟩ = some (.int .i64 x7) := cell_of_row _ _ 7 _ _ (0, 0) HVA.out
              have e8 : wA.cell? ⟨base, 8, none⟩ = some (.bool x8) := cell_of_row _ _ 8 _ _ (0, 0) HVA.out
              have e9 : wA.cell? ⟨base, 9, none⟩ = some (.slice xA xn xc) := cell_of_row _ _ 9 _ _ (0, 0) HVA.out
              have AC0 := fun W => addref_any [] x0 x1 x2 x3 x4 x5 x6 x7 x8 xA xn xc m W okC_nil hml hm
              obtain ⟨jc, hjc⟩ : ∃ jc, jc = joinC [] (oneC (Bm.of x7) x8) m := ⟨_, rfl⟩
              rw [← hjc] at AC0
              have HJC := Lib.hid hjc
              have hc0 : Cv [] = #[.int .i64 0, .int .i64 0, .int .i64 0, .int .i64 0, .int .i64 0, .int .i64 0, .int .i64 0, .int .i64 0, .int .i64 0, .int .i64 0] := rfl
              rw [hc0] at AC0
              obtain ⟨j0, hj0⟩ : ∃ j, j = jc.getD 0 0 := ⟨_, rfl⟩
              obtain ⟨j1, hj1⟩ : ∃ j, j = jc.getD 1 0 := ⟨_, rfl⟩
              obtain ⟨j2, hj2⟩ : ∃ j, j = jc.getD 2 0 := ⟨_, rfl⟩
              obtain ⟨j3, hj3⟩ : ∃ j, j = jc.getD 3 0 := ⟨_, rfl⟩
              obtain ⟨j4, hj4⟩ : ∃ j, j = jc.getD 4 0 := ⟨_, rfl⟩
              obtain ⟨j5, hj5⟩ : ∃ j, j = jc.getD 5 0 := ⟨_, rfl⟩
              obtain ⟨j6, hj6⟩ : ∃ j, j = jc.getD 6 0 := ⟨_, rfl⟩
              obtain ⟨j7, hj7⟩ : ∃ j, j = jc.getD 7 0 := ⟨_, rfl⟩
              obtain ⟨j8, hj8⟩ : ∃ j, j = jc.getD 8 0 := ⟨_, rfl⟩
              obtain ⟨j9, hj9⟩ : ∃ j, j = jc.getD 9 0 := ⟨_, rfl⟩
              unfold Cv at AC0
              rw [← hj0, ← hj1, ← hj2, ← hj3, ← hj4, ← hj5, ← hj6, ← hj7, ← hj8, ← hj9] at AC0
              have HJJ := Lib.hid (And.intro hj0 (And.intro hj1 (And.intro hj2 (And.intro hj3 (And.intro hj4 (And.intro hj5 (And.intro hj6 (And.intro hj7 (And.intro hj8 hj9)))))))))
              have AC := fun W => Lib.hid (AC0 W)
              clear AC0 hjc hc0 hj0 hj1 hj2 hj3 hj4 hj5 hj6 hj7 hj8 hj9
              go_upto_region 14 with (go_at_call 34; (with_reducible refine (AC _).out.mono ?_); rintro ex wB ⟨rfl, hbB⟩; have HBB := Lib.hid hbB; clear hbB; have HQB := Lib.hid ((HBB.out.block Y (by have := HWA.out.size; have := HXY.out; omega)).trans HQA.out); have y0 : wB.cell? ⟨Y, 0, none⟩ = some (.int .i64 (u : Int)) := cell_of_row _ _ 0 _ _ (0, 0) HQB.out; have z0 : wB.frozen? ⟨Y, 0, none⟩ = false := (by simp [World.frozen?, HQB.out]); have y1 : wB.cell? ⟨Y, 1, none⟩ = some (.int .i64 wi) := cell_of_row _ _ 1 _ _ (0, 0) HQB.out; have z1 : wB.frozen? ⟨Y, 1, none⟩ = false := (by simp [World.frozen?, HQB.out]); have y2 : wB.cell? ⟨Y, 2, none⟩ = some (.string x4) := cell_of_row _ _ 2 _ _ (0, 0) HQB.out; have z2 : wB.frozen? ⟨Y, 2, none⟩ = false := (by simp [World.frozen?, HQB.out]); have y3 : wB.cell? ⟨Y, 3, none⟩ = some (.string x5) := cell_of_row _ _ 3 _ _ (0, 0) HQB.out; have z3 : wB.frozen? ⟨Y, 3, none⟩ = false := (by simp [World.frozen?, HQB.out]); have y4 : wB.cell? ⟨Y, 4, none⟩ = some (.int .i64 0) := cell_of_row _ _ 4 _ _ (0, 0) HQB.out; have z4 : wB.frozen? ⟨Y, 4, none⟩ = false := (by simp [World.frozen?, HQB.out]); have y5 : wB.cell? ⟨Y, 5, none⟩ = some (.int .i64 0) := cell_of_row _ _ 5 _ _ (0, 0) HQB.out; have z5 : wB.frozen? ⟨Y, 5, none⟩ = false := (by simp [World.frozen?, HQB.out]); have y6 : wB.cell? ⟨Y, 6, none⟩ = some (.int .i64 0) := cell_of_row _ _ 6 _ _ (0, 0) HQB.out; have z6 : wB.frozen? ⟨Y, 6, none⟩ = false := (by simp [World.frozen?, HQB.out]); have y7 : wB.cell? ⟨Y, 7, none⟩ = some (.int .i64 0) := cell_of_row _ _ 7 _ _ (0, 0) HQB.out; have z7 : wB.frozen? ⟨Y, 7, none⟩ = false := (by simp [World.frozen?, HQB.out]); have y8 : wB.cell? ⟨Y, 8, none⟩ = some (.int .i64 0) := cell_of_row _ _ 8 _ _ (0, 0) HQB.out; have z8 : wB.frozen? ⟨Y, 8, none⟩ = false := (by simp [World.frozen?, HQB.out]); have y9 : wB.cell? ⟨Y, 9, none⟩ = some (.int .i64 0) := cell_of_row _ _ 9 _ _ (0, 0) HQB.out; have z9 : wB.frozen? ⟨Y, 9, none⟩ = false := (by simp [World.frozen?, HQB.out]); have y10 : wB.cell? ⟨Y, 10, none⟩ = some (.int .i64 0) := cell_of_row _ _ 10 _ _ (0, 0) HQB.out; have z10 : wB.frozen? ⟨Y, 10, none⟩ = false := (by simp [World.frozen?, HQB.out]); have y11 : wB.cell? ⟨Y, 11, none⟩ = some (.int .i64 0) := cell_of_row _ _ 11 _ _ (0, 0) HQB.out; have z11 : wB.frozen? ⟨Y, 11, none⟩ = false := (by simp [World.frozen?, HQB.out]); have y12 : wB.cell? ⟨Y, 12, none⟩ = some (.int .i64 0) := cell_of_row _ _ 12 _ _ (0, 0) HQB.out; have z12 : wB.frozen? ⟨Y, 12, none⟩ = false := (by simp [World.frozen?, HQB.out]); have y13 : wB.cell? ⟨Y, 13, none⟩ = some (.int .i64 0) := cell_of_row _ _ 13 _ _ (0, 0) HQB.out; have z13 : wB.frozen? ⟨Y, 13, none⟩ = false := (by simp [World.frozen?, HQB.out]))
              obtain ⟨r, hr0⟩ : ∃ r : Rw, r = ⟨K, jc⟩ := ⟨_, rfl⟩
              have HRC := Lib.hid (show r.cells = [.int .i64 (u : Int), .int .i64 wi, .string x4, .string x5, .int .i64 j0, .int .i64 j1, .int .i64 j2, .int .i64 j3, .int .i64 j4, .int .i64 j5, .int .i64 j6, .int .i64 j7, .int .i64 j8, .int .i64 j9] from by
                obtain ⟨q0, q1, q2, q3, q4, q5, q6, q7, q8, q9⟩ := HJJ.out
                rw [hr0, HK.out]
                simp only [Rw.cells]
                rw [← q0, ← q1, ← q2, ← q3, ← q4, ← q5, ← q6, ← q7, ← q8, ← q9])
              have HRE := Lib.hid hr0
              obtain ⟨w14, hw14⟩ : ∃ w14, w14 = ((((((((((wB.setCell ⟨Y, 4, none⟩ (.int .i64 j0)).setCell ⟨Y, 5, none⟩ (.int .i64 j1)).setCell ⟨Y, 6, none⟩ (.int .i64 j2)).setCell ⟨Y, 7, none⟩ (.int .i64 j3)).setCell ⟨Y, 8, none⟩ (.int .i64 j4)).setCell ⟨Y, 9, none⟩ (.int .i64 j5)).setCell ⟨Y, 10, none⟩ (.int .i64 j6)).setCell ⟨Y, 11, none⟩ (.int .i64 j7)).setCell ⟨Y, 12, none⟩ (.int .i64 j8)).setCell ⟨Y, 13, none⟩ (.int .i64 j9)) := ⟨_, rfl⟩
              rw [← hw14]
              have hq14 : w14.heap[Y]? = some (.cells #[.int .i64 (u : Int), .int .i64 wi, .string x4, .string x5, .int .i64 j0, .int .i64 j1, .int .i64 j2, .int .i64 j3, .int .i64 j4, .int .i64 j5, .int .i64 j6, .int .i64 j7, .int .i64 j8, .int .i64 j9] 48 (0, 0)) := by rw [hw14]; exact tail_store HQB.out
              have hbB : Below Y wc wB := (HWA.out.mono (by have := HXY.out; omega)).trans (HBB.out.mono (by have := HWA.out.size; have := HXY.out; omega))
              have hb14 : Below Y wc w14 := by
                rw [hw14]
                exact tail_below hbB (Nat.le_refl _)
              have HB14 := Lib.hid hb14
              have HQC := Lib.hid hq14
              clear hw14 hb14 hq14 hr0 hbB
              obtain ⟨W, hW⟩ : ∃ W, W = w14.drew := ⟨_, rfl⟩
              obtain ⟨N, hN⟩ : ∃ N, N = W.heap.size := ⟨_, rfl⟩
              have HQW := Lib.hid (show W.heap[Y]? = some (.cells #[.int .i64 (u : Int), .int .i64 wi, .string x4, .string x5, .int .i64 j0, .int .i64 j1, .int .i64 j2, .int .i64 j3, .int .i64 j4, .int .i64 j5, .int .i64 j6, .int .i64 j7, .int .i64 j8, .int .i64 j9] 48 (0, 0)) from by rw [hW]; exact HQC.out)
              have HBW := Lib.hid (show Below Y wc W from by rw [hW]; exact ⟨HB14.out.os, HB14.out.tape, HB14.out.output, HB14.out.size, HB14.out.block⟩)
              have HYN := Lib.hid (show Y < N ∧ base < Y from by
                have h2 := HQW.out
                refine ⟨?_, HXY.out.1⟩
                rcases Nat.lt_or_ge Y W.heap.size with h | h
                · omega
                · rw [Array.getElem?_eq_none h] at h2; cases h2)
              obtain ⟨A3, hA3⟩ : ∃ A3 : Option Addr, A3 = (if c' = p then A' else A'.map (·.add (p * 14))) := ⟨_, rfl⟩
              have HRD : Hid (∀ w3, Below N W w3 → Rd w3 N A' ((L'.take p).flatMap Rw.cells) ∧ Rd w3 N A3 ((L'.drop p).flatMap Rw.cells)) := Lib.hid (fun w3 hW3 => by
                have h4 : Rd w3 N A' (L'.flatMap Rw.cells) := ((VRY.out.below HBW.out).more (Nat.le_of_lt HYN.out.1)).below hW3
                refine ⟨rdR_take h4, ?_⟩
                rw [hA3]
                by_cases hc : c' = p
                · rw [if_pos hc, List.drop_of_length_le (by have := VLN.out; have := VNC.out; omega)]
                  exact Rd.nil
                · rw [if_neg hc]
                  rcases hAA : A' with _ | a
                  · exact absurd (VA0.out hAA) (by have := VNC.out; have := HPL.out; omega)
                  · rw [hAA] at h4
                    exact rdR_drop (by have := VLN.out; have := HPL.out; omega) h4)
              have HYC := Lib.hid (fun (w3 : World) (h3 : Below N W w3) => show w3.heap[Y]? = some (.cells #[.int .i64 (u : Int), .int .i64 wi, .string x4, .string x5, .int .i64 j0, .int .i64 j1, .int .i64 j2, .int .i64 j3, .int .i64 j4, .int .i64 j5, .int .i64 j6, .int .i64 j7, .int .i64 j8, .int .i64 j9] 48 (0, 0)) from (h3.block Y HYN.out.1).trans HQW.out)
              have HA3 := Lib.hid hA3
              have HWW := Lib.hid hW
              have HNN := Lib.hid hN
              have p0 : (p : Int) ≤ (p : Int) := by have := HPL.out; omega
              have p1 : p ≤ p := HPL.out
              have p2 : p ≤ c' := VNC.out
              have p3 : (0 : Int) ≤ (p : Int) := by omega
              have p4 : (p : Int) ≤ (c' : Int) := by omega
              have p5 : (p : Int) ≤ (c' : Int) := by omega
              have p6 : p ≤ c' := by omega
              clear hA3 hN hW
              refine PI.wp_region_persG (R := fun a b => Below N a b) (G := fun _ _ => True) (I := PI.RI [(3, 80), (5, 82), (6, 83), (10, 87)] [(6, 3), (3, 6), (10, 6), (6, 10), (10, 3), (3, 10)]) [(2, 0), (2, 1), (3, 2), (5, 4), (6, 3), (6, 5), (9, 7), (9, 8), (10, 6), (10, 9), (11, 10)] [11] (by kernel_rfl) (PI.formed_of (by kernel_rfl)) GOESY (fun _ => trivial) (AsF A' A3 p c' p N r L') (PI.RI.start (n := 89) (by decide) rfl) ?_ ?_
              · rw [← HWW.out]
                intro i o ho
                rcases i with _ | _ | _ | _ | _ | _ | _ | _ | _ | _ | _ | _ | i
                · obtain rfl := Option.some.inj (show some _ = some o from ho)
                  refine PI.shown_val rfl fun a w3 L0 hr T => ?_
                  have h1 : a.eval (.tmp 0) = .slice A' p c' := T.was 0 (by kernel_rfl)
                  exact ⟨.slice A' p c', w3, by simp only [execOp, h1]; simp [go_sem], PI.Post.pure GOESY rfl (PI.RI.pure T.inv _ (by decide) (Nat.le_refl _))⟩
                · obtain rfl := Option.some.inj (show some _ = some o from ho)
                  refine PI.shown_val rfl fun a w3 L0 hr T => ?_
                  have h1 : a.eval (.tmp 9) = .int .i64 (p : Int) := T.was 9 (by kernel_rfl)
                  exact ⟨.int .i64 (p : Int), w3, by simp only [execOp, h1]; simp [go_sem], PI.Post.pure GOESY rfl (PI.RI.pure T.inv _ (by decide) (Nat.le_refl _))⟩
                · obtain rfl := Option.some.inj (show some _ = some o from ho)
                  refine PI.shown_val rfl fun a w3 L0 hr T => ?_
                  have h1 : a.eval (.tmp 77) = .slice A' p c' := T.at_ 0 77 (by kernel_rfl) (by kernel_rfl) (by kernel_rfl)
                  have h2 : a.eval (.tmp 78) = .int .i64 (p : Int) := T.at_ 1 78 (by kernel_rfl) (by kernel_rfl) (by kernel_rfl)
                  exact ⟨.slice A' p c', w3, by simp only [execOp, h1, h2, Option.map]; rcases A' with _ | a' <;> simp [go_sem, p0, p1, p2, p3, p4, p5, p6], PI.Post.pure GOESY rfl (PI.RI.pure T.inv _ (by decide) (Nat.le_refl _))⟩
                · obtain rfl := Option.some.inj (show some _ = some o from ho)
                  refine PI.shown_val rfl fun a w3 L0 hr T => ?_
                  have h1 : a.eval (.tmp 79) = .slice A' p c' := T.at_ 2 79 (by kernel_rfl) (by kernel_rfl) (by kernel_rfl)
                  have h0 : a.eval (.const (.slice none 0 0)) = .slice none 0 0 := rfl
                  have hsz : N ≤ w3.heap.size := by rw [HNN.out]; exact hr.size
                  obtain ⟨v4, w4, e4, ho4, hg4⟩ := appRs (ty := 22) (c := c') (base := w3.heap.size) (n := 0) (L := []) (World.ownsRow_nil w3 _ 48 14) (K := L'.take p) ((HRD.out w3 hr).1) (m := p) (by rw [List.length_take]; have := VLN.out; omega) (by omega) (Nat.le_refl _)
                  rw [Nat.zero_add, List.nil_append] at ho4
                  have hb4 := hg4.new
                  exact ⟨v4, w4, by simp only [execOp, resolve, invoke, builtin, Sem.run_bind, Sem.run_pure, Result.andThen_ok, List.map_toArray, List.map_cons, List.map_nil, h0, h1, e4], hb4.mono hsz, own_mono ho4 hsz, fun _ _ h => h, fun j v _ _ _ _ h => h.keep (fun m xs ho => own_below ho hb4), PI.RI.row T.inv (by decide) (by decide) [] (by decide) (by decide) (fun j hj => by cases hj) hb4.size (fun b hvb => ⟨own_block_lt ho4 b hvb, .inl (own_block_ge ho4 b hvb)⟩)⟩
                · obtain rfl := Option.some.inj (show some _ = some o from ho)
                  refine PI.shown_val rfl fun a w3 L0 hr T => ?_
                  have h1 : a.eval (.tmp 8) = .pointer (some ⟨Y, 0, none⟩) := T.was 8 (by kernel_rfl)
                  have c0 : w3.cell? ⟨Y, 0, none⟩ = some (.int .i64 (u : Int)) := cell_of_row _ _ 0 _ _ (0, 0) (HYC.out w3 hr)
                  have c1 : w3.cell? ⟨Y, 1, none⟩ = some (.int .i64 wi) := cell_of_row _ _ 1 _ _ (0, 0) (HYC.out w3 hr)
                  have c2 : w3.cell? ⟨Y, 2, none⟩ = some (.string x4) := cell_of_row _ _ 2 _ _ (0, 0) (HYC.out w3 hr)
                  have c3 : w3.cell? ⟨Y, 3, none⟩ = some (.string x5) := cell_of_row _ _ 3 _ _ (0, 0) (HYC.out w3 hr)
                  have c4 : w3.cell? ⟨Y, 4, none⟩ = some (.int .i64 j0) := cell_of_row _ _ 4 _ _ (0, 0) (HYC.out w3 hr)
                  have c5 : w3.cell? ⟨Y, 5, none⟩ = some (.int .i64 j1) := cell_of_row _ _ 5 _ _ (0, 0) (HYC.out w3 hr)
                  have c6 : w3.cell? ⟨Y, 6, none⟩ = some (.int .i64 j2) := cell_of_row _ _ 6 _ _ (0, 0) (HYC.out w3 hr)
                  have c7 : w3.cell? ⟨Y, 7, none⟩ = some (.int .i64 j3) := cell_of_row _ _ 7 _ _ (0, 0) (HYC.out w3 hr)
                  have c8 : w3.cell? ⟨Y, 8, none⟩ = some (.int .i64 j4) := cell_of_row _ _ 8 _ _ (0, 0) (HYC.out w3 hr)
                  have c9 : w3.cell? ⟨Y, 9, none⟩ = some (.int .i64 j5) := cell_of_row _ _ 9 _ _ (0, 0) (HYC.out w3 hr)
                  have c10 : w3.cell? ⟨Y, 10, none⟩ = some (.int .i64 j6) := cell_of_row _ _ 10 _ _ (0, 0) (HYC.out w3 hr)
                  have c11 : w3.cell? ⟨Y, 11, none⟩ = some (.int .i64 j7) := cell_of_row _ _ 11 _ _ (0, 0) (HYC.out w3 hr)
                  have c12 : w3.cell? ⟨Y, 12, none⟩ = some (.int .i64 j8) := cell_of_row _ _ 12 _ _ (0, 0) (HYC.out w3 hr)
                  have c13 : w3.cell? ⟨Y, 13, none⟩ = some (.int .i64 j9) := cell_of_row _ _ 13 _ _ (0, 0) (HYC.out w3 hr)
                  exact ⟨.agg #[.int .i64 (u : Int), .int .i64 wi, .string x4, .string x5, .int .i64 j0, .int .i64 j1, .int .i64 j2, .int .i64 j3, .int .i64 j4, .int .i64 j5, .int .i64 j6, .int .i64 j7, .int .i64 j8, .int .i64 j9], w3, by simp only [execOp, h1]; simp [go_sem, c0, c1, c2, c3, c4, c5, c6, c7, c8, c9, c10, c11, c12, c13], PI.Post.pure GOESY (by show _ = Value.agg r.cells.toArray; rw [HRC.out]) (PI.RI.pure T.inv _ (by decide) (Nat.le_refl _))⟩
                · obtain rfl := Option.some.inj (show some _ = some o from ho)
                  refine PI.shown_val rfl fun a w3 L0 hr T => ?_
                  have h1 : a.eval (.tmp 81) = .agg #[.int .i64 (u : Int), .int .i64 wi, .string x4, .string x5, .int .i64 j0, .int .i64 j1, .int .i64 j2, .int .i64 j3, .int .i64 j4, .int .i64 j5, .int .i64 j6, .int .i64 j7, .int .i64 j8, .int .i64 j9] := (show a.eval (.tmp 81) = .agg r.cells.toArray from T.at_ 4 81 (by kernel_rfl) (by kernel_rfl) (by kernel_rfl)).trans (by rw [HRC.out])
                  have hsz : N ≤ w3.heap.size := by rw [HNN.out]; exact hr.size
                  have ho4 : (w3.alloc (.cells #[.int .i64 (u : Int), .int .i64 wi, .string x4, .string x5, .int .i64 j0, .int .i64 j1, .int .i64 j2, .int .i64 j3, .int .i64 j4, .int .i64 j5, .int .i64 j6, .int .i64 j7, .int .i64 j8, .int .i64 j9] 48)).ownsRow N 48 14 (.slice (some ⟨w3.heap.size, 0, none⟩) 1 1) 1 (([r] : List Rw).flatMap Rw.cells) := by
                    have h := World.ownsRow_lit (base := N) (e := 48) (size := 14) w3 #[.int .i64 (u : Int), .int .i64 wi, .string x4, .string x5, .int .i64 j0, .int .i64 j1, .int .i64 j2, .int .i64 j3, .int .i64 j4, .int .i64 j5, .int .i64 j6, .int .i64 j7, .int .i64 j8, .int .i64 j9] 1 hsz (by decide) rfl
                    have e1 : ([r] : List Rw).flatMap Rw.cells = [.int .i64 (u : Int), .int .i64 wi, .string x4, .string x5, .int .i64 j0, .int .i64 j1, .int .i64 j2, .int .i64 j3, .int .i64 j4, .int .i64 j5, .int .i64 j6, .int .i64 j7, .int .i64 j8, .int .i64 j9] := by simp only [List.flatMap_cons, List.flatMap_nil, List.append_nil]; exact HRC.out
                    rw [e1]; exact h
                  have hb4 := (Below.refl w3.heap.size w3).alloc (Nat.le_refl _) (.cells #[.int .i64 (u : Int), .int .i64 wi, .string x4, .string x5, .int .i64 j0, .int .i64 j1, .int .i64 j2, .int .i64 j3, .int .i64 j4, .int .i64 j5, .int .i64 j6, .int .i64 j7, .int .i64 j8, .int .i64 j9] 48)
                  have h1b := h1
                  simp only [Act.eval, Array.getD_eq_getD_getElem?] at h1b
                  exact ⟨.slice (some ⟨w3.heap.size, 0, none⟩) 1 1, _, by (simp only [execOp]; first | (simp [go_sem, h1b]; done) | (simp [go_sem, h1b]; rfl)), hb4.mono hsz, ho4, fun _ _ h => h, fun j v _ _ _ _ h => h.keep (fun m xs ho => own_below ho hb4), PI.RI.row T.inv (by decide) (by decide) [] (by decide) (by decide) (fun j hj => by cases hj) hb4.size (fun b hvb => ⟨own_block_lt ho4 b hvb, .inl (by injection hvb with hvb; rw [← hvb]; exact Nat.le_refl _)⟩)⟩
                · obtain rfl := Option.some.inj (show some _ = some o from ho)
                  refine PI.shown_val rfl fun a w3 L0 hr T => ?_
                  have h1 : w3.ownsRow N 48 14 (a.eval (.tmp 80)) p ((L'.take p).flatMap Rw.cells) := T.at_ 3 80 (by kernel_rfl) (by kernel_rfl) (by kernel_rfl)
                  have h2 : w3.ownsRow N 48 14 (a.eval (.tmp 82)) 1 (([r] : List Rw).flatMap Rw.cells) := T.at_ 5 82 (by kernel_rfl) (by kernel_rfl) (by kernel_rfl)
                  have hsz : N ≤ w3.heap.size := by rw [HNN.out]; exact hr.size
                  obtain ⟨A5, c5, hv5, _, hrd5⟩ := own_rd h2
                  obtain ⟨v4, w4, e4, ho4, hg4⟩ := appRs (ty := 22) (c := c5) h1 (K := [r]) hrd5 (m := 1) rfl (by omega) hsz
                  have HI := T.inv
                  have hge := own_block_ge h1
                  have hL : L0 3 = true := T.doneY 3 (by kernel_rfl)
                  refine ⟨v4, w4, by simp only [execOp, resolve, invoke, builtin, Sem.run_bind, Sem.run_pure, Result.andThen_ok, List.map_toArray, List.map_cons, List.map_nil, hv5, e4], hg4.below (Below.refl _ _) hsz hge, ho4, fun _ _ h => h, fun j v hj hLj hnd hvj h => ?_, PI.RI.row HI (by decide) (by decide) [(3, 80)] (by decide) (by decide) (fun j hj => by rw [List.mem_singleton] at hj; subst hj; exact hL) hg4.grown.size (fun b hvb => ⟨own_block_lt ho4 b hvb, by
                    rcases hg4.blk with hk | ⟨g, hk, hk2⟩
                    · exact .inr ⟨_, List.mem_singleton.2 rfl, by rw [← hvb, hk]; rfl⟩
                    · rw [hk] at hvb; injection hvb with hvb; exact .inl (by omega)⟩)⟩
                  by_cases hjr : j = 3 ∨ j = 5 ∨ j = 6 ∨ j = 10 ∨ j = 11
                  · rcases hjr with rfl | rfl | rfl | rfl | rfl
                    · simp [PI.needB] at hnd
                    · simp [PI.needB] at hnd
                    · exact absurd rfl hj
                    · exact absurd (T.shut_ 10 6 (by kernel_rfl) hLj) (by rw [T.yetNot]; decide)
                    · exact absurd (T.shut_ 11 6 (by kernel_rfl) hLj) (by rw [T.yetNot]; decide)
                  · exact AsF.other h hjr
                · obtain rfl := Option.some.inj (show some _ = some o from ho)
                  refine PI.shown_val rfl fun a w3 L0 hr T => ?_
                  have h1 : a.eval (.tmp 0) = .slice A' p c' := T.was 0 (by kernel_rfl)
                  exact ⟨.slice A' p c', w3, by simp only [execOp, h1]; simp [go_sem], PI.Post.pure GOESY rfl (PI.RI.pure T.inv _ (by decide) (Nat.le_refl _))⟩
                · obtain rfl := Option.some.inj (show some _ = some o from ho)
                  refine PI.shown_val rfl fun a w3 L0 hr T => ?_
                  have h1 : a.eval (.tmp 9) = .int .i64 (p : Int) := T.was 9 (by kernel_rfl)
                  exact ⟨.int .i64 (p : Int), w3, by simp only [execOp, h1]; simp [go_sem], PI.Post.pure GOESY rfl (PI.RI.pure T.inv _ (by decide) (Nat.le_refl _))⟩
                · obtain rfl := Option.some.inj (show some _ = some o from ho)
                  refine PI.shown_val rfl fun a w3 L0 hr T => ?_
                  have h1 : a.eval (.tmp 84) = .slice A' p c' := T.at_ 7 84 (by kernel_rfl) (by kernel_rfl) (by kernel_rfl)
                  have h2 : a.eval (.tmp 85) = .int .i64 (p : Int) := T.at_ 8 85 (by kernel_rfl) (by kernel_rfl) (by kernel_rfl)
                  exact ⟨.slice A3 (p - p) (c' - p), w3, by simp only [execOp, h1, h2, Option.map]; rw [HA3.out]; rcases A' with _ | a' <;> simp [go_sem, p0, p1, p2, p3, p4, p5, p6], PI.Post.pure GOESY rfl (PI.RI.pure T.inv _ (by decide) (Nat.le_refl _))⟩
                · obtain rfl := Option.some.inj (show some _ = some o from ho)
                  refine PI.shown_val rfl fun a w3 L0 hr T => ?_
                  have h1 : w3.ownsRow N 48 14 (a.eval (.tmp 83)) (p + 1) ((L'.take p ++ [r]).flatMap Rw.cells) := T.at_ 6 83 (by kernel_rfl) (by kernel_rfl) (by kernel_rfl)
                  have h2 : a.eval (.tmp 86) = .slice A3 (p - p) (c' - p) := T.at_ 9 86 (by kernel_rfl) (by kernel_rfl) (by kernel_rfl)
                  have hsz : N ≤ w3.heap.size := by rw [HNN.out]; exact hr.size
                  obtain ⟨v4, w4, e4, ho4, hg4⟩ := appRs (ty := 22) (c := c' - p) h1 (K := L'.drop p) ((HRD.out w3 hr).2) (m := p - p) (by rw [List.length_drop]; have := VLN.out; omega) (by omega) hsz
                  rw [show p + 1 + (p - p) = p + 1 by omega] at ho4
                  have HI := T.inv
                  have hge := own_block_ge h1
                  have hL : L0 6 = true := T.doneY 6 (by kernel_rfl)
                  refine ⟨v4, w4, by simp only [execOp, resolve, invoke, builtin, Sem.run_bind, Sem.run_pure, Result.andThen_ok, List.map_toArray, List.map_cons, List.map_nil, h2, e4], hg4.below (Below.refl _ _) hsz hge, ho4, fun _ _ h => h, fun j v hj hLj hnd hvj h => ?_, PI.RI.row HI (by decide) (by decide) [(6, 83)] (by decide) (by decide) (fun j hj => by rw [List.mem_singleton] at hj; subst hj; exact hL) hg4.grown.size (fun b hvb => ⟨own_block_lt ho4 b hvb, by
                    rcases hg4.blk with hk | ⟨g, hk, hk2⟩
                    · exact .inr ⟨_, List.mem_singleton.2 rfl, by rw [← hvb, hk]; rfl⟩
                    · rw [hk] at hvb; injection hvb with hvb; exact .inl (by omega)⟩)⟩
                  by_cases hjr : j = 3 ∨ j = 5 ∨ j = 6 ∨ j = 10 ∨ j = 11
                  · rcases hjr with rfl | rfl | rfl | rfl | rfl
                    · simp [PI.needB, hL] at hnd
                    · simp [PI.needB, hL] at hnd
                    · simp [PI.needB] at hnd
                    · exact absurd rfl hj
                    · exact absurd (T.shut_ 11 10 (by kernel_rfl) hLj) (by rw [T.yetNot]; decide)
                  · exact AsF.other h hjr
                · obtain rfl := Option.some.inj (show some _ = some o from ho)
                  refine PI.shown_val rfl fun a w3 L0 hr T => ?_
                  have h1 : w3.ownsRow N 48 14 (a.eval (.tmp 87)) (p + 1) ((L'.take p ++ [r] ++ L'.drop p).flatMap Rw.cells) := T.at_ 10 87 (by kernel_rfl) (by kernel_rfl) (by kernel_rfl)
                  exact ⟨a.eval (.tmp 87), w3, by simp only [execOp]; simp [go_sem], PI.Post.pure GOESY h1 (PI.RI.pure T.inv _ (by decide) (Nat.le_refl _))⟩
                · cases ho
              · rw [← HWW.out]
                intro x9 w9b hr hf he _
                have h1 := hf 11 _ 0 rfl rfl (by decide)
                change w9b.ownsRow N 48 14 (x9 11) (p + 1) ((L'.take p ++ [r] ++ L'.drop p).flatMap Rw.cells) at h1
                obtain ⟨A9, c9, hv9, hc9, _⟩ := own_rd h1
                rw [hv9] at h1
                have HBF := Lib.hid (show Below base w w9b from (VB14.out.trans (HBW.out.mono (Nat.le_of_lt HYN.out.2))).trans (hr.mono (by have := HYN.out; omega)))
                have HQF := Lib.hid ((hr.block base (by have := HYN.out; omega)).trans ((HBW.out.block base HYN.out.2).trans VQ14.out))
                have HO9 := Lib.hid (own_mono h1 (show base ≤ N by have := HYN.out; omega))
                have HC9 := Lib.hid hc9
                have HNEW := Lib.hid (show L'.take p ++ [r] ++ L'.drop p = addV l SP m (u + 1) from by
                  show _ = insR (spK (u : Int) SP) (fS SP m) (addV l SP m u)
                  rw [← VL.out, ← HKK.out, insR_miss K (fS SP m) HSL.out.1 (HH.out.symm.trans HHT.out), ← HP.out, HRE.out, HJC.out]; rw [HSP.out]; simp [fS, cS])
                simp only [PI.putAll, Act.put, List.setIfInBounds_toArray, List.set_cons_zero, List.set_cons_succ]
                rw [hv9]
                clear hf he h1 hr hv9 hc9
                go_wp2_with fail
                go_roundw
                case rel => exact ⟨u + 1, p + 1, c9, A9, L'.take p ++ [r] ++ L'.drop p, by go_num, by omega, rfl, Lib.hid (by have := VNN.out; omega), HC9, Lib.hid (fun hA => by rw [hA] at HO9; rcases HO9.out.2 with ⟨h, h2⟩ | ⟨_, _, _, h, _⟩ <;> first | (exfalso; omega) | (exfalso; simp at h)), HNEW, Lib.hid (by simp only [List.length_append, List.length_take, List.length_drop, List.length_cons, List.length_nil]; have := VLN.out; omega), Lib.hid (Rd.of_own HO9.out), Lib.hid (fun _ => HO9.out), HBF, HQF⟩
                case measure => simp [intOf]; omega
      · obtain rfl : u = 3 := by omega
        go_wp2_with fail
        go_ret
        have hL : L' = addS l SP m := by rw [VL.out, addV3]; unfold addS; rw [← HRB.out]; rfl
        rw [← hL, ← VLN.out]
        exact ⟨_, rfl, VO.out (by decide), VB.out⟩
end Go.Proofs.YtkhhcnpmobgdgaaDoor
