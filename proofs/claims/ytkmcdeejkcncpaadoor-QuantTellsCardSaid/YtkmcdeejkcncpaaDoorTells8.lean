/- BucketTells: the walk. -/
import Derived.Test.YtkmcdeejkcncpaaDoorAdr8
import Derived.Test.YtkmcdeejkcncpaaDoorAl8
import Derived.Test.YtkmcdeejkcncpaaDoorEq8
namespace Go.Proofs.YtkmcdeejkcncpaaDoor
open Go.RowKit

/-- Cells that lie in a block from its beginning on. -/
def Lies (w : World) (b : Nat) (l : List Value) : Prop := ∀ i v, l[i]? = some v → w.cell? ⟨b, i, none⟩ = some v
theorem Lies.call {W w1 : World} {b : Nat} {l : List Value} (h : Lies W b l) (hb : Below W.heap.size W w1) (hlt : b < W.heap.size) : Lies w1 b l := fun i v hv => (hb.cell (p := ⟨b, i, none⟩) hlt).trans (h i v hv)
theorem Lies.alloc {W : World} {b : Nat} {l : List Value} (h : Lies W b l) (hlt : b < W.heap.size) (o : Obj) : Lies (W.alloc o) b l := fun i v hv => (World.cell?_alloc_lt W o ⟨b, i, none⟩ hlt).trans (h i v hv)
theorem Lies.lit (w : World) (cs : Array Value) (t : TypeId) : Lies (w.alloc (.cells cs t)) w.heap.size cs.toList := fun i v hv => by
  rw [cell_of_row _ _ i cs t (0, 0) (heap_alloc_new w _)]
  simpa using hv
theorem Lies.ten {w : World} {b : Nat} {v0 v1 v2 v3 v4 v5 v6 v7 v8 v9 : Value} (h : Lies w b [v0, v1, v2, v3, v4, v5, v6, v7, v8, v9]) :
    w.cell? ⟨b, 0, none⟩ = some v0 ∧ w.cell? ⟨b, 1, none⟩ = some v1 ∧ w.cell? ⟨b, 2, none⟩ = some v2 ∧ w.cell? ⟨b, 3, none⟩ = some v3 ∧ w.cell? ⟨b, 4, none⟩ = some v4 ∧ w.cell? ⟨b, 5, none⟩ = some v5 ∧ w.cell? ⟨b, 6, none⟩ = some v6 ∧ w.cell? ⟨b, 7, none⟩ = some v7 ∧ w.cell? ⟨b, 8, none⟩ = some v8 ∧ w.cell? ⟨b, 9, none⟩ = some v9 :=
  ⟨h 0 _ rfl, h 1 _ rfl, h 2 _ rfl, h 3 _ rfl, h 4 _ rfl, h 5 _ rfl, h 6 _ rfl, h 7 _ rfl, h 8 _ rfl, h 9 _ rfl⟩
theorem Lies.of_ten {w : World} {b : Nat} {v0 v1 v2 v3 v4 v5 v6 v7 v8 v9 : Value}
    (h : w.cell? ⟨b, 0, none⟩ = some v0 ∧ w.cell? ⟨b, 1, none⟩ = some v1 ∧ w.cell? ⟨b, 2, none⟩ = some v2 ∧ w.cell? ⟨b, 3, none⟩ = some v3 ∧ w.cell? ⟨b, 4, none⟩ = some v4 ∧ w.cell? ⟨b, 5, none⟩ = some v5 ∧ w.cell? ⟨b, 6, none⟩ = some v6 ∧ w.cell? ⟨b, 7, none⟩ = some v7 ∧ w.cell? ⟨b, 8, none⟩ = some v8 ∧ w.cell? ⟨b, 9, none⟩ = some v9) : Lies w b [v0, v1, v2, v3, v4, v5, v6, v7, v8, v9] := by
  obtain ⟨h0, h1, h2, h3, h4, h5, h6, h7, h8, h9⟩ := h
  intro i v hv
  rcases i with _ | _ | _ | _ | _ | _ | _ | _ | _ | _ | i
  all_goals (simp at hv; try subst hv; try assumption)

/-- What holds of the world all through the comparison. -/
def Keeps (B A0 A1 A2 : Nat) (a b s : List Value) (w W : World) : Prop := Hid (Bnds W ∧ Below B w W ∧ B ≤ W.heap.size ∧ A0 < W.heap.size ∧ A1 < W.heap.size ∧ A2 < W.heap.size) ∧ Lies W A0 a ∧ Lies W A1 b ∧ Lies W A2 s
theorem Keeps.call {B A0 A1 A2 : Nat} {a b s : List Value} {w W W' : World} (h : Keeps B A0 A1 A2 a b s w W) (hb : Below W.heap.size W W') : Keeps B A0 A1 A2 a b s w W' := by
  obtain ⟨hh, h0, h1, h2⟩ := h
  obtain ⟨hT, hB, lB, l0, l1, l2⟩ := hh.out
  have hz := hb.size
  exact ⟨Lib.hid ⟨hT.below hb hT.lt, hB.trans (hb.mono lB), by omega, by omega, by omega, by omega⟩, h0.call hb l0, h1.call hb l1, h2.call hb l2⟩

theorem keepS {B A0 A1 A2 : Nat} {a0 a1 a2 a3 a4 a5 a6 a7 a8 a9 b0 b1 b2 b3 b4 b5 b6 b7 b8 b9 s0 s1 s2 s3 s4 s5 s6 s7 s8 s9 : Value} {w W W' : World} (hb : Below W.heap.size W W') (h : (Hid (Bnds W ∧ Below B w W ∧ B ≤ W.heap.size ∧ A0 < W.heap.size ∧ A1 < W.heap.size ∧ A2 < W.heap.size) ∧ (W.cell? ⟨A0, 0, none⟩ = some a0 ∧ W.cell? ⟨A0, 1, none⟩ = some a1 ∧ W.cell? ⟨A0, 2, none⟩ = some a2 ∧ W.cell? ⟨A0, 3, none⟩ = some a3 ∧ W.cell? ⟨A0, 4, none⟩ = some a4 ∧ W.cell? ⟨A0, 5, none⟩ = some a5 ∧ W.cell? ⟨A0, 6, none⟩ = some a6 ∧ W.cell? ⟨A0, 7, none⟩ = some a7 ∧ W.cell? ⟨A0, 8, none⟩ = some a8 ∧ W.cell? ⟨A0, 9, none⟩ = some a9) ∧ (W.cell? ⟨A1, 0, none⟩ = some b0 ∧ W.cell? ⟨A1, 1, none⟩ = some b1 ∧ W.cell? ⟨A1, 2, none⟩ = some b2 ∧ W.cell? ⟨A1, 3, none⟩ = some b3 ∧ W.cell? ⟨A1, 4, none⟩ = some b4 ∧ W.cell? ⟨A1, 5, none⟩ = some b5 ∧ W.cell? ⟨A1, 6, none⟩ = some b6 ∧ W.cell? ⟨A1, 7, none⟩ = some b7 ∧ W.cell? ⟨A1, 8, none⟩ = some b8 ∧ W.cell? ⟨A1, 9, none⟩ = some b9) ∧ (W.cell? ⟨A2, 0, none⟩ = some s0 ∧ W.cell? ⟨A2, 1, none⟩ = some s1 ∧ W.cell? ⟨A2, 2, none⟩ = some s2 ∧ W.cell? ⟨A2, 3, none⟩ = some s3 ∧ W.cell? ⟨A2, 4, none⟩ = some s4 ∧ W.cell? ⟨A2, 5, none⟩ = some s5 ∧ W.cell? ⟨A2, 6, none⟩ = some s6 ∧ W.cell? ⟨A2, 7, none⟩ = some s7 ∧ W.cell? ⟨A2, 8, none⟩ = some s8 ∧ W.cell? ⟨A2, 9, none⟩ = some s9))) : (Hid (Bnds W' ∧ Below B w W' ∧ B ≤ W'.heap.size ∧ A0 < W'.heap.size ∧ A1 < W'.heap.size ∧ A2 < W'.heap.size) ∧ (W'.cell? ⟨A0, 0, none⟩ = some a0 ∧ W'.cell? ⟨A0, 1, none⟩ = some a1 ∧ W'.cell? ⟨A0, 2, none⟩ = some a2 ∧ W'.cell? ⟨A0, 3, none⟩ = some a3 ∧ W'.cell? ⟨A0, 4, none⟩ = some a4 ∧ W'.cell? ⟨A0, 5, none⟩ = some a5 ∧ W'.cell? ⟨A0, 6, none⟩ = some a6 ∧ W'.cell? ⟨A0, 7, none⟩ = some a7 ∧ W'.cell? ⟨A0, 8, none⟩ = some a8 ∧ W'.cell? ⟨A0, 9, none⟩ = some a9) ∧ (W'.cell? ⟨A1, 0, none⟩ = some b0 ∧ W'.cell? ⟨A1, 1, none⟩ = some b1 ∧ W'.cell? ⟨A1, 2, none⟩ = some b2 ∧ W'.cell? ⟨A1, 3, none⟩ = some b3 ∧ W'.cell? ⟨A1, 4, none⟩ = some b4 ∧ W'.cell? ⟨A1, 5, none⟩ = some b5 ∧ W'.cell? ⟨A1, 6, none⟩ = some b6 ∧ W'.cell? ⟨A1, 7, none⟩ = some b7 ∧ W'.cell? ⟨A1, 8, none⟩ = some b8 ∧ W'.cell? ⟨A1, 9, none⟩ = some b9) ∧ (W'.cell? ⟨A2, 0, none⟩ = some s0 ∧ W'.cell? ⟨A2, 1, none⟩ = some s1 ∧ W'.cell? ⟨A2, 2, none⟩ = some s2 ∧ W'.cell? ⟨A2, 3, none⟩ = some s3 ∧ W'.cell? ⟨A2, 4, none⟩ = some s4 ∧ W'.cell? ⟨A2, 5, none⟩ = some s5 ∧ W'.cell? ⟨A2, 6, none⟩ = some s6 ∧ W'.cell? ⟨A2, 7, none⟩ = some s7 ∧ W'.cell? ⟨A2, 8, none⟩ = some s8 ∧ W'.cell? ⟨A2, 9, none⟩ = some s9)) := by
  have K : Keeps B A0 A1 A2 _ _ _ w W := ⟨h.1, Lies.of_ten h.2.1, Lies.of_ten h.2.2.1, Lies.of_ten h.2.2.2⟩
  have K2 := K.call hb
  exact ⟨K2.1, K2.2.1.ten, K2.2.2.1.ten, K2.2.2.2.ten⟩

set_option maxHeartbeats 4000000 in
set_option maxRecDepth 100000 in
theorem tells8 (x y : List Int) (th tl id pa : Int) (sv op : ByteArray) (st d : Int) (e : Bool) (aA : Option Addr) (an ac : Nat) (m dur : Int) (w : World) (T : Bnds w) (hx : okC x) (hy : okC y) (hm0 : -9223372036854775808 ≤ m) (hm : m ≤ 9223372036854775807) :
    Calls Tryd.prog 3 #[.agg (Cv x), .agg (Cv y), .agg #[.int .u64 th, .int .u64 tl, .int .u64 id, .int .u64 pa, .string sv, .string op, .int .i64 st, .int .i64 d, .bool e, .slice aA an ac], .int .i64 m, .int .i64 dur] w fun en w' => en = .returned (.bool true) ∧ Below w.heap.size w w' := by
  have D := fun W T => Lib.hid (of_any8 dur W T)
  have DR := fun W => Lib.hid (ofref_any dur W)
  have hd := Bm.of_le dur
  generalize Bm.of dur = f at *
  have A := fun W T => Lib.hid (add_any x th tl id pa sv op st d e aA an ac m W T hx hm)
  have AR := fun W => Lib.hid (addref_any x th tl id pa sv op st d e aA an ac m W hx hm0 hm)
  have J := fun W => Lib.hid (join_all x y m W hx hy hm)
  have JR := fun W => Lib.hid (joinref_any x y m W hx hy hm0 hm)
  generalize joinC x (oneC (Bm.of d) e) m = z at *
  generalize joinC x y m = u at *
  obtain ⟨x0, x1, x2, x3, x4, x5, x6, x7, x8, x9, hxx⟩ := Cv_ex x
  obtain ⟨y0, y1, y2, y3, y4, y5, y6, y7, y8, y9, hyy⟩ := Cv_ex y
  obtain ⟨z0, z1, z2, z3, z4, z5, z6, z7, z8, z9, hzz⟩ := Cv_ex z
  obtain ⟨u0, u1, u2, u3, u4, u5, u6, u7, u8, u9, huu⟩ := Cv_ex u
  rw [hxx] at A AR J JR ⊢
  rw [hyy] at J JR ⊢
  rw [hzz] at A AR
  rw [huu] at J JR
  clear hxx hyy hzz huu hx hy
  have HT := Lib.hid T
  clear T
  have E8 := eq8'
  go_enter Tryd.func3, Tryd.ntmps3
  go_wp2_with (go_at_call 9; refine (alive8_calls _ (((HT.out.alloc _).alloc _).alloc _)).mono ?_; rintro en w1 ⟨rfl, hb1⟩)
  have K0 : Keeps w.heap.size w.heap.size (w.heap.size + 1) (w.heap.size + 1 + 1) #[.int .i64 x0, .int .i64 x1, .int .i64 x2, .int .i64 x3, .int .i64 x4, .int .i64 x5, .int .i64 x6, .int .i64 x7, .int .i64 x8, .int .i64 x9].toList #[.int .i64 y0, .int .i64 y1, .int .i64 y2, .int .i64 y3, .int .i64 y4, .int .i64 y5, .int .i64 y6, .int .i64 y7, .int .i64 y8, .int .i64 y9].toList #[.int .u64 th, .int .u64 tl, .int .u64 id, .int .u64 pa, .string sv, .string op, .int .i64 st, .int .i64 d, .bool e, .slice aA an ac].toList w w1 := by
    have l0 := ((Lies.lit w #[.int .i64 x0, .int .i64 x1, .int .i64 x2, .int .i64 x3, .int .i64 x4, .int .i64 x5, .int .i64 x6, .int .i64 x7, .int .i64 x8, .int .i64 x9] 24).alloc (by simp) (.cells #[.int .i64 y0, .int .i64 y1, .int .i64 y2, .int .i64 y3, .int .i64 y4, .int .i64 y5, .int .i64 y6, .int .i64 y7, .int .i64 y8, .int .i64 y9] 24)).alloc (by simp; omega) (.cells #[.int .u64 th, .int .u64 tl, .int .u64 id, .int .u64 pa, .string sv, .string op, .int .i64 st, .int .i64 d, .bool e, .slice aA an ac] 30)
    have l1 := (Lies.lit (w.alloc (.cells #[.int .i64 x0, .int .i64 x1, .int .i64 x2, .int .i64 x3, .int .i64 x4, .int .i64 x5, .int .i64 x6, .int .i64 x7, .int .i64 x8, .int .i64 x9] 24)) #[.int .i64 y0, .int .i64 y1, .int .i64 y2, .int .i64 y3, .int .i64 y4, .int .i64 y5, .int .i64 y6, .int .i64 y7, .int .i64 y8, .int .i64 y9] 24).alloc (by simp) (.cells #[.int .u64 th, .int .u64 tl, .int .u64 id, .int .u64 pa, .string sv, .string op, .int .i64 st, .int .i64 d, .bool e, .slice aA an ac] 30)
    have l2 := Lies.lit ((w.alloc (.cells #[.int .i64 x0, .int .i64 x1, .int .i64 x2, .int .i64 x3, .int .i64 x4, .int .i64 x5, .int .i64 x6, .int .i64 x7, .int .i64 x8, .int .i64 x9] 24)).alloc (.cells #[.int .i64 y0, .int .i64 y1, .int .i64 y2, .int .i64 y3, .int .i64 y4, .int .i64 y5, .int .i64 y6, .int .i64 y7, .int .i64 y8, .int .i64 y9] 24)) #[.int .u64 th, .int .u64 tl, .int .u64 id, .int .u64 pa, .string sv, .string op, .int .i64 st, .int .i64 d, .bool e, .slice aA an ac] 30
    have hB := (((Below.refl w.heap.size w).alloc (Nat.le_refl _) (.cells #[.int .i64 x0, .int .i64 x1, .int .i64 x2, .int .i64 x3, .int .i64 x4, .int .i64 x5, .int .i64 x6, .int .i64 x7, .int .i64 x8, .int .i64 x9] 24)).alloc (by simp) (.cells #[.int .i64 y0, .int .i64 y1, .int .i64 y2, .int .i64 y3, .int .i64 y4, .int .i64 y5, .int .i64 y6, .int .i64 y7, .int .i64 y8, .int .i64 y9] 24)).alloc (by simp; omega) (.cells #[.int .u64 th, .int .u64 tl, .int .u64 id, .int .u64 pa, .string sv, .string op, .int .i64 st, .int .i64 d, .bool e, .slice aA an ac] 30)
    have hT := ((HT.out.alloc (.cells #[.int .i64 x0, .int .i64 x1, .int .i64 x2, .int .i64 x3, .int .i64 x4, .int .i64 x5, .int .i64 x6, .int .i64 x7, .int .i64 x8, .int .i64 x9] 24)).alloc (.cells #[.int .i64 y0, .int .i64 y1, .int .i64 y2, .int .i64 y3, .int .i64 y4, .int .i64 y5, .int .i64 y6, .int .i64 y7, .int .i64 y8, .int .i64 y9] 24)).alloc (.cells #[.int .u64 th, .int .u64 tl, .int .u64 id, .int .u64 pa, .string sv, .string op, .int .i64 st, .int .i64 d, .bool e, .slice aA an ac] 30)
    have K1 : Keeps w.heap.size w.heap.size (w.heap.size + 1) (w.heap.size + 1 + 1) #[.int .i64 x0, .int .i64 x1, .int .i64 x2, .int .i64 x3, .int .i64 x4, .int .i64 x5, .int .i64 x6, .int .i64 x7, .int .i64 x8, .int .i64 x9].toList #[.int .i64 y0, .int .i64 y1, .int .i64 y2, .int .i64 y3, .int .i64 y4, .int .i64 y5, .int .i64 y6, .int .i64 y7, .int .i64 y8, .int .i64 y9].toList #[.int .u64 th, .int .u64 tl, .int .u64 id, .int .u64 pa, .string sv, .string op, .int .i64 st, .int .i64 d, .bool e, .slice aA an ac].toList w _ := ⟨Lib.hid ⟨hT, hB, by simp <;> omega, by simp <;> omega, by simp <;> omega, by simp <;> omega⟩, l0, by simpa using l1, by simpa using l2⟩
    exact K1.call hb1
  replace K0 := K0.call (W' := w1.drew) ⟨rfl, rfl, rfl, Nat.le_refl _, fun _ _ => rfl⟩
  clear hb1 HT
  generalize hB0 : w.heap.size = B0 at *
  have HB0 := Lib.hid hB0
  clear hB0
  generalize hB1 : B0 + 1 = B1 at *
  generalize hB2 : B1 + 1 = B2 at *
  clear hB1 hB2
  have hS : (Hid (Bnds w1.drew ∧ Below B0 w w1.drew ∧ B0 ≤ w1.drew.heap.size ∧ B0 < w1.drew.heap.size ∧ B1 < w1.drew.heap.size ∧ B2 < w1.drew.heap.size) ∧ (w1.drew.cell? ⟨B0, 0, none⟩ = some (.int .i64 x0) ∧ w1.drew.cell? ⟨B0, 1, none⟩ = some (.int .i64 x1) ∧ w1.drew.cell? ⟨B0, 2, none⟩ = some (.int .i64 x2) ∧ w1.drew.cell? ⟨B0, 3, none⟩ = some (.int .i64 x3) ∧ w1.drew.cell? ⟨B0, 4, none⟩ = some (.int .i64 x4) ∧ w1.drew.cell? ⟨B0, 5, none⟩ = some (.int .i64 x5) ∧ w1.drew.cell? ⟨B0, 6, none⟩ = some (.int .i64 x6) ∧ w1.drew.cell? ⟨B0, 7, none⟩ = some (.int .i64 x7) ∧ w1.drew.cell? ⟨B0, 8, none⟩ = some (.int .i64 x8) ∧ w1.drew.cell? ⟨B0, 9, none⟩ = some (.int .i64 x9)) ∧ (w1.drew.cell? ⟨B1, 0, none⟩ = some (.int .i64 y0) ∧ w1.drew.cell? ⟨B1, 1, none⟩ = some (.int .i64 y1) ∧ w1.drew.cell? ⟨B1, 2, none⟩ = some (.int .i64 y2) ∧ w1.drew.cell? ⟨B1, 3, none⟩ = some (.int .i64 y3) ∧ w1.drew.cell? ⟨B1, 4, none⟩ = some (.int .i64 y4) ∧ w1.drew.cell? ⟨B1, 5, none⟩ = some (.int .i64 y5) ∧ w1.drew.cell? ⟨B1, 6, none⟩ = some (.int .i64 y6) ∧ w1.drew.cell? ⟨B1, 7, none⟩ = some (.int .i64 y7) ∧ w1.drew.cell? ⟨B1, 8, none⟩ = some (.int .i64 y8) ∧ w1.drew.cell? ⟨B1, 9, none⟩ = some (.int .i64 y9)) ∧ (w1.drew.cell? ⟨B2, 0, none⟩ = some (.int .u64 th) ∧ w1.drew.cell? ⟨B2, 1, none⟩ = some (.int .u64 tl) ∧ w1.drew.cell? ⟨B2, 2, none⟩ = some (.int .u64 id) ∧ w1.drew.cell? ⟨B2, 3, none⟩ = some (.int .u64 pa) ∧ w1.drew.cell? ⟨B2, 4, none⟩ = some (.string sv) ∧ w1.drew.cell? ⟨B2, 5, none⟩ = some (.string op) ∧ w1.drew.cell? ⟨B2, 6, none⟩ = some (.int .i64 st) ∧ w1.drew.cell? ⟨B2, 7, none⟩ = some (.int .i64 d) ∧ w1.drew.cell? ⟨B2, 8, none⟩ = some (.bool e) ∧ w1.drew.cell? ⟨B2, 9, none⟩ = some (.slice aA an ac))) := ⟨K0.1, K0.2.1.ten, K0.2.2.1.ten, K0.2.2.2.ten⟩
  clear K0
  go_region_held3 (fun w' => (Hid (Bnds w' ∧ Below B0 w w' ∧ B0 ≤ w'.heap.size ∧ B0 < w'.heap.size ∧ B1 < w'.heap.size ∧ B2 < w'.heap.size) ∧ (w'.cell? ⟨B0, 0, none⟩ = some (.int .i64 x0) ∧ w'.cell? ⟨B0, 1, none⟩ = some (.int .i64 x1) ∧ w'.cell? ⟨B0, 2, none⟩ = some (.int .i64 x2) ∧ w'.cell? ⟨B0, 3, none⟩ = some (.int .i64 x3) ∧ w'.cell? ⟨B0, 4, none⟩ = some (.int .i64 x4) ∧ w'.cell? ⟨B0, 5, none⟩ = some (.int .i64 x5) ∧ w'.cell? ⟨B0, 6, none⟩ = some (.int .i64 x6) ∧ w'.cell? ⟨B0, 7, none⟩ = some (.int .i64 x7) ∧ w'.cell? ⟨B0, 8, none⟩ = some (.int .i64 x8) ∧ w'.cell? ⟨B0, 9, none⟩ = some (.int .i64 x9)) ∧ (w'.cell? ⟨B1, 0, none⟩ = some (.int .i64 y0) ∧ w'.cell? ⟨B1, 1, none⟩ = some (.int .i64 y1) ∧ w'.cell? ⟨B1, 2, none⟩ = some (.int .i64 y2) ∧ w'.cell? ⟨B1, 3, none⟩ = some (.int .i64 y3) ∧ w'.cell? ⟨B1, 4, none⟩ = some (.int .i64 y4) ∧ w'.cell? ⟨B1, 5, none⟩ = some (.int .i64 y5) ∧ w'.cell? ⟨B1, 6, none⟩ = some (.int .i64 y6) ∧ w'.cell? ⟨B1, 7, none⟩ = some (.int .i64 y7) ∧ w'.cell? ⟨B1, 8, none⟩ = some (.int .i64 y8) ∧ w'.cell? ⟨B1, 9, none⟩ = some (.int .i64 y9)) ∧ (w'.cell? ⟨B2, 0, none⟩ = some (.int .u64 th) ∧ w'.cell? ⟨B2, 1, none⟩ = some (.int .u64 tl) ∧ w'.cell? ⟨B2, 2, none⟩ = some (.int .u64 id) ∧ w'.cell? ⟨B2, 3, none⟩ = some (.int .u64 pa) ∧ w'.cell? ⟨B2, 4, none⟩ = some (.string sv) ∧ w'.cell? ⟨B2, 5, none⟩ = some (.string op) ∧ w'.cell? ⟨B2, 6, none⟩ = some (.int .i64 st) ∧ w'.cell? ⟨B2, 7, none⟩ = some (.int .i64 d) ∧ w'.cell? ⟨B2, 8, none⟩ = some (.bool e) ∧ w'.cell? ⟨B2, 9, none⟩ = some (.slice aA an ac))))
    (first | assumption | exact hS | (have hq := hbq; exact keepS hq (by assumption)))
    ((first
      | (go_at_call 10; refine (D _ (‹Hid (Bnds _ ∧ _) ∧ _›).1.out.1).out.mono ?_; rintro en w2 ⟨rfl, rfl⟩)
      | (go_at_call 11; refine (DR _).out.mono ?_; rintro en w2 ⟨rfl, hbq⟩)
      | (go_at_call 12; refine (A _ (‹Hid (Bnds _ ∧ _) ∧ _›).1.out.1).out.mono ?_; rintro en w2 ⟨rfl, hbq⟩)
      | (go_at_call 13; refine (AR _).out.mono ?_; rintro en w2 ⟨rfl, hbq⟩)
      | (go_at_call 14; refine (J _).out.mono ?_; rintro en w2 ⟨rfl, hbq⟩)
      | (go_at_call 15; refine (JR _).out.mono ?_; rintro en w2 ⟨rfl, hbq⟩)))
  all_goals
    go_wp2_with fail
    go_ret
    obtain ⟨hf, _⟩ := ‹Hid (Bnds _ ∧ Below _ _ _ ∧ _) ∧ _›
    rw [HB0.out]
    exact ⟨rfl, hf.out.2.1⟩
end Go.Proofs.YtkmcdeejkcncpaaDoor
