/- What the code makes of two counters together. -/
import Derived.Test.YtkhhcnpmobgdgaaDoorOf
import Derived.Deep.RegionHeld3
import Derived.Deep.DeepCutAuto
import Derived.StillTailTactics
import Derived.Lib.SmallJoins
import Derived.Deep.Heap
import Derived.BigQuiet
import Derived.Deep.QuietTactic
namespace Go.Proofs.YtkhhcnpmobgdgaaDoor
open Go.RowKit

set_option maxHeartbeats 1000000 in
theorem plus_any (a b : Int) (w : World) (ha : -9223372036854775808 ≤ a) (ha2 : a ≤ 9223372036854775807) (hb : -9223372036854775808 ≤ b) (hb2 : b ≤ 9223372036854775807) :
    Calls Tryd.prog 44 #[.int .i64 a, .int .i64 b] w fun e w' => e = .returned (.int .i64 (Bm.plus a b)) ∧ w = w' := by
  have h1 : 0 ≤ max a 0 := by omega
  have h2 : max a 0 ≤ 9223372036854775807 := by omega
  have h3 : 0 ≤ max b 0 := by omega
  have h4 : max b 0 ≤ 9223372036854775807 := by omega
  have HP : Hid (Bm.plus a b = if 9223372036854775807 - max b 0 < max a 0 then 9223372036854775807 else max a 0 + max b 0) := rfl
  go_enter Tryd.func44, Tryd.ntmps44
  go_wp2
  all_goals
    go_ret
    refine ⟨congrArg (fun x => Ending.returned (.int .i64 x)) ?_, rfl⟩
    show _ = Bm.plus a b
    rw [HP.out]
    split <;> omega

/-- A counter as a value: ten numbers. -/
def Cv (x : List Int) : Array Value := #[.int .i64 (x.getD 0 0), .int .i64 (x.getD 1 0), .int .i64 (x.getD 2 0), .int .i64 (x.getD 3 0), .int .i64 (x.getD 4 0), .int .i64 (x.getD 5 0), .int .i64 (x.getD 6 0), .int .i64 (x.getD 7 0), .int .i64 (x.getD 8 0), .int .i64 (x.getD 9 0)]
theorem Cv_size (x : List Int) : (Cv x).size = 10 := rfl
theorem Cv_at (x : List Int) (i : Nat) (h : i < 10) : (Cv x)[i]? = some (.int .i64 (x.getD i 0)) := by
  have : i = 0 ∨ i = 1 ∨ i = 2 ∨ i = 3 ∨ i = 4 ∨ i = 5 ∨ i = 6 ∨ i = 7 ∨ i = 8 ∨ i = 9 := by omega
  rcases this with rfl | rfl | rfl | rfl | rfl | rfl | rfl | rfl | rfl | rfl <;> rfl
def okC (x : List Int) : Prop := ∀ i, -9223372036854775808 ≤ x.getD i 0 ∧ x.getD i 0 ≤ 9223372036854775807
def joinC (x y : List Int) (m : Int) : List Int := (List.range 10).map fun i => Bm.top (x.getD i 0) (y.getD i 0) m

/-- The ten numbers behind k rounds. -/
def outA (t : Nat → Int) (k : Nat) : Array Value := (Array.range 10).map fun i => .int .i64 (if i < 2 + k then t i else 0)
theorem outA_at (t : Nat → Int) (k i : Nat) (h : i < 10) : (outA t k)[i]? = some (.int .i64 (if i < 2 + k then t i else 0)) := by simp [outA, h]
theorem outA_set (t : Nat → Int) (k : Nat) : (outA t k).setIfInBounds (2 + k) (.int .i64 (t (2 + k))) = outA t (k + 1) := by
  apply Array.ext_getElem?
  intro i
  by_cases hi : i < 10
  · rw [outA_at t (k + 1) i hi, Array.getElem?_setIfInBounds]
    by_cases h : 2 + k = i
    · subst h
      rw [if_pos rfl, if_pos (by simpa [outA] using hi), if_pos (by omega)]
    · rw [if_neg h, outA_at t k i hi]
      by_cases h2 : i < 2 + k
      · rw [if_pos h2, if_pos (by omega)]
      · rw [if_neg h2, if_neg (by omega)]
  · rw [Array.getElem?_eq_none (by simp [outA]; omega), Array.getElem?_eq_none (by simp [outA]; omega)]
theorem outA_zero (t : Nat → Int) : outA t 0 = #[.int .i64 (t 0), .int .i64 (t 1), .int .i64 0, .int .i64 0, .int .i64 0, .int .i64 0, .int .i64 0, .int .i64 0, .int .i64 0, .int .i64 0] := by
  unfold outA
  rw [show Array.range 10 = #[0, 1, 2, 3, 4, 5, 6, 7, 8, 9] from rfl]
  simp

/-- The cells of a block that was laid before others. -/
theorem cell_alloc_of {w : World} {cs : Array Value} {t : TypeId} (i : Nat) : (w.alloc (.cells cs t)).cell? ⟨w.heap.size, i, none⟩ = cs[i]? := cell_of_row _ _ i cs t (0, 0) (heap_alloc_new w _)

set_option maxHeartbeats 2000000 in
set_option maxRecDepth 100000 in
theorem join_any (x y : List Int) (m : Int) (w : World) (hx : okC x) (hy : okC y) (hm0 : 0 ≤ m) (hm1 : m ≤ 9223372036854775807) :
    Calls Tryd.prog 59 #[.agg (Cv x), .agg (Cv y), .int .i64 m] w fun e w' => e = .returned (.agg (Cv (joinC x y m))) ∧ Below w.heap.size w w' := by
  have X := hx
  have Y := hy
  go_enter Tryd.func59, Tryd.ntmps59
  go_wp2_with fail
  have hX : ∀ (o : Obj), ∀ i, i < 10 → (((w.alloc (.cells (Cv x) 46)).alloc (.cells (Cv y) 46)).alloc o).cell? ⟨w.heap.size, i, none⟩ = some (.int .i64 (x.getD i 0)) := fun o i hi => by
    rw [World.cell?_alloc_lt _ _ _ (by simp; omega), World.cell?_alloc_lt _ _ _ (by simp), cell_alloc_of, Cv_at x i hi]
  have hY : ∀ (o : Obj), ∀ i, i < 10 → (((w.alloc (.cells (Cv x) 46)).alloc (.cells (Cv y) 46)).alloc o).cell? ⟨w.heap.size + 1, i, none⟩ = some (.int .i64 (y.getD i 0)) := fun o i hi => by
    rw [World.cell?_alloc_lt _ _ _ (by simp), show w.heap.size + 1 = (w.alloc (.cells (Cv x) 46)).heap.size from by simp, cell_alloc_of, Cv_at y i hi]
  have hB : ∀ (o : Obj), Below w.heap.size w (((w.alloc (.cells (Cv x) 46)).alloc (.cells (Cv y) 46)).alloc o) := fun o => (((Below.refl _ _).alloc (Nat.le_refl _) _).alloc (by simp) _).alloc (by simp; omega) _
  have hZ : ∀ (o : Obj), (((w.alloc (.cells (Cv x) 46)).alloc (.cells (Cv y) 46)).alloc o).heap.size = w.heap.size + 1 + 1 + 1 := fun o => by simp
  generalize hO : Obj.cells #[Value.int .i64 0, .int .i64 0, .int .i64 0, .int .i64 0, .int .i64 0, .int .i64 0, .int .i64 0, .int .i64 0, .int .i64 0, .int .i64 0] 46 = O
  replace hX := hX O
  replace hY := hY O
  replace hB := hB O
  replace hZ := hZ O
  have hO3 : (((w.alloc (.cells (Cv x) 46)).alloc (.cells (Cv y) 46)).alloc O).heap[w.heap.size + 1 + 1]? = some O := by
    have := heap_alloc_new ((w.alloc (.cells (Cv x) 46)).alloc (.cells (Cv y) 46)) O
    simpa using this
  generalize ((w.alloc (.cells (Cv x) 46)).alloc (.cells (Cv y) 46)).alloc O = W at *
  subst hO
  generalize hBB : w.heap.size = B at *
  have x0 := hX 0 (by decide)
  have x1 := hX 1 (by decide)
  have y0 := hY 0 (by decide)
  have y1 := hY 1 (by decide)
  have HX := Lib.hid hX
  have HY := Lib.hid hY
  have HB := Lib.hid hB
  have HO := Lib.hid hO3
  have HXX := Lib.hid hx
  have HYY := Lib.hid hy
  have bx0 := hx 0
  have bx1 := hx 1
  have by0 := hy 0
  have by1 := hy 1
  clear hX hY hB hO3 hx hy X Y
  obtain ⟨p0, e0⟩ : ∃ p, p = x.getD 0 0 := ⟨_, rfl⟩
  obtain ⟨p1, e1⟩ : ∃ p, p = x.getD 1 0 := ⟨_, rfl⟩
  obtain ⟨q0, e2⟩ : ∃ p, p = y.getD 0 0 := ⟨_, rfl⟩
  obtain ⟨q1, e3⟩ : ∃ p, p = y.getD 1 0 := ⟨_, rfl⟩
  rw [← e0] at x0 bx0
  rw [← e1] at x1 bx1
  rw [← e2] at y0 by0
  rw [← e3] at y1 by1
  have E0 := Lib.hid e0
  have E1 := Lib.hid e1
  have E2 := Lib.hid e2
  have E3 := Lib.hid e3
  clear e0 e1 e2 e3
  have G0 := fun W' => Lib.hid (plus_any p0 q0 W' bx0.1 bx0.2 by0.1 by0.2)
  have G1 := fun W' => Lib.hid (plus_any p1 q1 W' bx1.1 bx1.2 by1.1 by1.2)
  obtain ⟨t0, f0⟩ : ∃ t, t = Bm.top p0 q0 m := ⟨_, rfl⟩
  obtain ⟨t1, f1⟩ : ∃ t, t = Bm.top p1 q1 m := ⟨_, rfl⟩
  have F0 := Lib.hid f0
  have F1 := Lib.hid f1
  have c0 : (m < Bm.plus p0 q0 ∧ t0 = m) ∨ (Bm.plus p0 q0 ≤ m ∧ t0 = Bm.plus p0 q0) := by rw [f0]; unfold Bm.top; omega
  have c1 : (m < Bm.plus p1 q1 ∧ t1 = m) ∨ (Bm.plus p1 q1 ≤ m ∧ t1 = Bm.plus p1 q1) := by rw [f1]; unfold Bm.top; omega
  clear f0 f1 bx0 bx1 by0 by1
  generalize Bm.plus p0 q0 = s0 at *
  generalize Bm.plus p1 q1 = s1 at *
  have hfin : ∀ (j : Nat) (W' : World), True := fun _ _ => trivial
  clear hfin
  have HC0 := Lib.hid c0
  have HC1 := Lib.hid c1
  have HZ := Lib.hid hZ
  clear c0 c1
  go_cut [7] (fun s7 wx => s7 = .pointer (some ⟨B + 1 + 1 + 1, 0, none⟩) ∧ Hid (∃ k, wx = (W.alloc (.cells #[.int .i64 t0, .int .i64 t1, .int .i64 0, .int .i64 0, .int .i64 0, .int .i64 0, .int .i64 0, .int .i64 0, .int .i64 0, .int .i64 0] 46)).drewN k))
  case first =>
    have c0 := HC0.out
    have c1 := HC1.out
    rcases c0 with ⟨c0, d0⟩ | ⟨c0, d0⟩ <;> rcases c1 with ⟨c1, d1⟩ | ⟨c1, d1⟩
    all_goals
      have D0 := Lib.hid d0
      have D1 := Lib.hid d1
      clear d0 d1
      go_region_held3 (fun W' => W'.cell? ⟨B, 0, none⟩ = some (.int .i64 p0) ∧ W'.cell? ⟨B + 1, 0, none⟩ = some (.int .i64 q0) ∧ W'.cell? ⟨B, 1, none⟩ = some (.int .i64 p1) ∧ W'.cell? ⟨B + 1, 1, none⟩ = some (.int .i64 q1))
        (first | go_keep)
        ((first | (go_at_call_of 44 p0; refine (G0 _).out.mono ?_; rintro e w1 ⟨rfl, rfl⟩) | (go_at_call_of 44 p1; refine (G1 _).out.mono ?_; rintro e w1 ⟨rfl, rfl⟩)))
    all_goals
      go_wp2_with fail
      go_meet
      exact ⟨rfl, ⟨1, by rw [D0.out, D1.out]; rfl⟩⟩
  case rest =>
    obtain ⟨rfl, HW⟩ := hcut
    have hs4 : wc.heap.size = B + 4 := by obtain ⟨k, rfl⟩ := HW.out; simp; omega
    have JX : Hid (∀ i, i < 10 → wc.cell? ⟨B, i, none⟩ = some (.int .i64 (x.getD i 0))) := by
      obtain ⟨k, rfl⟩ := HW.out
      exact fun i hi => (World.cell?_alloc_lt W _ ⟨B, i, none⟩ (by simp; omega)).trans (HX.out i hi)
    have JY : Hid (∀ i, i < 10 → wc.cell? ⟨B + 1, i, none⟩ = some (.int .i64 (y.getD i 0))) := by
      obtain ⟨k, rfl⟩ := HW.out
      exact fun i hi => (World.cell?_alloc_lt W _ ⟨B + 1, i, none⟩ (by simp; omega)).trans (HY.out i hi)
    have JB : Hid (Below B w wc) := by
      obtain ⟨k, rfl⟩ := HW.out
      exact (HB.out.alloc (by omega) _).trans ⟨rfl, rfl, rfl, Nat.le_refl _, fun _ _ => rfl⟩
    have JR : Hid (wc.heap[B + 1 + 1 + 1]? = some (.cells #[.int .i64 t0, .int .i64 t1, .int .i64 0, .int .i64 0, .int .i64 0, .int .i64 0, .int .i64 0, .int .i64 0, .int .i64 0, .int .i64 0] 46)) := by
      obtain ⟨k, rfl⟩ := HW.out
      have := heap_alloc_new W (.cells #[.int .i64 t0, .int .i64 t1, .int .i64 0, .int .i64 0, .int .i64 0, .int .i64 0, .int .i64 0, .int .i64 0, .int .i64 0, .int .i64 0] 46)
      rw [hZ] at this
      exact this
    have JO : Hid (wc.heap[B + 1 + 1]? = some (.cells #[.int .i64 0, .int .i64 0, .int .i64 0, .int .i64 0, .int .i64 0, .int .i64 0, .int .i64 0, .int .i64 0, .int .i64 0, .int .i64 0] 46)) := by
      obtain ⟨k, rfl⟩ := HW.out
      have hb := (Below.refl (B + 1 + 1 + 1) W).alloc (by omega) (.cells #[.int .i64 t0, .int .i64 t1, .int .i64 0, .int .i64 0, .int .i64 0, .int .i64 0, .int .i64 0, .int .i64 0, .int .i64 0, .int .i64 0] 46)
      exact (hb.block (B + 1 + 1) (by omega)).trans HO.out
    clear HW x0 x1 y0 y1 G0 G1 HX HY HB HO hZ
    go_wp2_with fail
    go_loopw [26] (fun i wr => ∃ k : Nat, i = .int .i64 k ∧ k ≤ 8 ∧ Hid (∀ i, i < 10 → wr.cell? ⟨B, i, none⟩ = some (.int .i64 (x.getD i 0))) ∧ Hid (∀ i, i < 10 → wr.cell? ⟨B + 1, i, none⟩ = some (.int .i64 (y.getD i 0))) ∧ Hid (wr.heap[B + 1 + 1]? = some (.cells #[.int .i64 0, .int .i64 0, .int .i64 0, .int .i64 0, .int .i64 0, .int .i64 0, .int .i64 0, .int .i64 0, .int .i64 0, .int .i64 0] 46)) ∧ Hid (wr.heap[B + 1 + 1 + 1]? = some (.cells (outA (fun i => Bm.top (x.getD i 0) (y.getD i 0) m) k) 46)) ∧ Hid (Below B w wr)) (fun i _ => 8 - (intOf i).toNat)
    case atStart => exact ⟨0, rfl, Nat.zero_le _, JX, JY, JO, by rw [outA_zero, ← E0.out, ← E1.out, ← E2.out, ← E3.out, ← F0.out, ← F1.out]; exact JR.out, JB⟩
    case round =>
      obtain ⟨k, rfl, hk, KX, KY, KO, KR, KB⟩ := hrel
      by_cases hlt : k < 8
      · have cx := KX.out (2 + k) (by omega)
        have cy := KY.out (2 + k) (by omega)
        have cr := (cell_of_row _ _ (2 + k) _ 46 (0, 0) KR.out).trans (outA_at _ k (2 + k) (by omega))
        rw [if_neg (by omega)] at cr
        have bx := HXX.out (2 + k)
        have by_ := HYY.out (2 + k)
        have HT : Hid (Bm.top (x.getD (2 + k) 0) (y.getD (2 + k) 0) m = if m < Bm.plus (x.getD (2 + k) 0) (y.getD (2 + k) 0) then m else Bm.plus (x.getD (2 + k) 0) (y.getD (2 + k) 0)) := by show _ = _; unfold Bm.top; split <;> omega
        obtain ⟨p, hp⟩ : ∃ p, p = x.getD (2 + k) 0 := ⟨_, rfl⟩
        obtain ⟨q, hq⟩ : ∃ p, p = y.getD (2 + k) 0 := ⟨_, rfl⟩
        rw [← hp] at cx bx
        rw [← hq] at cy by_
        have HP := Lib.hid hp
        have HQ := Lib.hid hq
        clear hp hq
        have kk0 : (0 : Int) ≤ (k : Int) := by omega
        have kk1 : (k : Int) < 8 := by omega
        have G := fun W' => Lib.hid (plus_any p q W' bx.1 bx.2 by_.1 by_.2)
        have HT2 : Hid (Bm.top (x.getD (2 + k) 0) (y.getD (2 + k) 0) m = if m < Bm.plus p q then m else Bm.plus p q) := by rw [HP.out, HQ.out]; exact HT
        clear HT
        generalize Bm.plus p q = s2 at *
        have hcase : m < s2 ∨ s2 ≤ m := by omega
        rcases hcase with hm2 | hm2
        all_goals
          have HT3 : Hid (Bm.top (x.getD (2 + k) 0) (y.getD (2 + k) 0) m = if m < s2 then m else s2) := HT2
          first | rw [if_pos (by omega)] at HT3 | rw [if_neg (by omega)] at HT3
          go_wp2_with fail
          go_still_tail 14, (by kernel_rfl)
          still_call ((G _).out.mono fun _ _ hh => ⟨hh.1, hh.2.symm⟩)
          repeat still_step
          refine wpStill_nil ?_
          change wpList _ _ _ _ _ wr.drew
          have dr : wr.drew.cell? ⟨B + 1 + 1 + 1, 2 + k, none⟩ = some (.int .i64 0) := cr
          have fz : wr.drew.frozen? ⟨B + 1 + 1 + 1, 2 + k, none⟩ = false := by have h := KR.out; show wr.frozen? _ = false; simp [World.frozen?, h]
          have LX : Hid (∀ i, i < 10 → wr.drew.cell? ⟨B, i, none⟩ = some (.int .i64 (x.getD i 0))) := KX
          have LY : Hid (∀ i, i < 10 → wr.drew.cell? ⟨B + 1, i, none⟩ = some (.int .i64 (y.getD i 0))) := KY
          have LO : Hid (wr.drew.heap[B + 1 + 1]? = some (.cells #[.int .i64 0, .int .i64 0, .int .i64 0, .int .i64 0, .int .i64 0, .int .i64 0, .int .i64 0, .int .i64 0, .int .i64 0, .int .i64 0] 46)) := KO
          have LR : Hid (wr.drew.heap[B + 1 + 1 + 1]? = some (.cells (outA (fun i => Bm.top (x.getD i 0) (y.getD i 0) m) k) 46)) := KR
          have LB : Hid (Below B w wr.drew) := KB.out.trans ⟨rfl, rfl, rfl, Nat.le_refl _, fun _ _ => rfl⟩
          clear cx cy cr KX KY KO KR KB
          generalize wr.drew = w2 at *
          go_wp2_with fail
          go_roundw
          case rel => exact ⟨k + 1, by go_num, by omega, fun i hi => (World.cell?_setCell_far _ _ _ _ (by first | (simp; done) | (simp; omega))).trans (LX.out i hi), fun i hi => (World.cell?_setCell_far _ _ _ _ (by first | (simp; done) | (simp; omega))).trans (LY.out i hi), (Below.heap_setCell _ _ _ _ (by simp)).trans LO.out, by have := Go.Joins.block_setCell (i := 2 + k) LR.out (.int .i64 (Bm.top (x.getD (2 + k) 0) (y.getD (2 + k) 0) m)); rw [outA_set (fun i => Bm.top (x.getD i 0) (y.getD i 0) m) k] at this; rw [HT3.out] at this; exact this, LB.out.setCell (by simp; try omega) _⟩
          case measure => simp [intOf]; omega
      · obtain rfl : k = 8 := by omega
        have r : ∀ i, i < 10 → wr.cell? ⟨B + 1 + 1 + 1, i, none⟩ = some (.int .i64 (Bm.top (x.getD i 0) (y.getD i 0) m)) := fun i hi => by
          rw [cell_of_row _ _ i _ 46 (0, 0) KR.out, outA_at _ 8 i hi, if_pos (by omega)]
        have r0 := r 0 (by decide)
        have o0 : wr.cell? ⟨B + 1 + 1, 0, none⟩ = some (.int .i64 0) := cell_of_row _ _ 0 _ 46 (0, 0) KO.out
        have z0 : wr.frozen? ⟨B + 1 + 1, 0, none⟩ = false := by have h := KO.out; simp [World.frozen?, h]
        have r1 := r 1 (by decide)
        have o1 : wr.cell? ⟨B + 1 + 1, 1, none⟩ = some (.int .i64 0) := cell_of_row _ _ 1 _ 46 (0, 0) KO.out
        have z1 : wr.frozen? ⟨B + 1 + 1, 1, none⟩ = false := by have h := KO.out; simp [World.frozen?, h]
        have r2 := r 2 (by decide)
        have o2 : wr.cell? ⟨B + 1 + 1, 2, none⟩ = some (.int .i64 0) := cell_of_row _ _ 2 _ 46 (0, 0) KO.out
        have z2 : wr.frozen? ⟨B + 1 + 1, 2, none⟩ = false := by have h := KO.out; simp [World.frozen?, h]
        have r3 := r 3 (by decide)
        have o3 : wr.cell? ⟨B + 1 + 1, 3, none⟩ = some (.int .i64 0) := cell_of_row _ _ 3 _ 46 (0, 0) KO.out
        have z3 : wr.frozen? ⟨B + 1 + 1, 3, none⟩ = false := by have h := KO.out; simp [World.frozen?, h]
        have r4 := r 4 (by decide)
        have o4 : wr.cell? ⟨B + 1 + 1, 4, none⟩ = some (.int .i64 0) := cell_of_row _ _ 4 _ 46 (0, 0) KO.out
        have z4 : wr.frozen? ⟨B + 1 + 1, 4, none⟩ = false := by have h := KO.out; simp [World.frozen?, h]
        have r5 := r 5 (by decide)
        have o5 : wr.cell? ⟨B + 1 + 1, 5, none⟩ = some (.int .i64 0) := cell_of_row _ _ 5 _ 46 (0, 0) KO.out
        have z5 : wr.frozen? ⟨B + 1 + 1, 5, none⟩ = false := by have h := KO.out; simp [World.frozen?, h]
        have r6 := r 6 (by decide)
        have o6 : wr.cell? ⟨B + 1 + 1, 6, none⟩ = some (.int .i64 0) := cell_of_row _ _ 6 _ 46 (0, 0) KO.out
        have z6 : wr.frozen? ⟨B + 1 + 1, 6, none⟩ = false := by have h := KO.out; simp [World.frozen?, h]
        have r7 := r 7 (by decide)
        have o7 : wr.cell? ⟨B + 1 + 1, 7, none⟩ = some (.int .i64 0) := cell_of_row _ _ 7 _ 46 (0, 0) KO.out
        have z7 : wr.frozen? ⟨B + 1 + 1, 7, none⟩ = false := by have h := KO.out; simp [World.frozen?, h]
        have r8 := r 8 (by decide)
        have o8 : wr.cell? ⟨B + 1 + 1, 8, none⟩ = some (.int .i64 0) := cell_of_row _ _ 8 _ 46 (0, 0) KO.out
        have z8 : wr.frozen? ⟨B + 1 + 1, 8, none⟩ = false := by have h := KO.out; simp [World.frozen?, h]
        have r9 := r 9 (by decide)
        have o9 : wr.cell? ⟨B + 1 + 1, 9, none⟩ = some (.int .i64 0) := cell_of_row _ _ 9 _ 46 (0, 0) KO.out
        have z9 : wr.frozen? ⟨B + 1 + 1, 9, none⟩ = false := by have h := KO.out; simp [World.frozen?, h]
        have HJ : Hid (Cv (joinC x y m) = #[.int .i64 (Bm.top (x.getD 0 0) (y.getD 0 0) m), .int .i64 (Bm.top (x.getD 1 0) (y.getD 1 0) m), .int .i64 (Bm.top (x.getD 2 0) (y.getD 2 0) m), .int .i64 (Bm.top (x.getD 3 0) (y.getD 3 0) m), .int .i64 (Bm.top (x.getD 4 0) (y.getD 4 0) m), .int .i64 (Bm.top (x.getD 5 0) (y.getD 5 0) m), .int .i64 (Bm.top (x.getD 6 0) (y.getD 6 0) m), .int .i64 (Bm.top (x.getD 7 0) (y.getD 7 0) m), .int .i64 (Bm.top (x.getD 8 0) (y.getD 8 0) m), .int .i64 (Bm.top (x.getD 9 0) (y.getD 9 0) m)]) := rfl
        generalize Bm.top (x.getD 0 0) (y.getD 0 0) m = v0 at *
        generalize Bm.top (x.getD 1 0) (y.getD 1 0) m = v1 at *
        generalize Bm.top (x.getD 2 0) (y.getD 2 0) m = v2 at *
        generalize Bm.top (x.getD 3 0) (y.getD 3 0) m = v3 at *
        generalize Bm.top (x.getD 4 0) (y.getD 4 0) m = v4 at *
        generalize Bm.top (x.getD 5 0) (y.getD 5 0) m = v5 at *
        generalize Bm.top (x.getD 6 0) (y.getD 6 0) m = v6 at *
        generalize Bm.top (x.getD 7 0) (y.getD 7 0) m = v7 at *
        generalize Bm.top (x.getD 8 0) (y.getD 8 0) m = v8 at *
        generalize Bm.top (x.getD 9 0) (y.getD 9 0) m = v9 at *
        clear r KX KY KO KR
        go_wp2_with fail
        refine bodyPost_ret (v := .agg #[.int .i64 v0, .int .i64 v1, .int .i64 v2, .int .i64 v3, .int .i64 v4, .int .i64 v5, .int .i64 v6, .int .i64 v7, .int .i64 v8, .int .i64 v9]) (by simp [results, Tryd.results59, go_sem, o0, o1, o2, o3, o4, o5, o6, o7, o8, o9]) rfl ?_
        refine ⟨by rw [HJ.out], ?_⟩
        rw [hBB]
        exact (((((((((((KB.out.setCell (by show _ ≤ _; simp; omega) _).setCell (by simp; omega) _).setCell (by simp; omega) _).setCell (by simp; omega) _).setCell (by simp; omega) _).setCell (by simp; omega) _).setCell (by simp; omega) _).setCell (by simp; omega) _).setCell (by simp; omega) _).setCell (by simp; omega) _))
end Go.Proofs.YtkhhcnpmobgdgaaDoor
