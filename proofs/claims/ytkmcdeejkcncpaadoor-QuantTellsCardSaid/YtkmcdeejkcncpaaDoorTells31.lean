/- QuantTells: the walk. -/
import Derived.Test.YtkmcdeejkcncpaaDoorQa
import Derived.Test.YtkmcdeejkcncpaaDoorTells8
import Derived.Test.YtkmcdeejkcncpaaDoorQd
import Derived.Test.YtkmcdeejkcncpaaDoorRc
import Derived.Deep.RegionHeld3
import Derived.Deep.DeepCutAuto
import Derived.StillTailTactics
import Derived.BigQuiet
import Derived.Deep.QuietTactic
import Derived.IntWalk
namespace Go.Proofs.YtkmcdeejkcncpaaDoor
open Go.RowKit
set_option linter.unusedVariables false

theorem keepQ {B0 : Nat} {x0 x1 x2 x3 x4 x5 x6 x7 x8 x9 : Int} {w W W' : World} (hb : Below W.heap.size W W') (h : (Hid (Lows W ∧ Below B0 w W ∧ B0 < W.heap.size) ∧ (W.cell? ⟨B0, 0, none⟩ = some (.int .i64 x0) ∧ W.cell? ⟨B0, 1, none⟩ = some (.int .i64 x1) ∧ W.cell? ⟨B0, 2, none⟩ = some (.int .i64 x2) ∧ W.cell? ⟨B0, 3, none⟩ = some (.int .i64 x3) ∧ W.cell? ⟨B0, 4, none⟩ = some (.int .i64 x4) ∧ W.cell? ⟨B0, 5, none⟩ = some (.int .i64 x5) ∧ W.cell? ⟨B0, 6, none⟩ = some (.int .i64 x6) ∧ W.cell? ⟨B0, 7, none⟩ = some (.int .i64 x7) ∧ W.cell? ⟨B0, 8, none⟩ = some (.int .i64 x8) ∧ W.cell? ⟨B0, 9, none⟩ = some (.int .i64 x9)))) : (Hid (Lows W' ∧ Below B0 w W' ∧ B0 < W'.heap.size) ∧ (W'.cell? ⟨B0, 0, none⟩ = some (.int .i64 x0) ∧ W'.cell? ⟨B0, 1, none⟩ = some (.int .i64 x1) ∧ W'.cell? ⟨B0, 2, none⟩ = some (.int .i64 x2) ∧ W'.cell? ⟨B0, 3, none⟩ = some (.int .i64 x3) ∧ W'.cell? ⟨B0, 4, none⟩ = some (.int .i64 x4) ∧ W'.cell? ⟨B0, 5, none⟩ = some (.int .i64 x5) ∧ W'.cell? ⟨B0, 6, none⟩ = some (.int .i64 x6) ∧ W'.cell? ⟨B0, 7, none⟩ = some (.int .i64 x7) ∧ W'.cell? ⟨B0, 8, none⟩ = some (.int .i64 x8) ∧ W'.cell? ⟨B0, 9, none⟩ = some (.int .i64 x9))) := by
  obtain ⟨hh, h0, h1, h2, h3, h4, h5, h6, h7, h8, h9⟩ := h
  obtain ⟨hT, hB, lB⟩ := hh.out
  have hz := hb.size
  exact ⟨Lib.hid ⟨hT.below hb hT.lt, hB.trans (hb.mono (by omega)), by omega⟩, (hb.cell (p := ⟨B0, 0, none⟩) lB).trans h0, (hb.cell (p := ⟨B0, 1, none⟩) lB).trans h1, (hb.cell (p := ⟨B0, 2, none⟩) lB).trans h2, (hb.cell (p := ⟨B0, 3, none⟩) lB).trans h3, (hb.cell (p := ⟨B0, 4, none⟩) lB).trans h4, (hb.cell (p := ⟨B0, 5, none⟩) lB).trans h5, (hb.cell (p := ⟨B0, 6, none⟩) lB).trans h6, (hb.cell (p := ⟨B0, 7, none⟩) lB).trans h7, (hb.cell (p := ⟨B0, 8, none⟩) lB).trans h8, (hb.cell (p := ⟨B0, 9, none⟩) lB).trans h9⟩

set_option maxHeartbeats 8000000 in
set_option maxRecDepth 100000 in
theorem tells31 (x : List Int) (p : Int) (w : World) (T : Lows w) (hx : okC x) :
    Calls Tryd.prog 8 #[.agg (Cv x), .int .i64 p] w fun en w' => en = .returned (.bool true) ∧ Below w.heap.size w w' := by
  have Q1 := fun W T => Lib.hid (quantile_any x p W T hx)
  have Q2 := fun W => Lib.hid (rquantile_any x p W hx)
  generalize Qm.quant x p = q at *
  have R1 := fun W => Lib.hid (rate_any x W hx)
  have R2 := fun W => Lib.hid (rrate_any x W hx)
  generalize Qm.rate (x.getD 0 0) (x.getD 1 0) = r at *
  have T1 := fun W => Lib.hid (total_any x W hx)
  have T2 := fun W => Lib.hid (rtotal_any x W hx)
  generalize Qm.tot x 8 = t at *
  obtain ⟨q1, q2⟩ := q
  obtain ⟨r1, r2⟩ := r
  unfold RetR at R1 R2
  obtain ⟨x0, x1, x2, x3, x4, x5, x6, x7, x8, x9, hxx⟩ := Cv_ex x
  rw [hxx] at Q1 Q2 R1 R2 T1 T2 ⊢
  have HT := Lib.hid T
  have l0 := Lies.lit w #[.int .i64 x0, .int .i64 x1, .int .i64 x2, .int .i64 x3, .int .i64 x4, .int .i64 x5, .int .i64 x6, .int .i64 x7, .int .i64 x8, .int .i64 x9] 24
  have hB := (Below.refl w.heap.size w).alloc (Nat.le_refl _) (.cells #[.int .i64 x0, .int .i64 x1, .int .i64 x2, .int .i64 x3, .int .i64 x4, .int .i64 x5, .int .i64 x6, .int .i64 x7, .int .i64 x8, .int .i64 x9] 24)
  have hT := T.alloc (.cells #[.int .i64 x0, .int .i64 x1, .int .i64 x2, .int .i64 x3, .int .i64 x4, .int .i64 x5, .int .i64 x6, .int .i64 x7, .int .i64 x8, .int .i64 x9] 24)
  have hz : w.heap.size < (w.alloc (.cells #[.int .i64 x0, .int .i64 x1, .int .i64 x2, .int .i64 x3, .int .i64 x4, .int .i64 x5, .int .i64 x6, .int .i64 x7, .int .i64 x8, .int .i64 x9] 24)).heap.size := by simp
  have L0 := Lib.hid l0
  have HB := Lib.hid hB
  have HTT := Lib.hid hT
  have HZ := Lib.hid hz
  clear hxx hx T l0 hB hT hz
  go_enter Tryd.func8, Tryd.ntmps8
  go_wp2_with fail
  generalize hW : w.alloc (.cells #[.int .i64 x0, .int .i64 x1, .int .i64 x2, .int .i64 x3, .int .i64 x4, .int .i64 x5, .int .i64 x6, .int .i64 x7, .int .i64 x8, .int .i64 x9] 24) = W0 at *
  clear hW
  generalize hB0 : w.heap.size = B0 at *
  have HB0 := Lib.hid hB0
  clear hB0
  have hS : (Hid (Lows W0 ∧ Below B0 w W0 ∧ B0 < W0.heap.size) ∧ (W0.cell? ⟨B0, 0, none⟩ = some (.int .i64 x0) ∧ W0.cell? ⟨B0, 1, none⟩ = some (.int .i64 x1) ∧ W0.cell? ⟨B0, 2, none⟩ = some (.int .i64 x2) ∧ W0.cell? ⟨B0, 3, none⟩ = some (.int .i64 x3) ∧ W0.cell? ⟨B0, 4, none⟩ = some (.int .i64 x4) ∧ W0.cell? ⟨B0, 5, none⟩ = some (.int .i64 x5) ∧ W0.cell? ⟨B0, 6, none⟩ = some (.int .i64 x6) ∧ W0.cell? ⟨B0, 7, none⟩ = some (.int .i64 x7) ∧ W0.cell? ⟨B0, 8, none⟩ = some (.int .i64 x8) ∧ W0.cell? ⟨B0, 9, none⟩ = some (.int .i64 x9))) := by
    have k := Lies.ten L0.out
    exact ⟨Lib.hid ⟨HTT.out, HB.out, HZ.out⟩, k⟩
  clear L0 HB HTT HZ HT
  go_wp2_with (first
    | (go_at_call 16; (with_reducible refine (alive31_calls _ (hS.1.out.1)).mono ?_); rintro en w1 ⟨rfl, hb1⟩; have hS1 := keepQ hb1 hS; clear hb1 hS)
    | (go_at_call 17; (with_reducible refine (Q1 _ (hS1.1.out.1)).out.mono ?_); rintro en w2 ⟨rfl, hb2⟩; have hS2 := keepQ hb2 hS1; clear hb2 hS1)
    | (go_at_call 18; (with_reducible refine (Q2 _).out.mono ?_); rintro en w3 ⟨rfl, hb3⟩; have hS3 := keepQ hb3 hS2; clear hb3 hS2)
    | (go_at_call 19; (with_reducible refine (R1 _).out.mono ?_); rintro en w4 ⟨rfl, hb4⟩; have hS4 := keepQ hb4 hS3; clear hb4 hS3)
    | (go_at_call 20; (with_reducible refine (R2 _).out.mono ?_); rintro en w5 ⟨rfl, hb5⟩; have hS5 := keepQ hb5 hS4; clear hb5 hS4))
  clear Q1 Q2 R1 R2
  have hS6 : (Hid (Lows w5.drew ∧ Below B0 w w5.drew ∧ B0 < w5.drew.heap.size) ∧ (w5.drew.cell? ⟨B0, 0, none⟩ = some (.int .i64 x0) ∧ w5.drew.cell? ⟨B0, 1, none⟩ = some (.int .i64 x1) ∧ w5.drew.cell? ⟨B0, 2, none⟩ = some (.int .i64 x2) ∧ w5.drew.cell? ⟨B0, 3, none⟩ = some (.int .i64 x3) ∧ w5.drew.cell? ⟨B0, 4, none⟩ = some (.int .i64 x4) ∧ w5.drew.cell? ⟨B0, 5, none⟩ = some (.int .i64 x5) ∧ w5.drew.cell? ⟨B0, 6, none⟩ = some (.int .i64 x6) ∧ w5.drew.cell? ⟨B0, 7, none⟩ = some (.int .i64 x7) ∧ w5.drew.cell? ⟨B0, 8, none⟩ = some (.int .i64 x8) ∧ w5.drew.cell? ⟨B0, 9, none⟩ = some (.int .i64 x9))) := keepQ (W := w5) (W' := w5.drew) ⟨rfl, rfl, rfl, Nat.le_refl _, fun _ _ => rfl⟩ hS5
  clear hS5
  go_region_held3 (fun w' => (Hid (Lows w' ∧ Below B0 w w' ∧ B0 < w'.heap.size) ∧ (w'.cell? ⟨B0, 0, none⟩ = some (.int .i64 x0) ∧ w'.cell? ⟨B0, 1, none⟩ = some (.int .i64 x1) ∧ w'.cell? ⟨B0, 2, none⟩ = some (.int .i64 x2) ∧ w'.cell? ⟨B0, 3, none⟩ = some (.int .i64 x3) ∧ w'.cell? ⟨B0, 4, none⟩ = some (.int .i64 x4) ∧ w'.cell? ⟨B0, 5, none⟩ = some (.int .i64 x5) ∧ w'.cell? ⟨B0, 6, none⟩ = some (.int .i64 x6) ∧ w'.cell? ⟨B0, 7, none⟩ = some (.int .i64 x7) ∧ w'.cell? ⟨B0, 8, none⟩ = some (.int .i64 x8) ∧ w'.cell? ⟨B0, 9, none⟩ = some (.int .i64 x9))))
    (first | (with_reducible assumption) | (with_reducible exact hS6) | (have hq := hbq; (with_reducible exact keepQ hq (by assumption))))
    ((first
      | (go_at_call 21; (with_reducible refine (T1 _).out.mono ?_); rintro en w6 ⟨rfl, hbq⟩)
      | (go_at_call 22; (with_reducible refine (T2 _).out.mono ?_); rintro en w7 ⟨rfl, hbq⟩)))
  all_goals
    go_wp2_with fail
    go_ret
    obtain ⟨hf, _⟩ := ‹Hid (Lows _ ∧ Below _ _ _ ∧ _) ∧ _›
    rw [HB0.out]
    exact ⟨by simp, hf.out.2.1⟩
end Go.Proofs.YtkmcdeejkcncpaaDoor
