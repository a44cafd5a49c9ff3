/- PathTells. -/
import Derived.Test.YtgldjjmpjaegfaaPhh
import Derived.Test.YtgldjjmpjaegfaaPhi
namespace Go.Proofs.Ytgldjjmpjaegfaa
open Go.RowKit Go.Maps
set_option linter.unusedVariables false
set_option linter.unusedSimpArgs false
set_option maxRecDepth 100000

set_option maxHeartbeats 32000000 in
theorem tells30 (lA : Option Addr) (l : List Ls) (n c : Nat) (x0 x1 x2 x3 : Int) (x4 x5 : ByteArray) (x6 x7 : Int) (x8 : Bool) (ats : List (ByteArray × ByteArray)) (xA : Option Addr) (xc m : Nat) (at_ : Int) (w : World) (hS : RdSps w w.heap.size lA l) (hn : n = l.length) (hl : n ≤ maxLen) (hm : m = ats.length) (hy : RdL w w.heap.size ⟨⟨x0, x1, x2, x3, x4, x5, x6, x7, x8, ats⟩, xA, xc⟩) :
    Calls Try.prog 7 #[.slice lA n c, .agg #[.int .u64 x0, .int .u64 x1, .int .u64 x2, .int .u64 x3, .string x4, .string x5, .int .i64 x6, .int .i64 x7, .bool x8, .slice xA m xc], .int .i64 at_] w fun e w' => e = .returned (.bool true) ∧ Below w.heap.size w w' := by
  obtain ⟨g0, hg0⟩ : ∃ g0, g0 = w.heap.size := ⟨_, rfl⟩
  have hC := heap_alloc_new w (.cells #[.int .u64 x0, .int .u64 x1, .int .u64 x2, .int .u64 x3, .string x4, .string x5, .int .i64 x6, .int .i64 x7, .bool x8, .slice xA m xc] 34)
  have hB0 := (Below.refl w.heap.size w).alloc (Nat.le_refl _) (.cells #[.int .u64 x0, .int .u64 x1, .int .u64 x2, .int .u64 x3, .string x4, .string x5, .int .i64 x6, .int .i64 x7, .bool x8, .slice xA m xc] 34)
  have hs0 : (w.alloc (.cells #[.int .u64 x0, .int .u64 x1, .int .u64 x2, .int .u64 x3, .string x4, .string x5, .int .i64 x6, .int .i64 x7, .bool x8, .slice xA m xc] 34)).heap.size = w.heap.size + 1 := by simp
  obtain ⟨W0, hW0⟩ : ∃ W0, W0 = w.alloc (.cells #[.int .u64 x0, .int .u64 x1, .int .u64 x2, .int .u64 x3, .string x4, .string x5, .int .i64 x6, .int .i64 x7, .bool x8, .slice xA m xc] 34) := ⟨_, rfl⟩
  rw [← hW0] at hC hB0 hs0
  rw [← hg0] at hC
  have HW0 := Lib.hid hW0
  have HG0 := Lib.hid hg0
  have HB00 := Lib.hid hB0
  have HSZ := Lib.hid (show w.heap.size ≤ W0.heap.size from by omega)
  have HCQ := Lib.hid (show ∀ W, Below W0.heap.size W0 W → W.heap[g0]? = some (.cells #[.int .u64 x0, .int .u64 x1, .int .u64 x2, .int .u64 x3, .string x4, .string x5, .int .i64 x6, .int .i64 x7, .bool x8, .slice xA m xc] 34 (0, 0)) from fun W h => (h.block g0 (by rw [hs0]; omega)).trans hC)
  have HYQ := Lib.hid (show ∀ W, Below W0.heap.size W0 W → RdL W w.heap.size ⟨⟨x0, x1, x2, x3, x4, x5, x6, x7, x8, ats⟩, xA, xc⟩ from fun W h => hy.below (hB0.trans (h.mono (by omega))))
  have HSQ := Lib.hid (show ∀ W, Below W0.heap.size W0 W → RdSps W w.heap.size lA l from fun W h => hS.below (hB0.trans (h.mono (by omega))))
  have HLQ := Lib.hid (show ∀ W, Below W0.heap.size W0 W → w.heap.size ≤ W.heap.size from fun W h => by have := h.size; omega)
  have HN := Lib.hid hn
  have HM := Lib.hid hm
  have hml := hl
  simp only [maxLen] at hml
  have AL := Lib.hid (alive30_calls W0)
  have FE := fun (W : World) (h : Below W0.heap.size W0 W) => Lib.hid (fewall_any lA l n c w.heap.size W hn (HSQ.out W h) (HLQ.out W h) hl)
  have FS := fun (W : World) (h : Below W0.heap.size W0 W) => Lib.hid (show Calls Try.prog 22 #[.agg #[.int .u64 x0, .int .u64 x1, .int .u64 x2, .int .u64 x3, .string x4, .string x5, .int .i64 x6, .int .i64 x7, .bool x8, .slice xA m xc]] W (fun e w' => e = .returned (.bool (few ⟨x0, x1, x2, x3, x4, x5, x6, x7, x8, ats⟩)) ∧ Below W.heap.size W w') from by have h2 := few_any ⟨⟨x0, x1, x2, x3, x4, x5, x6, x7, x8, ats⟩, xA, xc⟩ w.heap.size W (HYQ.out W h) (HLQ.out W h); rw [hm]; exact h2)
  have EC := fun (W : World) (h : Below W0.heap.size W0 W) => Lib.hid (ends_lit x0 x1 x2 x3 x4 x5 x6 x7 x8 ats xA xc m w.heap.size W hm (HYQ.out W h) (HLQ.out W h))
  have RC := fun (W : World) (h : Below W0.heap.size W0 W) => Lib.hid (refends_lit x0 x1 x2 x3 x4 x5 x6 x7 x8 ats xA xc m w.heap.size W hm (HYQ.out W h) (HLQ.out W h))
  generalize endB ⟨x0, x1, x2, x3, x4, x5, x6, x7, x8, ats⟩ = eB at *
  generalize endE ⟨x0, x1, x2, x3, x4, x5, x6, x7, x8, ats⟩ = eE at *
  obtain ⟨fb, hfb⟩ : ∃ fb, fb = fewAll l := ⟨_, rfl⟩
  rw [← hfb] at FE
  have HFB := Lib.hid hfb
  generalize few ⟨x0, x1, x2, x3, x4, x5, x6, x7, x8, ats⟩ = fs at *
  clear hC hB0 hs0 hW0 hg0 hy hS hn hm hl hfb
  cases fb
  · go_enter Try.func7, Try.ntmps7
    go_upto_region 1 with fail
    rw [← HW0.out, ← HG0.out]
    go_wp2_with (first | (go_at_call 11; (with_reducible refine (FE _ HB1.out).out.mono ?_); rintro ex w2 ⟨rfl, hb2⟩; have HB2 := Lib.hid (HB1.out.trans (hb2.mono HB1.out.size)); have y0 : w2.cell? ⟨g0, 0, none⟩ = some (.int .u64 x0) := cell_of_row _ _ 0 _ _ (0, 0) (HCQ.out _ HB2.out); have y1 : w2.cell? ⟨g0, 1, none⟩ = some (.int .u64 x1) := cell_of_row _ _ 1 _ _ (0, 0) (HCQ.out _ HB2.out); have y2 : w2.cell? ⟨g0, 2, none⟩ = some (.int .u64 x2) := cell_of_row _ _ 2 _ _ (0, 0) (HCQ.out _ HB2.out); have y3 : w2.cell? ⟨g0, 3, none⟩ = some (.int .u64 x3) := cell_of_row _ _ 3 _ _ (0, 0) (HCQ.out _ HB2.out); have y4 : w2.cell? ⟨g0, 4, none⟩ = some (.string x4) := cell_of_row _ _ 4 _ _ (0, 0) (HCQ.out _ HB2.out); have y5 : w2.cell? ⟨g0, 5, none⟩ = some (.string x5) := cell_of_row _ _ 5 _ _ (0, 0) (HCQ.out _ HB2.out); have y6 : w2.cell? ⟨g0, 6, none⟩ = some (.int .i64 x6) := cell_of_row _ _ 6 _ _ (0, 0) (HCQ.out _ HB2.out); have y7 : w2.cell? ⟨g0, 7, none⟩ = some (.int .i64 x7) := cell_of_row _ _ 7 _ _ (0, 0) (HCQ.out _ HB2.out); have y8 : w2.cell? ⟨g0, 8, none⟩ = some (.bool x8) := cell_of_row _ _ 8 _ _ (0, 0) (HCQ.out _ HB2.out); have y9 : w2.cell? ⟨g0, 9, none⟩ = some (.slice xA m xc) := cell_of_row _ _ 9 _ _ (0, 0) (HCQ.out _ HB2.out); clear hb2) | (go_at_call 21; (with_reducible refine AL.out.mono ?_); rintro ex w1 ⟨rfl, hb1⟩; have HB1 := Lib.hid hb1; clear hb1))
    go_ret
    exact ⟨rfl, HB00.out.trans (HB2.out.mono HSZ.out)⟩
  · cases fs
    · go_enter Try.func7, Try.ntmps7
      go_upto_region 1 with fail
      rw [← HW0.out, ← HG0.out]
      go_wp2_with (first | (go_at_call 22; (with_reducible refine (FS _ HB2.out).out.mono ?_); rintro ex w3 ⟨rfl, hb3⟩; have HB3 := Lib.hid (HB2.out.trans (hb3.mono HB2.out.size)); clear hb3) | (go_at_call 11; (with_reducible refine (FE _ HB1.out).out.mono ?_); rintro ex w2 ⟨rfl, hb2⟩; have HB2 := Lib.hid (HB1.out.trans (hb2.mono HB1.out.size)); have y0 : w2.cell? ⟨g0, 0, none⟩ = some (.int .u64 x0) := cell_of_row _ _ 0 _ _ (0, 0) (HCQ.out _ HB2.out); have y1 : w2.cell? ⟨g0, 1, none⟩ = some (.int .u64 x1) := cell_of_row _ _ 1 _ _ (0, 0) (HCQ.out _ HB2.out); have y2 : w2.cell? ⟨g0, 2, none⟩ = some (.int .u64 x2) := cell_of_row _ _ 2 _ _ (0, 0) (HCQ.out _ HB2.out); have y3 : w2.cell? ⟨g0, 3, none⟩ = some (.int .u64 x3) := cell_of_row _ _ 3 _ _ (0, 0) (HCQ.out _ HB2.out); have y4 : w2.cell? ⟨g0, 4, none⟩ = some (.string x4) := cell_of_row _ _ 4 _ _ (0, 0) (HCQ.out _ HB2.out); have y5 : w2.cell? ⟨g0, 5, none⟩ = some (.string x5) := cell_of_row _ _ 5 _ _ (0, 0) (HCQ.out _ HB2.out); have y6 : w2.cell? ⟨g0, 6, none⟩ = some (.int .i64 x6) := cell_of_row _ _ 6 _ _ (0, 0) (HCQ.out _ HB2.out); have y7 : w2.cell? ⟨g0, 7, none⟩ = some (.int .i64 x7) := cell_of_row _ _ 7 _ _ (0, 0) (HCQ.out _ HB2.out); have y8 : w2.cell? ⟨g0, 8, none⟩ = some (.bool x8) := cell_of_row _ _ 8 _ _ (0, 0) (HCQ.out _ HB2.out); have y9 : w2.cell? ⟨g0, 9, none⟩ = some (.slice xA m xc) := cell_of_row _ _ 9 _ _ (0, 0) (HCQ.out _ HB2.out); clear hb2) | (go_at_call 21; (with_reducible refine AL.out.mono ?_); rintro ex w1 ⟨rfl, hb1⟩; have HB1 := Lib.hid hb1; clear hb1))
      go_ret
      exact ⟨rfl, HB00.out.trans (HB3.out.mono HSZ.out)⟩
    · have HN60 := Lib.hid (show n ≤ 60 from by
        have h := HFB.out
        unfold fewAll at h
        have h2 := (Bool.and_eq_true _ _).mp h.symm
        rw [HN.out]; exact of_decide_eq_true h2.1)
      go_enter Try.func7, Try.ntmps7
      go_upto_region 1 with fail
      rw [← HW0.out, ← HG0.out]
      go_upto_region 4 with (first | (go_at_call 22; (with_reducible refine (FS _ HB2.out).out.mono ?_); rintro ex w3 ⟨rfl, hb3⟩; have HB3 := Lib.hid (HB2.out.trans (hb3.mono HB2.out.size)); clear hb3) | (go_at_call 11; (with_reducible refine (FE _ HB1.out).out.mono ?_); rintro ex w2 ⟨rfl, hb2⟩; have HB2 := Lib.hid (HB1.out.trans (hb2.mono HB1.out.size)); have y0 : w2.cell? ⟨g0, 0, none⟩ = some (.int .u64 x0) := cell_of_row _ _ 0 _ _ (0, 0) (HCQ.out _ HB2.out); have y1 : w2.cell? ⟨g0, 1, none⟩ = some (.int .u64 x1) := cell_of_row _ _ 1 _ _ (0, 0) (HCQ.out _ HB2.out); have y2 : w2.cell? ⟨g0, 2, none⟩ = some (.int .u64 x2) := cell_of_row _ _ 2 _ _ (0, 0) (HCQ.out _ HB2.out); have y3 : w2.cell? ⟨g0, 3, none⟩ = some (.int .u64 x3) := cell_of_row _ _ 3 _ _ (0, 0) (HCQ.out _ HB2.out); have y4 : w2.cell? ⟨g0, 4, none⟩ = some (.string x4) := cell_of_row _ _ 4 _ _ (0, 0) (HCQ.out _ HB2.out); have y5 : w2.cell? ⟨g0, 5, none⟩ = some (.string x5) := cell_of_row _ _ 5 _ _ (0, 0) (HCQ.out _ HB2.out); have y6 : w2.cell? ⟨g0, 6, none⟩ = some (.int .i64 x6) := cell_of_row _ _ 6 _ _ (0, 0) (HCQ.out _ HB2.out); have y7 : w2.cell? ⟨g0, 7, none⟩ = some (.int .i64 x7) := cell_of_row _ _ 7 _ _ (0, 0) (HCQ.out _ HB2.out); have y8 : w2.cell? ⟨g0, 8, none⟩ = some (.bool x8) := cell_of_row _ _ 8 _ _ (0, 0) (HCQ.out _ HB2.out); have y9 : w2.cell? ⟨g0, 9, none⟩ = some (.slice xA m xc) := cell_of_row _ _ 9 _ _ (0, 0) (HCQ.out _ HB2.out); clear hb2) | (go_at_call 21; (with_reducible refine AL.out.mono ?_); rintro ex w1 ⟨rfl, hb1⟩; have HB1 := Lib.hid hb1; clear hb1))
      clear FE FS AL y0 y1 y2 y3 y4 y5 y6 y7 y8 y9
      have y0 : w3.cell? ⟨g0, 0, none⟩ = some (.int .u64 x0) := cell_of_row _ _ 0 _ _ (0, 0) (HCQ.out _ HB3.out)
      have y1 : w3.cell? ⟨g0, 1, none⟩ = some (.int .u64 x1) := cell_of_row _ _ 1 _ _ (0, 0) (HCQ.out _ HB3.out)
      have y2 : w3.cell? ⟨g0, 2, none⟩ = some (.int .u64 x2) := cell_of_row _ _ 2 _ _ (0, 0) (HCQ.out _ HB3.out)
      have y3 : w3.cell? ⟨g0, 3, none⟩ = some (.int .u64 x3) := cell_of_row _ _ 3 _ _ (0, 0) (HCQ.out _ HB3.out)
      have y4 : w3.cell? ⟨g0, 4, none⟩ = some (.string x4) := cell_of_row _ _ 4 _ _ (0, 0) (HCQ.out _ HB3.out)
      have y5 : w3.cell? ⟨g0, 5, none⟩ = some (.string x5) := cell_of_row _ _ 5 _ _ (0, 0) (HCQ.out _ HB3.out)
      have y6 : w3.cell? ⟨g0, 6, none⟩ = some (.int .i64 x6) := cell_of_row _ _ 6 _ _ (0, 0) (HCQ.out _ HB3.out)
      have y7 : w3.cell? ⟨g0, 7, none⟩ = some (.int .i64 x7) := cell_of_row _ _ 7 _ _ (0, 0) (HCQ.out _ HB3.out)
      have y8 : w3.cell? ⟨g0, 8, none⟩ = some (.bool x8) := cell_of_row _ _ 8 _ _ (0, 0) (HCQ.out _ HB3.out)
      have y9 : w3.cell? ⟨g0, 9, none⟩ = some (.slice xA m xc) := cell_of_row _ _ 9 _ _ (0, 0) (HCQ.out _ HB3.out)
      go_upto_region 5 with (go_at_call 23; (with_reducible refine (EC _ HB3.out).out.mono ?_); rintro ex w4 ⟨rfl, hb4⟩; have HB4 := Lib.hid (HB3.out.trans (hb4.mono HB3.out.size)); clear hb4)
      clear EC y0 y1 y2 y3 y4 y5 y6 y7 y8 y9
      have y0 : w4.cell? ⟨g0, 0, none⟩ = some (.int .u64 x0) := cell_of_row _ _ 0 _ _ (0, 0) (HCQ.out _ HB4.out)
      have y1 : w4.cell? ⟨g0, 1, none⟩ = some (.int .u64 x1) := cell_of_row _ _ 1 _ _ (0, 0) (HCQ.out _ HB4.out)
      have y2 : w4.cell? ⟨g0, 2, none⟩ = some (.int .u64 x2) := cell_of_row _ _ 2 _ _ (0, 0) (HCQ.out _ HB4.out)
      have y3 : w4.cell? ⟨g0, 3, none⟩ = some (.int .u64 x3) := cell_of_row _ _ 3 _ _ (0, 0) (HCQ.out _ HB4.out)
      have y4 : w4.cell? ⟨g0, 4, none⟩ = some (.string x4) := cell_of_row _ _ 4 _ _ (0, 0) (HCQ.out _ HB4.out)
      have y5 : w4.cell? ⟨g0, 5, none⟩ = some (.string x5) := cell_of_row _ _ 5 _ _ (0, 0) (HCQ.out _ HB4.out)
      have y6 : w4.cell? ⟨g0, 6, none⟩ = some (.int .i64 x6) := cell_of_row _ _ 6 _ _ (0, 0) (HCQ.out _ HB4.out)
      have y7 : w4.cell? ⟨g0, 7, none⟩ = some (.int .i64 x7) := cell_of_row _ _ 7 _ _ (0, 0) (HCQ.out _ HB4.out)
      have y8 : w4.cell? ⟨g0, 8, none⟩ = some (.bool x8) := cell_of_row _ _ 8 _ _ (0, 0) (HCQ.out _ HB4.out)
      have y9 : w4.cell? ⟨g0, 9, none⟩ = some (.slice xA m xc) := cell_of_row _ _ 9 _ _ (0, 0) (HCQ.out _ HB4.out)
      go_upto_region 6 with (go_at_call 24; (with_reducible refine (RC _ HB4.out).out.mono ?_); rintro ex w5 ⟨rfl, hb5⟩; have HB5 := Lib.hid (HB4.out.trans (hb5.mono HB4.out.size)); clear hb5)
      clear RC y0 y1 y2 y3 y4 y5 y6 y7 y8 y9
      have HS5 := Lib.hid (HSQ.out _ HB5.out)
      have APP := Lib.hid (fun ty => appSs (ty := ty) (n := 0) (m := n) (c := c) (base := w5.heap.size) (World.ownsRow_nil w5 w5.heap.size 34 10) HS5.out.rd HN.out (by have := HN60.out; omega) (Nat.le_refl _))
      have CC := fun (A6 : Option Addr) (c6 : Nat) (W : World) (h : RdSps W W.heap.size A6 l) => Lib.hid (critical_any l A6 n c6 W.heap.size W h (Nat.le_refl _) HN.out (by have := HN60.out; omega))
      have HRX := Lib.hid (show ∀ (w6 : World) (A6 : Option Addr) (c6 : Nat), w6.ownsRow w5.heap.size 34 10 (.slice A6 n c6) n (l.flatMap Ls.cells) → Below W0.heap.size W0 w6 → RdSps w6 w6.heap.size A6 l from fun w6 A6 c6 h hb => ⟨own_read h (Nat.le_refl _), fun y hy => ((HSQ.out _ hb).each y hy).more (HLQ.out _ hb)⟩)
      go_upto_region 7 with (first
        | (go_at_call 25; (with_reducible refine CD.out.mono ?_); rintro ex w7 ⟨A7, q7, c7, X, rfl, hq7, hx7, hc7, ho7, hb7⟩; have HQ7 := Lib.hid (And.intro hq7 hx7); have HC7 := Lib.hid hc7; have HO7 := Lib.hid ho7; have HB7 := Lib.hid (HB6.out.trans (hb7.mono HB6.out.size)); clear hq7 hx7 hc7 ho7 hb7)
        | (at_builtin; (refine wpList_app rfl (.const (.slice none 0 0)) (.tmp 39) _ _ rfl rfl rfl (APP.out _) ?_); rintro v6 w6 ⟨ho6, hg6⟩; rw [Nat.zero_add, List.nil_append] at ho6; obtain ⟨A6, c6, rfl, _, _⟩ := own_rd ho6; have HB6 := Lib.hid (HB5.out.trans (hg6.new.mono HB5.out.size)); have CD := CC A6 c6 w6 (HRX.out w6 A6 c6 ho6 HB6.out); clear ho6 hg6))
      clear APP CC CD HRX HS5
      have DC := Lib.hid (refcritical_any l lA n c w.heap.size w7 (HSQ.out _ HB7.out) (HLQ.out _ HB7.out) HN.out (by have := HN60.out; omega))
      go_upto_region 8 with (go_at_call 26; (with_reducible refine DC.out.mono ?_); rintro ex w8 ⟨A8, q8, c8, Y, rfl, hq8, hx8, hc8, ho8, hb8⟩; obtain rfl := crit_eq HC7.out hc8; obtain rfl : q7 = q8 := (by rw [hq8, HQ7.out.1]); have HO8 := Lib.hid ho8; have HO78 := Lib.hid (own_below HO7.out hb8); have HB8 := Lib.hid (HB7.out.trans (hb8.mono HB7.out.size)); clear hx8 hc8 ho8 hb8)
      clear DC HO7 HC7
      have SC := Lib.hid (self_any l lA n c w.heap.size at_ w8 (HSQ.out _ HB8.out) (HLQ.out _ HB8.out) HN.out (by have := HN60.out; omega))
      have TC := fun (W : World) (h : Below W0.heap.size W0 W) => Lib.hid (refself_any l lA n c w.heap.size at_ W (HSQ.out _ h) (HLQ.out _ h) HN.out (by have := HN60.out; omega))
      go_upto_region 11 with (first
        | (go_at_call 27; (with_reducible refine SC.out.mono ?_); rintro ex w9 ⟨s9, rfl, hs9, hb9⟩; have HS9 := Lib.hid hs9; have HG9 := Lib.hid hb9; have HB9 := Lib.hid (HB8.out.trans (hb9.mono HB8.out.size)); clear hs9 hb9)
        | (go_at_call 28; (with_reducible refine (TC _ HB9.out).out.mono ?_); rintro ex w10 ⟨s10, rfl, hs10, hb10⟩; obtain rfl := self_eq HS9.out hs10; have HG10 := Lib.hid (HG9.out.trans (hb10.mono HG9.out.size)); have HB10 := Lib.hid (HB9.out.trans (hb10.mono HB9.out.size)); clear hs10 hb10))
      clear SC TC HS9 HG9
      have HRA := Lib.hid (own_read (own_below HO78.out HG10.out) (Nat.le_refl _))
      have HRB := Lib.hid (own_read (own_below HO8.out HG10.out) (Nat.le_refl _))
      have HFIN := Lib.hid (show Below w.heap.size w w10 from HB00.out.trans (HB10.out.mono HSZ.out))
      clear HO78 HO8 HG10
      go_loopw [14] (fun vi wq => ∃ (j : Nat), vi = .int .i64 (j : Int) ∧ Hid (j ≤ q7) ∧ Hid (Below w10.heap.size w10 wq)) (fun vi _ => q7 - (intOf vi).toNat)
      case atStart => exact ⟨0, rfl, Lib.hid (Nat.zero_le _), Lib.hid (Below.refl _ _)⟩
      case round =>
        obtain ⟨j, rfl, HJ, HWQ⟩ := hrel
        by_cases hlt : j < q7
        · as_aux_lemma =>
          have d0 : decide ((j : Int) < (q7 : Int)) = true := decide_eq_true (by omega)
          have d1 : decide (j < q7) = true := decide_eq_true hlt
          have i0 : (0 : Int) ≤ (j : Int) := by omega
          have i1 : (j : Int) < (q7 : Int) := by omega
          obtain ⟨j9, hj9⟩ : ∃ j9, j9 = j + 1 := ⟨_, rfl⟩
          have e1 : IntKind.i64.wrap ((j : Int) + 1) = (j9 : Int) := by have := HQ7.out; rw [IntKind.wrap_i64] <;> omega
          obtain ⟨z, hz⟩ : ∃ z, X[j]? = some z := ⟨_, List.getElem?_eq_getElem (by rw [← HQ7.out.1]; exact hlt)⟩
          obtain ⟨a1, ha1, hab1, hc1⟩ := HRA.out (by rw [List.length_map, ← HQ7.out.1]; omega)
          obtain ⟨a2, ha2, hab2, hc2⟩ := HRB.out (by rw [List.length_map, ← HQ7.out.1]; omega)
          subst ha1 ha2
          have p1 : wr.cell? (a1.add j) = some (.int .i64 (z : Int)) := by
            rw [show wr.cell? (a1.add j) = w10.cell? (a1.add j) from HWQ.out.cell (by rw [block_add]; exact hab1)]
            exact hc1 j _ (by rw [List.getElem?_map, hz]; rfl)
          have p2 : wr.cell? (a2.add j) = some (.int .i64 (z : Int)) := by
            rw [show wr.cell? (a2.add j) = w10.cell? (a2.add j) from HWQ.out.cell (by rw [block_add]; exact hab2)]
            exact hc2 j _ (by rw [List.getElem?_map, hz]; rfl)
          have HJ9 := Lib.hid hj9
          have HLT := Lib.hid hlt
          clear hj9 hlt hz hc1 hc2 hab1 hab2
          go_upto_region 13 with fail
          refine wp_region_quiet_lex (by kernel_rfl) (by kernel_rfl) ?_
          repeat (go_big_quiet_step (fail))
          refine wpQuiet_nil ?_
          intro _ hw'
          obtain ⟨nq, hw''⟩ := hw'
          subst hw''
          go_wp2_with fail
          go_roundw
          case rel => exact ⟨j9, by first | rfl | go_num, Lib.hid (by have := HLT.out; have := HJ9.out; omega), Lib.hid (HWQ.out.trans ⟨rfl, rfl, rfl, Nat.le_refl _, fun _ _ => rfl⟩)⟩
          case measure => have := HLT.out; have := HJ9.out; simp [intOf]; omega
        · as_aux_lemma =>
          obtain rfl : q7 = j := by have := HJ.out; omega
          have d0 : decide ((q7 : Int) < (q7 : Int)) = false := decide_eq_false (by omega)
          have d1 : decide (q7 < q7) = false := decide_eq_false (by omega)
          clear hlt
          go_wp2_with fail
          go_ret
          exact ⟨rfl, HFIN.out.trans (HWQ.out.mono HFIN.out.size)⟩
end Go.Proofs.Ytgldjjmpjaegfaa
