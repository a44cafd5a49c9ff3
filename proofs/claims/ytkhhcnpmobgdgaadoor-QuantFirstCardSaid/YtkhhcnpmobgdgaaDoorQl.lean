/- The lowest duration of the bucket with which enough are counted, as the code finds it. -/
import Derived.Test.YtkhhcnpmobgdgaaDoorQt
namespace Go.Proofs.YtkhhcnpmobgdgaaDoor
open Go.RowKit
set_option linter.unusedVariables false

/-- The table of the lowest durations lies there. -/
def Lows (w : World) : Prop := ∀ i, i < 8 → w.cell? ⟨0, i, none⟩ = some (.int .i64 (Qm.lows.getD i 0))
theorem Lows.lt {w : World} (h : Lows w) : 0 < w.heap.size := by
  rcases Nat.lt_or_ge 0 w.heap.size with h1 | h1
  · exact h1
  · have := h 0 (by decide)
    unfold World.cell? at this
    rw [Array.getElem?_eq_none h1] at this
    cases this
theorem Lows.below {w w' : World} {B : Nat} (h : Lows w) (hb : Below B w w') (hB : 0 < B) : Lows w' := fun i hi => (hb.cell (p := ⟨_, i, none⟩) hB).trans (h i hi)
theorem Lows.alloc {w : World} (h : Lows w) (o : Obj) : Lows (w.alloc o) := fun i hi => (World.cell?_alloc_lt w o ⟨_, i, none⟩ h.lt).trans (h i hi)
theorem quant_out (x : List Int) (p : Int) (h : Qm.tot x 8 = 0 ∨ p < 0 ∨ 1000 < p) : Qm.quant x p = (0, false) := by unfold Qm.quant; rw [if_pos h]
theorem quant_some (x : List Int) (p : Int) (k : Nat) (h : ¬ (Qm.tot x 8 = 0 ∨ p < 0 ∨ 1000 < p)) (hf : Qm.first x p 0 8 = some k) : Qm.quant x p = (Qm.lows.getD k 0, true) := by unfold Qm.quant; rw [if_neg h, hf]
theorem quant_none (x : List Int) (p : Int) (h : ¬ (Qm.tot x 8 = 0 ∨ p < 0 ∨ 1000 < p)) (hf : Qm.first x p 0 8 = none) : Qm.quant x p = (0, false) := by unfold Qm.quant; rw [if_neg h, hf]

set_option maxHeartbeats 4000000 in
set_option maxRecDepth 100000 in
theorem quantile_any (x : List Int) (p : Int) (w : World) (T : Lows w) (hx : okC x) : Calls Tryd.prog 41 #[.agg (Cv x), .int .i64 p] w fun e w' => e = .returned (.tuple #[.int .i64 (Qm.quant x p).1, .bool (Qm.quant x p).2]) ∧ Below w.heap.size w w' := by
  have BD := Lib.hid (Qm.tot_bd x (fun i => (hx i).2))
  have bt := BD.out 8
  have TA := fun W => Lib.hid (total_any x W hx)
  have OX := Lib.hid hx
  have HG : Hid (∀ q, Qm.quant x p = q → (Ending.returned (.tuple #[.int .i64 q.1, .bool q.2]) : Ending) = .returned (.tuple #[.int .i64 (Qm.quant x p).1, .bool (Qm.quant x p).2])) := by
    show ∀ _, _
    intro q h
    rw [h]
  have QO := Lib.hid (quant_out x p)
  have QS := Lib.hid (quant_some x p)
  have QN := Lib.hid (quant_none x p)
  obtain ⟨t8, ht8⟩ : ∃ t8, t8 = Qm.tot x 8 := ⟨_, rfl⟩
  rw [← ht8] at TA bt QO QS QN
  have HT8 := Lib.hid ht8
  obtain ⟨x0, x1, x2, x3, x4, x5, x6, x7, x8, x9, hxx, hat⟩ := Cv_ex8 x
  have HAT := Lib.hid hat
  rw [hxx] at TA ⊢
  have IX := Lib.hid (idx8 x2 x3 x4 x5 x6 x7 x8 x9)
  have HTL := Lib.hid T
  have HB := Lib.hid ((Below.refl w.heap.size w).alloc (Nat.le_refl _) (.cells #[.int .i64 x0, .int .i64 x1, .int .i64 x2, .int .i64 x3, .int .i64 x4, .int .i64 x5, .int .i64 x6, .int .i64 x7, .int .i64 x8, .int .i64 x9] 46))
  have hz : (w.alloc (.cells #[.int .i64 x0, .int .i64 x1, .int .i64 x2, .int .i64 x3, .int .i64 x4, .int .i64 x5, .int .i64 x6, .int .i64 x7, .int .i64 x8, .int .i64 x9] 46)).heap.size = w.heap.size + 1 := by simp
  have HTL2 := Lib.hid (T.alloc (.cells #[.int .i64 x0, .int .i64 x1, .int .i64 x2, .int .i64 x3, .int .i64 x4, .int .i64 x5, .int .i64 x6, .int .i64 x7, .int .i64 x8, .int .i64 x9] 46))
  have HZ := Lib.hid hz
  clear hx hxx hat ht8 T hz
  have hc : ((t8 == 0) = true ∧ t8 = 0) ∨ ((t8 == 0) = false ∧ t8 ≠ 0 ∧ p < 0) ∨ ((t8 == 0) = false ∧ t8 ≠ 0 ∧ 1000 < p) ∨ ((t8 == 0) = false ∧ t8 ≠ 0 ∧ 0 ≤ p ∧ p ≤ 1000) := by
    by_cases h : t8 = 0
    · exact Or.inl ⟨by simpa using h, h⟩
    · have h2 : (t8 == 0) = false := by simpa using h
      by_cases h3 : p < 0
      · exact Or.inr (Or.inl ⟨h2, h, h3⟩)
      · by_cases h4 : 1000 < p
        · exact Or.inr (Or.inr (Or.inl ⟨h2, h, h4⟩))
        · exact Or.inr (Or.inr (Or.inr ⟨h2, h, by omega, by omega⟩))
  have c1s : ∀ (W : World) (hb : Below (w.alloc (.cells #[.int .i64 x0, .int .i64 x1, .int .i64 x2, .int .i64 x3, .int .i64 x4, .int .i64 x5, .int .i64 x6, .int .i64 x7, .int .i64 x8, .int .i64 x9] 46)).heap.size (w.alloc (.cells #[.int .i64 x0, .int .i64 x1, .int .i64 x2, .int .i64 x3, .int .i64 x4, .int .i64 x5, .int .i64 x6, .int .i64 x7, .int .i64 x8, .int .i64 x9] 46)) W), Hid (Below w.heap.size w W ∧ Lows W) := fun W hb => Lib.hid ⟨HB.out.trans (hb.mono (by simp)), HTL2.out.below hb HTL2.out.lt⟩
  have CS := Lib.hid c1s
  clear c1s
  rcases hc with ⟨hq, h⟩ | ⟨hq, h, h1⟩ | ⟨hq, h, h1⟩ | ⟨hq, h, h1, h2⟩
  · have HQ := Lib.hid (HG.out _ (QO.out (Or.inl h)))
    clear h
    go_enter Tryd.func41, Tryd.ntmps41
    go_wp2_with (go_at_call 43; refine (TA _).out.mono ?_; rintro e w1 ⟨rfl, hb1⟩; have H1 := CS.out _ hb1; clear hb1)
    go_ret2
    exact ⟨HQ.out, H1.out.1⟩
  · have HQ := Lib.hid (HG.out _ (QO.out (Or.inr (Or.inl h1))))
    clear h
    go_enter Tryd.func41, Tryd.ntmps41
    go_wp2_with (go_at_call 43; refine (TA _).out.mono ?_; rintro e w1 ⟨rfl, hb1⟩; have H1 := CS.out _ hb1; clear hb1)
    go_ret2
    exact ⟨HQ.out, H1.out.1⟩
  · have HQ := Lib.hid (HG.out _ (QO.out (Or.inr (Or.inr h1))))
    have h0 : ¬ p < 0 := by omega
    clear h
    go_enter Tryd.func41, Tryd.ntmps41
    go_wp2_with (go_at_call 43; refine (TA _).out.mono ?_; rintro e w1 ⟨rfl, hb1⟩; have H1 := CS.out _ hb1; clear hb1)
    go_ret2
    exact ⟨HQ.out, H1.out.1⟩
  · have HN : Hid (¬ (t8 = 0 ∨ p < 0 ∨ 1000 < p)) := Lib.hid (by omega)
    have h0 : ¬ p < 0 := by omega
    have h3 : ¬ 1000 < p := by omega
    clear h
    go_enter Tryd.func41, Tryd.ntmps41
    go_wp2_with (go_at_call 43; refine (TA _).out.mono ?_; rintro e w1 ⟨rfl, hb1⟩; have H1 := CS.out _ hb1; have hcell := (bcell8 hb1).1; clear hb1)
    clear hq TA
    go_loop [7, 8, 9, 24] (fun n _ _ i => ∃ k : Nat, k ≤ 8 ∧ i = .int .i64 k ∧ n = .int .i64 (Qm.tot x k) ∧ Hid (Qm.first x p 0 8 = Qm.first x p k (8 - k))) (fun _ _ _ i => 8 - (intOf i).toNat)
    case atStart => exact ⟨0, by omega, rfl, rfl, Lib.hid rfl⟩
    case round =>
      obtain ⟨k, hk, rfl, rfl, KF⟩ := hrel
      clear hcell
      by_cases hlt : k < 8
      · have ix := fun W => IX.out k hlt W
        rw [← HAT.out k hlt] at ix
        have b1 := BD.out k
        have b3 := BD.out (k + 1)
        have b2 := OX.out (2 + k)
        have PL := fun W => Lib.hid (plus_any (Qm.tot x k) (x.getD (2 + k) 0) W (by omega) b1.2 b2.1 b2.2)
        have HS : Hid (Qm.tot x (k + 1) = Bm.plus (Qm.tot x k) (x.getD (2 + k) 0)) := rfl
        rw [← HS.out] at PL
        have cl := H1.out.2 k hlt
        have HH : Hid (Qm.hit x p k = (decide (1 ≤ Qm.tot x (k + 1)) && Qm.atl (Qm.tot x (k + 1)) 1000 t8 p)) := by show _ = _; rw [HT8.out]; rfl
        have FS : Hid (Qm.hit x p k = true → Qm.first x p 0 8 = some k) := Lib.hid (fun h => by rw [KF.out, show 8 - k = (8 - (k + 1)) + 1 from by omega]; exact Qm.first_step_hit x p k _ h)
        have FN : Hid (Qm.hit x p k = false → Qm.first x p 0 8 = Qm.first x p (k + 1) (8 - (k + 1))) := Lib.hid (fun h => by rw [KF.out, show 8 - k = (8 - (k + 1)) + 1 from by omega]; exact Qm.first_step_no x p k _ h)
        have QK := Lib.hid (fun hf => HG.out _ (QS.out k HN.out hf))
        generalize hnn : Qm.tot x (k + 1) = nn at *
        have HNN := Lib.hid hnn
        clear hnn
        have AT := fun W => Lib.hid (atleast_any nn 1000 t8 p b3.1 b3.2 (by omega) (by omega) bt.1 bt.2 h1 (by omega) W)
        generalize x.getD (2 + k) 0 = xk at *
        generalize Qm.lows.getD k 0 = lk at *
        have CL := Lib.hid cl
        have ik0 : (0 : Int) ≤ (k : Int) := by omega
        have ik1 : (k : Int) < 8 := by omega
        clear cl
        have cl : w1.cell? ⟨0, k, none⟩ = some (.int .i64 lk) := CL.out
        have hc : nn < 1 ∨ (1 ≤ nn ∧ Qm.atl nn 1000 t8 p = true) ∨ (1 ≤ nn ∧ Qm.atl nn 1000 t8 p = false) := by
          cases Qm.atl nn 1000 t8 p
          · by_cases h : nn < 1
            · exact Or.inl h
            · exact Or.inr (Or.inr ⟨by omega, rfl⟩)
          · by_cases h : nn < 1
            · exact Or.inl h
            · exact Or.inr (Or.inl ⟨by omega, rfl⟩)
        rcases hc with hc | ⟨hc, ha⟩ | ⟨hc, ha⟩
        · have KN := Lib.hid (FN.out (by rw [HH.out, decide_eq_false (by omega)]; rfl))
          clear HH FS FN AT
          go_wp2_with (go_at_call 44; refine (PL _).out.mono ?_; rintro e w2 ⟨rfl, rfl⟩)
          go_round
          case rel => exact ⟨k + 1, by omega, by go_num, by rw [HNN.out], KN⟩
          case measure => simp [intOf]; omega
        · have hhit := FS.out (by rw [HH.out, ha, decide_eq_true hc]; rfl)
          have HQ := Lib.hid (QK.out hhit)
          rw [ha] at AT
          clear HH FS FN hhit ha QK
          go_wp2_with (first
            | (go_at_call 44; refine (PL _).out.mono ?_; rintro e w2 ⟨rfl, rfl⟩)
            | (go_at_call 63; refine (AT _).out.mono ?_; rintro e w3 ⟨rfl, rfl⟩))
          go_ret2
          exact ⟨HQ.out, H1.out.1⟩
        · have KN := Lib.hid (FN.out (by rw [HH.out, ha, decide_eq_true hc]; rfl))
          rw [ha] at AT
          clear HH FS FN ha QK
          go_wp2_with (first
            | (go_at_call 44; refine (PL _).out.mono ?_; rintro e w2 ⟨rfl, rfl⟩)
            | (go_at_call 63; refine (AT _).out.mono ?_; rintro e w3 ⟨rfl, rfl⟩))
          go_round
          case rel => exact ⟨k + 1, by omega, by go_num, by rw [HNN.out], KN⟩
          case measure => simp [intOf]; omega
      · obtain rfl : k = 8 := by omega
        have HQ := Lib.hid (HG.out _ (QN.out HN.out (by rw [KF.out]; rfl)))
        go_wp2_with fail
        go_ret2
        exact ⟨HQ.out, H1.out.1⟩
end Go.Proofs.YtkhhcnpmobgdgaaDoor
