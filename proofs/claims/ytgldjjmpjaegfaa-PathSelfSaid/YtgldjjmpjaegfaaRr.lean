/- The document's RightSpan: the same plain function. -/
import Derived.Test.YtgldjjmpjaegfaaRi
namespace Go.Proofs.Ytgldjjmpjaegfaa
open Go.RowKit
set_option linter.unusedVariables false
set_option maxRecDepth 100000

set_option maxHeartbeats 2000000 in
theorem within_any (a b c : Int) (w : World) :
    Calls Try.prog 45 #[.int .i64 a, .int .i64 b, .int .i64 c] w fun e w' => e = .returned (.bool (decide (b ≤ a) && decide (a ≤ c))) ∧ w = w' := by
  by_cases h1 : b ≤ a
  · by_cases h2 : a ≤ c
    · go_enter Try.func45, Try.ntmps45
      go_wp2_with fail
      go_ret
      exact ⟨by simp [h1, h2], rfl⟩
    · go_enter Try.func45, Try.ntmps45
      go_wp2_with fail
      go_ret
      exact ⟨by simp [h2], rfl⟩
  · go_enter Try.func45, Try.ntmps45
    go_wp2_with fail
    go_ret
    exact ⟨by simp; intro h; omega, rfl⟩
theorem nameB_within (s : ByteArray) : (decide ((1 : Int) ≤ (s.size : Int)) && decide ((s.size : Int) ≤ 16)) = nameB s := by
  unfold nameB
  congr 1 <;> exact decide_eq_decide.2 (by omega)

set_option maxHeartbeats 16000000 in
theorem rightspan_lit (x0 x1 x2 x3 : Int) (x4 x5 : ByteArray) (x6 x7 : Int) (x8 : Bool) (ats : List (ByteArray × ByteArray)) (xA : Option Addr) (xc n B : Nat) (w : World) (hn : n = ats.length) (hy : RdL w B ⟨⟨x0, x1, x2, x3, x4, x5, x6, x7, x8, ats⟩, xA, xc⟩) (hB : B ≤ w.heap.size) :
    Calls Try.prog 36 #[.agg #[.int .u64 x0, .int .u64 x1, .int .u64 x2, .int .u64 x3, .string x4, .string x5, .int .i64 x6, .int .i64 x7, .bool x8, .slice xA n xc]] w fun e w' => e = .returned (.bool (right ⟨x0, x1, x2, x3, x4, x5, x6, x7, x8, ats⟩)) ∧ Below w.heap.size w w' := by
  have HF : Hid (right ⟨x0, x1, x2, x3, x4, x5, x6, x7, x8, ats⟩ = (nameB x4 && (nameB x5 && (decide (0 ≤ x6) && (decide (x6 ≤ 1099511627776) && (decide (0 ≤ x7) && (decide (x7 ≤ 1073741824) && rightAts ats))))))) := rfl
  generalize right ⟨x0, x1, x2, x3, x4, x5, x6, x7, x8, ats⟩ = b at *
  have hst := hy.ok.st
  have hdu := hy.ok.du
  simp only at hst hdu
  have s4 := hy.ok.sv
  have s5 := hy.ok.op
  simp only [maxLen] at s4 s5
  have HW := Lib.hid ((Below.refl w.heap.size w).alloc (Nat.le_refl _) (.cells #[.int .u64 x0, .int .u64 x1, .int .u64 x2, .int .u64 x3, .string x4, .string x5, .int .i64 x6, .int .i64 x7, .bool x8, .slice xA n xc] 34))
  have hcap := hy.cap
  simp only [maxLen] at hcap
  rw [← hn] at hcap
  obtain ⟨hcap1, hcap2⟩ := hcap
  have HRD := Lib.hid (hy.rd.alloc hB (.cells #[.int .u64 x0, .int .u64 x1, .int .u64 x2, .int .u64 x3, .string x4, .string x5, .int .i64 x6, .int .i64 x7, .bool x8, .slice xA n xc] 34))
  have HAS := Lib.hid hy.ok.ats.2
  have HX := Lib.hid (heap_alloc_new w (.cells #[.int .u64 x0, .int .u64 x1, .int .u64 x2, .int .u64 x3, .string x4, .string x5, .int .i64 x6, .int .i64 x7, .bool x8, .slice xA n xc] 34))
  have N1 := fun W => Lib.hid (nameB_within x4 ▸ within_any x4.size 1 16 W)
  have N2 := fun W => Lib.hid (nameB_within x5 ▸ within_any x5.size 1 16 W)
  have N3 := fun W => Lib.hid (within_any x6 0 1099511627776 W)
  have N4 := fun W => Lib.hid (within_any x7 0 1073741824 W)
  have HN := Lib.hid hn
  have HRA : Hid (rightAts ats = (decide (n ≤ 4) && (List.range n).all (okAt ats))) := Lib.hid (by rw [hn]; rfl)
  clear hy hn
  have hcc : nameB x4 = false ∨ (nameB x4 = true ∧ nameB x5 = false) ∨ ((nameB x4 = true ∧ nameB x5 = true) ∧ (decide (0 ≤ x6) && decide (x6 ≤ 1099511627776)) = false) ∨ ((nameB x4 = true ∧ nameB x5 = true) ∧ (decide (0 ≤ x6) && decide (x6 ≤ 1099511627776)) = true ∧ (decide (0 ≤ x7) && decide (x7 ≤ 1073741824)) = false) ∨ ((nameB x4 = true ∧ nameB x5 = true) ∧ (decide (0 ≤ x6) && decide (x6 ≤ 1099511627776)) = true ∧ (decide (0 ≤ x7) && decide (x7 ≤ 1073741824)) = true) := by
    cases nameB x4 <;> cases nameB x5 <;> cases (decide (0 ≤ x6) && decide (x6 ≤ 1099511627776)) <;> cases (decide (0 ≤ x7) && decide (x7 ≤ 1073741824)) <;> simp
  rcases hcc with g1 | ⟨g1, g2⟩ | ⟨⟨g1, g2⟩, g3⟩ | ⟨⟨g1, g2⟩, g3, g4⟩ | ⟨⟨g1, g2⟩, g3, g4⟩
  · have HQ : Hid (b = false) := Lib.hid (by rw [HF.out]; simp [g1])
    rw [g1] at N1
    clear HF g1
    go_enter Try.func36, Try.ntmps36
    go_wp2_with (first | (go_at_call 45; (with_reducible refine (N1 _).out.mono ?_); rintro e w1 ⟨rfl, rfl⟩) | (go_at_call 45; (with_reducible refine (N2 _).out.mono ?_); rintro e w1 ⟨rfl, rfl⟩) | (go_at_call 45; (with_reducible refine (N3 _).out.mono ?_); rintro e w1 ⟨rfl, rfl⟩) | (go_at_call 45; (with_reducible refine (N4 _).out.mono ?_); rintro e w1 ⟨rfl, rfl⟩))
    go_ret
    exact ⟨by rw [HQ.out] <;> rfl, HW.out⟩
  · have HQ : Hid (b = false) := Lib.hid (by rw [HF.out]; simp [g1, g2])
    rw [g1] at N1
    rw [g2] at N2
    clear HF g1 g2
    go_enter Try.func36, Try.ntmps36
    go_wp2_with (first | (go_at_call 45; (with_reducible refine (N1 _).out.mono ?_); rintro e w1 ⟨rfl, rfl⟩) | (go_at_call 45; (with_reducible refine (N2 _).out.mono ?_); rintro e w1 ⟨rfl, rfl⟩) | (go_at_call 45; (with_reducible refine (N3 _).out.mono ?_); rintro e w1 ⟨rfl, rfl⟩) | (go_at_call 45; (with_reducible refine (N4 _).out.mono ?_); rintro e w1 ⟨rfl, rfl⟩))
    go_ret
    exact ⟨by rw [HQ.out] <;> rfl, HW.out⟩
  · have HQ : Hid (b = false) := Lib.hid (by rw [HF.out, g1, g2]; simp only [Bool.true_and]; rw [← Bool.and_assoc, g3]; rfl)
    rw [g1] at N1
    rw [g2] at N2
    rw [g3] at N3
    clear HF g1 g2 g3
    go_enter Try.func36, Try.ntmps36
    go_wp2_with (first | (go_at_call 45; (with_reducible refine (N1 _).out.mono ?_); rintro e w1 ⟨rfl, rfl⟩) | (go_at_call 45; (with_reducible refine (N2 _).out.mono ?_); rintro e w1 ⟨rfl, rfl⟩) | (go_at_call 45; (with_reducible refine (N3 _).out.mono ?_); rintro e w1 ⟨rfl, rfl⟩) | (go_at_call 45; (with_reducible refine (N4 _).out.mono ?_); rintro e w1 ⟨rfl, rfl⟩))
    go_ret
    exact ⟨by rw [HQ.out] <;> rfl, HW.out⟩
  · have HQ : Hid (b = false) := Lib.hid (by rw [HF.out, g1, g2]; simp only [Bool.true_and]; rw [← Bool.and_assoc, g3]; simp only [Bool.true_and]; rw [← Bool.and_assoc, g4]; rfl)
    rw [g1] at N1
    rw [g2] at N2
    rw [g3] at N3
    rw [g4] at N4
    clear HF g1 g2 g3 g4
    go_enter Try.func36, Try.ntmps36
    go_wp2_with (first | (go_at_call 45; (with_reducible refine (N1 _).out.mono ?_); rintro e w1 ⟨rfl, rfl⟩) | (go_at_call 45; (with_reducible refine (N2 _).out.mono ?_); rintro e w1 ⟨rfl, rfl⟩) | (go_at_call 45; (with_reducible refine (N3 _).out.mono ?_); rintro e w1 ⟨rfl, rfl⟩) | (go_at_call 45; (with_reducible refine (N4 _).out.mono ?_); rintro e w1 ⟨rfl, rfl⟩))
    go_ret
    exact ⟨by rw [HQ.out] <;> rfl, HW.out⟩
  · have HQ : Hid (b = rightAts ats) := Lib.hid (by rw [HF.out, g1, g2]; simp only [Bool.true_and]; rw [← Bool.and_assoc, g3]; simp only [Bool.true_and]; rw [← Bool.and_assoc, g4]; simp only [Bool.true_and])
    rw [g1] at N1
    rw [g2] at N2
    rw [g3] at N3
    rw [g4] at N4
    clear HF g1 g2 g3 g4
    have hc4 : 4 < n ∨ n ≤ 4 := by omega
    rcases hc4 with h4 | h4
    · have HQ2 : Hid (b = false) := Lib.hid (by rw [HQ.out, HRA.out, decide_eq_false (by omega)]; rfl)
      go_enter Try.func36, Try.ntmps36
      go_wp2_with (first | (go_at_call 45; (with_reducible refine (N1 _).out.mono ?_); rintro e w1 ⟨rfl, rfl⟩) | (go_at_call 45; (with_reducible refine (N2 _).out.mono ?_); rintro e w1 ⟨rfl, rfl⟩) | (go_at_call 45; (with_reducible refine (N3 _).out.mono ?_); rintro e w1 ⟨rfl, rfl⟩) | (go_at_call 45; (with_reducible refine (N4 _).out.mono ?_); rintro e w1 ⟨rfl, rfl⟩))
      go_ret
      exact ⟨by rw [HQ2.out] <;> rfl, HW.out⟩
    have HQ2 : Hid (b = (List.range n).all (okAt ats)) := Lib.hid (by rw [HQ.out, HRA.out, decide_eq_true h4]; rfl)
    go_enter Try.func36, Try.ntmps36
    go_wp2_with (first | (go_at_call 45; (with_reducible refine (N1 _).out.mono ?_); rintro e w1 ⟨rfl, rfl⟩) | (go_at_call 45; (with_reducible refine (N2 _).out.mono ?_); rintro e w1 ⟨rfl, rfl⟩) | (go_at_call 45; (with_reducible refine (N3 _).out.mono ?_); rintro e w1 ⟨rfl, rfl⟩) | (go_at_call 45; (with_reducible refine (N4 _).out.mono ?_); rintro e w1 ⟨rfl, rfl⟩))
    generalize w.alloc (.cells #[.int .u64 x0, .int .u64 x1, .int .u64 x2, .int .u64 x3, .string x4, .string x5, .int .i64 x6, .int .i64 x7, .bool x8, .slice xA n xc] 34) = W at *
    generalize hB0 : w.heap.size = B0 at *
    have HB0 := Lib.hid hB0
    clear hB0 N1 N2 N3 N4
    go_loopw [3] (fun i wr => ∃ k : Nat, i = .int .i64 k ∧ k ≤ n ∧ Hid ((List.range k).all (okAt ats) = true) ∧ Hid (∀ p, wr.cell? p = W.cell? p) ∧ Hid (Below B0 w wr)) (fun i _ => n - (intOf i).toNat)
    case atStart => exact ⟨0, rfl, Nat.zero_le _, Lib.hid (by simp), Lib.hid (fun _ => rfl), HW⟩
    case round =>
      obtain ⟨k, rfl, hk, HK, HC, HB⟩ := hrel
      have b9 : wr.cell? ⟨B0, 9, none⟩ = some (.slice xA n xc) := (HC.out _).trans (cell_of_row _ _ 9 _ _ (0, 0) HX.out)
      by_cases hlt : k < n
      · obtain ⟨x, hx⟩ : ∃ x, ats[k]? = some x := ⟨_, List.getElem?_eq_getElem (by rw [← HN.out]; exact hlt)⟩
        obtain ⟨a, ha, hab, hc⟩ := HRD.out (by rw [flatMap_len _ 2 atC_len]; (try simp only); rw [← HN.out]; omega)
        (try simp only at ha)
        subst ha
        have g0 := flatMap_at atC 2 atC_len ats k 0 (by omega)
        have g1 := flatMap_at atC 2 atC_len ats k 1 (by omega)
        rw [hx] at g0 g1
        obtain ⟨s1, s2⟩ := HAS.out x (List.mem_of_getElem? hx)
        have hok : okAt ats k = (nameB x.1 && decide (x.2.size ≤ 16) && !hasKeyB (ats.take k) x.1) := by unfold okAt; rw [hx]
        obtain ⟨y1, y2⟩ := x
        simp only [maxLen] at s1 s2
        simp only at hok
        have c0 : wr.cell? (a.add (k * 2)) = some (.string y1) := (HC.out _).trans (hc (k * 2) _ g0)
        have c1 : wr.cell? ⟨(a.add (k * 2)).block, (a.add (k * 2)).off + 1, none⟩ = some (.string y2) := (HC.out _).trans (cell_far (hc (k * 2 + 1) _ g1) (by omega))
        have HCC := Lib.hid hc
        have HOK := Lib.hid hok
        have NM := fun W => Lib.hid (nameB_within y1 ▸ within_any y1.size 1 16 W)
        have HG0 := Lib.hid g0
        clear g0 g1 hc hx hok
        cases hn1 : nameB y1
        · have HO : Hid ((List.range n).all (okAt ats) = false) := Lib.hid (range_all_not hlt (by rw [HOK.out, hn1]; rfl))
          rw [hn1] at NM
          clear hn1
          go_wp2_with (go_at_call 45; (with_reducible refine (NM _).out.mono ?_); rintro e w1 ⟨rfl, rfl⟩)
          go_ret
          exact ⟨by rw [HQ2.out, HO.out] <;> rfl, by rw [HB0.out]; exact HB.out⟩
        · rw [hn1] at NM
          have hc2 : 16 < y2.size ∨ y2.size ≤ 16 := by omega
          rcases hc2 with h16 | h16
          · have HO : Hid ((List.range n).all (okAt ats) = false) := Lib.hid (range_all_not hlt (by rw [HOK.out, decide_eq_false (by omega)]; simp))
            clear hn1
            go_wp2_with (go_at_call 45; (with_reducible refine (NM _).out.mono ?_); rintro e w1 ⟨rfl, rfl⟩)
            go_ret
            exact ⟨by rw [HQ2.out, HO.out] <;> rfl, by rw [HB0.out]; exact HB.out⟩
          · have HO : Hid (okAt ats k = !hasKeyB (ats.take k) y1) := Lib.hid (by rw [HOK.out, hn1, decide_eq_true h16]; simp)
            clear hn1
            go_wp2_with (go_at_call 45; (with_reducible refine (NM _).out.mono ?_); rintro e w1 ⟨rfl, rfl⟩)
            generalize wr = wo at *
            go_loopw [4] (fun i wr => ∃ j : Nat, i = .int .i64 j ∧ j ≤ k ∧ Hid (((ats.take j).any fun a => a.1.toList == y1.toList) = false) ∧ Hid (∀ p, wr.cell? p = W.cell? p) ∧ Hid (Below B0 w wr)) (fun i _ => k - (intOf i).toNat)
            case atStart => exact ⟨0, rfl, Nat.zero_le _, Lib.hid (by simp), HC, HB⟩
            case round =>
              clear b9 c0 c1
              obtain ⟨j, rfl, hj, HJ, HC2, HB2⟩ := hrel
              have b9 : wr.cell? ⟨B0, 9, none⟩ = some (.slice (some a) n xc) := (HC2.out _).trans (cell_of_row _ _ 9 _ _ (0, 0) HX.out)
              by_cases hjl : j < k
              · obtain ⟨z, hz⟩ : ∃ z, ats[j]? = some z := ⟨_, List.getElem?_eq_getElem (by rw [← HN.out]; omega)⟩
                have e0 := flatMap_at atC 2 atC_len ats j 0 (by omega)
                rw [hz] at e0
                obtain ⟨z1, z2⟩ := z
                have d0 : wr.cell? (a.add (j * 2)) = some (.string z1) := (HC2.out _).trans (HCC.out (j * 2) _ e0)
                have c0 : wr.cell? (a.add (k * 2)) = some (.string y1) := (HC2.out _).trans (HCC.out (k * 2) _ HG0.out)
                have HZ := Lib.hid hz
                have i1 : (0 : Int) ≤ j := by omega
                have i2 : (j : Int) < n := by omega
                have i3 : (0 : Int) ≤ k := by omega
                have i4 : (k : Int) < n := by omega
                clear e0 hz
                cases hzy : (z1.toList == y1.toList)
                · have HJ2 : Hid (((ats.take (j + 1)).any fun a => a.1.toList == y1.toList) = false) := Lib.hid (by rw [List.take_add_one, HZ.out]; simp only [List.any_append, HJ.out, Option.toList_some, List.any_cons, List.any_nil, hzy]; rfl)
                  go_wp2_with fail
                  go_quiet (fail)
                  go_wp2_with fail
                  go_roundw
                  case rel => exact ⟨j + 1, by go_num, by omega, HJ2, Lib.hid (fun p => HC2.out p), Lib.hid (HB2.out.trans ⟨rfl, rfl, rfl, Nat.le_refl _, fun _ _ => rfl⟩)⟩
                  case measure => simp [intOf]; omega
                · have HO2 : Hid ((List.range n).all (okAt ats) = false) := Lib.hid (range_all_not hlt (by
                    rw [HO.out]
                    have : hasKeyB (ats.take k) y1 = true := by
                      unfold hasKeyB
                      rw [List.any_eq_true]
                      exact ⟨(z1, z2), List.mem_of_getElem? (by rw [List.getElem?_take, if_pos hjl]; exact HZ.out), hzy⟩
                    rw [this]; rfl))
                  go_wp2_with fail
                  go_quiet (fail)
                  go_wp2_with fail
                  go_ret
                  exact ⟨by rw [HQ2.out, HO2.out] <;> rfl, by rw [HB0.out]; exact HB2.out.trans ⟨rfl, rfl, rfl, Nat.le_refl _, fun _ _ => rfl⟩⟩
              · obtain rfl : j = k := by omega
                have HO2 : Hid ((List.range (j + 1)).all (okAt ats) = true) := Lib.hid (range_all_succ HK.out (by rw [HO.out]; unfold hasKeyB; rw [HJ.out]; rfl))
                go_wp2_with fail
                go_roundw
                case rel => exact ⟨j + 1, by go_num, by omega, HO2, HC2, HB2⟩
                case measure => simp [intOf]; omega
      · obtain rfl : k = n := by omega
        have HO : Hid ((List.range k).all (okAt ats) = true) := HK
        go_wp2_with fail
        go_ret
        exact ⟨by rw [HQ2.out, HO.out] <;> rfl, by rw [HB0.out]; exact HB.out⟩
end Go.Proofs.Ytgldjjmpjaegfaa
