/- RollupCounts. -/
import Derived.Test.YtkhhcnpmobgdgaaDoorYn
import Derived.Test.YtkhhcnpmobgdgaaDoorFew
import Derived.Test.YtkhhcnpmobgdgaaDoorRr
import Derived.Test.YtkhhcnpmobgdgaaDoorAdr8
namespace Go.Proofs.YtkhhcnpmobgdgaaDoor
open Go.RowKit
set_option linter.unusedVariables false
set_option linter.unusedSimpArgs false
set_option maxRecDepth 100000

theorem mt_iff {K : Ky} (h : Wm.isLevel K.lv) (s : Sp) : mt K s = (right s && (decide (s.sv = K.sv) && (decide (s.op = K.op) && decide (Wm.win K.lv s.st = K.win)))) := by
  unfold mt
  congr 1
  by_cases h1 : s.sv = K.sv
  · by_cases h2 : s.op = K.op
    · by_cases h3 : Wm.win K.lv s.st = K.win
      · rw [decide_eq_true h1, decide_eq_true h2, decide_eq_true h3, decide_eq_true ⟨h, Ky.ext' rfl h3 h1 h2⟩]; rfl
      · rw [decide_eq_false h3, decide_eq_false (fun hh => h3 (congrArg Ky.win hh.2))]; simp
    · rw [decide_eq_false h2, decide_eq_false (fun hh => h2 (congrArg Ky.op hh.2))]; simp
  · rw [decide_eq_false h1, decide_eq_false (fun hh => h1 (congrArg Ky.sv hh.2))]; simp
theorem take_count {S : List Sp} (p : Sp → Bool) {k : Nat} {s : Sp} (h : S[k]? = some s) : (S.take (k + 1)).countP p = (S.take k).countP p + if p s = true then 1 else 0 := by
  rw [List.take_add_one, h, List.countP_append]; simp [List.countP_cons]
set_option maxHeartbeats 16000000 in
theorem counts10 (sA : Option Addr) (S : List Ls) (sn sc : Nat) (m : Int) (w : World) (hS : RdSps w w.heap.size sA S) (hsn : sn = S.length) (hsl : sn ≤ maxLen) (T : Bnds w) (TL : Lens w) :
    Calls Tryd.prog 6 #[.slice sA sn sc, .int .i64 m] w fun e w' => e = .returned (.bool true) ∧ Below w.heap.size w w' := by
  obtain ⟨base, hbase⟩ : ∃ base, base = w.heap.size := ⟨_, rfl⟩
  have HT : Hid (Bnds w ∧ Lens w ∧ 4 < base ∧ 1 < base) := ⟨T, TL, by rw [hbase]; exact T.lt, by rw [hbase]; exact TL.lt⟩
  rw [← hbase] at hS ⊢
  have HSs := Lib.hid hS
  have HSN := Lib.hid hsn
  have HBASE := Lib.hid hbase
  have AL := fun (W : World) (h : Below base w W) => Lib.hid (alive10_calls W (HT.out.1.below h HT.out.2.2.1) (HT.out.2.1.below h HT.out.2.2.2))
  have FE := fun (W : World) (h : Below base w W) => Lib.hid (fewall_any sA S sn sc base W HSN.out (HSs.out.below h) (by have := h.size; have := HBASE.out; omega) hsl)
  have AL0 := AL w (Below.refl _ _)
  clear hS hsn hbase T TL AL
  obtain ⟨fb, hfb⟩ : ∃ fb, fb = fewAll S := ⟨_, rfl⟩
  rw [← hfb] at FE
  have HFB := Lib.hid hfb
  clear hfb
  have hgo : (fb = false ∨ (fb = true ∧ m < 1) ∨ (fb = true ∧ 1 ≤ m ∧ 1000 < m)) ∨ (fb = true ∧ 1 ≤ m ∧ m ≤ 1000) := by
    cases fb
    · exact .inl (.inl rfl)
    · rcases Int.lt_or_le m 1 with h | h
      · exact .inl (.inr (.inl ⟨rfl, h⟩))
      · rcases Int.lt_or_le 1000 m with h2 | h2
        · exact .inl (.inr (.inr ⟨rfl, h, h2⟩))
        · exact .inr ⟨rfl, h, h2⟩
  rcases hgo with hgo | ⟨rfl, hm1, hm2⟩
  · rcases hgo with rfl | ⟨rfl, hm⟩ | ⟨rfl, hm, hm3⟩
    all_goals
      go_enter Tryd.func6, Tryd.ntmps6
      go_wp2_with (first | (go_at_call 20; (with_reducible refine (FE _ (by with_reducible assumption)).out.mono ?_); rintro ex w2 ⟨rfl, hb2⟩; have HB2 := Lib.hid hb2) | (go_at_call 10; (with_reducible refine AL0.out.mono ?_); rintro ex w1 ⟨rfl, hb1⟩; have hbb1 : Below base w w1 := (by rw [HBASE.out]; exact hb1)))
      go_ret
      exact ⟨rfl, hbb1.trans (HB2.out.mono (by have := hbb1.size; have := HBASE.out; omega))⟩
  · have hm64 : m ≤ 9223372036854775807 := by omega
    have hsn60 : sn ≤ 60 := by
      have h := HFB.out
      unfold fewAll at h
      have h2 := (Bool.and_eq_true _ _).mp h.symm
      rw [HSN.out]; exact of_decide_eq_true h2.1
    obtain ⟨X, hX⟩ : ∃ X, X = rowsS (S.map Ls.s) m := ⟨_, rfl⟩
    obtain ⟨xn, hxn⟩ : ∃ xn, xn = X.length := ⟨_, rfl⟩
    have RW : ∀ (W : World), Below base w W → Hid (Calls Tryd.prog 21 #[.slice sA sn sc, .int .i64 m] W fun e w' => ∃ v', e = .returned v' ∧ w'.ownsRow W.heap.size 48 14 v' xn (X.flatMap Rw.cells) ∧ Below W.heap.size W w') := fun W h => Lib.hid (by
      have h1 := rows_any sA S sn sc base m W (HSs.out.below h) HSN.out (by have := h.size; have := HBASE.out; omega) (HT.out.1.below h HT.out.2.2.1) (HT.out.2.1.below h HT.out.2.2.2) hm64 (by omega)
      rw [← hX, ← hxn] at h1
      exact h1)
    have HX := Lib.hid hX
    have HXN := Lib.hid hxn
    have HXL := Lib.hid (show xn ≤ 180 from by
      rw [hxn, hX]
      have : ∀ R : List Sp, (rowsS R.reverse m).length ≤ 3 * R.length := by
        intro R
        induction R with
        | nil => exact Nat.le_refl _
        | cons s R ih => rw [List.reverse_cons, rowsS_snoc]; have := addS_len (rowsS R.reverse m) s m; rw [List.length_cons]; omega
      have h := this (S.map Ls.s).reverse
      rw [List.reverse_reverse, List.length_reverse, List.length_map, ← HSN.out] at h
      omega)
    clear hX hxn
    go_enter Tryd.func6, Tryd.ntmps6
    go_upto_region 4 with (first | (go_at_call 20; (with_reducible refine (FE _ (by with_reducible assumption)).out.mono ?_); rintro ex w2 ⟨rfl, hb2⟩; have HB2 := Lib.hid hb2) | (go_at_call 10; (with_reducible refine AL0.out.mono ?_); rintro ex w1 ⟨rfl, hb1⟩; have hbb1 : Below base w w1 := (by rw [HBASE.out]; exact hb1)))
    have HB2 := Lib.hid (hbb1.trans (HB2.out.mono (by have := hbb1.size; have := HBASE.out; omega)))
    have RW2 := RW w2 HB2.out
    clear RW FE AL0 hbb1 hb1 hb2
    go_upto_region 6 with (go_at_call 21; (with_reducible refine RW2.out.mono ?_); rintro ex w4 ⟨v4, rfl, ho4, hb4⟩; have HO4 := Lib.hid ho4; have HB4 := Lib.hid (HB2.out.trans (hb4.mono (by have := HB2.out.size; have := HBASE.out; omega))); clear ho4 hb4)
    obtain ⟨A4, c4, rfl, _, hrd4⟩ := own_rd HO4.out
    have HRD := Lib.hid hrd4
    have HBS4 := Lib.hid (show base ≤ w4.heap.size from by have := HB4.out.size; have := HBASE.out; omega)
    clear hrd4 RW2 HB2 HO4
    go_loopw [7] (fun i wr => ∃ k : Nat, i = .int .i64 k ∧ k ≤ xn ∧ Hid (Below w4.heap.size w4 wr)) (fun i _ => xn - (intOf i).toNat)
    case atStart => exact ⟨0, rfl, Nat.zero_le _, Lib.hid (Below.refl _ _)⟩
    case round =>
      obtain ⟨i, rfl, hi, HWO⟩ := hrel
      by_cases hlt : i < xn
      · obtain ⟨r, hr⟩ : ∃ r, X[i]? = some r := ⟨_, List.getElem?_eq_getElem (by rw [← HXN.out]; exact hlt)⟩
        have hrm : r ∈ rowsS (S.map Ls.s) m := by rw [← HX.out]; exact List.mem_of_getElem? hr
        have HKL := Lib.hid (rows_level m hm64 hrm).1
        obtain ⟨hany, hct⟩ := rows_mem m hm64 hrm
        obtain ⟨K, hK⟩ : ∃ K, K = r.k := ⟨_, rfl⟩
        have HR := Lib.hid hr
        rw [← hK] at HKL hany hct
        have HANY := Lib.hid hany
        have HCT := Lib.hid hct
        have HKE := Lib.hid hK
        have HIX := Lib.hid hlt
        have ii0 : (0 : Int) ≤ (i : Int) := by omega
        have ii1 : (i : Int) < (xn : Int) := by omega
        have ii2 : (xn : Int) ≤ 180 := by have := HXL.out; omega
        clear hr hrm hany hct hK hlt hi
        go_upto_region 11 with fail
        go_loopw [8, 9, 10] (fun n e k wr' => ∃ (kk nn ee : Nat), k = .int .i64 kk ∧ kk ≤ sn ∧ n = .int .i64 nn ∧ e = .int .i64 ee ∧ Hid (nn = ((S.map Ls.s).take kk).countP (mt K)) ∧ Hid (ee = ((S.map Ls.s).take kk).countP (fun s => mt K s && s.er)) ∧ Hid (Below w4.heap.size w4 wr')) (fun _ _ k _ => sn - (intOf k).toNat)
        case atStart => exact ⟨0, 0, 0, rfl, Nat.zero_le _, rfl, rfl, Lib.hid rfl, Lib.hid rfl, HWO⟩
        clear HWO
        case round =>
          obtain ⟨k, nn, ee, rfl, hk, rfl, rfl, HNN, HEE, HW⟩ := hrel
          obtain ⟨ax, hax, habx, xz0, xz1, xz2, xz3, xz4, xz5, _, _, _, _, _, _, _, _⟩ := row_cells (HRD.out.below HW.out) HR.out
          subst hax
          have k0 : wr.cell? (ax.add (i * 14)) = some (.int .i64 K.lv) := by rw [HKE.out]; exact xz0
          have k1 : wr.cell? ⟨(ax.add (i * 14)).block, (ax.add (i * 14)).off + 1, none⟩ = some (.int .i64 K.win) := by rw [HKE.out]; exact xz1
          have k2 : wr.cell? ⟨(ax.add (i * 14)).block, (ax.add (i * 14)).off + 2, none⟩ = some (.string K.sv) := by rw [HKE.out]; exact xz2
          have k3 : wr.cell? ⟨(ax.add (i * 14)).block, (ax.add (i * 14)).off + 3, none⟩ = some (.string K.op) := by rw [HKE.out]; exact xz3
          have kk2 : (sn : Int) ≤ 60 := by omega
          clear xz0 xz1 xz2 xz3
          by_cases hlt : k < sn
          · obtain ⟨y, hy⟩ : ∃ y, S[k]? = some y := ⟨_, List.getElem?_eq_getElem (by rw [← HSN.out]; exact hlt)⟩
            have hyS : (S.map Ls.s)[k]? = some y.s := by rw [List.getElem?_map, hy]; rfl
            have HTK := Lib.hid (take_count (mt K) hyS)
            have HTE := Lib.hid (take_count (fun s => mt K s && s.er) hyS)
            obtain ⟨a, ha, hab, hcc, hyd⟩ := (HSs.out.below (HB4.out.trans (HW.out.mono HBS4.out))).at_ hy
            subst ha
            obtain ⟨⟨x0, x1, x2, x3, x4, x5, x6, x7, x8, ats⟩, xA, xc⟩ := y
            obtain ⟨yn, hyn⟩ : ∃ yn, yn = ats.length := ⟨_, rfl⟩
            have d0 : wr.cell? (a.add (k * 10)) = some (.int .u64 x0) := hcc 0 _ rfl
            have d1 : wr.cell? ⟨(a.add (k * 10)).block, (a.add (k * 10)).off + 1, none⟩ = some (.int .u64 x1) := cell_far (hcc 1 _ rfl) (by decide)
            have d2 : wr.cell? ⟨(a.add (k * 10)).block, (a.add (k * 10)).off + 2, none⟩ = some (.int .u64 x2) := cell_far (hcc 2 _ rfl) (by decide)
            have d3 : wr.cell? ⟨(a.add (k * 10)).block, (a.add (k * 10)).off + 3, none⟩ = some (.int .u64 x3) := cell_far (hcc 3 _ rfl) (by decide)
            have d4 : wr.cell? ⟨(a.add (k * 10)).block, (a.add (k * 10)).off + 4, none⟩ = some (.string x4) := cell_far (hcc 4 _ rfl) (by decide)
            have d5 : wr.cell? ⟨(a.add (k * 10)).block, (a.add (k * 10)).off + 5, none⟩ = some (.string x5) := cell_far (hcc 5 _ rfl) (by decide)
            have d6 : wr.cell? ⟨(a.add (k * 10)).block, (a.add (k * 10)).off + 6, none⟩ = some (.int .i64 x6) := cell_far (hcc 6 _ rfl) (by decide)
            have d7 : wr.cell? ⟨(a.add (k * 10)).block, (a.add (k * 10)).off + 7, none⟩ = some (.int .i64 x7) := cell_far (hcc 7 _ rfl) (by decide)
            have d8 : wr.cell? ⟨(a.add (k * 10)).block, (a.add (k * 10)).off + 8, none⟩ = some (.bool x8) := cell_far (hcc 8 _ rfl) (by decide)
            have d9 : wr.cell? ⟨(a.add (k * 10)).block, (a.add (k * 10)).off + 9, none⟩ = some (.slice xA yn xc) := by rw [hyn]; exact cell_far (hcc 9 _ rfl) (by decide)
            have HYR := Lib.hid hyd
            have HYN := Lib.hid hyn
            have HSZ := Lib.hid (show base ≤ wr.heap.size from by have := HW.out.size; have := HBS4.out; omega)
            have RS0 := fun (p : NowB wr) => Lib.hid (rightspan_lit x0 x1 x2 x3 x4 x5 x6 x7 x8 ats xA xc yn base p.W HYN.out (HYR.out.below (p.h.mono HSZ.out)) (by have := p.h.size; have := HSZ.out; omega))
            have WN := fun (W : World) => Lib.hid (window_any K.lv x6 W)
            obtain ⟨rb, hrb⟩ : ∃ rb, rb = right ⟨x0, x1, x2, x3, x4, x5, x6, x7, x8, ats⟩ := ⟨_, rfl⟩
            rw [← hrb] at RS0
            have RS := RS0
            have HRB := Lib.hid hrb
            have HLT := Lib.hid hlt
            have jj0 : (0 : Int) ≤ (k : Int) := by omega
            have jj1 : (k : Int) < (sn : Int) := by omega
            clear hcc hyd hyn hab hyS hy hrb RS0 hlt hk
            obtain ⟨klv, kwi, ksv, kop⟩ := K
            simp only at k0 k1 k2 k3 WN
            obtain ⟨wv, hwv⟩ : ∃ wv, wv = Wm.win klv x6 := ⟨_, rfl⟩
            rw [← hwv] at WN
            have HWV := Lib.hid hwv
            clear hwv
            cases rb
            · have HMT := Lib.hid (show mt ⟨klv, kwi, ksv, kop⟩ ⟨x0, x1, x2, x3, x4, x5, x6, x7, x8, ats⟩ = false from by rw [mt_iff HKL.out, ← HRB.out]; rfl)
              clear xz4 xz5
              go_wp2_with fail
              have n0 := fun p : NowB wr => p.cell d0
              have n1 := fun p : NowB wr => p.cell d1
              have n2 := fun p : NowB wr => p.cell d2
              have n3 := fun p : NowB wr => p.cell d3
              have n4 := fun p : NowB wr => p.cell d4
              have n5 := fun p : NowB wr => p.cell d5
              have n6 := fun p : NowB wr => p.cell d6
              have n7 := fun p : NowB wr => p.cell d7
              have n8 := fun p : NowB wr => p.cell d8
              have n9 := fun p : NowB wr => p.cell d9
              have m0 := fun p : NowB wr => p.cell k0
              have m1 := fun p : NowB wr => p.cell k1
              have m2 := fun p : NowB wr => p.cell k2
              have m3 := fun p : NowB wr => p.cell k3
              clear d0 d1 d2 d3 d4 d5 d6 d7 d8 d9 k0 k1 k2 k3
              refine wp_region_quiet_below (by kernel_rfl) (by kernel_rfl) ?_
              repeat (go_big_quiet_step ((first | (go_at_call 25; with_reducible exact Calls.now_same' (WN _).out) | (go_at_call 24; with_reducible exact Calls.now_of (RS _).out))))
              refine wpQuiet_nil ?_
              intro _ hw'
              obtain ⟨pp, hw''⟩ := hw'
              subst hw''
              have HB9 := Lib.hid (HW.out.trans (pp.h.mono HW.out.size))
              have HP9 := Lib.hid pp.h
              generalize pp.W = w9 at *
              go_wp2_with fail
              go_roundw
              case rel => exact ⟨k + 1, nn, ee, by go_num, HLT.out, rfl, rfl, Lib.hid (by rw [HTK.out, HMT.out]; simpa using HNN.out), Lib.hid (by rw [HTE.out, HMT.out]; simpa using HEE.out), HB9⟩
              case measure => have := HLT.out; simp [intOf]; omega

            · by_cases h1 : x4 = ksv
              · by_cases h2 : x5 = kop
                · by_cases h3 : wv = kwi
                  · have HMT := Lib.hid (show mt ⟨klv, kwi, ksv, kop⟩ ⟨x0, x1, x2, x3, x4, x5, x6, x7, x8, ats⟩ = true from by rw [mt_iff HKL.out, ← HRB.out]; simp only [← HWV.out]; simp [h1, h2, h3])
                    subst h1
                    subst h2
                    subst h3
                    clear xz4 xz5
                    go_wp2_with fail
                    have n0 := fun p : NowB wr => p.cell d0
                    have n1 := fun p : NowB wr => p.cell d1
                    have n2 := fun p : NowB wr => p.cell d2
                    have n3 := fun p : NowB wr => p.cell d3
                    have n4 := fun p : NowB wr => p.cell d4
                    have n5 := fun p : NowB wr => p.cell d5
                    have n6 := fun p : NowB wr => p.cell d6
                    have n7 := fun p : NowB wr => p.cell d7
                    have n8 := fun p : NowB wr => p.cell d8
                    have n9 := fun p : NowB wr => p.cell d9
                    have m0 := fun p : NowB wr => p.cell k0
                    have m1 := fun p : NowB wr => p.cell k1
                    have m2 := fun p : NowB wr => p.cell k2
                    have m3 := fun p : NowB wr => p.cell k3
                    clear d0 d1 d2 d3 d4 d5 d6 d7 d8 d9 k0 k1 k2 k3
                    refine wp_region_quiet_below (by kernel_rfl) (by kernel_rfl) ?_
                    repeat (go_big_quiet_step ((first | (go_at_call 25; with_reducible exact Calls.now_same' (WN _).out) | (go_at_call 24; with_reducible exact Calls.now_of (RS _).out))))
                    refine wpQuiet_nil ?_
                    intro _ hw'
                    obtain ⟨pp, hw''⟩ := hw'
                    subst hw''
                    have HB9 := Lib.hid (HW.out.trans (pp.h.mono HW.out.size))
                    have HP9 := Lib.hid pp.h
                    generalize pp.W = w9 at *
                    have n8 : w9.cell? ⟨(a.add (k * 10)).block, (a.add (k * 10)).off + 8, none⟩ = some (.bool x8) := n8 ⟨w9, HP9.out⟩
                    have nb : Hid (nn ≤ k ∧ ee ≤ k) := Lib.hid ⟨by rw [HNN.out]; exact Nat.le_trans List.countP_le_length (by rw [List.length_take]; omega), by rw [HEE.out]; exact Nat.le_trans List.countP_le_length (by rw [List.length_take]; omega)⟩
                    have nb1 : (nn : Int) ≤ 60 := by have := nb.out; omega
                    have nb2 : (ee : Int) ≤ 60 := by have := nb.out; omega
                    cases x8
                    · go_wp2_with fail
                      go_roundw
                      case rel => exact ⟨k + 1, nn + 1, ee, by go_num, HLT.out, by go_num, rfl, Lib.hid (by rw [HTK.out, HMT.out, ← HNN.out]; rfl), Lib.hid (by rw [HTE.out, HMT.out]; simpa using HEE.out), HB9⟩
                      case measure => have := HLT.out; simp [intOf]; omega
                    · go_wp2_with fail
                      go_roundw
                      case rel => exact ⟨k + 1, nn + 1, ee + 1, by go_num, HLT.out, by go_num, by go_num, Lib.hid (by rw [HTK.out, HMT.out, ← HNN.out]; rfl), Lib.hid (by rw [HTE.out, HMT.out, ← HEE.out]; rfl), HB9⟩
                      case measure => have := HLT.out; simp [intOf]; omega

                  · have g3 : (wv == kwi) = false := beq_eq_false_iff_ne.2 h3
                    have HMT := Lib.hid (show mt ⟨klv, kwi, ksv, kop⟩ ⟨x0, x1, x2, x3, x4, x5, x6, x7, x8, ats⟩ = false from by rw [mt_iff HKL.out, ← HRB.out]; simp only [← HWV.out]; simp [h1, h2, h3])
                    subst h1
                    subst h2
                    clear h3 xz4 xz5
                    go_wp2_with fail
                    have n0 := fun p : NowB wr => p.cell d0
                    have n1 := fun p : NowB wr => p.cell d1
                    have n2 := fun p : NowB wr => p.cell d2
                    have n3 := fun p : NowB wr => p.cell d3
                    have n4 := fun p : NowB wr => p.cell d4
                    have n5 := fun p : NowB wr => p.cell d5
                    have n6 := fun p : NowB wr => p.cell d6
                    have n7 := fun p : NowB wr => p.cell d7
                    have n8 := fun p : NowB wr => p.cell d8
                    have n9 := fun p : NowB wr => p.cell d9
                    have m0 := fun p : NowB wr => p.cell k0
                    have m1 := fun p : NowB wr => p.cell k1
                    have m2 := fun p : NowB wr => p.cell k2
                    have m3 := fun p : NowB wr => p.cell k3
                    clear d0 d1 d2 d3 d4 d5 d6 d7 d8 d9 k0 k1 k2 k3
                    refine wp_region_quiet_below (by kernel_rfl) (by kernel_rfl) ?_
                    repeat (go_big_quiet_step ((first | (go_at_call 25; with_reducible exact Calls.now_same' (WN _).out) | (go_at_call 24; with_reducible exact Calls.now_of (RS _).out))))
                    refine wpQuiet_nil ?_
                    intro _ hw'
                    obtain ⟨pp, hw''⟩ := hw'
                    subst hw''
                    have HB9 := Lib.hid (HW.out.trans (pp.h.mono HW.out.size))
                    have HP9 := Lib.hid pp.h
                    generalize pp.W = w9 at *
                    go_wp2_with fail
                    go_roundw
                    case rel => exact ⟨k + 1, nn, ee, by go_num, HLT.out, rfl, rfl, Lib.hid (by rw [HTK.out, HMT.out]; simpa using HNN.out), Lib.hid (by rw [HTE.out, HMT.out]; simpa using HEE.out), HB9⟩
                    case measure => have := HLT.out; simp [intOf]; omega

                · have g2 : (x5.toList == kop.toList) = false := beq_eq_false_iff_ne.2 (fun h => h2 (stry_inj h))
                  have HMT := Lib.hid (show mt ⟨klv, kwi, ksv, kop⟩ ⟨x0, x1, x2, x3, x4, x5, x6, x7, x8, ats⟩ = false from by rw [mt_iff HKL.out, ← HRB.out]; simp [h1, h2])
                  subst h1
                  clear h2 xz4 xz5
                  go_wp2_with fail
                  have n0 := fun p : NowB wr => p.cell d0
                  have n1 := fun p : NowB wr => p.cell d1
                  have n2 := fun p : NowB wr => p.cell d2
                  have n3 := fun p : NowB wr => p.cell d3
                  have n4 := fun p : NowB wr => p.cell d4
                  have n5 := fun p : NowB wr => p.cell d5
                  have n6 := fun p : NowB wr => p.cell d6
                  have n7 := fun p : NowB wr => p.cell d7
                  have n8 := fun p : NowB wr => p.cell d8
                  have n9 := fun p : NowB wr => p.cell d9
                  have m0 := fun p : NowB wr => p.cell k0
                  have m1 := fun p : NowB wr => p.cell k1
                  have m2 := fun p : NowB wr => p.cell k2
                  have m3 := fun p : NowB wr => p.cell k3
                  clear d0 d1 d2 d3 d4 d5 d6 d7 d8 d9 k0 k1 k2 k3
                  refine wp_region_quiet_below (by kernel_rfl) (by kernel_rfl) ?_
                  repeat (go_big_quiet_step ((first | (go_at_call 25; with_reducible exact Calls.now_same' (WN _).out) | (go_at_call 24; with_reducible exact Calls.now_of (RS _).out))))
                  refine wpQuiet_nil ?_
                  intro _ hw'
                  obtain ⟨pp, hw''⟩ := hw'
                  subst hw''
                  have HB9 := Lib.hid (HW.out.trans (pp.h.mono HW.out.size))
                  have HP9 := Lib.hid pp.h
                  generalize pp.W = w9 at *
                  go_wp2_with fail
                  go_roundw
                  case rel => exact ⟨k + 1, nn, ee, by go_num, HLT.out, rfl, rfl, Lib.hid (by rw [HTK.out, HMT.out]; simpa using HNN.out), Lib.hid (by rw [HTE.out, HMT.out]; simpa using HEE.out), HB9⟩
                  case measure => have := HLT.out; simp [intOf]; omega

              · have g1 : (x4.toList == ksv.toList) = false := beq_eq_false_iff_ne.2 (fun h => h1 (stry_inj h))
                have HMT := Lib.hid (show mt ⟨klv, kwi, ksv, kop⟩ ⟨x0, x1, x2, x3, x4, x5, x6, x7, x8, ats⟩ = false from by rw [mt_iff HKL.out, ← HRB.out]; simp [h1])
                clear h1 xz4 xz5
                go_wp2_with fail
                have n0 := fun p : NowB wr => p.cell d0
                have n1 := fun p : NowB wr => p.cell d1
                have n2 := fun p : NowB wr => p.cell d2
                have n3 := fun p : NowB wr => p.cell d3
                have n4 := fun p : NowB wr => p.cell d4
                have n5 := fun p : NowB wr => p.cell d5
                have n6 := fun p : NowB wr => p.cell d6
                have n7 := fun p : NowB wr => p.cell d7
                have n8 := fun p : NowB wr => p.cell d8
                have n9 := fun p : NowB wr => p.cell d9
                have m0 := fun p : NowB wr => p.cell k0
                have m1 := fun p : NowB wr => p.cell k1
                have m2 := fun p : NowB wr => p.cell k2
                have m3 := fun p : NowB wr => p.cell k3
                clear d0 d1 d2 d3 d4 d5 d6 d7 d8 d9 k0 k1 k2 k3
                refine wp_region_quiet_below (by kernel_rfl) (by kernel_rfl) ?_
                repeat (go_big_quiet_step ((first | (go_at_call 25; with_reducible exact Calls.now_same' (WN _).out) | (go_at_call 24; with_reducible exact Calls.now_of (RS _).out))))
                refine wpQuiet_nil ?_
                intro _ hw'
                obtain ⟨pp, hw''⟩ := hw'
                subst hw''
                have HB9 := Lib.hid (HW.out.trans (pp.h.mono HW.out.size))
                have HP9 := Lib.hid pp.h
                generalize pp.W = w9 at *
                go_wp2_with fail
                go_roundw
                case rel => exact ⟨k + 1, nn, ee, by go_num, HLT.out, rfl, rfl, Lib.hid (by rw [HTK.out, HMT.out]; simpa using HNN.out), Lib.hid (by rw [HTE.out, HMT.out]; simpa using HEE.out), HB9⟩
                case measure => have := HLT.out; simp [intOf]; omega

          · obtain rfl : k = sn := by omega
            have hTL : (S.map Ls.s).take k = S.map Ls.s := List.take_of_length_le (by rw [List.length_map, HSN.out]; exact Nat.le_refl _)
            have hN : nn = (S.map Ls.s).countP (mt K) := by rw [HNN.out, hTL]
            have hE : ee = (S.map Ls.s).countP (fun s => mt K s && s.er) := by rw [HEE.out, hTL]
            have hpos : 0 < nn := by
              rw [hN]
              obtain ⟨s, hs, hs2⟩ := List.any_eq_true.1 HANY.out
              exact List.countP_pos_iff.2 ⟨s, hs, hs2⟩
            have t0 : tot K 0 (S.map Ls.s) = nn := by
              rw [hN]; unfold tot; congr 1; funext s
              have : oneB 0 s = true := by unfold oneB cS oneC; rfl
              rw [this, Bool.and_true]
            have t1 : tot K 1 (S.map Ls.s) = ee := by
              rw [hE]; unfold tot; congr 1; funext s
              have : oneB 1 s = s.er := by
                unfold oneB cS oneC
                show decide ((if s.er = true then (1 : Int) else 0) = 1) = s.er
                cases s.er <;> rfl
              rw [this]
            have v0 : r.ct.getD 0 0 = (if (nn : Int) < 0 then 0 else if m < (nn : Int) then m else (nn : Int)) := by
              rw [HCT.out, ctM_at _ _ _ _ (by decide), t0]
              rw [if_neg (by omega)]
              split <;> omega
            have v1 : r.ct.getD 1 0 = (if (ee : Int) < 0 then 0 else if m < (ee : Int) then m else (ee : Int)) := by
              rw [HCT.out, ctM_at _ _ _ _ (by decide), t1]
              rw [if_neg (by omega)]
              split <;> omega
            have C0 := fun (W : World) => cap_any (nn : Int) 0 m W
            have C1 := fun (W : World) => cap_any (ee : Int) 0 m W
            rw [← v0] at C0
            rw [← v1] at C1
            generalize r.ct.getD 0 0 = o0 at *
            generalize r.ct.getD 1 0 = o1 at *
            have HC0 := fun W => Lib.hid (C0 W)
            have HC1 := fun W => Lib.hid (C1 W)
            have z4 := xz4
            have z5 := xz5
            have e0 : ((nn : Int) == 0) = false := beq_eq_false_iff_ne.2 (by omega)
            clear C0 C1 v0 v1 t0 t1 hpos hN hE hTL xz4 xz5 k0 k1 k2 k3 hk
            go_wp2_with fail
            have q4 := fun p : NowB wr => p.cell z4
            have q5 := fun p : NowB wr => p.cell z5
            clear z4 z5
            refine wp_region_quiet_below (by kernel_rfl) (by kernel_rfl) ?_
            repeat (go_big_quiet_step ((first | (go_at_call_of 26 (nn : Int); with_reducible exact Calls.now_same' (HC0 _).out) | (go_at_call_of 26 (ee : Int); with_reducible exact Calls.now_same' (HC1 _).out))))
            refine wpQuiet_nil ?_
            intro _ hw'
            obtain ⟨pp, hw''⟩ := hw'
            subst hw''
            have HB9 := Lib.hid (HW.out.trans (pp.h.mono HW.out.size))
            have HP9 := Lib.hid pp.h
            generalize pp.W = w9 at *
            go_wp2_with fail
            go_roundw
            case rel => exact ⟨i + 1, by go_num, HIX.out, HB9⟩
            case measure => have := HIX.out; simp [intOf]; omega
      · go_wp2_with fail
        go_ret
        exact ⟨rfl, HB4.out.trans (HWO.out.mono HBS4.out)⟩
end Go.Proofs.YtkhhcnpmobgdgaaDoor
