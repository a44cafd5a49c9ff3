/- RollupAny. -/
import Derived.Test.YtkhhcnpmobgdgaaDoorYo
import Derived.Test.YtkhhcnpmobgdgaaDoorYr
namespace Go.Proofs.YtkhhcnpmobgdgaaDoor
open Go.RowKit
set_option linter.unusedVariables false
set_option linter.unusedSimpArgs false
set_option maxRecDepth 100000

set_option maxHeartbeats 16000000 in
theorem any10 (sA : Option Addr) (S : List Ls) (sn sc : Nat) (oA : Option Addr) (O : List Int) (on oc : Nat) (m : Int) (w : World) (hS : RdSps w w.heap.size sA S) (hsn : sn = S.length) (hsl : sn ≤ maxLen) (hO : Rd w w.heap.size oA (O.map (Value.int .i64))) (hon : on = O.length) (hol : on ≤ maxLen) (hOb : ∀ x ∈ O, -9223372036854775808 ≤ x ∧ x ≤ 9223372036854775807) (T : Bnds w) (TL : Lens w) (hm64 : m ≤ 9223372036854775807) :
    Calls Tryd.prog 4 #[.slice sA sn sc, .slice oA on oc, .int .i64 m] w fun e w' => e = .returned (.bool true) ∧ Below w.heap.size w w' := by
  obtain ⟨base, hbase⟩ : ∃ base, base = w.heap.size := ⟨_, rfl⟩
  have HT : Hid (Bnds w ∧ Lens w ∧ 4 < base ∧ 1 < base) := ⟨T, TL, by rw [hbase]; exact T.lt, by rw [hbase]; exact TL.lt⟩
  rw [← hbase] at hS hO ⊢
  have HSs := Lib.hid hS
  have HSN := Lib.hid hsn
  have HRO := Lib.hid hO
  have HON := Lib.hid hon
  have HBASE := Lib.hid hbase
  have AL := fun (W : World) (h : Below base w W) => Lib.hid (alive10_calls W (HT.out.1.below h HT.out.2.2.1) (HT.out.2.1.below h HT.out.2.2.2))
  have FE := fun (W : World) (h : Below base w W) => Lib.hid (fewall_any sA S sn sc base W HSN.out (HSs.out.below h) (by have := h.size; have := HBASE.out; omega) hsl)
  have AL0 := AL w (Below.refl _ _)
  have hml := hol
  simp only [maxLen] at hml
  have hsl2 := hsl
  simp only [maxLen] at hsl2
  clear hS hsn hbase T TL AL hO hon hOb
  obtain ⟨fb, hfb⟩ : ∃ fb, fb = fewAll S := ⟨_, rfl⟩
  rw [← hfb] at FE
  have HFB := Lib.hid hfb
  clear hfb
  have hgo : (fb = false ∨ (fb = true ∧ on < sn)) ∨ (fb = true ∧ sn ≤ on) := by
    cases fb
    · exact .inl (.inl rfl)
    · rcases Nat.lt_or_ge on sn with h | h
      · exact .inl (.inr ⟨rfl, h⟩)
      · exact .inr ⟨rfl, h⟩
  rcases hgo with hgo | ⟨rfl, hos⟩
  · rcases hgo with rfl | ⟨rfl, hos⟩
    · go_enter Tryd.func4, Tryd.ntmps4
      go_wp2_with (first | (go_at_call 20; (with_reducible refine (FE _ (by with_reducible assumption)).out.mono ?_); rintro ex w2 ⟨rfl, hb2⟩; have HB2 := Lib.hid hb2) | (go_at_call 10; (with_reducible refine AL0.out.mono ?_); rintro ex w1 ⟨rfl, hb1⟩; have hbb1 : Below base w w1 := (by rw [HBASE.out]; exact hb1)))
      go_ret
      exact ⟨rfl, hbb1.trans (HB2.out.mono (by have := hbb1.size; have := HBASE.out; omega))⟩
    · have d1 : decide ((on : Int) < (sn : Int)) = true := decide_eq_true (by omega)
      go_enter Tryd.func4, Tryd.ntmps4
      go_wp2_with (first | (go_at_call 20; (with_reducible refine (FE _ (by with_reducible assumption)).out.mono ?_); rintro ex w2 ⟨rfl, hb2⟩; have HB2 := Lib.hid hb2) | (go_at_call 10; (with_reducible refine AL0.out.mono ?_); rintro ex w1 ⟨rfl, hb1⟩; have hbb1 : Below base w w1 := (by rw [HBASE.out]; exact hb1)))
      go_ret
      exact ⟨rfl, hbb1.trans (HB2.out.mono (by have := hbb1.size; have := HBASE.out; omega))⟩
  · have d1 : decide ((on : Int) < (sn : Int)) = false := decide_eq_false (by omega)
    have hsn60 : sn ≤ 60 := by
      have h := HFB.out
      unfold fewAll at h
      have h2 := (Bool.and_eq_true _ _).mp h.symm
      rw [HSN.out]; exact of_decide_eq_true h2.1
    go_enter Tryd.func4, Tryd.ntmps4
    go_upto_region 5 with (first | (go_at_call 20; (with_reducible refine (FE _ (by with_reducible assumption)).out.mono ?_); rintro ex w2 ⟨rfl, hb2⟩; have HB2 := Lib.hid hb2) | (go_at_call 10; (with_reducible refine AL0.out.mono ?_); rintro ex w1 ⟨rfl, hb1⟩; have hbb1 : Below base w w1 := (by rw [HBASE.out]; exact hb1)))
    have HB2 := Lib.hid (hbb1.trans (HB2.out.mono (by have := hbb1.size; have := HBASE.out; omega)))
    have HS2 := Lib.hid (show base ≤ w2.heap.size from by have := HB2.out.size; have := HBASE.out; omega)
    clear FE AL0 hbb1 hb1 hb2
    obtain ⟨W5, hrun, hown, hbl, hsz⟩ := make_bools sn (by omega) w2
    have HOW := Lib.hid (own_mono hown HS2.out)
    have HB5 := Lib.hid (HB2.out.trans (hbl.mono HS2.out))
    clear hown hbl hsz
    go_upto_region 7 with fail
    generalize hgh : w2.heap.size = gh at *
    clear hgh hrun
    go_loopw [8, 10] (fun v i wr => ∃ (k nn c' : Nat) (A' : Option Addr) (H : List Bool) (M : List Ls), i = .int .i64 k ∧ k ≤ sn ∧ v = .slice A' nn c' ∧ Hid (nn = k) ∧ Hid (H.length = sn) ∧ Hid (M.length = nn) ∧ Hid ((M ++ rest S H).Perm S) ∧ Hid (wr.ownsRow base 4 1 (.slice (some ⟨gh, 0, none⟩) sn sn) sn (H.map Value.bool)) ∧ Hid (wr.ownsRow base 28 10 (.slice A' nn c') nn (M.flatMap Ls.cells)) ∧ Hid (Below base w wr)) (fun _ i _ => sn - (intOf i).toNat)
    case atStart => exact ⟨0, 0, 0, none, List.replicate sn false, [], rfl, Nat.zero_le _, rfl, Lib.hid rfl, Lib.hid (by simp), Lib.hid rfl, Lib.hid (by rw [List.nil_append, HSN.out, rest_all]), HOW, Lib.hid (World.ownsRow_nil _ _ _ _), HB5⟩
    case round =>
      obtain ⟨i, nn, c', A', H, M, rfl, hi, rfl, HNI, HH, HML, HP, HBO, HMO, HB⟩ := hrel
      by_cases hlt : i < sn
      · obtain ⟨ov, hov⟩ : ∃ ov, O[i]? = some ov := ⟨_, List.getElem?_eq_getElem (by rw [← HON.out]; omega)⟩
        obtain ⟨ao, hao, hab, hoc⟩ := (HRO.out.below HB.out) (by rw [List.length_map, ← HON.out]; omega)
        subst hao
        have xo : wr.cell? (ao.add i) = some (.int .i64 ov) := hoc i _ (by rw [List.getElem?_map, hov]; rfl)
        obtain ⟨at_, hat⟩ : ∃ at_ : Nat, ov % 1024 = (at_ : Int) := ⟨(ov % 1024).toNat, by omega⟩
        have ea : bits .and .i64 ov 1023 = (at_ : Int) := by rw [i64_and1023, hat]
        have ii0 : (0 : Int) ≤ (i : Int) := by omega
        have ii1 : (i : Int) < (on : Int) := by omega
        have ii3 : (i : Int) < (sn : Int) := by omega
        have nn0 : (0 : Int) < (sn : Int) := by omega
        have nn1 : ¬ ((sn : Int) = 0) := by omega
        have nn2 : (sn : Int) ≤ 60 := by omega
        have HIX := Lib.hid hlt
        have a0 : (0 : Int) ≤ (at_ : Int) := by omega
        have a1 : (at_ : Int) < 1024 := by omega
        obtain ⟨k0, hk0⟩ : ∃ k0, k0 = at_ % sn := ⟨_, rfl⟩
        have er : (at_ : Int) % (sn : Int) = (k0 : Int) := by rw [hk0]; rfl
        have HK0 := Lib.hid (show k0 < sn from by rw [hk0]; exact Nat.mod_lt _ (by omega))
        clear hat hk0 hov hoc hab hlt hi
        go_upto_region 10 with fail
        have HER := Lib.hid er
        clear ea er a0 a1 xo
        have HFR := Lib.hid (show ∃ j : Nat, j < sn ∧ H.getD j true = false from by
          have hl : (rest S H).length = sn - i := by have := HP.out.length_eq; rw [List.length_append, HML.out, ← HSN.out, HNI.out] at this; have := HIX.out; omega
          obtain ⟨j, hj⟩ := rest_free S H (by intro e; rw [e] at hl; have := HIX.out; simp at hl; omega)
          exact ⟨j, by have := (List.getElem?_eq_some_iff.1 hj).1; rw [HH.out] at this; exact this, by simp [List.getD, hj]⟩)
        go_loop [11] (fun kv => ∃ k : Nat, kv = .int .i64 k ∧ Hid (k < sn)) (fun kv => dst H sn sn (intOf kv).toNat)
        case atStart => exact ⟨k0, by rw [← HER.out], HK0⟩
        case round =>
          obtain ⟨k, rfl, HK⟩ := hrel
          have kk0 : (0 : Int) ≤ (k : Int) := by omega
          have kk1 : (k : Int) < (sn : Int) := by have := HK.out; omega
          obtain ⟨b, hb⟩ : ∃ b, H[k]? = some b := ⟨_, List.getElem?_eq_getElem (by rw [HH.out]; exact HK.out)⟩
          have hco := own_cells HBO.out k (by have := HK.out; omega)
          have hc1 : wr.cell? ⟨gh, k, none⟩ = some (.bool b) := by rw [hco.2.1, List.getElem?_map, hb]; rfl
          have hfz := hco.1
          have HBK := Lib.hid hb
          clear hco hb
          cases b
          · obtain ⟨y, hy⟩ : ∃ y, S[k]? = some y := ⟨_, List.getElem?_eq_getElem (by rw [← HSN.out]; exact HK.out)⟩
            have HPS := Lib.hid (rest_set S H k y hy HBK.out)

            obtain ⟨_, _, hbo2, hg2⟩ := own_setq HBO.out (i := k) (by have := HK.out; omega) (.bool true)
            have HMO2 := Lib.hid (own_keepT2 HMO.out HBO.out (by decide) hg2)
            have HBO2 := Lib.hid hbo2
            have HB2' := Lib.hid (hg2.below HB.out (by have := HB.out.size; have := HBASE.out; omega) (own_block_ge HBO.out))
            have HSZ2 := Lib.hid (show base ≤ (wr.setCell ⟨gh, k, none⟩ (.bool true)).heap.size from by have := HB2'.out.size; have := HBASE.out; omega)
            obtain ⟨a, ha, hab, hcc, hyd⟩ := (HSs.out.below HB2'.out).at_ hy
            subst ha
            obtain ⟨⟨x0, x1, x2, x3, x4, x5, x6, x7, x8, ats⟩, xA, xc⟩ := y
            obtain ⟨yn, hyn⟩ : ∃ yn, yn = ats.length := ⟨_, rfl⟩
            obtain ⟨w6, hw6⟩ : ∃ w6, w6 = wr.setCell ⟨gh, k, none⟩ (.bool true) := ⟨_, rfl⟩
            rw [← hw6] at HMO2 HBO2 HB2' HSZ2 hcc hyd
            have d0 : w6.cell? (a.add (k * 10)) = some (.int .u64 x0) := hcc 0 _ rfl
            have d1 : w6.cell? ⟨(a.add (k * 10)).block, (a.add (k * 10)).off + 1, none⟩ = some (.int .u64 x1) := cell_far (hcc 1 _ rfl) (by decide)
            have d2 : w6.cell? ⟨(a.add (k * 10)).block, (a.add (k * 10)).off + 2, none⟩ = some (.int .u64 x2) := cell_far (hcc 2 _ rfl) (by decide)
            have d3 : w6.cell? ⟨(a.add (k * 10)).block, (a.add (k * 10)).off + 3, none⟩ = some (.int .u64 x3) := cell_far (hcc 3 _ rfl) (by decide)
            have d4 : w6.cell? ⟨(a.add (k * 10)).block, (a.add (k * 10)).off + 4, none⟩ = some (.string x4) := cell_far (hcc 4 _ rfl) (by decide)
            have d5 : w6.cell? ⟨(a.add (k * 10)).block, (a.add (k * 10)).off + 5, none⟩ = some (.string x5) := cell_far (hcc 5 _ rfl) (by decide)
            have d6 : w6.cell? ⟨(a.add (k * 10)).block, (a.add (k * 10)).off + 6, none⟩ = some (.int .i64 x6) := cell_far (hcc 6 _ rfl) (by decide)
            have d7 : w6.cell? ⟨(a.add (k * 10)).block, (a.add (k * 10)).off + 7, none⟩ = some (.int .i64 x7) := cell_far (hcc 7 _ rfl) (by decide)
            have d8 : w6.cell? ⟨(a.add (k * 10)).block, (a.add (k * 10)).off + 8, none⟩ = some (.bool x8) := cell_far (hcc 8 _ rfl) (by decide)
            have d9 : w6.cell? ⟨(a.add (k * 10)).block, (a.add (k * 10)).off + 9, none⟩ = some (.slice xA yn xc) := by rw [hyn]; exact cell_far (hcc 9 _ rfl) (by decide)
            have APP := Lib.hid (fun ty => appS1 (ty := ty) HMO2.out ⟨⟨x0, x1, x2, x3, x4, x5, x6, x7, x8, ats⟩, xA, xc⟩ #[.int .u64 x0, .int .u64 x1, .int .u64 x2, .int .u64 x3, .string x4, .string x5, .int .i64 x6, .int .i64 x7, .bool x8, .slice xA yn xc] (by rw [hyn]; rfl) (by have := HIX.out; have := HNI.out; omega) HSZ2.out)
            have HW6 := Lib.hid hw6
            clear hcc hyd hyn hy hab hbo2 hg2 hw6
            go_upto_region 13 with fail
            rw [← HW6.out]
            clear hc1 hfz
            go_wp2_with (at_builtin; refine wpList_app rfl (.tmp 58) (.tmp 63) _ _ rfl rfl rfl (APP.out _) ?_; rintro v8 w8 ⟨ho8, hg8⟩; have HO8 := Lib.hid ho8; have HG8 := Lib.hid hg8; clear ho8 hg8)
            obtain ⟨A8, c8, rfl, _, _⟩ := own_rd HO8.out
            go_roundw
            case rel =>
              refine ⟨i + 1, by first | rfl | (simp; done) | omega, HIX.out, nn + 1, c8, A8, rfl, Lib.hid (by rw [HNI.out]), H.set k true, Lib.hid (by rw [List.length_set]; exact HH.out), M ++ [⟨⟨x0, x1, x2, x3, x4, x5, x6, x7, x8, ats⟩, xA, xc⟩], Lib.hid (by rw [List.length_append, HML.out]; rfl), Lib.hid ?_, Lib.hid ?_, Lib.hid ?_, Lib.hid ?_⟩
              · rw [List.append_assoc]
                exact ((List.Perm.append_left M HPS.out).symm).trans HP.out
              · rw [List.map_set]
                exact own_keepT2 HBO2.out HMO2.out (by decide) HG8.out
              · rw [List.flatMap_append, List.flatMap_singleton]; exact HO8.out
              · exact HG8.out.below HB2'.out HSZ2.out (own_block_ge HMO2.out)
            case measure => have := HIX.out; simp [intOf]; omega
          · have er : ((k : Int) + 1) % (sn : Int) = (((k + 1) % sn : Nat) : Int) := rfl
            have HM0 := Lib.hid (show dst H sn sn ((k + 1) % sn) < dst H sn sn k from by
              obtain ⟨j, hj, hf⟩ := HFR.out
              exact dst_lt HK.out hj (by simp [List.getD, HBK.out]) hf)
            have HK1 := Lib.hid (show (k + 1) % sn < sn from Nat.mod_lt _ (by have := HK.out; omega))
            obtain ⟨k1, hk1⟩ : ∃ k1, k1 = (k + 1) % sn := ⟨_, rfl⟩
            rw [← hk1] at er HM0 HK1
            have HER1 := Lib.hid er
            clear hk1 er
            go_wp2_with fail
            go_round
            case rel => exact ⟨k1, by first | rfl | (rw [← HER1.out]) | go_num, HK1⟩
            case measure => have := HM0.out; rw [HER1.out]; simp [intOf]; omega
      · obtain rfl : i = sn := by omega
        have hrl : (rest S H).length = 0 := by have := HP.out.length_eq; rw [List.length_append, HML.out, ← HSN.out, HNI.out] at this; omega
        have HPM := Lib.hid (show (M.map Ls.s).Perm (S.map Ls.s) from by
          have h := HP.out
          rw [List.length_eq_zero_iff.1 hrl, List.append_nil] at h
          exact h.map _)
        have hni := HNI.out
        subst hni
        obtain ⟨X, hX⟩ : ∃ X, X = rowsS (S.map Ls.s) m := ⟨_, rfl⟩
        obtain ⟨xn, hxn⟩ : ∃ xn, xn = X.length := ⟨_, rfl⟩
        have HX := Lib.hid hX
        have HXN := Lib.hid hxn
        have HSRT := Lib.hid (show SortR X from by rw [hX]; exact rows_sort m _)
        have HSZ := Lib.hid (show base ≤ wr.heap.size from by have := HB.out.size; have := HBASE.out; omega)
        have RW := Lib.hid (rows_any sA S nn sc base m wr (HSs.out.below HB.out) HSN.out HSZ.out (HT.out.1.below HB.out HT.out.2.2.1) (HT.out.2.1.below HB.out HT.out.2.2.2) hm64 (by omega))
        rw [← hX, ← hxn] at RW
        have HMS := Lib.hid (show RdSps wr wr.heap.size A' M from ⟨Rd.of_own HMO.out, fun y hy => ((HSs.out.each y (by
          have h := HP.out
          rw [List.length_eq_zero_iff.1 hrl, List.append_nil] at h
          exact h.mem_iff.1 hy)).below HB.out).more HSZ.out⟩)
        have HXL := Lib.hid (show xn ≤ 180 from by
          rw [hxn, hX]
          have : ∀ R : List Sp, (rowsS R.reverse m).length ≤ 3 * R.length := by
            intro R
            induction R with
            | nil => exact Nat.le_refl _
            | cons s R ih => rw [List.reverse_cons, rowsS_snoc]; have := addS_len (rowsS R.reverse m) s m; rw [List.length_cons]; omega
          have h := this (S.map Ls.s).reverse
          rw [List.reverse_reverse, List.length_reverse, List.length_map, ← HSN.out] at h
          omega)
        have RW2 : ∀ (W : World), Below wr.heap.size wr W → Hid (Calls Tryd.prog 21 #[.slice A' nn c', .int .i64 m] W fun e w' => ∃ v', e = .returned v' ∧ w'.ownsRow W.heap.size 48 14 v' xn (X.flatMap Rw.cells) ∧ Below W.heap.size W w') := fun W h => Lib.hid (by
          have h1 := rows_any A' M nn c' wr.heap.size m W (HMS.out.below h) HML.out.symm h.size (HT.out.1.below (HB.out.trans (h.mono HSZ.out)) HT.out.2.2.1) (HT.out.2.1.below (HB.out.trans (h.mono HSZ.out)) HT.out.2.2.2) hm64 (by omega)
          rw [rows_perm m hm64 HPM.out, ← HX.out, ← HXN.out] at h1
          exact h1)
        clear hrl hX hxn HP HMO HBO hi
        go_upto_region 15 with (go_at_call 21; (with_reducible refine RW.out.mono ?_); rintro ex w14 ⟨v14, rfl, ho14, hb14⟩; have HO14 := Lib.hid ho14; have HB14 := Lib.hid hb14; clear ho14 hb14)
        obtain ⟨A14, c14, rfl, _, _⟩ := own_rd HO14.out
        have RW3 := RW2 w14 HB14.out
        have HBB14 := Lib.hid (HB.out.trans (HB14.out.mono HSZ.out))
        have HS14 := Lib.hid (show base ≤ w14.heap.size from by have := HBB14.out.size; have := HBASE.out; omega)
        have SM := fun (W : World) (A2 : Option Addr) (c2 : Nat) (h1 : Below w14.heap.size w14 W) (h2 : W.ownsRow w14.heap.size 48 14 (.slice A2 xn c2) xn (X.flatMap Rw.cells)) => Lib.hid (samerows_same A14 A2 X xn c14 c2 W.heap.size W HXN.out (Rd.of_own (own_below HO14.out h1)) (Rd.of_own h2) (Nat.le_refl _) (by have := HXL.out; omega))
        have OD := fun (W : World) (h1 : Below w14.heap.size w14 W) => Lib.hid (ordered_any A14 X xn c14 W.heap.size W HXN.out (Rd.of_own (own_below HO14.out h1)) (Nat.le_refl _) (by have := HXL.out; omega))
        clear RW2 RW
        go_wp2_with (first
          | (go_at_call 12; (with_reducible refine (OD _ HB17.out).out.mono ?_); rintro ex w18 ⟨b, rfl, hb, hb18⟩; obtain rfl : b = true := hb.2 (adj_of HSRT.out); have HB18 := Lib.hid (HB17.out.trans (hb18.mono HB17.out.size)); clear hb hb18)
          | (go_at_call 13; (with_reducible refine (SM _ _ _ HB16.out HO16.out).out.mono ?_); rintro ex w17 ⟨rfl, hb17⟩; have HB17 := Lib.hid (HB16.out.trans (hb17.mono HB16.out.size)); clear hb17)
          | (go_at_call 21; (with_reducible refine RW3.out.mono ?_); rintro ex w16 ⟨v16, rfl, ho16, hb16⟩; obtain ⟨A16, c16, rfl, _, _⟩ := own_rd ho16; have HO16 := Lib.hid ho16; have HB16 := Lib.hid hb16; clear ho16 hb16))
        go_ret
        exact ⟨rfl, HBB14.out.trans (HB18.out.mono HS14.out)⟩
end Go.Proofs.YtkhhcnpmobgdgaaDoor
