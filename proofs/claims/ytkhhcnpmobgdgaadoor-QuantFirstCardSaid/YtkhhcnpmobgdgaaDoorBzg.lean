/- The document's Busy. -/
import Derived.Test.YtkhhcnpmobgdgaaDoorBzf
import Derived.Test.YtkhhcnpmobgdgaaDoorBze
import Derived.Test.YtkhhcnpmobgdgaaDoorQr
import Derived.Test.YtkhhcnpmobgdgaaDoorRef8
import Derived.RegionTactic
import Derived.ChangeAlike
import Derived.BigRegion
import Derived.Deep.RegionHeld3
namespace Go.Proofs.YtkhhcnpmobgdgaaDoor
open Go.RowKit
set_option linter.unusedVariables false
set_option linter.unusedSimpArgs false
set_option maxRecDepth 100000

set_option maxHeartbeats 32000000 in
theorem dbusy_any (A : Option Addr) (l : List Rw) (n c B : Nat) (lv mx : Int) (w : World) (hn : n = l.length) (hr : Rd w B A (l.flatMap Rw.cells)) (hB : B ≤ w.heap.size) (hok : okRz l) (hsm : n ≤ 1000) :
    Calls Tryd.prog 31 #[.slice A n c, .int .i64 lv, .int .i64 mx] w fun e w' => ∃ (A' : Option Addr) (c' : Nat), e = .returned (.slice A' (topB mx (srtB (aggB lv l))).length c') ∧ Rd w' w'.heap.size A' ((topB mx (srtB (aggB lv l))).flatMap Bz.cells) ∧ (topB mx (srtB (aggB lv l))).length ≤ c' ∧ Below w.heap.size w w' := by
  have HR := Lib.hid hr
  have HN := Lib.hid hn
  have HOKL := Lib.hid hok
  clear hr hn hok
  obtain ⟨base, hbase⟩ : ∃ base, base = w.heap.size := ⟨_, rfl⟩
  have HBASE := Lib.hid hbase
  rw [← hbase] at hB ⊢
  clear hbase
  go_enter Tryd.func31, Tryd.ntmps31
  go_upto_region 3 with fail
  go_loopw [7, 8] (fun sv vi wr => ∃ i nq : Nat, vi = .int .i64 (i : Int) ∧ i ≤ n ∧ lenVz sv = nq ∧ Hid (wr.ownsRow base 61 4 sv nq ((aggB lv (l.take i)).flatMap Bz.cells)) ∧ Hid (nq = (aggB lv (l.take i)).length) ∧ Hid (Below base w wr)) (fun _ vi _ => n - (intOf vi).toNat)
  case atStart => exact ⟨0, 0, rfl, Nat.zero_le _, rfl, Lib.hid (World.ownsRow_nil _ _ _ _), Lib.hid rfl, Lib.hid (Below.refl _ _)⟩
  case round =>
    obtain ⟨i, nq, rfl, hi, hlv, HO, HNQ0, HB⟩ := hrel
    obtain ⟨zA, zc, rfl, hzc, hzr⟩ := own_rd HO.out
    have HZC := Lib.hid hzc
    have HWS := Lib.hid (show base ≤ wr.heap.size from by have := HB.out.size; have := HBASE.out; omega)
    have HNA := Lib.hid (show nq ≤ i from by rw [HNQ0.out]; exact Nat.le_trans (aggB_len lv _) (by rw [List.length_take]; omega))
    clear hlv hzc hzr
    by_cases hlt : i < n
    · obtain ⟨r, hr⟩ : ∃ r, l[i]? = some r := ⟨_, List.getElem?_eq_getElem (by rw [← HN.out]; exact hlt)⟩
      have HOC := Lib.hid (HOKL.out r (List.mem_of_getElem? hr))
      have HSTEP := Lib.hid (take_agg lv hr)
      obtain ⟨a0, ha, _, d0, d1, d2, d3, d4, d5, d6, d7, d8, d9, d10, d11, d12, d13⟩ := row_cells (HR.out.below (HB.out.mono hB)) hr
      obtain ⟨⟨flv, fwi, fsv, fop⟩, fct⟩ := r
      have HF := Lib.hid hr
      simp only at d0 d1 d2 d3 d4 d5 d6 d7 d8 d9 d10 d11 d12 d13
      unfold stepB at HSTEP
      simp only at HSTEP HOC
      have hoc0 := HOC.out 0
      have hoc1 := HOC.out 1
      obtain ⟨o0, ho0⟩ : ∃ o, o = fct.getD 0 0 := ⟨_, rfl⟩
      obtain ⟨o1, ho1⟩ : ∃ o, o = fct.getD 1 0 := ⟨_, rfl⟩
      rw [← ho0] at HSTEP hoc0 d4
      rw [← ho1] at HSTEP hoc1 d5
      have HO01 := Lib.hid (And.intro hoc0 hoc1)
      have HOO := Lib.hid (And.intro ho0.symm ho1.symm)
      subst ha
      have i1 : (i : Int) < (n : Int) := by omega
      have i0 : (0 : Int) ≤ (i : Int) := by omega
      have HIN := Lib.hid (show i + 1 ≤ n from hlt)
      clear hr hlt HOC hoc0 hoc1 ho0 ho1
      by_cases hl : flv = lv
      · subst hl
        rw [if_pos rfl] at HSTEP
        obtain ⟨p, hp1, hp2, hp3⟩ : ∃ p, p ≤ nq ∧ (∀ q b, q < p → (aggB flv (l.take i))[q]? = some b → b.k ≠ (fsv, fop)) ∧ (p < nq → plcB (aggB flv (l.take i)) (fsv, fop) = some p) ∧ (p = nq → plcB (aggB flv (l.take i)) (fsv, fop) = none) := by
          rcases hpl : plcB (aggB flv (l.take i)) (fsv, fop) with _ | p
          · refine ⟨nq, Nat.le_refl _, fun q b hq hb he => ?_, fun h => absurd h (Nat.lt_irrefl _), fun _ => rfl⟩
            unfold plcB at hpl
            rw [List.findIdx?_eq_none_iff] at hpl
            have := hpl b (List.mem_of_getElem? hb)
            rw [decide_eq_true he] at this
            cases this
          · have hlt := hpl
            unfold plcB at hlt
            obtain ⟨h1, h2, h3⟩ := List.findIdx?_eq_some_iff_getElem.1 hlt
            refine ⟨p, by rw [HNQ0.out]; omega, fun q b hq hb he => ?_, fun _ => rfl, fun h => by rw [h, HNQ0.out] at h1; omega⟩
            have h4 := h3 q hq
            obtain ⟨hq1, hq2⟩ := List.getElem?_eq_some_iff.1 hb
            rw [hq2, decide_eq_true he] at h4
            simp at h4
        have HPN := Lib.hid hp1
        have HPP := Lib.hid hp2
        have HPH := Lib.hid hp3.1
        have HPM := Lib.hid hp3.2
        clear hp1 hp2 hp3
        go_upto_region 7 with fail
        clear d0 d1 d2 d3 d4 d5 d6 d7 d8 d9 d10 d11 d12 d13
        go_loopw [9] (fun v wq => ∃ kk : Nat, v = .int .i64 kk ∧ Hid (kk ≤ p) ∧ Hid (Below wr.heap.size wr wq)) (fun v _ => p - (intOf v).toNat)
        case atStart => exact ⟨0, rfl, Lib.hid (Nat.zero_le _), Lib.hid (Below.refl _ _)⟩
        case round =>
          obtain ⟨kk, rfl, HKP, HW⟩ := hrel
          have HBq := Lib.hid (HB.out.trans (HW.out.mono HWS.out))
          obtain ⟨af, haf, habf, d0, d1, d2, d3, d4, d5, d6, d7, d8, d9, d10, d11, d12, d13⟩ := row_cells (HR.out.below (HBq.out.mono hB)) HF.out
          obtain rfl : a0 = af := by injection haf
          simp only at d0 d1 d2 d3 d4 d5 d6 d7 d8 d9 d10 d11 d12 d13
          rw [HOO.out.1] at d4
          rw [HOO.out.2] at d5
          by_cases hkn : kk < nq
          · obtain ⟨b, hb⟩ : ∃ b, (aggB flv (l.take i))[kk]? = some b := ⟨_, List.getElem?_eq_getElem (by rw [← HNQ0.out]; exact hkn)⟩
            obtain ⟨xs, xo, xc, xe⟩ := b
            have HBK := Lib.hid hb
            have hbd := agg_bd flv (l.take i) _ (List.mem_of_getElem? hb)
            have HBD := Lib.hid (show (-9223372036854775808 ≤ xc ∧ xc ≤ 9223372036854775807) ∧ (-9223372036854775808 ≤ xe ∧ xe ≤ 9223372036854775807) ∧ (-9223372036854775808 ≤ o0 ∧ o0 ≤ 9223372036854775807) ∧ (-9223372036854775808 ≤ o1 ∧ o1 ≤ 9223372036854775807) from by have := HO01.out; simp only at hbd; omega)
            obtain ⟨ga, hzA, hga, hgl⟩ := own_place HO.out (by omega)
            subst hzA
            have HGA := Lib.hid hga
            have HOq := Lib.hid (own_below HO.out HW.out)
            have hadd : ∀ q : Nat, (⟨ga, 0, none⟩ : Addr).add q = ⟨ga, q, none⟩ := fun q => by rw [Addr.add_lit, Nat.zero_add]
            have k0 : (0 : Int) ≤ (kk : Int) := by omega
            have k1 : (kk : Int) < (nq : Int) := by omega
            have nn1 : (nq : Int) ≤ 1000 := by have := HNA.out; omega
            obtain ⟨⟨b0, b1, b2, b3⟩, _⟩ := own_cells4 HOq.out HBK.out
            simp only at b0 b1 b2 b3
            have HKN := Lib.hid hkn
            clear hb hbd hga hgl
            by_cases hkey : xs = fsv ∧ xo = fop
            · obtain ⟨h1, h2⟩ := hkey
              have hkp : kk = p := by
                rcases Nat.lt_or_ge kk p with h | h
                · exact absurd (by subst h1 h2; rfl) (HPP.out kk _ h HBK.out)
                · have := HKP.out; omega
              subst hkp
              have HXX := Lib.hid (And.intro h1 h2)
              have HPL := Lib.hid (HPH.out HKN.out)
              obtain ⟨b', hb1, hb2, hb3, hb4⟩ := bump_hit (c := o0) (e := o1) HPL.out
              have hbe : b' = ⟨xs, xo, xc, xe⟩ := by have := hb1.symm.trans HBK.out; injection this
              subst hbe
              have HB4 := Lib.hid hb4
              have HAT := HBK
              have e1 : (xs.toList == fsv.toList) = true := by rw [h1]; exact beq_self_eq_true _
              have e2 : (xo.toList == fop.toList) = true := by rw [h2]; exact beq_self_eq_true _
              have e3 : (kk == nq) = false := beq_eq_false_iff_ne.2 (by have := HKN.out; omega)
              have e4 : ((kk : Int) == (nq : Int)) = false := beq_eq_false_iff_ne.2 (by have := HKN.out; omega)
              clear h1 h2 hb1 hb2 hb3 hb4 hkn
              go_wp2_with fail
              have n0 := fun p : NowB wr => p.cell d0
              have n1 := fun p : NowB wr => p.cell d1
              have n2 := fun p : NowB wr => p.cell d2
              have n3 := fun p : NowB wr => p.cell d3
              have n4 := fun p : NowB wr => p.cell d4
              have n5 := fun p : NowB wr => p.cell d5
              have n6 := fun p : NowB wr => p.cell d6
              have n7 := fun p : NowB wr => p.cell d7
              have n8 := fun p : NowB wr => p.cell d8
              have n9 := fun p : NowB wr => p.cell d9
              have n10 := fun p : NowB wr => p.cell d10
              have n11 := fun p : NowB wr => p.cell d11
              have n12 := fun p : NowB wr => p.cell d12
              have n13 := fun p : NowB wr => p.cell d13
              have m0 := fun p : NowB wr => p.cell b0
              have m1 := fun p : NowB wr => p.cell b1
              have m2 := fun p : NowB wr => p.cell b2
              have m3 := fun p : NowB wr => p.cell b3
              clear d0 d1 d2 d3 d4 d5 d6 d7 d8 d9 d10 d11 d12 d13 b0 b1 b2 b3
              refine wp_region_quiet_below (by kernel_rfl) (by kernel_rfl) ?_
              repeat (go_big_quiet_step ((fail)))
              refine wpQuiet_nil ?_
              intro _ hw'
              obtain ⟨pp, hw''⟩ := hw'
              subst hw''
              have HW9 := Lib.hid (HW.out.trans (pp.h.mono HW.out.size))
              have HP9 := Lib.hid pp.h
              generalize pp.W = w9 at *
              have HIL := HKN
              obtain ⟨nq', hnq'⟩ : ∃ q, q = nq := ⟨_, rfl⟩
              obtain ⟨cq, hcq⟩ : ∃ q, q = zc := ⟨_, rfl⟩
              have HOT := Lib.hid (own_below HO.out HW9.out)
              have HBT := Lib.hid (HB.out.trans (HW9.out.mono HWS.out))
              obtain ⟨wt, hwt⟩ : ∃ wt, wt = w9 := ⟨_, rfl⟩
              have HNQ := HNQ0
              go_upto_region 11 with fail
              rw [← hnq'] at HIL HOT HNQ ⊢
              rw [← hcq] at HOT ⊢
              rw [← hwt] at HOT HBT ⊢
              clear hnq' hcq hwt HP9 HW9 HOq HBq HW n0 n1 n2 n3 n4 n5 n6 n7 n8 n9 n10 n11 n12 n13 m0 m1 m2 m3
              have hnb : nq' ≤ 1001 := by have := HNA.out; have := HNQ.out; have := HNQ0.out; omega
              have kk0 : (0 : Int) ≤ (kk : Int) := by omega
              have kk1 : (kk : Int) < (nq' : Int) := by have := HIL.out; omega
              have hkn' : kk < nq' := HIL.out
              obtain ⟨af, haf, habf, d0, d1, d2, d3, d4, d5, d6, d7, d8, d9, d10, d11, d12, d13⟩ := row_cells (HR.out.below (HBT.out.mono hB)) HF.out
              obtain rfl : a0 = af := by injection haf
              simp only at d0 d1 d2 d3 d4 d5 d6 d7 d8 d9 d10 d11 d12 d13
              rw [HOO.out.1] at d4
              rw [HOO.out.2] at d5
              have s0 := own_setZ HOT.out (i := kk * 4 + 2) (by omega) (.int .i64 (Bm.plus xc o0))
              have c2 : wt.cell? ⟨ga, kk * 4 + 2, none⟩ = some (.int .i64 xc) := by rw [s0.2.1, flatMap_at _ 4 bzcells_len _ kk 2 (by omega), HAT.out]; rfl
              have z2 := s0.1
              have HO13 := Lib.hid (show (wt.setCell ⟨ga, kk * 4 + 2, none⟩ (.int .i64 (Bm.plus xc o0))).ownsRow base 61 4 (.slice (some ⟨ga, 0, none⟩) nq' cq) nq' (((aggB flv (l.take i)).set kk (Bz.mk xs xo (Bm.plus xc o0) xe)).flatMap Bz.cells) from by
                have h := s0.2.2
                rwa [set_bz (aggB flv (l.take i)) kk 2 ⟨xs, xo, xc, xe⟩ ⟨xs, xo, Bm.plus xc o0, xe⟩ _ HAT.out (by decide) (fun q hq hne => by rcases (show q = 0 ∨ q = 1 ∨ q = 3 by omega) with rfl | rfl | rfl <;> rfl) rfl] at h)
              have PL := fun W' => Lib.hid (rplus_any xc o0 W' HBD.out.1.1 HBD.out.1.2 HBD.out.2.2.1.1 HBD.out.2.2.1.2)
              generalize hp2 : Bm.plus xc o0 = p2 at *
              have HP2 := Lib.hid hp2
              clear s0 hp2
              skip
              go_still_tail 16, (by kernel_rfl)
              still_call ((PL _).out.mono fun _ _ hh => ⟨hh.1, hh.2.symm⟩)
              repeat still_step
              refine wpStill_nil ?_
              change wpList _ _ _ _ _ wt.drew
              obtain ⟨we2, hwe2⟩ : ∃ we, we = wt.drew := ⟨_, rfl⟩
              rw [← hwe2]
              have dd2 : we2.cell? ⟨ga, kk * 4 + 2, none⟩ = some (.int .i64 xc) := by rw [hwe2]; exact c2
              have y2 : we2.frozen? ⟨ga, kk * 4 + 2, none⟩ = false := by rw [hwe2]; exact z2
              have HWE2 := Lib.hid hwe2
              clear hwe2
              go_upto_region 12 with fail
              obtain ⟨w13, hw13⟩ : ∃ w13, w13 = we2.setCell ⟨ga, kk * 4 + 2, none⟩ (.int .i64 p2) := ⟨_, rfl⟩
              rw [← hw13]
              have HOU := Lib.hid (show w13.ownsRow base 61 4 (.slice (some ⟨ga, 0, none⟩) nq' cq) nq' (((aggB flv (l.take i)).set kk (Bz.mk xs xo p2 xe)).flatMap Bz.cells) from by rw [hw13, HWE2.out]; exact HO13.out)
              have HBU := Lib.hid (show Below base w w13 from by rw [hw13, HWE2.out]; exact (show Below base w wt.drew from ⟨HBT.out.os, HBT.out.tape, HBT.out.output, HBT.out.size, HBT.out.block⟩).setCell (by have := HGA.out; simpa using this) _)
              have HAU := Lib.hid (show ((aggB flv (l.take i)).set kk (Bz.mk xs xo p2 xe))[kk]? = some ⟨xs, xo, p2, xe⟩ from by rw [List.getElem?_set_self (by have := HNQ.out; omega)])
              clear hw13 dd2 y2 c2 z2 d0 d1 d2 d3 d4 d5 d6 d7 d8 d9 d10 d11 d12 d13 HO13 PL HOT HBT habf haf
              obtain ⟨af, haf, habf, d0, d1, d2, d3, d4, d5, d6, d7, d8, d9, d10, d11, d12, d13⟩ := row_cells (HR.out.below (HBU.out.mono hB)) HF.out
              obtain rfl : a0 = af := by injection haf
              simp only at d0 d1 d2 d3 d4 d5 d6 d7 d8 d9 d10 d11 d12 d13
              rw [HOO.out.1] at d4
              rw [HOO.out.2] at d5
              have d5' : w13.cell? ⟨(a0.add (i * 14)).block, (a0.add (i * 14)).off + 4 + 1, none⟩ = some (.int .i64 o1) := d5
              have s1 := own_setZ HOU.out (i := kk * 4 + 3) (by omega) (.int .i64 (Bm.plus xe o1))
              have c3 : w13.cell? ⟨ga, kk * 4 + 3, none⟩ = some (.int .i64 xe) := by rw [s1.2.1, flatMap_at _ 4 bzcells_len _ kk 3 (by omega), HAU.out]; rfl
              have z3 := s1.1
              have HO14 := Lib.hid (show (w13.setCell ⟨ga, kk * 4 + 3, none⟩ (.int .i64 (Bm.plus xe o1))).ownsRow base 61 4 (.slice (some ⟨ga, 0, none⟩) nq' cq) nq' ((((aggB flv (l.take i)).set kk (Bz.mk xs xo p2 xe)).set kk (Bz.mk xs xo p2 (Bm.plus xe o1))).flatMap Bz.cells) from by
                have h := s1.2.2
                rwa [set_bz _ kk 3 ⟨xs, xo, p2, xe⟩ ⟨xs, xo, p2, Bm.plus xe o1⟩ _ HAU.out (by decide) (fun q hq hne => by rcases (show q = 0 ∨ q = 1 ∨ q = 2 by omega) with rfl | rfl | rfl <;> rfl) rfl] at h)
              have PL := fun W' => Lib.hid (rplus_any xe o1 W' HBD.out.2.1.1 HBD.out.2.1.2 HBD.out.2.2.2.1 HBD.out.2.2.2.2)
              generalize hp3 : Bm.plus xe o1 = p3 at *
              have HP3 := Lib.hid hp3
              clear s1 hp3
              go_still_tail 16, (by kernel_rfl)
              still_call ((PL _).out.mono fun _ _ hh => ⟨hh.1, hh.2.symm⟩)
              repeat still_step
              refine wpStill_nil ?_
              change wpList _ _ _ _ _ w13.drew
              obtain ⟨we3, hwe3⟩ : ∃ we, we = w13.drew := ⟨_, rfl⟩
              rw [← hwe3]
              have dd3 : we3.cell? ⟨ga, kk * 4 + 3, none⟩ = some (.int .i64 xe) := by rw [hwe3]; exact c3
              have y3 : we3.frozen? ⟨ga, kk * 4 + 3, none⟩ = false := by rw [hwe3]; exact z3
              have HWE3 := Lib.hid hwe3
              clear hwe3
              go_upto_region 4 with fail
              obtain ⟨w14, hw14⟩ : ∃ w14, w14 = we3.setCell ⟨ga, kk * 4 + 3, none⟩ (.int .i64 p3) := ⟨_, rfl⟩
              rw [← hw14]
              have HNEW : Hid ((((aggB flv (l.take i)).set kk (Bz.mk xs xo p2 xe)).set kk (Bz.mk xs xo p2 p3)) = aggB flv (l.take (i + 1))) := Lib.hid (by
                rw [List.set_set, HSTEP.out, ← HP2.out, ← HP3.out]
                rw [HP2.out, HP3.out, HB4.out]
                obtain ⟨q1, q2⟩ := HXX.out
                subst q1 q2
                rfl)
              have HOV := Lib.hid (show w14.ownsRow base 61 4 (.slice (some ⟨ga, 0, none⟩) nq' cq) nq' ((aggB flv (l.take (i + 1))).flatMap Bz.cells) from by rw [hw14, HWE3.out, ← HNEW.out]; exact HO14.out)
              have HBV := Lib.hid (show Below base w w14 from by rw [hw14, HWE3.out]; exact (show Below base w w13.drew from ⟨HBU.out.os, HBU.out.tape, HBU.out.output, HBU.out.size, HBU.out.block⟩).setCell (by have := HGA.out; simpa using this) _)
              have HLN : Hid (nq' = (aggB flv (l.take (i + 1))).length) := Lib.hid (by rw [← HNEW.out, List.length_set, List.length_set]; exact HNQ.out)
              clear hw14 dd3 y3 c3 z3 d0 d1 d2 d3 d4 d5 d6 d7 d8 d9 d10 d11 d12 d13 d5' HO14 PL HOU HBU
              go_wp2_with fail
              go_roundw
              case rel => exact ⟨i + 1, nq', by go_num, HIN.out, rfl, HOV, HLN, HBV⟩
              case measure => have := HIN.out; simp [intOf]; omega
            · have hkp : kk + 1 ≤ p := by
                rcases Nat.lt_or_ge kk p with h | h
                · omega
                · exfalso
                  have h1 : kk = p := by have := HKP.out; omega
                  have h2 := HPH.out (by have := HKN.out; omega)
                  unfold plcB at h2
                  obtain ⟨g1, g2, _⟩ := List.findIdx?_eq_some_iff_getElem.1 h2
                  have g3 := of_decide_eq_true g2
                  have g4 : (aggB flv (l.take i))[p]'g1 = ⟨xs, xo, xc, xe⟩ := by
                    have := HBK.out
                    rw [h1] at this
                    exact (List.getElem?_eq_some_iff.1 this).2
                  rw [g4] at g3
                  injection g3 with g5 g6
                  exact hkey ⟨g5, g6⟩
              have HKP1 := Lib.hid hkp
              clear hkp hkn
              by_cases h1 : xs = fsv
              · have h2 : ¬ xo = fop := fun h => hkey ⟨h1, h⟩
                have e1 : (xs.toList == fsv.toList) = true := by rw [h1]; exact beq_self_eq_true _
                have e2 : (xo.toList == fop.toList) = false := beq_eq_false_iff_ne.2 (fun h => h2 (strz_inj h))
                clear hkey h1 h2
                go_wp2_with fail
                have n0 := fun p : NowB wr => p.cell d0
                have n1 := fun p : NowB wr => p.cell d1
                have n2 := fun p : NowB wr => p.cell d2
                have n3 := fun p : NowB wr => p.cell d3
                have n4 := fun p : NowB wr => p.cell d4
                have n5 := fun p : NowB wr => p.cell d5
                have n6 := fun p : NowB wr => p.cell d6
                have n7 := fun p : NowB wr => p.cell d7
                have n8 := fun p : NowB wr => p.cell d8
                have n9 := fun p : NowB wr => p.cell d9
                have n10 := fun p : NowB wr => p.cell d10
                have n11 := fun p : NowB wr => p.cell d11
                have n12 := fun p : NowB wr => p.cell d12
                have n13 := fun p : NowB wr => p.cell d13
                have m0 := fun p : NowB wr => p.cell b0
                have m1 := fun p : NowB wr => p.cell b1
                have m2 := fun p : NowB wr => p.cell b2
                have m3 := fun p : NowB wr => p.cell b3
                clear d0 d1 d2 d3 d4 d5 d6 d7 d8 d9 d10 d11 d12 d13 b0 b1 b2 b3
                refine wp_region_quiet_below (by kernel_rfl) (by kernel_rfl) ?_
                repeat (go_big_quiet_step ((fail)))
                refine wpQuiet_nil ?_
                intro _ hw'
                obtain ⟨pp, hw''⟩ := hw'
                subst hw''
                have HW9 := Lib.hid (HW.out.trans (pp.h.mono HW.out.size))
                have HP9 := Lib.hid pp.h
                generalize pp.W = w9 at *
                go_wp2_with fail
                go_roundw
                case rel => exact ⟨kk + 1, by go_num, HKP1, HW9⟩
                case measure => have := HKP1.out; simp [intOf]; omega
              · have e1 : (xs.toList == fsv.toList) = false := beq_eq_false_iff_ne.2 (fun h => h1 (strz_inj h))
                clear hkey h1
                go_wp2_with fail
                have n0 := fun p : NowB wr => p.cell d0
                have n1 := fun p : NowB wr => p.cell d1
                have n2 := fun p : NowB wr => p.cell d2
                have n3 := fun p : NowB wr => p.cell d3
                have n4 := fun p : NowB wr => p.cell d4
                have n5 := fun p : NowB wr => p.cell d5
                have n6 := fun p : NowB wr => p.cell d6
                have n7 := fun p : NowB wr => p.cell d7
                have n8 := fun p : NowB wr => p.cell d8
                have n9 := fun p : NowB wr => p.cell d9
                have n10 := fun p : NowB wr => p.cell d10
                have n11 := fun p : NowB wr => p.cell d11
                have n12 := fun p : NowB wr => p.cell d12
                have n13 := fun p : NowB wr => p.cell d13
                have m0 := fun p : NowB wr => p.cell b0
                have m1 := fun p : NowB wr => p.cell b1
                have m2 := fun p : NowB wr => p.cell b2
                have m3 := fun p : NowB wr => p.cell b3
                clear d0 d1 d2 d3 d4 d5 d6 d7 d8 d9 d10 d11 d12 d13 b0 b1 b2 b3
                refine wp_region_quiet_below (by kernel_rfl) (by kernel_rfl) ?_
                repeat (go_big_quiet_step ((fail)))
                refine wpQuiet_nil ?_
                intro _ hw'
                obtain ⟨pp, hw''⟩ := hw'
                subst hw''
                have HW9 := Lib.hid (HW.out.trans (pp.h.mono HW.out.size))
                have HP9 := Lib.hid pp.h
                generalize pp.W = w9 at *
                go_wp2_with fail
                go_roundw
                case rel => exact ⟨kk + 1, by go_num, HKP1, HW9⟩
                case measure => have := HKP1.out; simp [intOf]; omega
          · have hkq : kk = nq := by have := HKP.out; have := HPN.out; omega
            have hkp : p = nq := by have := HKP.out; have := HPN.out; omega
            have HPL := Lib.hid (HPM.out hkp)
            have HKQ := Lib.hid hkq
            have g1 : decide ((kk : Int) < (nq : Int)) = false := decide_eq_false (by omega)
            have g2 : decide (kk < nq) = false := decide_eq_false (by omega)
            have e3 : (kk == nq) = true := by rw [hkq]; exact beq_self_eq_true _
            have e4 : ((kk : Int) == (nq : Int)) = true := by rw [hkq]; exact beq_self_eq_true _
            clear hkn hkp hkq
            go_wp2_with fail
            have n0 := fun p : NowB wr => p.cell d0
            have n1 := fun p : NowB wr => p.cell d1
            have n2 := fun p : NowB wr => p.cell d2
            have n3 := fun p : NowB wr => p.cell d3
            have n4 := fun p : NowB wr => p.cell d4
            have n5 := fun p : NowB wr => p.cell d5
            have n6 := fun p : NowB wr => p.cell d6
            have n7 := fun p : NowB wr => p.cell d7
            have n8 := fun p : NowB wr => p.cell d8
            have n9 := fun p : NowB wr => p.cell d9
            have n10 := fun p : NowB wr => p.cell d10
            have n11 := fun p : NowB wr => p.cell d11
            have n12 := fun p : NowB wr => p.cell d12
            have n13 := fun p : NowB wr => p.cell d13
            clear d0 d1 d2 d3 d4 d5 d6 d7 d8 d9 d10 d11 d12 d13
            refine wp_region_quiet_below (by kernel_rfl) (by kernel_rfl) ?_
            repeat (go_big_quiet_step ((fail)))
            refine wpQuiet_nil ?_
            intro _ hw'
            obtain ⟨pp, hw''⟩ := hw'
            subst hw''
            have HW9 := Lib.hid (HW.out.trans (pp.h.mono HW.out.size))
            have HP9 := Lib.hid pp.h
            generalize pp.W = w9 at *
            go_upto_region 10 with fail
            have HO9 := Lib.hid (own_below HO.out HW9.out)
            have HB9 := Lib.hid (HB.out.trans (HW9.out.mono HWS.out))
            clear n0 n1 n2 n3 n4 n5 n6 n7 n8 n9 n10 n11 n12 n13 HP9 HBq HW
            obtain ⟨af, haf, habf, d0, d1, d2, d3, d4, d5, d6, d7, d8, d9, d10, d11, d12, d13⟩ := row_cells (HR.out.below (HB9.out.mono hB)) HF.out
            obtain rfl : a0 = af := by injection haf
            simp only at d0 d1 d2 d3 d4 d5 d6 d7 d8 d9 d10 d11 d12 d13
            rw [HOO.out.1] at d4
            rw [HOO.out.2] at d5
            have hbl : Below w9.heap.size w9 ((w9.alloc (.cells #[.string fsv, .string fop, .int .i64 0, .int .i64 0] 61)).drew) := by
              have h := (Below.refl w9.heap.size w9).alloc (Nat.le_refl _) (.cells #[.string fsv, .string fop, .int .i64 0, .int .i64 0] 61)
              exact ⟨h.os, h.tape, h.output, h.size, h.block⟩
            have HSd := Lib.hid (show base ≤ w9.heap.size from by have := HB9.out.size; have := HBASE.out; omega)
            have APP := Lib.hid (fun ty => appZ (ty := ty) (own_below HO9.out hbl) (K := [Bz.mk fsv fop 0 0]) (m := 1) (c := 1) (Rd.lit w9 #[.string fsv, .string fop, .int .i64 0, .int .i64 0] 61).drew rfl (by have := HNA.out; omega) (by have := HSd.out; have := hbl.size; omega))
            have HBL := Lib.hid hbl
            have HAB := Lib.hid (show a0.block < B ∧ B ≤ base from ⟨habf, hB⟩)
            have hge := own_block_ge HO9.out
            have HGE := Lib.hid hge
            clear hbl hge d0 d1 d4 d5 d6 d7 d8 d9 d10 d11 d12 d13 haf habf
            go_region_held3 (fun w' => w'.cell? ⟨(a0.add (i * 14)).block, (a0.add (i * 14)).off + 2, none⟩ = some (.string fsv) ∧ w'.cell? ⟨(a0.add (i * 14)).block, (a0.add (i * 14)).off + 3, none⟩ = some (.string fop))
              (first
                | go_keep
                | (have hq0 := HAB.out; have hq1 := HGE.out; have hq2 := HSd.out; exact ⟨(hg12.cell (B := base) (by simp; omega) hq1 (by show (a0.add (i * 14)).block < base; rw [block_add]; omega)).trans (by go_simp), (hg12.cell (B := base) (by simp; omega) hq1 (by show (a0.add (i * 14)).block < base; rw [block_add]; omega)).trans (by go_simp)⟩))
              ((refine step_app (by rfl) (.tmp 61) (.tmp 73) _ _ (by rfl) (by rfl) (by rfl) (APP.out _) ?_; rintro v12 wt ⟨ho12, hg12⟩))
            have HO12 := Lib.hid ho12
            have HG12 := Lib.hid hg12
            clear ho12 hg12
            go_upto_region 11 with fail
            obtain ⟨tA, cq, rfl, _, _⟩ := own_rd HO12.out
            obtain ⟨ga, rfl, hga, hgl⟩ := own_place HO12.out (by omega)
            have HGA := Lib.hid hga
            have hown : ∀ b, Value.ownBlock (.slice zA nq zc) = some b → base ≤ b := HGE.out
            have HBT := Lib.hid (HG12.out.below (HB9.out.trans (HBL.out.mono HSd.out)) (by have := HSd.out; have := HBL.out.size; omega) hown)
            obtain ⟨nq', hnq'⟩ : ∃ q, q = nq + 1 := ⟨_, rfl⟩
            have HOT : Hid (wt.ownsRow base 61 4 (.slice (some ⟨ga, 0, none⟩) nq' cq) nq' ((aggB flv (l.take i) ++ [Bz.mk fsv fop 0 0]).flatMap Bz.cells)) := Lib.hid (by rw [hnq']; exact HO12.out)
            rw [← hnq']
            have HIL := Lib.hid (show kk < nq' from by have := HKQ.out; omega)
            have HNQ : Hid (nq' = (aggB flv (l.take i) ++ [Bz.mk fsv fop 0 0]).length) := Lib.hid (by rw [List.length_append, ← HNQ0.out]; exact hnq')
            obtain ⟨xs, xo, xc, xe, hx1, hx2, hx3, hx4⟩ : ∃ (xs xo : ByteArray) (xc xe : Int), fsv = xs ∧ fop = xo ∧ (0 : Int) = xc ∧ (0 : Int) = xe := ⟨_, _, _, _, rfl, rfl, rfl, rfl⟩
            have HAT : Hid ((aggB flv (l.take i) ++ [Bz.mk fsv fop 0 0])[kk]? = some ⟨xs, xo, xc, xe⟩) := Lib.hid (by rw [← hx1, ← hx2, ← hx3, ← hx4, HKQ.out, HNQ0.out]; simp)
            have HXX := Lib.hid (And.intro hx1 (And.intro hx2 (And.intro hx3 hx4)))
            have HBD := Lib.hid (show (-9223372036854775808 ≤ xc ∧ xc ≤ 9223372036854775807) ∧ (-9223372036854775808 ≤ xe ∧ xe ≤ 9223372036854775807) ∧ (-9223372036854775808 ≤ o0 ∧ o0 ≤ 9223372036854775807) ∧ (-9223372036854775808 ≤ o1 ∧ o1 ≤ 9223372036854775807) from by have := HO01.out; omega)
            have hnb : nq' ≤ 1001 := by have := HNA.out; omega
            have hadd : ∀ q : Nat, (⟨ga, 0, none⟩ : Addr).add q = ⟨ga, q, none⟩ := fun q => by rw [Addr.add_lit, Nat.zero_add]
            clear hnq' hx1 hx2 hx3 hx4 APP HBL HSd HG12 HO12 HO9 HB9 HGE hown hga hgl g1 g2 e3 e4
            have kk0 : (0 : Int) ≤ (kk : Int) := by omega
            have kk1 : (kk : Int) < (nq' : Int) := by have := HIL.out; omega
            have hkn' : kk < nq' := HIL.out
            obtain ⟨af, haf, habf, d0, d1, d2, d3, d4, d5, d6, d7, d8, d9, d10, d11, d12, d13⟩ := row_cells (HR.out.below (HBT.out.mono hB)) HF.out
            obtain rfl : a0 = af := by injection haf
            simp only at d0 d1 d2 d3 d4 d5 d6 d7 d8 d9 d10 d11 d12 d13
            rw [HOO.out.1] at d4
            rw [HOO.out.2] at d5
            have s0 := own_setZ HOT.out (i := kk * 4 + 2) (by omega) (.int .i64 (Bm.plus xc o0))
            have c2 : wt.cell? ⟨ga, kk * 4 + 2, none⟩ = some (.int .i64 xc) := by rw [s0.2.1, flatMap_at _ 4 bzcells_len _ kk 2 (by omega), HAT.out]; rfl
            have z2 := s0.1
            have HO13 := Lib.hid (show (wt.setCell ⟨ga, kk * 4 + 2, none⟩ (.int .i64 (Bm.plus xc o0))).ownsRow base 61 4 (.slice (some ⟨ga, 0, none⟩) nq' cq) nq' (((aggB flv (l.take i) ++ [Bz.mk fsv fop 0 0]).set kk (Bz.mk xs xo (Bm.plus xc o0) xe)).flatMap Bz.cells) from by
              have h := s0.2.2
              rwa [set_bz (aggB flv (l.take i) ++ [Bz.mk fsv fop 0 0]) kk 2 ⟨xs, xo, xc, xe⟩ ⟨xs, xo, Bm.plus xc o0, xe⟩ _ HAT.out (by decide) (fun q hq hne => by rcases (show q = 0 ∨ q = 1 ∨ q = 3 by omega) with rfl | rfl | rfl <;> rfl) rfl] at h)
            have PL := fun W' => Lib.hid (rplus_any xc o0 W' HBD.out.1.1 HBD.out.1.2 HBD.out.2.2.1.1 HBD.out.2.2.1.2)
            generalize hp2 : Bm.plus xc o0 = p2 at *
            have HP2 := Lib.hid hp2
            clear s0 hp2
            skip
            go_still_tail 16, (by kernel_rfl)
            still_call ((PL _).out.mono fun _ _ hh => ⟨hh.1, hh.2.symm⟩)
            repeat still_step
            refine wpStill_nil ?_
            change wpList _ _ _ _ _ wt.drew
            obtain ⟨we2, hwe2⟩ : ∃ we, we = wt.drew := ⟨_, rfl⟩
            rw [← hwe2]
            have dd2 : we2.cell? ⟨ga, kk * 4 + 2, none⟩ = some (.int .i64 xc) := by rw [hwe2]; exact c2
            have y2 : we2.frozen? ⟨ga, kk * 4 + 2, none⟩ = false := by rw [hwe2]; exact z2
            have HWE2 := Lib.hid hwe2
            clear hwe2
            go_upto_region 12 with fail
            obtain ⟨w13, hw13⟩ : ∃ w13, w13 = we2.setCell ⟨ga, kk * 4 + 2, none⟩ (.int .i64 p2) := ⟨_, rfl⟩
            rw [← hw13]
            have HOU := Lib.hid (show w13.ownsRow base 61 4 (.slice (some ⟨ga, 0, none⟩) nq' cq) nq' (((aggB flv (l.take i) ++ [Bz.mk fsv fop 0 0]).set kk (Bz.mk xs xo p2 xe)).flatMap Bz.cells) from by rw [hw13, HWE2.out]; exact HO13.out)
            have HBU := Lib.hid (show Below base w w13 from by rw [hw13, HWE2.out]; exact (show Below base w wt.drew from ⟨HBT.out.os, HBT.out.tape, HBT.out.output, HBT.out.size, HBT.out.block⟩).setCell (by have := HGA.out; simpa using this) _)
            have HAU := Lib.hid (show ((aggB flv (l.take i) ++ [Bz.mk fsv fop 0 0]).set kk (Bz.mk xs xo p2 xe))[kk]? = some ⟨xs, xo, p2, xe⟩ from by rw [List.getElem?_set_self (by have := HNQ.out; omega)])
            clear hw13 dd2 y2 c2 z2 d0 d1 d2 d3 d4 d5 d6 d7 d8 d9 d10 d11 d12 d13 HO13 PL HOT HBT habf haf
            obtain ⟨af, haf, habf, d0, d1, d2, d3, d4, d5, d6, d7, d8, d9, d10, d11, d12, d13⟩ := row_cells (HR.out.below (HBU.out.mono hB)) HF.out
            obtain rfl : a0 = af := by injection haf
            simp only at d0 d1 d2 d3 d4 d5 d6 d7 d8 d9 d10 d11 d12 d13
            rw [HOO.out.1] at d4
            rw [HOO.out.2] at d5
            have d5' : w13.cell? ⟨(a0.add (i * 14)).block, (a0.add (i * 14)).off + 4 + 1, none⟩ = some (.int .i64 o1) := d5
            have s1 := own_setZ HOU.out (i := kk * 4 + 3) (by omega) (.int .i64 (Bm.plus xe o1))
            have c3 : w13.cell? ⟨ga, kk * 4 + 3, none⟩ = some (.int .i64 xe) := by rw [s1.2.1, flatMap_at _ 4 bzcells_len _ kk 3 (by omega), HAU.out]; rfl
            have z3 := s1.1
            have HO14 := Lib.hid (show (w13.setCell ⟨ga, kk * 4 + 3, none⟩ (.int .i64 (Bm.plus xe o1))).ownsRow base 61 4 (.slice (some ⟨ga, 0, none⟩) nq' cq) nq' ((((aggB flv (l.take i) ++ [Bz.mk fsv fop 0 0]).set kk (Bz.mk xs xo p2 xe)).set kk (Bz.mk xs xo p2 (Bm.plus xe o1))).flatMap Bz.cells) from by
              have h := s1.2.2
              rwa [set_bz _ kk 3 ⟨xs, xo, p2, xe⟩ ⟨xs, xo, p2, Bm.plus xe o1⟩ _ HAU.out (by decide) (fun q hq hne => by rcases (show q = 0 ∨ q = 1 ∨ q = 2 by omega) with rfl | rfl | rfl <;> rfl) rfl] at h)
            have PL := fun W' => Lib.hid (rplus_any xe o1 W' HBD.out.2.1.1 HBD.out.2.1.2 HBD.out.2.2.2.1 HBD.out.2.2.2.2)
            generalize hp3 : Bm.plus xe o1 = p3 at *
            have HP3 := Lib.hid hp3
            clear s1 hp3
            go_still_tail 16, (by kernel_rfl)
            still_call ((PL _).out.mono fun _ _ hh => ⟨hh.1, hh.2.symm⟩)
            repeat still_step
            refine wpStill_nil ?_
            change wpList _ _ _ _ _ w13.drew
            obtain ⟨we3, hwe3⟩ : ∃ we, we = w13.drew := ⟨_, rfl⟩
            rw [← hwe3]
            have dd3 : we3.cell? ⟨ga, kk * 4 + 3, none⟩ = some (.int .i64 xe) := by rw [hwe3]; exact c3
            have y3 : we3.frozen? ⟨ga, kk * 4 + 3, none⟩ = false := by rw [hwe3]; exact z3
            have HWE3 := Lib.hid hwe3
            clear hwe3
            go_upto_region 4 with fail
            obtain ⟨w14, hw14⟩ : ∃ w14, w14 = we3.setCell ⟨ga, kk * 4 + 3, none⟩ (.int .i64 p3) := ⟨_, rfl⟩
            rw [← hw14]
            have HNEW : Hid ((((aggB flv (l.take i) ++ [Bz.mk fsv fop 0 0]).set kk (Bz.mk xs xo p2 xe)).set kk (Bz.mk xs xo p2 p3)) = aggB flv (l.take (i + 1))) := Lib.hid (by
              rw [List.set_set, HSTEP.out, ← HP2.out, ← HP3.out]
              obtain ⟨q1, q2, q3, q4⟩ := HXX.out
              rw [bump_miss HPL.out, HKQ.out, HNQ0.out, ← q1, ← q2, ← q3, ← q4]
              simp)
            have HOV := Lib.hid (show w14.ownsRow base 61 4 (.slice (some ⟨ga, 0, none⟩) nq' cq) nq' ((aggB flv (l.take (i + 1))).flatMap Bz.cells) from by rw [hw14, HWE3.out, ← HNEW.out]; exact HO14.out)
            have HBV := Lib.hid (show Below base w w14 from by rw [hw14, HWE3.out]; exact (show Below base w w13.drew from ⟨HBU.out.os, HBU.out.tape, HBU.out.output, HBU.out.size, HBU.out.block⟩).setCell (by have := HGA.out; simpa using this) _)
            have HLN : Hid (nq' = (aggB flv (l.take (i + 1))).length) := Lib.hid (by rw [← HNEW.out, List.length_set, List.length_set]; exact HNQ.out)
            clear hw14 dd3 y3 c3 z3 d0 d1 d2 d3 d4 d5 d6 d7 d8 d9 d10 d11 d12 d13 d5' HO14 PL HOU HBU
            go_wp2_with fail
            go_roundw
            case rel => exact ⟨i + 1, nq', by go_num, HIN.out, rfl, HOV, HLN, HBV⟩
            case measure => have := HIN.out; simp [intOf]; omega
      · have hne : (flv == lv) = false := beq_eq_false_iff_ne.2 hl
        rw [if_neg hl] at HSTEP
        have HOV := Lib.hid (show wr.ownsRow base 61 4 (.slice zA nq zc) nq ((aggB lv (l.take (i + 1))).flatMap Bz.cells) from by rw [HSTEP.out]; exact HO.out)
        have HLN : Hid (nq = (aggB lv (l.take (i + 1))).length) := Lib.hid (by rw [HSTEP.out]; exact HNQ0.out)
        clear hl HO HNQ0
        go_wp2_with fail
        go_roundw
        case rel => exact ⟨i + 1, nq, by go_num, HIN.out, rfl, HOV, HLN, HB⟩
        case measure => have := HIN.out; simp [intOf]; omega
    · obtain rfl : i = n := by omega
      have htk : l.take i = l := List.take_of_length_le (by rw [← HN.out]; exact Nat.le_refl _)
      rw [htk] at HO HNQ0
      have HONE := Lib.hid (aggB_one lv l)
      have HN1 := Lib.hid (show nq ≤ 1000 from by have := HNA.out; omega)
      obtain ⟨G, hG⟩ : ∃ G, G = aggB lv l := ⟨_, rfl⟩
      rw [← hG] at HO HNQ0 HONE
      have HG := Lib.hid hG
      clear hG htk hlt hi HNA
      go_upto_region 14 with fail
      go_loopw [10] (fun v wq => ∃ i : Nat, v = .int .i64 (i : Int) ∧ Hid (i ≤ nq) ∧ Hid (wq.ownsRow base 61 4 (.slice zA nq zc) nq ((srtB (G.take i) ++ G.drop i).flatMap Bz.cells)) ∧ Hid (Below base w wq)) (fun v _ => nq - (intOf v).toNat)
      case atStart => exact ⟨0, rfl, Lib.hid (Nat.zero_le _), Lib.hid (show wr.ownsRow base 61 4 (.slice zA nq zc) nq ((srtB (G.take 0) ++ G.drop 0).flatMap Bz.cells) from HO.out), HB⟩
      clear HO HB
      case round =>
        obtain ⟨i, rfl, HI, HOi, HBi⟩ := hrel
        by_cases hin : i < nq
        · obtain ⟨x, hx⟩ : ∃ x, G[i]? = some x := ⟨_, List.getElem?_eq_getElem (by rw [← HNQ0.out]; exact hin)⟩
          obtain ⟨S, hS⟩ : ∃ S, S = srtB (G.take i) := ⟨_, rfl⟩
          obtain ⟨D, hD⟩ : ∃ D, D = G.drop (i + 1) := ⟨_, rfl⟩
          have hdr : G.drop i = x :: D := by
            have h := List.drop_eq_getElem_cons (l := G) (i := i) (by rw [← HNQ0.out]; exact hin)
            rw [h, hD, (List.getElem?_eq_some_iff.1 hx).2]
          have HSO := Lib.hid (show SortB S from by rw [hS]; exact srtB_sort (HONE.out.sublist (List.take_sublist i G)))
          have HSL := Lib.hid (show S.length = i from by rw [hS, srtB_len, List.length_take, ← HNQ0.out]; omega)
          have HNX := Lib.hid (show srtB (G.take (i + 1)) = insB x S from by rw [hS, List.take_add_one, hx]; exact srtB_snoc _ _)
          rw [← hS, hdr] at HOi
          have HDD := Lib.hid hD
          have HIN := Lib.hid (show i + 1 ≤ nq from hin)
          obtain ⟨ga, hzA, hga, _⟩ := own_place HOi.out (by omega)
          subst hzA
          have HGA := Lib.hid hga
          have HLL := Lib.hid (show nq = i + 1 + D.length from by rw [hD, List.length_drop, ← HNQ0.out]; omega)
          have hadd : ∀ q : Nat, (⟨ga, 0, none⟩ : Addr).add q = ⟨ga, q, none⟩ := fun q => by rw [Addr.add_lit, Nat.zero_add]
          have gi1 : decide ((i : Int) < (nq : Int)) = true := decide_eq_true (by omega)
          have gi2 : decide (i < nq) = true := decide_eq_true hin
          have gi3 : (i : Int) < (nq : Int) := by omega
          have nn1 : (nq : Int) ≤ 1000 := by have := HN1.out; omega
          have HS0 := Lib.hid (show base ≤ w.heap.size from by rw [HBASE.out]; exact Nat.le_refl _)
          clear hx hS hD hdr hin hga
          go_upto_region 17 with fail
          clear gi1 gi2
          go_loopw [11] (fun v wq => ∃ k : Nat, v = .int .i64 (k : Int) ∧ Hid (k ≤ i) ∧ Hid (∀ (q : Nat) (b : Bz), k ≤ q → S[q]? = some b → ordB x b < 0) ∧ Hid (wq.ownsRow base 61 4 (.slice (some ⟨ga, 0, none⟩) nq zc) nq ((S.take k ++ x :: (S.drop k ++ D)).flatMap Bz.cells)) ∧ Hid (Below base w wq)) (fun v _ => (intOf v).toNat)
          case atStart => exact ⟨i, rfl, Lib.hid (Nat.le_refl _), Lib.hid (fun q b hq hb => absurd (List.getElem?_eq_some_iff.1 hb).1 (by rw [HSL.out]; omega)), Lib.hid (by have h := HOi.out; rw [List.take_of_length_le (by rw [HSL.out]; exact Nat.le_refl _), List.drop_of_length_le (by rw [HSL.out]; exact Nat.le_refl _)]; exact h), HBi⟩
          clear HOi HBi
          case round =>
            obtain ⟨k, rfl, HK, HAFT, HOk, HBk⟩ := hrel
            by_cases hk0 : k = 0
            · subst hk0
              have HINS := Lib.hid (show S.take 0 ++ x :: (S.drop 0 ++ D) = srtB (G.take (i + 1)) ++ G.drop (i + 1) from by
                rw [HNX.out, ← HDD.out, insB_at HSO.out (Nat.zero_le _) HAFT.out (fun b h => absurd h (Nat.lt_irrefl 0))]
                rfl)
              have HOX := Lib.hid (show wr.ownsRow base 61 4 (.slice (some ⟨ga, 0, none⟩) nq zc) nq ((srtB (G.take (i + 1)) ++ G.drop (i + 1)).flatMap Bz.cells) from by rw [← HINS.out]; exact HOk.out)
              clear HOk
              go_wp2_with fail
              refine wp_region_quiet_below (by kernel_rfl) (by kernel_rfl) ?_
              repeat (go_big_quiet_step ((fail)))
              refine wpQuiet_nil ?_
              intro _ hw'
              obtain ⟨pp, hw''⟩ := hw'
              subst hw''
              have HW9 := Lib.hid pp.h
              have HP9 := Lib.hid pp.h
              generalize pp.W = w9 at *
              go_wp2_with fail
              go_roundw
              case rel => exact ⟨i + 1, by go_num, HIN, Lib.hid (own_below HOX.out HP9.out), Lib.hid (HBk.out.trans (HP9.out.mono (by have := HBk.out.size; have := HS0.out; omega)))⟩
              case measure => have := HIN.out; simp [intOf]; omega
            · obtain ⟨m, hm⟩ : ∃ m, k = m + 1 := ⟨k - 1, by omega⟩
              subst hm
              obtain ⟨y, hy⟩ : ∃ y, S[m]? = some y := ⟨_, List.getElem?_eq_getElem (by rw [HSL.out]; have := HK.out; omega)⟩
              have hmi : m + 1 ≤ i := HK.out
              have hTL : (S.take (m + 1)).length = m + 1 := by rw [List.length_take, HSL.out]; omega
              have hLk : (S.take (m + 1) ++ x :: (S.drop (m + 1) ++ D))[m + 1]? = some x := by rw [List.getElem?_append_right (by omega), hTL]; simp
              have hLm : (S.take (m + 1) ++ x :: (S.drop (m + 1) ++ D))[m]? = some y := by rw [List.getElem?_append_left (by omega), List.getElem?_take_of_lt (Nat.lt_succ_self _)]; exact hy
              obtain ⟨⟨x0, x1, x2, x3⟩, u0, u1, u2, u3⟩ := own_cells4 HOk.out hLk
              obtain ⟨⟨y0, y1, y2, y3⟩, v0, v1, v2, v3⟩ := own_cells4 HOk.out hLm
              obtain ⟨kk, hkk⟩ : ∃ kk, kk = m + 1 := ⟨_, rfl⟩
              rw [← hkk] at x0 x1 x2 x3 u0 u1 u2 u3
              obtain ⟨bb, hbb⟩ : ∃ bb, bb = decide (ordB x y < 0) := ⟨_, rfl⟩
              have HBB := Lib.hid hbb
              have OC0 := fun W => busier_calls x y W
              rw [← hbb] at OC0
              have HY := Lib.hid hy
              obtain ⟨xs, xo, xc, xe⟩ := x
              obtain ⟨ys, yo, yc, ye⟩ := y
              have OC := fun W => Lib.hid (OC0 W)
              simp only [Bz.cells] at OC
              simp only at x0 x1 x2 x3 y0 y1 y2 y3
              have e2 : IntKind.i64.wrap ((kk : Int) - 1) = (m : Int) := by rw [IntKind.wrap_i64] <;> omega
              have k0 : (0 : Int) < (kk : Int) := by omega
              have gk1 : decide ((0 : Int) < (kk : Int)) = true := decide_eq_true k0
              have gk2 : decide (0 < kk) = true := decide_eq_true (by omega)
              have k1 : (kk : Int) < (nq : Int) := by have := HIN.out; omega
              have k2 : (0 : Int) ≤ (kk : Int) := by omega
              have k3 : (0 : Int) ≤ (m : Int) := by omega
              have k4 : (m : Int) < (nq : Int) := by have := HIN.out; omega
              have HKK := Lib.hid hkk
              have HMI := Lib.hid hmi
              rw [← hkk]
              clear hbb OC0 hy hLk hLm hTL hmi hkk hk0
              go_wp2_with fail
              have n0 := fun p : NowB wr => p.cell x0
              have n1 := fun p : NowB wr => p.cell x1
              have n2 := fun p : NowB wr => p.cell x2
              have n3 := fun p : NowB wr => p.cell x3
              have m0 := fun p : NowB wr => p.cell y0
              have m1 := fun p : NowB wr => p.cell y1
              have m2 := fun p : NowB wr => p.cell y2
              have m3 := fun p : NowB wr => p.cell y3
              clear x0 x1 x2 x3 y0 y1 y2 y3
              refine wp_region_quiet_below (by kernel_rfl) (by kernel_rfl) ?_
              repeat (go_big_quiet_step ((go_at_call 49; with_reducible exact Calls.now_of (OC _).out)))
              refine wpQuiet_nil ?_
              intro _ hw'
              obtain ⟨pp, hw''⟩ := hw'
              subst hw''
              have HW9 := Lib.hid pp.h
              have HP9 := Lib.hid pp.h
              generalize pp.W = w9 at *
              have HO9 := Lib.hid (own_below HOk.out HP9.out)
              have HB9 := Lib.hid (HBk.out.trans (HP9.out.mono (by have := HBk.out.size; have := HS0.out; omega)))
              clear HOk HBk u0 u1 u2 u3 v0 v1 v2 v3
              cases bb
              · have hno : ¬ ordB ⟨xs, xo, xc, xe⟩ ⟨ys, yo, yc, ye⟩ < 0 := of_decide_eq_false HBB.out.symm
                have HINS := Lib.hid (show S.take (m + 1) ++ Bz.mk xs xo xc xe :: (S.drop (m + 1) ++ D) = srtB (G.take (i + 1)) ++ G.drop (i + 1) from by
                  rw [HNX.out, ← HDD.out, insB_at HSO.out (by rw [HSL.out]; exact HMI.out) HAFT.out (fun b _ hb => by
                    have h1 : S[m]? = some b := by simpa using hb
                    rw [HY.out] at h1
                    injection h1 with h1
                    rw [← h1]; exact hno)]
                  simp)
                have HOX := Lib.hid (show w9.ownsRow base 61 4 (.slice (some ⟨ga, 0, none⟩) nq zc) nq ((srtB (G.take (i + 1)) ++ G.drop (i + 1)).flatMap Bz.cells) from by rw [← HINS.out]; exact HO9.out)
                clear HO9 hno
                go_wp2_with fail
                go_roundw
                case rel => exact ⟨i + 1, by go_num, HIN, HOX, HB9⟩
                case measure => have := HIN.out; simp [intOf]; omega
              · have hyes : ordB ⟨xs, xo, xc, xe⟩ ⟨ys, yo, yc, ye⟩ < 0 := of_decide_eq_true HBB.out.symm
                have HAF2 := Lib.hid (show ∀ (q : Nat) (b : Bz), m ≤ q → S[q]? = some b → ordB ⟨xs, xo, xc, xe⟩ b < 0 from fun q b hq hb => by
                  rcases Nat.lt_or_ge m q with h | h
                  · exact HAFT.out q b h hb
                  · have : q = m := by omega
                    subst this
                    rw [HY.out] at hb
                    injection hb with hb
                    rw [← hb]; exact hyes)
                have hTL : (S.take m).length = m := by rw [List.length_take, HSL.out]; have := HMI.out; omega
                have hL : S.take (m + 1) ++ Bz.mk xs xo xc xe :: (S.drop (m + 1) ++ D) = S.take m ++ Bz.mk ys yo yc ye :: Bz.mk xs xo xc xe :: (S.drop (m + 1) ++ D) := by
                  rw [List.take_add_one, HY.out]
                  simp
                have hDR : S.drop m = Bz.mk ys yo yc ye :: S.drop (m + 1) := by
                  have hml : m < S.length := by rw [HSL.out]; exact HMI.out
                  rw [List.drop_eq_getElem_cons hml, (List.getElem?_eq_some_iff.1 HY.out).2]
                have HSW := Lib.hid (show ((S.take (m + 1) ++ Bz.mk xs xo xc xe :: (S.drop (m + 1) ++ D)).set kk (Bz.mk ys yo yc ye)).set m (Bz.mk xs xo xc xe) = S.take m ++ Bz.mk xs xo xc xe :: (S.drop m ++ D) from by
                  have h := swap_at (S.take m) (S.drop (m + 1) ++ D) (Bz.mk ys yo yc ye) (Bz.mk xs xo xc xe)
                  rw [hTL] at h
                  rw [hL, HKK.out, hDR]
                  exact h)
                obtain ⟨LL, hLL⟩ : ∃ LL, LL = S.take (m + 1) ++ Bz.mk xs xo xc xe :: (S.drop (m + 1) ++ D) := ⟨_, rfl⟩
                rw [← hLL] at HO9 HSW
                have hlen : LL.length * 4 = nq * 4 := by rw [← flatMap_len Bz.cells 4 bzcells_len LL]; exact HO9.out.1
                have HLN := Lib.hid (show LL.length = nq from by omega)
                have hgk : LL[kk]? = some (Bz.mk xs xo xc xe) := by
                  rw [hLL, HKK.out, List.getElem?_append_right (by rw [List.length_take, HSL.out]; omega), List.length_take, HSL.out, Nat.min_eq_left HMI.out]; simp
                have hgm : LL[m]? = some (Bz.mk ys yo yc ye) := by
                  rw [hLL, hL, List.getElem?_append_right (by omega), hTL]; simp
                obtain ⟨⟨a0, a1, a2, a3⟩, f0, f1, f2, f3⟩ := own_cells4 HO9.out hgk
                obtain ⟨⟨b0, b1, b2, b3⟩, g0, g1, g2, g3⟩ := own_cells4 HO9.out hgm
                simp only at a0 a1 a2 a3 b0 b1 b2 b3
                have hne : kk ≠ m := by have := HKK.out; omega
                clear hyes hTL hL hDR hLL hlen hgk hgm n0 n1 n2 n3 m0 m1 m2 m3
                go_upto_region 19 with fail
                go_region
                obtain ⟨w19, hw19⟩ : ∃ w19, w19 = ((((((((w9.setCell ⟨ga, kk * 4, none⟩ (.string ys)).setCell ⟨ga, kk * 4 + 1, none⟩ (.string yo)).setCell ⟨ga, kk * 4 + 2, none⟩ (.int .i64 yc)).setCell ⟨ga, kk * 4 + 3, none⟩ (.int .i64 ye)).setCell ⟨ga, m * 4, none⟩ (.string xs)).setCell ⟨ga, m * 4 + 1, none⟩ (.string xo)).setCell ⟨ga, m * 4 + 2, none⟩ (.int .i64 xc)).setCell ⟨ga, m * 4 + 3, none⟩ (.int .i64 xe)).drew := ⟨_, rfl⟩
                rw [← hw19]
                have HO19 := Lib.hid (show w19.ownsRow base 61 4 (.slice (some ⟨ga, 0, none⟩) nq zc) nq ((S.take m ++ Bz.mk xs xo xc xe :: (S.drop m ++ D)).flatMap Bz.cells) from by
                  rw [hw19, ← HSW.out]
                  have hs1 := own_set4 (b := Bz.mk ys yo yc ye) HO9.out (i := kk) (by omega)
                  have hs2 := own_set4 (b := Bz.mk xs xo xc xe) hs1 (i := m) (by omega)
                  with_reducible exact own_drew hs2)
                have HB19 := Lib.hid (show Below base w w19 from by
                  rw [hw19]
                  have h := below_set4 (i := m) (c0 := .string xs) (c1 := .string xo) (c2 := .int .i64 xc) (c3 := .int .i64 xe) (below_set4 (i := kk) (c0 := .string ys) (c1 := .string yo) (c2 := .int .i64 yc) (c3 := .int .i64 ye) HB9.out HGA.out) HGA.out
                  with_reducible exact below_drewZ h)
                clear hw19 a0 a1 a2 a3 b0 b1 b2 b3 f0 f1 f2 f3 g0 g1 g2 g3 HO9 HB9
                go_wp2_with fail
                go_roundw
                case rel => exact ⟨m, by first | rfl | go_num, Lib.hid (by have := HMI.out; omega), HAF2, HO19, HB19⟩
                case measure => have := HKK.out; simp [intOf]; omega
        · obtain rfl : i = nq := by have := HI.out; omega
          have htk : G.take i = G := List.take_of_length_le (by rw [← HNQ0.out]; exact Nat.le_refl _)
          have hdk : G.drop i = [] := List.drop_of_length_le (by rw [← HNQ0.out]; exact Nat.le_refl _)
          rw [htk, hdk, List.append_nil] at HOi
          obtain ⟨S, hS⟩ : ∃ S, S = srtB G := ⟨_, rfl⟩
          rw [← hS] at HOi
          have HSE := Lib.hid hS
          have HSL := Lib.hid (show i = S.length from by rw [hS, srtB_len]; exact HNQ0.out)
          obtain ⟨j, hj⟩ : ∃ j : Nat, j = min i mx.toNat := ⟨_, rfl⟩
          have hjle : j ≤ i := by omega
          have CAPC := Lib.hid (fun W => show Calls Tryd.prog 26 #[.int .i64 mx, .int .i64 0, .int .i64 (i : Int)] W fun e w' => e = .returned (.int .i64 (j : Int)) ∧ W = w' from by
            have h := cap_any mx 0 (i : Int) W
            have e1 : (if mx < 0 then (0 : Int) else if (i : Int) < mx then (i : Int) else mx) = (j : Int) := by split <;> (try split) <;> omega
            rw [e1] at h
            exact h)
          have HJT := Lib.hid (show topB mx S = S.take j from by rw [topB_min, hj, HSL.out])
          have HJL := Lib.hid (show (S.take j).length = j from by rw [List.length_take, ← HSL.out]; omega)
          have j0 : (0 : Int) ≤ (j : Int) := by omega
          have j1 : (j : Int) ≤ (i : Int) := by omega
          have j2 : (i : Int) ≤ (zc : Int) := by have := HZC.out; omega
          have j3 : i ≤ zc := HZC.out
          have j4 : (j : Int) ≤ (zc : Int) := by omega
          have j5 : j ≤ zc := by omega
          have HRDS := Lib.hid (rdZ_take (j := j) (Rd.of_own HOi.out))
          clear hj htk hdk hS HOi hin
          go_wp2_with (go_at_call 26; (with_reducible refine (CAPC.out _).mono ?_); rintro ex w9 ⟨rfl, hw9⟩; subst hw9)
          go_ret
          refine ⟨zA, zc, ?_, ?_, ?_, HBi.out⟩
          · rw [← HG.out, ← HSE.out, HJT.out, HJL.out]; rfl
          · rw [← HG.out, ← HSE.out, HJT.out]; exact HRDS.out
          · rw [← HG.out, ← HSE.out, HJT.out, HJL.out]; exact j5
end Go.Proofs.YtkhhcnpmobgdgaaDoor
