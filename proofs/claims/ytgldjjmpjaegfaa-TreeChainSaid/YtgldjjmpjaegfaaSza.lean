/- TreeChain. -/
import Derived.Test.YtgldjjmpjaegfaaSyz
import Derived.BigQuiet
namespace Go.Proofs.Ytgldjjmpjaegfaa
open Go.RowKit Go.Maps
set_option linter.unusedVariables false
set_option linter.unusedSimpArgs false
set_option maxRecDepth 100000

set_option maxHeartbeats 16000000 in
theorem chain29 (n : Int) (oA : Option Addr) (O : List Int) (on oc : Nat) (w : World) (hO : Rd w w.heap.size oA (O.map (Value.int .i64))) (hon : on = O.length) (hol : on ≤ maxLen) : Calls Try.prog 5 #[.int .i64 n, .slice oA on oc] w fun e w' => e = .returned (.bool true) ∧ Below w.heap.size w w' := by
  have AL := Lib.hid (alive29_calls w)
  have HRO := Lib.hid hO
  have HON := Lib.hid hon
  have hml := hol
  simp only [maxLen] at hml
  clear hO hon hol
  rcases (show n < 1 ∨ (¬ n < 1 ∧ 40 < n) ∨ (¬ n < 1 ∧ ¬ 40 < n ∧ (on : Int) < n) ∨ (¬ n < 1 ∧ ¬ 40 < n ∧ ¬ (on : Int) < n) from by omega) with h1 | h1 | h1 | h1
  · have c1 : decide (n < 1) = true := decide_eq_true h1
    clear h1
    go_enter Try.func5, Try.ntmps5
    go_wp2_with (go_at_call 10; (with_reducible refine AL.out.mono ?_); rintro ex w1 ⟨rfl, hb1⟩; have HB1 := Lib.hid hb1; clear hb1)
    go_ret
    exact ⟨rfl, HB1.out⟩
  · have c1 : decide (n < 1) = false := decide_eq_false h1.1
    have c2 : decide (40 < n) = true := decide_eq_true h1.2
    clear h1
    go_enter Try.func5, Try.ntmps5
    go_wp2_with (go_at_call 10; (with_reducible refine AL.out.mono ?_); rintro ex w1 ⟨rfl, hb1⟩; have HB1 := Lib.hid hb1; clear hb1)
    go_ret
    exact ⟨rfl, HB1.out⟩
  · have c1 : decide (n < 1) = false := decide_eq_false h1.1
    have c2 : decide (40 < n) = false := decide_eq_false h1.2.1
    have c3 : decide ((on : Int) < n) = true := decide_eq_true h1.2.2
    clear h1
    go_enter Try.func5, Try.ntmps5
    go_wp2_with (go_at_call 10; (with_reducible refine AL.out.mono ?_); rintro ex w1 ⟨rfl, hb1⟩; have HB1 := Lib.hid hb1; clear hb1)
    go_ret
    exact ⟨rfl, HB1.out⟩
  · obtain ⟨N, rfl⟩ : ∃ N : Nat, n = (N : Int) := ⟨n.toNat, by omega⟩
    have c1 : decide ((N : Int) < 1) = false := decide_eq_false h1.1
    have c2 : decide (40 < (N : Int)) = false := decide_eq_false h1.2.1
    have c3 : decide ((on : Int) < (N : Int)) = false := decide_eq_false h1.2.2
    have c4 : decide (N < 1) = false := decide_eq_false (by omega)
    have c5 : decide (40 < N) = false := decide_eq_false (by omega)
    have c6 : decide (on < N) = false := decide_eq_false (by omega)
    have HNT := Lib.hid (show 1 ≤ N ∧ N ≤ 40 ∧ N ≤ on from by omega)
    clear h1
    obtain ⟨b0, hb0⟩ : ∃ b0, b0 = w.heap.size := ⟨_, rfl⟩
    have HB0 := Lib.hid hb0
    rw [← hb0] at HRO
    clear hb0
    go_enter Try.func5, Try.ntmps5
    go_upto_region 4 with (go_at_call 10; (with_reducible refine AL.out.mono ?_); rintro ex w1 ⟨rfl, hb1⟩; have HB1 := Lib.hid hb1; clear hb1)
    clear AL c1 c2 c3 c4 c5 c6
    have HBW1 := Lib.hid (show Below b0 w w1 from by rw [HB0.out]; exact HB1.out)
    have HS1 := Lib.hid (show b0 ≤ w1.heap.size from by rw [HB0.out]; exact HB1.out.size)
    obtain ⟨Wa, hra, hoa, hba, hsa⟩ := make_spans N (by have := HNT.out; omega) w1
    obtain ⟨Wb, hrb, hob, hbb, hsb⟩ := make_bools N (by have := HNT.out; omega) Wa
    obtain ⟨Wc, hrc, hoc, hbc, hsc⟩ := make_intN N (by have := HNT.out; omega) Wb
    have hba1 : Below b0 w Wa := HBW1.out.trans (hba.mono HS1.out)
    have hbb1 : Below b0 w Wb := hba1.trans (hbb.mono (by have := HS1.out; omega))
    have HBC := Lib.hid (show Below b0 w Wc from hbb1.trans (hbc.mono (by have := HS1.out; omega)))
    have HSC := Lib.hid (show b0 ≤ Wc.heap.size from by have := HS1.out; omega)
    have HOL := Lib.hid (own_mono (own_below (own_below hoa hbb) hbc) HS1.out)
    have HOH := Lib.hid (own_mono (own_below hob hbc) (show b0 ≤ Wa.heap.size by have := HS1.out; omega))
    have hoc2 : Wc.ownsRow Wb.heap.size 3 1 (.slice (some ⟨Wb.heap.size, 0, none⟩) N N) N ((List.replicate N 0).map encN) := by
      have e : (List.replicate N (0 : Int)).map encZ = (List.replicate N 0).map encN := by rw [List.map_replicate, List.map_replicate]; rfl
      rw [← e]; exact hoc
    have HOW := Lib.hid (own_mono hoc2 (show b0 ≤ Wb.heap.size by have := HS1.out; omega))
    clear hoa hob hoc hoc2 hba hbb hbc hsa hsb hsc hba1 hbb1
    go_upto_region 8 with fail
    generalize w1.heap.size = gl at *
    generalize Wa.heap.size = gh at *
    generalize Wb.heap.size = gw at *
    clear hra hrb hrc HB1 HBW1 HS1
    go_loopw [9] (fun vi wq => ∃ (i : Nat) (a : List Nat) (H : List Bool) (WW : List Nat) (L : List Ls), vi = .int .i64 (i : Int) ∧ Hid (i ≤ N) ∧ Hid (ChI N i a H WW L) ∧ Hid (wq.ownsRow b0 4 1 (.slice (some ⟨gh, 0, none⟩) N N) N (H.map Value.bool)) ∧ Hid (wq.ownsRow b0 3 1 (.slice (some ⟨gw, 0, none⟩) N N) N (WW.map encN)) ∧ Hid (wq.ownsRow b0 34 10 (.slice (some ⟨gl, 0, none⟩) N N) N (L.flatMap Ls.cells)) ∧ Hid (Below b0 w wq)) (fun vi _ => N - (intOf vi).toNat)
    case atStart => exact ⟨0, _, _, _, _, rfl, Lib.hid (Nat.zero_le _), Lib.hid (ChI.start N), by rw [List.map_replicate]; rw [List.map_replicate] at HOH; exact HOH, HOW, HOL, HBC⟩
    clear HOH HOW HOL HBC
    case round =>
      obtain ⟨i, a, H, WW, L, rfl, HI, HCH, HOH, HOW, HOL, HB⟩ := hrel
      by_cases hlt : i < N
      · have hnt := HNT.out
        obtain ⟨ov, hov⟩ : ∃ ov, O[i]? = some ov := ⟨_, List.getElem?_eq_getElem (by rw [← HON.out]; omega)⟩
        obtain ⟨ao, hao, hab, hoc⟩ := (HRO.out.below (by rw [HB0.out]; rw [HB0.out] at HB; exact HB.out)) (by rw [List.length_map, ← HON.out]; omega)
        subst hao
        have xo : wr.cell? (ao.add i) = some (.int .i64 ov) := hoc i _ (by rw [List.getElem?_map, hov]; rfl)
        obtain ⟨at_, hat⟩ : ∃ at_ : Nat, ov % 1024 = (at_ : Int) := ⟨(ov % 1024).toNat, by omega⟩
        have ea : bits .and .i64 ov 1023 = (at_ : Int) := by rw [i64_and1023, hat]
        have ii0 : (0 : Int) ≤ (i : Int) := by omega
        have ii1 : (i : Int) < (on : Int) := by omega
        have ii3 : (i : Int) < (N : Int) := by omega
        have nn0 : (0 : Int) < (N : Int) := by omega
        have nn1 : ¬ ((N : Int) = 0) := by omega
        have nn2 : (N : Int) ≤ 40 := by omega
        have d0 : decide ((i : Int) < (N : Int)) = true := decide_eq_true (by omega)
        have d1 : decide (i < N) = true := decide_eq_true hlt
        have e5 : ((N : Int) == 0) = false := beq_eq_false_iff_ne.2 (by omega)
        have e7 : (N == 0) = false := beq_eq_false_iff_ne.2 (by omega)
        have HLT := Lib.hid hlt
        have a0 : (0 : Int) ≤ (at_ : Int) := by omega
        have a1 : (at_ : Int) < 1024 := by omega
        obtain ⟨k0, hk0⟩ : ∃ k0, k0 = at_ % N := ⟨_, rfl⟩
        have er : (at_ : Int) % (N : Int) = (k0 : Int) := by rw [hk0]; rfl
        have HK0 := Lib.hid (show k0 < N from by rw [hk0]; exact Nat.mod_lt _ (by omega))
        clear hat hk0 hov hoc hab hlt hnt
        go_upto_region 11 with fail
        have HER := Lib.hid er
        clear ea er a0 a1 xo
        have HFR := Lib.hid (HCH.out.free HLT.out)
        go_loop [10] (fun kv => ∃ k : Nat, kv = .int .i64 k ∧ Hid (k < N)) (fun kv => dst H N N (intOf kv).toNat)
        case atStart => exact ⟨k0, by rw [← HER.out], HK0⟩
        case round =>
          obtain ⟨k, rfl, HK⟩ := hrel
          have kk0 : (0 : Int) ≤ (k : Int) := by omega
          have kk1 : (k : Int) < (N : Int) := by have := HK.out; omega
          obtain ⟨b, hb⟩ : ∃ b, H[k]? = some b := ⟨_, List.getElem?_eq_getElem (by rw [HCH.out.lH]; exact HK.out)⟩
          have hco := own_cells HOH.out k (by have := HK.out; omega)
          have hc1 : wr.cell? ⟨gh, k, none⟩ = some (.bool b) := by rw [hco.2.1, List.getElem?_map, hb]; rfl
          have hfz := hco.1
          have HBK := Lib.hid hb
          clear hco hb
          cases b
          · obtain ⟨-, -, hoh2, hg2⟩ := own_setq HOH.out (i := k) (by have := HK.out; omega) (.bool true)
            have how2 := own_keepT2 HOW.out HOH.out (by decide) hg2
            have hol2 := own_keepT2 HOL.out HOH.out (by decide) hg2
            have hb2 := hg2.below HB.out (by have := HB.out.size; have := HB0.out; omega) (own_block_ge HOH.out)
            obtain ⟨w6, hw6⟩ : ∃ w6, w6 = wr.setCell ⟨gh, k, none⟩ (.bool true) := ⟨_, rfl⟩
            rw [← hw6] at hoh2 how2 hol2 hb2
            obtain ⟨fw, -, how3, hg3⟩ := own_setq how2 (i := i) (by have := HLT.out; omega) (.int .i64 (k : Int))
            have hoh3 := own_keepT2 hoh2 how2 (by decide) hg3
            have hol3 := own_keepT2 hol2 how2 (by decide) hg3
            have hb3 := hg3.below hb2 (by have := hb2.size; have := HB0.out; omega) (own_block_ge how2)
            have hcw := (own_cells how2 i (by have := HLT.out; omega)).2.2
            obtain ⟨vw, hvw⟩ := Option.isSome_iff_exists.1 hcw
            obtain ⟨w7, hw7⟩ : ∃ w7, w7 = w6.setCell ⟨gw, i, none⟩ (.int .i64 (k : Int)) := ⟨_, rfl⟩
            rw [← hw7] at how3 hoh3 hol3 hb3
            obtain ⟨hol4, hg4⟩ := own_setS hol3 HCH.out.lL HK.out ((i + 1 : Nat) : Int) (i : Int)
            have hoh4 := own_keepT2 hoh3 hol3 (by decide) hg4
            have how4 := own_keepT2 how3 hol3 (by decide) hg4
            have hb4 := hg4.below hb3 (by have := hb3.size; have := HB0.out; omega) (own_block_ge hol3)
            have oc := own_cells hol3
            have hk10 := HK.out
            have o0 := (oc (k * 10) (by omega)).1
            have o1 := (oc (k * 10 + 1) (by omega)).1
            have o2 := (oc (k * 10 + 2) (by omega)).1
            have o3 := (oc (k * 10 + 3) (by omega)).1
            have o4 := (oc (k * 10 + 4) (by omega)).1
            have o5 := (oc (k * 10 + 5) (by omega)).1
            have o6 := (oc (k * 10 + 6) (by omega)).1
            have o7 := (oc (k * 10 + 7) (by omega)).1
            have o8 := (oc (k * 10 + 8) (by omega)).1
            have o9 := (oc (k * 10 + 9) (by omega)).1
            obtain ⟨u0, s0⟩ := Option.isSome_iff_exists.1 (oc (k * 10) (by omega)).2.2
            obtain ⟨u1, s1⟩ := Option.isSome_iff_exists.1 (oc (k * 10 + 1) (by omega)).2.2
            obtain ⟨u2, s2⟩ := Option.isSome_iff_exists.1 (oc (k * 10 + 2) (by omega)).2.2
            obtain ⟨u3, s3⟩ := Option.isSome_iff_exists.1 (oc (k * 10 + 3) (by omega)).2.2
            obtain ⟨u4, s4⟩ := Option.isSome_iff_exists.1 (oc (k * 10 + 4) (by omega)).2.2
            obtain ⟨u5, s5⟩ := Option.isSome_iff_exists.1 (oc (k * 10 + 5) (by omega)).2.2
            obtain ⟨u6, s6⟩ := Option.isSome_iff_exists.1 (oc (k * 10 + 6) (by omega)).2.2
            obtain ⟨u7, s7⟩ := Option.isSome_iff_exists.1 (oc (k * 10 + 7) (by omega)).2.2
            obtain ⟨u8, s8⟩ := Option.isSome_iff_exists.1 (oc (k * 10 + 8) (by omega)).2.2
            obtain ⟨u9, s9⟩ := Option.isSome_iff_exists.1 (oc (k * 10 + 9) (by omega)).2.2
            have p9 : (⟨gl, 0, none⟩ : Addr).add (k * 10) = ⟨gl, k * 10, none⟩ := by rw [Addr.add_lit, Nat.zero_add]
            have HCH2 := Lib.hid (HCH.out.step HLT.out HK.out HBK.out)
            obtain ⟨i1, hi1⟩ : ∃ i1, i1 = i + 1 := ⟨_, rfl⟩
            have e1 : IntKind.i64.wrap ((i : Int) + 1) = (i1 : Int) := by rw [IntKind.wrap_i64] <;> omega
            have e2 : IntKind.u64.wrap (i1 : Int) = (i1 : Int) := by have := HLT.out; have := HNT.out; rw [IntKind.wrap_u64] <;> omega
            have e3 : IntKind.u64.wrap (i : Int) = (i : Int) := by have := HLT.out; have := HNT.out; rw [IntKind.wrap_u64] <;> omega
            rw [← hi1] at hol4 hoh4 how4 hb4 HCH2
            rw [spZ_sets] at hol4 hoh4 how4 hb4
            have HI1 := Lib.hid hi1
            have HOL4 := Lib.hid hol4
            have HOH4 := Lib.hid hoh4
            have HOW4 := Lib.hid how4
            have HB4 := Lib.hid hb4
            have HW6 := Lib.hid hw6
            have HW7 := Lib.hid hw7
            clear hi1 hol4 hoh4 how4 hb4 hg4 hg3 hg2 hol3 hoh3 how3 hb3 hol2 hoh2 how2 hb2 oc hk10 hcw hw6 hw7
            go_upto_region 14 with fail
            rw [← HW6.out]
            clear hc1 hfz
            go_upto_region 15 with fail
            rw [← HW7.out]
            clear hvw fw HW6 HW7
            go_wp2_with fail
            go_roundw
            case rel => exact ⟨i1, _, _, _, _, by first | rfl | go_num, Lib.hid (by have := HLT.out; have := HI1.out; omega), HCH2, by rw [List.map_set]; exact HOH4, by rw [List.map_set]; exact HOW4, HOL4, HB4⟩
            case measure => have := HLT.out; have := HI1.out; simp [intOf]; omega
          · have er : ((k : Int) + 1) % (N : Int) = (((k + 1) % N : Nat) : Int) := rfl
            have HM0 := Lib.hid (show dst H N N ((k + 1) % N) < dst H N N k from by
              obtain ⟨j, hj, hf⟩ := HFR.out
              exact dst_lt HK.out hj (by simp [List.getD, HBK.out]) hf)
            have HK1 := Lib.hid (show (k + 1) % N < N from Nat.mod_lt _ (by have := HK.out; omega))
            obtain ⟨k1, hk1⟩ : ∃ k1, k1 = (k + 1) % N := ⟨_, rfl⟩
            rw [← hk1] at er HM0 HK1
            have HER1 := Lib.hid er
            clear hk1 er
            go_wp2_with fail
            go_round
            case rel => exact ⟨k1, by first | rfl | (rw [← HER1.out]) | go_num, HK1⟩
            case measure => have := HM0.out; rw [HER1.out]; simp [intOf]; omega
      · obtain rfl : i = N := by have := HI.out; omega
        have d0 : decide ((i : Int) < (i : Int)) = false := decide_eq_false (by omega)
        have d1 : decide (i < i) = false := decide_eq_false (by omega)
        clear hlt
        have HCF := Lib.hid HCH.out.fin
        have hrd : RdSps wr wr.heap.size (some ⟨gl, 0, none⟩) L := ⟨Rd.of_own HOL.out, fun y hy => by
          obtain ⟨x, hx⟩ := List.getElem?_of_mem hy
          have hxl := (List.getElem?_eq_some_iff.1 hx).1
          rw [HCF.out.ll] at hxl
          obtain ⟨j, hj, hj2⟩ := HCF.out.all hxl
          have e := HCF.out.at_ j x hj2
          rw [hx] at e
          injection e with e
          subst e
          have := HNT.out
          exact spZ_rd _ _ _ _ (by omega) (by omega)⟩
        have hll : i = L.length := HCF.out.ll.symm
        have hnt := HNT.out
        have DC := Lib.hid (depths_any L (some ⟨gl, 0, none⟩) i i wr.heap.size wr hrd (Nat.le_refl _) hll (by omega))
        have OC := fun (w2 : World) (hb2 : Below wr.heap.size wr w2) => Lib.hid (order_any L (some ⟨gl, 0, none⟩) i i wr.heap.size w2 (hrd.below hb2) hb2.size hll (by omega))
        have SC := fun (w2 : World) (hb2 : Below wr.heap.size wr w2) => Lib.hid (sizes_any L (some ⟨gl, 0, none⟩) i i wr.heap.size w2 (hrd.below hb2) hb2.size hll (by omega))
        have HOC := Lib.hid OC
        have HSC2 := Lib.hid SC
        have HLL := Lib.hid hll
        have HSW := Lib.hid (show b0 ≤ wr.heap.size from by have := HB.out.size; have := HB0.out; omega)
        clear hrd hll hnt OC SC
        go_upto_region 19 with (first
          | (go_at_call 17; (with_reducible refine DC.out.mono ?_); rintro ex w2 ⟨gd, P2, D, rfl, hp2, hd2, ho2, hb2⟩; have HP2 := Lib.hid hp2; have HD2 := Lib.hid hd2; have HO2 := Lib.hid ho2; have HB2 := Lib.hid hb2; have OC := HOC.out w2 hb2; clear hp2 hd2 ho2 hb2)
          | (go_at_call 15; (with_reducible refine OC.out.mono ?_); rintro ex w3 ⟨A3, c3, P3, M3, O3, rfl, hp3, hy3, he3, ht3, ho3, hb3⟩; have HP3 := Lib.hid hp3; have HY3 := Lib.hid hy3; have HE3 := Lib.hid he3; have HO3 := Lib.hid ho3; have HB3 := Lib.hid (HB2.out.trans (hb3.mono HB2.out.size)); have HG3 := Lib.hid hb3; have SC := HSC2.out w3 HB3.out; clear hp3 hy3 he3 ht3 ho3 hb3)
          | (go_at_call 19; (with_reducible refine SC.out.mono ?_); rintro ex w4 ⟨gs, P4, M4, O4, S, rfl, hp4, hy4, he4, ht4, hs4, ho4, hb4⟩; have HP4 := Lib.hid hp4; have HT4 := Lib.hid ht4; have HS4 := Lib.hid hs4; have HO4 := Lib.hid ho4; have HB4 := Lib.hid (HB3.out.trans (hb4.mono HB3.out.size)); have HG4 := Lib.hid hb4; clear hp4 hy4 he4 ht4 hs4 ho4 hb4))
        clear DC OC SC HOC HSC2
        have HFD := Lib.hid (HCF.out.dep HP2.out HD2.out)
        have HFO := Lib.hid (show O3 = a from by
          have hnt := HNT.out
          obtain ⟨x, hx⟩ : ∃ x, a[0]? = some x := ⟨_, List.getElem?_eq_getElem (by have := HCF.out.la; omega)⟩
          obtain ⟨d, hd⟩ : ∃ d, i = d + 1 := ⟨i - 1, by omega⟩
          have h := HCF.out.order HP3.out (bys_all HY3.out HLL.out) d 0 x (by omega) hx
          rw [← hd] at h
          rw [HE3.out, (HCF.out.kids HP3.out (bys_all HY3.out HLL.out)).1 x hx, h, List.drop_zero])
        have hnp : (namedM L).length = i ∧ Sy.Plain P4 i := by
          have h := namedM_plain L
          rw [← HLL.out] at h
          exact ⟨by rw [namedM_len]; exact HLL.out.symm, fun v z h2 => by
            by_cases hl : Sy.LR (Sy.pf (namedM L)) v
            · rw [(HP4.out.2 v).1 hl] at h2; injection h2 with h2; omega
            · rw [(HP4.out.2 v).2 hl] at h2; exact h v z h2⟩
        have HFS := Lib.hid (HCF.out.size HP4.out (show Sy.All i O4.reverse from ⟨(List.reverse_perm O4).nodup_iff.2 (by have h := HT4.out.nd; rw [List.append_nil] at h; exact h), fun x => by
          rw [List.mem_reverse]
          exact HT4.out.fin HP4.out hnp.1 hnp.2 (by rw [HP4.out.1]; exact hnp.1) x⟩) HS4.out)
        clear hnp
        have HOWF := Lib.hid (own_below HOW.out HB4.out)
        have HO2F := Lib.hid (own_below (own_below HO2.out HG3.out) HG4.out)
        have HO3F := Lib.hid (own_below HO3.out HG4.out)
        have HFIN := Lib.hid (show Below w.heap.size w w4 from by rw [← HB0.out]; exact HB.out.trans (HB4.out.mono HSW.out))
        obtain ⟨g3, rfl, _, _, _, _, _, _⟩ := own_parts HO3F.out (by have := HNT.out; omega)
        clear HO2 HO3 HOW HOL HOH HB HS4 HT4 HP4 HP3 HP2 HD2 HY3 HE3 HG3 HG4 HB2 HB3 HB4
        go_upto_region 22 with fail
        clear d0 d1
        go_loopw [14] (fun vi wq => ∃ (k : Nat), vi = .int .i64 (k : Int) ∧ Hid (k ≤ i) ∧ Hid (Below w4.heap.size w4 wq)) (fun vi _ => i - (intOf vi).toNat)
        case atStart => exact ⟨0, rfl, Lib.hid (Nat.zero_le _), Lib.hid (Below.refl _ _)⟩
        case round =>
          obtain ⟨k, rfl, HK, HBQ⟩ := hrel
          by_cases hlt : k < i
          · have d0 : decide ((k : Int) < (i : Int)) = true := decide_eq_true (by omega)
            have d1 : decide (k < i) = true := decide_eq_true hlt
            obtain ⟨x, hx⟩ : ∃ x, a[k]? = some x := ⟨_, List.getElem?_eq_getElem (by have := HCF.out.la; omega)⟩
            have hxn : x < i := HCF.out.lt x (List.mem_of_getElem? hx)
            have hnt := HNT.out
            obtain ⟨k1, hk1⟩ : ∃ k1, k1 = k + 1 := ⟨_, rfl⟩
            obtain ⟨dk, hdk⟩ : ∃ dk, dk = i - k := ⟨_, rfl⟩
            have HK1 := Lib.hid hk1
            have HLT := Lib.hid hlt
            have e1 : IntKind.i64.wrap ((k : Int) + 1) = (k1 : Int) := by rw [IntKind.wrap_i64] <;> omega
            have e2 : IntKind.i64.wrap ((i : Int) - (k : Int)) = (dk : Int) := by rw [IntKind.wrap_i64] <;> omega
            have i0 : (0 : Int) ≤ (k : Int) := by omega
            have i1 : (k : Int) < (i : Int) := by omega
            have i2 : (0 : Int) ≤ (x : Int) := by omega
            have i3 : (x : Int) < (i : Int) := by omega
            obtain ⟨p0, _⟩ := own_atN (own_below HOWF.out HBQ.out) (HCH.out.wh k x hx)
            obtain ⟨p1, _⟩ := own_atN (own_below HO2F.out HBQ.out) (HFD.out k x hx)
            obtain ⟨p2, _⟩ := own_atN (own_below HO3F.out HBQ.out) (show O3[k]? = some x by rw [HFO.out]; exact hx)
            obtain ⟨p3, _⟩ := own_atN (own_below HO4.out HBQ.out) (show S[x]? = some dk by
              obtain ⟨d, hd⟩ : ∃ d, dk = d + 1 := ⟨dk - 1, by omega⟩
              rw [hd]; exact HFS.out d k x (by omega) hx)
            have a1 : (⟨g3, 0, none⟩ : Addr).add k = ⟨g3, k, none⟩ := by rw [Addr.add_lit, Nat.zero_add]
            clear hx hxn hnt hk1 hdk hlt
            go_upto_region 24 with fail
            go_quiet (fail)
            go_wp2_with fail
            go_roundw
            case rel => exact ⟨k1, rfl, Lib.hid (by have := HLT.out; have := HK1.out; omega), Lib.hid (HBQ.out.trans ⟨rfl, rfl, rfl, Nat.le_refl _, fun _ _ => rfl⟩)⟩
            case measure => have := HLT.out; have := HK1.out; simp [intOf]; omega
          · have d0 : decide ((k : Int) < (i : Int)) = false := decide_eq_false (by omega)
            have d1 : decide (k < i) = false := decide_eq_false hlt
            clear hlt
            go_wp2_with fail
            go_ret
            exact ⟨rfl, HFIN.out.trans (HBQ.out.mono HFIN.out.size)⟩
end Go.Proofs.Ytgldjjmpjaegfaa
