/- Chapter 30, path: the document's Critical. -/
import Derived.Test.YtgldjjmpjaegfaaPhc
namespace Go.Proofs.Ytgldjjmpjaegfaa
open Go.RowKit Go.Maps
set_option linter.unusedVariables false
set_option linter.unusedSimpArgs false
set_option maxRecDepth 100000

set_option maxHeartbeats 16000000 in
theorem refcritical_any (l : List Ls) (A : Option Addr) (n c B : Nat) (w : World) (hS : RdSps w B A l) (hB : B ≤ w.heap.size) (hn : n = l.length) (hsm : n ≤ 500) :
    Calls Try.prog 26 #[.slice A n c] w fun e w' => ∃ A' q c' X, e = .returned (.slice A' q c') ∧ q = X.length ∧ X.length ≤ 600 ∧ CritOf l n X ∧ w'.ownsRow w.heap.size 3 1 (.slice A' q c') q (X.map encN) ∧ Below w.heap.size w w' := by
  have RC := Lib.hid (rightspans_any A l n c B w hn hS hB (by unfold maxLen; omega))
  have HN := Lib.hid hn
  obtain ⟨b0, hb0⟩ : ∃ b0, b0 = w.heap.size := ⟨_, rfl⟩
  have HSQ := Lib.hid (show ∀ W, Below b0 w W → RdSps W B A l from fun W h => hS.below (h.mono (by rw [hb0]; exact hB)))
  have HBB := Lib.hid (show ∀ W, Below b0 w W → B ≤ W.heap.size from fun W h => by have := h.size; omega)
  have HSB := Lib.hid (show ∀ W, Below b0 w W → b0 ≤ W.heap.size from fun W h => by have := h.size; omega)
  have HB0 := Lib.hid hb0
  have PC := fun (W : World) (h : Below b0 w W) => Lib.hid (refparents_any l A n c B W (HSQ.out W h) (HBB.out W h) hn (by omega))
  obtain ⟨fb, hfb⟩ : ∃ fb, fb = l.all fun x => right x.s := ⟨_, rfl⟩
  rw [← hfb] at RC
  have HFB := Lib.hid hfb
  rw [← hb0]
  clear hn hS hfb hB hb0
  cases fb
  · go_enter Try.func26, Try.ntmps26
    go_wp2_with (go_at_call 29; (with_reducible refine RC.out.mono ?_); rintro ex w1 ⟨rfl, hb1⟩; have HB1 := Lib.hid hb1; clear hb1)
    go_ret
    exact ⟨none, 0, 0, [], rfl, rfl, Nat.zero_le _, .inl ⟨HFB.out.symm, rfl⟩, World.ownsRow_nil _ _ _ _, by rw [HB0.out]; exact HB1.out⟩
  · go_enter Try.func26, Try.ntmps26
    go_upto_region 4 with (first
      | (go_at_call 29; (with_reducible refine RC.out.mono ?_); rintro ex w1 ⟨rfl, hb1⟩; have HB1 := Lib.hid (show Below b0 w w1 from by rw [HB0.out]; exact hb1); clear hb1)
      | (go_at_call 14; (with_reducible refine (PC _ HB1.out).out.mono ?_); rintro ex w3 ⟨pA, pc, P, rfl, hp3, ho3, hb3⟩; have HP := Lib.hid hp3; have HO := Lib.hid ho3; have HB3 := Lib.hid (HB1.out.trans (hb3.mono (HSB.out _ HB1.out))); clear hp3 ho3 hb3))
    clear RC PC
    obtain ⟨M, hM⟩ := Sy.bys_ex l
    have hF := Sy.fo_of HN.out HP.out hM
    obtain ⟨O, hO⟩ : ∃ O, O = Sy.ordM (kidsL P n M) n (M.filter fun i => parN P n i == n) := ⟨_, rfl⟩
    rw [← hO] at hF
    obtain ⟨g, hg⟩ := hF.dep
    have HF := Lib.hid hF
    have HG := Lib.hid hg
    obtain ⟨b3, hb3⟩ : ∃ b3, b3 = w3.heap.size := ⟨_, rfl⟩
    have HPQ := Lib.hid (show ∀ W, Below b3 w3 W → Rd W b3 pA (P.map encZ) from fun W h => by rw [hb3]; exact (own_read HO.out (Nat.le_refl _)).below (by rw [← hb3]; exact h))
    have HBQ := Lib.hid (show ∀ W, Below b3 w3 W → Below b0 w W from fun W h => HB3.out.trans (h.mono (by rw [hb3]; exact HSB.out _ HB3.out)))
    have HSC := Lib.hid (show ∀ W, Below b3 w3 W → b3 ≤ W.heap.size from fun W h => by rw [hb3]; exact h.size)
    have HZ3 := Lib.hid (show b0 ≤ b3 ∧ B ≤ b3 from by rw [hb3]; exact ⟨HSB.out _ HB3.out, HBB.out _ HB3.out⟩)
    have HK3 := Lib.hid (Below.refl b3 w3)
    have KC := fun (W : World) (h : Below b3 w3 W) (z : Int) => Lib.hid (refkids_any l A n c b3 P pA pc z W ((HSQ.out W (HBQ.out W h)).more HZ3.out.2) (HPQ.out W h) (HSC.out W h) HN.out HF.out.pl (by omega))
    have HKE := Lib.hid (show ∀ (z : Int) (K : List Nat), (z = -1 ∨ (0 ≤ z ∧ z < n)) → Sy.KidS (stS l) P z n K → K = M.filter fun q => parN P n q == Sy.ofZ n z from fun z K hz h => h.eq (Sy.KidS.of HN.out hM HF.out.plain HF.out.pl hz))
    have HOF := Lib.hid (show Sy.ofZ n (-1) = n ∧ ∀ x : Nat, Sy.ofZ n (x : Int) = x from ⟨by unfold Sy.ofZ; rw [if_pos rfl], fun x => by unfold Sy.ofZ; rw [if_neg (by omega)]; rfl⟩)
    clear hM hF hO hg HP HO HB1 HB3 hb3
    go_upto_region 6 with (go_at_call 39; (with_reducible refine (KC w3 HK3.out (-1)).out.mono ?_); rintro ex w5 ⟨kA, kc, K, rfl, hk5, ho5, hb5⟩; have HKS := Lib.hid hk5; have HO5 := Lib.hid ho5; have HG5 := Lib.hid hb5; clear hk5 ho5 hb5)
    have hK := HKE.out (-1) K (.inl rfl) HKS.out
    rw [HOF.out.1] at hK
    have HKV := Lib.hid hK
    have HB5 := Lib.hid (show Below b3 w3 w5 from HK3.out.trans (HG5.out.mono (HSC.out _ HK3.out)))
    clear hK HG5 HKS
    obtain ⟨kn, hkn⟩ : ∃ kn, kn = K.length := ⟨_, rfl⟩
    rw [← hkn] at HO5 ⊢
    have HKN := Lib.hid hkn
    clear hkn
    go_loopw [4, 5] (fun vo vt wq => ∃ (q tn : Nat) (X T : List Nat) (A1 A2 : Option Addr) (c1 c2 : Nat), vo = .slice A1 q c1 ∧ vt = .slice A2 tn c2 ∧ Hid (q = X.length ∧ tn = T.length ∧ q ≤ n + 1) ∧ Hid (Rd wq wq.heap.size A2 (T.map encN)) ∧ Hid (∀ t ∈ T, t < n ∧ g t = q) ∧ Hid (T.length ≤ n) ∧ Hid (X ++ Sy.critM (fun x => M.filter fun q => parN P n q == x) (En l) (n + 2 - q) T = Sy.critM (fun x => M.filter fun q => parN P n q == x) (En l) (n + 2) (M.filter fun q => parN P n q == n)) ∧ Hid (wq.ownsRow b3 3 1 (.slice A1 q c1) q (X.map encN)) ∧ Hid (Below b3 w3 wq)) (fun vo _ _ => n + 2 - lenV vo)
    case atStart => exact ⟨0, kn, [], K, none, kA, 0, kc, rfl, rfl, Lib.hid ⟨rfl, HKN.out, Nat.zero_le _⟩, Lib.hid (own_read HO5.out (Nat.le_refl _)), Lib.hid (by rw [HKV.out]; exact root_dep HF.out HG.out), Lib.hid (by rw [HKV.out]; exact Sy.nd_le n _ (HF.out.all.nd.filter _) fun x hx => ((Sy.kid_mem HF.out.all).1 hx).1), Lib.hid (by rw [HKV.out]; rfl), Lib.hid (World.ownsRow_nil _ _ _ _), HB5⟩
    clear HK3 HKV HKN HO5 HB5
    case round =>
      obtain ⟨q, tn, X, T, A1, A2, c1, c2, rfl, rfl, HQ, HR, HT, HTL, HX, HOW, HB⟩ := hrel
      rcases Nat.eq_zero_or_pos tn with h0 | h0
      · as_aux_lemma =>
        subst h0
        have hT : T = [] := List.eq_nil_of_length_eq_zero (by have := HQ.out; omega)
        subst hT
        go_wp2_with fail
        go_ret
        have h := HX.out
        rw [Sy.critM_nil, List.append_nil] at h
        exact ⟨A1, q, c1, X, rfl, HQ.out.1, by have := HQ.out; omega, .inr ⟨HFB.out.symm, P, M, O, HF.out, h⟩, own_mono HOW.out HZ3.out.1, HBQ.out _ HB.out⟩
      · as_aux_lemma =>
        have hTne : T ≠ [] := fun e => by have := HQ.out; rw [e] at this; simp at this; omega
        obtain ⟨i, hi⟩ : ∃ i, i = Sy.bestL (En l) T := ⟨_, rfl⟩
        have him : i ∈ T := by rw [hi]; exact Sy.bestL_mem hTne
        obtain ⟨hin, hgi⟩ := HT.out i him
        have hqn : q ≤ n := by have := HG.out.le i; omega
        obtain ⟨t0, ht0⟩ : ∃ t0, T[0]? = some t0 := ⟨_, List.getElem?_eq_getElem (by have := HQ.out; omega)⟩
        have d0 : decide ((0 : Int) < (tn : Int)) = true := decide_eq_true (by omega)
        have d1 : decide (0 < tn) = true := decide_eq_true h0
        have i00 : (0 : Int) < (tn : Int) := by omega
        obtain ⟨ta, hta, htab, htc⟩ := HR.out (by rw [List.length_map]; have := HQ.out; omega)
        subst hta
        have ct0b : wr.cell? (ta.add 0) = some (.int .i64 (t0 : Int)) := htc 0 _ (by rw [List.getElem?_map, ht0]; rfl)
        have ct0 : wr.cell? ta = some (.int .i64 (t0 : Int)) := by rwa [show ta.add 0 = ta from by unfold Addr.add; split <;> simp_all] at ct0b
        have HTB := Lib.hid (show ∀ (W : World) (j t : Nat), Below wr.heap.size wr W → T[j]? = some t → W.cell? (ta.add j) = some (.int .i64 (t : Int)) from fun W j t hW ht => by
          have h := htc j _ (by rw [List.getElem?_map, ht]; rfl)
          rw [show W.cell? (ta.add j) = wr.cell? (ta.add j) from hW.cell (by rw [block_add]; exact htab)]
          exact h)
        have HT0 := Lib.hid ht0
        have HIV := Lib.hid hi
        have HIN := Lib.hid (show i < n ∧ g i = q ∧ q ≤ n from ⟨hin, hgi, hqn⟩)
        have HXN := Lib.hid (show (X ++ [i]) ++ Sy.critM (fun x => M.filter fun q => parN P n q == x) (En l) (n + 2 - (q + 1)) (M.filter fun q => parN P n q == i) = Sy.critM (fun x => M.filter fun q => parN P n q == x) (En l) (n + 2) (M.filter fun q => parN P n q == n) from by
          rw [← HX.out, show n + 2 - q = (n + 2 - (q + 1)) + 1 by omega, Sy.critM_step hTne, ← hi, List.append_assoc]
          rfl)
        have HWZ := Lib.hid (Below.refl wr.heap.size wr)
        have HTN1 := Lib.hid (show tn = T.length ∧ T.length ≤ n from ⟨HQ.out.2.1, HTL.out⟩)
        clear hTne hi him hin hgi hqn h0 ht0 htc htab
        go_upto_region 9 with fail
        clear d0 d1 ct0 ct0b
        generalize wr = wz at *
        go_loopw [6, 7] (fun vb vj wq => ∃ (j b : Nat), vj = .int .i64 (j : Int) ∧ vb = .int .i64 (b : Int) ∧ Hid (j ≤ tn) ∧ Hid ((j = 0 ∧ b = t0) ∨ (0 < j ∧ b = Sy.bestL (En l) (T.take j))) ∧ Hid (b ∈ T) ∧ Hid (Below wz.heap.size wz wq)) (fun _ vj _ => tn - (intOf vj).toNat)
        case atStart => exact ⟨0, t0, rfl, rfl, Lib.hid (Nat.zero_le _), Lib.hid (.inl ⟨rfl, rfl⟩), Lib.hid (List.mem_of_getElem? HT0.out), HWZ⟩
        case round =>
          obtain ⟨j, b, rfl, rfl, HJ, HBE, HBM, HWQ⟩ := hrel
          have HBR := Lib.hid (show Below b3 w3 wr from HB.out.trans (HWQ.out.mono (HSC.out _ HB.out)))
          by_cases hjt : j < tn
          · have d0 : decide ((j : Int) < (tn : Int)) = true := decide_eq_true (by omega)
            have d1 : decide (j < tn) = true := decide_eq_true hjt
            have i0 : (0 : Int) ≤ (j : Int) := by omega
            have i1 : (j : Int) < (tn : Int) := by omega
            obtain ⟨j9, hj9⟩ : ∃ j9, j9 = j + 1 := ⟨_, rfl⟩
            have e1 : IntKind.i64.wrap ((j : Int) + 1) = (j9 : Int) := by have := HTN1.out; rw [IntKind.wrap_i64] <;> omega
            obtain ⟨t, ht⟩ : ∃ t, T[j]? = some t := ⟨_, List.getElem?_eq_getElem (by rw [← HTN1.out.1]; exact hjt)⟩
            have xlt : t < n := (HT.out t (List.mem_of_getElem? ht)).1
            have ylt : b < n := (HT.out b HBM.out).1
            have pt := HTB.out wr j t HWQ.out ht
            have HWR := Lib.hid (HBQ.out _ HBR.out)
            obtain ⟨xx, xhx⟩ : ∃ x, l[t]? = some x := ⟨_, List.getElem?_eq_getElem (by rw [← HN.out]; exact xlt)⟩
            have xhE := En_at xhx
            obtain ⟨aa, haa, _, hc, xhl⟩ := (HSQ.out _ HWR.out).at_ xhx
            subst haa
            obtain ⟨⟨x0, x1, x2, x3, x4, x5, x6, x7, x8, xats⟩, xA, xc⟩ := xx
            obtain ⟨xm, xhm⟩ : ∃ m, m = xats.length := ⟨_, rfl⟩
            have c0 : wr.cell? (aa.add (t * 10)) = some (.int .u64 x0) := hc 0 _ rfl
            have c1 : wr.cell? ⟨(aa.add (t * 10)).block, (aa.add (t * 10)).off + 1, none⟩ = some (.int .u64 x1) := cell_far (hc 1 _ rfl) (by omega)
            have c2 : wr.cell? ⟨(aa.add (t * 10)).block, (aa.add (t * 10)).off + 2, none⟩ = some (.int .u64 x2) := cell_far (hc 2 _ rfl) (by omega)
            have c3 : wr.cell? ⟨(aa.add (t * 10)).block, (aa.add (t * 10)).off + 3, none⟩ = some (.int .u64 x3) := cell_far (hc 3 _ rfl) (by omega)
            have c4 : wr.cell? ⟨(aa.add (t * 10)).block, (aa.add (t * 10)).off + 4, none⟩ = some (.string x4) := cell_far (hc 4 _ rfl) (by omega)
            have c5 : wr.cell? ⟨(aa.add (t * 10)).block, (aa.add (t * 10)).off + 5, none⟩ = some (.string x5) := cell_far (hc 5 _ rfl) (by omega)
            have c6 : wr.cell? ⟨(aa.add (t * 10)).block, (aa.add (t * 10)).off + 6, none⟩ = some (.int .i64 x6) := cell_far (hc 6 _ rfl) (by omega)
            have c7 : wr.cell? ⟨(aa.add (t * 10)).block, (aa.add (t * 10)).off + 7, none⟩ = some (.int .i64 x7) := cell_far (hc 7 _ rfl) (by omega)
            have c8 : wr.cell? ⟨(aa.add (t * 10)).block, (aa.add (t * 10)).off + 8, none⟩ = some (.bool x8) := cell_far (hc 8 _ rfl) (by omega)
            have c9 : wr.cell? ⟨(aa.add (t * 10)).block, (aa.add (t * 10)).off + 9, none⟩ = some (.slice xA xm xc) := by rw [xhm]; exact cell_far (hc 9 _ rfl) (by omega)
            have ECc := Lib.hid (refends_lit x0 x1 x2 x3 x4 x5 x6 x7 x8 xats xA xc xm B wr xhm xhl (HBB.out _ HWR.out))
            obtain ⟨xeB, xheB⟩ : ∃ eB, eB = endB ⟨x0, x1, x2, x3, x4, x5, x6, x7, x8, xats⟩ := ⟨_, rfl⟩
            obtain ⟨xeE, xheE⟩ : ∃ eE, eE = En l t := ⟨_, rfl⟩
            rw [← xheB, ← xhE, ← xheE] at ECc
            have HxE := Lib.hid xheE
            clear hc xhl xhm xheB xheE xhE xhx
            have i2 : (0 : Int) ≤ (t : Int) := by omega
            have i3 : (t : Int) < (n : Int) := by omega
            have i4 : (0 : Int) ≤ (b : Int) := by omega
            have i5 : (b : Int) < (n : Int) := by omega
            have HYL := Lib.hid ylt
            have HTJ := Lib.hid ht
            have HJ9 := Lib.hid hj9
            have HJT := Lib.hid hjt
            clear hjt hj9 ht xlt ylt
            go_upto_region 12 with (go_at_call 24; (with_reducible refine ECc.out.mono ?_); rintro ex w7 ⟨rfl, hb7⟩; have HB7 := Lib.hid hb7; clear hb7)
            clear ECc d0 d1 pt c0 c1 c2 c3 c4 c5 c6 c7 c8 c9
            have HWQ7 := Lib.hid (HWQ.out.trans (HB7.out.mono HWQ.out.size))
            have HBR7 := Lib.hid (HBR.out.trans (HB7.out.mono (HSC.out _ HBR.out)))
            have HWR7 := Lib.hid (HBQ.out _ HBR7.out)
            have ylt := HYL.out
            obtain ⟨yx, yhx⟩ : ∃ x, l[b]? = some x := ⟨_, List.getElem?_eq_getElem (by rw [← HN.out]; exact ylt)⟩
            have yhE := En_at yhx
            obtain ⟨ab, haa, _, hd, yhl⟩ := (HSQ.out _ HWR7.out).at_ yhx
            obtain rfl : aa = ab := by injection haa
            obtain ⟨⟨y0, y1, y2, y3, y4, y5, y6, y7, y8, yats⟩, yA, yc⟩ := yx
            obtain ⟨ym, yhm⟩ : ∃ m, m = yats.length := ⟨_, rfl⟩
            have d0 : w7.cell? (aa.add (b * 10)) = some (.int .u64 y0) := hd 0 _ rfl
            have d1 : w7.cell? ⟨(aa.add (b * 10)).block, (aa.add (b * 10)).off + 1, none⟩ = some (.int .u64 y1) := cell_far (hd 1 _ rfl) (by omega)
            have d2 : w7.cell? ⟨(aa.add (b * 10)).block, (aa.add (b * 10)).off + 2, none⟩ = some (.int .u64 y2) := cell_far (hd 2 _ rfl) (by omega)
            have d3 : w7.cell? ⟨(aa.add (b * 10)).block, (aa.add (b * 10)).off + 3, none⟩ = some (.int .u64 y3) := cell_far (hd 3 _ rfl) (by omega)
            have d4 : w7.cell? ⟨(aa.add (b * 10)).block, (aa.add (b * 10)).off + 4, none⟩ = some (.string y4) := cell_far (hd 4 _ rfl) (by omega)
            have d5 : w7.cell? ⟨(aa.add (b * 10)).block, (aa.add (b * 10)).off + 5, none⟩ = some (.string y5) := cell_far (hd 5 _ rfl) (by omega)
            have d6 : w7.cell? ⟨(aa.add (b * 10)).block, (aa.add (b * 10)).off + 6, none⟩ = some (.int .i64 y6) := cell_far (hd 6 _ rfl) (by omega)
            have d7 : w7.cell? ⟨(aa.add (b * 10)).block, (aa.add (b * 10)).off + 7, none⟩ = some (.int .i64 y7) := cell_far (hd 7 _ rfl) (by omega)
            have d8 : w7.cell? ⟨(aa.add (b * 10)).block, (aa.add (b * 10)).off + 8, none⟩ = some (.bool y8) := cell_far (hd 8 _ rfl) (by omega)
            have d9 : w7.cell? ⟨(aa.add (b * 10)).block, (aa.add (b * 10)).off + 9, none⟩ = some (.slice yA ym yc) := by rw [yhm]; exact cell_far (hd 9 _ rfl) (by omega)
            have ECd := Lib.hid (refends_lit y0 y1 y2 y3 y4 y5 y6 y7 y8 yats yA yc ym B w7 yhm yhl (HBB.out _ HWR7.out))
            obtain ⟨yeB, yheB⟩ : ∃ eB, eB = endB ⟨y0, y1, y2, y3, y4, y5, y6, y7, y8, yats⟩ := ⟨_, rfl⟩
            obtain ⟨yeE, yheE⟩ : ∃ eE, eE = En l b := ⟨_, rfl⟩
            rw [← yheB, ← yhE, ← yheE] at ECd
            have HyE := Lib.hid yheE
            clear hd yhl yhm yheB yheE yhE yhx
            clear ylt
            by_cases hcmp : yeE < xeE
            · as_aux_lemma =>
              have d2 : decide (yeE < xeE) = true := decide_eq_true hcmp
              have HBE2 : Hid ((j9 = 0 ∧ t = t0) ∨ (0 < j9 ∧ t = Sy.bestL (En l) (T.take j9))) := Lib.hid (.inr ⟨by have := HJ9.out; omega, by
                rw [HJ9.out]
                rcases HBE.out with h | h
                · exfalso
                  have h1 := HTJ.out
                  rw [h.1, HT0.out] at h1
                  injection h1 with h1
                  rw [HyE.out, HxE.out, h.2, h1] at hcmp
                  omega
                · rw [Sy.bestL_snoc h.1 HTJ.out, ← h.2, if_pos (by rw [← HyE.out, ← HxE.out]; exact hcmp)]⟩)
              clear hcmp
              go_upto_region 14 with (go_at_call 24; (with_reducible refine ECd.out.mono ?_); rintro ex w8 ⟨rfl, hb8⟩; have HB8 := Lib.hid (HWQ7.out.trans (hb8.mono HWQ7.out.size)); clear hb8)
              have pt := HTB.out w8 j t HB8.out HTJ.out
              go_wp2_with fail
              go_roundw
              case rel => exact ⟨j9, t, by first | rfl | go_num, rfl, Lib.hid (by have := HJT.out; have := HJ9.out; omega), HBE2, Lib.hid (List.mem_of_getElem? HTJ.out), HB8⟩
              case measure => have := HJT.out; have := HJ9.out; simp [intOf]; omega
            · as_aux_lemma =>
              have d2 : decide (yeE < xeE) = false := decide_eq_false hcmp
              have HBE2 : Hid ((j9 = 0 ∧ b = t0) ∨ (0 < j9 ∧ b = Sy.bestL (En l) (T.take j9))) := Lib.hid (.inr ⟨by have := HJ9.out; omega, by
                rw [HJ9.out]
                rcases HBE.out with h | h
                · rw [h.1, h.2]
                  cases hT : T with
                  | nil => have h1 := HT0.out; rw [hT] at h1; cases h1
                  | cons y r => have h1 := HT0.out; rw [hT] at h1; injection h1 with h1; rw [← h1]; rfl
                · rw [Sy.bestL_snoc h.1 HTJ.out, ← h.2, if_neg (by rw [← HyE.out, ← HxE.out]; exact hcmp)]⟩)
              clear hcmp
              go_wp2_with (go_at_call 24; (with_reducible refine ECd.out.mono ?_); rintro ex w8 ⟨rfl, hb8⟩; have HB8 := Lib.hid (HWQ7.out.trans (hb8.mono HWQ7.out.size)); clear hb8)
              go_roundw
              case rel => exact ⟨j9, b, by first | rfl | go_num, rfl, Lib.hid (by have := HJT.out; have := HJ9.out; omega), HBE2, HBM, HB8⟩
              case measure => have := HJT.out; have := HJ9.out; simp [intOf]; omega
          · as_aux_lemma =>
            obtain rfl : tn = j := by have := HJ.out; omega
            have d0 : decide ((tn : Int) < (tn : Int)) = false := decide_eq_false (by omega)
            have d1 : decide (tn < tn) = false := decide_eq_false (by omega)
            obtain rfl : b = i := by
              rw [HIV.out]
              rcases HBE.out with h | h
              · have := HQ.out; have h2 := HT0.out; have h3 := (List.getElem?_eq_some_iff.1 h2).1; omega
              · rw [h.2, List.take_of_length_le (by rw [← HTN1.out.1]; exact Nat.le_refl _)]
            have HOW5 := Lib.hid (own_below HOW.out HWQ.out)
            have APP := Lib.hid (fun ty => appI1 (ty := ty) HOW5.out (b : Int) #[.int .i64 (b : Int)] rfl (by have := HIN.out; omega) (HSC.out _ HBR.out))
            clear hjt
            go_upto_region 16 with (at_builtin; (refine wpList_app rfl (.tmp 58) (.tmp 60) _ _ rfl rfl rfl (APP.out _) ?_); rintro v6 w6 ⟨ho6, hg6⟩; have HB6 := Lib.hid (hg6.below HBR.out (HSC.out _ HBR.out) (own_block_ge HOW5.out)); obtain ⟨A6, c6, rfl, _, _⟩ := own_rd ho6; have HO6 := Lib.hid ho6; clear ho6 hg6)
            clear APP
            go_wp2_with (go_at_call 39; (with_reducible refine (KC _ HB6.out (b : Int)).out.mono ?_); rintro ex w9 ⟨kA, kc, K, rfl, hk9, ho9, hb9⟩; have HKS := Lib.hid hk9; have HO9 := Lib.hid ho9; have HG9 := Lib.hid hb9; clear hk9 ho9 hb9)
            have hK := HKE.out (b : Int) K (.inr ⟨by omega, by have := HIN.out; omega⟩) HKS.out
            rw [HOF.out.2] at hK
            have HKV := Lib.hid hK
            clear hK HKS
            go_roundw
            case rel => exact ⟨q + 1, K.length, X ++ [b], K, A6, kA, c6, kc, rfl, rfl, Lib.hid ⟨by rw [List.length_append, ← HQ.out.1]; rfl, rfl, by have := HIN.out; omega⟩, Lib.hid (own_read HO9.out (Nat.le_refl _)), Lib.hid (by rw [HKV.out]; exact kid_dep HF.out HG.out HIN.out.1 HIN.out.2.1), Lib.hid (by rw [HKV.out]; exact Sy.nd_le n _ (HF.out.all.nd.filter _) fun x hx => ((Sy.kid_mem HF.out.all).1 hx).1), by rw [HKV.out]; exact HXN, Lib.hid (by rw [List.map_append]; exact own_below HO6.out HG9.out), Lib.hid (HB6.out.trans (HG9.out.mono (HSC.out _ HB6.out)))⟩
            case measure => have := HIN.out; simp [lenV]; omega
end Go.Proofs.Ytgldjjmpjaegfaa
