/- Chapter 30, path: Self, the document's, walked. -/
import Derived.Test.YtgldjjmpjaegfaaPhg
import Derived.Test.YtgldjjmpjaegfaaPhd
namespace Go.Proofs.Ytgldjjmpjaegfaa
open Go.RowKit Go.Maps
set_option linter.unusedVariables false
set_option linter.unusedSimpArgs false
set_option maxRecDepth 100000

set_option maxHeartbeats 32000000 in
theorem refself_any (l : List Ls) (A : Option Addr) (n c B : Nat) (i : Int) (w : World) (hS : RdSps w B A l) (hB : B ≤ w.heap.size) (hn : n = l.length) (hsm : n ≤ 500) :
    Calls Try.prog 28 #[.slice A n c, .int .i64 i] w fun e w' => ∃ s, e = .returned (.int .i64 s) ∧ SelfIs l n i s ∧ Below w.heap.size w w' := by
  have RC := Lib.hid (rightspans_any A l n c B w hn hS hB (by unfold maxLen; omega))
  have HN := Lib.hid hn
  obtain ⟨b0, hb0⟩ : ∃ b0, b0 = w.heap.size := ⟨_, rfl⟩
  have HSQ := Lib.hid (show ∀ W, Below b0 w W → RdSps W B A l from fun W h => hS.below (h.mono (by rw [hb0]; exact hB)))
  have HBB := Lib.hid (show ∀ W, Below b0 w W → B ≤ W.heap.size from fun W h => by have := h.size; omega)
  have HSB := Lib.hid (show ∀ W, Below b0 w W → b0 ≤ W.heap.size from fun W h => by have := h.size; omega)
  have HB0 := Lib.hid hb0
  have PC := fun (W : World) (h : Below b0 w W) => Lib.hid (refparents_any l A n c B W (HSQ.out W h) (HBB.out W h) hn (by omega))
  obtain ⟨fb, hfb⟩ : ∃ fb, fb = l.all fun x => right x.s := ⟨_, rfl⟩
  rw [← hfb] at RC
  have HFB := Lib.hid hfb
  rw [← hb0]
  clear hn hS hfb hB hb0
  rcases (show i < 0 ∨ (¬ i < 0 ∧ (n : Int) ≤ i) ∨ (¬ i < 0 ∧ ¬ (n : Int) ≤ i ∧ fb = false) ∨ (¬ i < 0 ∧ ¬ (n : Int) ≤ i ∧ fb = true) from by
    cases fb <;> simp <;> omega) with hc | hc | hc | hc
  · have d1 : decide (i < 0) = true := decide_eq_true hc
    have HC := Lib.hid hc
    clear hc PC
    go_enter Try.func28, Try.ntmps28
    go_wp2_with fail
    go_ret
    exact ⟨0, rfl, .inl ⟨.inl HC.out, rfl⟩, Below.refl _ _⟩
  · have d1 : decide (i < 0) = false := decide_eq_false hc.1
    have d2 : decide ((n : Int) ≤ i) = true := decide_eq_true hc.2
    have HC := Lib.hid hc.2
    clear hc PC
    go_enter Try.func28, Try.ntmps28
    go_wp2_with fail
    go_ret
    exact ⟨0, rfl, .inl ⟨.inr (.inl HC.out), rfl⟩, Below.refl _ _⟩
  · obtain ⟨hc1, hc2, rfl⟩ := hc
    have d1 : decide (i < 0) = false := decide_eq_false hc1
    have d2 : decide ((n : Int) ≤ i) = false := decide_eq_false hc2
    clear hc1 hc2 PC
    go_enter Try.func28, Try.ntmps28
    go_wp2_with (go_at_call 29; (with_reducible refine RC.out.mono ?_); rintro ex w1 ⟨rfl, hb1⟩; have HB1 := Lib.hid (show Below b0 w w1 from by rw [HB0.out]; exact hb1); clear hb1)
    go_ret
    exact ⟨0, rfl, .inl ⟨.inr (.inr HFB.out.symm), rfl⟩, HB1.out⟩
  · obtain ⟨hc1, hc2, rfl⟩ := hc
    obtain ⟨k, rfl⟩ : ∃ k : Nat, i = (k : Int) := ⟨i.toNat, by omega⟩
    have d1 : decide ((k : Int) < 0) = false := decide_eq_false hc1
    have d2 : decide ((n : Int) ≤ (k : Int)) = false := decide_eq_false hc2
    have d3 : decide (n ≤ k) = false := decide_eq_false (by omega)
    have HKN := Lib.hid (show k < n from by omega)
    have i0 : (0 : Int) ≤ (k : Int) := by omega
    have i1 : (k : Int) < (n : Int) := by omega
    clear hc1 hc2
    go_enter Try.func28, Try.ntmps28
    go_upto_region 4 with (first | (go_at_call 29; (with_reducible refine RC.out.mono ?_); rintro ex w1 ⟨rfl, hb1⟩; have HB1 := Lib.hid (show Below b0 w w1 from by rw [HB0.out]; exact hb1); clear hb1) | (go_at_call 14; (with_reducible refine (PC _ HB1.out).out.mono ?_); rintro ex w2 ⟨pA, pc, P, rfl, hp2, ho2, hb2⟩; have HP := Lib.hid hp2; have HO := Lib.hid ho2; have HB2 := Lib.hid (HB1.out.trans (hb2.mono (HSB.out _ HB1.out))); clear hp2 ho2 hb2))
    clear RC PC d1 d2 d3
    obtain ⟨M, hM⟩ := Sy.bys_ex l
    have hF := Sy.fo_of HN.out HP.out hM
    obtain ⟨O, hO⟩ : ∃ O, O = Sy.ordM (kidsL P n M) n (M.filter fun i => parN P n i == n) := ⟨_, rfl⟩
    rw [← hO] at hF
    have HF := Lib.hid hF
    clear hM hF hO
    have xlt := HKN.out
    obtain ⟨xx, xhx⟩ : ∃ x, l[k]? = some x := ⟨_, List.getElem?_eq_getElem (by rw [← HN.out]; exact xlt)⟩
    have xhE := En_at xhx
    have xhB := Bn_at xhx
    obtain ⟨aa, haa, _, hc, xhl⟩ := (HSQ.out _ HB2.out).at_ xhx
    subst haa
    obtain ⟨⟨x0, x1, x2, x3, x4, x5, x6, x7, x8, xats⟩, xA, xc⟩ := xx
    obtain ⟨xm, xhm⟩ : ∃ m, m = xats.length := ⟨_, rfl⟩
    have c0 : w2.cell? (aa.add (k * 10)) = some (.int .u64 x0) := hc 0 _ rfl
    have c1 : w2.cell? ⟨(aa.add (k * 10)).block, (aa.add (k * 10)).off + 1, none⟩ = some (.int .u64 x1) := cell_far (hc 1 _ rfl) (by omega)
    have c2 : w2.cell? ⟨(aa.add (k * 10)).block, (aa.add (k * 10)).off + 2, none⟩ = some (.int .u64 x2) := cell_far (hc 2 _ rfl) (by omega)
    have c3 : w2.cell? ⟨(aa.add (k * 10)).block, (aa.add (k * 10)).off + 3, none⟩ = some (.int .u64 x3) := cell_far (hc 3 _ rfl) (by omega)
    have c4 : w2.cell? ⟨(aa.add (k * 10)).block, (aa.add (k * 10)).off + 4, none⟩ = some (.string x4) := cell_far (hc 4 _ rfl) (by omega)
    have c5 : w2.cell? ⟨(aa.add (k * 10)).block, (aa.add (k * 10)).off + 5, none⟩ = some (.string x5) := cell_far (hc 5 _ rfl) (by omega)
    have c6 : w2.cell? ⟨(aa.add (k * 10)).block, (aa.add (k * 10)).off + 6, none⟩ = some (.int .i64 x6) := cell_far (hc 6 _ rfl) (by omega)
    have c7 : w2.cell? ⟨(aa.add (k * 10)).block, (aa.add (k * 10)).off + 7, none⟩ = some (.int .i64 x7) := cell_far (hc 7 _ rfl) (by omega)
    have c8 : w2.cell? ⟨(aa.add (k * 10)).block, (aa.add (k * 10)).off + 8, none⟩ = some (.bool x8) := cell_far (hc 8 _ rfl) (by omega)
    have c9 : w2.cell? ⟨(aa.add (k * 10)).block, (aa.add (k * 10)).off + 9, none⟩ = some (.slice xA xm xc) := by rw [xhm]; exact cell_far (hc 9 _ rfl) (by omega)
    have ECc := Lib.hid (refends_lit x0 x1 x2 x3 x4 x5 x6 x7 x8 xats xA xc xm B w2 xhm xhl (HBB.out _ HB2.out))
    obtain ⟨xeB, xheB⟩ : ∃ eB, eB = Bn l k := ⟨_, rfl⟩
    obtain ⟨xeE, xheE⟩ : ∃ eE, eE = En l k := ⟨_, rfl⟩
    rw [← xhB, ← xheB, ← xhE, ← xheE] at ECc
    have HxE := Lib.hid xheE
    have HxB := Lib.hid xheB
    clear hc xhl xhm xheB xheE xhE xhB xhx
    clear xlt
    go_upto_region 5 with (go_at_call 24; (with_reducible refine ECc.out.mono ?_); rintro ex w3 ⟨rfl, hb3⟩; have HG3 := Lib.hid hb3; clear hb3)
    clear ECc c0 c1 c2 c3 c4 c5 c6 c7 c8 c9
    have HB3 := Lib.hid (HB2.out.trans (HG3.out.mono (HSB.out _ HB2.out)))
    have HP3 := Lib.hid (own_below HO.out HG3.out)
    have HXB := Lib.hid (show 0 ≤ xeB ∧ xeB ≤ xeE ∧ xeE ≤ 2000000000000000 from by
      have h1 := Bn_bd l k
      have h2 := En_bd l k
      rw [HxB.out, HxE.out]; omega)
    have hal := (Below.refl w3.heap.size w3).alloc (Nat.le_refl _) (.cells #[.int .i64 xeB, .int .i64 xeE] 53)
    have hrl := Rd.lit w3 #[.int .i64 xeB, .int .i64 xeE] 53
    have HAL := Lib.hid hal
    have HRL := Lib.hid hrl
    have HPR := Lib.hid (show ∀ W, Below w3.heap.size w3 W → Rd W w3.heap.size pA (P.map encZ) from fun W h => (own_read HP3.out (Nat.le_refl _)).below h)
    have HB4 := Lib.hid (show ∀ W, Below w3.heap.size w3 W → Below b0 w W from fun W h => HB3.out.trans (h.mono (HSB.out _ HB3.out)))
    have HS3 := Lib.hid (show ∀ W, Below w3.heap.size w3 W → w3.heap.size ≤ W.heap.size from fun W h => h.size)
    have HSZ := Lib.hid (show (w3.alloc (.cells #[.int .i64 xeB, .int .i64 xeE] 53)).heap.size = w3.heap.size + 1 from by simp)
    clear hal hrl HG3 HB3 HP3 HO HB2 HB1
    go_upto_region 7 with fail
    generalize w3.alloc (.cells #[.int .i64 xeB, .int .i64 xeE] 53) = w4 at *
    generalize w3.heap.size = b3 at *
    go_loopw [8, 9] (fun vl vi wq => ∃ (i ln lc : Nat) (lA : Option Addr) (L : List (Int × Int)), vi = .int .i64 (i : Int) ∧ vl = .slice lA ln lc ∧ Hid (i ≤ n) ∧ Hid (ln = L.length ∧ ln ≤ i + 1) ∧ Hid (L = Sy.cutAll (placeI l P k i) [(xeB, xeE)]) ∧ Hid (Sy.Dj L ∧ bdL L) ∧ Hid (Rd wq wq.heap.size lA (L.flatMap encP)) ∧ Hid (Below b3 w3 wq)) (fun _ vi _ => n - (intOf vi).toNat)
    case atStart => exact ⟨0, 1, 1, some ⟨b3, 0, none⟩, [(xeB, xeE)], rfl, rfl, Lib.hid (Nat.zero_le _), Lib.hid ⟨rfl, Nat.le_refl _⟩, Lib.hid rfl, Lib.hid ⟨Sy.Dj.one HXB.out.2.1, fun z hz => by rw [List.mem_singleton] at hz; rw [hz]; exact HXB.out⟩, Lib.hid (by rw [HSZ.out]; exact HRL.out), HAL⟩
    clear HAL HRL HSZ
    case round =>
      obtain ⟨i, ln, lc, lA, L, rfl, rfl, HI, HLN, HLC, HDJ, HLR, HB⟩ := hrel
      have HBR := Lib.hid (HB4.out _ HB.out)
      by_cases hlt : i < n
      · as_aux_lemma =>
        have d0 : decide ((i : Int) < (n : Int)) = true := decide_eq_true (by omega)
        have d1 : decide (i < n) = true := decide_eq_true hlt
        have j0 : (0 : Int) ≤ (i : Int) := by omega
        have j1 : (i : Int) < (n : Int) := by omega
        obtain ⟨i9, hi9⟩ : ∃ i9, i9 = i + 1 := ⟨_, rfl⟩
        have e1 : IntKind.i64.wrap ((i : Int) + 1) = (i9 : Int) := by rw [IntKind.wrap_i64] <;> omega
        obtain ⟨z, hz⟩ : ∃ z, P[i]? = some z := ⟨_, List.getElem?_eq_getElem (by rw [HF.out.pl]; exact hlt)⟩
        obtain ⟨ap, hap, hapb, hpc⟩ := (HPR.out _ HB.out) (by rw [List.length_map, HF.out.pl]; omega)
        subst hap
        have xp : wr.cell? (ap.add i) = some (.int .i64 z) := hpc i _ (by rw [List.getElem?_map, hz]; rfl)
        have HI9 := Lib.hid hi9
        have HLT := Lib.hid hlt
        by_cases hzk : z = (k : Int)
        · as_aux_lemma =>
          subst hzk
          have HCN := Lib.hid (show Sy.cutL (Bn l i) (En l i) L = Sy.cutAll (placeI l P k i9) [(xeB, xeE)] from by rw [hi9, place_hit hz, Sy.cutAll_snoc, HLC.out])
          have ylt := hlt
          obtain ⟨yx, yhx⟩ : ∃ x, l[i]? = some x := ⟨_, List.getElem?_eq_getElem (by rw [← HN.out]; exact ylt)⟩
          have yhE := En_at yhx
          have yhB := Bn_at yhx
          obtain ⟨ab, haa, _, hd, yhl⟩ := (HSQ.out _ HBR.out).at_ yhx
          obtain rfl : aa = ab := by injection haa
          obtain ⟨⟨y0, y1, y2, y3, y4, y5, y6, y7, y8, yats⟩, yA, yc⟩ := yx
          obtain ⟨ym, yhm⟩ : ∃ m, m = yats.length := ⟨_, rfl⟩
          have d0 : wr.cell? (aa.add (i * 10)) = some (.int .u64 y0) := hd 0 _ rfl
          have d1 : wr.cell? ⟨(aa.add (i * 10)).block, (aa.add (i * 10)).off + 1, none⟩ = some (.int .u64 y1) := cell_far (hd 1 _ rfl) (by omega)
          have d2 : wr.cell? ⟨(aa.add (i * 10)).block, (aa.add (i * 10)).off + 2, none⟩ = some (.int .u64 y2) := cell_far (hd 2 _ rfl) (by omega)
          have d3 : wr.cell? ⟨(aa.add (i * 10)).block, (aa.add (i * 10)).off + 3, none⟩ = some (.int .u64 y3) := cell_far (hd 3 _ rfl) (by omega)
          have d4 : wr.cell? ⟨(aa.add (i * 10)).block, (aa.add (i * 10)).off + 4, none⟩ = some (.string y4) := cell_far (hd 4 _ rfl) (by omega)
          have d5 : wr.cell? ⟨(aa.add (i * 10)).block, (aa.add (i * 10)).off + 5, none⟩ = some (.string y5) := cell_far (hd 5 _ rfl) (by omega)
          have d6 : wr.cell? ⟨(aa.add (i * 10)).block, (aa.add (i * 10)).off + 6, none⟩ = some (.int .i64 y6) := cell_far (hd 6 _ rfl) (by omega)
          have d7 : wr.cell? ⟨(aa.add (i * 10)).block, (aa.add (i * 10)).off + 7, none⟩ = some (.int .i64 y7) := cell_far (hd 7 _ rfl) (by omega)
          have d8 : wr.cell? ⟨(aa.add (i * 10)).block, (aa.add (i * 10)).off + 8, none⟩ = some (.bool y8) := cell_far (hd 8 _ rfl) (by omega)
          have d9 : wr.cell? ⟨(aa.add (i * 10)).block, (aa.add (i * 10)).off + 9, none⟩ = some (.slice yA ym yc) := by rw [yhm]; exact cell_far (hd 9 _ rfl) (by omega)
          have ECd := Lib.hid (refends_lit y0 y1 y2 y3 y4 y5 y6 y7 y8 yats yA yc ym B wr yhm yhl (HBB.out _ HBR.out))
          obtain ⟨yeB, yheB⟩ : ∃ eB, eB = Bn l i := ⟨_, rfl⟩
          obtain ⟨yeE, yheE⟩ : ∃ eE, eE = En l i := ⟨_, rfl⟩
          rw [← yhB, ← yheB, ← yhE, ← yheE] at ECd
          have HyE := Lib.hid yheE
          have HyB := Lib.hid yheB
          clear hd yhl yhm yheB yheE yhE yhB yhx
          clear ylt hi9 hlt hz hapb hpc
          go_upto_region 13 with (go_at_call 24; (with_reducible refine ECd.out.mono ?_); rintro ex w5 ⟨rfl, hb5⟩; have HG5 := Lib.hid hb5; clear hb5)
          clear ECd xp d0 d1 d2 d3 d4 d5 d6 d7 d8 d9
          rw [← HyB.out, ← HyE.out] at HCN
          have HYB := Lib.hid (show 0 ≤ yeB ∧ yeB ≤ yeE ∧ yeE ≤ 2000000000000000 from by
            have h1 := Bn_bd l i
            have h2 := En_bd l i
            rw [HyB.out, HyE.out]; omega)
          have HL5 := Lib.hid (show ∀ W, Below w5.heap.size w5 W → Rd W w5.heap.size lA (L.flatMap encP) from fun W h => ((HLR.out.below HG5.out).more HG5.out.size).below h)
          have HB5 := Lib.hid (show ∀ W, Below w5.heap.size w5 W → Below b3 w3 W from fun W h => (HB.out.trans (HG5.out.mono (HS3.out _ HB.out))).trans (h.mono (Nat.le_trans (HS3.out _ HB.out) HG5.out.size)))
          have HZB := Lib.hid (show ∀ W, Below w5.heap.size w5 W → w5.heap.size ≤ W.heap.size from fun W h => h.size)
          have HR5 := Lib.hid (Below.refl w5.heap.size w5)
          clear HLR HG5
          generalize w5.heap.size = b5 at *
          go_loopw [12, 13] (fun vn vj wq => ∃ (j nn nc : Nat) (nA : Option Addr) (X : List (Int × Int)), vj = .int .i64 (j : Int) ∧ vn = .slice nA nn nc ∧ Hid (j ≤ ln) ∧ Hid (X = Sy.cutL yeB yeE (L.take j)) ∧ Hid (nn = X.length ∧ nn ≤ 2 * j) ∧ Hid (wq.ownsRow b5 53 2 (.slice nA nn nc) nn (X.flatMap encP)) ∧ Hid (Below b5 w5 wq)) (fun _ vj _ => ln - (intOf vj).toNat)
          case atStart => exact ⟨0, 0, 0, none, [], rfl, rfl, Lib.hid (Nat.zero_le _), Lib.hid rfl, Lib.hid ⟨rfl, Nat.le_refl _⟩, Lib.hid (World.ownsRow_nil _ _ _ _), HR5⟩
          clear HR5
          case round =>
            obtain ⟨j, nn, nc, nA, X, rfl, rfl, HJ, HXC, HNN, HNO, HNB⟩ := hrel
            by_cases hjt : j < ln
            · obtain ⟨⟨u, v⟩, hu⟩ : ∃ z, L[j]? = some z := ⟨_, List.getElem?_eq_getElem (by rw [← HLN.out.1]; exact hjt)⟩
              have d0 : decide ((j : Int) < (ln : Int)) = true := decide_eq_true (by omega)
              have d1 : decide (j < ln) = true := decide_eq_true hjt
              have k0 : (0 : Int) ≤ (j : Int) := by omega
              have k1 : (j : Int) < (ln : Int) := by omega
              obtain ⟨j9, hj9⟩ : ∃ j9, j9 = j + 1 := ⟨_, rfl⟩
              have e2 : IntKind.i64.wrap ((j : Int) + 1) = (j9 : Int) := by have := HLN.out; have := HLT.out; rw [IntKind.wrap_i64] <;> omega
              obtain ⟨al, hal, halb, pu, pv⟩ := rdP_at (HL5.out _ HNB.out) hu
              subst hal
              have pv2 : wr.cell? ⟨(al.add (j * 2)).block, (al.add (j * 2)).off + 1, none⟩ = some (.int .i64 v) := by
                rw [← add_add] at pv
                exact pv
              have hbd := HDJ.out.2 (u, v) (List.mem_of_getElem? hu)
              dsimp only at hbd
              have htk : L.take (j + 1) = L.take j ++ [(u, v)] := by rw [List.take_add_one, hu]; rfl
              have HTK := Lib.hid (show L.take j9 = L.take j ++ [(u, v)] from by rw [hj9]; exact htk)
              have HNL := Lib.hid (show nn = X.length ∧ nn ≤ 2 * j ∧ j9 = j + 1 ∧ nn ≤ 2000 from by have := HNN.out; have := HLN.out; have := HLT.out; omega)
              have HNC := HXC
              have HJ9 := Lib.hid hj9
              have HJT := Lib.hid hjt
              clear hbd htk pv hu hj9 hjt halb
              by_cases hk : yeE ≤ u ∨ v ≤ yeB
              · have HCS : Hid ((yeE ≤ u ∨ v ≤ yeB) = True) := Lib.hid (eq_true hk)
                have HNX := Lib.hid (show X ++ [(u, v)] = Sy.cutL yeB yeE (L.take j9) from by rw [HTK.out, Sy.cutL_snoc, ← HNC.out, if_pos hk])
                have AP := Lib.hid (fun ty => appP1 (ty := ty) HNO.out u v (by have := HNL.out; omega) (HZB.out _ HNB.out))
                by_cases hk1 : yeE ≤ u
                · as_aux_lemma =>
                  have f1 : decide (yeE ≤ u) = true := decide_eq_true hk1
                  clear hk hk1
                  go_wp2_with (at_builtin; (refine wpList_app rfl (.tmp 89) (.tmp 94) _ _ rfl rfl rfl (AP.out _) ?_); rintro v7 w7 ⟨ho7, hg7⟩; have HZ7 := Lib.hid (hg7.below HNB.out (HZB.out _ HNB.out) (own_block_ge HNO.out)); obtain ⟨A7, c7, rfl, _, _⟩ := own_rd ho7; have HO7 := Lib.hid ho7; clear ho7 hg7)
                  go_roundw
                  case rel => exact ⟨j9, nn + 1, c7, A7, _, by first | rfl | go_num, rfl, Lib.hid (by have := HJT.out; have := HJ9.out; omega), HNX, Lib.hid (by (try simp only [List.length_append, List.length_cons, List.length_nil]); have := HNL.out; omega), HO7, HZ7⟩
                  case measure => have := HJT.out; have := HJ9.out; simp [intOf]; omega
                · as_aux_lemma =>
                  have f1 : decide (yeE ≤ u) = false := decide_eq_false hk1
                  have f2 : decide (v ≤ yeB) = true := decide_eq_true (by omega)
                  clear hk hk1
                  go_wp2_with (at_builtin; (refine wpList_app rfl (.tmp 89) (.tmp 94) _ _ rfl rfl rfl (AP.out _) ?_); rintro v7 w7 ⟨ho7, hg7⟩; have HZ7 := Lib.hid (hg7.below HNB.out (HZB.out _ HNB.out) (own_block_ge HNO.out)); obtain ⟨A7, c7, rfl, _, _⟩ := own_rd ho7; have HO7 := Lib.hid ho7; clear ho7 hg7)
                  go_roundw
                  case rel => exact ⟨j9, nn + 1, c7, A7, _, by first | rfl | go_num, rfl, Lib.hid (by have := HJT.out; have := HJ9.out; omega), HNX, Lib.hid (by (try simp only [List.length_append, List.length_cons, List.length_nil]); have := HNL.out; omega), HO7, HZ7⟩
                  case measure => have := HJT.out; have := HJ9.out; simp [intOf]; omega
              · have f1 : decide (yeE ≤ u) = false := decide_eq_false (by omega)
                have f2 : decide (v ≤ yeB) = false := decide_eq_false (by omega)
                by_cases hu1 : u < yeB
                · have f3 : decide (u < yeB) = true := decide_eq_true hu1
                  have AP1 := Lib.hid (fun ty => appP1 (ty := ty) HNO.out u yeB (by have := HNL.out; omega) (HZB.out _ HNB.out))
                  by_cases hv1 : yeE < v
                  · as_aux_lemma =>
                    have f4 : decide (yeE < v) = true := decide_eq_true hv1
                    have HNX := Lib.hid (show X ++ [(u, yeB)] ++ [(yeE, v)] = Sy.cutL yeB yeE (L.take j9) from by rw [HTK.out, Sy.cutL_snoc, ← HNC.out, if_neg hk, if_pos hu1, if_pos hv1, List.append_assoc])
                    clear hk hu1 hv1
                    go_upto_region 21 with (at_builtin; (refine wpList_app rfl (.tmp 99) (.tmp 103) _ _ rfl rfl rfl (AP1.out _) ?_); rintro v7 w7 ⟨ho7, hg7⟩; have HZ7 := Lib.hid (hg7.below HNB.out (HZB.out _ HNB.out) (own_block_ge HNO.out)); obtain ⟨A7, c7, rfl, _, _⟩ := own_rd ho7; have HO7 := Lib.hid ho7; clear ho7 hg7)
                    have AP2 := Lib.hid (fun ty => appP1 (ty := ty) HO7.out yeE v (by have := HNL.out; omega) (HZB.out _ HZ7.out))
                    go_wp2_with (at_builtin; (refine wpList_app rfl (.tmp 108) (.tmp 112) _ _ rfl rfl rfl (AP2.out _) ?_); rintro v8 w8 ⟨ho8, hg8⟩; have HZ8 := Lib.hid (hg8.below HZ7.out (HZB.out _ HZ7.out) (own_block_ge HO7.out)); obtain ⟨A8, c8, rfl, _, _⟩ := own_rd ho8; have HO8 := Lib.hid ho8; clear ho8 hg8)
                    go_roundw
                    case rel => exact ⟨j9, nn + 1 + 1, c8, A8, _, by first | rfl | go_num, rfl, Lib.hid (by have := HJT.out; have := HJ9.out; omega), HNX, Lib.hid (by (try simp only [List.length_append, List.length_cons, List.length_nil]); have := HNL.out; omega), HO8, HZ8⟩
                    case measure => have := HJT.out; have := HJ9.out; simp [intOf]; omega
                  · as_aux_lemma =>
                    have f4 : decide (yeE < v) = false := decide_eq_false hv1
                    have HNX := Lib.hid (show X ++ [(u, yeB)] = Sy.cutL yeB yeE (L.take j9) from by rw [HTK.out, Sy.cutL_snoc, ← HNC.out, if_neg hk, if_pos hu1, if_neg hv1, List.append_nil])
                    clear hk hu1 hv1
                    go_wp2_with (at_builtin; (refine wpList_app rfl (.tmp 99) (.tmp 103) _ _ rfl rfl rfl (AP1.out _) ?_); rintro v7 w7 ⟨ho7, hg7⟩; have HZ7 := Lib.hid (hg7.below HNB.out (HZB.out _ HNB.out) (own_block_ge HNO.out)); obtain ⟨A7, c7, rfl, _, _⟩ := own_rd ho7; have HO7 := Lib.hid ho7; clear ho7 hg7)
                    go_roundw
                    case rel => exact ⟨j9, nn + 1, c7, A7, _, by first | rfl | go_num, rfl, Lib.hid (by have := HJT.out; have := HJ9.out; omega), HNX, Lib.hid (by (try simp only [List.length_append, List.length_cons, List.length_nil]); have := HNL.out; omega), HO7, HZ7⟩
                    case measure => have := HJT.out; have := HJ9.out; simp [intOf]; omega
                · have f3 : decide (u < yeB) = false := decide_eq_false hu1
                  by_cases hv1 : yeE < v
                  · as_aux_lemma =>
                    have f4 : decide (yeE < v) = true := decide_eq_true hv1
                    have AP2 := Lib.hid (fun ty => appP1 (ty := ty) HNO.out yeE v (by have := HNL.out; omega) (HZB.out _ HNB.out))
                    have HNX := Lib.hid (show X ++ [(yeE, v)] = Sy.cutL yeB yeE (L.take j9) from by rw [HTK.out, Sy.cutL_snoc, ← HNC.out, if_neg hk, if_neg hu1, if_pos hv1, List.nil_append])
                    clear hk hu1 hv1
                    go_wp2_with (at_builtin; (refine wpList_app rfl (.tmp 108) (.tmp 112) _ _ rfl rfl rfl (AP2.out _) ?_); rintro v7 w7 ⟨ho7, hg7⟩; have HZ7 := Lib.hid (hg7.below HNB.out (HZB.out _ HNB.out) (own_block_ge HNO.out)); obtain ⟨A7, c7, rfl, _, _⟩ := own_rd ho7; have HO7 := Lib.hid ho7; clear ho7 hg7)
                    go_roundw
                    case rel => exact ⟨j9, nn + 1, c7, A7, _, by first | rfl | go_num, rfl, Lib.hid (by have := HJT.out; have := HJ9.out; omega), HNX, Lib.hid (by (try simp only [List.length_append, List.length_cons, List.length_nil]); have := HNL.out; omega), HO7, HZ7⟩
                    case measure => have := HJT.out; have := HJ9.out; simp [intOf]; omega
                  · as_aux_lemma =>
                    have f4 : decide (yeE < v) = false := decide_eq_false hv1
                    have HNX := Lib.hid (show X = Sy.cutL yeB yeE (L.take j9) from by rw [HTK.out, Sy.cutL_snoc, ← HNC.out, if_neg hk, if_neg hu1, if_neg hv1, List.append_nil, List.append_nil])
                    clear hk hu1 hv1
                    go_wp2_with fail
                    go_roundw
                    case rel => exact ⟨j9, nn, nc, nA, _, by first | rfl | go_num, rfl, Lib.hid (by have := HJT.out; have := HJ9.out; omega), HNX, Lib.hid (by (try simp only [List.length_append, List.length_cons, List.length_nil]); have := HNL.out; omega), HNO, HNB⟩
                    case measure => have := HJT.out; have := HJ9.out; simp [intOf]; omega
            · as_aux_lemma =>
              obtain rfl : ln = j := by have := HJ.out; omega
              have d0 : decide ((ln : Int) < (ln : Int)) = false := decide_eq_false (by omega)
              have d1 : decide (ln < ln) = false := decide_eq_false (by omega)
              have hX : X = Sy.cutL yeB yeE L := by rw [HXC.out, List.take_of_length_le (by rw [← HLN.out.1]; exact Nat.le_refl _)]
              have HXE := Lib.hid hX
              have HDX := Lib.hid (Sy.Dj.cut HYB.out.2.1 HDJ.out.1)
              clear hjt hX
              go_wp2_with fail
              go_roundw
              case rel => exact ⟨i9, nn, nc, nA, X, by first | rfl | go_num, rfl, Lib.hid (by have := HLT.out; have := HI9.out; omega), Lib.hid ⟨HNN.out.1, by have h := HDX.out.2; rw [← HXE.out, ← HNN.out.1] at h; have := HLN.out; have := HI9.out; omega⟩, Lib.hid (by rw [← HCN.out, HXE.out]), Lib.hid ⟨by rw [HXE.out]; exact HDX.out.1, by rw [HXE.out]; exact bdL_cut HDJ.out.2⟩, Lib.hid (own_read HNO.out (Nat.le_refl _)), HB5.out _ HNB.out |> Lib.hid⟩
              case measure => have := HLT.out; have := HI9.out; simp [intOf]; omega
        · as_aux_lemma =>
          have HCN := Lib.hid (show L = Sy.cutAll (placeI l P k i9) [(xeB, xeE)] from by rw [hi9, place_miss (by rw [hz]; exact fun e => hzk (by injection e)), HLC.out])
          have f1 : (z == (k : Int)) = false := beq_eq_false_iff_ne.2 hzk
          clear hi9 hlt hz hapb hpc hzk
          go_wp2_with fail
          go_roundw
          case rel => exact ⟨i9, ln, lc, lA, L, by first | rfl | go_num, rfl, Lib.hid (by have := HLT.out; have := HI9.out; omega), Lib.hid ⟨HLN.out.1, by have := HLN.out; have := HI9.out; omega⟩, HCN, HDJ, HLR, HB⟩
          case measure => have := HLT.out; have := HI9.out; simp [intOf]; omega
      · as_aux_lemma =>
        obtain rfl : n = i := by have := HI.out; omega
        have d0 : decide ((n : Int) < (n : Int)) = false := decide_eq_false (by omega)
        have d1 : decide (n < n) = false := decide_eq_false (by omega)
        have HFIN := Lib.hid (show SelfIs l n (k : Int) (Sy.sumL L) from .inr ⟨k, rfl, HKN.out, HFB.out.symm, P, M, O, HF.out, by
          have h1 := Sy.cutAll_is (R := placeI l P k n) (L := [(xeB, xeE)]) (fun z hz => by rw [List.mem_singleton] at hz; rw [hz]; exact HXB.out.2.1) (place_ord l P k n)
          rw [← HLC.out] at h1
          rw [← h1]
          have h2 : Sy.totL (placeI l P k n) [(xeB, xeE)] = Sy.CI (placeI l P k n) xeB xeE := by unfold Sy.totL; simp
          rw [h2, ← HxB.out, ← HxE.out]
          congr 1
          exact Sy.CI_congr fun t _ _ => Sy.freeB_perm (place_kids HF.out HKN.out) t⟩)
        clear hlt
        go_upto_region 26 with fail
        clear d0 d1
        generalize wr = wz at *
        go_loopw [16, 17] (fun vs vj wq => ∃ (j : Nat) (s : Int), vj = .int .i64 (j : Int) ∧ vs = .int .i64 s ∧ Hid (j ≤ ln) ∧ Hid (s = Sy.sumL (L.take j)) ∧ Hid (Below wz.heap.size wz wq)) (fun _ vj _ => ln - (intOf vj).toNat)
        case atStart => exact ⟨0, 0, rfl, rfl, Lib.hid (Nat.zero_le _), Lib.hid rfl, Lib.hid (Below.refl _ _)⟩
        case round =>
          obtain ⟨j, s, rfl, rfl, HJ, HSM, HWQ⟩ := hrel
          by_cases hjt : j < ln
          · as_aux_lemma =>
            obtain ⟨⟨u, v⟩, hu⟩ : ∃ z, L[j]? = some z := ⟨_, List.getElem?_eq_getElem (by rw [← HLN.out.1]; exact hjt)⟩
            have d0 : decide ((j : Int) < (ln : Int)) = true := decide_eq_true (by omega)
            have d1 : decide (j < ln) = true := decide_eq_true hjt
            have k0 : (0 : Int) ≤ (j : Int) := by omega
            have k1 : (j : Int) < (ln : Int) := by omega
            obtain ⟨j9, hj9⟩ : ∃ j9, j9 = j + 1 := ⟨_, rfl⟩
            have e2 : IntKind.i64.wrap ((j : Int) + 1) = (j9 : Int) := by have := HLN.out; rw [IntKind.wrap_i64] <;> omega
            obtain ⟨al, hal, halb, pu, pv⟩ := rdP_at (HLR.out.below HWQ.out) hu
            subst hal
            have pv2 : wr.cell? ⟨(al.add (j * 2)).block, (al.add (j * 2)).off + 1, none⟩ = some (.int .i64 v) := by
              rw [← add_add] at pv
              exact pv
            have hbd := HDJ.out.2 (u, v) (List.mem_of_getElem? hu)
            dsimp only at hbd
            have htk : L.take (j + 1) = L.take j ++ [(u, v)] := by rw [List.take_add_one, hu]; rfl
            have hsb := Sy.sumL_bd (L := L.take j) (fun z hz => HDJ.out.2 z (List.mem_of_mem_take hz))
            rw [← HSM.out] at hsb
            have hlj : (L.take j).length ≤ j := by rw [List.length_take]; omega
            have hln := HLN.out
            obtain ⟨s1, hs1⟩ : ∃ s1, s1 = s + v := ⟨_, rfl⟩
            obtain ⟨s2, hs2⟩ : ∃ s2, s2 = s1 - u := ⟨_, rfl⟩
            have e3 : IntKind.i64.wrap (s + v) = s1 := by rw [IntKind.wrap_i64] <;> omega
            have e4 : IntKind.i64.wrap (s1 - u) = s2 := by rw [IntKind.wrap_i64] <;> omega
            have HSM2 := Lib.hid (show s2 = Sy.sumL (L.take j9) from by rw [hj9, htk, Sy.sumL_snoc, ← HSM.out, hs2, hs1]; omega)
            have HJ9 := Lib.hid hj9
            have HJT := Lib.hid hjt
            clear hs1 hs2 hln hlj hsb htk hbd halb pv hu hj9 hjt
            go_upto_region 28 with fail
            refine wp_region_quiet_lex (by kernel_rfl) (by kernel_rfl) ?_
            repeat (go_big_quiet_step (fail))
            refine wpQuiet_nil ?_
            intro _ hw'
            obtain ⟨nq, hw''⟩ := hw'
            subst hw''
            go_wp2_with fail
            go_roundw
            case rel => exact ⟨j9, s2, by first | rfl | go_num, rfl, Lib.hid (by have := HJT.out; have := HJ9.out; omega), HSM2, Lib.hid (HWQ.out.trans ⟨rfl, rfl, rfl, Nat.le_refl _, fun _ _ => rfl⟩)⟩
            case measure => have := HJT.out; have := HJ9.out; simp [intOf]; omega
          · as_aux_lemma =>
            obtain rfl : ln = j := by have := HJ.out; omega
            have d0 : decide ((ln : Int) < (ln : Int)) = false := decide_eq_false (by omega)
            have d1 : decide (ln < ln) = false := decide_eq_false (by omega)
            have HSE : Hid (s = Sy.sumL L) := Lib.hid (by rw [HSM.out, List.take_of_length_le (by rw [← HLN.out.1]; exact Nat.le_refl _)])
            clear hjt
            go_wp2_with fail
            go_ret
            exact ⟨s, rfl, by rw [HSE.out]; exact HFIN.out, HBR.out.trans (HWQ.out.mono (HSB.out _ HBR.out))⟩
end Go.Proofs.Ytgldjjmpjaegfaa
