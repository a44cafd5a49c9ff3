/- QuantFirst. -/
import Derived.Test.YtkhhcnpmobgdgaaDoorBzi
namespace Go.Proofs.YtkhhcnpmobgdgaaDoor
open Go.RowKit
set_option linter.unusedVariables false
set_option linter.unusedSimpArgs false
set_option maxRecDepth 100000

set_option maxHeartbeats 32000000 in
theorem quantfirst31 (lA : Option Addr) (l : List Rw) (ln lc : Nat) (lv n m : Int) (w : World) (hln : ln = l.length) (hl : Rd w w.heap.size lA (l.flatMap Rw.cells)) (hok : okRz l) (T : Lows w) :
    Calls Tryd.prog 9 #[.slice lA ln lc, .int .i64 lv, .int .i64 n, .int .i64 m] w fun e w' => e = .returned (.bool true) ∧ Below w.heap.size w w' := by
  have HL := Lib.hid hl
  have HLN := Lib.hid hln
  have HOK := Lib.hid hok
  obtain ⟨base, hbase⟩ : ∃ base, base = w.heap.size := ⟨_, rfl⟩
  have HBASE := Lib.hid hbase
  have AL := Lib.hid (alive31_calls w T)
  clear hl hln hok hbase T
  obtain ⟨b1, hb1⟩ : ∃ b1, b1 = decide (80 < ln) := ⟨_, rfl⟩
  have d1 : decide (80 < ln) = b1 := hb1.symm
  have d1' : decide ((80 : Int) < (ln : Int)) = b1 := by rw [hb1]; exact decide_eq_decide.2 (by omega)
  obtain ⟨b3, hb3⟩ : ∃ b3, b3 = decide (n < 0) := ⟨_, rfl⟩
  have d3 : decide (n < 0) = b3 := hb3.symm
  obtain ⟨b4, hb4⟩ : ∃ b4, b4 = decide (m < n) := ⟨_, rfl⟩
  have d4 : decide (m < n) = b4 := hb4.symm
  clear hb1 hb3 hb4
  have hgo : (b1 = true ∨ (b1 = false ∧ b3 = true) ∨ (b1 = false ∧ b3 = false ∧ b4 = true)) ∨ (b1 = false ∧ b3 = false ∧ b4 = false) := by
    cases b1 <;> cases b3 <;> cases b4 <;> simp
  rcases hgo with hgo | ⟨rfl, rfl, rfl⟩
  · rcases hgo with rfl | ⟨rfl, rfl⟩ | ⟨rfl, rfl, rfl⟩
    all_goals
      go_enter Tryd.func9, Tryd.ntmps9
      go_wp2_with (go_at_call 28; (with_reducible refine AL.out.mono ?_); rintro ex w2 ⟨rfl, hb2⟩; have HB2 := Lib.hid hb2; clear hb2)
      go_ret
      exact ⟨rfl, HB2.out⟩
  · have hn80 : ln ≤ 80 := by have := of_decide_eq_false d1; omega
    have HNM := Lib.hid (show 0 ≤ n ∧ n ≤ m from by have h1 := of_decide_eq_false d3; have h2 := of_decide_eq_false d4; omega)
    go_enter Tryd.func9, Tryd.ntmps9
    go_upto_region 6 with (go_at_call 28; (with_reducible refine AL.out.mono ?_); rintro ex w2 ⟨rfl, hb2⟩; have HB2 := Lib.hid hb2; clear hb2)
    clear d1 d1' d3 d4 AL
    have HRL := Lib.hid ((HL.out.below HB2.out).more HB2.out.size)
    go_loopw [10, 11] (fun sv vi wq => ∃ (k : Nat) (s : Int), vi = .int .i64 (k : Int) ∧ k ≤ ln ∧ sv = .int .i64 s ∧ Hid (sumR lv (l.take k) = s) ∧ Hid (∀ r ∈ l.take k, (r.k.sv.size ≤ 60 ∧ r.k.op.size ≤ 60) ∧ 0 ≤ r.ct.getD 0 0 ∧ r.ct.getD 0 0 ≤ 1099511627776) ∧ Hid (Below w2.heap.size w2 wq)) (fun _ vi _ => ln - (intOf vi).toNat)
    case atStart => exact ⟨0, 0, rfl, Nat.zero_le _, rfl, Lib.hid rfl, Lib.hid (fun r hr => by simp at hr), Lib.hid (Below.refl _ _)⟩
    case round =>
      obtain ⟨k, s0, rfl, hk, rfl, HSE, HSZ, HW⟩ := hrel
      by_cases hlt : k < ln
      · obtain ⟨r, hr⟩ : ∃ r, l[k]? = some r := ⟨_, List.getElem?_eq_getElem (by rw [← HLN.out]; exact hlt)⟩
        obtain ⟨a, ha, _, d0, d1, d2, d3, d4, d5, d6, d7, d8, d9, d10, d11, d12, d13⟩ := row_cells (HRL.out.below HW.out) hr
        subst ha
        have HSB := Lib.hid (show 0 ≤ s0 ∧ s0 ≤ 87960930222080 from by
          have h := agg_sum lv (l.take k) (fun r hr => (HSZ.out r hr).2) (by rw [List.length_take]; omega)
          rw [HSE.out] at h
          have h5 : ((l.take k).length : Int) ≤ 80 := by rw [List.length_take]; omega
          have h6 := h.2.2.2
          have h7 : ((l.take k).length : Int) * 1099511627776 ≤ 80 * 1099511627776 := Int.mul_le_mul_of_nonneg_right h5 (by decide)
          exact ⟨h.2.2.1, by omega⟩)
        have HSR0 := sumR_step lv hr
        rw [HSE.out] at HSR0
        have HTK0 : r.k.sv.size ≤ 60 → r.k.op.size ≤ 60 → 0 ≤ r.ct.getD 0 0 → r.ct.getD 0 0 ≤ 1099511627776 → ∀ x ∈ l.take (k + 1), (x.k.sv.size ≤ 60 ∧ x.k.op.size ≤ 60) ∧ 0 ≤ x.ct.getD 0 0 ∧ x.ct.getD 0 0 ≤ 1099511627776 := fun h1 h2 h3 h4 x hx => by
          rw [List.take_add_one, hr] at hx
          rcases List.mem_append.1 hx with h | h
          · exact HSZ.out x h
          · simp at h; subst h; exact ⟨⟨h1, h2⟩, h3, h4⟩
        obtain ⟨⟨flv, fwi, fsv, fop⟩, fct⟩ := r
        simp only at d0 d1 d2 d3 d4 d5 d6 d7 d8 d9 d10 d11 d12 d13 HTK0 HSR0
        obtain ⟨o0, ho0⟩ : ∃ o, o = fct.getD 0 0 := ⟨_, rfl⟩
        rw [← ho0] at d4 HTK0 HSR0
        have HTK := Lib.hid HTK0
        have HSR := Lib.hid HSR0
        have i0 : (0 : Int) ≤ (k : Int) := by omega
        have i1 : (k : Int) < (ln : Int) := by omega
        have HKN := Lib.hid hlt
        clear hr hlt ho0 HTK0 HSR0 d1 d5 d6 d7 d8 d9 d10 d11 d12 d13
        by_cases hg0 : 60 < fsv.size
        · have e0 : decide (60 < fsv.size) = true := decide_eq_true (by omega)
          have e0' : decide ((60 : Int) < (fsv.size : Int)) = true := decide_eq_true (by omega)
          clear HTK hg0 HSB HSR
          go_wp2_with fail
          go_ret
          exact ⟨rfl, HB2.out.trans (HW.out.mono HB2.out.size)⟩
        · by_cases hg1 : 60 < fop.size
          · have e0 : decide (60 < fsv.size) = false := decide_eq_false (by omega)
            have e0' : decide ((60 : Int) < (fsv.size : Int)) = false := decide_eq_false (by omega)
            have e1 : decide (60 < fop.size) = true := decide_eq_true (by omega)
            have e1' : decide ((60 : Int) < (fop.size : Int)) = true := decide_eq_true (by omega)
            clear HTK hg0 hg1 HSB HSR
            go_wp2_with fail
            go_ret
            exact ⟨rfl, HB2.out.trans (HW.out.mono HB2.out.size)⟩
          · by_cases hg2 : o0 < 0
            · have e0 : decide (60 < fsv.size) = false := decide_eq_false (by omega)
              have e0' : decide ((60 : Int) < (fsv.size : Int)) = false := decide_eq_false (by omega)
              have e1 : decide (60 < fop.size) = false := decide_eq_false (by omega)
              have e1' : decide ((60 : Int) < (fop.size : Int)) = false := decide_eq_false (by omega)
              have e2 : decide (o0 < 0) = true := decide_eq_true (by omega)
              clear HTK hg0 hg1 hg2 HSB HSR
              go_wp2_with fail
              go_ret
              exact ⟨rfl, HB2.out.trans (HW.out.mono HB2.out.size)⟩
            · by_cases hg3 : 1099511627776 < o0
              · have e0 : decide (60 < fsv.size) = false := decide_eq_false (by omega)
                have e0' : decide ((60 : Int) < (fsv.size : Int)) = false := decide_eq_false (by omega)
                have e1 : decide (60 < fop.size) = false := decide_eq_false (by omega)
                have e1' : decide ((60 : Int) < (fop.size : Int)) = false := decide_eq_false (by omega)
                have e2 : decide (o0 < 0) = false := decide_eq_false (by omega)
                have e3 : decide (1099511627776 < o0) = true := decide_eq_true (by omega)
                clear HTK hg0 hg1 hg2 hg3 HSB HSR
                go_wp2_with fail
                go_ret
                exact ⟨rfl, HB2.out.trans (HW.out.mono HB2.out.size)⟩
              · have e0 : decide (60 < fsv.size) = false := decide_eq_false (by omega)
                have e0' : decide ((60 : Int) < (fsv.size : Int)) = false := decide_eq_false (by omega)
                have e1 : decide (60 < fop.size) = false := decide_eq_false (by omega)
                have e1' : decide ((60 : Int) < (fop.size : Int)) = false := decide_eq_false (by omega)
                have e2 : decide (o0 < 0) = false := decide_eq_false (by omega)
                have e3 : decide (1099511627776 < o0) = false := decide_eq_false (by omega)
                have HS2 := Lib.hid (HTK.out (by omega) (by omega) (by omega) (by omega))
                have hs0 : 0 ≤ s0 ∧ s0 ≤ 87960930222080 := HSB.out
                have ho0 : 0 ≤ o0 ∧ o0 ≤ 1099511627776 := by omega
                clear HTK hg0 hg1 hg2 hg3
                by_cases hl : flv = lv
                · subst hl
                  have ew : IntKind.i64.wrap (s0 + o0) = s0 + o0 := by rw [IntKind.wrap_i64]; omega
                  have HST := Lib.hid (show sumR flv (l.take (k + 1)) = s0 + o0 from by have h := HSR.out; rw [if_pos rfl] at h; exact h)
                  go_wp2_with fail
                  go_roundw
                  case rel => exact ⟨k + 1, s0 + o0, by go_num, HKN.out, rfl, HST, HS2, HW⟩
                  case measure => have := HKN.out; simp [intOf]; omega
                · have hne : (flv == lv) = false := beq_eq_false_iff_ne.2 hl
                  have HST := Lib.hid (show sumR lv (l.take (k + 1)) = s0 from by have h := HSR.out; rw [if_neg hl] at h; exact h)
                  clear hl
                  go_wp2_with fail
                  go_roundw
                  case rel => exact ⟨k + 1, s0, by go_num, HKN.out, rfl, HST, HS2, HW⟩
                  case measure => have := HKN.out; simp [intOf]; omega
      · obtain rfl : k = ln := by omega
        have htk : l.take k = l := List.take_of_length_le (by rw [← HLN.out]; exact Nat.le_refl _)
        rw [htk] at HSE HSZ
        have HSUM := Lib.hid (agg_sum lv l (fun r hr => (HSZ.out r hr).2) (by rw [← HLN.out]; omega))
        have HSZ := Lib.hid (show ∀ r ∈ l, r.k.sv.size ≤ 60 ∧ r.k.op.size ≤ 60 from fun r hr => (HSZ.out r hr).1)
        have HRX := Lib.hid ((HRL.out.below HW.out).more HW.out.size)
        have HX0 := Lib.hid (Below.refl wr.heap.size wr)
        obtain ⟨S, hS⟩ : ∃ S, S = srtB (aggB lv l) := ⟨_, rfl⟩
        have HSL := Lib.hid (show S.length ≤ k from by rw [hS, srtB_len, HLN.out]; exact aggB_len lv l)
        have HSO := Lib.hid (show SortB S from by rw [hS]; exact srtB_sort (aggB_one lv l))
        have HON := Lib.hid (show OneB S from by rw [hS]; exact oneB_perm (srtB_perm _) (aggB_one lv l))
        have HS0 := Lib.hid (show s0 = sumB S from by rw [← HSE.out, ← HSUM.out.1, hS]; exact (sumB_perm (srtB_perm _)).symm)
        have HSP := Lib.hid (show (∀ b ∈ S, 0 ≤ b.ct) ∧ sumB S ≤ 87960930222080 from by
          refine ⟨fun b hb => HSUM.out.2.1 b (by rw [hS] at hb; exact (srtB_perm _).mem_iff.1 hb), ?_⟩
          rw [← HS0.out, ← HSE.out]
          have h7 : (l.length : Int) * 1099511627776 ≤ 80 * 1099511627776 := Int.mul_le_mul_of_nonneg_right (by rw [← HLN.out]; omega) (by decide)
          have := HSUM.out.2.2.2
          omega)
        obtain ⟨E1, hE1⟩ : ∃ E, E = topB n S := ⟨_, rfl⟩
        obtain ⟨E2, hE2⟩ : ∃ E, E = topB m S := ⟨_, rfl⟩
        obtain ⟨K1, hK1⟩ : ∃ K, K = E1.length := ⟨_, rfl⟩
        obtain ⟨K2, hK2⟩ : ∃ K, K = E2.length := ⟨_, rfl⟩
        obtain ⟨K3, hK3⟩ : ∃ K, K = S.length := ⟨_, rfl⟩
        have hN := HNM.out
        have hlen1 : K1 = min n.toNat S.length := by rw [hK1, hE1]; unfold topB; rw [List.length_take]
        have hlen2 : K2 = min m.toNat S.length := by rw [hK2, hE2]; unfold topB; rw [List.length_take]
        have HT21 := Lib.hid (show E2.take K1 = E1 from by
          rw [hE1, hE2]; unfold topB
          rw [List.take_take, hlen1]
          rcases Nat.le_total n.toNat S.length with h | h
          · rw [Nat.min_eq_left h, Nat.min_eq_left (by omega)]
          · rw [Nat.min_eq_right h, Nat.min_eq_left (by omega), List.take_length, List.take_of_length_le h])
        have HE1 : Hid (E1 = topB n (srtB (aggB lv l))) := Lib.hid (by rw [hE1, hS])
        have HE2 : Hid (E2 = topB m (srtB (aggB lv l))) := Lib.hid (by rw [hE2, hS])
        have HS : Hid (S = topB (k : Int) (srtB (aggB lv l))) := Lib.hid (by rw [← hS]; unfold topB; rw [List.take_of_length_le (by have := HSL.out; omega)])
        have HK1 := Lib.hid hK1
        have HK2 := Lib.hid hK2
        have HK3 := Lib.hid hK3
        have HLE := Lib.hid (show K1 ≤ 80 ∧ K2 ≤ 80 ∧ K3 ≤ 80 from by have := HSL.out; omega)
        have f1 : decide (n < (K1 : Int)) = false := decide_eq_false (by omega)
        have f2 : decide (K2 < K1) = false := decide_eq_false (by omega)
        have f2' : decide ((K2 : Int) < (K1 : Int)) = false := decide_eq_false (by omega)
        obtain ⟨bb, hbb⟩ : ∃ bb, bb = decide ((K1 : Int) < n) := ⟨_, rfl⟩
        have f3 : decide ((K1 : Int) < n) = bb := hbb.symm
        have hf4 : bb = true → ¬ K1 < K2 := fun h => by
          rw [h] at hbb
          have h1 := of_decide_eq_true hbb.symm
          omega
        have HF4 := Lib.hid hf4
        clear htk hlt hk hS hE1 hE2 hK1 hK2 hK3 hlen1 hlen2 hN hbb hf4
        go_upto_region 13 with (go_at_call 30; (with_reducible refine (busy_rd lA l k lc wr.heap.size lv n wr HLN.out ((HRX.out.below HX0.out).more HX0.out.size) (Nat.le_refl _) HOK.out HSZ.out (by omega) K1 E1 HE1.out HK1.out).mono ?_); rintro ex w3 ⟨aA, ac, rfl, hr9, hc9, hb9⟩; have Ra := Lib.hid hr9; have Ca := Lib.hid hc9; have HYa := Lib.hid hb9; have HX3 := Lib.hid (HX0.out.trans (hb9.mono HX0.out.size)); clear hr9 hc9 hb9)
        go_upto_region 14 with (go_at_call 30; (with_reducible refine (busy_rd lA l k lc w3.heap.size lv m w3 HLN.out ((HRX.out.below HX3.out).more HX3.out.size) (Nat.le_refl _) HOK.out HSZ.out (by omega) K2 E2 HE2.out HK2.out).mono ?_); rintro ex w4 ⟨bA, bc, rfl, hr9, hc9, hb9⟩; have Rb := Lib.hid hr9; have Cb := Lib.hid hc9; have HYb := Lib.hid hb9; have HX4 := Lib.hid (HX3.out.trans (hb9.mono HX3.out.size)); clear hr9 hc9 hb9)
        go_upto_region 15 with (go_at_call 30; (with_reducible refine (busy_rd lA l k lc w4.heap.size lv (k : Int) w4 HLN.out ((HRX.out.below HX4.out).more HX4.out.size) (Nat.le_refl _) HOK.out HSZ.out (by omega) K3 S HS.out HK3.out).mono ?_); rintro ex w5 ⟨cA, cc, rfl, hr9, hc9, hb9⟩; have Rc := Lib.hid hr9; have Cc := Lib.hid hc9; have HYc := Lib.hid hb9; have HX5 := Lib.hid (HX4.out.trans (hb9.mono HX4.out.size)); clear hr9 hc9 hb9)
        have RA5 := Lib.hid ((Ra.out.below (HYb.out.trans (HYc.out.mono HYb.out.size))).more (Nat.le_trans HYb.out.size HYc.out.size))
        have RB5 := Lib.hid (show Rd w5 w5.heap.size bA (E1.flatMap Bz.cells) from by rw [← HT21.out]; exact rdZ_take ((Rb.out.below HYc.out).more HYc.out.size))
        have k0 : (0 : Int) ≤ (K1 : Int) := by omega
        have k1 : (K1 : Int) ≤ (K2 : Int) := by have := of_decide_eq_false f2; omega
        have k2 : (K2 : Int) ≤ (bc : Int) := by have := Cb.out; omega
        have k3 : K1 ≤ bc := by have := Cb.out; omega
        have k4 : (K1 : Int) ≤ (bc : Int) := by omega
        have SBC := Lib.hid (fun cc => samebusy_same aA bA E1 K1 ac cc w5.heap.size w5 HK1.out RA5.out RB5.out (Nat.le_refl _) (by have := HLE.out; omega))
        have hcut : Hid (∀ w6, Below w5.heap.size w5 w6 → Below w2.heap.size w2 w6 ∧ Rd w6 w6.heap.size cA (S.flatMap Bz.cells)) := Lib.hid (fun w6 h => ⟨HW.out.trans ((HX5.out.trans (h.mono HX5.out.size)).mono HW.out.size), (Rc.out.below h).more h.size⟩)
        have HRE := Lib.hid (show s0 = sumB (S.drop 0) from HS0.out)
        cases bb
        · go_upto_region 18 with (go_at_call 29; (with_reducible refine (SBC.out _).mono ?_); rintro ex w6 ⟨rfl, hb6⟩; have HC6 := Lib.hid (hcut.out _ hb6); clear hb6)
          clear f1 f2 f2' f3 HF4 k0 k1 k2 k3 k4
          have HR6 := Lib.hid HC6.out.2
          have HB6 := Lib.hid HC6.out.1
          clear HC6 hcut
          go_loopw [10, 15] (fun sv vi wq => ∃ (i : Nat) (s : Int), vi = .int .i64 (i : Int) ∧ i ≤ K3 ∧ sv = .int .i64 s ∧ Hid (s = sumB (S.drop i)) ∧ Hid (Below w6.heap.size w6 wq)) (fun _ vi _ => K3 - (intOf vi).toNat)
          case atStart => exact ⟨0, s0, rfl, Nat.zero_le _, rfl, HRE, Lib.hid (Below.refl _ _)⟩
          case round =>
            obtain ⟨i, s, rfl, hi, rfl, HSI, HV⟩ := hrel
            have HW := HV
            by_cases hlt : i < K3
            · obtain ⟨x, hx⟩ : ∃ x, S[i]? = some x := ⟨_, List.getElem?_eq_getElem (by rw [← HK3.out]; exact hlt)⟩
              obtain ⟨a, ha, _, x0, x1, x2, x3⟩ := bz_cells (HR6.out.below HW.out) hx
              subst ha
              have hsd := sumB_drop hx
              have hpos : ∀ q, 0 ≤ sumB (S.drop q) := fun q => by
                have : ∀ t : List Bz, (∀ b ∈ t, 0 ≤ b.ct) → 0 ≤ sumB t := by
                  intro t
                  induction t with
                  | nil => intro _; exact Int.le_refl _
                  | cons y t ih => intro hm; rw [sumB_cons]; have := hm y List.mem_cons_self; have := ih fun x hx => hm x (List.mem_cons_of_mem _ hx); omega
                exact this _ (fun b hb => HSP.out.1 b (List.mem_of_mem_drop hb))
              have hxc := HSP.out.1 x (List.mem_of_getElem? hx)
              have hsb : ∀ q, sumB (S.drop q) ≤ sumB S := fun q => by
                induction q with
                | zero => exact Int.le_refl _
                | succ q ih =>
                  rcases Nat.lt_or_ge q S.length with h | h
                  · have h1 := sumB_drop (List.getElem?_eq_getElem h)
                    have h2 := HSP.out.1 S[q] (List.getElem_mem h)
                    omega
                  · rw [List.drop_of_length_le (by omega)]; have := hpos 0; exact this
              have ew : IntKind.i64.wrap (s - x.ct) = sumB (S.drop (i + 1)) := by
                have h1 := hpos (i + 1)
                have h2 := hsb (i + 1)
                have h3 := HSP.out.2
                rw [HSI.out, hsd, IntKind.wrap_i64] <;> omega
              have HEW := Lib.hid ew
              obtain ⟨s1, hs1⟩ : ∃ s1, s1 = sumB (S.drop (i + 1)) := ⟨_, rfl⟩
              rw [← hs1] at ew
              have HS1 := Lib.hid hs1
              have i0 : (0 : Int) ≤ (i : Int) := by omega
              have i1 : (i : Int) < (K3 : Int) := by omega
              have i2 : (K3 : Int) ≤ 80 := by have := HLE.out; omega
              have HLT := Lib.hid hlt
              have HXI := Lib.hid hx
              clear hx hsd hpos hxc hsb hs1 hlt HEW
              by_cases h0 : i = 0
              · have g0 : decide ((0 : Int) < (i : Int)) = false := decide_eq_false (by omega)
                have g1 : decide (0 < i) = false := decide_eq_false (by omega)
                clear h0
                obtain ⟨xs, xo, xc, xe⟩ := x
                simp only at x0 x1 x2 x3 ew
                go_wp2_with fail
                have n0 := fun p : NowB wr => p.cell x0
                have n1 := fun p : NowB wr => p.cell x1
                have n2 := fun p : NowB wr => p.cell x2
                have n3 := fun p : NowB wr => p.cell x3
                clear x0 x1 x2 x3
                refine wp_region_quiet_below (by kernel_rfl) (by kernel_rfl) ?_
                repeat (go_big_quiet_step ((fail)))
                refine wpQuiet_nil ?_
                intro _ hw'
                obtain ⟨pp, hw''⟩ := hw'
                subst hw''
                have HW9 := Lib.hid (HW.out.trans (pp.h.mono HW.out.size))
                have HP9 := Lib.hid pp.h
                generalize pp.W = w9 at *
                go_wp2_with fail
                go_roundw
                case rel => exact ⟨i + 1, s1, by go_num, HLT.out, rfl, HS1, HW9⟩
                case measure => have := HLT.out; simp [intOf]; omega
              · obtain ⟨q, hq⟩ : ∃ q, i = q + 1 := ⟨i - 1, by omega⟩
                obtain ⟨y, hy⟩ : ∃ y, S[q]? = some y := ⟨_, List.getElem?_eq_getElem (by have := (List.getElem?_eq_some_iff.1 HXI.out).1; omega)⟩
                obtain ⟨a', ha', _, y0, y1, y2, y3⟩ := bz_cells (HR6.out.below HW.out) hy
                obtain rfl : a = a' := by injection ha'
                have hord : ordB y x < 0 := by
                  have h1 := (List.pairwise_iff_getElem.1 HSO.out) q i (List.getElem?_eq_some_iff.1 hy).1 (List.getElem?_eq_some_iff.1 HXI.out).1 (by omega)
                  rwa [(List.getElem?_eq_some_iff.1 hy).2, (List.getElem?_eq_some_iff.1 HXI.out).2] at h1
                have hkey : y.k ≠ x.k := by
                  have h1 := (List.pairwise_iff_getElem.1 HON.out) q i (List.getElem?_eq_some_iff.1 hy).1 (List.getElem?_eq_some_iff.1 HXI.out).1 (by omega)
                  rwa [(List.getElem?_eq_some_iff.1 hy).2, (List.getElem?_eq_some_iff.1 HXI.out).2] at h1
                have hct : ¬ y.ct < x.ct := fun h => by
                  have h1 : cmpI x.ct y.ct = 1 := by unfold cmpI; rw [if_neg (by omega), if_pos h]
                  unfold ordB or2 at hord
                  rw [h1] at hord
                  simp at hord
                obtain ⟨xs, xo, xc, xe⟩ := x
                obtain ⟨ys, yo, yc, ye⟩ := y
                simp only at x0 x1 x2 x3 y0 y1 y2 y3 ew hct
                have c1 : decide (yc < xc) = false := decide_eq_false hct
                have g0 : decide ((0 : Int) < (i : Int)) = true := decide_eq_true (by omega)
                have g1 : decide (0 < i) = true := decide_eq_true (by omega)
                have e1 : IntKind.i64.wrap ((i : Int) - 1) = (q : Int) := by rw [IntKind.wrap_i64] <;> omega
                have q0 : (0 : Int) ≤ (q : Int) := by omega
                have q1 : (q : Int) < (K3 : Int) := by omega
                clear hy hord hct ha' h0
                have HQ := Lib.hid hq
                clear hq
                by_cases hs : xs = ys
                · have ho : ¬ xo = yo := fun h => hkey (by show (ys, yo) = (xs, xo); rw [hs, h])
                  have e2 : (xs.toList == ys.toList) = true := by rw [hs]; exact beq_self_eq_true _
                  have e3 : (xo.toList == yo.toList) = false := beq_eq_false_iff_ne.2 (fun h => ho (strz_inj h))
                  clear hs ho hkey
                  go_wp2_with fail
                  have n0 := fun p : NowB wr => p.cell x0
                  have n1 := fun p : NowB wr => p.cell x1
                  have n2 := fun p : NowB wr => p.cell x2
                  have n3 := fun p : NowB wr => p.cell x3
                  have m0 := fun p : NowB wr => p.cell y0
                  have m1 := fun p : NowB wr => p.cell y1
                  have m2 := fun p : NowB wr => p.cell y2
                  have m3 := fun p : NowB wr => p.cell y3
                  clear x0 x1 x2 x3 y0 y1 y2 y3
                  refine wp_region_quiet_below (by kernel_rfl) (by kernel_rfl) ?_
                  repeat (go_big_quiet_step ((fail)))
                  refine wpQuiet_nil ?_
                  intro _ hw'
                  obtain ⟨pp, hw''⟩ := hw'
                  subst hw''
                  have HW9 := Lib.hid (HW.out.trans (pp.h.mono HW.out.size))
                  have HP9 := Lib.hid pp.h
                  generalize pp.W = w9 at *
                  go_wp2_with fail
                  go_roundw
                  case rel => exact ⟨i + 1, s1, by go_num, HLT.out, rfl, HS1, HW9⟩
                  case measure => have := HLT.out; simp [intOf]; omega
                · have e2 : (xs.toList == ys.toList) = false := beq_eq_false_iff_ne.2 (fun h => hs (strz_inj h))
                  clear hs hkey
                  go_wp2_with fail
                  have n0 := fun p : NowB wr => p.cell x0
                  have n1 := fun p : NowB wr => p.cell x1
                  have n2 := fun p : NowB wr => p.cell x2
                  have n3 := fun p : NowB wr => p.cell x3
                  have m0 := fun p : NowB wr => p.cell y0
                  have m1 := fun p : NowB wr => p.cell y1
                  have m2 := fun p : NowB wr => p.cell y2
                  have m3 := fun p : NowB wr => p.cell y3
                  clear x0 x1 x2 x3 y0 y1 y2 y3
                  refine wp_region_quiet_below (by kernel_rfl) (by kernel_rfl) ?_
                  repeat (go_big_quiet_step ((fail)))
                  refine wpQuiet_nil ?_
                  intro _ hw'
                  obtain ⟨pp, hw''⟩ := hw'
                  subst hw''
                  have HW9 := Lib.hid (HW.out.trans (pp.h.mono HW.out.size))
                  have HP9 := Lib.hid pp.h
                  generalize pp.W = w9 at *
                  go_wp2_with fail
                  go_roundw
                  case rel => exact ⟨i + 1, s1, by go_num, HLT.out, rfl, HS1, HW9⟩
                  case measure => have := HLT.out; simp [intOf]; omega
            · obtain rfl : i = K3 := by omega
              have hs0 : s = 0 := by rw [HSI.out, List.drop_of_length_le (by rw [← HK3.out]; exact Nat.le_refl _)]; rfl
              subst hs0
              go_wp2_with fail
              go_ret
              exact ⟨rfl, HB2.out.trans ((HB6.out.trans (HW.out.mono HB6.out.size)).mono HB2.out.size)⟩
        · have f4 : decide (K1 < K2) = false := decide_eq_false (HF4.out rfl)
          have f4' : decide ((K1 : Int) < (K2 : Int)) = false := decide_eq_false (by have := HF4.out rfl; omega)
          go_upto_region 18 with (go_at_call 29; (with_reducible refine (SBC.out _).mono ?_); rintro ex w6 ⟨rfl, hb6⟩; have HC6 := Lib.hid (hcut.out _ hb6); clear hb6)
          clear f1 f2 f2' f3 f4 f4' HF4 k0 k1 k2 k3 k4
          have HR6 := Lib.hid HC6.out.2
          have HB6 := Lib.hid HC6.out.1
          clear HC6 hcut
          go_loopw [10, 15] (fun sv vi wq => ∃ (i : Nat) (s : Int), vi = .int .i64 (i : Int) ∧ i ≤ K3 ∧ sv = .int .i64 s ∧ Hid (s = sumB (S.drop i)) ∧ Hid (Below w6.heap.size w6 wq)) (fun _ vi _ => K3 - (intOf vi).toNat)
          case atStart => exact ⟨0, s0, rfl, Nat.zero_le _, rfl, HRE, Lib.hid (Below.refl _ _)⟩
          case round =>
            obtain ⟨i, s, rfl, hi, rfl, HSI, HV⟩ := hrel
            have HW := HV
            by_cases hlt : i < K3
            · obtain ⟨x, hx⟩ : ∃ x, S[i]? = some x := ⟨_, List.getElem?_eq_getElem (by rw [← HK3.out]; exact hlt)⟩
              obtain ⟨a, ha, _, x0, x1, x2, x3⟩ := bz_cells (HR6.out.below HW.out) hx
              subst ha
              have hsd := sumB_drop hx
              have hpos : ∀ q, 0 ≤ sumB (S.drop q) := fun q => by
                have : ∀ t : List Bz, (∀ b ∈ t, 0 ≤ b.ct) → 0 ≤ sumB t := by
                  intro t
                  induction t with
                  | nil => intro _; exact Int.le_refl _
                  | cons y t ih => intro hm; rw [sumB_cons]; have := hm y List.mem_cons_self; have := ih fun x hx => hm x (List.mem_cons_of_mem _ hx); omega
                exact this _ (fun b hb => HSP.out.1 b (List.mem_of_mem_drop hb))
              have hxc := HSP.out.1 x (List.mem_of_getElem? hx)
              have hsb : ∀ q, sumB (S.drop q) ≤ sumB S := fun q => by
                induction q with
                | zero => exact Int.le_refl _
                | succ q ih =>
                  rcases Nat.lt_or_ge q S.length with h | h
                  · have h1 := sumB_drop (List.getElem?_eq_getElem h)
                    have h2 := HSP.out.1 S[q] (List.getElem_mem h)
                    omega
                  · rw [List.drop_of_length_le (by omega)]; have := hpos 0; exact this
              have ew : IntKind.i64.wrap (s - x.ct) = sumB (S.drop (i + 1)) := by
                have h1 := hpos (i + 1)
                have h2 := hsb (i + 1)
                have h3 := HSP.out.2
                rw [HSI.out, hsd, IntKind.wrap_i64] <;> omega
              have HEW := Lib.hid ew
              obtain ⟨s1, hs1⟩ : ∃ s1, s1 = sumB (S.drop (i + 1)) := ⟨_, rfl⟩
              rw [← hs1] at ew
              have HS1 := Lib.hid hs1
              have i0 : (0 : Int) ≤ (i : Int) := by omega
              have i1 : (i : Int) < (K3 : Int) := by omega
              have i2 : (K3 : Int) ≤ 80 := by have := HLE.out; omega
              have HLT := Lib.hid hlt
              have HXI := Lib.hid hx
              clear hx hsd hpos hxc hsb hs1 hlt HEW
              by_cases h0 : i = 0
              · have g0 : decide ((0 : Int) < (i : Int)) = false := decide_eq_false (by omega)
                have g1 : decide (0 < i) = false := decide_eq_false (by omega)
                clear h0
                obtain ⟨xs, xo, xc, xe⟩ := x
                simp only at x0 x1 x2 x3 ew
                go_wp2_with fail
                have n0 := fun p : NowB wr => p.cell x0
                have n1 := fun p : NowB wr => p.cell x1
                have n2 := fun p : NowB wr => p.cell x2
                have n3 := fun p : NowB wr => p.cell x3
                clear x0 x1 x2 x3
                refine wp_region_quiet_below (by kernel_rfl) (by kernel_rfl) ?_
                repeat (go_big_quiet_step ((fail)))
                refine wpQuiet_nil ?_
                intro _ hw'
                obtain ⟨pp, hw''⟩ := hw'
                subst hw''
                have HW9 := Lib.hid (HW.out.trans (pp.h.mono HW.out.size))
                have HP9 := Lib.hid pp.h
                generalize pp.W = w9 at *
                go_wp2_with fail
                go_roundw
                case rel => exact ⟨i + 1, s1, by go_num, HLT.out, rfl, HS1, HW9⟩
                case measure => have := HLT.out; simp [intOf]; omega
              · obtain ⟨q, hq⟩ : ∃ q, i = q + 1 := ⟨i - 1, by omega⟩
                obtain ⟨y, hy⟩ : ∃ y, S[q]? = some y := ⟨_, List.getElem?_eq_getElem (by have := (List.getElem?_eq_some_iff.1 HXI.out).1; omega)⟩
                obtain ⟨a', ha', _, y0, y1, y2, y3⟩ := bz_cells (HR6.out.below HW.out) hy
                obtain rfl : a = a' := by injection ha'
                have hord : ordB y x < 0 := by
                  have h1 := (List.pairwise_iff_getElem.1 HSO.out) q i (List.getElem?_eq_some_iff.1 hy).1 (List.getElem?_eq_some_iff.1 HXI.out).1 (by omega)
                  rwa [(List.getElem?_eq_some_iff.1 hy).2, (List.getElem?_eq_some_iff.1 HXI.out).2] at h1
                have hkey : y.k ≠ x.k := by
                  have h1 := (List.pairwise_iff_getElem.1 HON.out) q i (List.getElem?_eq_some_iff.1 hy).1 (List.getElem?_eq_some_iff.1 HXI.out).1 (by omega)
                  rwa [(List.getElem?_eq_some_iff.1 hy).2, (List.getElem?_eq_some_iff.1 HXI.out).2] at h1
                have hct : ¬ y.ct < x.ct := fun h => by
                  have h1 : cmpI x.ct y.ct = 1 := by unfold cmpI; rw [if_neg (by omega), if_pos h]
                  unfold ordB or2 at hord
                  rw [h1] at hord
                  simp at hord
                obtain ⟨xs, xo, xc, xe⟩ := x
                obtain ⟨ys, yo, yc, ye⟩ := y
                simp only at x0 x1 x2 x3 y0 y1 y2 y3 ew hct
                have c1 : decide (yc < xc) = false := decide_eq_false hct
                have g0 : decide ((0 : Int) < (i : Int)) = true := decide_eq_true (by omega)
                have g1 : decide (0 < i) = true := decide_eq_true (by omega)
                have e1 : IntKind.i64.wrap ((i : Int) - 1) = (q : Int) := by rw [IntKind.wrap_i64] <;> omega
                have q0 : (0 : Int) ≤ (q : Int) := by omega
                have q1 : (q : Int) < (K3 : Int) := by omega
                clear hy hord hct ha' h0
                have HQ := Lib.hid hq
                clear hq
                by_cases hs : xs = ys
                · have ho : ¬ xo = yo := fun h => hkey (by show (ys, yo) = (xs, xo); rw [hs, h])
                  have e2 : (xs.toList == ys.toList) = true := by rw [hs]; exact beq_self_eq_true _
                  have e3 : (xo.toList == yo.toList) = false := beq_eq_false_iff_ne.2 (fun h => ho (strz_inj h))
                  clear hs ho hkey
                  go_wp2_with fail
                  have n0 := fun p : NowB wr => p.cell x0
                  have n1 := fun p : NowB wr => p.cell x1
                  have n2 := fun p : NowB wr => p.cell x2
                  have n3 := fun p : NowB wr => p.cell x3
                  have m0 := fun p : NowB wr => p.cell y0
                  have m1 := fun p : NowB wr => p.cell y1
                  have m2 := fun p : NowB wr => p.cell y2
                  have m3 := fun p : NowB wr => p.cell y3
                  clear x0 x1 x2 x3 y0 y1 y2 y3
                  refine wp_region_quiet_below (by kernel_rfl) (by kernel_rfl) ?_
                  repeat (go_big_quiet_step ((fail)))
                  refine wpQuiet_nil ?_
                  intro _ hw'
                  obtain ⟨pp, hw''⟩ := hw'
                  subst hw''
                  have HW9 := Lib.hid (HW.out.trans (pp.h.mono HW.out.size))
                  have HP9 := Lib.hid pp.h
                  generalize pp.W = w9 at *
                  go_wp2_with fail
                  go_roundw
                  case rel => exact ⟨i + 1, s1, by go_num, HLT.out, rfl, HS1, HW9⟩
                  case measure => have := HLT.out; simp [intOf]; omega
                · have e2 : (xs.toList == ys.toList) = false := beq_eq_false_iff_ne.2 (fun h => hs (strz_inj h))
                  clear hs hkey
                  go_wp2_with fail
                  have n0 := fun p : NowB wr => p.cell x0
                  have n1 := fun p : NowB wr => p.cell x1
                  have n2 := fun p : NowB wr => p.cell x2
                  have n3 := fun p : NowB wr => p.cell x3
                  have m0 := fun p : NowB wr => p.cell y0
                  have m1 := fun p : NowB wr => p.cell y1
                  have m2 := fun p : NowB wr => p.cell y2
                  have m3 := fun p : NowB wr => p.cell y3
                  clear x0 x1 x2 x3 y0 y1 y2 y3
                  refine wp_region_quiet_below (by kernel_rfl) (by kernel_rfl) ?_
                  repeat (go_big_quiet_step ((fail)))
                  refine wpQuiet_nil ?_
                  intro _ hw'
                  obtain ⟨pp, hw''⟩ := hw'
                  subst hw''
                  have HW9 := Lib.hid (HW.out.trans (pp.h.mono HW.out.size))
                  have HP9 := Lib.hid pp.h
                  generalize pp.W = w9 at *
                  go_wp2_with fail
                  go_roundw
                  case rel => exact ⟨i + 1, s1, by go_num, HLT.out, rfl, HS1, HW9⟩
                  case measure => have := HLT.out; simp [intOf]; omega
            · obtain rfl : i = K3 := by omega
              have hs0 : s = 0 := by rw [HSI.out, List.drop_of_length_le (by rw [← HK3.out]; exact Nat.le_refl _)]; rfl
              subst hs0
              go_wp2_with fail
              go_ret
              exact ⟨rfl, HB2.out.trans ((HB6.out.trans (HW.out.mono HB6.out.size)).mono HB2.out.size)⟩
end Go.Proofs.YtkhhcnpmobgdgaaDoor
