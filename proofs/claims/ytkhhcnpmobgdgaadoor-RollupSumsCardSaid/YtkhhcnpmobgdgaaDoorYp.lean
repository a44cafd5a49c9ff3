/- RollupSums. -/
import Derived.Test.YtkhhcnpmobgdgaaDoorYo
namespace Go.Proofs.YtkhhcnpmobgdgaaDoor
open Go.RowKit
set_option linter.unusedVariables false
set_option linter.unusedSimpArgs false
set_option maxRecDepth 100000

theorem Calls.now_drew {P : Program} {f : FuncId} {args : Array Value} {w : World} {p : NowB w} {v : Value}
    (h : Calls P f args p.W fun e w' => e = .returned v ∧ ∃ k, w' = p.W.drewN k) : Calls P f args p.W fun e w'' => e = .returned v ∧ ∃ q : NowB w, w'' = q.W :=
  h.mono fun _ w1 ⟨he, k, hb⟩ => ⟨he, ⟨⟨w1, by rw [hb]; exact p.h.trans ⟨rfl, rfl, rfl, Nat.le_refl _, fun _ _ => rfl⟩⟩, rfl⟩⟩
theorem heap_put10 {w : World} {D : Nat} {cc : List Int} (jc : List Int) (h : w.heap[D]? = some (.cells (Cv cc) 46)) : (w.setCells D 0 [.int .i64 (jc.getD 0 0), .int .i64 (jc.getD 1 0), .int .i64 (jc.getD 2 0), .int .i64 (jc.getD 3 0), .int .i64 (jc.getD 4 0), .int .i64 (jc.getD 5 0), .int .i64 (jc.getD 6 0), .int .i64 (jc.getD 7 0), .int .i64 (jc.getD 8 0), .int .i64 (jc.getD 9 0)]).heap[D]? = some (.cells (Cv jc) 46) := by
  simp only [World.setCells]
  have h0 := Go.Joins.block_setCell (i := 0) h (.int .i64 (jc.getD 0 0))
  have h1 := Go.Joins.block_setCell (i := 1) h0 (.int .i64 (jc.getD 1 0))
  have h2 := Go.Joins.block_setCell (i := 2) h1 (.int .i64 (jc.getD 2 0))
  have h3 := Go.Joins.block_setCell (i := 3) h2 (.int .i64 (jc.getD 3 0))
  have h4 := Go.Joins.block_setCell (i := 4) h3 (.int .i64 (jc.getD 4 0))
  have h5 := Go.Joins.block_setCell (i := 5) h4 (.int .i64 (jc.getD 5 0))
  have h6 := Go.Joins.block_setCell (i := 6) h5 (.int .i64 (jc.getD 6 0))
  have h7 := Go.Joins.block_setCell (i := 7) h6 (.int .i64 (jc.getD 7 0))
  have h8 := Go.Joins.block_setCell (i := 8) h7 (.int .i64 (jc.getD 8 0))
  have h9 := Go.Joins.block_setCell (i := 9) h8 (.int .i64 (jc.getD 9 0))
  simp only [Cv, List.setIfInBounds_toArray, List.set_cons_zero, List.set_cons_succ] at h9 ⊢
  exact h9
theorem below_put10 {w : World} {D b : Nat} (jc : List Int) (hb : b ≤ D) : Below b w (w.setCells D 0 [.int .i64 (jc.getD 0 0), .int .i64 (jc.getD 1 0), .int .i64 (jc.getD 2 0), .int .i64 (jc.getD 3 0), .int .i64 (jc.getD 4 0), .int .i64 (jc.getD 5 0), .int .i64 (jc.getD 6 0), .int .i64 (jc.getD 7 0), .int .i64 (jc.getD 8 0), .int .i64 (jc.getD 9 0)]) := by
  simp only [World.setCells]
  exact ((((((((((Below.refl b w).setCell (by exact hb) _).setCell (by exact hb) _).setCell (by exact hb) _).setCell (by exact hb) _).setCell (by exact hb) _).setCell (by exact hb) _).setCell (by exact hb) _).setCell (by exact hb) _).setCell (by exact hb) _).setCell (by exact hb) _
def RgS (W : World) (b D k xn c4 : Nat) (ax : Addr) (cc rc jc : List Int) (m : Int) : Nat → Value → World → Prop
  | 0, v, _ => v = .agg (Cv cc)
  | 1, v, _ => v = .slice (some ax) xn c4
  | 2, v, _ => v = .int .i64 (k : Int)
  | 3, v, _ => v = .pointer (some (ax.add (k * 14)))
  | 4, v, _ => v = .pointer (some ⟨(ax.add (k * 14)).block, (ax.add (k * 14)).off + 4, none⟩)
  | 5, v, _ => v = .agg (Cv rc)
  | 6, v, _ => v = .int .i64 m
  | 7, v, _ => v = .agg (Cv jc)
  | 8, _, w => w.heap[D]? = some (.cells (Cv jc) 46) ∧ Below b W w
  | _, _, _ => True
theorem RgS.keep {W : World} {b D k xn c4 : Nat} {ax : Addr} {cc rc jc : List Int} {m : Int} {w w' : World} {i : Nat} {v : Value} (hi : i ≠ 8) (h : RgS W b D k xn c4 ax cc rc jc m i v w) : RgS W b D k xn c4 ax cc rc jc m i v w' := by
  match i, hi, h with
  | 0, _, h => exact h
  | 1, _, h => exact h
  | 2, _, h => exact h
  | 3, _, h => exact h
  | 4, _, h => exact h
  | 5, _, h => exact h
  | 6, _, h => exact h
  | 7, _, h => exact h
  | 8, hi, h => exact absurd rfl hi
  | _ + 9, _, h => trivial

set_option maxHeartbeats 16000000 in
theorem sums10 (sA : Option Addr) (S : List Ls) (sn sc : Nat) (m : Int) (w : World) (hS : RdSps w w.heap.size sA S) (hsn : sn = S.length) (hsl : sn ≤ maxLen) (T : Bnds w) (TL : Lens w) (hml : -9223372036854775808 ≤ m) (hm64 : m ≤ 9223372036854775807) :
    Calls Tryd.prog 5 #[.slice sA sn sc, .int .i64 m] w fun e w' => e = .returned (.bool true) ∧ Below w.heap.size w w' := by
  obtain ⟨base, hbase⟩ : ∃ base, base = w.heap.size := ⟨_, rfl⟩
  have HT : Hid (Bnds w ∧ Lens w ∧ 4 < base ∧ 1 < base) := ⟨T, TL, by rw [hbase]; exact T.lt, by rw [hbase]; exact TL.lt⟩
  rw [← hbase] at hS ⊢
  have HSs := Lib.hid hS
  have HSN := Lib.hid hsn
  have HBASE := Lib.hid hbase
  have AL := fun (W : World) (h : Below base w W) => Lib.hid (alive10_calls W (HT.out.1.below h HT.out.2.2.1) (HT.out.2.1.below h HT.out.2.2.2))
  have FE := fun (W : World) (h : Below base w W) => Lib.hid (fewall_any sA S sn sc base W HSN.out (HSs.out.below h) (by have := h.size; have := HBASE.out; omega) hsl)
  have AL0 := AL w (Below.refl _ _)
  clear hS hsn hbase T TL AL
  obtain ⟨fb, hfb⟩ : ∃ fb, fb = fewAll S := ⟨_, rfl⟩
  rw [← hfb] at FE
  have HFB := Lib.hid hfb
  clear hfb
  cases fb
  · go_enter Tryd.func5, Tryd.ntmps5
    go_wp2_with (first | (go_at_call 20; (with_reducible refine (FE _ (by with_reducible assumption)).out.mono ?_); rintro ex w2 ⟨rfl, hb2⟩; have HB2 := Lib.hid hb2) | (go_at_call 10; (with_reducible refine AL0.out.mono ?_); rintro ex w1 ⟨rfl, hb1⟩; have hbb1 : Below base w w1 := (by rw [HBASE.out]; exact hb1)))
    go_ret
    exact ⟨rfl, hbb1.trans (HB2.out.mono (by have := hbb1.size; have := HBASE.out; omega))⟩
  · have hsn60 : sn ≤ 60 := by
      have h := HFB.out
      unfold fewAll at h
      have h2 := (Bool.and_eq_true _ _).mp h.symm
      rw [HSN.out]; exact of_decide_eq_true h2.1
    obtain ⟨X, hX⟩ : ∃ X, X = rowsS (S.map Ls.s) m := ⟨_, rfl⟩
    obtain ⟨xn, hxn⟩ : ∃ xn, xn = X.length := ⟨_, rfl⟩
    have RW : ∀ (W : World), Below base w W → Hid (Calls Tryd.prog 21 #[.slice sA sn sc, .int .i64 m] W fun e w' => ∃ v', e = .returned v' ∧ w'.ownsRow W.heap.size 48 14 v' xn (X.flatMap Rw.cells) ∧ Below W.heap.size W w') := fun W h => Lib.hid (by
      have h1 := rows_any sA S sn sc base m W (HSs.out.below h) HSN.out (by have := h.size; have := HBASE.out; omega) (HT.out.1.below h HT.out.2.2.1) (HT.out.2.1.below h HT.out.2.2.2) hm64 (by omega)
      rw [← hX, ← hxn] at h1
      exact h1)
    have HX := Lib.hid hX
    have HXN := Lib.hid hxn
    have HXL := Lib.hid (show xn ≤ 180 from by
      rw [hxn, hX]
      have : ∀ R : List Sp, (rowsS R.reverse m).length ≤ 3 * R.length := by
        intro R
        induction R with
        | nil => exact Nat.le_refl _
        | cons s R ih => rw [List.reverse_cons, rowsS_snoc]; have := addS_len (rowsS R.reverse m) s m; rw [List.length_cons]; omega
      have h := this (S.map Ls.s).reverse
      rw [List.reverse_reverse, List.length_reverse, List.length_map, ← HSN.out] at h
      omega)
    clear hX hxn
    go_enter Tryd.func5, Tryd.ntmps5
    go_upto_region 4 with (first | (go_at_call 20; (with_reducible refine (FE _ (by with_reducible assumption)).out.mono ?_); rintro ex w2 ⟨rfl, hb2⟩; have HB2 := Lib.hid hb2) | (go_at_call 10; (with_reducible refine AL0.out.mono ?_); rintro ex w1 ⟨rfl, hb1⟩; have hbb1 : Below base w w1 := (by rw [HBASE.out]; exact hb1)))
    have HB2 := Lib.hid (hbb1.trans (HB2.out.mono (by have := hbb1.size; have := HBASE.out; omega)))
    have RW2 := RW w2 HB2.out
    clear RW FE AL0 hbb1 hb1 hb2
    go_upto_region 6 with (go_at_call 21; (with_reducible refine RW2.out.mono ?_); rintro ex w4 ⟨v4, rfl, ho4, hb4⟩; have HO4 := Lib.hid ho4; have HB4 := Lib.hid (HB2.out.trans (hb4.mono (by have := HB2.out.size; have := HBASE.out; omega))); clear ho4 hb4)
    obtain ⟨A4, c4, rfl, _, hrd4⟩ := own_rd HO4.out
    have HRD := Lib.hid hrd4
    have HBS4 := Lib.hid (show base ≤ w4.heap.size from by have := HB4.out.size; have := HBASE.out; omega)
    clear hrd4 RW2 HB2 HO4
    go_loopw [7] (fun i wr => ∃ k : Nat, i = .int .i64 k ∧ k ≤ xn ∧ Hid (Below w4.heap.size w4 wr)) (fun i _ => xn - (intOf i).toNat)
    case atStart => exact ⟨0, rfl, Nat.zero_le _, Lib.hid (Below.refl _ _)⟩
    case round =>
      obtain ⟨i, rfl, hi, HWO⟩ := hrel
      by_cases hlt : i < xn
      · obtain ⟨r, hr⟩ : ∃ r, X[i]? = some r := ⟨_, List.getElem?_eq_getElem (by rw [← HXN.out]; exact hlt)⟩
        have hrm : r ∈ rowsS (S.map Ls.s) m := by rw [← HX.out]; exact List.mem_of_getElem? hr
        have HRM := Lib.hid hrm
        have HR := Lib.hid hr
        have HIX := Lib.hid hlt
        have ii0 : (0 : Int) ≤ (i : Int) := by omega
        have ii1 : (i : Int) < (xn : Int) := by omega
        have ii2 : (xn : Int) ≤ 180 := by have := HXL.out; omega
        obtain ⟨ax, hax, habx, x0, x1, x2, x3, x4, x5, x6, x7, x8, x9, x10, x11, x12, x13⟩ := row_cells (HRD.out.below HWO.out) hr
        subst hax
        have HABX := Lib.hid habx
        clear hr hrm hlt hi
        by_cases hl0 : r.k.lv = 0
        · rw [hl0] at x0
          go_wp2_with fail
          go_roundw
          case rel => exact ⟨i + 1, by go_num, HIX.out, HWO⟩
          case measure => have := HIX.out; simp [intOf]; omega
        have e0 : (r.k.lv == 0) = false := beq_eq_false_iff_ne.2 hl0
        have HL0 := Lib.hid hl0
        clear hl0
        obtain ⟨⟨klv, kwi, ksv, kop⟩, ct⟩ := r
        simp only at x0 x1 x2 x3 x4 x5 x6 x7 x8 x9 x10 x11 x12 x13 e0
        obtain ⟨D, hD⟩ : ∃ D, D = wr.heap.size := ⟨_, rfl⟩
        obtain ⟨W9, hW9⟩ : ∃ W9, W9 = wr.alloc (.cells #[.int .i64 0, .int .i64 0, .int .i64 0, .int .i64 0, .int .i64 0, .int .i64 0, .int .i64 0, .int .i64 0, .int .i64 0, .int .i64 0] 46) := ⟨_, rfl⟩
        have hb9 : Below D wr W9 := by rw [hW9, hD]; exact (Below.refl wr.heap.size wr).alloc (Nat.le_refl _) _
        have HD0 := Lib.hid (show W9.heap[D]? = some (.cells (Cv []) 46) from by rw [hW9, hD]; exact heap_alloc_new wr _)
        have HDW := Lib.hid (show w4.heap.size ≤ D from by rw [hD]; exact HWO.out.size)
        have HW0 := Lib.hid (show Below w4.heap.size w4 W9 from HWO.out.trans (hb9.mono HDW.out))
        have HWE := Lib.hid hW9
        have HDE := Lib.hid hD
        clear hb9 hD hW9 x1 x2 x3 x4 x5 x6 x7 x8 x9 x10 x11 x12 x13
        go_upto_region 11 with fail
        rw [← HWE.out, ← HDE.out]
        clear x0
        go_loopw [9] (fun kv wr' => ∃ (kk : Nat) (cc : List Int), kv = .int .i64 kk ∧ kk ≤ xn ∧ Hid (cc = sumUp ⟨klv, kwi, ksv, kop⟩ m (X.take kk) []) ∧ Hid (okC cc) ∧ Hid (wr'.heap[D]? = some (.cells (Cv cc) 46)) ∧ Hid (Below w4.heap.size w4 wr')) (fun kv _ => xn - (intOf kv).toNat)
        case atStart => exact ⟨0, [], rfl, Nat.zero_le _, Lib.hid rfl, Lib.hid okC_nil, HD0, HW0⟩
        clear HWO HD0 HW0 HWE HDE
        case round =>
          obtain ⟨k, cc, rfl, hk, HCC, HOKC, HD, HW⟩ := hrel
          have HWS := Lib.hid (show w4.heap.size ≤ wr.heap.size from HW.out.size)
          have HDS := Lib.hid (show D < wr.heap.size from by
            have h := HD.out
            rcases Nat.lt_or_ge D wr.heap.size with h1 | h1
            · exact h1
            · rw [Array.getElem?_eq_none h1] at h; cases h)
          obtain ⟨ax1, hax1, _, k0, k1, k2, k3, k4, k5, k6, k7, k8, k9, k10, k11, k12, k13⟩ := row_cells (HRD.out.below HW.out) HR.out
          obtain rfl : ax = ax1 := by injection hax1
          simp only at k0 k1 k2 k3 k4 k5 k6 k7 k8 k9 k10 k11 k12 k13
          clear hax1
          by_cases hlt : k < xn
          · clear k4 k5 k6 k7 k8 k9 k10 k11 k12 k13
            obtain ⟨q, hq⟩ : ∃ q, X[k]? = some q := ⟨_, List.getElem?_eq_getElem (by rw [← HXN.out]; exact hlt)⟩
            have HOKR := Lib.hid (show okC q.ct from by
              have hm : q ∈ rowsS (S.map Ls.s) m := by rw [← HX.out]; exact List.mem_of_getElem? hq
              have h := (rows_mem m hm64 hm).2
              rw [h]
              intro j
              rcases Nat.lt_or_ge j 10 with h1 | h1
              · rw [ctM_at _ _ _ _ h1]; omega
              · have h2 : ¬ j < 10 := by omega
                have : (ctM q.k (S.map Ls.s) m).getD j 0 = 0 := by simp [ctM, List.getD, h2]
                rw [this]; omega)
            have HTK := Lib.hid (show sumUp ⟨klv, kwi, ksv, kop⟩ m (X.take (k + 1)) [] = if sub q.k ⟨klv, kwi, ksv, kop⟩ = true then joinC (sumUp ⟨klv, kwi, ksv, kop⟩ m (X.take k) []) q.ct m else sumUp ⟨klv, kwi, ksv, kop⟩ m (X.take k) [] from by
              unfold sumUp; rw [List.take_add_one, hq, List.foldl_append]; rfl)
            obtain ⟨ax2, hax2, hab2, j0, j1, j2, j3, j4, j5, j6, j7, j8, j9, j10, j11, j12, j13⟩ := row_cells (HRD.out.below HW.out) hq
            obtain rfl : ax = ax2 := by injection hax2
            have HXS := Lib.hid (show (ax.add (k * 14)).block < wr.heap.size from Nat.lt_of_lt_of_le (by unfold Addr.add; split <;> exact hab2) HWS.out)
            obtain ⟨⟨qlv, qwi, qsv, qop⟩, rc⟩ := q
            simp only at j0 j1 j2 j3 j4 j5 j6 j7 j8 j9 j10 j11 j12 j13 HOKR HTK
            have hcl : Hid (∀ j, j < 10 → wr.cell? ⟨(ax.add (k * 14)).block, (ax.add (k * 14)).off + 4 + j, none⟩ = some (.int .i64 (rc.getD j 0))) := Lib.hid (fun j hj => by
              have : j = 0 ∨ j = 1 ∨ j = 2 ∨ j = 3 ∨ j = 4 ∨ j = 5 ∨ j = 6 ∨ j = 7 ∨ j = 8 ∨ j = 9 := by omega
              rcases this with rfl | rfl | rfl | rfl | rfl | rfl | rfl | rfl | rfl | rfl
              all_goals assumption)
            have UP := fun (W : World) => Lib.hid (rup_any qlv qwi W)
            obtain ⟨u, hu⟩ : ∃ u : Int × Int × Bool, u = Wm.up qlv qwi := ⟨_, rfl⟩
            rw [← hu] at UP
            have HU := Lib.hid hu
            have HLT := Lib.hid hlt
            have jj0 : (0 : Int) ≤ (k : Int) := by omega
            have jj1 : (k : Int) < (xn : Int) := by omega
            obtain ⟨u1, u2, u3⟩ := u
            simp only at UP
            clear hax2 hq hu hlt hk hab2 j4 j5 j6 j7 j8 j9 j10 j11 j12 j13
            go_wp2_with fail
            have n0 := fun p : NowB wr => p.cell j0
            have n1 := fun p : NowB wr => p.cell j1
            clear j0 j1
            refine wp_region_quiet_below (by kernel_rfl) (by kernel_rfl) ?_
            repeat (go_big_quiet_step ((go_at_call 22; with_reducible exact Calls.now_drew (UP _).out)))
            refine wpQuiet_nil ?_
            intro _ hw'
            obtain ⟨pp, hw''⟩ := hw'
            subst hw''
            have HB5 := Lib.hid (HW.out.trans (pp.h.mono HWS.out))
            have HD5 := Lib.hid ((pp.h.block D HDS.out).trans HD.out)
            have v0 := pp.cell k0
            have v1 := pp.cell k1
            have v2 := pp.cell k2
            have v3 := pp.cell k3
            have t2 := pp.cell j2
            have t3 := pp.cell j3
            have hcl5 : Hid (∀ j, j < 10 → pp.W.cell? ⟨(ax.add (k * 14)).block, (ax.add (k * 14)).off + 4 + j, none⟩ = some (.int .i64 (rc.getD j 0))) := Lib.hid (fun j hj => pp.cell (hcl.out j hj))
            have HS5 := Lib.hid (show w4.heap.size ≤ pp.W.heap.size ∧ D < pp.W.heap.size ∧ (ax.add (k * 14)).block < pp.W.heap.size from by have := pp.h.size; have := HWS.out; have := HDS.out; have := HXS.out; omega)
            have HP9 := Lib.hid pp.h
            generalize pp.W = wr0 at *
            clear k0 k1 k2 k3 j2 j3 HP9 HW HD hcl HWS HDS HXS UP n0 n1
            have HW := HB5
            have HD := HD5
            have hcl := hcl5
            have HWS := Lib.hid HS5.out.1
            have HDS := Lib.hid HS5.out.2.1
            have HXS := Lib.hid HS5.out.2.2
            clear HB5 HD5 hcl5 HS5
            have k0 := v0
            have k1 := v1
            have k2 := v2
            have k3 := v3
            have j2 := t2
            have j3 := t3
            clear v0 v1 v2 v3 t2 t3
            cases u3
            · have HSUB := Lib.hid (show sub ⟨qlv, qwi, qsv, qop⟩ ⟨klv, kwi, ksv, kop⟩ = false from by unfold sub; rw [← HU.out]; simp)
              clear hcl
              go_wp2_with fail
              have m0 := fun p : NowB wr0 => p.cell k0
              have m1 := fun p : NowB wr0 => p.cell k1
              have m2 := fun p : NowB wr0 => p.cell k2
              have m3 := fun p : NowB wr0 => p.cell k3
              have n2 := fun p : NowB wr0 => p.cell j2
              have n3 := fun p : NowB wr0 => p.cell j3
              clear k0 k1 k2 k3 j2 j3
              refine wp_region_quiet_below (by kernel_rfl) (by kernel_rfl) ?_
              repeat (go_big_quiet_step ((fail)))
              refine wpQuiet_nil ?_
              intro _ hw'
              obtain ⟨pp, hw''⟩ := hw'
              subst hw''
              have HB9 := Lib.hid (HW.out.trans (pp.h.mono HWS.out))
              have HD9 := Lib.hid ((pp.h.block D HDS.out).trans HD.out)
              have HP9 := Lib.hid pp.h
              generalize pp.W = w9 at *
              go_wp2_with fail
              go_roundw
              case rel => exact ⟨k + 1, cc, by go_num, HLT.out, Lib.hid (by rw [HTK.out, HSUB.out, if_neg (by decide)]; exact HCC.out), HOKC, HD9, HB9⟩
              case measure => have := HLT.out; simp [intOf]; omega
            · by_cases h1 : u1 = klv
              · by_cases h2 : u2 = kwi
                · by_cases h3 : qsv = ksv
                  · by_cases h4 : qop = kop
                    · have HSUB := Lib.hid (show sub ⟨qlv, qwi, qsv, qop⟩ ⟨klv, kwi, ksv, kop⟩ = true from by unfold sub; rw [← HU.out]; simp [h1, h2, h3, h4])
                      subst h1
                      subst h2
                      subst h3
                      subst h4
                      go_wp2_with fail
                      have m0 := fun p : NowB wr0 => p.cell k0
                      have m1 := fun p : NowB wr0 => p.cell k1
                      have m2 := fun p : NowB wr0 => p.cell k2
                      have m3 := fun p : NowB wr0 => p.cell k3
                      have n2 := fun p : NowB wr0 => p.cell j2
                      have n3 := fun p : NowB wr0 => p.cell j3
                      clear k0 k1 k2 k3 j2 j3
                      refine wp_region_quiet_below (by kernel_rfl) (by kernel_rfl) ?_
                      repeat (go_big_quiet_step ((fail)))
                      refine wpQuiet_nil ?_
                      intro _ hw'
                      obtain ⟨pp, hw''⟩ := hw'
                      subst hw''
                      have HB9 := Lib.hid (HW.out.trans (pp.h.mono HWS.out))
                      have HD9 := Lib.hid ((pp.h.block D HDS.out).trans HD.out)
                      have HP9 := Lib.hid pp.h
                      generalize pp.W = w9 at *
                      go_upto_region 15 with fail
                      obtain ⟨W, hW⟩ : ∃ W, W = w9.drew := ⟨_, rfl⟩
                      obtain ⟨jc, hjc⟩ : ∃ jc, jc = joinC cc rc m := ⟨_, rfl⟩
                      have HJC := Lib.hid hjc
                      have hcc := HOKC.out
                      have hrc := HOKR.out
                      have hwd : W.heap[D]? = some (.cells (Cv cc) 46) := by rw [hW]; exact HD9.out
                      have hds : D < W.heap.size := by
                        rcases Nat.lt_or_ge D W.heap.size with h | h
                        · exact h
                        · rw [Array.getElem?_eq_none h] at hwd; cases hwd
                      have zd : Hid (∀ j, j < 10 → W.cell? ⟨D, j, none⟩ = some (.int .i64 (cc.getD j 0)) ∧ W.frozen? ⟨D, j, none⟩ = false) := Lib.hid (fun j hj => ⟨by rw [cell_of_row _ _ j _ _ (0, 0) hwd, Cv_at cc j hj], by simp [World.frozen?, hwd]⟩)
                      have zx : Hid (∀ j, j < 10 → W.cell? ⟨(ax.add (k * 14)).block, (ax.add (k * 14)).off + 4 + j, none⟩ = some (.int .i64 (rc.getD j 0))) := Lib.hid (fun j hj => by rw [hW]; exact (HP9.out.cell (p := ⟨(ax.add (k * 14)).block, (ax.add (k * 14)).off + 4 + j, none⟩) HXS.out).trans (hcl.out j hj))
                      have hxs : (ax.add (k * 14)).block < W.heap.size := by rw [hW]; exact Nat.lt_of_lt_of_le HXS.out HP9.out.size
                      have hb0 : w4.heap.size ≤ D := HDW.out
                      have hbw : w4.heap.size ≤ W.heap.size := by omega
                      have p0 : (k : Int) < (xn : Int) := by have := HLT.out; omega
                      have p1 : (0 : Int) ≤ (k : Int) := by omega
                      have SET0 := Lib.hid (fun w5 (hr : Below W.heap.size W w5) => heap_put10 jc ((hr.block D hds).trans hwd))
                      have SETB := Lib.hid (fun w5 (hr : Below W.heap.size W w5) => below_put10 (b := w4.heap.size) (w := w5) (D := D) jc hb0)
                      have SETP := Lib.hid (fun w5 (hr : Below W.heap.size W w5) => show (w5.setCells D 0 [.int .i64 (jc.getD 0 0), .int .i64 (jc.getD 1 0), .int .i64 (jc.getD 2 0), .int .i64 (jc.getD 3 0), .int .i64 (jc.getD 4 0), .int .i64 (jc.getD 5 0), .int .i64 (jc.getD 6 0), .int .i64 (jc.getD 7 0), .int .i64 (jc.getD 8 0), .int .i64 (jc.getD 9 0)]).heap[D]? = some (.cells (Cv jc) 46) ∧ Below w4.heap.size W (w5.setCells D 0 [.int .i64 (jc.getD 0 0), .int .i64 (jc.getD 1 0), .int .i64 (jc.getD 2 0), .int .i64 (jc.getD 3 0), .int .i64 (jc.getD 4 0), .int .i64 (jc.getD 5 0), .int .i64 (jc.getD 6 0), .int .i64 (jc.getD 7 0), .int .i64 (jc.getD 8 0), .int .i64 (jc.getD 9 0)]) from ⟨SET0.out w5 hr, (hr.mono hbw).trans (SETB.out w5 hr)⟩)
                      have HWW := Lib.hid hW
                      obtain ⟨b4, hb4⟩ : ∃ b4, b4 = w4.heap.size := ⟨_, rfl⟩
                      have HB4E := Lib.hid hb4
                      rw [← hb4] at SETB SETP hbw hb0
                      clear SET0 hjc hwd hb4
                      refine PI.wp_region_persG (R := fun w w' => Below b4 w w') (G := fun _ _ => True) (I := PI.LastI 8 W) [(3, 1), (3, 2), (4, 3), (5, 4), (7, 0), (7, 5), (7, 6), (8, 7)] [8] (by kernel_rfl) (PI.formed_of (by kernel_rfl)) ⟨fun w => Below.refl _ w, fun _ _ _ h k => h.trans k⟩ (fun _ => trivial) (RgS W b4 D k xn c4 ax cc rc jc m) (by rw [hW]; exact Or.inr (Below.refl _ _)) ?_ ?_
                      · rw [← hW]
                        intro i o ho
                        rcases i with _ | _ | _ | _ | _ | _ | _ | _ | _ | i
                        · obtain rfl := Option.some.inj (show some _ = some o from ho)
                          refine PI.shown_val rfl fun a w5 L0 hR5 T => ?_
                          have hr := PI.last_below T (by kernel_rfl) (by decide)
                          have hLn := PI.sink_false T (by kernel_rfl) (by decide)
                          have h1 : a.eval (.tmp 8) = .pointer (some ⟨D, 0, none⟩) := T.was 8 (by kernel_rfl)
                          have zz0 := (hr.cell (p := ⟨D, 0, none⟩) hds).trans (zd.out 0 (by decide)).1
                          have zz1 := (hr.cell (p := ⟨D, 1, none⟩) hds).trans (zd.out 1 (by decide)).1
                          have zz2 := (hr.cell (p := ⟨D, 2, none⟩) hds).trans (zd.out 2 (by decide)).1
                          have zz3 := (hr.cell (p := ⟨D, 3, none⟩) hds).trans (zd.out 3 (by decide)).1
                          have zz4 := (hr.cell (p := ⟨D, 4, none⟩) hds).trans (zd.out 4 (by decide)).1
                          have zz5 := (hr.cell (p := ⟨D, 5, none⟩) hds).trans (zd.out 5 (by decide)).1
                          have zz6 := (hr.cell (p := ⟨D, 6, none⟩) hds).trans (zd.out 6 (by decide)).1
                          have zz7 := (hr.cell (p := ⟨D, 7, none⟩) hds).trans (zd.out 7 (by decide)).1
                          have zz8 := (hr.cell (p := ⟨D, 8, none⟩) hds).trans (zd.out 8 (by decide)).1
                          have zz9 := (hr.cell (p := ⟨D, 9, none⟩) hds).trans (zd.out 9 (by decide)).1
                          exact ⟨.agg (Cv cc), w5, by simp only [execOp, h1]; simp [go_sem, Cv, zz0, zz1, zz2, zz3, zz4, zz5, zz6, zz7, zz8, zz9], PI.Post.pure ⟨fun w => Below.refl _ w, fun _ _ _ h k => h.trans k⟩ rfl (PI.LastI.go (a := a) (w := w5) hr)⟩
                        · obtain rfl := Option.some.inj (show some _ = some o from ho)
                          refine PI.shown_val rfl fun a w5 L0 hR5 T => ?_
                          have hr := PI.last_below T (by kernel_rfl) (by decide)
                          have hLn := PI.sink_false T (by kernel_rfl) (by decide)
                          have h1 : a.eval (.tmp 6) = .slice (some ax) xn c4 := T.was 6 (by kernel_rfl)
                          exact ⟨.slice (some ax) xn c4, w5, by simp only [execOp, h1]; simp [go_sem], PI.Post.pure ⟨fun w => Below.refl _ w, fun _ _ _ h k => h.trans k⟩ rfl (PI.LastI.go (a := a) (w := w5) hr)⟩
                        · obtain rfl := Option.some.inj (show some _ = some o from ho)
                          refine PI.shown_val rfl fun a w5 L0 hR5 T => ?_
                          have hr := PI.last_below T (by kernel_rfl) (by decide)
                          have hLn := PI.sink_false T (by kernel_rfl) (by decide)
                          have h1 : a.eval (.tmp 9) = .int .i64 (k : Int) := T.was 9 (by kernel_rfl)
                          exact ⟨.int .i64 (k : Int), w5, by simp only [execOp, h1]; simp [go_sem], PI.Post.pure ⟨fun w => Below.refl _ w, fun _ _ _ h k => h.trans k⟩ rfl (PI.LastI.go (a := a) (w := w5) hr)⟩
                        · obtain rfl := Option.some.inj (show some _ = some o from ho)
                          refine PI.shown_val rfl fun a w5 L0 hR5 T => ?_
                          have hr := PI.last_below T (by kernel_rfl) (by decide)
                          have hLn := PI.sink_false T (by kernel_rfl) (by decide)
                          have h1 : a.eval (.tmp 104) = .slice (some ax) xn c4 := T.at_ 1 104 (by kernel_rfl) (by kernel_rfl) (by kernel_rfl)
                          have h2 : a.eval (.tmp 105) = .int .i64 (k : Int) := T.at_ 2 105 (by kernel_rfl) (by kernel_rfl) (by kernel_rfl)
                          exact ⟨.pointer (some (ax.add (k * 14))), w5, by simp only [execOp, h1, h2]; simp [go_sem, Act.eval, p0, p1], PI.Post.pure ⟨fun w => Below.refl _ w, fun _ _ _ h k => h.trans k⟩ rfl (PI.LastI.go (a := a) (w := w5) hr)⟩
                        · obtain rfl := Option.some.inj (show some _ = some o from ho)
                          refine PI.shown_val rfl fun a w5 L0 hR5 T => ?_
                          have hr := PI.last_below T (by kernel_rfl) (by decide)
                          have hLn := PI.sink_false T (by kernel_rfl) (by decide)
                          have h1 : a.eval (.tmp 106) = .pointer (some (ax.add (k * 14))) := T.at_ 3 106 (by kernel_rfl) (by kernel_rfl) (by kernel_rfl)
                          exact ⟨.pointer (some ⟨(ax.add (k * 14)).block, (ax.add (k * 14)).off + 4, none⟩), w5, by simp only [execOp, h1]; simp [go_sem], PI.Post.pure ⟨fun w => Below.refl _ w, fun _ _ _ h k => h.trans k⟩ rfl (PI.LastI.go (a := a) (w := w5) hr)⟩
                        · obtain rfl := Option.some.inj (show some _ = some o from ho)
                          refine PI.shown_val rfl fun a w5 L0 hR5 T => ?_
                          have hr := PI.last_below T (by kernel_rfl) (by decide)
                          have hLn := PI.sink_false T (by kernel_rfl) (by decide)
                          have h1 : a.eval (.tmp 107) = .pointer (some ⟨(ax.add (k * 14)).block, (ax.add (k * 14)).off + 4, none⟩) := T.at_ 4 107 (by kernel_rfl) (by kernel_rfl) (by kernel_rfl)
                          have zz0 := (hr.cell (p := ⟨(ax.add (k * 14)).block, (ax.add (k * 14)).off + 4, none⟩) hxs).trans (zx.out 0 (by decide))
                          have zz1 := (hr.cell (p := ⟨(ax.add (k * 14)).block, (ax.add (k * 14)).off + 4 + 1, none⟩) hxs).trans (zx.out 1 (by decide))
                          have zz2 := (hr.cell (p := ⟨(ax.add (k * 14)).block, (ax.add (k * 14)).off + 4 + 2, none⟩) hxs).trans (zx.out 2 (by decide))
                          have zz3 := (hr.cell (p := ⟨(ax.add (k * 14)).block, (ax.add (k * 14)).off + 4 + 3, none⟩) hxs).trans (zx.out 3 (by decide))
                          have zz4 := (hr.cell (p := ⟨(ax.add (k * 14)).block, (ax.add (k * 14)).off + 4 + 4, none⟩) hxs).trans (zx.out 4 (by decide))
                          have zz5 := (hr.cell (p := ⟨(ax.add (k * 14)).block, (ax.add (k * 14)).off + 4 + 5, none⟩) hxs).trans (zx.out 5 (by decide))
                          have zz6 := (hr.cell (p := ⟨(ax.add (k * 14)).block, (ax.add (k * 14)).off + 4 + 6, none⟩) hxs).trans (zx.out 6 (by decide))
                          have zz7 := (hr.cell (p := ⟨(ax.add (k * 14)).block, (ax.add (k * 14)).off + 4 + 7, none⟩) hxs).trans (zx.out 7 (by decide))
                          have zz8 := (hr.cell (p := ⟨(ax.add (k * 14)).block, (ax.add (k * 14)).off + 4 + 8, none⟩) hxs).trans (zx.out 8 (by decide))
                          have zz9 := (hr.cell (p := ⟨(ax.add (k * 14)).block, (ax.add (k * 14)).off + 4 + 9, none⟩) hxs).trans (zx.out 9 (by decide))
                          exact ⟨.agg (Cv rc), w5, by simp only [execOp, h1]; simp [go_sem, Cv, zz0, zz1, zz2, zz3, zz4, zz5, zz6, zz7, zz8, zz9], PI.Post.pure ⟨fun w => Below.refl _ w, fun _ _ _ h k => h.trans k⟩ rfl (PI.LastI.go (a := a) (w := w5) hr)⟩
                        · obtain rfl := Option.some.inj (show some _ = some o from ho)
                          refine PI.shown_val rfl fun a w5 L0 hR5 T => ?_
                          have hr := PI.last_below T (by kernel_rfl) (by decide)
                          have hLn := PI.sink_false T (by kernel_rfl) (by decide)
                          have h1 : a.eval (.tmp 1) = .int .i64 m := T.was 1 (by kernel_rfl)
                          exact ⟨.int .i64 m, w5, by simp only [execOp, h1]; simp [go_sem], PI.Post.pure ⟨fun w => Below.refl _ w, fun _ _ _ h k => h.trans k⟩ rfl (PI.LastI.go (a := a) (w := w5) hr)⟩
                        · obtain rfl := Option.some.inj (show some _ = some o from ho)
                          refine PI.shown_call rfl 23 fun a w5 L0 hR5 T => ?_
                          have hr := PI.last_below T (by kernel_rfl) (by decide)
                          have hLn := PI.sink_false T (by kernel_rfl) (by decide)
                          have h0 : a.eval (.tmp 103) = .agg (Cv cc) := T.at_ 0 103 (by kernel_rfl) (by kernel_rfl) (by kernel_rfl)
                          have h1 : a.eval (.tmp 108) = .agg (Cv rc) := T.at_ 5 108 (by kernel_rfl) (by kernel_rfl) (by kernel_rfl)
                          have h2 : a.eval (.tmp 109) = .int .i64 m := T.at_ 6 109 (by kernel_rfl) (by kernel_rfl) (by kernel_rfl)
                          have hjn := joinref_any cc rc m w5 hcc hrc hml hm64
                          rw [← HJC.out] at hjn
                          refine ⟨#[.agg (Cv cc), .agg (Cv rc), .int .i64 m], by simp only [execOp, resolve, List.map_toArray, List.map_cons, List.map_nil, h0, h1, h2]; simp [go_sem, Act.eval], ?_⟩
                          refine (hjn).mono fun e w6 hh => ?_
                          obtain ⟨rfl, hb6⟩ := hh
                          exact ⟨_, rfl, hb6.mono (Nat.le_trans hbw hr.size), rfl, fun _ _ h => h, fun j v _ hlj _ _ h => RgS.keep (by rintro rfl; rw [hLn] at hlj; cases hlj) h, PI.LastI.go (a := a) (w := w5) (hr.trans (hb6.mono hr.size))⟩
                        · obtain rfl := Option.some.inj (show some _ = some o from ho)
                          refine PI.shown_skip rfl fun a w5 L0 hR5 T => ?_
                          have hr := PI.last_at T
                          have h1 : a.eval (.tmp 8) = .pointer (some ⟨D, 0, none⟩) := T.was 8 (by kernel_rfl)
                          have h2 : a.eval (.tmp 110) = .agg (Cv jc) := T.at_ 7 110 (by kernel_rfl) (by kernel_rfl) (by kernel_rfl)
                          have zz0 := (hr.cell (p := ⟨D, 0, none⟩) hds).trans (zd.out 0 (by decide)).1
                          have ff0 := (hr.frozen (p := ⟨D, 0, none⟩) hds).trans (zd.out 0 (by decide)).2
                          have zz1 := (hr.cell (p := ⟨D, 1, none⟩) hds).trans (zd.out 1 (by decide)).1
                          have ff1 := (hr.frozen (p := ⟨D, 1, none⟩) hds).trans (zd.out 1 (by decide)).2
                          have zz2 := (hr.cell (p := ⟨D, 2, none⟩) hds).trans (zd.out 2 (by decide)).1
                          have ff2 := (hr.frozen (p := ⟨D, 2, none⟩) hds).trans (zd.out 2 (by decide)).2
                          have zz3 := (hr.cell (p := ⟨D, 3, none⟩) hds).trans (zd.out 3 (by decide)).1
                          have ff3 := (hr.frozen (p := ⟨D, 3, none⟩) hds).trans (zd.out 3 (by decide)).2
                          have zz4 := (hr.cell (p := ⟨D, 4, none⟩) hds).trans (zd.out 4 (by decide)).1
                          have ff4 := (hr.frozen (p := ⟨D, 4, none⟩) hds).trans (zd.out 4 (by decide)).2
                          have zz5 := (hr.cell (p := ⟨D, 5, none⟩) hds).trans (zd.out 5 (by decide)).1
                          have ff5 := (hr.frozen (p := ⟨D, 5, none⟩) hds).trans (zd.out 5 (by decide)).2
                          have zz6 := (hr.cell (p := ⟨D, 6, none⟩) hds).trans (zd.out 6 (by decide)).1
                          have ff6 := (hr.frozen (p := ⟨D, 6, none⟩) hds).trans (zd.out 6 (by decide)).2
                          have zz7 := (hr.cell (p := ⟨D, 7, none⟩) hds).trans (zd.out 7 (by decide)).1
                          have ff7 := (hr.frozen (p := ⟨D, 7, none⟩) hds).trans (zd.out 7 (by decide)).2
                          have zz8 := (hr.cell (p := ⟨D, 8, none⟩) hds).trans (zd.out 8 (by decide)).1
                          have ff8 := (hr.frozen (p := ⟨D, 8, none⟩) hds).trans (zd.out 8 (by decide)).2
                          have zz9 := (hr.cell (p := ⟨D, 9, none⟩) hds).trans (zd.out 9 (by decide)).1
                          have ff9 := (hr.frozen (p := ⟨D, 9, none⟩) hds).trans (zd.out 9 (by decide)).2
                          refine ⟨w5.setCells D 0 [.int .i64 (jc.getD 0 0), .int .i64 (jc.getD 1 0), .int .i64 (jc.getD 2 0), .int .i64 (jc.getD 3 0), .int .i64 (jc.getD 4 0), .int .i64 (jc.getD 5 0), .int .i64 (jc.getD 6 0), .int .i64 (jc.getD 7 0), .int .i64 (jc.getD 8 0), .int .i64 (jc.getD 9 0)], by simp only [execOp, h1, h2]; simp [go_sem, Cv, World.setCells, zz0, zz1, zz2, zz3, zz4, zz5, zz6, zz7, zz8, zz9, ff0, ff1, ff2, ff3, ff4, ff5, ff6, ff7, ff8, ff9], ?_, ?_, fun _ _ h => h, fun j v hj hlj hnd hvj h => RgS.keep hj h, PI.LastI.done⟩
                          · exact SETB.out w5 hr
                          · exact SETP.out w5 hr
                        · cases ho
                      · rw [← hW]
                        intro xx w10 hr hf he _
                        obtain ⟨_, h13⟩ := he 8 _ rfl rfl (by decide)
                        have H13 := Lib.hid (show w10.heap[D]? = some (.cells (Cv jc) 46) ∧ Below b4 W w10 from h13)
                        clear hf he hr h13
                        simp only [PI.putAll, Act.put, List.setIfInBounds_toArray, List.set_cons_zero, List.set_cons_succ, Nat.zero_add, Nat.reduceAdd]
                        have HB10 := Lib.hid (HB9.out.trans (show Below w4.heap.size w9 w10 from by have h := H13.out.2; rw [HB4E.out, HWW.out] at h; exact ⟨h.os, h.tape, h.output, h.size, h.block⟩))
                        go_wp2_with fail
                        go_roundw
                        case rel => exact ⟨k + 1, jc, by go_num, HLT.out, Lib.hid (by rw [HTK.out, HSUB.out, if_pos rfl, HJC.out, HCC.out]), Lib.hid (by rw [HJC.out]; exact join_ok HOKC.out HOKR.out hm64), Lib.hid H13.out.1, HB10⟩
                        case measure => have := HLT.out; simp [intOf]; omega
                    · have g4 : (qop.toList == kop.toList) = false := beq_eq_false_iff_ne.2 (fun h => h4 (stry_inj h))
                      have HSUB := Lib.hid (show sub ⟨qlv, qwi, qsv, qop⟩ ⟨klv, kwi, ksv, kop⟩ = false from by unfold sub; rw [← HU.out]; simp [h4])
                      subst h1
                      subst h2
                      subst h3
                      clear h4 hcl
                      go_wp2_with fail
                      have m0 := fun p : NowB wr0 => p.cell k0
                      have m1 := fun p : NowB wr0 => p.cell k1
                      have m2 := fun p : NowB wr0 => p.cell k2
                      have m3 := fun p : NowB wr0 => p.cell k3
                      have n2 := fun p : NowB wr0 => p.cell j2
                      have n3 := fun p : NowB wr0 => p.cell j3
                      clear k0 k1 k2 k3 j2 j3
                      refine wp_region_quiet_below (by kernel_rfl) (by kernel_rfl) ?_
                      repeat (go_big_quiet_step ((fail)))
                      refine wpQuiet_nil ?_
                      intro _ hw'
                      obtain ⟨pp, hw''⟩ := hw'
                      subst hw''
                      have HB9 := Lib.hid (HW.out.trans (pp.h.mono HWS.out))
                      have HD9 := Lib.hid ((pp.h.block D HDS.out).trans HD.out)
                      have HP9 := Lib.hid pp.h
                      generalize pp.W = w9 at *
                      go_wp2_with fail
                      go_roundw
                      case rel => exact ⟨k + 1, cc, by go_num, HLT.out, Lib.hid (by rw [HTK.out, HSUB.out, if_neg (by decide)]; exact HCC.out), HOKC, HD9, HB9⟩
                      case measure => have := HLT.out; simp [intOf]; omega
                  · have g3 : (qsv.toList == ksv.toList) = false := beq_eq_false_iff_ne.2 (fun h => h3 (stry_inj h))
                    have HSUB := Lib.hid (show sub ⟨qlv, qwi, qsv, qop⟩ ⟨klv, kwi, ksv, kop⟩ = false from by unfold sub; rw [← HU.out]; simp [h3])
                    subst h1
                    subst h2
                    clear h3 hcl
                    go_wp2_with fail
                    have m0 := fun p : NowB wr0 => p.cell k0
                    have m1 := fun p : NowB wr0 => p.cell k1
                    have m2 := fun p : NowB wr0 => p.cell k2
                    have m3 := fun p : NowB wr0 => p.cell k3
                    have n2 := fun p : NowB wr0 => p.cell j2
                    have n3 := fun p : NowB wr0 => p.cell j3
                    clear k0 k1 k2 k3 j2 j3
                    refine wp_region_quiet_below (by kernel_rfl) (by kernel_rfl) ?_
                    repeat (go_big_quiet_step ((fail)))
                    refine wpQuiet_nil ?_
                    intro _ hw'
                    obtain ⟨pp, hw''⟩ := hw'
                    subst hw''
                    have HB9 := Lib.hid (HW.out.trans (pp.h.mono HWS.out))
                    have HD9 := Lib.hid ((pp.h.block D HDS.out).trans HD.out)
                    have HP9 := Lib.hid pp.h
                    generalize pp.W = w9 at *
                    go_wp2_with fail
                    go_roundw
                    case rel => exact ⟨k + 1, cc, by go_num, HLT.out, Lib.hid (by rw [HTK.out, HSUB.out, if_neg (by decide)]; exact HCC.out), HOKC, HD9, HB9⟩
                    case measure => have := HLT.out; simp [intOf]; omega
                · have g2 : (u2 == kwi) = false := beq_eq_false_iff_ne.2 h2
                  have HSUB := Lib.hid (show sub ⟨qlv, qwi, qsv, qop⟩ ⟨klv, kwi, ksv, kop⟩ = false from by unfold sub; rw [← HU.out]; simp [h2])
                  subst h1
                  clear h2 hcl
                  go_wp2_with fail
                  have m0 := fun p : NowB wr0 => p.cell k0
                  have m1 := fun p : NowB wr0 => p.cell k1
                  have m2 := fun p : NowB wr0 => p.cell k2
                  have m3 := fun p : NowB wr0 => p.cell k3
                  have n2 := fun p : NowB wr0 => p.cell j2
                  have n3 := fun p : NowB wr0 => p.cell j3
                  clear k0 k1 k2 k3 j2 j3
                  refine wp_region_quiet_below (by kernel_rfl) (by kernel_rfl) ?_
                  repeat (go_big_quiet_step ((fail)))
                  refine wpQuiet_nil ?_
                  intro _ hw'
                  obtain ⟨pp, hw''⟩ := hw'
                  subst hw''
                  have HB9 := Lib.hid (HW.out.trans (pp.h.mono HWS.out))
                  have HD9 := Lib.hid ((pp.h.block D HDS.out).trans HD.out)
                  have HP9 := Lib.hid pp.h
                  generalize pp.W = w9 at *
                  go_wp2_with fail
                  go_roundw
                  case rel => exact ⟨k + 1, cc, by go_num, HLT.out, Lib.hid (by rw [HTK.out, HSUB.out, if_neg (by decide)]; exact HCC.out), HOKC, HD9, HB9⟩
                  case measure => have := HLT.out; simp [intOf]; omega
              · have g1 : (u1 == klv) = false := beq_eq_false_iff_ne.2 h1
                have HSUB := Lib.hid (show sub ⟨qlv, qwi, qsv, qop⟩ ⟨klv, kwi, ksv, kop⟩ = false from by unfold sub; rw [← HU.out]; simp [h1])
                clear h1 hcl
                go_wp2_with fail
                have m0 := fun p : NowB wr0 => p.cell k0
                have m1 := fun p : NowB wr0 => p.cell k1
                have m2 := fun p : NowB wr0 => p.cell k2
                have m3 := fun p : NowB wr0 => p.cell k3
                have n2 := fun p : NowB wr0 => p.cell j2
                have n3 := fun p : NowB wr0 => p.cell j3
                clear k0 k1 k2 k3 j2 j3
                refine wp_region_quiet_below (by kernel_rfl) (by kernel_rfl) ?_
                repeat (go_big_quiet_step ((fail)))
                refine wpQuiet_nil ?_
                intro _ hw'
                obtain ⟨pp, hw''⟩ := hw'
                subst hw''
                have HB9 := Lib.hid (HW.out.trans (pp.h.mono HWS.out))
                have HD9 := Lib.hid ((pp.h.block D HDS.out).trans HD.out)
                have HP9 := Lib.hid pp.h
                generalize pp.W = w9 at *
                go_wp2_with fail
                go_roundw
                case rel => exact ⟨k + 1, cc, by go_num, HLT.out, Lib.hid (by rw [HTK.out, HSUB.out, if_neg (by decide)]; exact HCC.out), HOKC, HD9, HB9⟩
                case measure => have := HLT.out; simp [intOf]; omega
          · obtain rfl : k = xn := by omega
            have HFIN := Lib.hid (show ∀ j, j < 10 → cc.getD j 0 = ct.getD j 0 from fun j hj => by
              have h := rows_sums m hm64 (S.map Ls.s) HRM.out HL0.out j hj
              rw [← HX.out] at h
              rw [HCC.out, HXN.out, List.take_length]
              exact h)
            have y : ∀ j, j < 10 → wr.cell? ⟨D, j, none⟩ = some (.int .i64 (ct.getD j 0)) := fun j hj => by
              rw [cell_of_row _ _ j _ _ (0, 0) HD.out, Cv_at cc j hj, HFIN.out j hj]
            have y0 := y 0 (by decide)
            have y1 := y 1 (by decide)
            have y2 := y 2 (by decide)
            have y3 := y 3 (by decide)
            have y4 := y 4 (by decide)
            have y5 := y 5 (by decide)
            have y6 := y 6 (by decide)
            have y7 := y 7 (by decide)
            have y8 := y 8 (by decide)
            have y9 := y 9 (by decide)
            generalize ct.getD 0 0 = o0 at k4 k5 k6 k7 k8 k9 k10 k11 k12 k13 y0 y1 y2 y3 y4 y5 y6 y7 y8 y9
            generalize ct.getD 1 0 = o1 at k4 k5 k6 k7 k8 k9 k10 k11 k12 k13 y0 y1 y2 y3 y4 y5 y6 y7 y8 y9
            generalize ct.getD 2 0 = o2 at k4 k5 k6 k7 k8 k9 k10 k11 k12 k13 y0 y1 y2 y3 y4 y5 y6 y7 y8 y9
            generalize ct.getD 3 0 = o3 at k4 k5 k6 k7 k8 k9 k10 k11 k12 k13 y0 y1 y2 y3 y4 y5 y6 y7 y8 y9
            generalize ct.getD 4 0 = o4 at k4 k5 k6 k7 k8 k9 k10 k11 k12 k13 y0 y1 y2 y3 y4 y5 y6 y7 y8 y9
            generalize ct.getD 5 0 = o5 at k4 k5 k6 k7 k8 k9 k10 k11 k12 k13 y0 y1 y2 y3 y4 y5 y6 y7 y8 y9
            generalize ct.getD 6 0 = o6 at k4 k5 k6 k7 k8 k9 k10 k11 k12 k13 y0 y1 y2 y3 y4 y5 y6 y7 y8 y9
            generalize ct.getD 7 0 = o7 at k4 k5 k6 k7 k8 k9 k10 k11 k12 k13 y0 y1 y2 y3 y4 y5 y6 y7 y8 y9
            generalize ct.getD 8 0 = o8 at k4 k5 k6 k7 k8 k9 k10 k11 k12 k13 y0 y1 y2 y3 y4 y5 y6 y7 y8 y9
            generalize ct.getD 9 0 = o9 at k4 k5 k6 k7 k8 k9 k10 k11 k12 k13 y0 y1 y2 y3 y4 y5 y6 y7 y8 y9
            have E8 : ∀ (z2 z3 z4 z5 z6 z7 z8 z9 : Int) (w : World), (Op.equalIn 9999 44 (.agg #[.int .i64 z2, .int .i64 z3, .int .i64 z4, .int .i64 z5, .int .i64 z6, .int .i64 z7, .int .i64 z8, .int .i64 z9]) (.agg #[.int .i64 z2, .int .i64 z3, .int .i64 z4, .int .i64 z5, .int .i64 z6, .int .i64 z7, .int .i64 z8, .int .i64 z9])).run Tryd.prog w = .ok true w := fun z2 z3 z4 z5 z6 z7 z8 z9 w => eq8 9997 z2 z3 z4 z5 z6 z7 z8 z9 w
            clear y HFIN k0 k1 k2 k3 hk
            go_wp2_with fail
            have m4 := fun p : NowB wr => p.cell k4
            have m5 := fun p : NowB wr => p.cell k5
            have m6 := fun p : NowB wr => p.cell k6
            have m7 := fun p : NowB wr => p.cell k7
            have m8 := fun p : NowB wr => p.cell k8
            have m9 := fun p : NowB wr => p.cell k9
            have m10 := fun p : NowB wr => p.cell k10
            have m11 := fun p : NowB wr => p.cell k11
            have m12 := fun p : NowB wr => p.cell k12
            have m13 := fun p : NowB wr => p.cell k13
            have q0 := fun p : NowB wr => p.cell y0
            have q1 := fun p : NowB wr => p.cell y1
            have q2 := fun p : NowB wr => p.cell y2
            have q3 := fun p : NowB wr => p.cell y3
            have q4 := fun p : NowB wr => p.cell y4
            have q5 := fun p : NowB wr => p.cell y5
            have q6 := fun p : NowB wr => p.cell y6
            have q7 := fun p : NowB wr => p.cell y7
            have q8 := fun p : NowB wr => p.cell y8
            have q9 := fun p : NowB wr => p.cell y9
            clear k4 k5 k6 k7 k8 k9 k10 k11 k12 k13 y0 y1 y2 y3 y4 y5 y6 y7 y8 y9
            refine wp_region_quiet_below (by kernel_rfl) (by kernel_rfl) ?_
            repeat (go_big_quiet_step ((fail)))
            refine wpQuiet_nil ?_
            intro _ hw'
            obtain ⟨pp, hw''⟩ := hw'
            subst hw''
            have HB9 := Lib.hid (HW.out.trans (pp.h.mono HWS.out))
            have HP9 := Lib.hid pp.h
            generalize pp.W = w9 at *
            go_wp2_with fail
            go_roundw
            case rel => exact ⟨i + 1, by go_num, HIX.out, HB9⟩
            case measure => have := HIX.out; simp [intOf]; omega
      · go_wp2_with fail
        go_ret
        exact ⟨rfl, HB4.out.trans (HWO.out.mono HBS4.out)⟩
end Go.Proofs.YtkhhcnpmobgdgaaDoor
