/- The document's writer of batches: RightSpans, Sealed, BatchBytes. -/
import Derived.Test.YthkclgkbidhmbaaDb
import Derived.Test.YthkclgkbidhmbaaCr
import Derived.Test.YthkclgkbidhmbaaTb
import Derived.Test.YthkclgkbidhmbaaRr
namespace Go.Proofs.Ythkclgkbidhmbaa
open Go.RowKit
set_option linter.unusedVariables false
set_option maxRecDepth 100000

set_option maxHeartbeats 8000000 in
theorem rightspans_any (A : Option Addr) (l : List Ls) (n c B : Nat) (w : World) (hn : n = l.length) (hy : RdSps w B A l) (hB : B ≤ w.heap.size) (hl : n ≤ maxLen) :
    Calls Try.prog 81 #[.slice A n c] w fun e w' => e = .returned (.bool (l.all fun x => right x.s)) ∧ Below w.heap.size w w' := by
  simp only [maxLen] at hl
  have HN := Lib.hid hn
  have HF : Hid ((l.all fun x => right x.s) = l.all fun x => right x.s) := Lib.hid rfl
  generalize hfw : (l.all fun x => right x.s) = fw at *
  have HQ : Hid (fw = l.all fun x => right x.s) := Lib.hid hfw.symm
  have HY := Lib.hid hy
  clear hy hn hfw HF
  go_enter Try.func81, Try.ntmps81
  go_wp2_with fail
  go_loopw [3] (fun i wr => ∃ k : Nat, i = .int .i64 k ∧ k ≤ n ∧ Hid ((l.take k).all (fun x => right x.s) = true) ∧ Hid (Below w.heap.size w wr)) (fun i _ => n - (intOf i).toNat)
  case atStart => exact ⟨0, rfl, by omega, Lib.hid (by simp), Lib.hid (Below.refl _ _)⟩
  case round =>
    obtain ⟨k, rfl, hk, HK, HB⟩ := hrel
    by_cases hlt : k < n
    · obtain ⟨x, hx⟩ : ∃ x, l[k]? = some x := ⟨_, List.getElem?_eq_getElem (by rw [← HN.out]; exact hlt)⟩
      have HR : Hid (RdSps wr B A l) := Lib.hid (HY.out.below (HB.out.mono hB))
      obtain ⟨a, ha, _, hc, hl2⟩ := HR.out.at_ hx
      subst ha
      obtain ⟨⟨x0, x1, x2, x3, x4, x5, x6, x7, x8, ats⟩, xA, xc⟩ := x
      have c0 := hc 0 _ rfl
      have c1 := cell_far (hc 1 _ rfl) (by omega)
      have c2 := cell_far (hc 2 _ rfl) (by omega)
      have c3 := cell_far (hc 3 _ rfl) (by omega)
      have c4 := cell_far (hc 4 _ rfl) (by omega)
      have c5 := cell_far (hc 5 _ rfl) (by omega)
      have c6 := cell_far (hc 6 _ rfl) (by omega)
      have c7 := cell_far (hc 7 _ rfl) (by omega)
      have c8 := cell_far (hc 8 _ rfl) (by omega)
      obtain ⟨m, hm⟩ : ∃ m, m = ats.length := ⟨_, rfl⟩
      have c9 : wr.cell? ⟨(a.add (k * 10)).block, (a.add (k * 10)).off + 9, none⟩ = some (.slice xA m xc) := by rw [hm]; exact cell_far (hc 9 _ rfl) (by omega)
      simp only [Nat.add_zero] at c0
      have HX := Lib.hid hx
      have F := Lib.hid (rightspan_lit x0 x1 x2 x3 x4 x5 x6 x7 x8 ats xA xc m B wr hm hl2 (Nat.le_trans hB HB.out.size))
      clear hc hl2 hx hm
      cases hfx : right ⟨x0, x1, x2, x3, x4, x5, x6, x7, x8, ats⟩
      · have HP := Lib.hid (all_not (fun x : Ls => right x.s) l k _ HX.out hfx)
        simp only [hfx] at F
        clear hfx
        go_wp2_with (go_at_call 29; (with_reducible refine (F.out).mono ?_); rintro e w1 ⟨rfl, hb1⟩; have HB1 := Lib.hid (HB.out.trans (hb1.mono HB.out.size)); clear hb1)
        go_ret
        exact ⟨by rw [HQ.out, HP.out] <;> rfl, HB1.out⟩
      · have HP := Lib.hid (all_take_succ (fun x : Ls => right x.s) l k _ HX.out HK.out hfx)
        simp only [hfx] at F
        clear hfx
        go_wp2_with (go_at_call 29; (with_reducible refine (F.out).mono ?_); rintro e w1 ⟨rfl, hb1⟩; have HB1 := Lib.hid (HB.out.trans (hb1.mono HB.out.size)); clear hb1)
        go_roundw
        case rel => exact ⟨k + 1, by go_num, by omega, HP, HB1⟩
        case measure => simp [intOf]; omega
    · obtain rfl : k = n := by omega
      have HP : Hid ((l.all fun x => right x.s) = true) := Lib.hid (by have := HK.out; rwa [List.take_of_length_le (by rw [← HN.out]; exact Nat.le_refl _)] at this)
      go_wp2_with fail
      go_ret
      exact ⟨by rw [HQ.out, HP.out] <;> rfl, HB.out⟩
theorem addspan_int (x0 x1 x2 x3 : Int) (x4 x5 : ByteArray) (x6 x7 : Int) (x8 : Bool) (ats : List (ByteArray × ByteArray)) (xA : Option Addr) (xc n B base : Nat) (v : Value) (L : List UInt8) (w : World) (hn : n = ats.length) (hy : RdL w B ⟨⟨x0, x1, x2, x3, x4, x5, x6, x7, x8, ats⟩, xA, xc⟩) (hB : B ≤ w.heap.size) (hBb : B ≤ base) (hown : w.ownsRow base 5 1 v L.length (L.map B8)) (hbase : base ≤ w.heap.size) (hl : L.length ≤ 1000000000) (hr : right ⟨x0, x1, x2, x3, x4, x5, x6, x7, x8, ats⟩ = true) :
    Calls Try.prog 63 #[v, .agg #[.int .u64 x0, .int .u64 x1, .int .u64 x2, .int .u64 x3, .string x4, .string x5, .int .i64 x6, .int .i64 x7, .bool x8, .slice xA n xc]] w fun e w' => ∃ v', e = .returned v' ∧ w'.ownsRow base 5 1 v' (L ++ enc ⟨x0, x1, x2, x3, x4, x5, x6, x7, x8, ats⟩).length ((L ++ enc ⟨x0, x1, x2, x3, x4, x5, x6, x7, x8, ats⟩).map B8) ∧ Below base w w' := by
  have hs := sp_nat hy.ok hr
  simp only [Sp.mk.injEq] at hs
  obtain ⟨e0, e1, e2, e3, _, _, e6, e7, _, _⟩ := hs
  generalize x0.toNat = n0 at e0
  generalize x1.toNat = n1 at e1
  generalize x2.toNat = n2 at e2
  generalize x3.toNat = n3 at e3
  generalize x6.toNat = n6 at e6
  generalize x7.toNat = n7 at e7
  subst e0 e1 e2 e3 e6 e7
  exact addspan_any n0 n1 n2 n3 x4 x5 n6 n7 x8 ats xA xc n B base v L w hn hy hB hBb hown hbase hl hr
theorem rsumQ (A : Option Addr) (l : List UInt8) (n c B : Nat) (w : World) (hn : n = l.length) (hb : Rd w B A (l.map B8)) (hl : l.length ≤ 140737488355328) :
    Calls Try.prog 99 #[.slice A n c] w fun e w' => e = .returned (.int .u32 (Cm.sum l : Nat)) ∧ w = w' := by
  subst hn; exact rsum_calls A l c B w hb hl
set_option maxHeartbeats 8000000 in
theorem sealed_any (A : Option Addr) (l : List UInt8) (n c B : Nat) (w : World) (hn : n = l.length) (hb : Rd w B A (l.map B8)) (hB : B ≤ w.heap.size) (hnc : n ≤ c) (hl : n ≤ 1000000) :
    Calls Try.prog 82 #[.slice A n c] w (BytesOf (l ++ Cm.le4 (Cm.sum l)) w) := by
  have HRD := Lib.hid hb
  have HN := Lib.hid hn
  have HL := Lib.hid hl
  have A1 := Lib.hid (fun ty => appB (ty := ty) (c := c) (own_nil w w.heap.size) hb (by simp; omega) (Nat.le_refl _))
  rw [← hn] at A1
  have HE := Lib.hid hnc
  clear hn hb hnc hl
  go_enter Try.func82, Try.ntmps82
  go_wp2_with (at_builtin; (refine wpList_app rfl (.const (.slice none 0 0)) (.tmp 3) _ _ rfl rfl rfl (A1.out _) ?_); rintro v2 w2 ⟨ho2, hg2⟩; rw [List.nil_append] at ho2; have HO2 := Lib.hid ho2; have HG2 := Lib.hid hg2.new; clear ho2 hg2)
  have HR2 := Lib.hid (HRD.out.below (HG2.out.mono hB))
  have CS := Lib.hid (rsumQ A l n c B w2 HN.out HR2.out (by have := HL.out; have := HN.out; omega))
  refine CS.out.mono ?_
  rintro e w3 ⟨rfl, rfl⟩
  clear CS A1
  have hcl := Cm.sum_lt l
  have CF := Lib.hid (four_calls (Cm.sum l) w2 hcl)
  clear hcl
  go_wp2_with fail
  refine CF.out.mono ?_
  rintro e w3 ⟨v3, rfl, ho3, hg3⟩
  have HB3 := Lib.hid hg3.new
  obtain ⟨A3, c3, rfl, hc3, hr3⟩ := own_rd ho3
  obtain ⟨A2, c2, rfl, _, _⟩ := own_rd HO2.out
  have HO3 := Lib.hid (own_below HO2.out HB3.out)
  have A2' := Lib.hid (fun ty => appB (ty := ty) (c := c3) HO3.out hr3 (by have := HL.out; have := HN.out; have : (Cm.le4 (Cm.sum l)).length = 4 := rfl; omega) (Nat.le_trans HG2.out.size HB3.out.size))
  have h4 : (Cm.le4 (Cm.sum l)).length = 4 := rfl
  rw [h4] at A2'
  clear ho3 hg3 CF hr3 hc3 h4
  generalize hq : l.length = q at *
  go_wp2_with (at_builtin; (refine wpList_app rfl (.tmp 4) (.tmp 7) _ _ rfl rfl rfl (A2'.out _) ?_); rintro v4 w4 ⟨ho4, hg4⟩; have HO4 := Lib.hid ho4; have HG4 := Lib.hid hg4; clear ho4 hg4)
  go_ret
  refine ⟨_, rfl, HO4.out, ?_⟩
  exact HG4.out.below (HG2.out.trans (HB3.out.mono HG2.out.size)) (Nat.le_trans HG2.out.size HB3.out.size) (own_block_ge HO3.out)
set_option maxHeartbeats 8000000 in
theorem dbatchbytes_any (A : Option Addr) (l : List Ls) (n c B : Nat) (w : World) (hn : n = l.length) (hy : RdSps w B A l) (hB : B ≤ w.heap.size) (hl : n ≤ maxLen) :
    Calls Try.prog 51 #[.slice A n c] w (BytesOf (if rightL l then batchBytes l else []) w) := by
  obtain ⟨L0, hL0⟩ : ∃ L0, L0 = if rightL l then batchBytes l else [] := ⟨_, rfl⟩
  rw [← hL0]
  have HL0 := Lib.hid hL0
  clear hL0
  have HR := Lib.hid (rightspans_any A l n c B w hn hy hB hl)
  have HN := Lib.hid hn
  have HY := Lib.hid hy
  simp only [maxLen] at hl
  have hc : n < 1 ∨ 50 < n ∨ (1 ≤ n ∧ n ≤ 50) := by omega
  rcases hc with h1 | h1 | ⟨h1, h2⟩
  · have HP : Hid (∀ w1, Below w.heap.size w w1 → BytesOf L0 w (.returned (.slice none 0 0)) w1) := Lib.hid (fun w1 hb => by
      rw [HL0.out]
      have e : rightL l = false := by unfold rightL; rw [← hn, decide_eq_false (by omega)]; rfl
      rw [e]
      exact ⟨_, rfl, World.ownsRow_nil _ _ _ _, hb⟩)
    have d1 : decide (n < 1) = true := decide_eq_true h1
    have d2 : decide ((n : Int) < 1) = true := decide_eq_true (by omega)
    obtain rfl : n = 0 := by omega
    clear hn hy
    go_enter Try.func51, Try.ntmps51
    go_wp2_with fail
    go_ret
    exact HP.out _ (Below.refl _ _)
  · have HP : Hid (∀ w1, Below w.heap.size w w1 → BytesOf L0 w (.returned (.slice none 0 0)) w1) := Lib.hid (fun w1 hb => by
      rw [HL0.out]
      have e : rightL l = false := by unfold rightL; rw [← hn, decide_eq_true (by omega), decide_eq_false (by omega)]; rfl
      rw [e]
      exact ⟨_, rfl, World.ownsRow_nil _ _ _ _, hb⟩)
    have d1 : decide (n < 1) = false := decide_eq_false (by omega)
    have d2 : decide ((n : Int) < 1) = false := decide_eq_false (by omega)
    have d3 : decide (50 < n) = true := decide_eq_true h1
    have d4 : decide ((50 : Int) < (n : Int)) = true := decide_eq_true (by omega)
    clear hn hy
    go_enter Try.func51, Try.ntmps51
    go_wp2_with fail
    go_ret
    exact HP.out _ (Below.refl _ _)
  · have d1 : decide (n < 1) = false := decide_eq_false (by omega)
    have d2 : decide ((n : Int) < 1) = false := decide_eq_false (by omega)
    have d3 : decide (50 < n) = false := decide_eq_false (by omega)
    have d4 : decide ((50 : Int) < (n : Int)) = false := decide_eq_false (by omega)
    have hrl : rightL l = (l.all fun x => right x.s) := by unfold rightL; rw [← hn, decide_eq_true h1, decide_eq_true h2]; rfl
    cases hr : (l.all fun x => right x.s)
    · rw [hr] at HR
      have HP : Hid (∀ w1, Below w.heap.size w w1 → BytesOf L0 w (.returned (.slice none 0 0)) w1) := Lib.hid (fun w1 hb => by
        rw [HL0.out]
        rw [hrl, hr]
        exact ⟨_, rfl, World.ownsRow_nil _ _ _ _, hb⟩)
      clear hr hn hy hrl
      go_enter Try.func51, Try.ntmps51
      go_wp2_with (go_at_call 81; (with_reducible refine (HR.out).mono ?_); rintro e w1 ⟨rfl, hb1⟩; have HB1 := Lib.hid hb1; clear hb1)
      go_ret
      exact HP.out _ HB1.out
    · rw [hr] at HR
      have HP : Hid (rightL l = true) := Lib.hid (hrl.trans hr)
      have HG : Hid (∀ x ∈ l, right x.s = true) := Lib.hid (rightL_parts HP.out).2.2
      have hpl := Mi.put_len n
      have HPL := Lib.hid hpl
      clear hr hn hy hrl hpl
      have HAP : Hid (∀ W, Below w.heap.size w W → Calls Try.prog 21 #[.slice none 0 0, .int .u64 (n : Int)] W fun e w' => ∃ v', e = .returned v' ∧ w'.ownsRow w.heap.size 5 1 v' (Mi.put n).length ((Mi.put n).map B8) ∧ Below w.heap.size w w') := Lib.hid (fun W hW => by
        have h := rput_calls w.heap.size (.slice none 0 0) [] n W (World.ownsRow_nil _ _ _ _) hW.size (by simp) (by omega)
        refine h.mono fun e w' hh => ?_
        obtain ⟨v', he, ho, hg⟩ := hh
        exact ⟨v', he, ho, hW.trans (hg.new.mono hW.size)⟩)
      go_enter Try.func51, Try.ntmps51
      go_wp2_with (first
        | (go_at_call 81; (with_reducible refine (HR.out).mono ?_); rintro e w1 ⟨rfl, hb1⟩; have HA1 := Lib.hid (HAP.out w1 hb1); clear hb1)
        | (go_at_call 21; (with_reducible refine (HA1.out).mono ?_); rintro e w2 ⟨v2, rfl, ho, hb⟩; have HO2 := Lib.hid ho; have HB2 := Lib.hid hb; clear ho hb))
      go_loopw [4, 3] (fun i v wr => ∃ k : Nat, i = .int .i64 k ∧ k ≤ n ∧ Hid ((Mi.put n ++ encL (l.take k)).length ≤ 10 + 400 * k) ∧ Hid (wr.ownsRow w.heap.size 5 1 v (Mi.put n ++ encL (l.take k)).length ((Mi.put n ++ encL (l.take k)).map B8)) ∧ Hid (Below w.heap.size w wr)) (fun i _ _ => n - (intOf i).toNat)
      case atStart => exact ⟨0, rfl, by omega, Lib.hid (by have := HPL.out; simp [encL]; omega), Lib.hid (by have := HO2.out; simpa [encL] using this), HB2⟩
      case round =>
        obtain ⟨k, rfl, hk, HKL, HO, HB⟩ := hrel
        by_cases hlt : k < n
        · obtain ⟨x, hx⟩ : ∃ x, l[k]? = some x := ⟨_, List.getElem?_eq_getElem (by rw [← HN.out]; exact hlt)⟩
          have HRR : Hid (RdSps wr B A l) := Lib.hid (HY.out.below (HB.out.mono hB))
          obtain ⟨a, ha, _, hc, hl2⟩ := HRR.out.at_ hx
          subst ha
          have hrx := HG.out x (List.mem_of_getElem? hx)
          have hst := encL_step l k x hx
          obtain ⟨⟨x0, x1, x2, x3, x4, x5, x6, x7, x8, ats⟩, xA, xc⟩ := x
          simp only at hrx hst
          have c0 := hc 0 _ rfl
          have c1 := cell_far (hc 1 _ rfl) (by omega)
          have c2 := cell_far (hc 2 _ rfl) (by omega)
          have c3 := cell_far (hc 3 _ rfl) (by omega)
          have c4 := cell_far (hc 4 _ rfl) (by omega)
          have c5 := cell_far (hc 5 _ rfl) (by omega)
          have c6 := cell_far (hc 6 _ rfl) (by omega)
          have c7 := cell_far (hc 7 _ rfl) (by omega)
          have c8 := cell_far (hc 8 _ rfl) (by omega)
          obtain ⟨m, hm⟩ : ∃ m, m = ats.length := ⟨_, rfl⟩
          have c9 : wr.cell? ⟨(a.add (k * 10)).block, (a.add (k * 10)).off + 9, none⟩ = some (.slice xA m xc) := by rw [hm]; exact cell_far (hc 9 _ rfl) (by omega)
          simp only [Nat.add_zero] at c0
          have hzw : B ≤ wr.heap.size := Nat.le_trans hB HB.out.size
          have hzb := HB.out.size
          have hel := (enc_len hrx).2
          have F := Lib.hid (addspan_int x0 x1 x2 x3 x4 x5 x6 x7 x8 ats xA xc m B w.heap.size _ (Mi.put n ++ encL (l.take k)) wr hm hl2 hzw hB HO.out hzb (by have := HKL.out; omega) hrx)
          have HEL := Lib.hid hel
          have HST := Lib.hid hst
          clear hc hl2 hx hm hrx hst hel
          go_wp2_with (go_at_call 63; (with_reducible refine (F.out).mono ?_); rintro e w1 ⟨v1, rfl, ho1, hb1⟩; have HO1 := Lib.hid ho1; have HB1 := Lib.hid (HB.out.trans hb1); clear hb1 ho1)
          go_roundw
          case rel => exact ⟨k + 1, by go_num, by omega, Lib.hid (by rw [HST.out, ← List.append_assoc, List.length_append]; have := HKL.out; have := HEL.out; omega), Lib.hid (by rw [HST.out, ← List.append_assoc]; exact HO1.out), HB1⟩
          case measure => simp [intOf]; omega
        · obtain rfl : k = n := by omega
          have HE : Hid (Mi.put k ++ encL (l.take k) = encB l) := Lib.hid (by rw [List.take_of_length_le (by rw [← HN.out]; exact Nat.le_refl _)]; unfold encB; rw [← HN.out])
          rw [HE.out] at HO HKL
          obtain ⟨vA, vc, rfl, hvc, hvr⟩ := own_rd HO.out
          have HCA := Lib.hid (sealed_any vA (encB l) _ vc wr.heap.size wr rfl hvr (Nat.le_refl _) hvc (by have := HKL.out; omega))
          clear hvr hvc
          generalize hqq : (encB l).length = qq at *
          go_wp2_with (go_at_call 82; (with_reducible refine (HCA.out).mono ?_); rintro e w1 ⟨v1, rfl, ho1, hb1⟩; have HO1 := Lib.hid ho1; have HB1 := Lib.hid (HB.out.trans (hb1.mono HB.out.size)); clear hb1 ho1)
          go_ret
          refine ⟨_, rfl, ?_, HB1.out⟩
          rw [HL0.out, if_pos HP.out]
          exact own_mono HO1.out HB.out.size
end Go.Proofs.Ythkclgkbidhmbaa
