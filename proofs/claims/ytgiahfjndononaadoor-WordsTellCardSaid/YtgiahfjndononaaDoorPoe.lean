/- The code's tokens: read goes on to the next one. -/
import Derived.Test.YtgiahfjndononaaDoorPod
namespace Go.Proofs.YtgiahfjndononaaDoor
open Go.RowKit
set_option linter.unusedVariables false
set_option linter.unusedSimpArgs false
set_option maxRecDepth 100000

def Wm.Tk.code (t : Wm.Tk) : Nat := if t.kind = 0 then 1 else if t.kind = 1 then 97 else if t.kind = 2 then 48 else if t.kind = 3 then 34 else if t.kind = 4 then (t.say.headD 0).toNat else 0
/-- The present token is the one that these bytes begin with. -/
structure TokIs (w : World) (P : Nat) (s : ByteArray) (t : Wm.Tk) (nx at_ : Nat) (tx : ByteArray) (n : Nat) : Prop where
  row : PRow w P s nx at_ t.code tx n false
  from_ : at_ + t.from_.length = s.size
  say : t.kind = 1 ∨ t.kind = 3 → tx = S8 t.say
  num : t.kind = 2 → n = Wm.num t.say
  next : t.kind ≠ 5 → nx + t.rest.length = s.size
  txs : tx.size ≤ 1000000
  ns : n < 10000000000
def TokAt (w : World) (P : Nat) (s : ByteArray) (t : Wm.Tk) : Prop := ∃ nx at_ tx n, TokIs w P s t nx at_ tx n
theorem read_bad (s : ByteArray) (P nx at_ kd n : Nat) (tx : ByteArray) (w : World) (h : PRow w P s nx at_ kd tx n true) :
    Calls Tryd.prog 17 #[.pointer (some ⟨P, 0, none⟩)] w fun e w' => e = .returned (.tuple #[]) ∧ w' = w := by
  have hrow := h
  unfold PRow at hrow
  have c6 : w.cell? ⟨P, 6, none⟩ = some (.bool true) := cell_of_row _ _ 6 _ _ (0, 0) hrow
  clear h hrow
  go_enter Tryd.func17, Tryd.ntmps17
  go_wp2_with fail
  refine bodyPost_ret (v := .tuple #[]) (by simp [results, Tryd.results17, go_sem]) rfl ?_
  exact ⟨rfl, rfl⟩
theorem s8_len (l : List UInt8) : (S8 l).size = l.length := by simp [S8, ByteArray.size]
theorem tok_drop (L : List UInt8) (i : Nat) : Wm.tok (L.drop i) = Wm.tok1 (L.drop (i + ((L.drop i).takeWhile Wm.blank).length)) := by
  unfold Wm.tok
  rw [drop_while]
set_option maxHeartbeats 8000000 in
theorem read_any (s : ByteArray) (L : List UInt8) (P i at0 kd n0 : Nat) (tx0 : ByteArray) (w : World) (hL : s.data.toList = L) (h : PRow w P s i at0 kd tx0 n0 false) (hi : i ≤ s.size) (hs : s.size ≤ 1000000) :
    Calls Tryd.prog 17 #[.pointer (some ⟨P, 0, none⟩)] w fun e w' => e = .returned (.tuple #[]) ∧ TokAt w' P s (Wm.tok (L.drop i)) ∧ w.grownBy w' (some P) := by
  have hlen := list_len s L hL
  rw [tok_drop]
  have H1 := Lib.hid (drop_take Wm.blank L i)
  have H2 := Lib.hid (drop_stop Wm.blank L i (by omega))
  have HM := Lib.hid (drop_len Wm.blank L i (by omega))
  generalize ((L.drop i).takeWhile Wm.blank).length = m at *
  obtain ⟨sz, hsz⟩ : ∃ z, s.size = z := ⟨_, rfl⟩
  have HSZ := Lib.hid hsz
  have HLEN := Lib.hid (hlen.trans hsz)
  have HLL := Lib.hid hL
  have HP := Lib.hid h
  rw [hsz] at hi hs
  have HS := Lib.hid hs
  have HG0 : Hid (w.grownBy w (some P)) := Lib.hid (grown_refl _ _)
  have HB := Lib.hid isblank_any
  have hrow := h
  unfold PRow at hrow
  have c6 : w.cell? ⟨P, 6, none⟩ = some (.bool false) := cell_of_row _ _ 6 _ _ (0, 0) hrow
  clear hrow h hlen hL hsz hi hs
  go_enter Tryd.func17, Tryd.ntmps17
  go_wp2_with fail
  go_loopw [28] (fun _ wr => ∃ (j : Nat), Hid (j ≤ m) ∧ Hid (PRow wr P s (i + j) at0 kd tx0 n0 false) ∧ Hid (w.grownBy wr (some P))) (fun _ wr => i + m - nxOf wr P)
  case atStart => exact ⟨0, Lib.hid (Nat.zero_le _), HP, HG0⟩
  case round =>
    obtain ⟨j, HJ, HR, HG⟩ := hrel
    have HMM := Lib.hid (nxOf_is (show wr.cell? ⟨P, 1, none⟩ = some (.int .i64 ((i + j : Nat) : Int)) from cell_of_row _ _ 1 _ _ (0, 0) HR.out))
    have hrow := HR.out
    unfold PRow at hrow
    obtain ⟨q, hq⟩ : ∃ q, i + j = q := ⟨_, rfl⟩
    have HQ := Lib.hid hq
    rw [hq] at hrow
    have hq6 : q ≤ 1000000 := by have := HJ.out; have := HM.out; have := HS.out; have := HLEN.out; omega
    have c0 : wr.cell? ⟨P, 0, none⟩ = some (.string s) := cell_of_row _ _ 0 _ _ (0, 0) hrow
    have f0 : wr.frozen? ⟨P, 0, none⟩ = false := pfrz hrow
    have c1 : wr.cell? ⟨P, 1, none⟩ = some (.int .i64 (q : Int)) := cell_of_row _ _ 1 _ _ (0, 0) hrow
    have f1 : wr.frozen? ⟨P, 1, none⟩ = false := pfrz hrow
    have c2 : wr.cell? ⟨P, 2, none⟩ = some (.int .i64 (at0 : Int)) := cell_of_row _ _ 2 _ _ (0, 0) hrow
    have f2 : wr.frozen? ⟨P, 2, none⟩ = false := pfrz hrow
    have c3 : wr.cell? ⟨P, 3, none⟩ = some (.int .u8 (kd : Int)) := cell_of_row _ _ 3 _ _ (0, 0) hrow
    have f3 : wr.frozen? ⟨P, 3, none⟩ = false := pfrz hrow
    have c4 : wr.cell? ⟨P, 4, none⟩ = some (.string tx0) := cell_of_row _ _ 4 _ _ (0, 0) hrow
    have f4 : wr.frozen? ⟨P, 4, none⟩ = false := pfrz hrow
    have c5 : wr.cell? ⟨P, 5, none⟩ = some (.int .i64 (n0 : Int)) := cell_of_row _ _ 5 _ _ (0, 0) hrow
    have f5 : wr.frozen? ⟨P, 5, none⟩ = false := pfrz hrow
    have c6 : wr.cell? ⟨P, 6, none⟩ = some (.bool false) := cell_of_row _ _ 6 _ _ (0, 0) hrow
    have f6 : wr.frozen? ⟨P, 6, none⟩ = false := pfrz hrow
    clear hrow c6
    have c6 := c6
    have hszz := HSZ.out
    rcases (show j < m ∨ (j = m ∧ i + m = L.length) ∨ (j = m ∧ i + m < L.length) from by have := HJ.out; rcases H2.out with h | ⟨h, _⟩ <;> omega) with hc | hc | hc
    · obtain ⟨c, hc1, hc2⟩ := H1.out j hc
      rw [hq] at hc1
      have hx9 := run_byte (T := 9) Tryd.underlying9 (show s.data.toList[q]? = some c from by rw [HLL.out]; exact hc1)
      have HC2 := Lib.hid hc2
      have HC := Lib.hid hc
      have hsl : q < sz := by have := HM.out; have := HLEN.out; omega
      have HCALL := Lib.hid (show ∀ W, Calls Tryd.prog 27 #[.int .u8 (c.toNat : Int)] W fun e w' => e = .returned (.bool true) ∧ w' = W from fun W => (HB.out c W).mono fun e w' h => ⟨by rw [h.1, HC2.out], h.2⟩)
      have d1 : decide ((q : Int) < (sz : Int)) = true := decide_eq_true (by omega)
      have d2 : decide (q < sz) = true := decide_eq_true (by omega)
      clear hc1 hc2 hq hc
      go_upto_region 1 with fail
      refine wp_region_quiet_lex (by kernel_rfl) (by kernel_rfl) ?_
      repeat (go_big_quiet_step ((go_at_call 27; with_reducible exact Calls.quiet_of_same (HCALL.out _))))
      refine wpQuiet_nil ?_
      intro _ hw'
      obtain ⟨nq, hw''⟩ := hw'
      subst hw''
      go_wp2_with fail
      go_roundw
      case rel =>
        refine ⟨j + 1, Lib.hid HC.out, Lib.hid ?_, Lib.hid (grown_trans HG.out (grown_trans (grown_drewN wr nq (some P)) (grown_set _ _ _ _)))⟩
        have hr := HR.out
        unfold PRow at hr ⊢
        refine PRow.set 1 _ (prow_drew nq hr) ?_
        have := HQ.out
        simp
        omega
      case measure =>
        have e1 : nxOf ((wr.drewN nq).setCell ⟨P, 1, none⟩ (.int .i64 ((q : Int) + 1))) P = q + 1 := by
          refine nxOf_is (q := .i64) ?_
          have hr := HR.out
          unfold PRow at hr
          refine cell_of_row _ _ 1 _ _ (0, 0) (PRow.set 1 _ (prow_drew nq hr) rfl)
        rw [e1, HMM.out]
        have := HC.out
        have := HQ.out
        omega
    · obtain ⟨rfl, hend⟩ := hc
      have HEQ := Lib.hid (show q = sz from by have := HLEN.out; omega)
      have d1 : decide ((q : Int) < (sz : Int)) = false := decide_eq_false (by have := HEQ.out; omega)
      have d2 : decide (q < sz) = false := decide_eq_false (by have := HEQ.out; omega)
      rw [hq]
      clear hend hq
      go_upto_region 1 with fail
      refine wp_region_quiet_lex (by kernel_rfl) (by kernel_rfl) ?_
      repeat (go_big_quiet_step (fail))
      refine wpQuiet_nil ?_
      intro _ hw'
      obtain ⟨nq, hw''⟩ := hw'
      subst hw''
      have hqsz := HEQ.out
      have HTK : Hid (Wm.tok1 (L.drop q) = ⟨0, [], [], []⟩) := Lib.hid (by rw [List.drop_eq_nil_of_le (by rw [HLEN.out]; omega)]; rfl)
      clear hqsz
      go_upto_region 6 with fail
      have hr5 : ((((wr.drewN nq).setCell ⟨P, 2, none⟩ (.int .i64 (q : Int))).setCell ⟨P, 4, none⟩ (.string ⟨#[]⟩)).setCell ⟨P, 5, none⟩ (.int .i64 0)).heap[P]? = some (.cells #[.string s, .int .i64 (q : Int), .int .i64 (q : Int), .int .u8 (kd : Int), .string ⟨#[]⟩, .int .i64 0, .bool false] 43) := by
        have hr := HR.out
        unfold PRow at hr
        rw [HQ.out] at hr
        exact PRow.set 5 _ (PRow.set 4 _ (PRow.set 2 _ (prow_drew _ hr) rfl) rfl) (by simp)
      have hg5 : w.grownBy ((((wr.drewN nq).setCell ⟨P, 2, none⟩ (.int .i64 (q : Int))).setCell ⟨P, 4, none⟩ (.string ⟨#[]⟩)).setCell ⟨P, 5, none⟩ (.int .i64 0)) (some P) := grown_trans HG.out (grown_trans (grown_trans (grown_trans (grown_drewN wr nq _) (grown_set _ _ _ _)) (grown_set _ _ _ _)) (grown_set _ _ _ _))
      generalize ((((wr.drewN nq).setCell ⟨P, 2, none⟩ (.int .i64 (q : Int))).setCell ⟨P, 4, none⟩ (.string ⟨#[]⟩)).setCell ⟨P, 5, none⟩ (.int .i64 0)) = W5 at *
      clear c0 c1 c2 c3 c4 c5 c6 f0 f1 f2 f3 f4 f5 f6
      have c0 : W5.cell? ⟨P, 0, none⟩ = some (.string s) := cell_of_row _ _ 0 _ _ (0, 0) hr5
      have f0 : W5.frozen? ⟨P, 0, none⟩ = false := pfrz hr5
      have c1 : W5.cell? ⟨P, 1, none⟩ = some (.int .i64 (q : Int)) := cell_of_row _ _ 1 _ _ (0, 0) hr5
      have f1 : W5.frozen? ⟨P, 1, none⟩ = false := pfrz hr5
      have c2 : W5.cell? ⟨P, 2, none⟩ = some (.int .i64 (q : Int)) := cell_of_row _ _ 2 _ _ (0, 0) hr5
      have f2 : W5.frozen? ⟨P, 2, none⟩ = false := pfrz hr5
      have c3 : W5.cell? ⟨P, 3, none⟩ = some (.int .u8 (kd : Int)) := cell_of_row _ _ 3 _ _ (0, 0) hr5
      have f3 : W5.frozen? ⟨P, 3, none⟩ = false := pfrz hr5
      have c4 : W5.cell? ⟨P, 4, none⟩ = some (.string ⟨#[]⟩) := cell_of_row _ _ 4 _ _ (0, 0) hr5
      have f4 : W5.frozen? ⟨P, 4, none⟩ = false := pfrz hr5
      have c5 : W5.cell? ⟨P, 5, none⟩ = some (.int .i64 (0 : Int)) := cell_of_row _ _ 5 _ _ (0, 0) hr5
      have f5 : W5.frozen? ⟨P, 5, none⟩ = false := pfrz hr5
      have c6 : W5.cell? ⟨P, 6, none⟩ = some (.bool false) := cell_of_row _ _ 6 _ _ (0, 0) hr5
      have f6 : W5.frozen? ⟨P, 6, none⟩ = false := pfrz hr5
      have HR5 : Hid (PRow W5 P s q q kd ⟨#[]⟩ 0 false) := Lib.hid hr5
      have HG5 := Lib.hid hg5
      clear hr5 hg5
      have k1 : ((q : Int) == (sz : Int)) = true := by rw [beq_iff_eq]; have := HEQ.out; omega
      have k2 : (q == sz) = true := by rw [beq_iff_eq]; have := HEQ.out; omega
      refine wp_region_quiet_lex (by kernel_rfl) (by kernel_rfl) ?_
      repeat (go_big_quiet_step (fail))
      refine wpQuiet_nil ?_
      intro _ hw'
      obtain ⟨nq, hw''⟩ := hw'
      subst hw''
      have HWN : Hid (PRow (W5.drewN nq) P s q q kd ⟨#[]⟩ 0 false ∧ w.grownBy (W5.drewN nq) (some P)) := Lib.hid ⟨by have h := HR5.out; unfold PRow at h ⊢; exact prow_drew _ h, grown_trans HG5.out (grown_drewN _ _ _)⟩
      go_wp2_with fail
      refine bodyPost_ret (v := .tuple #[]) (by simp [results, Tryd.results17, go_sem]) rfl ?_
      refine ⟨rfl, ?_, grown_trans HWN.out.2 (grown_set _ _ _ _)⟩
      have hz := HSZ.out
      have hq := HEQ.out
      rw [HQ.out, HTK.out]
      refine ⟨q, q, ⟨#[]⟩, 0, ⟨?_, by simp; omega, by simp, by simp, by simp; omega, by simp [ByteArray.size], by omega⟩⟩
      have hr := HWN.out.1
      unfold PRow at hr ⊢
      exact PRow.set 3 _ hr rfl
    · obtain ⟨rfl, hend⟩ := hc
      obtain ⟨c, hc1, hc2⟩ : ∃ c, L[i + j]? = some c ∧ Wm.blank c = false := by
        rcases H2.out with h | ⟨_, h⟩
        · omega
        · exact h
      rw [hq] at hc1
      have hx9 := run_byte (T := 9) Tryd.underlying9 (show s.data.toList[q]? = some c from by rw [HLL.out]; exact hc1)
      have HC2 := Lib.hid hc2
      have hsl : q < sz := by have := HLEN.out; omega
      have HCALL := Lib.hid (show ∀ W, Calls Tryd.prog 27 #[.int .u8 (c.toNat : Int)] W fun e w' => e = .returned (.bool false) ∧ w' = W from fun W => (HB.out c W).mono fun e w' h => ⟨by rw [h.1, HC2.out], h.2⟩)
      have d1 : decide ((q : Int) < (sz : Int)) = true := decide_eq_true (by omega)
      have d2 : decide (q < sz) = true := decide_eq_true (by omega)
      have HDR := Lib.hid (drop_at hc1)
      clear hc1 hc2 hend
      rw [hq]
      clear hq
      go_upto_region 1 with fail
      refine wp_region_quiet_lex (by kernel_rfl) (by kernel_rfl) ?_
      repeat (go_big_quiet_step ((go_at_call 27; with_reducible exact Calls.quiet_of_same (HCALL.out _))))
      refine wpQuiet_nil ?_
      intro _ hw'
      obtain ⟨nq, hw''⟩ := hw'
      subst hw''
      go_upto_region 6 with fail
      have hr5 : ((((wr.drewN nq).setCell ⟨P, 2, none⟩ (.int .i64 (q : Int))).setCell ⟨P, 4, none⟩ (.string ⟨#[]⟩)).setCell ⟨P, 5, none⟩ (.int .i64 0)).heap[P]? = some (.cells #[.string s, .int .i64 (q : Int), .int .i64 (q : Int), .int .u8 (kd : Int), .string ⟨#[]⟩, .int .i64 0, .bool false] 43) := by
        have hr := HR.out
        unfold PRow at hr
        rw [HQ.out] at hr
        exact PRow.set 5 _ (PRow.set 4 _ (PRow.set 2 _ (prow_drew _ hr) rfl) rfl) (by simp)
      have hg5 : w.grownBy ((((wr.drewN nq).setCell ⟨P, 2, none⟩ (.int .i64 (q : Int))).setCell ⟨P, 4, none⟩ (.string ⟨#[]⟩)).setCell ⟨P, 5, none⟩ (.int .i64 0)) (some P) := grown_trans HG.out (grown_trans (grown_trans (grown_trans (grown_drewN wr nq _) (grown_set _ _ _ _)) (grown_set _ _ _ _)) (grown_set _ _ _ _))
      generalize ((((wr.drewN nq).setCell ⟨P, 2, none⟩ (.int .i64 (q : Int))).setCell ⟨P, 4, none⟩ (.string ⟨#[]⟩)).setCell ⟨P, 5, none⟩ (.int .i64 0)) = W5 at *
      clear c0 c1 c2 c3 c4 c5 c6 f0 f1 f2 f3 f4 f5 f6
      have c0 : W5.cell? ⟨P, 0, none⟩ = some (.string s) := cell_of_row _ _ 0 _ _ (0, 0) hr5
      have f0 : W5.frozen? ⟨P, 0, none⟩ = false := pfrz hr5
      have c1 : W5.cell? ⟨P, 1, none⟩ = some (.int .i64 (q : Int)) := cell_of_row _ _ 1 _ _ (0, 0) hr5
      have f1 : W5.frozen? ⟨P, 1, none⟩ = false := pfrz hr5
      have c2 : W5.cell? ⟨P, 2, none⟩ = some (.int .i64 (q : Int)) := cell_of_row _ _ 2 _ _ (0, 0) hr5
      have f2 : W5.frozen? ⟨P, 2, none⟩ = false := pfrz hr5
      have c3 : W5.cell? ⟨P, 3, none⟩ = some (.int .u8 (kd : Int)) := cell_of_row _ _ 3 _ _ (0, 0) hr5
      have f3 : W5.frozen? ⟨P, 3, none⟩ = false := pfrz hr5
      have c4 : W5.cell? ⟨P, 4, none⟩ = some (.string ⟨#[]⟩) := cell_of_row _ _ 4 _ _ (0, 0) hr5
      have f4 : W5.frozen? ⟨P, 4, none⟩ = false := pfrz hr5
      have c5 : W5.cell? ⟨P, 5, none⟩ = some (.int .i64 (0 : Int)) := cell_of_row _ _ 5 _ _ (0, 0) hr5
      have f5 : W5.frozen? ⟨P, 5, none⟩ = false := pfrz hr5
      have c6 : W5.cell? ⟨P, 6, none⟩ = some (.bool false) := cell_of_row _ _ 6 _ _ (0, 0) hr5
      have f6 : W5.frozen? ⟨P, 6, none⟩ = false := pfrz hr5
      have HR5 : Hid (PRow W5 P s q q kd ⟨#[]⟩ 0 false) := Lib.hid hr5
      have HG5 := Lib.hid hg5
      clear hr5 hg5
      have k1 : ((q : Int) == (sz : Int)) = false := by rw [beq_eq_false_iff_ne]; omega
      have k2 : (q == sz) = false := by rw [beq_eq_false_iff_ne]; omega
      refine wp_region_quiet_lex (by kernel_rfl) (by kernel_rfl) ?_
      repeat (go_big_quiet_step (fail))
      refine wpQuiet_nil ?_
      intro _ hw'
      obtain ⟨nq, hw''⟩ := hw'
      subst hw''
      go_upto_region 8 with fail
      refine wp_region_quiet_lex (by kernel_rfl) (by kernel_rfl) ?_
      repeat (go_big_quiet_step (fail))
      refine wpQuiet_nil ?_
      intro _ hw'
      obtain ⟨nq2, hw''⟩ := hw'
      subst hw''
      have HWN : Hid (PRow (W5.drewN (nq + nq2)) P s q q kd ⟨#[]⟩ 0 false ∧ w.grownBy (W5.drewN (nq + nq2)) (some P)) := Lib.hid ⟨by have h := HR5.out; unfold PRow at h ⊢; exact prow_drew _ h, grown_trans HG5.out (grown_drewN _ _ _)⟩
      rcases (show Wm.lettr c = true ∨ (Wm.lettr c = false ∧ Wm.digt c = true) ∨ (Wm.lettr c = false ∧ Wm.digt c = false ∧ Wm.sgn c = true) ∨ (Wm.lettr c = false ∧ Wm.digt c = false ∧ Wm.sgn c = false ∧ c = 34) ∨ (Wm.lettr c = false ∧ Wm.digt c = false ∧ Wm.sgn c = false ∧ c ≠ 34) from by cases Wm.lettr c <;> cases Wm.digt c <;> cases Wm.sgn c <;> by_cases h : c = 34 <;> simp [h]) with hk | ⟨hk1, hk2⟩ | ⟨hk1, hk2, hk3⟩ | ⟨hk1, hk2, hk3, hk4⟩ | ⟨hk1, hk2, hk3, hk4⟩
      · have HTK : Hid (Wm.tok1 (L.drop q) = ⟨1, (L.drop q).takeWhile Wm.lettr, L.drop q, (L.drop q).dropWhile Wm.lettr⟩) := Lib.hid (by rw [HDR.out, Wm.tok1, if_pos hk])
        have HI := Lib.hid (show ∀ W, Calls Tryd.prog 28 #[.int .u8 (c.toNat : Int)] W fun e w' => e = .returned (.bool true) ∧ w' = W from fun W => (isletter_any c W).mono fun e w' h => ⟨by rw [h.1, hk], h.2⟩)
        have HW := Lib.hid (readword_any s L P q kd 0 ⟨#[]⟩ _ HLL.out HWN.out.1 (by rw [HSZ.out]; omega) (by rw [HSZ.out]; exact HS.out))
        clear hk
        go_wp2_with (first
          | (go_at_call 28; (with_reducible refine (HI.out _).mono ?_); rintro e w1 ⟨rfl, hw1⟩; subst hw1)
          | (go_at_call 29; (with_reducible refine HW.out.mono ?_); rintro e w6 ⟨rfl, hr, hg⟩; have HR6 := Lib.hid hr; have HG6 := Lib.hid hg; clear hr hg))
        go_end0
        refine ⟨rfl, ?_, grown_trans HWN.out.2 HG6.out⟩
        have hz := HSZ.out
        have hlx := HLEN.out
        have h1 := Wm.takeWhile_len Wm.lettr (L.drop q)
        rw [List.length_drop] at h1
        rw [HQ.out, HTK.out]
        refine ⟨_, _, _, _, HR6.out, by rw [List.length_drop]; omega, fun _ => rfl, by simp, fun _ => by simp only; omega, by rw [s8_len]; have := HS.out; omega, by omega⟩
      · have HTK : Hid (Wm.tok1 (L.drop q) = Wm.tokN c (L.drop (q + 1))) := Lib.hid (by rw [HDR.out, Wm.tok1, hk1, hk2]; rfl)
        have HI := Lib.hid (show ∀ W, Calls Tryd.prog 28 #[.int .u8 (c.toNat : Int)] W fun e w' => e = .returned (.bool false) ∧ w' = W from fun W => (isletter_any c W).mono fun e w' h => ⟨by rw [h.1, hk1], h.2⟩)
        have HJ2 := Lib.hid (show ∀ W, Calls Tryd.prog 30 #[.int .u8 (c.toNat : Int)] W fun e w' => e = .returned (.bool true) ∧ w' = W from fun W => (isdigit_any c W).mono fun e w' h => ⟨by rw [h.1, hk2], h.2⟩)
        have HW := Lib.hid (readnum_any s L P q kd ⟨#[]⟩ _ HLL.out HWN.out.1 (by rw [HSZ.out]; omega) (by rw [HSZ.out]; exact HS.out) c _ HDR.out hk2)
        have HOKK := Lib.hid (Wm.tok1_ok (L.drop q))
        clear hk1 hk2
        go_wp2_with (first
          | (go_at_call 28; (with_reducible refine (HI.out _).mono ?_); rintro e w1 ⟨rfl, hw1⟩; subst hw1)
          | (go_at_call 30; (with_reducible refine (HJ2.out _).mono ?_); rintro e w1 ⟨rfl, hw1⟩; subst hw1)
          | (go_at_call 31; (with_reducible refine HW.out.mono ?_); rintro e w6 ⟨rfl, hr, hg⟩; have HR6 := Lib.hid hr; have HG6 := Lib.hid hg; clear hr hg))
        go_end0
        refine ⟨rfl, ?_, grown_trans HWN.out.2 HG6.out⟩
        have hz := HSZ.out
        have hlx := HLEN.out
        have h1 := Wm.takeWhile_len Wm.digt (L.drop q)
        rw [List.length_drop] at h1
        rw [HQ.out, HTK.out]
        obtain ⟨n, hn, hr, hnn⟩ := HR6.out
        have hdr := HDR.out
        have hfr : (Wm.tokN c (L.drop (q + 1))).from_ = L.drop q := by unfold Wm.tokN; rw [hdr]; split <;> rfl
        have hrs : (Wm.tokN c (L.drop (q + 1))).rest = (L.drop q).dropWhile Wm.digt := by unfold Wm.tokN; rw [hdr]; split <;> rfl
        have hkk : (Wm.tokN c (L.drop (q + 1))).kind = 2 ∨ (Wm.tokN c (L.drop (q + 1))).kind = 5 := by unfold Wm.tokN; split <;> simp
        have hcd : (Wm.tokN c (L.drop (q + 1))).code = if (Wm.tokN c (L.drop (q + 1))).kind = 2 then 48 else 0 := by
          unfold Wm.Tk.code
          rcases hkk with h | h <;> rw [h] <;> rfl
        refine ⟨_, _, _, _, by rw [hcd]; exact hr, by rw [hfr, List.length_drop]; omega, fun h => by omega, hnn, fun _ => by rw [hrs]; omega, by rw [s8_len]; have := HS.out; omega, hn⟩
      · have HTK : Hid (Wm.tok1 (L.drop q) = ⟨4, [c], L.drop q, L.drop (q + 1)⟩) := Lib.hid (by rw [HDR.out, Wm.tok1, hk1, hk2, hk3]; rfl)
        have HI := Lib.hid (show ∀ W, Calls Tryd.prog 28 #[.int .u8 (c.toNat : Int)] W fun e w' => e = .returned (.bool false) ∧ w' = W from fun W => (isletter_any c W).mono fun e w' h => ⟨by rw [h.1, hk1], h.2⟩)
        have HJ2 := Lib.hid (show ∀ W, Calls Tryd.prog 30 #[.int .u8 (c.toNat : Int)] W fun e w' => e = .returned (.bool false) ∧ w' = W from fun W => (isdigit_any c W).mono fun e w' h => ⟨by rw [h.1, hk2], h.2⟩)
        have hcs : c.toNat = 40 ∨ c.toNat = 41 ∨ c.toNat = 44 := by
          unfold Wm.sgn at hk3
          simp only [Bool.or_eq_true, beq_iff_eq] at hk3
          rcases hk3 with (rfl | rfl) | rfl <;> simp
        have HCN : Hid (PRow (((W5.drewN (nq + nq2)).setCell ⟨P, 3, none⟩ (.int .u8 (c.toNat : Int))).setCell ⟨P, 1, none⟩ (.int .i64 ((q : Int) + 1))) P s (q + 1) q c.toNat ⟨#[]⟩ 0 false ∧ w.grownBy (((W5.drewN (nq + nq2)).setCell ⟨P, 3, none⟩ (.int .u8 (c.toNat : Int))).setCell ⟨P, 1, none⟩ (.int .i64 ((q : Int) + 1))) (some P)) := Lib.hid ⟨by
            have hr := HWN.out.1
            unfold PRow at hr ⊢
            exact PRow.set 1 _ (PRow.set 3 _ hr rfl) (by simp), grown_trans HWN.out.2 (grown_trans (grown_set _ _ _ _) (grown_set _ _ _ _))⟩
        have HFIN : Hid (∀ W', PRow W' P s (q + 1) q c.toNat ⟨#[]⟩ 0 false → TokAt W' P s (Wm.tok1 (L.drop q))) := Lib.hid (fun W' hr => by
          have hz := HSZ.out
          have hlx := HLEN.out
          rw [HTK.out]
          refine ⟨q + 1, q, ⟨#[]⟩, 0, by unfold Wm.Tk.code; exact hr, by rw [List.length_drop]; omega, by simp, by simp, fun _ => by rw [List.length_drop]; omega, by simp [ByteArray.size], by omega⟩)
        clear hk1 hk2 hk3
        generalize (c.toNat) = cn at *
        rcases hcs with hec | hec | hec
        · have HEC := Lib.hid hec
          clear hec
          have k40 : ((cn : Int) == 40) = true := by rw [beq_iff_eq]; have := HEC.out; omega
          have k41 : ((cn : Int) == 41) = false := by rw [beq_eq_false_iff_ne]; have := HEC.out; omega
          have k44 : ((cn : Int) == 44) = false := by rw [beq_eq_false_iff_ne]; have := HEC.out; omega
          have k34 : ((cn : Int) == 34) = false := by rw [beq_eq_false_iff_ne]; have := HEC.out; omega
          go_wp2_with (first
            | (go_at_call 28; (with_reducible refine (HI.out _).mono ?_); rintro e w1 ⟨rfl, hw1⟩; subst hw1)
            | (go_at_call 30; (with_reducible refine (HJ2.out _).mono ?_); rintro e w1 ⟨rfl, hw1⟩; subst hw1))
          go_end0
          refine ⟨rfl, ?_, HCN.out.2⟩
          rw [HQ.out]
          exact HFIN.out _ HCN.out.1
        · have HEC := Lib.hid hec
          clear hec
          have k40 : ((cn : Int) == 40) = false := by rw [beq_eq_false_iff_ne]; have := HEC.out; omega
          have k41 : ((cn : Int) == 41) = true := by rw [beq_iff_eq]; have := HEC.out; omega
          have k44 : ((cn : Int) == 44) = false := by rw [beq_eq_false_iff_ne]; have := HEC.out; omega
          have k34 : ((cn : Int) == 34) = false := by rw [beq_eq_false_iff_ne]; have := HEC.out; omega
          go_wp2_with (first
            | (go_at_call 28; (with_reducible refine (HI.out _).mono ?_); rintro e w1 ⟨rfl, hw1⟩; subst hw1)
            | (go_at_call 30; (with_reducible refine (HJ2.out _).mono ?_); rintro e w1 ⟨rfl, hw1⟩; subst hw1))
          go_end0
          refine ⟨rfl, ?_, HCN.out.2⟩
          rw [HQ.out]
          exact HFIN.out _ HCN.out.1
        · have HEC := Lib.hid hec
          clear hec
          have k40 : ((cn : Int) == 40) = false := by rw [beq_eq_false_iff_ne]; have := HEC.out; omega
          have k41 : ((cn : Int) == 41) = false := by rw [beq_eq_false_iff_ne]; have := HEC.out; omega
          have k44 : ((cn : Int) == 44) = true := by rw [beq_iff_eq]; have := HEC.out; omega
          have k34 : ((cn : Int) == 34) = false := by rw [beq_eq_false_iff_ne]; have := HEC.out; omega
          go_wp2_with (first
            | (go_at_call 28; (with_reducible refine (HI.out _).mono ?_); rintro e w1 ⟨rfl, hw1⟩; subst hw1)
            | (go_at_call 30; (with_reducible refine (HJ2.out _).mono ?_); rintro e w1 ⟨rfl, hw1⟩; subst hw1))
          go_end0
          refine ⟨rfl, ?_, HCN.out.2⟩
          rw [HQ.out]
          exact HFIN.out _ HCN.out.1
      · subst hk4
        have HTK : Hid (Wm.tok1 (L.drop q) = Wm.tokT 34 (L.drop (q + 1))) := Lib.hid (by rw [HDR.out, Wm.tok1, if_neg (by decide), if_neg (by decide), if_neg (by decide), if_pos rfl])
        have HI := Lib.hid (show ∀ W, Calls Tryd.prog 28 #[.int .u8 34] W fun e w' => e = .returned (.bool false) ∧ w' = W from fun W => (isletter_any 34 W).mono fun e w' h => ⟨by rw [h.1]; rfl, h.2⟩)
        have HJ2 := Lib.hid (show ∀ W, Calls Tryd.prog 30 #[.int .u8 34] W fun e w' => e = .returned (.bool false) ∧ w' = W from fun W => (isdigit_any 34 W).mono fun e w' h => ⟨by rw [h.1]; rfl, h.2⟩)
        have HW := Lib.hid (readtext_any s L P q kd ⟨#[]⟩ _ HLL.out HWN.out.1 (by rw [HSZ.out]; omega) (by rw [HSZ.out]; exact HS.out))
        have e34 : (((34 : UInt8).toNat : Int)) = 34 := by decide
        rw [e34] at hx9
        rw [e34]
        clear hk1 hk2 hk3
        go_wp2_with (first
          | (go_at_call 28; (with_reducible refine (HI.out _).mono ?_); rintro e w1 ⟨rfl, hw1⟩; subst hw1)
          | (go_at_call 30; (with_reducible refine (HJ2.out _).mono ?_); rintro e w1 ⟨rfl, hw1⟩; subst hw1)
          | (go_at_call 32; (with_reducible refine HW.out.mono ?_); rintro e w6 ⟨rfl, hr, hg⟩; have HR6 := Lib.hid hr; have HG6 := Lib.hid hg; clear hr hg))
        go_end0
        refine ⟨rfl, ?_, grown_trans HWN.out.2 HG6.out⟩
        have hz := HSZ.out
        have hlx := HLEN.out
        rw [HQ.out, HTK.out]
        have hr := HR6.out
        have hdr := HDR.out
        unfold Wm.tokT
        cases ht : Wm.txt (L.drop (q + 1)) with
        | none =>
          rw [ht] at hr
          exact ⟨_, _, _, _, hr, by simp only; rw [← hdr, List.length_drop]; omega, by simp, by simp, by simp, by simp [ByteArray.size], by omega⟩
        | some p =>
          obtain ⟨a, b⟩ := p
          rw [ht] at hr
          have h3 := Wm.txt_suf _ _ a b (Nat.le_refl _) ht
          rw [List.length_drop] at h3
          exact ⟨_, _, _, _, hr, by simp only; rw [← hdr, List.length_drop]; omega, fun _ => rfl, by simp, fun _ => by simp only; omega, by rw [s8_len]; have := HS.out; simp only; omega, by omega⟩
      · have HTK : Hid (Wm.tok1 (L.drop q) = ⟨5, [], L.drop q, L.drop q⟩) := Lib.hid (by rw [HDR.out, Wm.tok1, hk1, hk2, hk3, if_neg hk4]; rfl)
        have HI := Lib.hid (show ∀ W, Calls Tryd.prog 28 #[.int .u8 (c.toNat : Int)] W fun e w' => e = .returned (.bool false) ∧ w' = W from fun W => (isletter_any c W).mono fun e w' h => ⟨by rw [h.1, hk1], h.2⟩)
        have HJ2 := Lib.hid (show ∀ W, Calls Tryd.prog 30 #[.int .u8 (c.toNat : Int)] W fun e w' => e = .returned (.bool false) ∧ w' = W from fun W => (isdigit_any c W).mono fun e w' h => ⟨by rw [h.1, hk2], h.2⟩)
        have hcs : c.toNat ≠ 40 ∧ c.toNat ≠ 41 ∧ c.toNat ≠ 44 ∧ c.toNat ≠ 34 := by
          unfold Wm.sgn at hk3
          simp only [Bool.or_eq_false_iff, beq_eq_false_iff_ne] at hk3
          refine ⟨fun e => hk3.1.1 ?_, fun e => hk3.1.2 ?_, fun e => hk3.2 ?_, fun e => hk4 ?_⟩ <;> (rw [← UInt8.toNat_inj, e]; rfl)
        clear hk1 hk2 hk3 hk4
        generalize (c.toNat) = cn at *
        have k40 : ((cn : Int) == 40) = false := by rw [beq_eq_false_iff_ne]; omega
        have k41 : ((cn : Int) == 41) = false := by rw [beq_eq_false_iff_ne]; omega
        have k44 : ((cn : Int) == 44) = false := by rw [beq_eq_false_iff_ne]; omega
        have k34 : ((cn : Int) == 34) = false := by rw [beq_eq_false_iff_ne]; omega
        clear hcs
        go_wp2_with (first
          | (go_at_call 28; (with_reducible refine (HI.out _).mono ?_); rintro e w1 ⟨rfl, hw1⟩; subst hw1)
          | (go_at_call 30; (with_reducible refine (HJ2.out _).mono ?_); rintro e w1 ⟨rfl, hw1⟩; subst hw1))
        go_end0
        refine ⟨rfl, ?_, grown_trans HWN.out.2 (grown_set _ _ _ _)⟩
        have hz := HSZ.out
        have hlx := HLEN.out
        rw [HQ.out, HTK.out]
        refine ⟨q, q, ⟨#[]⟩, 0, ?_, by rw [List.length_drop]; omega, by simp, by simp, by simp, by simp [ByteArray.size], by omega⟩
        have hr := HWN.out.1
        unfold PRow at hr ⊢
        exact PRow.set 3 _ hr rfl
end Go.Proofs.YtgiahfjndononaaDoor
