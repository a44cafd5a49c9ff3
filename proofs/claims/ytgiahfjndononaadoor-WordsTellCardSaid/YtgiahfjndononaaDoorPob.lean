/- The code's tokens, first half: bytes of a kind, words. -/
import Derived.Test.YtgiahfjndononaaDoorPoa
import Derived.Test.YtgiahfjndononaaDoorRn
import Derived.Test.YtgiahfjndononaaDoorRd
import Derived.Test.YtgiahfjndononaaDoorLx
import Derived.BigQuiet
import Derived.Deep.DeepCutAuto
namespace Go.Proofs.YtgiahfjndononaaDoor
open Go.RowKit
set_option linter.unusedVariables false
set_option linter.unusedSimpArgs false
set_option maxRecDepth 100000

/-- The parser as it lies. -/
def PRow (w : World) (P : Nat) (s : ByteArray) (nx at_ kd : Nat) (tx : ByteArray) (n : Nat) (bd : Bool) : Prop :=
  w.heap[P]? = some (.cells #[.string s, .int .i64 (nx : Int), .int .i64 (at_ : Int), .int .u8 (kd : Int), .string tx, .int .i64 (n : Int), .bool bd] 43)
theorem pfrz {w : World} {b i : Nat} {cs : Array Value} {ty : TypeId} (h : w.heap[b]? = some (.cells cs ty)) : w.frozen? ⟨b, i, none⟩ = false := by
  unfold World.frozen?
  rw [h]
  simp
theorem isblank_any (c : UInt8) (w : World) : Calls Tryd.prog 27 #[.int .u8 (c.toNat : Int)] w fun e w' => e = .returned (.bool (Wm.blank c)) ∧ w' = w := by
  have hb : Wm.blank c = (((c.toNat : Int) == 32) || ((c.toNat : Int) == 10)) := by
    unfold Wm.blank
    rw [Bool.eq_iff_iff]
    simp only [Bool.or_eq_true, beq_iff_eq]
    rw [← UInt8.toNat_inj, ← UInt8.toNat_inj]
    simp
    omega
  rw [hb]
  cases h1 : ((c.toNat : Int) == 32) <;> cases h2 : ((c.toNat : Int) == 10) <;>
    (go_enter Tryd.func27, Tryd.ntmps27
     go_wp2_with fail
     go_ret
     exact ⟨rfl, rfl⟩)
theorem isletter_any (c : UInt8) (w : World) : Calls Tryd.prog 28 #[.int .u8 (c.toNat : Int)] w fun e w' => e = .returned (.bool (Wm.lettr c)) ∧ w' = w := by
  have hb : Wm.lettr c = (decide (97 ≤ (c.toNat : Int)) && decide ((c.toNat : Int) ≤ 122)) := by
    unfold Wm.lettr
    rw [Bool.eq_iff_iff]
    simp only [Bool.and_eq_true, decide_eq_true_eq]
    omega
  rw [hb]
  cases h1 : decide (97 ≤ (c.toNat : Int)) <;> cases h2 : decide ((c.toNat : Int) ≤ 122) <;>
    (go_enter Tryd.func28, Tryd.ntmps28
     go_wp2_with fail
     go_ret
     exact ⟨rfl, rfl⟩)
theorem isdigit_any (c : UInt8) (w : World) : Calls Tryd.prog 30 #[.int .u8 (c.toNat : Int)] w fun e w' => e = .returned (.bool (Wm.digt c)) ∧ w' = w := by
  have hb : Wm.digt c = (decide (48 ≤ (c.toNat : Int)) && decide ((c.toNat : Int) ≤ 57)) := by
    unfold Wm.digt
    rw [Bool.eq_iff_iff]
    simp only [Bool.and_eq_true, decide_eq_true_eq]
    omega
  rw [hb]
  cases h1 : decide (48 ≤ (c.toNat : Int)) <;> cases h2 : decide ((c.toNat : Int) ≤ 57) <;>
    (go_enter Tryd.func30, Tryd.ntmps30
     go_wp2_with fail
     go_ret
     exact ⟨rfl, rfl⟩)
theorem run_byte {T : TypeId} (hT : Tryd.prog.underlying T = some .string) {s : ByteArray} {i : Nat} {c : UInt8} (h : s.data.toList[i]? = some c) (w : World) : (Instr.index T (.string s) (.int .i64 (i : Int))).run Tryd.prog w = .ok (.int .u8 (c.toNat : Int)) w := by
  obtain ⟨⟨l⟩⟩ := s
  simp only at h
  have hi : i < l.length := (List.getElem?_eq_some_iff.1 h).1
  have hv : l[i] = c := (List.getElem?_eq_some_iff.1 h).2
  rw [run_index_string w T _ _ _ hT, dif_pos ⟨by omega, by simp [ByteArray.size]; omega⟩]
  subst hv
  simp
  rfl
theorem PRow.set {w : World} {P : Nat} {cs cs' : Array Value} {ty : TypeId} (i : Nat) (v : Value) (h : w.heap[P]? = some (.cells cs ty)) (e : cs.setIfInBounds i v = cs') : (w.setCell ⟨P, i, none⟩ v).heap[P]? = some (.cells cs' ty) := by
  rw [heap_setCell_same _ _ i _ _ v h, e]
def nxOf (w : World) (P : Nat) : Nat := match w.cell? ⟨P, 1, none⟩ with | some (.int _ z) => z.toNat | _ => 0
theorem nxOf_is {w : World} {P k : Nat} {q : IntKind} (h : w.cell? ⟨P, 1, none⟩ = some (.int q (k : Int))) : nxOf w P = k := by
  unfold nxOf
  rw [h]
  simp
theorem prow_drew {w : World} {P : Nat} {o : Obj} (n : Nat) (h : w.heap[P]? = some o) : (w.drewN n).heap[P]? = some o := h
theorem grown_drewN (w : World) (n : Nat) (x : Option Nat) : w.grownBy (w.drewN n) x := ⟨rfl, rfl, rfl, Nat.le_refl _, fun _ _ _ => rfl⟩
set_option maxHeartbeats 4000000 in
theorem span_digit (s : ByteArray) (P i m kd n : Nat) (tx : ByteArray) (w : World) (h : PRow w P s i i kd tx n false) (hm : i + m ≤ s.size) (hs : s.size ≤ 1000000) (h1 : ∀ j, j < m → ∃ c, s.data.toList[i + j]? = some c ∧ Wm.digt c = true) (h2 : i + m = s.size ∨ (i + m < s.size ∧ ∃ c, s.data.toList[i + m]? = some c ∧ Wm.digt c = false)) :
    Calls Tryd.prog 47 #[.pointer (some ⟨P, 0, none⟩), .func (.func 30) #[] #[]] w fun e w' => e = .returned (.tuple #[]) ∧ PRow w' P s (i + m) i kd (s.extract i (i + m)) n false ∧ w.grownBy w' (some P) := by
  have H1 := Lib.hid h1
  have H2 := Lib.hid h2
  have HF := Lib.hid isdigit_any
  have HP := Lib.hid h
  have HS := Lib.hid hs
  have HM := Lib.hid hm
  obtain ⟨sz, hsz⟩ : ∃ z, s.size = z := ⟨_, rfl⟩
  have HSZ := Lib.hid hsz
  clear h1 h2 h hs hm hsz
  have HG0 : Hid (w.grownBy w (some P)) := Lib.hid ⟨rfl, rfl, rfl, Nat.le_refl _, fun _ _ _ => rfl⟩
  go_enter Tryd.func47, Tryd.ntmps47
  go_wp2_with fail
  go_loopw [26] (fun _ wr => ∃ (j : Nat), Hid (j ≤ m) ∧ Hid (PRow wr P s (i + j) i kd tx n false) ∧ Hid (w.grownBy wr (some P))) (fun _ wr => i + m - nxOf wr P)
  case atStart => exact ⟨0, Lib.hid (Nat.zero_le _), HP, HG0⟩
  case round =>
    obtain ⟨j, HJ, HR, HG⟩ := hrel
    have HMM := Lib.hid (nxOf_is (show wr.cell? ⟨P, 1, none⟩ = some (.int .i64 ((i + j : Nat) : Int)) from cell_of_row _ _ 1 _ _ (0, 0) HR.out))
    have hrow := HR.out
    unfold PRow at hrow
    obtain ⟨q, hq⟩ : ∃ q, i + j = q := ⟨_, rfl⟩
    have HQ := Lib.hid hq
    rw [hq] at hrow
    have hq6 : q ≤ 1000000 := by have := HJ.out; have := HM.out; have := HS.out; omega
    rcases (show j < m ∨ (j = m ∧ i + m = s.size) ∨ (j = m ∧ i + m < s.size) from by have := HJ.out; rcases H2.out with h | ⟨h, _⟩ <;> omega) with hc | hc | hc
    · obtain ⟨c, hc1, hc2⟩ := H1.out j hc
      rw [hq] at hc1
      have hix := fun (T : TypeId) (hT : Tryd.prog.underlying T = some .string) => run_byte hT hc1
      have hx9 := hix _ Tryd.underlying9
      have HC2 := Lib.hid hc2
      have HC := Lib.hid hc
      have hsl : q < s.size := by have := HM.out; omega
      rw [HSZ.out] at hsl
      have hcall : ∀ W, Calls Tryd.prog 30 #[.int .u8 (c.toNat : Int)] W fun e w' => e = .returned (.bool true) ∧ w' = W := fun W => (HF.out c W).mono fun e w' h => ⟨by rw [h.1, HC2.out], h.2⟩
      have HCALL := Lib.hid hcall
      have d1 : decide ((q : Int) < (sz : Int)) = true := decide_eq_true (by omega)
      have d2 : decide (q < sz) = true := decide_eq_true (by omega)
      have hszz := HSZ.out
      clear hix hc1 hc2 hq hcall hc
      have c0 : wr.cell? ⟨P, 0, none⟩ = some (.string s) := cell_of_row _ _ 0 _ _ (0, 0) hrow
      have f0 : wr.frozen? ⟨P, 0, none⟩ = false := pfrz hrow
      have c1 : wr.cell? ⟨P, 1, none⟩ = some (.int .i64 (q : Int)) := cell_of_row _ _ 1 _ _ (0, 0) hrow
      have f1 : wr.frozen? ⟨P, 1, none⟩ = false := pfrz hrow
      have c2 : wr.cell? ⟨P, 2, none⟩ = some (.int .i64 (i : Int)) := cell_of_row _ _ 2 _ _ (0, 0) hrow
      have f2 : wr.frozen? ⟨P, 2, none⟩ = false := pfrz hrow
      have c3 : wr.cell? ⟨P, 3, none⟩ = some (.int .u8 (kd : Int)) := cell_of_row _ _ 3 _ _ (0, 0) hrow
      have f3 : wr.frozen? ⟨P, 3, none⟩ = false := pfrz hrow
      have c4 : wr.cell? ⟨P, 4, none⟩ = some (.string tx) := cell_of_row _ _ 4 _ _ (0, 0) hrow
      have f4 : wr.frozen? ⟨P, 4, none⟩ = false := pfrz hrow
      have c5 : wr.cell? ⟨P, 5, none⟩ = some (.int .i64 (n : Int)) := cell_of_row _ _ 5 _ _ (0, 0) hrow
      have f5 : wr.frozen? ⟨P, 5, none⟩ = false := pfrz hrow
      have c6 : wr.cell? ⟨P, 6, none⟩ = some (.bool false) := cell_of_row _ _ 6 _ _ (0, 0) hrow
      have f6 : wr.frozen? ⟨P, 6, none⟩ = false := pfrz hrow
      clear hrow
      go_upto_region 0 with fail
      refine wp_region_quiet_lex (by kernel_rfl) (by kernel_rfl) ?_
      repeat (go_big_quiet_step ((go_at_call 30; with_reducible exact Calls.quiet_of_same (HCALL.out _))))
      refine wpQuiet_nil ?_
      intro _ hw'
      obtain ⟨nq, hw''⟩ := hw'
      subst hw''
      go_wp2_with fail
      go_roundw
      case rel =>
        refine ⟨j + 1, Lib.hid HC.out, Lib.hid ?_, Lib.hid (grown_trans HG.out (grown_trans (grown_drewN wr nq (some P)) (grown_set _ _ _ _)))⟩
        have hr := HR.out
        unfold PRow at hr ⊢
        refine PRow.set 1 _ (prow_drew nq hr) ?_
        have := HQ.out
        simp
        omega
      case measure =>
        have e1 : nxOf ((wr.drewN nq).setCell ⟨P, 1, none⟩ (.int .i64 ((q : Int) + 1))) P = q + 1 := by
          refine nxOf_is (q := .i64) ?_
          have hr := HR.out
          unfold PRow at hr
          refine cell_of_row _ _ 1 _ _ (0, 0) (PRow.set 1 _ (prow_drew nq hr) rfl)
        rw [e1, HMM.out]
        have := HC.out
        have := HQ.out
        omega
    · obtain ⟨rfl, hend⟩ := hc
      have hqs : q = sz := by have := HSZ.out; omega
      have d1 : decide ((q : Int) < (sz : Int)) = false := decide_eq_false (by omega)
      have d2 : decide (q < sz) = false := decide_eq_false (by omega)
      have HIQ : Hid (i ≤ q) := Lib.hid (by omega)
      have HQZ : Hid (q ≤ sz) := Lib.hid (by omega)
      have hszz := HSZ.out
      have HE : Hid (s.extract i q = s.extract i (i + j)) := Lib.hid (by rw [HQ.out])
      (try clear hqs)
      clear hend hq
      have c0 : wr.cell? ⟨P, 0, none⟩ = some (.string s) := cell_of_row _ _ 0 _ _ (0, 0) hrow
      have f0 : wr.frozen? ⟨P, 0, none⟩ = false := pfrz hrow
      have c1 : wr.cell? ⟨P, 1, none⟩ = some (.int .i64 (q : Int)) := cell_of_row _ _ 1 _ _ (0, 0) hrow
      have f1 : wr.frozen? ⟨P, 1, none⟩ = false := pfrz hrow
      have c2 : wr.cell? ⟨P, 2, none⟩ = some (.int .i64 (i : Int)) := cell_of_row _ _ 2 _ _ (0, 0) hrow
      have f2 : wr.frozen? ⟨P, 2, none⟩ = false := pfrz hrow
      have c3 : wr.cell? ⟨P, 3, none⟩ = some (.int .u8 (kd : Int)) := cell_of_row _ _ 3 _ _ (0, 0) hrow
      have f3 : wr.frozen? ⟨P, 3, none⟩ = false := pfrz hrow
      have c4 : wr.cell? ⟨P, 4, none⟩ = some (.string tx) := cell_of_row _ _ 4 _ _ (0, 0) hrow
      have f4 : wr.frozen? ⟨P, 4, none⟩ = false := pfrz hrow
      have c5 : wr.cell? ⟨P, 5, none⟩ = some (.int .i64 (n : Int)) := cell_of_row _ _ 5 _ _ (0, 0) hrow
      have f5 : wr.frozen? ⟨P, 5, none⟩ = false := pfrz hrow
      have c6 : wr.cell? ⟨P, 6, none⟩ = some (.bool false) := cell_of_row _ _ 6 _ _ (0, 0) hrow
      have f6 : wr.frozen? ⟨P, 6, none⟩ = false := pfrz hrow
      clear hrow
      go_upto_region 0 with fail
      refine wp_region_quiet_lex (by kernel_rfl) (by kernel_rfl) ?_
      repeat (go_big_quiet_step (fail))
      refine wpQuiet_nil ?_
      intro _ hw'
      obtain ⟨nq, hw''⟩ := hw'
      subst hw''
      go_wp2_with fail
      have hiq := HIQ.out
      have hqz := HQZ.out
      go_region
      go_end0
      refine ⟨by first | rfl | trivial, ?_, ?_⟩
      · have hr := HR.out
        unfold PRow at hr ⊢
        refine PRow.set 4 _ (prow_drew _ hr) ?_
        rw [← HE.out, ← HQ.out]
        simp
      · exact grown_trans HG.out (grown_trans (grown_drewN wr _ (some P)) (grown_set _ _ _ _))
    · obtain ⟨rfl, hend⟩ := hc
      obtain ⟨c, hc1, hc2⟩ : ∃ c, s.data.toList[i + j]? = some c ∧ Wm.digt c = false := by
        rcases H2.out with h | ⟨_, h⟩
        · omega
        · exact h
      rw [hq] at hc1
      have hix := fun (T : TypeId) (hT : Tryd.prog.underlying T = some .string) => run_byte hT hc1
      have hx9 := hix _ Tryd.underlying9
      have HC2 := Lib.hid hc2
      have hsl : q < sz := by have := HSZ.out; omega
      have hcall : ∀ W, Calls Tryd.prog 30 #[.int .u8 (c.toNat : Int)] W fun e w' => e = .returned (.bool false) ∧ w' = W := fun W => (HF.out c W).mono fun e w' h => ⟨by rw [h.1, HC2.out], h.2⟩
      have HCALL := Lib.hid hcall
      have d1 : decide ((q : Int) < (sz : Int)) = true := decide_eq_true (by omega)
      have d2 : decide (q < sz) = true := decide_eq_true (by omega)
      clear hix hc1 hc2 hcall
      have HIQ : Hid (i ≤ q) := Lib.hid (by omega)
      have HQZ : Hid (q ≤ sz) := Lib.hid (by omega)
      have hszz := HSZ.out
      have HE : Hid (s.extract i q = s.extract i (i + j)) := Lib.hid (by rw [HQ.out])
      (try clear hqs)
      clear hend hq
      have c0 : wr.cell? ⟨P, 0, none⟩ = some (.string s) := cell_of_row _ _ 0 _ _ (0, 0) hrow
      have f0 : wr.frozen? ⟨P, 0, none⟩ = false := pfrz hrow
      have c1 : wr.cell? ⟨P, 1, none⟩ = some (.int .i64 (q : Int)) := cell_of_row _ _ 1 _ _ (0, 0) hrow
      have f1 : wr.frozen? ⟨P, 1, none⟩ = false := pfrz hrow
      have c2 : wr.cell? ⟨P, 2, none⟩ = some (.int .i64 (i : Int)) := cell_of_row _ _ 2 _ _ (0, 0) hrow
      have f2 : wr.frozen? ⟨P, 2, none⟩ = false := pfrz hrow
      have c3 : wr.cell? ⟨P, 3, none⟩ = some (.int .u8 (kd : Int)) := cell_of_row _ _ 3 _ _ (0, 0) hrow
      have f3 : wr.frozen? ⟨P, 3, none⟩ = false := pfrz hrow
      have c4 : wr.cell? ⟨P, 4, none⟩ = some (.string tx) := cell_of_row _ _ 4 _ _ (0, 0) hrow
      have f4 : wr.frozen? ⟨P, 4, none⟩ = false := pfrz hrow
      have c5 : wr.cell? ⟨P, 5, none⟩ = some (.int .i64 (n : Int)) := cell_of_row _ _ 5 _ _ (0, 0) hrow
      have f5 : wr.frozen? ⟨P, 5, none⟩ = false := pfrz hrow
      have c6 : wr.cell? ⟨P, 6, none⟩ = some (.bool false) := cell_of_row _ _ 6 _ _ (0, 0) hrow
      have f6 : wr.frozen? ⟨P, 6, none⟩ = false := pfrz hrow
      clear hrow
      go_upto_region 0 with fail
      refine wp_region_quiet_lex (by kernel_rfl) (by kernel_rfl) ?_
      repeat (go_big_quiet_step ((go_at_call 30; with_reducible exact Calls.quiet_of_same (HCALL.out _))))
      refine wpQuiet_nil ?_
      intro _ hw'
      obtain ⟨nq, hw''⟩ := hw'
      subst hw''
      go_wp2_with fail
      have hiq := HIQ.out
      have hqz := HQZ.out
      go_region
      go_end0
      refine ⟨by first | rfl | trivial, ?_, ?_⟩
      · have hr := HR.out
        unfold PRow at hr ⊢
        refine PRow.set 4 _ (prow_drew _ hr) ?_
        rw [← HE.out, ← HQ.out]
        simp
      · exact grown_trans HG.out (grown_trans (grown_drewN wr _ (some P)) (grown_set _ _ _ _))
set_option maxHeartbeats 4000000 in
theorem span_letter (s : ByteArray) (P i m kd n : Nat) (tx : ByteArray) (w : World) (h : PRow w P s i i kd tx n false) (hm : i + m ≤ s.size) (hs : s.size ≤ 1000000) (h1 : ∀ j, j < m → ∃ c, s.data.toList[i + j]? = some c ∧ Wm.lettr c = true) (h2 : i + m = s.size ∨ (i + m < s.size ∧ ∃ c, s.data.toList[i + m]? = some c ∧ Wm.lettr c = false)) :
    Calls Tryd.prog 47 #[.pointer (some ⟨P, 0, none⟩), .func (.func 28) #[] #[]] w fun e w' => e = .returned (.tuple #[]) ∧ PRow w' P s (i + m) i kd (s.extract i (i + m)) n false ∧ w.grownBy w' (some P) := by
  have H1 := Lib.hid h1
  have H2 := Lib.hid h2
  have HF := Lib.hid isletter_any
  have HP := Lib.hid h
  have HS := Lib.hid hs
  have HM := Lib.hid hm
  obtain ⟨sz, hsz⟩ : ∃ z, s.size = z := ⟨_, rfl⟩
  have HSZ := Lib.hid hsz
  clear h1 h2 h hs hm hsz
  have HG0 : Hid (w.grownBy w (some P)) := Lib.hid ⟨rfl, rfl, rfl, Nat.le_refl _, fun _ _ _ => rfl⟩
  go_enter Tryd.func47, Tryd.ntmps47
  go_wp2_with fail
  go_loopw [26] (fun _ wr => ∃ (j : Nat), Hid (j ≤ m) ∧ Hid (PRow wr P s (i + j) i kd tx n false) ∧ Hid (w.grownBy wr (some P))) (fun _ wr => i + m - nxOf wr P)
  case atStart => exact ⟨0, Lib.hid (Nat.zero_le _), HP, HG0⟩
  case round =>
    obtain ⟨j, HJ, HR, HG⟩ := hrel
    have HMM := Lib.hid (nxOf_is (show wr.cell? ⟨P, 1, none⟩ = some (.int .i64 ((i + j : Nat) : Int)) from cell_of_row _ _ 1 _ _ (0, 0) HR.out))
    have hrow := HR.out
    unfold PRow at hrow
    obtain ⟨q, hq⟩ : ∃ q, i + j = q := ⟨_, rfl⟩
    have HQ := Lib.hid hq
    rw [hq] at hrow
    have hq6 : q ≤ 1000000 := by have := HJ.out; have := HM.out; have := HS.out; omega
    rcases (show j < m ∨ (j = m ∧ i + m = s.size) ∨ (j = m ∧ i + m < s.size) from by have := HJ.out; rcases H2.out with h | ⟨h, _⟩ <;> omega) with hc | hc | hc
    · obtain ⟨c, hc1, hc2⟩ := H1.out j hc
      rw [hq] at hc1
      have hix := fun (T : TypeId) (hT : Tryd.prog.underlying T = some .string) => run_byte hT hc1
      have hx9 := hix _ Tryd.underlying9
      have HC2 := Lib.hid hc2
      have HC := Lib.hid hc
      have hsl : q < s.size := by have := HM.out; omega
      rw [HSZ.out] at hsl
      have hcall : ∀ W, Calls Tryd.prog 28 #[.int .u8 (c.toNat : Int)] W fun e w' => e = .returned (.bool true) ∧ w' = W := fun W => (HF.out c W).mono fun e w' h => ⟨by rw [h.1, HC2.out], h.2⟩
      have HCALL := Lib.hid hcall
      have d1 : decide ((q : Int) < (sz : Int)) = true := decide_eq_true (by omega)
      have d2 : decide (q < sz) = true := decide_eq_true (by omega)
      have hszz := HSZ.out
      clear hix hc1 hc2 hq hcall hc
      have c0 : wr.cell? ⟨P, 0, none⟩ = some (.string s) := cell_of_row _ _ 0 _ _ (0, 0) hrow
      have f0 : wr.frozen? ⟨P, 0, none⟩ = false := pfrz hrow
      have c1 : wr.cell? ⟨P, 1, none⟩ = some (.int .i64 (q : Int)) := cell_of_row _ _ 1 _ _ (0, 0) hrow
      have f1 : wr.frozen? ⟨P, 1, none⟩ = false := pfrz hrow
      have c2 : wr.cell? ⟨P, 2, none⟩ = some (.int .i64 (i : Int)) := cell_of_row _ _ 2 _ _ (0, 0) hrow
      have f2 : wr.frozen? ⟨P, 2, none⟩ = false := pfrz hrow
      have c3 : wr.cell? ⟨P, 3, none⟩ = some (.int .u8 (kd : Int)) := cell_of_row _ _ 3 _ _ (0, 0) hrow
      have f3 : wr.frozen? ⟨P, 3, none⟩ = false := pfrz hrow
      have c4 : wr.cell? ⟨P, 4, none⟩ = some (.string tx) := cell_of_row _ _ 4 _ _ (0, 0) hrow
      have f4 : wr.frozen? ⟨P, 4, none⟩ = false := pfrz hrow
      have c5 : wr.cell? ⟨P, 5, none⟩ = some (.int .i64 (n : Int)) := cell_of_row _ _ 5 _ _ (0, 0) hrow
      have f5 : wr.frozen? ⟨P, 5, none⟩ = false := pfrz hrow
      have c6 : wr.cell? ⟨P, 6, none⟩ = some (.bool false) := cell_of_row _ _ 6 _ _ (0, 0) hrow
      have f6 : wr.frozen? ⟨P, 6, none⟩ = false := pfrz hrow
      clear hrow
      go_upto_region 0 with fail
      refine wp_region_quiet_lex (by kernel_rfl) (by kernel_rfl) ?_
      repeat (go_big_quiet_step ((go_at_call 28; with_reducible exact Calls.quiet_of_same (HCALL.out _))))
      refine wpQuiet_nil ?_
      intro _ hw'
      obtain ⟨nq, hw''⟩ := hw'
      subst hw''
      go_wp2_with fail
      go_roundw
      case rel =>
        refine ⟨j + 1, Lib.hid HC.out, Lib.hid ?_, Lib.hid (grown_trans HG.out (grown_trans (grown_drewN wr nq (some P)) (grown_set _ _ _ _)))⟩
        have hr := HR.out
        unfold PRow at hr ⊢
        refine PRow.set 1 _ (prow_drew nq hr) ?_
        have := HQ.out
        simp
        omega
      case measure =>
        have e1 : nxOf ((wr.drewN nq).setCell ⟨P, 1, none⟩ (.int .i64 ((q : Int) + 1))) P = q + 1 := by
          refine nxOf_is (q := .i64) ?_
          have hr := HR.out
          unfold PRow at hr
          refine cell_of_row _ _ 1 _ _ (0, 0) (PRow.set 1 _ (prow_drew nq hr) rfl)
        rw [e1, HMM.out]
        have := HC.out
        have := HQ.out
        omega
    · obtain ⟨rfl, hend⟩ := hc
      have hqs : q = sz := by have := HSZ.out; omega
      have d1 : decide ((q : Int) < (sz : Int)) = false := decide_eq_false (by omega)
      have d2 : decide (q < sz) = false := decide_eq_false (by omega)
      have HIQ : Hid (i ≤ q) := Lib.hid (by omega)
      have HQZ : Hid (q ≤ sz) := Lib.hid (by omega)
      have hszz := HSZ.out
      have HE : Hid (s.extract i q = s.extract i (i + j)) := Lib.hid (by rw [HQ.out])
      (try clear hqs)
      clear hend hq
      have c0 : wr.cell? ⟨P, 0, none⟩ = some (.string s) := cell_of_row _ _ 0 _ _ (0, 0) hrow
      have f0 : wr.frozen? ⟨P, 0, none⟩ = false := pfrz hrow
      have c1 : wr.cell? ⟨P, 1, none⟩ = some (.int .i64 (q : Int)) := cell_of_row _ _ 1 _ _ (0, 0) hrow
      have f1 : wr.frozen? ⟨P, 1, none⟩ = false := pfrz hrow
      have c2 : wr.cell? ⟨P, 2, none⟩ = some (.int .i64 (i : Int)) := cell_of_row _ _ 2 _ _ (0, 0) hrow
      have f2 : wr.frozen? ⟨P, 2, none⟩ = false := pfrz hrow
      have c3 : wr.cell? ⟨P, 3, none⟩ = some (.int .u8 (kd : Int)) := cell_of_row _ _ 3 _ _ (0, 0) hrow
      have f3 : wr.frozen? ⟨P, 3, none⟩ = false := pfrz hrow
      have c4 : wr.cell? ⟨P, 4, none⟩ = some (.string tx) := cell_of_row _ _ 4 _ _ (0, 0) hrow
      have f4 : wr.frozen? ⟨P, 4, none⟩ = false := pfrz hrow
      have c5 : wr.cell? ⟨P, 5, none⟩ = some (.int .i64 (n : Int)) := cell_of_row _ _ 5 _ _ (0, 0) hrow
      have f5 : wr.frozen? ⟨P, 5, none⟩ = false := pfrz hrow
      have c6 : wr.cell? ⟨P, 6, none⟩ = some (.bool false) := cell_of_row _ _ 6 _ _ (0, 0) hrow
      have f6 : wr.frozen? ⟨P, 6, none⟩ = false := pfrz hrow
      clear hrow
      go_upto_region 0 with fail
      refine wp_region_quiet_lex (by kernel_rfl) (by kernel_rfl) ?_
      repeat (go_big_quiet_step (fail))
      refine wpQuiet_nil ?_
      intro _ hw'
      obtain ⟨nq, hw''⟩ := hw'
      subst hw''
      go_wp2_with fail
      have hiq := HIQ.out
      have hqz := HQZ.out
      go_region
      go_end0
      refine ⟨by first | rfl | trivial, ?_, ?_⟩
      · have hr := HR.out
        unfold PRow at hr ⊢
        refine PRow.set 4 _ (prow_drew _ hr) ?_
        rw [← HE.out, ← HQ.out]
        simp
      · exact grown_trans HG.out (grown_trans (grown_drewN wr _ (some P)) (grown_set _ _ _ _))
    · obtain ⟨rfl, hend⟩ := hc
      obtain ⟨c, hc1, hc2⟩ : ∃ c, s.data.toList[i + j]? = some c ∧ Wm.lettr c = false := by
        rcases H2.out with h | ⟨_, h⟩
        · omega
        · exact h
      rw [hq] at hc1
      have hix := fun (T : TypeId) (hT : Tryd.prog.underlying T = some .string) => run_byte hT hc1
      have hx9 := hix _ Tryd.underlying9
      have HC2 := Lib.hid hc2
      have hsl : q < sz := by have := HSZ.out; omega
      have hcall : ∀ W, Calls Tryd.prog 28 #[.int .u8 (c.toNat : Int)] W fun e w' => e = .returned (.bool false) ∧ w' = W := fun W => (HF.out c W).mono fun e w' h => ⟨by rw [h.1, HC2.out], h.2⟩
      have HCALL := Lib.hid hcall
      have d1 : decide ((q : Int) < (sz : Int)) = true := decide_eq_true (by omega)
      have d2 : decide (q < sz) = true := decide_eq_true (by omega)
      clear hix hc1 hc2 hcall
      have HIQ : Hid (i ≤ q) := Lib.hid (by omega)
      have HQZ : Hid (q ≤ sz) := Lib.hid (by omega)
      have hszz := HSZ.out
      have HE : Hid (s.extract i q = s.extract i (i + j)) := Lib.hid (by rw [HQ.out])
      (try clear hqs)
      clear hend hq
      have c0 : wr.cell? ⟨P, 0, none⟩ = some (.string s) := cell_of_row _ _ 0 _ _ (0, 0) hrow
      have f0 : wr.frozen? ⟨P, 0, none⟩ = false := pfrz hrow
      have c1 : wr.cell? ⟨P, 1, none⟩ = some (.int .i64 (q : Int)) := cell_of_row _ _ 1 _ _ (0, 0) hrow
      have f1 : wr.frozen? ⟨P, 1, none⟩ = false := pfrz hrow
      have c2 : wr.cell? ⟨P, 2, none⟩ = some (.int .i64 (i : Int)) := cell_of_row _ _ 2 _ _ (0, 0) hrow
      have f2 : wr.frozen? ⟨P, 2, none⟩ = false := pfrz hrow
      have c3 : wr.cell? ⟨P, 3, none⟩ = some (.int .u8 (kd : Int)) := cell_of_row _ _ 3 _ _ (0, 0) hrow
      have f3 : wr.frozen? ⟨P, 3, none⟩ = false := pfrz hrow
      have c4 : wr.cell? ⟨P, 4, none⟩ = some (.string tx) := cell_of_row _ _ 4 _ _ (0, 0) hrow
      have f4 : wr.frozen? ⟨P, 4, none⟩ = false := pfrz hrow
      have c5 : wr.cell? ⟨P, 5, none⟩ = some (.int .i64 (n : Int)) := cell_of_row _ _ 5 _ _ (0, 0) hrow
      have f5 : wr.frozen? ⟨P, 5, none⟩ = false := pfrz hrow
      have c6 : wr.cell? ⟨P, 6, none⟩ = some (.bool false) := cell_of_row _ _ 6 _ _ (0, 0) hrow
      have f6 : wr.frozen? ⟨P, 6, none⟩ = false := pfrz hrow
      clear hrow
      go_upto_region 0 with fail
      refine wp_region_quiet_lex (by kernel_rfl) (by kernel_rfl) ?_
      repeat (go_big_quiet_step ((go_at_call 28; with_reducible exact Calls.quiet_of_same (HCALL.out _))))
      refine wpQuiet_nil ?_
      intro _ hw'
      obtain ⟨nq, hw''⟩ := hw'
      subst hw''
      go_wp2_with fail
      have hiq := HIQ.out
      have hqz := HQZ.out
      go_region
      go_end0
      refine ⟨by first | rfl | trivial, ?_, ?_⟩
      · have hr := HR.out
        unfold PRow at hr ⊢
        refine PRow.set 4 _ (prow_drew _ hr) ?_
        rw [← HE.out, ← HQ.out]
        simp
      · exact grown_trans HG.out (grown_trans (grown_drewN wr _ (some P)) (grown_set _ _ _ _))
end Go.Proofs.YtgiahfjndononaaDoor
