/- QuantBusy. -/
import Derived.Test.YtkhhcnpmobgdgaaDoorBzh
namespace Go.Proofs.YtkhhcnpmobgdgaaDoor
open Go.RowKit
set_option linter.unusedVariables false
set_option linter.unusedSimpArgs false
set_option maxRecDepth 100000

/-- quant.Busy, as the document's is told. -/
theorem busy_rd (A : Option Addr) (l : List Rw) (n c B : Nat) (lv mx : Int) (W : World) (hn : n = l.length) (hr : Rd W B A (l.flatMap Rw.cells)) (hB : B ≤ W.heap.size) (hok : okRz l) (hsz : ∀ r ∈ l, r.k.sv.size ≤ 60 ∧ r.k.op.size ≤ 60) (hsm : n ≤ 1000) (K : Nat) (E : List Bz) (hE : E = topB mx (srtB (aggB lv l))) (hK : K = E.length) :
    Calls Tryd.prog 30 #[.slice A n c, .int .i64 lv, .int .i64 mx] W fun e w' => ∃ (A' : Option Addr) (c' : Nat), e = .returned (.slice A' K c') ∧ Rd w' w'.heap.size A' (E.flatMap Bz.cells) ∧ K ≤ c' ∧ Below W.heap.size W w' := by
  refine (busy_any A l n c B lv mx W hn hr hB hok hsz hsm).mono ?_
  rintro e w' ⟨v', rfl, ho, hb⟩
  rw [← hE, ← hK] at ho
  obtain ⟨A', c', rfl, hc, hrd⟩ := own_rd ho
  exact ⟨A', c', rfl, hrd, hc, hb⟩
theorem dbusy_rd (A : Option Addr) (l : List Rw) (n c B : Nat) (lv mx : Int) (W : World) (hn : n = l.length) (hr : Rd W B A (l.flatMap Rw.cells)) (hB : B ≤ W.heap.size) (hok : okRz l) (hsm : n ≤ 1000) (K : Nat) (E : List Bz) (hE : E = topB mx (srtB (aggB lv l))) (hK : K = E.length) :
    Calls Tryd.prog 31 #[.slice A n c, .int .i64 lv, .int .i64 mx] W fun e w' => ∃ (A' : Option Addr) (c' : Nat), e = .returned (.slice A' K c') ∧ Rd w' w'.heap.size A' (E.flatMap Bz.cells) ∧ K ≤ c' ∧ Below W.heap.size W w' := by
  refine (dbusy_any A l n c B lv mx W hn hr hB hok hsm).mono ?_
  rintro e w' ⟨A', c', rfl, hrd, hc, hb⟩
  rw [← hE] at hrd hc ⊢
  rw [← hK] at hc ⊢
  exact ⟨A', c', rfl, hrd, hc, hb⟩
theorem top_len (mx : Int) (lv : Int) (l : List Rw) : (topB mx (srtB (aggB lv l))).length ≤ l.length := by
  unfold topB
  rw [List.length_take, srtB_len]
  have := aggB_len lv l
  omega
set_option maxHeartbeats 16000000 in
theorem quantbusy31 (lA : Option Addr) (l : List Rw) (ln lc : Nat) (lv mx : Int) (w : World) (hln : ln = l.length) (hl : Rd w w.heap.size lA (l.flatMap Rw.cells)) (hok : okRz l) (T : Lows w) :
    Calls Tryd.prog 8 #[.slice lA ln lc, .int .i64 lv, .int .i64 mx] w fun e w' => e = .returned (.bool true) ∧ Below w.heap.size w w' := by
  have HL := Lib.hid hl
  have HLN := Lib.hid hln
  have HOK := Lib.hid hok
  obtain ⟨base, hbase⟩ : ∃ base, base = w.heap.size := ⟨_, rfl⟩
  have HBASE := Lib.hid hbase
  have AL := Lib.hid (alive31_calls w T)
  clear hl hln hok hbase T
  obtain ⟨b1, hb1⟩ : ∃ b1, b1 = decide (80 < ln) := ⟨_, rfl⟩
  have d1 : decide (80 < ln) = b1 := hb1.symm
  have d1' : decide ((80 : Int) < (ln : Int)) = b1 := by rw [hb1]; exact decide_eq_decide.2 (by omega)
  cases b1
  · have hn80 : ln ≤ 80 := by have := of_decide_eq_false d1; omega
    clear hb1
    go_enter Tryd.func8, Tryd.ntmps8
    go_upto_region 5 with (go_at_call 28; (with_reducible refine AL.out.mono ?_); rintro ex w2 ⟨rfl, hb2⟩; have HB2 := Lib.hid hb2; clear hb2)
    clear d1 d1' AL
    have HRL := Lib.hid ((HL.out.below HB2.out).more HB2.out.size)
    go_loopw [8] (fun v wq => ∃ k : Nat, v = .int .i64 (k : Int) ∧ k ≤ ln ∧ Hid (∀ r ∈ l.take k, r.k.sv.size ≤ 60 ∧ r.k.op.size ≤ 60) ∧ Hid (Below w2.heap.size w2 wq)) (fun v _ => ln - (intOf v).toNat)
    case atStart => exact ⟨0, rfl, Nat.zero_le _, Lib.hid (fun r hr => by simp at hr), Lib.hid (Below.refl _ _)⟩
    case round =>
      obtain ⟨k, rfl, hk, HSZ, HW⟩ := hrel
      by_cases hlt : k < ln
      · obtain ⟨r, hr⟩ : ∃ r, l[k]? = some r := ⟨_, List.getElem?_eq_getElem (by rw [← HLN.out]; exact hlt)⟩
        obtain ⟨a, ha, _, d0, d1, d2, d3, d4, d5, d6, d7, d8, d9, d10, d11, d12, d13⟩ := row_cells (HRL.out.below HW.out) hr
        subst ha
        have HTK := Lib.hid (show r.k.sv.size ≤ 60 → r.k.op.size ≤ 60 → ∀ x ∈ l.take (k + 1), x.k.sv.size ≤ 60 ∧ x.k.op.size ≤ 60 from fun h1 h2 x hx => by
          rw [List.take_add_one, hr] at hx
          rcases List.mem_append.1 hx with h | h
          · exact HSZ.out x h
          · simp at h; subst h; exact ⟨h1, h2⟩)
        obtain ⟨⟨flv, fwi, fsv, fop⟩, fct⟩ := r
        simp only at d0 d1 d2 d3 d4 d5 d6 d7 d8 d9 d10 d11 d12 d13 HTK
        have i0 : (0 : Int) ≤ (k : Int) := by omega
        have i1 : (k : Int) < (ln : Int) := by omega
        have HKN := Lib.hid hlt
        clear hr hlt d0 d1 d4 d5 d6 d7 d8 d9 d10 d11 d12 d13
        by_cases hs1 : 60 < fsv.size
        · have e1 : decide (60 < fsv.size) = true := decide_eq_true hs1
          have e1' : decide ((60 : Int) < (fsv.size : Int)) = true := decide_eq_true (by omega)
          clear hs1 HTK
          go_wp2_with fail
          go_ret
          exact ⟨rfl, HB2.out.trans (HW.out.mono HB2.out.size)⟩
        · have e1 : decide (60 < fsv.size) = false := decide_eq_false hs1
          have e1' : decide ((60 : Int) < (fsv.size : Int)) = false := decide_eq_false (by omega)
          by_cases hs2 : 60 < fop.size
          · have e2 : decide (60 < fop.size) = true := decide_eq_true hs2
            have e2' : decide ((60 : Int) < (fop.size : Int)) = true := decide_eq_true (by omega)
            clear hs1 hs2 HTK
            go_wp2_with fail
            go_ret
            exact ⟨rfl, HB2.out.trans (HW.out.mono HB2.out.size)⟩
          · have e2 : decide (60 < fop.size) = false := decide_eq_false hs2
            have e2' : decide ((60 : Int) < (fop.size : Int)) = false := decide_eq_false (by omega)
            have HS2 := Lib.hid (HTK.out (by omega) (by omega))
            clear hs1 hs2 HTK
            go_wp2_with fail
            go_roundw
            case rel => exact ⟨k + 1, by go_num, HKN.out, HS2, HW⟩
            case measure => have := HKN.out; simp [intOf]; omega
      · obtain rfl : k = ln := by omega
        have htk : l.take k = l := List.take_of_length_le (by rw [← HLN.out]; exact Nat.le_refl _)
        rw [htk] at HSZ
        have HRX := Lib.hid ((HRL.out.below HW.out).more HW.out.size)
        obtain ⟨E, hE⟩ : ∃ E, E = topB mx (srtB (aggB lv l)) := ⟨_, rfl⟩
        obtain ⟨K, hK⟩ : ∃ K, K = E.length := ⟨_, rfl⟩
        have HE := Lib.hid hE
        have HK := Lib.hid hK
        have HKL := Lib.hid (show K ≤ k from by rw [hK, hE, HLN.out]; exact top_len mx lv l)
        have APP := Lib.hid (fun ty => appRw (ty := ty) (c := lc) (base := wr.heap.size) (n := 0) (L := []) (World.ownsRow_nil wr wr.heap.size 48 14) (K := l) HRX.out HLN.out (by omega) (Nat.le_refl _))
        clear htk hlt hE hK hk
        go_wp2_with (first
          | (go_at_call 29; (with_reducible refine (samebusy_same a9 a10 E K c9 c10 w10.heap.size w10 HK.out R9.out R10.out (Nat.le_refl _) (by have := HKL.out; omega)).mono ?_); rintro ex w11 ⟨rfl, hb11⟩; have HB11 := Lib.hid hb11; clear hb11)
          | (go_at_call 31; (with_reducible refine (dbusy_rd lA l k lc w9.heap.size lv mx w9 HLN.out ((HRX.out.below HX9.out).more HX9.out.size) (Nat.le_refl _) HOK.out (by omega) K E HE.out HK.out).mono ?_); rintro ex w10 ⟨a10, c10, rfl, hr10, hc10, hb10⟩; have R10 := Lib.hid hr10; have R9 := Lib.hid ((R9.out.below hb10).more hb10.size); have HX10 := Lib.hid (HX9.out.trans (hb10.mono HX9.out.size)); clear hr10 hc10 hb10)
          | (go_at_call 30; (with_reducible refine (busy_rd zA l k zc w8.heap.size lv mx w8 HLN.out HRZ.out (Nat.le_refl _) HOK.out HSZ.out (by omega) K E HE.out HK.out).mono ?_); rintro ex w9 ⟨a9, c9, rfl, hr9, hc9, hb9⟩; have R9 := Lib.hid hr9; have HX9 := Lib.hid (HX8.out.trans (hb9.mono HX8.out.size)); clear hr9 hc9 hb9)
          | (at_builtin; refine wpList_app rfl _ _ _ _ rfl rfl rfl (APP.out _) ?_; rintro v8 w8 ⟨ho8, hg8⟩; have HX8 := Lib.hid hg8.new; rw [Nat.zero_add, List.nil_append] at ho8; obtain ⟨zA, zc, hz, _, hrz⟩ := own_rd ho8; subst hz; have HRZ := Lib.hid hrz; clear ho8 hg8 hrz))
        go_ret
        exact ⟨rfl, HB2.out.trans ((HW.out.trans ((HX10.out.trans (HB11.out.mono HX10.out.size)).mono HW.out.size)).mono HB2.out.size)⟩
  · clear hb1
    go_enter Tryd.func8, Tryd.ntmps8
    go_wp2_with (go_at_call 28; (with_reducible refine AL.out.mono ?_); rintro ex w2 ⟨rfl, hb2⟩; have HB2 := Lib.hid hb2; clear hb2)
    go_ret
    exact ⟨rfl, HB2.out⟩
end Go.Proofs.YtkhhcnpmobgdgaaDoor
