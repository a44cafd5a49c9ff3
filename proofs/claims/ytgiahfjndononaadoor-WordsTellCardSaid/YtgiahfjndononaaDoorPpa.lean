/- The document's next: the token ahead. -/
import Derived.Test.YtgiahfjndononaaDoorPoz
namespace Go.Proofs.YtgiahfjndononaaDoor
open Go.RowKit
set_option linter.unusedVariables false
set_option linter.unusedSimpArgs false
set_option maxRecDepth 100000

def DRow (w : World) (P : Nat) (s : ByteArray) (a : Nat) (b : Int) : Prop := w.heap[P]? = some (.cells #[.string s, .int .i64 (a : Int), .int .i64 b] 47)
/-- What next hands back. -/
def NextOf (s : ByteArray) (t : Wm.Tk) (w : World) (e : Ending) (w' : World) : Prop :=
  e = .returned (.tuple #[.int .i64 (t.kind : Int), .string (S8 t.say), .int .i64 ((s.size - t.from_.length : Nat) : Int), .int .i64 ((s.size - t.rest.length : Nat) : Int)]) ∧ Below w.heap.size w w'
theorem next_end {s : ByteArray} {t : Wm.Tk} {w w' : World} {k : Int} {sv : ByteArray} {a b : Nat} (hk : (t.kind : Int) = k) (hs : S8 t.say = sv) (ha : s.size - t.from_.length = a) (hb : s.size - t.rest.length = b) (hw : Below w.heap.size w w') : NextOf s t w (.returned (.tuple #[.int .i64 k, .string sv, .int .i64 (a : Int), .int .i64 (b : Int)])) w' := by
  subst hk hs ha hb
  exact ⟨rfl, hw⟩
set_option maxHeartbeats 16000000 in
theorem next_any (s : ByteArray) (L : List UInt8) (P i : Nat) (b : Int) (w : World) (hL : s.data.toList = L) (h : DRow w P s i b) (hi : i ≤ s.size) (hs : s.size ≤ 1000000) :
    Calls Tryd.prog 21 #[.pointer (some ⟨P, 0, none⟩)] w (NextOf s (Wm.tok (L.drop i)) w) := by
  have hlen := list_len s L hL
  rw [tok_drop]
  have H1 := Lib.hid (drop_take Wm.blank L i)
  have H2 := Lib.hid (drop_stop Wm.blank L i (by omega))
  have HM := Lib.hid (drop_len Wm.blank L i (by omega))
  generalize ((L.drop i).takeWhile Wm.blank).length = m at *
  obtain ⟨sz, hsz⟩ : ∃ z, s.size = z := ⟨_, rfl⟩
  have HLEN := Lib.hid (hlen.trans hsz)
  have HLL := Lib.hid hL
  have HP := Lib.hid h
  rw [hsz] at hi hs
  have HS := Lib.hid hs
  obtain ⟨tk, htk⟩ : ∃ t, Wm.tok1 (L.drop (i + m)) = t := ⟨_, rfl⟩
  have HTK := Lib.hid htk
  rw [htk]
  obtain ⟨PO, hPO⟩ : ∃ PO, NextOf s tk w = PO := ⟨_, rfl⟩
  have HPO := Lib.hid hPO
  rw [hPO]
  have hrow := h
  unfold DRow at hrow
  have c1 : w.cell? ⟨P, 1, none⟩ = some (.int .i64 (i : Int)) := cell_of_row _ _ 1 _ _ (0, 0) hrow
  have HW0 : Hid (Below w.heap.size w w) := Lib.hid (Below.refl _ _)
  clear hrow h hlen hL hi hs htk hPO
  unfold DRow at HP
  go_enter Tryd.func21, Tryd.ntmps21
  go_wp2_with fail
  go_loopw [6] (fun x wr => ∃ (j : Nat), Hid (j ≤ m) ∧ x = .int .i64 ((i + j : Nat) : Int) ∧ Hid (Below w.heap.size w wr)) (fun x _ => i + m - (intOf x).toNat)
  case atStart => exact ⟨0, Lib.hid (Nat.zero_le _), by first | rfl | simp, HW0⟩
  case round =>
    obtain ⟨j, HJ, rfl, HW⟩ := hrel
    obtain ⟨q, hq⟩ : ∃ q, i + j = q := ⟨_, rfl⟩
    have HQ := Lib.hid hq
    rw [hq]
    have hq6 : q ≤ 1000000 := by have := HJ.out; have := HM.out; have := HS.out; have := HLEN.out; omega
    have hrow := (HW.out.block _ (in_heap HP.out)).trans HP.out
    have c0 : wr.cell? ⟨P, 0, none⟩ = some (.string s) := cell_of_row _ _ 0 _ _ (0, 0) hrow
    clear hrow c1
    rcases (show j < m ∨ (j = m ∧ i + m = L.length) ∨ (j = m ∧ i + m < L.length) from by have := HJ.out; rcases H2.out with h | ⟨h, _⟩ <;> omega) with hc | hc | hc
    · obtain ⟨c, hc1, hc2⟩ := H1.out j hc
      rw [hq] at hc1
      have hx9 := run_byte (T := 9) Tryd.underlying9 (show s.data.toList[q]? = some c from by rw [HLL.out]; exact hc1)
      have HC := Lib.hid hc
      have hqs : q < sz := by have := HM.out; have := HLEN.out; omega
      have d1 : decide ((q : Int) < (sz : Int)) = true := decide_eq_true (by omega)
      have d2 : decide (q < sz) = true := decide_eq_true (by omega)
      have hcc : ((c.toNat : Int) == 32) = true ∨ (((c.toNat : Int) == 32) = false ∧ ((c.toNat : Int) == 10) = true) := by
        unfold Wm.blank at hc2
        rw [Bool.or_eq_true, beq_iff_eq, beq_iff_eq] at hc2
        rcases hc2 with rfl | rfl
        · exact .inl rfl
        · exact .inr ⟨rfl, rfl⟩
      clear hc1 hc2 hq hc
      generalize (c.toNat : Int) = cz at *
      rcases hcc with g1 | ⟨g1, g2⟩
      all_goals
        go_wp2_with fail
        go_roundw
        case rel => exact ⟨j + 1, Lib.hid HC.out, by have := HQ.out; go_num, HW⟩
        case measure => have := HQ.out; have := HC.out; simp [intOf]; omega
    · obtain ⟨hj, hend⟩ := hc
      have HQS : Hid (q = sz) := Lib.hid (by have := HLEN.out; omega)
      have d1 : decide ((q : Int) < (sz : Int)) = false := decide_eq_false (by have := HQS.out; omega)
      have d2 : decide (q < sz) = false := decide_eq_false (by have := HQS.out; omega)
      have k1 : ((q : Int) == (sz : Int)) = true := by rw [beq_iff_eq]; have := HQS.out; omega
      have k2 : (q == sz) = true := by rw [beq_iff_eq]; have := HQS.out; omega
      have HTE : Hid (tk = ⟨0, [], [], []⟩) := Lib.hid (by rw [← HTK.out, List.drop_eq_nil_of_le (by omega)]; rfl)
      have HE : Hid (∀ w', Below w.heap.size w w' → NextOf s tk w (.returned (.tuple #[.int .i64 0, .string ⟨#[]⟩, .int .i64 ((sz : Nat) : Int), .int .i64 ((sz : Nat) : Int)])) w') := Lib.hid (fun w' hb => by
        rw [HTE.out]
        exact next_end rfl rfl (by rw [hsz]; rfl) (by rw [hsz]; rfl) hb)
      clear hend hj hq
      obtain rfl := HQS.out
      go_wp2_with fail
      refine bodyPost_ret (v := .tuple #[.int .i64 0, .string ⟨#[]⟩, .int .i64 ((q : Nat) : Int), .int .i64 ((q : Nat) : Int)]) (by simp [results, Tryd.results21, go_sem]) rfl ?_
      rw [← HPO.out]
      first | exact HE.out _ HW.out | exact HE.out _ (HW.out.trans ⟨rfl, rfl, rfl, Nat.le_refl _, fun _ _ => rfl⟩)
    · obtain ⟨hj, hend⟩ := hc
      obtain ⟨c, hc1, hc2⟩ : ∃ c, L[i + m]? = some c ∧ Wm.blank c = false := by
        rcases H2.out with h | ⟨_, h⟩
        · omega
        · exact h
      have hqe : i + m = q := by omega
      rw [hqe] at hc1 HTK
      have hx9 := run_byte (T := 9) Tryd.underlying9 (show s.data.toList[q]? = some c from by rw [HLL.out]; exact hc1)
      have hqs : q < sz := by have := HLEN.out; omega
      have d1 : decide ((q : Int) < (sz : Int)) = true := decide_eq_true (by omega)
      have d2 : decide (q < sz) = true := decide_eq_true (by omega)
      have k1 : ((q : Int) == (sz : Int)) = false := by rw [beq_eq_false_iff_ne]; omega
      have k2 : (q == sz) = false := by rw [beq_eq_false_iff_ne]; omega
      have HDR := Lib.hid (drop_at hc1)
      have HSUB := Lib.hid (sub8 HLL.out hc1)
      have e : ∀ d : UInt8, c ≠ d → ((c.toNat : Int) == (d.toNat : Int)) = false := fun d h => by rw [beq_eq_false_iff_ne]; intro e; exact h (by rw [← UInt8.toNat_inj]; omega)
      have b32 : ((c.toNat : Int) == 32) = false := e 32 (fun h => by subst h; exact absurd hc2 (by decide))
      have b10 : ((c.toNat : Int) == 10) = false := e 10 (fun h => by subst h; exact absurd hc2 (by decide))
      clear hc1 hc2 hend hj hq
      rcases (show Wm.lettr c = true ∨ (Wm.lettr c = false ∧ Wm.digt c = true) ∨ (Wm.lettr c = false ∧ Wm.digt c = false ∧ Wm.sgn c = true) ∨ (Wm.lettr c = false ∧ Wm.digt c = false ∧ Wm.sgn c = false ∧ c = 34) ∨ (Wm.lettr c = false ∧ Wm.digt c = false ∧ Wm.sgn c = false ∧ c ≠ 34) from by cases Wm.lettr c <;> cases Wm.digt c <;> cases Wm.sgn c <;> by_cases h : c = 34 <;> simp [h]) with hk | ⟨hk1, hk2⟩ | ⟨hk1, hk2, hk3⟩ | ⟨hk1, hk2, hk3, hk4⟩ | ⟨hk1, hk2, hk3, hk4⟩
      · have hcr := HDR.out
        have HK1 := Lib.hid hk
        have HT2 : Hid (tk = ⟨1, (L.drop q).takeWhile Wm.lettr, L.drop q, (L.drop q).dropWhile Wm.lettr⟩) := Lib.hid (by rw [← HTK.out, hcr]; simp only [Wm.tok1, HK1.out, if_true])
        have g0 : decide (97 ≤ (c.toNat : Int)) = true := decide_eq_true (by have := hk; unfold Wm.lettr at this; simp at this; omega)
        have g1 : decide ((c.toNat : Int) ≤ 122) = true := decide_eq_true (by have := hk; unfold Wm.lettr at this; simp at this; omega)
        clear hcr hk
        generalize (c.toNat : Int) = cz at *
        go_wp2_with fail
        have H3 := Lib.hid (drop_take Wm.lettr L q)
        have H4 := Lib.hid (drop_stop Wm.lettr L q (by have := HLEN.out; omega))
        have HM2 := Lib.hid (drop_len Wm.lettr L q (by have := HLEN.out; omega))
        have HSB : Hid ((s.extract q (q + ((L.drop q).takeWhile Wm.lettr).length)) = S8 ((L.drop q).takeWhile Wm.lettr)) := Lib.hid (s8_of (sub_take s L HLL.out Wm.lettr q))
        have HDW : Hid ((L.drop q).dropWhile Wm.lettr = L.drop (q + ((L.drop q).takeWhile Wm.lettr).length)) := Lib.hid (drop_while Wm.lettr L q)
        generalize hm2 : ((L.drop q).takeWhile Wm.lettr).length = m2 at *
        go_loopw [8] (fun x wr => ∃ j : Nat, Hid (j ≤ m2) ∧ x = .int .i64 ((q + j : Nat) : Int) ∧ Hid (Below w.heap.size w wr)) (fun x _ => q + m2 - (intOf x).toNat)
        case atStart => exact ⟨0, Lib.hid (Nat.zero_le _), by first | rfl | simp, HW⟩
        case round =>
          obtain ⟨j, HJ2, rfl, HW⟩ := hrel
          obtain ⟨k, hk⟩ : ∃ k, q + j = k := ⟨_, rfl⟩
          have HK := Lib.hid hk
          rw [hk]
          have hk6 : k ≤ 1000000 := by have := HJ2.out; have := HM2.out; have := HLEN.out; have := HS.out; omega
          have hrow := (HW.out.block _ (in_heap HP.out)).trans HP.out
          have c0 : wr.cell? ⟨P, 0, none⟩ = some (.string s) := cell_of_row _ _ 0 _ _ (0, 0) hrow
          clear hrow
          rcases (show j < m2 ∨ (j = m2 ∧ q + m2 = L.length) ∨ (j = m2 ∧ q + m2 < L.length) from by have := HJ2.out; rcases H4.out with h | ⟨h, _⟩ <;> omega) with hc | hc | hc
          · obtain ⟨b8, hc1, hc2⟩ := H3.out j hc
            rw [hk] at hc1
            have hx8 := run_byte (T := 9) Tryd.underlying9 (show s.data.toList[k]? = some b8 from by rw [HLL.out]; exact hc1)
            have HC := Lib.hid hc
            unfold Wm.lettr at hc2
            simp only [Bool.and_eq_true, decide_eq_true_eq] at hc2
            have g1 : decide (97 ≤ (b8.toNat : Int)) = true := decide_eq_true (by omega)
            have g2 : decide ((b8.toNat : Int) ≤ 122) = true := decide_eq_true (by omega)
            have hksz : k < sz := by have := HLEN.out; have := HM2.out; omega
            have d1 : decide ((k : Int) < (sz : Int)) = true := decide_eq_true (by omega)
            have d2 : decide (k < sz) = true := decide_eq_true (by omega)
            clear hc1 hc2 hk hc
            generalize (b8.toNat : Int) = cz at *
            go_wp2_with fail
            go_roundw
            case rel => exact ⟨j + 1, Lib.hid HC.out, by have := HK.out; go_num, HW⟩
            case measure => have := HK.out; have := HC.out; simp [intOf]; omega
          · obtain ⟨hj, hend⟩ := hc
            have HKE : Hid (k = q + m2) := Lib.hid (by omega)
            have d1 : decide ((k : Int) < (sz : Int)) = false := decide_eq_false (by have := HLEN.out; omega)
            have d2 : decide (k < sz) = false := decide_eq_false (by have := HLEN.out; omega)
            clear hend hk hj
            have HE : Hid (∀ w', Below w.heap.size w w' → NextOf s tk w (.returned (.tuple #[.int .i64 1, .string (s.extract q k), .int .i64 ((q : Nat) : Int), .int .i64 ((k : Nat) : Int)])) w') := Lib.hid (fun w' hb => by
              refine next_end ?_ ?_ ?_ ?_ hb
              · rw [HT2.out]; rfl
              · rw [HT2.out, HKE.out, HSB.out]
              · rw [HT2.out, hsz, List.length_drop]; have := HLEN.out; omega
              · rw [HT2.out, HDW.out, hsz, List.length_drop]; have := HLEN.out; have := HKE.out; have := HM2.out; omega)
            have hqk : q ≤ k := by have := HKE.out; omega
            have hks : k ≤ sz := by have := HKE.out; have := HM2.out; have := HLEN.out; omega
            go_wp2_with fail
            refine wp_region_quiet_lex (by kernel_rfl) (by kernel_rfl) ?_
            repeat (go_big_quiet_step (fail))
            refine wpQuiet_nil ?_
            intro _ hw'
            obtain ⟨nq, hw''⟩ := hw'
            subst hw''
            go_wp2_with fail
            refine bodyPost_ret (v := .tuple #[.int .i64 1, .string (s.extract q k), .int .i64 ((q : Nat) : Int), .int .i64 ((k : Nat) : Int)]) (by simp [results, Tryd.results21, go_sem]) rfl ?_
            rw [← HPO.out]
            first | exact HE.out _ HW.out | exact HE.out _ (HW.out.trans ⟨rfl, rfl, rfl, Nat.le_refl _, fun _ _ => rfl⟩)
          · obtain ⟨hj, hend⟩ := hc
            have HKE : Hid (k = q + m2) := Lib.hid (by omega)
            obtain ⟨b8, hc1, hc2⟩ : ∃ b8, L[q + m2]? = some b8 ∧ Wm.lettr b8 = false := by
              rcases H4.out with h | ⟨_, h⟩
              · omega
              · exact h
            rw [← HKE.out] at hc1
            have hx8 := run_byte (T := 9) Tryd.underlying9 (show s.data.toList[k]? = some b8 from by rw [HLL.out]; exact hc1)
            have hksz : k < sz := by have := HLEN.out; omega
            have d1 : decide ((k : Int) < (sz : Int)) = true := decide_eq_true (by omega)
            have d2 : decide (k < sz) = true := decide_eq_true (by omega)
            have hcc : decide (97 ≤ (b8.toNat : Int)) = false ∨ (decide (97 ≤ (b8.toNat : Int)) = true ∧ decide ((b8.toNat : Int) ≤ 122) = false) := by
              unfold Wm.lettr at hc2
              rw [Bool.and_eq_false_iff, decide_eq_false_iff_not, decide_eq_false_iff_not] at hc2
              rcases hc2 with h | h
              · exact .inl (decide_eq_false (by omega))
              · by_cases h3 : 97 ≤ (b8.toNat : Int)
                · exact .inr ⟨decide_eq_true h3, decide_eq_false (by omega)⟩
                · exact .inl (decide_eq_false h3)
            clear hend hk hj hc1 hc2
            generalize (b8.toNat : Int) = cz at *
            rcases hcc with g1 | ⟨g1, g2⟩
            · skip
              have HE : Hid (∀ w', Below w.heap.size w w' → NextOf s tk w (.returned (.tuple #[.int .i64 1, .string (s.extract q k), .int .i64 ((q : Nat) : Int), .int .i64 ((k : Nat) : Int)])) w') := Lib.hid (fun w' hb => by
                refine next_end ?_ ?_ ?_ ?_ hb
                · rw [HT2.out]; rfl
                · rw [HT2.out, HKE.out, HSB.out]
                · rw [HT2.out, hsz, List.length_drop]; have := HLEN.out; omega
                · rw [HT2.out, HDW.out, hsz, List.length_drop]; have := HLEN.out; have := HKE.out; have := HM2.out; omega)
              have hqk : q ≤ k := by have := HKE.out; omega
              have hks : k ≤ sz := by have := HKE.out; have := HM2.out; have := HLEN.out; omega
              go_wp2_with fail
              refine wp_region_quiet_lex (by kernel_rfl) (by kernel_rfl) ?_
              repeat (go_big_quiet_step (fail))
              refine wpQuiet_nil ?_
              intro _ hw'
              obtain ⟨nq, hw''⟩ := hw'
              subst hw''
              go_wp2_with fail
              refine bodyPost_ret (v := .tuple #[.int .i64 1, .string (s.extract q k), .int .i64 ((q : Nat) : Int), .int .i64 ((k : Nat) : Int)]) (by simp [results, Tryd.results21, go_sem]) rfl ?_
              rw [← HPO.out]
              first | exact HE.out _ HW.out | exact HE.out _ (HW.out.trans ⟨rfl, rfl, rfl, Nat.le_refl _, fun _ _ => rfl⟩)
            · skip
              have HE : Hid (∀ w', Below w.heap.size w w' → NextOf s tk w (.returned (.tuple #[.int .i64 1, .string (s.extract q k), .int .i64 ((q : Nat) : Int), .int .i64 ((k : Nat) : Int)])) w') := Lib.hid (fun w' hb => by
                refine next_end ?_ ?_ ?_ ?_ hb
                · rw [HT2.out]; rfl
                · rw [HT2.out, HKE.out, HSB.out]
                · rw [HT2.out, hsz, List.length_drop]; have := HLEN.out; omega
                · rw [HT2.out, HDW.out, hsz, List.length_drop]; have := HLEN.out; have := HKE.out; have := HM2.out; omega)
              have hqk : q ≤ k := by have := HKE.out; omega
              have hks : k ≤ sz := by have := HKE.out; have := HM2.out; have := HLEN.out; omega
              go_wp2_with fail
              refine wp_region_quiet_lex (by kernel_rfl) (by kernel_rfl) ?_
              repeat (go_big_quiet_step (fail))
              refine wpQuiet_nil ?_
              intro _ hw'
              obtain ⟨nq, hw''⟩ := hw'
              subst hw''
              go_wp2_with fail
              refine bodyPost_ret (v := .tuple #[.int .i64 1, .string (s.extract q k), .int .i64 ((q : Nat) : Int), .int .i64 ((k : Nat) : Int)]) (by simp [results, Tryd.results21, go_sem]) rfl ?_
              rw [← HPO.out]
              first | exact HE.out _ HW.out | exact HE.out _ (HW.out.trans ⟨rfl, rfl, rfl, Nat.le_refl _, fun _ _ => rfl⟩)

      · have hcr := HDR.out
        have HK1 := Lib.hid hk1
        have HK2 := Lib.hid hk2
        have HC48 : Hid (c = 48 ↔ (c.toNat : Int) = 48) := Lib.hid (by rw [← UInt8.toNat_inj]; simp; omega)
        have HT2 : Hid (tk = if (decide (10 < ((L.drop q).takeWhile Wm.digt).length) || (decide (1 < ((L.drop q).takeWhile Wm.digt).length) && c == 48)) = true then ⟨5, [], L.drop q, (L.drop q).dropWhile Wm.digt⟩ else ⟨2, (L.drop q).takeWhile Wm.digt, L.drop q, (L.drop q).dropWhile Wm.digt⟩) := Lib.hid (by rw [← HTK.out, hcr]; simp only [Wm.tok1, HK1.out, HK2.out, if_true, Wm.tokN]; rfl)
        have h57 : (c.toNat : Int) ≤ 57 ∧ 48 ≤ (c.toNat : Int) := by have := hk2; unfold Wm.digt at this; simp at this; omega
        have g0 : decide (97 ≤ (c.toNat : Int)) = false := decide_eq_false (by omega)
        have g1 : decide (48 ≤ (c.toNat : Int)) = true := decide_eq_true (by omega)
        have g2 : decide ((c.toNat : Int) ≤ 57) = true := decide_eq_true (by omega)
        clear hcr hk1 hk2 h57
        obtain ⟨cy, hcy⟩ : ∃ z, (c.toNat : Int) = z := ⟨_, rfl⟩
        rw [hcy] at g0 g1 g2 b32 b10 hx9 HC48
        clear hcy
        go_wp2_with fail
        have H3 := Lib.hid (drop_take Wm.digt L q)
        have H4 := Lib.hid (drop_stop Wm.digt L q (by have := HLEN.out; omega))
        have HM2 := Lib.hid (drop_len Wm.digt L q (by have := HLEN.out; omega))
        have HSB : Hid ((s.extract q (q + ((L.drop q).takeWhile Wm.digt).length)) = S8 ((L.drop q).takeWhile Wm.digt)) := Lib.hid (s8_of (sub_take s L HLL.out Wm.digt q))
        have HDW : Hid ((L.drop q).dropWhile Wm.digt = L.drop (q + ((L.drop q).takeWhile Wm.digt).length)) := Lib.hid (drop_while Wm.digt L q)
        generalize hm2 : ((L.drop q).takeWhile Wm.digt).length = m2 at *
        go_loopw [8] (fun x wr => ∃ j : Nat, Hid (j ≤ m2) ∧ x = .int .i64 ((q + j : Nat) : Int) ∧ Hid (Below w.heap.size w wr)) (fun x _ => q + m2 - (intOf x).toNat)
        case atStart => exact ⟨0, Lib.hid (Nat.zero_le _), by first | rfl | simp, HW⟩
        case round =>
          obtain ⟨j, HJ2, rfl, HW⟩ := hrel
          obtain ⟨k, hk⟩ : ∃ k, q + j = k := ⟨_, rfl⟩
          have HK := Lib.hid hk
          rw [hk]
          have hk6 : k ≤ 1000000 := by have := HJ2.out; have := HM2.out; have := HLEN.out; have := HS.out; omega
          have hrow := (HW.out.block _ (in_heap HP.out)).trans HP.out
          have c0 : wr.cell? ⟨P, 0, none⟩ = some (.string s) := cell_of_row _ _ 0 _ _ (0, 0) hrow
          clear hrow
          rcases (show j < m2 ∨ (j = m2 ∧ q + m2 = L.length) ∨ (j = m2 ∧ q + m2 < L.length) from by have := HJ2.out; rcases H4.out with h | ⟨h, _⟩ <;> omega) with hc | hc | hc
          · obtain ⟨b8, hc1, hc2⟩ := H3.out j hc
            rw [hk] at hc1
            have hx8 := run_byte (T := 9) Tryd.underlying9 (show s.data.toList[k]? = some b8 from by rw [HLL.out]; exact hc1)
            have HC := Lib.hid hc
            unfold Wm.digt at hc2
            simp only [Bool.and_eq_true, decide_eq_true_eq] at hc2
            have g1 : decide (48 ≤ (b8.toNat : Int)) = true := decide_eq_true (by omega)
            have g2 : decide ((b8.toNat : Int) ≤ 57) = true := decide_eq_true (by omega)
            have hksz : k < sz := by have := HLEN.out; have := HM2.out; omega
            have d1 : decide ((k : Int) < (sz : Int)) = true := decide_eq_true (by omega)
            have d2 : decide (k < sz) = true := decide_eq_true (by omega)
            clear hc1 hc2 hk hc
            generalize (b8.toNat : Int) = cz at *
            go_wp2_with fail
            go_roundw
            case rel => exact ⟨j + 1, Lib.hid HC.out, by have := HK.out; go_num, HW⟩
            case measure => have := HK.out; have := HC.out; simp [intOf]; omega
          · obtain ⟨hj, hend⟩ := hc
            have HKE : Hid (k = q + m2) := Lib.hid (by omega)
            have d1 : decide ((k : Int) < (sz : Int)) = false := decide_eq_false (by have := HLEN.out; omega)
            have d2 : decide (k < sz) = false := decide_eq_false (by have := HLEN.out; omega)
            clear hend hk hj
            have hqk : q ≤ k := by have := HKE.out; omega
            have hks : k ≤ sz := by have := HKE.out; have := HM2.out; have := HLEN.out; omega
            rcases (show 10 < m2 ∨ (m2 ≤ 10 ∧ 1 < m2 ∧ c = 48) ∨ (m2 ≤ 10 ∧ m2 ≤ 1 ∧ c = 48) ∨ (m2 ≤ 10 ∧ c ≠ 48) from by by_cases h1 : 10 < m2; exact .inl h1; by_cases h2 : c = 48; rcases Nat.lt_or_ge 1 m2 with h3 | h3; exact .inr (.inl ⟨by omega, h3, h2⟩); exact .inr (.inr (.inl ⟨by omega, h3, h2⟩)); exact .inr (.inr (.inr ⟨by omega, h2⟩))) with hq1 | ⟨hq1, hq2, hq3⟩ | ⟨hq1, hq2, hq3⟩ | ⟨hq1, hq2⟩
            · have e3 : decide (10 < (k : Int) - (q : Int)) = true := decide_eq_true (by have := HKE.out; omega)
              have HE : Hid (∀ w', Below w.heap.size w w' → NextOf s tk w (.returned (.tuple #[.int .i64 5, .string ⟨#[]⟩, .int .i64 ((q : Nat) : Int), .int .i64 ((k : Nat) : Int)])) w') := Lib.hid (fun w' hb => by
                have ht := HT2.out
                rw [if_pos (by simp [hq1])] at ht
                rw [ht]
                refine next_end rfl rfl ?_ ?_ hb
                · show s.size - (L.drop q).length = q
                  rw [hsz, List.length_drop]; have := HLEN.out; omega
                · show s.size - ((L.drop q).dropWhile Wm.digt).length = k
                  rw [HDW.out, hsz, List.length_drop]; have := HLEN.out; have := HKE.out; have := HM2.out; omega)
              clear hq1
              go_wp2_with fail
              refine bodyPost_ret (v := .tuple #[.int .i64 5, .string ⟨#[]⟩, .int .i64 ((q : Nat) : Int), .int .i64 ((k : Nat) : Int)]) (by simp [results, Tryd.results21, go_sem]) rfl ?_
              rw [← HPO.out]
              first | exact HE.out _ HW.out | exact HE.out _ (HW.out.trans ⟨rfl, rfl, rfl, Nat.le_refl _, fun _ _ => rfl⟩)
            · have e3 : decide (10 < (k : Int) - (q : Int)) = false := decide_eq_false (by have := HKE.out; omega)
              have e4 : decide (1 < (k : Int) - (q : Int)) = true := decide_eq_true (by have := HKE.out; omega)
              have e5 : (cy == 48) = true := by rw [HC48.out.1 hq3]; rfl
              have HE : Hid (∀ w', Below w.heap.size w w' → NextOf s tk w (.returned (.tuple #[.int .i64 5, .string ⟨#[]⟩, .int .i64 ((q : Nat) : Int), .int .i64 ((k : Nat) : Int)])) w') := Lib.hid (fun w' hb => by
                have ht := HT2.out
                rw [if_pos (by simp [hq2, hq3])] at ht
                rw [ht]
                refine next_end rfl rfl ?_ ?_ hb
                · show s.size - (L.drop q).length = q
                  rw [hsz, List.length_drop]; have := HLEN.out; omega
                · show s.size - ((L.drop q).dropWhile Wm.digt).length = k
                  rw [HDW.out, hsz, List.length_drop]; have := HLEN.out; have := HKE.out; have := HM2.out; omega)
              clear hq1 hq2 hq3
              go_wp2_with fail
              refine bodyPost_ret (v := .tuple #[.int .i64 5, .string ⟨#[]⟩, .int .i64 ((q : Nat) : Int), .int .i64 ((k : Nat) : Int)]) (by simp [results, Tryd.results21, go_sem]) rfl ?_
              rw [← HPO.out]
              first | exact HE.out _ HW.out | exact HE.out _ (HW.out.trans ⟨rfl, rfl, rfl, Nat.le_refl _, fun _ _ => rfl⟩)
            · have e3 : decide (10 < (k : Int) - (q : Int)) = false := decide_eq_false (by have := HKE.out; omega)
              have e4 : decide (1 < (k : Int) - (q : Int)) = false := decide_eq_false (by have := HKE.out; omega)
              have e5 : (cy == 48) = true := by rw [HC48.out.1 hq3]; rfl
              have HE : Hid (∀ w', Below w.heap.size w w' → NextOf s tk w (.returned (.tuple #[.int .i64 2, .string (s.extract q k), .int .i64 ((q : Nat) : Int), .int .i64 ((k : Nat) : Int)])) w') := Lib.hid (fun w' hb => by
                have ht := HT2.out
                rw [if_neg (by simp; omega)] at ht
                rw [ht]
                refine next_end rfl ?_ ?_ ?_ hb
                · rw [HKE.out, HSB.out]
                · show s.size - (L.drop q).length = q
                  rw [hsz, List.length_drop]; have := HLEN.out; omega
                · show s.size - ((L.drop q).dropWhile Wm.digt).length = k
                  rw [HDW.out, hsz, List.length_drop]; have := HLEN.out; have := HKE.out; have := HM2.out; omega)
              clear hq1 hq2 hq3
              go_wp2_with fail
              refine wp_region_quiet_lex (by kernel_rfl) (by kernel_rfl) ?_
              repeat (go_big_quiet_step (fail))
              refine wpQuiet_nil ?_
              intro _ hw'
              obtain ⟨nq, hw''⟩ := hw'
              subst hw''
              go_wp2_with fail
              refine bodyPost_ret (v := .tuple #[.int .i64 2, .string (s.extract q k), .int .i64 ((q : Nat) : Int), .int .i64 ((k : Nat) : Int)]) (by simp [results, Tryd.results21, go_sem]) rfl ?_
              rw [← HPO.out]
              first | exact HE.out _ HW.out | exact HE.out _ (HW.out.trans ⟨rfl, rfl, rfl, Nat.le_refl _, fun _ _ => rfl⟩)
            · have e3 : decide (10 < (k : Int) - (q : Int)) = false := decide_eq_false (by have := HKE.out; omega)
              have e5 : (cy == 48) = false := by rw [beq_eq_false_iff_ne]; exact fun e => hq2 (HC48.out.2 e)
              have HE : Hid (∀ w', Below w.heap.size w w' → NextOf s tk w (.returned (.tuple #[.int .i64 2, .string (s.extract q k), .int .i64 ((q : Nat) : Int), .int .i64 ((k : Nat) : Int)])) w') := Lib.hid (fun w' hb => by
                have ht := HT2.out
                rw [if_neg (by simp [hq2, hq1])] at ht
                rw [ht]
                refine next_end rfl ?_ ?_ ?_ hb
                · rw [HKE.out, HSB.out]
                · show s.size - (L.drop q).length = q
                  rw [hsz, List.length_drop]; have := HLEN.out; omega
                · show s.size - ((L.drop q).dropWhile Wm.digt).length = k
                  rw [HDW.out, hsz, List.length_drop]; have := HLEN.out; have := HKE.out; have := HM2.out; omega)
              clear hq1 hq2
              go_wp2_with fail
              refine wp_region_quiet_lex (by kernel_rfl) (by kernel_rfl) ?_
              repeat (go_big_quiet_step (fail))
              refine wpQuiet_nil ?_
              intro _ hw'
              obtain ⟨nq, hw''⟩ := hw'
              subst hw''
              go_wp2_with fail
              refine bodyPost_ret (v := .tuple #[.int .i64 2, .string (s.extract q k), .int .i64 ((q : Nat) : Int), .int .i64 ((k : Nat) : Int)]) (by simp [results, Tryd.results21, go_sem]) rfl ?_
              rw [← HPO.out]
              first | exact HE.out _ HW.out | exact HE.out _ (HW.out.trans ⟨rfl, rfl, rfl, Nat.le_refl _, fun _ _ => rfl⟩)
          · obtain ⟨hj, hend⟩ := hc
            have HKE : Hid (k = q + m2) := Lib.hid (by omega)
            obtain ⟨b8, hc1, hc2⟩ : ∃ b8, L[q + m2]? = some b8 ∧ Wm.digt b8 = false := by
              rcases H4.out with h | ⟨_, h⟩
              · omega
              · exact h
            rw [← HKE.out] at hc1
            have hx8 := run_byte (T := 9) Tryd.underlying9 (show s.data.toList[k]? = some b8 from by rw [HLL.out]; exact hc1)
            have hksz : k < sz := by have := HLEN.out; omega
            have d1 : decide ((k : Int) < (sz : Int)) = true := decide_eq_true (by omega)
            have d2 : decide (k < sz) = true := decide_eq_true (by omega)
            have hcc : decide (48 ≤ (b8.toNat : Int)) = false ∨ (decide (48 ≤ (b8.toNat : Int)) = true ∧ decide ((b8.toNat : Int) ≤ 57) = false) := by
              unfold Wm.digt at hc2
              rw [Bool.and_eq_false_iff, decide_eq_false_iff_not, decide_eq_false_iff_not] at hc2
              rcases hc2 with h | h
              · exact .inl (decide_eq_false (by omega))
              · by_cases h3 : 48 ≤ (b8.toNat : Int)
                · exact .inr ⟨decide_eq_true h3, decide_eq_false (by omega)⟩
                · exact .inl (decide_eq_false h3)
            clear hend hk hj hc1 hc2
            generalize (b8.toNat : Int) = cz at *
            rcases hcc with g1 | ⟨g1, g2⟩
            · skip
              have hqk : q ≤ k := by have := HKE.out; omega
              have hks : k ≤ sz := by have := HKE.out; have := HM2.out; have := HLEN.out; omega
              rcases (show 10 < m2 ∨ (m2 ≤ 10 ∧ 1 < m2 ∧ c = 48) ∨ (m2 ≤ 10 ∧ m2 ≤ 1 ∧ c = 48) ∨ (m2 ≤ 10 ∧ c ≠ 48) from by by_cases h1 : 10 < m2; exact .inl h1; by_cases h2 : c = 48; rcases Nat.lt_or_ge 1 m2 with h3 | h3; exact .inr (.inl ⟨by omega, h3, h2⟩); exact .inr (.inr (.inl ⟨by omega, h3, h2⟩)); exact .inr (.inr (.inr ⟨by omega, h2⟩))) with hq1 | ⟨hq1, hq2, hq3⟩ | ⟨hq1, hq2, hq3⟩ | ⟨hq1, hq2⟩
              · have e3 : decide (10 < (k : Int) - (q : Int)) = true := decide_eq_true (by have := HKE.out; omega)
                have HE : Hid (∀ w', Below w.heap.size w w' → NextOf s tk w (.returned (.tuple #[.int .i64 5, .string ⟨#[]⟩, .int .i64 ((q : Nat) : Int), .int .i64 ((k : Nat) : Int)])) w') := Lib.hid (fun w' hb => by
                  have ht := HT2.out
                  rw [if_pos (by simp [hq1])] at ht
                  rw [ht]
                  refine next_end rfl rfl ?_ ?_ hb
                  · show s.size - (L.drop q).length = q
                    rw [hsz, List.length_drop]; have := HLEN.out; omega
                  · show s.size - ((L.drop q).dropWhile Wm.digt).length = k
                    rw [HDW.out, hsz, List.length_drop]; have := HLEN.out; have := HKE.out; have := HM2.out; omega)
                clear hq1
                go_wp2_with fail
                refine bodyPost_ret (v := .tuple #[.int .i64 5, .string ⟨#[]⟩, .int .i64 ((q : Nat) : Int), .int .i64 ((k : Nat) : Int)]) (by simp [results, Tryd.results21, go_sem]) rfl ?_
                rw [← HPO.out]
                first | exact HE.out _ HW.out | exact HE.out _ (HW.out.trans ⟨rfl, rfl, rfl, Nat.le_refl _, fun _ _ => rfl⟩)
              · have e3 : decide (10 < (k : Int) - (q : Int)) = false := decide_eq_false (by have := HKE.out; omega)
                have e4 : decide (1 < (k : Int) - (q : Int)) = true := decide_eq_true (by have := HKE.out; omega)
                have e5 : (cy == 48) = true := by rw [HC48.out.1 hq3]; rfl
                have HE : Hid (∀ w', Below w.heap.size w w' → NextOf s tk w (.returned (.tuple #[.int .i64 5, .string ⟨#[]⟩, .int .i64 ((q : Nat) : Int), .int .i64 ((k : Nat) : Int)])) w') := Lib.hid (fun w' hb => by
                  have ht := HT2.out
                  rw [if_pos (by simp [hq2, hq3])] at ht
                  rw [ht]
                  refine next_end rfl rfl ?_ ?_ hb
                  · show s.size - (L.drop q).length = q
                    rw [hsz, List.length_drop]; have := HLEN.out; omega
                  · show s.size - ((L.drop q).dropWhile Wm.digt).length = k
                    rw [HDW.out, hsz, List.length_drop]; have := HLEN.out; have := HKE.out; have := HM2.out; omega)
                clear hq1 hq2 hq3
                go_wp2_with fail
                refine bodyPost_ret (v := .tuple #[.int .i64 5, .string ⟨#[]⟩, .int .i64 ((q : Nat) : Int), .int .i64 ((k : Nat) : Int)]) (by simp [results, Tryd.results21, go_sem]) rfl ?_
                rw [← HPO.out]
                first | exact HE.out _ HW.out | exact HE.out _ (HW.out.trans ⟨rfl, rfl, rfl, Nat.le_refl _, fun _ _ => rfl⟩)
              · have e3 : decide (10 < (k : Int) - (q : Int)) = false := decide_eq_false (by have := HKE.out; omega)
                have e4 : decide (1 < (k : Int) - (q : Int)) = false := decide_eq_false (by have := HKE.out; omega)
                have e5 : (cy == 48) = true := by rw [HC48.out.1 hq3]; rfl
                have HE : Hid (∀ w', Below w.heap.size w w' → NextOf s tk w (.returned (.tuple #[.int .i64 2, .string (s.extract q k), .int .i64 ((q : Nat) : Int), .int .i64 ((k : Nat) : Int)])) w') := Lib.hid (fun w' hb => by
                  have ht := HT2.out
                  rw [if_neg (by simp; omega)] at ht
                  rw [ht]
                  refine next_end rfl ?_ ?_ ?_ hb
                  · rw [HKE.out, HSB.out]
                  · show s.size - (L.drop q).length = q
                    rw [hsz, List.length_drop]; have := HLEN.out; omega
                  · show s.size - ((L.drop q).dropWhile Wm.digt).length = k
                    rw [HDW.out, hsz, List.length_drop]; have := HLEN.out; have := HKE.out; have := HM2.out; omega)
                clear hq1 hq2 hq3
                go_wp2_with fail
                refine wp_region_quiet_lex (by kernel_rfl) (by kernel_rfl) ?_
                repeat (go_big_quiet_step (fail))
                refine wpQuiet_nil ?_
                intro _ hw'
                obtain ⟨nq, hw''⟩ := hw'
                subst hw''
                go_wp2_with fail
                refine bodyPost_ret (v := .tuple #[.int .i64 2, .string (s.extract q k), .int .i64 ((q : Nat) : Int), .int .i64 ((k : Nat) : Int)]) (by simp [results, Tryd.results21, go_sem]) rfl ?_
                rw [← HPO.out]
                first | exact HE.out _ HW.out | exact HE.out _ (HW.out.trans ⟨rfl, rfl, rfl, Nat.le_refl _, fun _ _ => rfl⟩)
              · have e3 : decide (10 < (k : Int) - (q : Int)) = false := decide_eq_false (by have := HKE.out; omega)
                have e5 : (cy == 48) = false := by rw [beq_eq_false_iff_ne]; exact fun e => hq2 (HC48.out.2 e)
                have HE : Hid (∀ w', Below w.heap.size w w' → NextOf s tk w (.returned (.tuple #[.int .i64 2, .string (s.extract q k), .int .i64 ((q : Nat) : Int), .int .i64 ((k : Nat) : Int)])) w') := Lib.hid (fun w' hb => by
                  have ht := HT2.out
                  rw [if_neg (by simp [hq2, hq1])] at ht
                  rw [ht]
                  refine next_end rfl ?_ ?_ ?_ hb
                  · rw [HKE.out, HSB.out]
                  · show s.size - (L.drop q).length = q
                    rw [hsz, List.length_drop]; have := HLEN.out; omega
                  · show s.size - ((L.drop q).dropWhile Wm.digt).length = k
                    rw [HDW.out, hsz, List.length_drop]; have := HLEN.out; have := HKE.out; have := HM2.out; omega)
                clear hq1 hq2
                go_wp2_with fail
                refine wp_region_quiet_lex (by kernel_rfl) (by kernel_rfl) ?_
                repeat (go_big_quiet_step (fail))
                refine wpQuiet_nil ?_
                intro _ hw'
                obtain ⟨nq, hw''⟩ := hw'
                subst hw''
                go_wp2_with fail
                refine bodyPost_ret (v := .tuple #[.int .i64 2, .string (s.extract q k), .int .i64 ((q : Nat) : Int), .int .i64 ((k : Nat) : Int)]) (by simp [results, Tryd.results21, go_sem]) rfl ?_
                rw [← HPO.out]
                first | exact HE.out _ HW.out | exact HE.out _ (HW.out.trans ⟨rfl, rfl, rfl, Nat.le_refl _, fun _ _ => rfl⟩)
            · skip
              have hqk : q ≤ k := by have := HKE.out; omega
              have hks : k ≤ sz := by have := HKE.out; have := HM2.out; have := HLEN.out; omega
              rcases (show 10 < m2 ∨ (m2 ≤ 10 ∧ 1 < m2 ∧ c = 48) ∨ (m2 ≤ 10 ∧ m2 ≤ 1 ∧ c = 48) ∨ (m2 ≤ 10 ∧ c ≠ 48) from by by_cases h1 : 10 < m2; exact .inl h1; by_cases h2 : c = 48; rcases Nat.lt_or_ge 1 m2 with h3 | h3; exact .inr (.inl ⟨by omega, h3, h2⟩); exact .inr (.inr (.inl ⟨by omega, h3, h2⟩)); exact .inr (.inr (.inr ⟨by omega, h2⟩))) with hq1 | ⟨hq1, hq2, hq3⟩ | ⟨hq1, hq2, hq3⟩ | ⟨hq1, hq2⟩
              · have e3 : decide (10 < (k : Int) - (q : Int)) = true := decide_eq_true (by have := HKE.out; omega)
                have HE : Hid (∀ w', Below w.heap.size w w' → NextOf s tk w (.returned (.tuple #[.int .i64 5, .string ⟨#[]⟩, .int .i64 ((q : Nat) : Int), .int .i64 ((k : Nat) : Int)])) w') := Lib.hid (fun w' hb => by
                  have ht := HT2.out
                  rw [if_pos (by simp [hq1])] at ht
                  rw [ht]
                  refine next_end rfl rfl ?_ ?_ hb
                  · show s.size - (L.drop q).length = q
                    rw [hsz, List.length_drop]; have := HLEN.out; omega
                  · show s.size - ((L.drop q).dropWhile Wm.digt).length = k
                    rw [HDW.out, hsz, List.length_drop]; have := HLEN.out; have := HKE.out; have := HM2.out; omega)
                clear hq1
                go_wp2_with fail
                refine bodyPost_ret (v := .tuple #[.int .i64 5, .string ⟨#[]⟩, .int .i64 ((q : Nat) : Int), .int .i64 ((k : Nat) : Int)]) (by simp [results, Tryd.results21, go_sem]) rfl ?_
                rw [← HPO.out]
                first | exact HE.out _ HW.out | exact HE.out _ (HW.out.trans ⟨rfl, rfl, rfl, Nat.le_refl _, fun _ _ => rfl⟩)
              · have e3 : decide (10 < (k : Int) - (q : Int)) = false := decide_eq_false (by have := HKE.out; omega)
                have e4 : decide (1 < (k : Int) - (q : Int)) = true := decide_eq_true (by have := HKE.out; omega)
                have e5 : (cy == 48) = true := by rw [HC48.out.1 hq3]; rfl
                have HE : Hid (∀ w', Below w.heap.size w w' → NextOf s tk w (.returned (.tuple #[.int .i64 5, .string ⟨#[]⟩, .int .i64 ((q : Nat) : Int), .int .i64 ((k : Nat) : Int)])) w') := Lib.hid (fun w' hb => by
                  have ht := HT2.out
                  rw [if_pos (by simp [hq2, hq3])] at ht
                  rw [ht]
                  refine next_end rfl rfl ?_ ?_ hb
                  · show s.size - (L.drop q).length = q
                    rw [hsz, List.length_drop]; have := HLEN.out; omega
                  · show s.size - ((L.drop q).dropWhile Wm.digt).length = k
                    rw [HDW.out, hsz, List.length_drop]; have := HLEN.out; have := HKE.out; have := HM2.out; omega)
                clear hq1 hq2 hq3
                go_wp2_with fail
                refine bodyPost_ret (v := .tuple #[.int .i64 5, .string ⟨#[]⟩, .int .i64 ((q : Nat) : Int), .int .i64 ((k : Nat) : Int)]) (by simp [results, Tryd.results21, go_sem]) rfl ?_
                rw [← HPO.out]
                first | exact HE.out _ HW.out | exact HE.out _ (HW.out.trans ⟨rfl, rfl, rfl, Nat.le_refl _, fun _ _ => rfl⟩)
              · have e3 : decide (10 < (k : Int) - (q : Int)) = false := decide_eq_false (by have := HKE.out; omega)
                have e4 : decide (1 < (k : Int) - (q : Int)) = false := decide_eq_false (by have := HKE.out; omega)
                have e5 : (cy == 48) = true := by rw [HC48.out.1 hq3]; rfl
                have HE : Hid (∀ w', Below w.heap.size w w' → NextOf s tk w (.returned (.tuple #[.int .i64 2, .string (s.extract q k), .int .i64 ((q : Nat) : Int), .int .i64 ((k : Nat) : Int)])) w') := Lib.hid (fun w' hb => by
                  have ht := HT2.out
                  rw [if_neg (by simp; omega)] at ht
                  rw [ht]
                  refine next_end rfl ?_ ?_ ?_ hb
                  · rw [HKE.out, HSB.out]
                  · show s.size - (L.drop q).length = q
                    rw [hsz, List.length_drop]; have := HLEN.out; omega
                  · show s.size - ((L.drop q).dropWhile Wm.digt).length = k
                    rw [HDW.out, hsz, List.length_drop]; have := HLEN.out; have := HKE.out; have := HM2.out; omega)
                clear hq1 hq2 hq3
                go_wp2_with fail
                refine wp_region_quiet_lex (by kernel_rfl) (by kernel_rfl) ?_
                repeat (go_big_quiet_step (fail))
                refine wpQuiet_nil ?_
                intro _ hw'
                obtain ⟨nq, hw''⟩ := hw'
                subst hw''
                go_wp2_with fail
                refine bodyPost_ret (v := .tuple #[.int .i64 2, .string (s.extract q k), .int .i64 ((q : Nat) : Int), .int .i64 ((k : Nat) : Int)]) (by simp [results, Tryd.results21, go_sem]) rfl ?_
                rw [← HPO.out]
                first | exact HE.out _ HW.out | exact HE.out _ (HW.out.trans ⟨rfl, rfl, rfl, Nat.le_refl _, fun _ _ => rfl⟩)
              · have e3 : decide (10 < (k : Int) - (q : Int)) = false := decide_eq_false (by have := HKE.out; omega)
                have e5 : (cy == 48) = false := by rw [beq_eq_false_iff_ne]; exact fun e => hq2 (HC48.out.2 e)
                have HE : Hid (∀ w', Below w.heap.size w w' → NextOf s tk w (.returned (.tuple #[.int .i64 2, .string (s.extract q k), .int .i64 ((q : Nat) : Int), .int .i64 ((k : Nat) : Int)])) w') := Lib.hid (fun w' hb => by
                  have ht := HT2.out
                  rw [if_neg (by simp [hq2, hq1])] at ht
                  rw [ht]
                  refine next_end rfl ?_ ?_ ?_ hb
                  · rw [HKE.out, HSB.out]
                  · show s.size - (L.drop q).length = q
                    rw [hsz, List.length_drop]; have := HLEN.out; omega
                  · show s.size - ((L.drop q).dropWhile Wm.digt).length = k
                    rw [HDW.out, hsz, List.length_drop]; have := HLEN.out; have := HKE.out; have := HM2.out; omega)
                clear hq1 hq2
                go_wp2_with fail
                refine wp_region_quiet_lex (by kernel_rfl) (by kernel_rfl) ?_
                repeat (go_big_quiet_step (fail))
                refine wpQuiet_nil ?_
                intro _ hw'
                obtain ⟨nq, hw''⟩ := hw'
                subst hw''
                go_wp2_with fail
                refine bodyPost_ret (v := .tuple #[.int .i64 2, .string (s.extract q k), .int .i64 ((q : Nat) : Int), .int .i64 ((k : Nat) : Int)]) (by simp [results, Tryd.results21, go_sem]) rfl ?_
                rw [← HPO.out]
                first | exact HE.out _ HW.out | exact HE.out _ (HW.out.trans ⟨rfl, rfl, rfl, Nat.le_refl _, fun _ _ => rfl⟩)

      · have hcr := HDR.out
        have HK1 := Lib.hid hk1
        have HK2 := Lib.hid hk2
        have HK3 := Lib.hid hk3
        have HT2 : Hid (tk = ⟨4, [c], L.drop q, L.drop (q + 1)⟩) := Lib.hid (by rw [← HTK.out, hcr]; simp [Wm.tok1, HK1.out, HK2.out, HK3.out])
        have HE : Hid (∀ w', Below w.heap.size w w' → NextOf s tk w (.returned (.tuple #[.int .i64 4, .string (s.extract q (q + 1)), .int .i64 ((q : Nat) : Int), .int .i64 ((q + 1 : Nat) : Int)])) w') := Lib.hid (fun w' hb => by
          rw [HT2.out]
          refine next_end rfl ?_ ?_ ?_ hb
          · rw [HSUB.out]
          · show s.size - (L.drop q).length = q
            rw [hsz, List.length_drop]; have := HLEN.out; omega
          · show s.size - (L.drop (q + 1)).length = q + 1
            rw [hsz, List.length_drop]; have := HLEN.out; omega)
        clear hcr
        rcases (show c = 40 ∨ c = 41 ∨ c = 44 from by unfold Wm.sgn at hk3; rw [Bool.or_eq_true, Bool.or_eq_true, beq_iff_eq, beq_iff_eq, beq_iff_eq] at hk3; rcases hk3 with (h | h) | h; exact .inl h; exact .inr (.inl h); exact .inr (.inr h)) with hk4 | hk4 | hk4
        · have g0 : decide (97 ≤ (c.toNat : Int)) = false := by rw [hk4]; decide
          have g1 : decide (48 ≤ (c.toNat : Int)) = false := by rw [hk4]; decide
          have f40 : ((c.toNat : Int) == 40) = true := by rw [hk4]; decide
          clear hk1 hk2 hk3 hk4
          generalize (c.toNat : Int) = cz at *
          go_wp2_with fail
          refine wp_region_quiet_lex (by kernel_rfl) (by kernel_rfl) ?_
          repeat (go_big_quiet_step (fail))
          refine wpQuiet_nil ?_
          intro _ hw'
          obtain ⟨nq, hw''⟩ := hw'
          subst hw''
          go_wp2_with fail
          refine bodyPost_ret (v := .tuple #[.int .i64 4, .string (s.extract q (q + 1)), .int .i64 ((q : Nat) : Int), .int .i64 ((q : Int) + 1)]) (by simp [results, Tryd.results21, go_sem]) rfl ?_
          rw [← HPO.out]
          first | exact HE.out _ HW.out | exact HE.out _ (HW.out.trans ⟨rfl, rfl, rfl, Nat.le_refl _, fun _ _ => rfl⟩)
        · have g0 : decide (97 ≤ (c.toNat : Int)) = false := by rw [hk4]; decide
          have g1 : decide (48 ≤ (c.toNat : Int)) = false := by rw [hk4]; decide
          have f40 : ((c.toNat : Int) == 40) = false := by rw [hk4]; decide
          have f41 : ((c.toNat : Int) == 41) = true := by rw [hk4]; decide
          clear hk1 hk2 hk3 hk4
          generalize (c.toNat : Int) = cz at *
          go_wp2_with fail
          refine wp_region_quiet_lex (by kernel_rfl) (by kernel_rfl) ?_
          repeat (go_big_quiet_step (fail))
          refine wpQuiet_nil ?_
          intro _ hw'
          obtain ⟨nq, hw''⟩ := hw'
          subst hw''
          go_wp2_with fail
          refine bodyPost_ret (v := .tuple #[.int .i64 4, .string (s.extract q (q + 1)), .int .i64 ((q : Nat) : Int), .int .i64 ((q : Int) + 1)]) (by simp [results, Tryd.results21, go_sem]) rfl ?_
          rw [← HPO.out]
          first | exact HE.out _ HW.out | exact HE.out _ (HW.out.trans ⟨rfl, rfl, rfl, Nat.le_refl _, fun _ _ => rfl⟩)
        · have g0 : decide (97 ≤ (c.toNat : Int)) = false := by rw [hk4]; decide
          have g1 : decide (48 ≤ (c.toNat : Int)) = false := by rw [hk4]; decide
          have f40 : ((c.toNat : Int) == 40) = false := by rw [hk4]; decide
          have f41 : ((c.toNat : Int) == 41) = false := by rw [hk4]; decide
          have f44 : ((c.toNat : Int) == 44) = true := by rw [hk4]; decide
          clear hk1 hk2 hk3 hk4
          generalize (c.toNat : Int) = cz at *
          go_wp2_with fail
          refine wp_region_quiet_lex (by kernel_rfl) (by kernel_rfl) ?_
          repeat (go_big_quiet_step (fail))
          refine wpQuiet_nil ?_
          intro _ hw'
          obtain ⟨nq, hw''⟩ := hw'
          subst hw''
          go_wp2_with fail
          refine bodyPost_ret (v := .tuple #[.int .i64 4, .string (s.extract q (q + 1)), .int .i64 ((q : Nat) : Int), .int .i64 ((q : Int) + 1)]) (by simp [results, Tryd.results21, go_sem]) rfl ?_
          rw [← HPO.out]
          first | exact HE.out _ HW.out | exact HE.out _ (HW.out.trans ⟨rfl, rfl, rfl, Nat.le_refl _, fun _ _ => rfl⟩)
      · have hcr := HDR.out
        have HK1 := Lib.hid hk1
        have HK2 := Lib.hid hk2
        have HK3 := Lib.hid hk3
        have HT2 : Hid (tk = match Wm.txt (L.drop (q + 1)) with | some p => ⟨3, p.1, L.drop q, p.2⟩ | none => ⟨5, [], L.drop q, L.drop q⟩) := Lib.hid (by rw [← HTK.out, hcr]; simp only [Wm.tok1, HK1.out, HK2.out, HK3.out, Wm.tokT, if_false, Bool.false_eq_true]; rw [if_pos hk4]; cases Wm.txt (L.drop (q + 1)) <;> rfl)
        have g0 : decide (97 ≤ (c.toNat : Int)) = false := by rw [hk4]; decide
        have g1 : decide (48 ≤ (c.toNat : Int)) = false := by rw [hk4]; decide
        have f40 : ((c.toNat : Int) == 40) = false := by rw [hk4]; decide
        have f41 : ((c.toNat : Int) == 41) = false := by rw [hk4]; decide
        have f44 : ((c.toNat : Int) == 44) = false := by rw [hk4]; decide
        have f34 : ((c.toNat : Int) == 34) = true := by rw [hk4]; decide
        clear hcr hk1 hk2 hk3 hk4
        generalize (c.toNat : Int) = cz at *
        have HT0 : Hid (TxI (L.drop (q + 1)) [] (L.drop (q + 1))) := Lib.hid (TxI.start _)
        go_wp2_with fail
        go_loopw [8, 9] (fun x y wr => ∃ (k : Nat) (l : List UInt8), Hid (q < k ∧ k ≤ sz ∧ l.length ≤ k) ∧ x = .int .i64 (k : Int) ∧ y = .string (S8 l) ∧ Hid (TxI (L.drop (q + 1)) l (L.drop k)) ∧ Hid (Below w.heap.size w wr)) (fun x _ _ => sz - (intOf x).toNat)
        case atStart => exact ⟨q + 1, [], Lib.hid ⟨by omega, by omega, by simp⟩, by first | rfl | simp, rfl, HT0, HW⟩
        case round =>
          obtain ⟨k, l, HKL, rfl, rfl, HT, HW⟩ := hrel
          have hk6 : k ≤ 1000000 := by have := HKL.out.2.1; have := HS.out; omega
          have hrow := (HW.out.block _ (in_heap HP.out)).trans HP.out
          have c0 : wr.cell? ⟨P, 0, none⟩ = some (.string s) := cell_of_row _ _ 0 _ _ (0, 0) hrow
          clear hrow
          obtain ⟨tv, htv⟩ : ∃ t, t = S8 l := ⟨_, rfl⟩
          have HTV := Lib.hid htv
          by_cases hlt : k < sz
          · obtain ⟨d, hd⟩ : ∃ d, L[k]? = some d := ⟨_, List.getElem?_eq_getElem (by rw [HLEN.out]; exact hlt)⟩
            have hx8 := run_byte (T := 9) Tryd.underlying9 (show s.data.toList[k]? = some d from by rw [HLL.out]; exact hd)
            have HD := Lib.hid (drop_at hd)
            have hsub := sub8 HLL.out hd
            have hcase : d = 34 ∨ (d ≠ 34 ∧ d = 92 ∧ k + 1 = sz) ∨ (d ≠ 34 ∧ d = 92 ∧ k + 1 < sz) ∨ (d ≠ 34 ∧ d ≠ 92) := by
              by_cases h1 : d = 34
              · exact .inl h1
              · by_cases h2 : d = 92
                · rcases Nat.lt_or_ge (k + 1) sz with h3 | h3
                  · exact .inr (.inr (.inl ⟨h1, h2, h3⟩))
                  · exact .inr (.inl ⟨h1, h2, by omega⟩)
                · exact .inr (.inr (.inr ⟨h1, h2⟩))
            have H34 : Hid (d ≠ 34 → ((d.toNat : Int) == 34) = false) := Lib.hid (fun hn => by rw [beq_eq_false_iff_ne]; intro e; apply hn; rw [← UInt8.toNat_inj]; simp; omega)
            have H92 : Hid (d ≠ 92 → ((d.toNat : Int) == 92) = false) := Lib.hid (fun hn => by rw [beq_eq_false_iff_ne]; intro e; apply hn; rw [← UInt8.toNat_inj]; simp; omega)
            have d1 : decide ((k : Int) < (sz : Int)) = true := decide_eq_true (by omega)
            have d2 : decide (k < sz) = true := decide_eq_true (by omega)
            rcases hcase with h1 | ⟨h1, h2, h3⟩ | ⟨h1, h2, h3⟩ | ⟨h1, h2⟩
            · have k34 : ((d.toNat : Int) == 34) = true := by rw [h1]; decide
              have HN2 : Hid (Wm.txt (L.drop (q + 1)) = some (l, L.drop (k + 1))) := Lib.hid (TxI.quote (by rw [← h1, ← HD.out]; exact HT.out))
              have HE : Hid (∀ w', Below w.heap.size w w' → NextOf s tk w (.returned (.tuple #[.int .i64 3, .string (S8 l), .int .i64 ((q : Nat) : Int), .int .i64 ((k + 1 : Nat) : Int)])) w') := Lib.hid (fun w' hb => by
                rw [HT2.out, HN2.out]
                exact next_end rfl rfl (by show s.size - (L.drop q).length = q; rw [hsz, List.length_drop]; have := HLEN.out; omega) (by show s.size - (L.drop (k + 1)).length = k + 1; rw [hsz, List.length_drop]; have := HLEN.out; omega) hb)
              clear hd hsub h1
              generalize (d.toNat : Int) = dz at *
              go_wp2_with fail
              refine bodyPost_ret (v := .tuple #[.int .i64 3, .string (S8 l), .int .i64 ((q : Nat) : Int), .int .i64 ((k : Int) + 1)]) (by simp [results, Tryd.results21, go_sem]) rfl ?_
              rw [← HPO.out]
              first | exact HE.out _ HW.out | exact HE.out _ (HW.out.trans ⟨rfl, rfl, rfl, Nat.le_refl _, fun _ _ => rfl⟩)
            · have k34 := H34.out h1
              have k92 : ((d.toNat : Int) == 92) = true := by rw [h2]; decide
              have HN2 : Hid (Wm.txt (L.drop (q + 1)) = none) := Lib.hid (by
                have hlx := HLEN.out
                have h0 : L.drop (k + 1) = [] := List.drop_eq_nil_of_le (by omega)
                refine TxI.none1 (l := l) ?_
                rw [← h0, ← h2, ← HD.out]
                exact HT.out)
              have HE : Hid (∀ w', Below w.heap.size w w' → NextOf s tk w (.returned (.tuple #[.int .i64 5, .string ⟨#[]⟩, .int .i64 ((q : Nat) : Int), .int .i64 ((q : Nat) : Int)])) w') := Lib.hid (fun w' hb => by
                rw [HT2.out, HN2.out]
                exact next_end rfl rfl (by show s.size - (L.drop q).length = q; rw [hsz, List.length_drop]; have := HLEN.out; omega) (by show s.size - (L.drop q).length = q; rw [hsz, List.length_drop]; have := HLEN.out; omega) hb)
              have k1 : ((k : Int) + 1 == (sz : Int)) = true := by rw [beq_iff_eq]; omega
              have k2 : (k + 1 == sz) = true := by rw [beq_iff_eq]; omega
              clear hd hsub h1 h2 h3 H34 H92
              generalize (d.toNat : Int) = dz at *
              go_wp2_with fail
              refine bodyPost_ret (v := .tuple #[.int .i64 5, .string ⟨#[]⟩, .int .i64 ((q : Nat) : Int), .int .i64 ((q : Nat) : Int)]) (by simp [results, Tryd.results21, go_sem]) rfl ?_
              rw [← HPO.out]
              first | exact HE.out _ HW.out | exact HE.out _ (HW.out.trans ⟨rfl, rfl, rfl, Nat.le_refl _, fun _ _ => rfl⟩)
            · have k34 := H34.out h1
              have k92 : ((d.toNat : Int) == 92) = true := by rw [h2]; decide
              obtain ⟨d2, hd2⟩ : ∃ d, L[k + 1]? = some d := ⟨_, List.getElem?_eq_getElem (by rw [HLEN.out]; exact h3)⟩
              have hsub2 := sub8 HLL.out hd2
              have HT3 : Hid (TxI (L.drop (q + 1)) (l ++ [d2]) (L.drop (k + 2))) := Lib.hid (TxI.esc (by have h := HT.out; rw [HD.out, h2, drop_at hd2] at h; exact h))
              have k1 : ((k : Int) + 1 == (sz : Int)) = false := by rw [beq_eq_false_iff_ne]; omega
              have k2 : (k + 1 == sz) = false := by rw [beq_eq_false_iff_ne]; omega
              have hadd2 := add8 (a := S8 l) (b := s.extract (k + 1) (k + 1 + 1)) (y := [d2]) rfl hsub2 (by have := HKL.out; omega) (by simp)
              have hk3 : k + 1 < sz := h3
              clear hd hd2 hsub hsub2 h1 h2 h3 H34 H92
              generalize (d.toNat : Int) = dz at *
              go_wp2_with fail
              go_roundw
              case rel => exact ⟨k + 2, l ++ [d2], Lib.hid (by have := HKL.out; simp; omega), by first | rfl | (simp; omega) | go_num, rfl, HT3, HW⟩
              case measure => simp [intOf]; omega
            · have k34 := H34.out h1
              have k92 := H92.out h2
              have HT3 : Hid (TxI (L.drop (q + 1)) (l ++ [d]) (L.drop (k + 1))) := Lib.hid (TxI.any (by have h := HT.out; rw [HD.out] at h; exact h) h1 h2)
              have hadd2 := add8 (a := S8 l) (b := s.extract k (k + 1)) (y := [d]) rfl hsub (by have := HKL.out; omega) (by simp)
              clear hd hsub h1 h2 H34 H92
              generalize (d.toNat : Int) = dz at *
              go_wp2_with fail
              go_roundw
              case rel => exact ⟨k + 1, l ++ [d], Lib.hid (by have := HKL.out; simp; omega), by first | rfl | (simp; omega) | go_num, rfl, HT3, HW⟩
              case measure => simp [intOf]; omega
          · have HKS : Hid (k = sz) := Lib.hid (by have := HKL.out; omega)
            have HN2 : Hid (Wm.txt (L.drop (q + 1)) = none) := Lib.hid (by
              refine TxI.none0 (l := l) ?_
              have h := HT.out
              rw [show L.drop k = [] from List.drop_eq_nil_of_le (by have := HLEN.out; have := HKS.out; omega)] at h
              exact h)
            have HE : Hid (∀ w', Below w.heap.size w w' → NextOf s tk w (.returned (.tuple #[.int .i64 5, .string ⟨#[]⟩, .int .i64 ((q : Nat) : Int), .int .i64 ((q : Nat) : Int)])) w') := Lib.hid (fun w' hb => by
              rw [HT2.out, HN2.out]
              exact next_end rfl rfl (by show s.size - (L.drop q).length = q; rw [hsz, List.length_drop]; have := HLEN.out; omega) (by show s.size - (L.drop q).length = q; rw [hsz, List.length_drop]; have := HLEN.out; omega) hb)
            have d1 : decide ((k : Int) < (sz : Int)) = false := decide_eq_false (by omega)
            have d2 : decide (k < sz) = false := decide_eq_false (by omega)
            go_wp2_with fail
            refine bodyPost_ret (v := .tuple #[.int .i64 5, .string ⟨#[]⟩, .int .i64 ((q : Nat) : Int), .int .i64 ((q : Nat) : Int)]) (by simp [results, Tryd.results21, go_sem]) rfl ?_
            rw [← HPO.out]
            first | exact HE.out _ HW.out | exact HE.out _ (HW.out.trans ⟨rfl, rfl, rfl, Nat.le_refl _, fun _ _ => rfl⟩)

      · have hcr := HDR.out
        have HK1 := Lib.hid hk1
        have HK2 := Lib.hid hk2
        have HK3 := Lib.hid hk3
        have HT2 : Hid (tk = ⟨5, [], L.drop q, L.drop q⟩) := Lib.hid (by rw [← HTK.out, hcr]; simp [Wm.tok1, HK1.out, HK2.out, HK3.out, hk4])
        have HE : Hid (∀ w', Below w.heap.size w w' → NextOf s tk w (.returned (.tuple #[.int .i64 5, .string ⟨#[]⟩, .int .i64 ((q : Nat) : Int), .int .i64 ((q : Nat) : Int)])) w') := Lib.hid (fun w' hb => by
          rw [HT2.out]
          exact next_end rfl rfl (by show s.size - (L.drop q).length = q; rw [hsz, List.length_drop]; have := HLEN.out; omega) (by show s.size - (L.drop q).length = q; rw [hsz, List.length_drop]; have := HLEN.out; omega) hb)
        have hs3 : c ≠ 40 ∧ c ≠ 41 ∧ c ≠ 44 := by
          refine ⟨?_, ?_, ?_⟩ <;> (intro h; subst h; exact absurd hk3 (by decide))
        have f40 : ((c.toNat : Int) == 40) = false := e 40 hs3.1
        have f41 : ((c.toNat : Int) == 41) = false := e 41 hs3.2.1
        have f44 : ((c.toNat : Int) == 44) = false := e 44 hs3.2.2
        have f34 : ((c.toNat : Int) == 34) = false := e 34 hk4
        have hcc : (decide (97 ≤ (c.toNat : Int)) = false ∧ decide (48 ≤ (c.toNat : Int)) = false) ∨ (decide (97 ≤ (c.toNat : Int)) = false ∧ decide (48 ≤ (c.toNat : Int)) = true ∧ decide ((c.toNat : Int) ≤ 57) = false) ∨ (decide (97 ≤ (c.toNat : Int)) = true ∧ decide ((c.toNat : Int) ≤ 122) = false ∧ decide (48 ≤ (c.toNat : Int)) = true ∧ decide ((c.toNat : Int) ≤ 57) = false) := by
          unfold Wm.lettr at hk1
          unfold Wm.digt at hk2
          simp only [Bool.and_eq_false_iff, decide_eq_false_iff_not, decide_eq_true_eq] at hk1 hk2 ⊢
          omega
        clear hcr hk1 hk2 hk3 hk4 hs3 e
        generalize (c.toNat : Int) = cz at *
        rcases hcc with ⟨g0, g1⟩ | ⟨g0, g1, g2⟩ | ⟨g0, g3, g1, g2⟩
        all_goals
          go_wp2_with fail
          refine bodyPost_ret (v := .tuple #[.int .i64 5, .string ⟨#[]⟩, .int .i64 ((q : Nat) : Int), .int .i64 ((q : Nat) : Int)]) (by simp [results, Tryd.results21, go_sem]) rfl ?_
          rw [← HPO.out]
          first | exact HE.out _ HW.out | exact HE.out _ (HW.out.trans ⟨rfl, rfl, rfl, Nat.le_refl _, fun _ _ => rfl⟩)
end Go.Proofs.YtgiahfjndononaaDoor
