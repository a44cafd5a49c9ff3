/- The code's tokens: texts between marks. -/
import Derived.Test.YtgiahfjndononaaDoorPoc
import Derived.Test.YtgiahfjndononaaDoorPl
import Derived.Test.YtgiahfjndononaaDoorPuta
namespace Go.Proofs.YtgiahfjndononaaDoor
open Go.RowKit
set_option linter.unusedVariables false
set_option linter.unusedSimpArgs false
set_option maxRecDepth 100000

theorem txt_quote (r : List UInt8) : Wm.txt (34 :: r) = some ([], r) := by
  rcases r with _ | ⟨d, r⟩ <;> simp [Wm.txt]
theorem txt_esc (d : UInt8) (r : List UInt8) : Wm.txt (92 :: d :: r) = (Wm.txt r).map fun p => (d :: p.1, p.2) := by
  rw [Wm.txt, if_neg (by decide), if_pos rfl]
theorem txt_esc1 : Wm.txt [92] = none := by simp [Wm.txt]
theorem txt_any (c : UInt8) (r : List UInt8) (h1 : c ≠ 34) (h2 : c ≠ 92) : Wm.txt (c :: r) = (Wm.txt r).map fun p => (c :: p.1, p.2) := by
  rcases r with _ | ⟨d, r⟩
  · simp [Wm.txt, h1]
  · rw [Wm.txt, if_neg h1, if_neg h2]
/-- What has been read of a text: the rest says the rest. -/
def TxI (r l x : List UInt8) : Prop := Wm.txt r = (Wm.txt x).map fun p => (l ++ p.1, p.2)
theorem TxI.start (r : List UInt8) : TxI r [] r := by
  unfold TxI
  cases Wm.txt r <;> simp
theorem TxI.esc {r l x : List UInt8} {d : UInt8} (h : TxI r l (92 :: d :: x)) : TxI r (l ++ [d]) x := by
  unfold TxI at *
  rw [h, txt_esc]
  cases Wm.txt x <;> simp
theorem TxI.any {r l x : List UInt8} {c : UInt8} (h : TxI r l (c :: x)) (h1 : c ≠ 34) (h2 : c ≠ 92) : TxI r (l ++ [c]) x := by
  unfold TxI at *
  rw [h, txt_any c x h1 h2]
  cases Wm.txt x <;> simp
theorem TxI.quote {r l x : List UInt8} (h : TxI r l (34 :: x)) : Wm.txt r = some (l, x) := by
  unfold TxI at h
  rw [h, txt_quote]
  simp
theorem TxI.none1 {r l : List UInt8} (h : TxI r l [92]) : Wm.txt r = none := by
  unfold TxI at h
  rw [h, txt_esc1]
  rfl
theorem TxI.none0 {r l : List UInt8} (h : TxI r l []) : Wm.txt r = none := by
  unfold TxI at h
  rw [h]
  rfl
theorem grown_new {w0 w w' : World} {P : Nat} {u v : Value} (h : Grew w w' u v) (hu : ∀ k, u.ownBlock = some k → w0.heap.size ≤ k) (hg : w0.grownBy w (some P)) : w0.grownBy w' (some P) :=
  ⟨h.grown.os.trans hg.os, h.grown.tape.trans hg.tape, h.grown.output.trans hg.output, Nat.le_trans hg.size h.grown.size, fun k hk hne => (h.grown.block k (Nat.lt_of_lt_of_le hk hg.size) (fun e => by have := hu k e.symm; omega)).trans (hg.block k hk hne)⟩
def TxtOut (w' : World) (P : Nat) (s : ByteArray) (i : Nat) (tx : ByteArray) : Option (List UInt8 × List UInt8) → Prop
  | some p => PRow w' P s (s.size - p.2.length) i 34 (S8 p.1) 0 false
  | none => PRow w' P s i i 0 tx 0 false
theorem drop_at {L : List UInt8} {q : Nat} {c : UInt8} (h : L[q]? = some c) : L.drop q = c :: L.drop (q + 1) := by
  have hq : q < L.length := (List.getElem?_eq_some_iff.1 h).1
  rw [List.drop_eq_getElem_cons hq]
  rw [(List.getElem?_eq_some_iff.1 h).2]
set_option maxHeartbeats 4000000 in
theorem readtext_any (s : ByteArray) (L : List UInt8) (P i kd : Nat) (tx : ByteArray) (w : World) (hL : s.data.toList = L) (h : PRow w P s i i kd tx 0 false) (hi : i < s.size) (hs : s.size ≤ 1000000) :
    Calls Tryd.prog 32 #[.pointer (some ⟨P, 0, none⟩)] w fun e w' => e = .returned (.tuple #[]) ∧ TxtOut w' P s i tx (Wm.txt (L.drop (i + 1))) ∧ w.grownBy w' (some P) := by
  obtain ⟨i0, hi0, hz0, hz1, hz2⟩ := info_parts infoB
  have hlen := list_len s L hL
  have hPlt := in_heap h
  obtain ⟨sz, hsz⟩ : ∃ z, s.size = z := ⟨_, rfl⟩
  have HSZ := Lib.hid hsz
  have HLEN := Lib.hid (hlen.trans hsz)
  have HLL := Lib.hid hL
  obtain ⟨base, hbase⟩ : ∃ b, w.heap.size = b := ⟨_, rfl⟩
  rw [hbase] at hPlt
  have HBASE := Lib.hid hbase
  have HP := Lib.hid h
  obtain ⟨ot, hot⟩ : ∃ o, Wm.txt (L.drop (i + 1)) = o := ⟨_, rfl⟩
  have HOT := Lib.hid hot
  rw [hot]
  rw [hsz] at hi hs
  have hrow := h
  unfold PRow at hrow
  have c0 : w.cell? ⟨P, 0, none⟩ = some (.string s) := cell_of_row _ _ 0 _ _ (0, 0) hrow
  have f0 : w.frozen? ⟨P, 0, none⟩ = false := pfrz hrow
  have c1 : w.cell? ⟨P, 1, none⟩ = some (.int .i64 (i : Int)) := cell_of_row _ _ 1 _ _ (0, 0) hrow
  have f1 : w.frozen? ⟨P, 1, none⟩ = false := pfrz hrow
  have c2 : w.cell? ⟨P, 2, none⟩ = some (.int .i64 (i : Int)) := cell_of_row _ _ 2 _ _ (0, 0) hrow
  have f2 : w.frozen? ⟨P, 2, none⟩ = false := pfrz hrow
  have c3 : w.cell? ⟨P, 3, none⟩ = some (.int .u8 (kd : Int)) := cell_of_row _ _ 3 _ _ (0, 0) hrow
  have f3 : w.frozen? ⟨P, 3, none⟩ = false := pfrz hrow
  have c4 : w.cell? ⟨P, 4, none⟩ = some (.string tx) := cell_of_row _ _ 4 _ _ (0, 0) hrow
  have f4 : w.frozen? ⟨P, 4, none⟩ = false := pfrz hrow
  have c5 : w.cell? ⟨P, 5, none⟩ = some (.int .i64 (0 : Int)) := cell_of_row _ _ 5 _ _ (0, 0) hrow
  have f5 : w.frozen? ⟨P, 5, none⟩ = false := pfrz hrow
  have c6 : w.cell? ⟨P, 6, none⟩ = some (.bool false) := cell_of_row _ _ 6 _ _ (0, 0) hrow
  have f6 : w.frozen? ⟨P, 6, none⟩ = false := pfrz hrow
  have HO0 : Hid (w.ownsRow base 5 1 (.slice none 0 0) ([] : List UInt8).length (([] : List UInt8).map B8)) := Lib.hid (own_nil w base)
  have HG0 : Hid (w.grownBy w (some P)) := Lib.hid (grown_refl _ _)
  have HT0 : Hid (TxI (L.drop (i + 1)) [] (L.drop (i + 1))) := Lib.hid (TxI.start _)
  clear hrow h hlen hL hsz hbase hot
  go_enter Tryd.func32, Tryd.ntmps32
  go_wp2_with fail
  go_loopw [2, 3, 4] (fun b x _ wr => ∃ (q : Nat) (l : List UInt8), x = .int .i64 (q : Int) ∧ q ≤ sz ∧ Hid (i < q ∧ l.length ≤ q) ∧ Hid (wr.ownsRow base 5 1 b l.length (l.map B8)) ∧ Hid (TxI (L.drop (i + 1)) l (L.drop q)) ∧ Hid (PRow wr P s i i kd tx 0 false) ∧ Hid (w.grownBy wr (some P))) (fun _ x _ _ => sz - (intOf x).toNat)
  case atStart => exact ⟨i + 1, [], rfl, by omega, Lib.hid ⟨by omega, by simp⟩, HO0, HT0, HP, HG0⟩
  case round =>
    obtain ⟨q, l, rfl, hq, HQL, HO, HT, HR, HG⟩ := hrel
    have hrow := HR.out
    unfold PRow at hrow
    have c0 : wr.cell? ⟨P, 0, none⟩ = some (.string s) := cell_of_row _ _ 0 _ _ (0, 0) hrow
    have f0 : wr.frozen? ⟨P, 0, none⟩ = false := pfrz hrow
    have c1 : wr.cell? ⟨P, 1, none⟩ = some (.int .i64 (i : Int)) := cell_of_row _ _ 1 _ _ (0, 0) hrow
    have f1 : wr.frozen? ⟨P, 1, none⟩ = false := pfrz hrow
    have c2 : wr.cell? ⟨P, 2, none⟩ = some (.int .i64 (i : Int)) := cell_of_row _ _ 2 _ _ (0, 0) hrow
    have f2 : wr.frozen? ⟨P, 2, none⟩ = false := pfrz hrow
    have c3 : wr.cell? ⟨P, 3, none⟩ = some (.int .u8 (kd : Int)) := cell_of_row _ _ 3 _ _ (0, 0) hrow
    have f3 : wr.frozen? ⟨P, 3, none⟩ = false := pfrz hrow
    have c4 : wr.cell? ⟨P, 4, none⟩ = some (.string tx) := cell_of_row _ _ 4 _ _ (0, 0) hrow
    have f4 : wr.frozen? ⟨P, 4, none⟩ = false := pfrz hrow
    have c5 : wr.cell? ⟨P, 5, none⟩ = some (.int .i64 (0 : Int)) := cell_of_row _ _ 5 _ _ (0, 0) hrow
    have f5 : wr.frozen? ⟨P, 5, none⟩ = false := pfrz hrow
    have c6 : wr.cell? ⟨P, 6, none⟩ = some (.bool false) := cell_of_row _ _ 6 _ _ (0, 0) hrow
    have f6 : wr.frozen? ⟨P, 6, none⟩ = false := pfrz hrow
    clear hrow
    have hszz := HSZ.out
    have HW := HR
    obtain ⟨A, cc, rfl, hcc, hrd⟩ := own_rd HO.out
    have HRD := Lib.hid hrd
    have hll : l.length ≤ 1000000 := by have := HQL.out.2; omega
    have hbw : base ≤ wr.heap.size := by rw [← HBASE.out]; exact HG.out.size
    clear hrd
    obtain ⟨ln, hln⟩ : ∃ k, l.length = k := ⟨_, rfl⟩
    have HLN := Lib.hid hln
    rw [hln] at hll hcc HO ⊢
    by_cases hlt : q < sz
    · obtain ⟨c, hc⟩ : ∃ c, L[q]? = some c := ⟨_, List.getElem?_eq_getElem (by rw [HLEN.out]; exact hlt)⟩
      have hx9 := run_byte (T := 9) Tryd.underlying9 (show s.data.toList[q]? = some c from by rw [HLL.out]; exact hc)
      have HD := Lib.hid (drop_at hc)
      have hcase : c = 34 ∨ (c ≠ 34 ∧ c = 92 ∧ q + 1 = sz) ∨ (c ≠ 34 ∧ c = 92 ∧ q + 1 < sz) ∨ (c ≠ 34 ∧ c ≠ 92) := by
        by_cases h1 : c = 34
        · exact .inl h1
        · by_cases h2 : c = 92
          · rcases Nat.lt_or_ge (q + 1) sz with h3 | h3
            · exact .inr (.inr (.inl ⟨h1, h2, h3⟩))
            · exact .inr (.inl ⟨h1, h2, by omega⟩)
          · exact .inr (.inr (.inr ⟨h1, h2⟩))
      have H34 : Hid (c ≠ 34 → ((c.toNat : Int) == 34) = false) := Lib.hid (fun hn => by rw [beq_eq_false_iff_ne]; intro e; apply hn; rw [← UInt8.toNat_inj]; simp; omega)
      have H92 : Hid (c ≠ 92 → ((c.toNat : Int) == 92) = false) := Lib.hid (fun hn => by rw [beq_eq_false_iff_ne]; intro e; apply hn; rw [← UInt8.toNat_inj]; simp; omega)
      clear hc hln
      rcases hcase with h1 | ⟨h1, h2, h3⟩ | ⟨h1, h2, h3⟩ | ⟨h1, h2⟩
      · subst h1
        have hv : (convert 50 9 (.slice A ln cc)).run Tryd.prog wr = .ok (.string (S8 l)) wr := run_str _ _ _ Tryd.underlying50 Tryd.underlying5 Tryd.underlying9 HRD.out _ _ HLN.out.symm
        have e34 : (((34 : UInt8).toNat : Int)) = 34 := by decide
        rw [e34] at hx9
        rw [show L.drop (q + 1) = L.drop (q + 1) from rfl] at HD
        have HOT2 : Hid (ot = some (l, L.drop (q + 1))) := Lib.hid (by rw [← HOT.out]; exact TxI.quote (by rw [← HD.out]; exact HT.out))
        go_wp2_with fail
        (refine bodyPost_ret (v := .tuple #[]) (by simp [results, Tryd.results32, go_sem]) rfl ?_)
        refine ⟨rfl, ?_, grown_trans HG.out (grown_trans (grown_trans (grown_set _ _ _ _) (grown_set _ _ _ _)) (grown_set _ _ _ _))⟩
        rw [HOT2.out]
        have hr := HR.out
        have hlx := HLEN.out
        have e1 : s.size - (L.drop (q + 1)).length = q + 1 := by rw [List.length_drop, HSZ.out]; omega
        unfold TxtOut
        simp only
        unfold PRow at hr ⊢
        rw [e1]
        exact PRow.set 3 _ (PRow.set 1 _ (PRow.set 4 _ hr rfl) rfl) (by simp)
      · subst h2
        have e92 : (((92 : UInt8).toNat : Int)) = 92 := by decide
        rw [e92] at hx9
        have k1 : ((q : Int) + 1 == (sz : Int)) = true := by rw [beq_iff_eq]; omega
        have k2 : (q + 1 == sz) = true := by rw [beq_iff_eq]; omega
        have HOT2 : Hid (ot = none) := Lib.hid (by
          have hlx := HLEN.out
          have h0 : L.drop (q + 1) = [] := List.drop_eq_nil_of_le (by omega)
          rw [← HOT.out]
          refine TxI.none1 (l := l) ?_
          rw [← h0, ← HD.out]
          exact HT.out)
        have k34 : ((92 : Int) == 34) = false := by decide
        clear h1 h3
        go_wp2_with fail
        go_end0
        refine ⟨rfl, ?_, grown_trans HG.out (grown_set _ _ _ _)⟩
        rw [HOT2.out]
        have hr := HR.out
        unfold TxtOut
        simp only
        unfold PRow at hr ⊢
        exact PRow.set 3 _ hr (by simp)
      · subst h2
        have e92 : (((92 : UInt8).toNat : Int)) = 92 := by decide
        rw [e92] at hx9
        have k1 : ((q : Int) + 1 == (sz : Int)) = false := by rw [beq_eq_false_iff_ne]; omega
        have k2 : (q + 1 == sz) = false := by rw [beq_eq_false_iff_ne]; omega
        obtain ⟨d, hd⟩ : ∃ d, L[q + 1]? = some d := ⟨_, List.getElem?_eq_getElem (by rw [HLEN.out]; exact h3)⟩
        have hx8 := run_byte (T := 9) Tryd.underlying9 (show s.data.toList[q + 1]? = some d from by rw [HLL.out]; exact hd)
        have hx7 : ∀ W, (Instr.index 9 (.string s) (.int .i64 ((q : Int) + 1))).run Tryd.prog W = .ok (.int .u8 (d.toNat : Int)) W := hx8
        have HD2 := Lib.hid (drop_at hd)
        have HTD : Hid (TxI (L.drop (i + 1)) (l ++ [d]) (L.drop (q + 2))) := Lib.hid (TxI.esc (by rw [show L.drop (q + 2) = L.drop (q + 1 + 1) from rfl, ← HD2.out, ← HD.out]; exact HT.out))
        clear h1 hd hx8
        go_wp2_with (at_builtin; refine wpList_app rfl (.tmp 57) (.tmp 59) _ _ rfl rfl rfl (run_append_rd _ base _ _ 5 i0 _ 1 1 Tryd.underlying50 hi0 hz0 hz1 hz2 rfl (.slice A ln cc) _ _ (HO.out.alloc _) (wr.heap.size + 1) (some ⟨wr.heap.size, 0, none⟩) 1 1 [.int .u8 (d.toNat : Int)] rfl (Rd.one wr _ _) (by simp [Value.oneCell']) (by unfold maxLen; omega) (by omega) (by simp; omega)) ?_; rintro v1 w1 ⟨ho1, hg1⟩)
        go_roundw
        case rel =>
          have hgx := hg1.alloc
          refine ⟨q + 2, l ++ [d], by go_num, by omega, Lib.hid ⟨by have := HQL.out; omega, by have := HQL.out; simp only [List.length_append, List.length_singleton]; omega⟩, Lib.hid ?_, Lib.hid (HTD.out), Lib.hid ?_, Lib.hid ?_⟩
          · have e : (l ++ [d]).map B8 = l.map B8 ++ [.int .u8 (d.toNat : Int)] := by simp [B8]
            rw [e, List.length_append, List.length_singleton, HLN.out]
            exact ho1
          · have hne : some P ≠ (Value.slice A ln cc).ownBlock := fun e => by have := own_block_ge HO.out P e.symm; omega
            have hr := HR.out
            have hb := hgx.grown.block P (in_heap hr) hne
            unfold PRow at hr ⊢
            exact hb.trans hr
          · exact grown_new hgx (fun k hk => by have := own_block_ge HO.out k hk; rw [HBASE.out]; exact this) HG.out
        case measure => simp [intOf]; omega
      · have k34 := H34.out h1
        have k92 := H92.out h2
        have HTD : Hid (TxI (L.drop (i + 1)) (l ++ [c]) (L.drop (q + 1))) := Lib.hid (TxI.any (by rw [← HD.out]; exact HT.out) h1 h2)
        clear h1 h2
        go_wp2_with (at_builtin; refine wpList_app rfl (.tmp 57) (.tmp 59) _ _ rfl rfl rfl (run_append_rd _ base _ _ 5 i0 _ 1 1 Tryd.underlying50 hi0 hz0 hz1 hz2 rfl (.slice A ln cc) _ _ (HO.out.alloc _) (wr.heap.size + 1) (some ⟨wr.heap.size, 0, none⟩) 1 1 [.int .u8 (c.toNat : Int)] rfl (Rd.one wr _ _) (by simp [Value.oneCell']) (by unfold maxLen; omega) (by omega) (by simp; omega)) ?_; rintro v1 w1 ⟨ho1, hg1⟩)
        go_roundw
        case rel =>
          have hgx := hg1.alloc
          refine ⟨q + 1, l ++ [c], by go_num, by omega, Lib.hid ⟨by have := HQL.out; omega, by have := HQL.out; simp only [List.length_append, List.length_singleton]; omega⟩, Lib.hid ?_, Lib.hid (HTD.out), Lib.hid ?_, Lib.hid ?_⟩
          · have e : (l ++ [c]).map B8 = l.map B8 ++ [.int .u8 (c.toNat : Int)] := by simp [B8]
            rw [e, List.length_append, List.length_singleton, HLN.out]
            exact ho1
          · have hne : some P ≠ (Value.slice A ln cc).ownBlock := fun e => by have := own_block_ge HO.out P e.symm; omega
            have hr := HR.out
            have hb := hgx.grown.block P (in_heap hr) hne
            unfold PRow at hr ⊢
            exact hb.trans hr
          · exact grown_new hgx (fun k hk => by have := own_block_ge HO.out k hk; rw [HBASE.out]; exact this) HG.out
        case measure => simp [intOf]; omega
    · have HOT2 : Hid (ot = none) := Lib.hid (by
        have hlx := HLEN.out
        have h0 : L.drop q = [] := List.drop_eq_nil_of_le (by omega)
        rw [← HOT.out]
        refine TxI.none0 (l := l) ?_
        rw [← h0]
        exact HT.out)
      go_wp2_with fail
      go_end0
      refine ⟨rfl, ?_, grown_trans HG.out (grown_set _ _ _ _)⟩
      rw [HOT2.out]
      have hr := HR.out
      unfold TxtOut
      simp only
      unfold PRow at hr ⊢
      exact PRow.set 3 _ hr (by simp)
end Go.Proofs.YtgiahfjndononaaDoor
