/- The parser's states; take, quoted. -/
import Derived.Test.YtgiahfjndononaaDoorPoe
namespace Go.Proofs.YtgiahfjndononaaDoor
open Go.RowKit
set_option linter.unusedVariables false
set_option linter.unusedSimpArgs false
set_option maxRecDepth 100000

/-- A parser's state: bad, from there on; or the token ahead of these bytes. -/
inductive Wm.St where
  | bad (e : List UInt8)
  | at_ (l : List UInt8)
def BadAt (w : World) (P : Nat) (s : ByteArray) (e : List UInt8) : Prop := ∃ nx at_ kd tx n, PRow w P s nx at_ kd tx n true ∧ at_ + e.length = s.size ∧ tx.size ≤ 1000000 ∧ n < 10000000000
def PSt (w : World) (P : Nat) (s : ByteArray) (L : List UInt8) : Wm.St → Prop
  | .bad e => BadAt w P s e
  | .at_ l => TokAt w P s (Wm.tok l) ∧ Wm.Suf l L
theorem tok_code5 {t : Wm.Tk} (h : t.kind = 5) : t.code = 0 := by unfold Wm.Tk.code; rw [h]; rfl
theorem code_word {l : List UInt8} : (Wm.tok l).code = 97 ↔ (Wm.tok l).kind = 1 := by
  have h := Wm.tok_ok l
  have hk := h.kinds
  have hs := h.sig
  unfold Wm.Tk.code
  generalize (Wm.tok l).kind = k at *
  rcases (show k = 0 ∨ k = 1 ∨ k = 2 ∨ k = 3 ∨ k = 4 ∨ k = 5 from by omega) with rfl | rfl | rfl | rfl | rfl | rfl
  · simp
  · simp
  · simp
  · simp
  · rcases hs rfl with e | e | e <;> rw [e] <;> simp
  · simp
theorem code_num {l : List UInt8} : (Wm.tok l).code = 48 ↔ (Wm.tok l).kind = 2 := by
  have h := Wm.tok_ok l
  have hk := h.kinds
  have hs := h.sig
  unfold Wm.Tk.code
  generalize (Wm.tok l).kind = k at *
  rcases (show k = 0 ∨ k = 1 ∨ k = 2 ∨ k = 3 ∨ k = 4 ∨ k = 5 from by omega) with rfl | rfl | rfl | rfl | rfl | rfl
  · simp
  · simp
  · simp
  · simp
  · rcases hs rfl with e | e | e <;> rw [e] <;> simp
  · simp
theorem code_text {l : List UInt8} : (Wm.tok l).code = 34 ↔ (Wm.tok l).kind = 3 := by
  have h := Wm.tok_ok l
  have hk := h.kinds
  have hs := h.sig
  unfold Wm.Tk.code
  generalize (Wm.tok l).kind = k at *
  rcases (show k = 0 ∨ k = 1 ∨ k = 2 ∨ k = 3 ∨ k = 4 ∨ k = 5 from by omega) with rfl | rfl | rfl | rfl | rfl | rfl
  · simp
  · simp
  · simp
  · simp
  · rcases hs rfl with e | e | e <;> rw [e] <;> simp
  · simp
theorem code_end {l : List UInt8} : (Wm.tok l).code = 1 ↔ (Wm.tok l).kind = 0 := by
  have h := Wm.tok_ok l
  have hk := h.kinds
  have hs := h.sig
  unfold Wm.Tk.code
  generalize (Wm.tok l).kind = k at *
  rcases (show k = 0 ∨ k = 1 ∨ k = 2 ∨ k = 3 ∨ k = 4 ∨ k = 5 from by omega) with rfl | rfl | rfl | rfl | rfl | rfl
  · simp
  · simp
  · simp
  · simp
  · rcases hs rfl with e | e | e <;> rw [e] <;> simp
  · simp
theorem code_sign {l : List UInt8} {c : UInt8} (hc : c = 40 ∨ c = 41 ∨ c = 44) : (Wm.tok l).code = c.toNat ↔ (Wm.tok l).is c = true := by
  have h := Wm.tok_ok l
  have hk := h.kinds
  have hs := h.sig
  unfold Wm.Tk.code Wm.Tk.is
  generalize (Wm.tok l).kind = k at *
  rcases (show k = 0 ∨ k = 1 ∨ k = 2 ∨ k = 3 ∨ k = 4 ∨ k = 5 from by omega) with rfl | rfl | rfl | rfl | rfl | rfl
  · rcases hc with rfl | rfl | rfl <;> simp
  · rcases hc with rfl | rfl | rfl <;> simp
  · rcases hc with rfl | rfl | rfl <;> simp
  · rcases hc with rfl | rfl | rfl <;> simp
  · rcases hs rfl with e | e | e <;> rw [e] <;> rcases hc with rfl | rfl | rfl <;> simp
  · rcases hc with rfl | rfl | rfl <;> simp
theorem code_lt (l : List UInt8) : (Wm.tok l).code < 256 := by
  unfold Wm.Tk.code
  repeat' split
  all_goals first | omega | exact UInt8.toNat_lt _
section
variable {w w' : World} {P : Nat} {s : ByteArray} {L : List UInt8} {st : Wm.St}
theorem PSt.row (h : PSt w P s L st) : ∃ nx at_ kd tx n bd, PRow w P s nx at_ kd tx n bd := by
  cases st with
  | bad e => obtain ⟨a, b, c, d, n, h, _⟩ := h; exact ⟨a, b, c, d, n, true, h⟩
  | at_ l => obtain ⟨⟨a, b, c, n, h⟩, _⟩ := h; exact ⟨a, b, _, c, n, false, h.row⟩
theorem PSt.lt (h : PSt w P s L st) : P < w.heap.size := by
  obtain ⟨_, _, _, _, _, _, h⟩ := h.row
  exact in_heap h
theorem PSt.stay (h : PSt w P s L st) (hx : w'.heap[P]? = w.heap[P]?) : PSt w' P s L st := by
  cases st with
  | bad e => obtain ⟨a, b, c, d, n, h, h2⟩ := h; exact ⟨a, b, c, d, n, hx.trans h, h2⟩
  | at_ l => obtain ⟨⟨a, b, c, n, h⟩, h2⟩ := h; exact ⟨⟨a, b, c, n, ⟨hx.trans h.row, h.from_, h.say, h.num, h.next, h.txs, h.ns⟩⟩, h2⟩
theorem PSt.below {C : Nat} (h : PSt w P s L st) (hb : Below C w w') (hc : P < C) : PSt w' P s L st := h.stay (hb.block P hc)
end
def Wm.takeS (k : Nat) : Wm.St → Wm.St
  | .bad e => .bad e
  | .at_ l => if (Wm.tok l).code = k then .at_ (Wm.tok l).rest else .bad (Wm.tok l).from_
theorem next_drop {t : Wm.Tk} {w : World} {P : Nat} {s : ByteArray} {L : List UInt8} {nx at_ n : Nat} {tx : ByteArray} (hL : s.data.toList = L) (h : TokIs w P s t nx at_ tx n) (hk : t.kind ≠ 5) (hs : Wm.Suf t.rest L) : L.drop nx = t.rest ∧ nx ≤ s.size := by
  have h1 := h.next hk
  have h2 := hs.drop
  have h3 := list_len s L hL
  have h4 := hs.len
  rw [show L.length - t.rest.length = nx from by omega] at h2
  exact ⟨h2, by omega⟩
/-- The token is read on from. -/
theorem readon_any (s : ByteArray) (L l : List UInt8) (P : Nat) (w : World) (hL : s.data.toList = L) (hs : s.size ≤ 1000000) (h : PSt w P s L (.at_ l)) (hk : (Wm.tok l).kind ≠ 5) :
    Calls Tryd.prog 17 #[.pointer (some ⟨P, 0, none⟩)] w fun e w' => e = .returned (.tuple #[]) ∧ PSt w' P s L (.at_ (Wm.tok l).rest) ∧ w.grownBy w' (some P) := by
  obtain ⟨⟨nx, at0, tx, n, h⟩, hsuf⟩ := h
  have hr : Wm.Suf (Wm.tok l).rest L := (Wm.tok_ok l).rests.trans ((Wm.tok_ok l).froms.trans hsuf)
  obtain ⟨h1, h2⟩ := next_drop hL h hk hr
  have hc := read_any s L P nx at0 (Wm.tok l).code n tx w hL h.row h2 hs
  rw [h1] at hc
  exact hc.mono fun e w' hh => ⟨hh.1, ⟨hh.2.1, hr⟩, hh.2.2⟩
set_option maxHeartbeats 4000000 in
theorem take_any (s : ByteArray) (L : List UInt8) (P k : Nat) (st : Wm.St) (w : World) (hL : s.data.toList = L) (hs : s.size ≤ 1000000) (h : PSt w P s L st) (hk : 0 < k) (hk2 : k < 256) :
    Calls Tryd.prog 35 #[.pointer (some ⟨P, 0, none⟩), .int .u8 (k : Int)] w fun e w' => e = .returned (.tuple #[]) ∧ PSt w' P s L (Wm.takeS k st) ∧ w.grownBy w' (some P) := by
  have HLL := Lib.hid hL
  have HS := Lib.hid hs
  cases st with
  | bad e =>
    obtain ⟨nx, at0, kd, tx, n, hr, he, htx, hn⟩ := h
    have hrow := hr
    unfold PRow at hrow
    have c3 : w.cell? ⟨P, 3, none⟩ = some (.int .u8 (kd : Int)) := cell_of_row _ _ 3 _ _ (0, 0) hrow
    have c6 : w.cell? ⟨P, 6, none⟩ = some (.bool true) := cell_of_row _ _ 6 _ _ (0, 0) hrow
    have f6 : w.frozen? ⟨P, 6, none⟩ = false := pfrz hrow
    have hr2 : PRow (w.setCell ⟨P, 6, none⟩ (.bool true)) P s nx at0 kd tx n true := by
      unfold PRow
      exact PRow.set 6 _ hrow rfl
    have RB1 := Lib.hid (read_bad s P nx at0 kd n tx w hr)
    have RB2 := Lib.hid (read_bad s P nx at0 kd n tx _ hr2)
    have HR1 := Lib.hid (show PSt w P s L (.bad e) from ⟨nx, at0, kd, tx, n, hr, he, htx, hn⟩)
    have HR2 := Lib.hid (show PSt (w.setCell ⟨P, 6, none⟩ (.bool true)) P s L (.bad e) from ⟨nx, at0, kd, tx, n, hr2, he, htx, hn⟩)
    clear hrow hr hr2 hL hs he htx hn
    by_cases hq : kd = k
    · have d1 : ((kd : Int) != (k : Int)) = false := by simp [hq]
      have d2 : (kd != k) = false := by simp [hq]
      have HQ := Lib.hid hq
      clear hq
      go_enter Tryd.func35, Tryd.ntmps35
      go_wp2_with (go_at_call 17; (with_reducible refine RB1.out.mono ?_); rintro e1 w1 ⟨rfl, hw1⟩; subst hw1)
      go_end0
      exact ⟨rfl, HR1.out, grown_refl _ _⟩
    · have d1 : ((kd : Int) == (k : Int)) = false := by rw [beq_eq_false_iff_ne]; omega
      have d2 : (kd == k) = false := by rw [beq_eq_false_iff_ne]; omega
      have d3 : ((kd : Int) != (k : Int)) = true := by simp [bne, d1]
      have d4 : (kd != k) = true := by simp [bne, d2]
      clear hq
      go_enter Tryd.func35, Tryd.ntmps35
      go_wp2_with (go_at_call 17; (with_reducible refine RB2.out.mono ?_); rintro e1 w1 ⟨rfl, hw1⟩; subst hw1)
      go_end0
      exact ⟨rfl, HR2.out, grown_set _ _ _ _⟩
  | at_ l =>
    obtain ⟨⟨nx, at0, tx, n, h⟩, hsuf⟩ := h
    have hrow := h.row
    have H := Lib.hid h
    unfold PRow at hrow
    have c3 : w.cell? ⟨P, 3, none⟩ = some (.int .u8 ((Wm.tok l).code : Int)) := cell_of_row _ _ 3 _ _ (0, 0) hrow
    have c6 : w.cell? ⟨P, 6, none⟩ = some (.bool false) := cell_of_row _ _ 6 _ _ (0, 0) hrow
    have f6 : w.frozen? ⟨P, 6, none⟩ = false := pfrz hrow
    by_cases hq : (Wm.tok l).code = k
    · have HC := Lib.hid (readon_any s L l P w hL hs ⟨⟨nx, at0, tx, n, h⟩, hsuf⟩ (fun e => by rw [tok_code5 e] at hq; omega))
      have HE : Hid (Wm.takeS k (.at_ l) = .at_ (Wm.tok l).rest) := Lib.hid (by unfold Wm.takeS; exact if_pos hq)
      have d1 : ((((Wm.tok l).code : Nat) : Int) != (k : Int)) = false := by simp [hq]
      have d2 : ((Wm.tok l).code != k) = false := by simp [hq]
      rw [HE.out]
      clear hrow h hL hs hsuf hq
      go_enter Tryd.func35, Tryd.ntmps35
      go_wp2_with (go_at_call 17; (with_reducible refine HC.out.mono ?_); rintro e1 w1 ⟨rfl, hr1, hg1⟩; have HR1 := Lib.hid hr1; have HG1 := Lib.hid hg1; clear hr1 hg1)
      go_end0
      exact ⟨rfl, HR1.out, HG1.out⟩
    · have HE : Hid (Wm.takeS k (.at_ l) = .bad (Wm.tok l).from_) := Lib.hid (by unfold Wm.takeS; exact if_neg hq)
      have hr2 : PRow (w.setCell ⟨P, 6, none⟩ (.bool true)) P s nx at0 (Wm.tok l).code tx n true := by
        unfold PRow
        exact PRow.set 6 _ hrow rfl
      have RB2 := Lib.hid (read_bad s P nx at0 (Wm.tok l).code n tx _ hr2)
      have HR2 := Lib.hid (show PSt (w.setCell ⟨P, 6, none⟩ (.bool true)) P s L (.bad (Wm.tok l).from_) from ⟨nx, at0, (Wm.tok l).code, tx, n, hr2, h.from_, h.txs, h.ns⟩)
      have d1 : ((((Wm.tok l).code : Nat) : Int) == (k : Int)) = false := by rw [beq_eq_false_iff_ne]; omega
      have d2 : ((Wm.tok l).code == k) = false := by rw [beq_eq_false_iff_ne]; omega
      have d3 : ((((Wm.tok l).code : Nat) : Int) != (k : Int)) = true := by simp [bne, d1]
      have d4 : ((Wm.tok l).code != k) = true := by simp [bne, d2]
      rw [HE.out]
      clear hrow h hL hs hsuf hq hr2
      go_enter Tryd.func35, Tryd.ntmps35
      go_wp2_with (go_at_call 17; (with_reducible refine RB2.out.mono ?_); rintro e1 w1 ⟨rfl, hw1⟩; subst hw1)
      go_end0
      exact ⟨rfl, HR2.out, grown_set _ _ _ _⟩
theorem take_z (s : ByteArray) (L : List UInt8) (P k : Nat) (z : Int) (hz : z = (k : Int)) (st : Wm.St) (w : World) (hL : s.data.toList = L) (hs : s.size ≤ 1000000) (h : PSt w P s L st) (hk : 0 < k) (hk2 : k < 256) :
    Calls Tryd.prog 35 #[.pointer (some ⟨P, 0, none⟩), .int .u8 z] w fun e w' => e = .returned (.tuple #[]) ∧ PSt w' P s L (Wm.takeS k st) ∧ w.grownBy w' (some P) := by
  subst hz
  exact take_any s L P k st w hL hs h hk hk2
/-- What quoted hands back: the text, where there is one. -/
def Wm.saysS : Wm.St → ByteArray → Prop
  | .bad _, _ => True
  | .at_ l, v => (Wm.tok l).kind = 3 → v = S8 (Wm.tok l).say
set_option maxHeartbeats 4000000 in
theorem quoted_any (s : ByteArray) (L : List UInt8) (P : Nat) (st : Wm.St) (w : World) (hL : s.data.toList = L) (hs : s.size ≤ 1000000) (h : PSt w P s L st) :
    Calls Tryd.prog 34 #[.pointer (some ⟨P, 0, none⟩)] w fun e w' => ∃ v, e = .returned (.string v) ∧ v.size ≤ 1000000 ∧ Wm.saysS st v ∧ PSt w' P s L (Wm.takeS 34 st) ∧ w.grownBy w' (some P) := by
  have HC := Lib.hid (take_z s L P 34 34 rfl st w hL hs h (by decide) (by decide))
  have hv : ∃ v, w.cell? ⟨P, 4, none⟩ = some (.string v) ∧ v.size ≤ 1000000 ∧ Wm.saysS st v := by
    cases st with
    | bad e =>
      obtain ⟨nx, at0, kd, tx, n, hr, he, htx, hn⟩ := h
      unfold PRow at hr
      exact ⟨tx, cell_of_row _ _ 4 _ _ (0, 0) hr, htx, trivial⟩
    | at_ l =>
      obtain ⟨⟨nx, at0, tx, n, h⟩, hsuf⟩ := h
      have hr := h.row
      unfold PRow at hr
      exact ⟨tx, cell_of_row _ _ 4 _ _ (0, 0) hr, h.txs, fun hk => h.say (.inr hk)⟩
  obtain ⟨v, c4, hv1, hv2⟩ := hv
  have HV1 := Lib.hid hv1
  have HV2 := Lib.hid hv2
  clear h hL hs hv1 hv2
  go_enter Tryd.func34, Tryd.ntmps34
  go_wp2_with (go_at_call 35; (with_reducible refine HC.out.mono ?_); rintro e1 w1 ⟨rfl, hr1, hg1⟩; have HR1 := Lib.hid hr1; have HG1 := Lib.hid hg1; clear hr1 hg1)
  go_ret
  exact ⟨v, rfl, HV1.out, HV2.out, HR1.out, HG1.out⟩
theorem word_all (k : Nat) (h1 : 1 ≤ k) (h2 : k ≤ 9) (w : World) : Calls Tryd.prog 41 #[.int .i64 (k : Int)] w fun e w' => e = .returned (.string (S8 (Wm.wd k))) ∧ w' = w := by
  obtain ⟨v, hv⟩ : ∃ v, v = S8 (Wm.wd k) := ⟨_, rfl⟩
  have HV := Lib.hid hv
  rw [← hv]
  clear hv
  obtain ⟨z, hz⟩ : ∃ z : Int, z = (k : Int) := ⟨_, rfl⟩
  rw [← hz]
  have HZ := Lib.hid hz
  clear hz
  rcases (show k = 1 ∨ k = 2 ∨ k = 3 ∨ k = 4 ∨ k = 5 ∨ k = 6 ∨ k = 7 ∨ k = 8 ∨ k = 9 from by omega) with rfl | rfl | rfl | rfl | rfl | rfl | rfl | rfl | rfl
  · have hz : z = 1 := HZ.out
    subst hz
    go_enter Tryd.func41, Tryd.ntmps41
    go_wp2_with fail
    go_ret
    exact ⟨by rw [HV.out]; rfl, rfl⟩
  · have hz : z = 2 := HZ.out
    subst hz
    go_enter Tryd.func41, Tryd.ntmps41
    go_wp2_with fail
    go_ret
    exact ⟨by rw [HV.out]; rfl, rfl⟩
  · have hz : z = 3 := HZ.out
    subst hz
    go_enter Tryd.func41, Tryd.ntmps41
    go_wp2_with fail
    go_ret
    exact ⟨by rw [HV.out]; rfl, rfl⟩
  · have hz : z = 4 := HZ.out
    subst hz
    go_enter Tryd.func41, Tryd.ntmps41
    go_wp2_with fail
    go_ret
    exact ⟨by rw [HV.out]; rfl, rfl⟩
  · have hz : z = 5 := HZ.out
    subst hz
    go_enter Tryd.func41, Tryd.ntmps41
    go_wp2_with fail
    go_ret
    exact ⟨by rw [HV.out]; rfl, rfl⟩
  · have hz : z = 6 := HZ.out
    subst hz
    go_enter Tryd.func41, Tryd.ntmps41
    go_wp2_with fail
    go_ret
    exact ⟨by rw [HV.out]; rfl, rfl⟩
  · have hz : z = 7 := HZ.out
    subst hz
    go_enter Tryd.func41, Tryd.ntmps41
    go_wp2_with fail
    go_ret
    exact ⟨by rw [HV.out]; rfl, rfl⟩
  · have hz : z = 8 := HZ.out
    subst hz
    go_enter Tryd.func41, Tryd.ntmps41
    go_wp2_with fail
    go_ret
    exact ⟨by rw [HV.out]; rfl, rfl⟩
  · have hz : z = 9 := HZ.out
    subst hz
    go_enter Tryd.func41, Tryd.ntmps41
    go_wp2_with fail
    go_ret
    exact ⟨by rw [HV.out]; rfl, rfl⟩
theorem kw_wd (k : Nat) (h1 : 1 ≤ k) (h2 : k ≤ 9) : Wm.kw (Wm.wd k) = k := by
  rcases (show k = 1 ∨ k = 2 ∨ k = 3 ∨ k = 4 ∨ k = 5 ∨ k = 6 ∨ k = 7 ∨ k = 8 ∨ k = 9 from by omega) with rfl | rfl | rfl | rfl | rfl | rfl | rfl | rfl | rfl <;> decide
theorem kw_none {w : List UInt8} (h : ∀ j, 1 ≤ j → j ≤ 9 → w ≠ Wm.wd j) : Wm.kw w = 0 := by
  unfold Wm.kw
  rw [if_neg (h 1 (by omega) (by omega)), if_neg (h 2 (by omega) (by omega)), if_neg (h 3 (by omega) (by omega)), if_neg (h 4 (by omega) (by omega)), if_neg (h 5 (by omega) (by omega)), if_neg (h 6 (by omega) (by omega)), if_neg (h 7 (by omega) (by omega)), if_neg (h 8 (by omega) (by omega)), if_neg (h 9 (by omega) (by omega))]
theorem btl (x : ByteArray) : x.toList = x.data.toList := by
  obtain ⟨⟨l⟩⟩ := x
  exact ByteArray.toList_mk l
set_option maxHeartbeats 4000000 in
theorem kindof_any (tx : ByteArray) (w : World) : Calls Tryd.prog 33 #[.string tx] w fun e w' => e = .returned (.int .i64 (Wm.kw tx.data.toList : Int)) ∧ w' = w := by
  obtain ⟨r, hr⟩ : ∃ r, Wm.kw tx.data.toList = r := ⟨_, rfl⟩
  have HR := Lib.hid hr
  rw [hr]
  clear hr
  go_enter Tryd.func33, Tryd.ntmps33
  go_wp2_with fail
  go_loopw [3] (fun x wr => ∃ k : Nat, x = .int .i64 (k : Int) ∧ 1 ≤ k ∧ k ≤ 10 ∧ Hid (wr = w) ∧ Hid (∀ j, 1 ≤ j → j < k → tx.data.toList ≠ Wm.wd j)) (fun x _ => 10 - (intOf x).toNat)
  case atStart => exact ⟨1, rfl, by omega, by omega, Lib.hid rfl, Lib.hid (fun j h1 h2 => by omega)⟩
  case round =>
    obtain ⟨k, rfl, h1, h2, HW, HN⟩ := hrel
    by_cases hk : k ≤ 9
    · have WC := Lib.hid (word_all k h1 hk)
      obtain ⟨v, hv⟩ : ∃ v, v = S8 (Wm.wd k) := ⟨_, rfl⟩
      rw [← hv] at WC
      have hvl : v.toList = Wm.wd k := by rw [hv]; exact ByteArray.toList_mk _
      by_cases he : tx.data.toList = Wm.wd k
      · have HE : Hid (r = k) := Lib.hid (by rw [← HR.out, he]; exact kw_wd k h1 hk)
        have d1 : (v.toList == tx.toList) = true := by rw [beq_iff_eq, hvl, btl, he]
        clear hv hvl he
        go_wp2_with (go_at_call 41; (with_reducible refine (WC.out _).mono ?_); rintro e1 w1 ⟨rfl, hw1⟩; subst hw1)
        go_ret
        exact ⟨by rw [HE.out]; rfl, HW.out⟩
      · have HN2 : Hid (∀ j, 1 ≤ j → j < k + 1 → tx.data.toList ≠ Wm.wd j) := Lib.hid (fun j g1 g2 => by
          rcases Nat.lt_or_ge j k with g | g
          · exact HN.out j g1 g
          · rw [show j = k from by omega]; exact he)
        have d1 : (v.toList == tx.toList) = false := by rw [beq_eq_false_iff_ne, hvl, btl]; exact fun e => he e.symm
        clear hv hvl he
        go_wp2_with (go_at_call 41; (with_reducible refine (WC.out _).mono ?_); rintro e1 w1 ⟨rfl, hw1⟩; subst hw1)
        go_roundw
        case rel => exact ⟨k + 1, by go_num, by omega, by omega, HW, HN2⟩
        case measure => simp [intOf]; omega
    · have HE : Hid (r = 0) := Lib.hid (by rw [← HR.out]; exact kw_none (fun j g1 g2 => HN.out j g1 (by omega)))
      go_wp2_with fail
      go_ret
      exact ⟨by rw [HE.out]; rfl, HW.out⟩
end Go.Proofs.YtgiahfjndononaaDoor
