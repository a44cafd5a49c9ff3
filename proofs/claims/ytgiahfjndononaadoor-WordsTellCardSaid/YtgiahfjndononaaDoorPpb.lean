/- The document's parser's states; fail, take, sign. -/
import Derived.Test.YtgiahfjndononaaDoorPpa
namespace Go.Proofs.YtgiahfjndononaaDoor
open Go.RowKit
set_option linter.unusedVariables false
set_option linter.unusedSimpArgs false
set_option maxRecDepth 100000

def DSt (w : World) (P : Nat) (s : ByteArray) (L : List UInt8) : Wm.St → Prop
  | .bad e => (∃ a, a ≤ s.size ∧ DRow w P s a ((s.size - e.length : Nat) : Int)) ∧ e.length ≤ s.size
  | .at_ l => DRow w P s (s.size - l.length) (-1) ∧ Wm.Suf l L
def Wm.failS : Wm.St → Wm.St
  | .bad e => .bad e
  | .at_ l => .bad (Wm.tok l).from_
def Wm.takeD (k : Nat) : Wm.St → Wm.St
  | .bad e => .bad e
  | .at_ l => if (Wm.tok l).kind = k then .at_ (Wm.tok l).rest else .bad (Wm.tok l).from_
def Wm.takeV (k : Nat) : Wm.St → List UInt8
  | .bad _ => []
  | .at_ l => if (Wm.tok l).kind = k then (Wm.tok l).say else []
def Wm.signD (c : UInt8) : Wm.St → Wm.St
  | .bad e => .bad e
  | .at_ l => if (Wm.tok l).is c = true then .at_ (Wm.tok l).rest else .at_ l
def Wm.signB (c : UInt8) : Wm.St → Bool
  | .bad _ => false
  | .at_ l => (Wm.tok l).is c
section
variable {w w' : World} {P : Nat} {s : ByteArray} {L : List UInt8} {st : Wm.St}
theorem DSt.row (h : DSt w P s L st) : ∃ a b, DRow w P s a b := by
  cases st with
  | bad e => obtain ⟨⟨a, _, h⟩, _⟩ := h; exact ⟨a, _, h⟩
  | at_ l => exact ⟨_, _, h.1⟩
theorem DSt.lt (h : DSt w P s L st) : P < w.heap.size := by
  obtain ⟨_, _, h⟩ := h.row
  exact in_heap h
theorem DSt.stay (h : DSt w P s L st) (hx : w'.heap[P]? = w.heap[P]?) : DSt w' P s L st := by
  cases st with
  | bad e => obtain ⟨⟨a, ha, h⟩, h2⟩ := h; exact ⟨⟨a, ha, hx.trans h⟩, h2⟩
  | at_ l => exact ⟨hx.trans h.1, h.2⟩
theorem DSt.below {C : Nat} (h : DSt w P s L st) (hb : Below C w w') (hc : P < C) : DSt w' P s L st := h.stay (hb.block P hc)
end
theorem below_grownP {w w' : World} {P : Nat} (h : Below w.heap.size w w') : w.grownBy w' (some P) := ⟨h.os, h.tape, h.output, h.size, fun k hk _ => h.block k hk⟩
theorem ba_inj {a b : ByteArray} (h : a.toList = b.toList) : a = b := by
  have e : ∀ s : ByteArray, s.toList = s.data.toList := fun s => by
    obtain ⟨⟨l⟩⟩ := s
    exact ByteArray.toList_mk l
  rw [e, e] at h
  exact ByteArray.ext (Array.toList_inj.mp h)
set_option maxHeartbeats 4000000 in
theorem dfail_any (s : ByteArray) (L : List UInt8) (P : Nat) (st : Wm.St) (w : World) (hL : s.data.toList = L) (hs : s.size ≤ 1000000) (h : DSt w P s L st) :
    Calls Tryd.prog 22 #[.pointer (some ⟨P, 0, none⟩)] w fun e w' => e = .returned (.tuple #[]) ∧ DSt w' P s L (Wm.failS st) ∧ w.grownBy w' (some P) := by
  cases st with
  | bad e =>
    obtain ⟨⟨a, ha, hrow⟩, hel⟩ := h
    have hc := next_any s L P a ((s.size - e.length : Nat) : Int) w hL hrow ha hs
    obtain ⟨z, hz⟩ : ∃ z, s.size - e.length = z := ⟨_, rfl⟩
    rw [hz] at hrow
    try rw [hz] at hc
    have HZ := Lib.hid hz
    have HAE := Lib.hid (show a ≤ s.size ∧ e.length ≤ s.size from ⟨ha, hel⟩)
    have HR := Lib.hid hrow
    unfold DRow at hrow HR
    unfold NextOf at hc
    generalize Wm.tok (L.drop a) = tk at hc
    obtain ⟨kd, hkd⟩ : ∃ k, tk.kind = k := ⟨_, rfl⟩
    obtain ⟨sv, hsv⟩ : ∃ k, S8 tk.say = k := ⟨_, rfl⟩
    obtain ⟨fa, hfa⟩ : ∃ a, s.size - tk.from_.length = a := ⟨_, rfl⟩
    obtain ⟨ra, hra⟩ : ∃ a, s.size - tk.rest.length = a := ⟨_, rfl⟩
    rw [hkd, hsv, hfa, hra] at hc
    clear hkd hsv hfa hra
    have HC := Lib.hid hc
    have z1 : decide ((z : Int) < 0) = false := decide_eq_false (by omega)
    have z2 : decide (0 ≤ (z : Int)) = true := decide_eq_true (by omega)
    have HST : Hid (DSt w P s L (.bad e)) := Lib.hid ⟨⟨a, ha, by unfold DRow; rw [hz]; exact hrow⟩, hel⟩
    have c1 : w.cell? ⟨P, 1, none⟩ = some (.int .i64 (a : Int)) := cell_of_row _ _ 1 _ _ (0, 0) hrow; have f1 : w.frozen? ⟨P, 1, none⟩ = false := pfrz hrow; have c2 : w.cell? ⟨P, 2, none⟩ = some (.int .i64 (z : Int)) := cell_of_row _ _ 2 _ _ (0, 0) hrow; have f2 : w.frozen? ⟨P, 2, none⟩ = false := pfrz hrow; clear hrow hc hL hs ha hel hz
    go_enter Tryd.func22, Tryd.ntmps22
    go_wp2_with fail
    go_end0
    exact ⟨rfl, HST.out, grown_refl _ _⟩
  | at_ l =>
    obtain ⟨hrow, hsuf⟩ := h
    have hlen := list_len s L hL
    have hle := hsuf.len
    have hll : l.length ≤ s.size := by omega
    have hd : L.drop (s.size - l.length) = l := by rw [← hlen]; exact hsuf.drop
    have hc := next_any s L P (s.size - l.length) (-1) w hL hrow (by omega) hs
    rw [hd] at hc
    have ok := Wm.tok_ok l
    have hfl := ok.froms.len
    have hrl := ok.rests.len
    have HOK := Lib.hid ok
    have HSUF := Lib.hid hsuf
    unfold NextOf at hc
    obtain ⟨a, ha⟩ : ∃ a, s.size - l.length = a := ⟨_, rfl⟩
    obtain ⟨fa, hfa⟩ : ∃ a, s.size - (Wm.tok l).from_.length = a := ⟨_, rfl⟩
    obtain ⟨ra, hra⟩ : ∃ a, s.size - (Wm.tok l).rest.length = a := ⟨_, rfl⟩
    rw [ha] at hrow
    rw [hfa, hra] at hc
    have HFA := Lib.hid hfa
    have HRA := Lib.hid hra
    have HSL := Lib.hid (show (Wm.tok l).from_.length ≤ s.size ∧ (Wm.tok l).rest.length ≤ s.size ∧ fa ≤ s.size ∧ ra ≤ s.size from by omega)
    have HA := Lib.hid ha
    have HR := Lib.hid hrow
    unfold DRow at hrow HR
    have HC := Lib.hid hc
    have c1 : w.cell? ⟨P, 1, none⟩ = some (.int .i64 (a : Int)) := cell_of_row _ _ 1 _ _ (0, 0) hrow; have f1 : w.frozen? ⟨P, 1, none⟩ = false := pfrz hrow; have c2 : w.cell? ⟨P, 2, none⟩ = some (.int .i64 (-1)) := cell_of_row _ _ 2 _ _ (0, 0) hrow; have f2 : w.frozen? ⟨P, 2, none⟩ = false := pfrz hrow; clear hrow hc hL hs hlen hle hll hd hfa hra hfl hrl ok hsuf ha
    go_enter Tryd.func22, Tryd.ntmps22
    go_wp2_with (go_at_call 21; (with_reducible refine HC.out.mono ?_); rintro e1 w1 ⟨rfl, hb1⟩; have HB1 := Lib.hid hb1; have hr1 := (hb1.block _ (in_heap HR.out)).trans HR.out; have HR1 := Lib.hid hr1; have d1 : w1.cell? ⟨P, 1, none⟩ = some (.int .i64 (a : Int)) := cell_of_row _ _ 1 _ _ (0, 0) hr1; have g1 : w1.frozen? ⟨P, 1, none⟩ = false := pfrz hr1; have d2 : w1.cell? ⟨P, 2, none⟩ = some (.int .i64 (-1)) := cell_of_row _ _ 2 _ _ (0, 0) hr1; have g2 : w1.frozen? ⟨P, 2, none⟩ = false := pfrz hr1; clear hr1 hb1)
    go_end0
    refine ⟨rfl, ⟨⟨a, by have := HA.out; omega, ?_⟩, HSL.out.1⟩, grown_trans (below_grownP HB1.out) (grown_set _ _ _ _)⟩
    unfold DRow
    rw [HFA.out]
    exact PRow.set 2 _ HR1.out rfl
set_option maxHeartbeats 4000000 in
theorem dtake_any (s : ByteArray) (L : List UInt8) (P k : Nat) (z0 : Int) (hz0 : z0 = (k : Int)) (st : Wm.St) (w : World) (hL : s.data.toList = L) (hs : s.size ≤ 1000000) (h : DSt w P s L st) (hk : k < 6) :
    Calls Tryd.prog 40 #[.pointer (some ⟨P, 0, none⟩), .int .i64 z0] w fun e w' => e = .returned (.string (S8 (Wm.takeV k st))) ∧ DSt w' P s L (Wm.takeD k st) ∧ w.grownBy w' (some P) := by
  subst hz0
  have HF : Hid (∀ (w1 : World) (st : Wm.St), DSt w1 P s L st → Calls Tryd.prog 22 #[.pointer (some ⟨P, 0, none⟩)] w1 fun e w' => e = .returned (.tuple #[]) ∧ DSt w' P s L (Wm.failS st) ∧ w1.grownBy w' (some P)) := Lib.hid (fun w1 st h => dfail_any s L P st w1 hL hs h)
  cases st with
  | bad e =>
    obtain ⟨⟨a, ha, hrow⟩, hel⟩ := h
    have hc := next_any s L P a ((s.size - e.length : Nat) : Int) w hL hrow ha hs
    obtain ⟨z, hz⟩ : ∃ z, s.size - e.length = z := ⟨_, rfl⟩
    rw [hz] at hrow
    try rw [hz] at hc
    have HZ := Lib.hid hz
    have HAE := Lib.hid (show a ≤ s.size ∧ e.length ≤ s.size from ⟨ha, hel⟩)
    have HR := Lib.hid hrow
    unfold DRow at hrow HR
    unfold NextOf at hc
    generalize Wm.tok (L.drop a) = tk at hc
    obtain ⟨kd, hkd⟩ : ∃ k, tk.kind = k := ⟨_, rfl⟩
    obtain ⟨sv, hsv⟩ : ∃ k, S8 tk.say = k := ⟨_, rfl⟩
    obtain ⟨fa, hfa⟩ : ∃ a, s.size - tk.from_.length = a := ⟨_, rfl⟩
    obtain ⟨ra, hra⟩ : ∃ a, s.size - tk.rest.length = a := ⟨_, rfl⟩
    rw [hkd, hsv, hfa, hra] at hc
    clear hkd hsv hfa hra
    have HC := Lib.hid hc
    have z1 : decide ((z : Int) < 0) = false := decide_eq_false (by omega)
    have z2 : decide (0 ≤ (z : Int)) = true := decide_eq_true (by omega)
    have HST : Hid (DSt w P s L (.bad e)) := Lib.hid ⟨⟨a, ha, by unfold DRow; rw [hz]; exact hrow⟩, hel⟩
    have c1 : w.cell? ⟨P, 1, none⟩ = some (.int .i64 (a : Int)) := cell_of_row _ _ 1 _ _ (0, 0) hrow; have f1 : w.frozen? ⟨P, 1, none⟩ = false := pfrz hrow; have c2 : w.cell? ⟨P, 2, none⟩ = some (.int .i64 (z : Int)) := cell_of_row _ _ 2 _ _ (0, 0) hrow; have f2 : w.frozen? ⟨P, 2, none⟩ = false := pfrz hrow; clear hrow hc hL hs ha hel hz
    go_enter Tryd.func40, Tryd.ntmps40
    go_wp2_with first | (go_at_call 21; (with_reducible refine HC.out.mono ?_); rintro e1 w1 ⟨rfl, hb1⟩; have HB1 := Lib.hid hb1; have hr1 := (hb1.block _ (in_heap HR.out)).trans HR.out; have HR1 := Lib.hid hr1; have HST1 := Lib.hid (HST.out.below hb1 HST.out.lt); have d1 : w1.cell? ⟨P, 1, none⟩ = some (.int .i64 (a : Int)) := cell_of_row _ _ 1 _ _ (0, 0) hr1; have g1 : w1.frozen? ⟨P, 1, none⟩ = false := pfrz hr1; have d2 : w1.cell? ⟨P, 2, none⟩ = some (.int .i64 (z : Int)) := cell_of_row _ _ 2 _ _ (0, 0) hr1; have g2 : w1.frozen? ⟨P, 2, none⟩ = false := pfrz hr1; clear hr1 hb1) | (go_at_call 22; (with_reducible refine (HF.out _ _ HST1.out).mono ?_); rintro e2 w2 ⟨rfl, hs2, hg2⟩; have HS2 := Lib.hid hs2; have HG2 := Lib.hid hg2; clear hs2 hg2)
    go_ret
    exact ⟨rfl, HS2.out, grown_trans (below_grownP HB1.out) HG2.out⟩
  | at_ l =>
    obtain ⟨hrow, hsuf⟩ := h
    have hlen := list_len s L hL
    have hle := hsuf.len
    have hll : l.length ≤ s.size := by omega
    have hd : L.drop (s.size - l.length) = l := by rw [← hlen]; exact hsuf.drop
    have hc := next_any s L P (s.size - l.length) (-1) w hL hrow (by omega) hs
    rw [hd] at hc
    have ok := Wm.tok_ok l
    have hfl := ok.froms.len
    have hrl := ok.rests.len
    have HOK := Lib.hid ok
    have HSUF := Lib.hid hsuf
    unfold NextOf at hc
    obtain ⟨a, ha⟩ : ∃ a, s.size - l.length = a := ⟨_, rfl⟩
    obtain ⟨fa, hfa⟩ : ∃ a, s.size - (Wm.tok l).from_.length = a := ⟨_, rfl⟩
    obtain ⟨ra, hra⟩ : ∃ a, s.size - (Wm.tok l).rest.length = a := ⟨_, rfl⟩
    rw [ha] at hrow
    rw [hfa, hra] at hc
    have HFA := Lib.hid hfa
    have HRA := Lib.hid hra
    have HSL := Lib.hid (show (Wm.tok l).from_.length ≤ s.size ∧ (Wm.tok l).rest.length ≤ s.size ∧ fa ≤ s.size ∧ ra ≤ s.size from by omega)
    have HA := Lib.hid ha
    have HR := Lib.hid hrow
    unfold DRow at hrow HR
    have HC := Lib.hid hc
    have HST : Hid (DSt w P s L (.at_ l)) := Lib.hid ⟨by unfold DRow; rw [ha]; exact hrow, hsuf⟩
    have c1 : w.cell? ⟨P, 1, none⟩ = some (.int .i64 (a : Int)) := cell_of_row _ _ 1 _ _ (0, 0) hrow; have f1 : w.frozen? ⟨P, 1, none⟩ = false := pfrz hrow; have c2 : w.cell? ⟨P, 2, none⟩ = some (.int .i64 (-1)) := cell_of_row _ _ 2 _ _ (0, 0) hrow; have f2 : w.frozen? ⟨P, 2, none⟩ = false := pfrz hrow; obtain ⟨kd, hkd⟩ : ∃ k, (Wm.tok l).kind = k := ⟨_, rfl⟩
    rw [hkd] at HC hc
    have HKD := Lib.hid hkd
    clear hrow hc hL hs hlen hle hll hd hfa hra hfl hrl ok hsuf ha
    by_cases hq : kd = k
    · have HE1 : Hid (Wm.takeD k (.at_ l) = .at_ (Wm.tok l).rest) := Lib.hid (by unfold Wm.takeD; exact if_pos (hkd.trans hq))
      have HE2 : Hid (Wm.takeV k (.at_ l) = (Wm.tok l).say) := Lib.hid (by unfold Wm.takeV; exact if_pos (hkd.trans hq))
      have d1 : ((kd : Int) != (k : Int)) = false := by simp [hq]
      have d2 : (kd != k) = false := by simp [hq]
      rw [HE1.out, HE2.out]
      clear hkd hq
      go_enter Tryd.func40, Tryd.ntmps40
      go_wp2_with first | (go_at_call 21; (with_reducible refine HC.out.mono ?_); rintro e1 w1 ⟨rfl, hb1⟩; have HB1 := Lib.hid hb1; have hr1 := (hb1.block _ (in_heap HR.out)).trans HR.out; have HR1 := Lib.hid hr1; have d1 : w1.cell? ⟨P, 1, none⟩ = some (.int .i64 (a : Int)) := cell_of_row _ _ 1 _ _ (0, 0) hr1; have g1 : w1.frozen? ⟨P, 1, none⟩ = false := pfrz hr1; have d2 : w1.cell? ⟨P, 2, none⟩ = some (.int .i64 (-1)) := cell_of_row _ _ 2 _ _ (0, 0) hr1; have g2 : w1.frozen? ⟨P, 2, none⟩ = false := pfrz hr1; clear hr1 hb1) | (go_at_call 22; fail)
      go_ret
      refine ⟨rfl, ⟨?_, HOK.out.rests.trans (HOK.out.froms.trans HSUF.out)⟩, grown_trans (below_grownP HB1.out) (grown_set _ _ _ _)⟩
      unfold DRow
      rw [HRA.out]
      exact PRow.set 1 _ HR1.out rfl
    · have HE1 : Hid (Wm.takeD k (.at_ l) = Wm.failS (.at_ l)) := Lib.hid (by unfold Wm.takeD; exact if_neg (by rw [hkd]; exact hq))
      have HE2 : Hid (Wm.takeV k (.at_ l) = []) := Lib.hid (by unfold Wm.takeV; exact if_neg (by rw [hkd]; exact hq))
      have d1 : ((kd : Int) == (k : Int)) = false := by rw [beq_eq_false_iff_ne]; omega
      have d2 : (kd == k) = false := by rw [beq_eq_false_iff_ne]; omega
      have d3 : ((kd : Int) != (k : Int)) = true := by simp [bne, d1]
      have d4 : (kd != k) = true := by simp [bne, d2]
      rw [HE1.out, HE2.out]
      clear hkd hq
      go_enter Tryd.func40, Tryd.ntmps40
      go_wp2_with first | (go_at_call 21; (with_reducible refine HC.out.mono ?_); rintro e1 w1 ⟨rfl, hb1⟩; have HB1 := Lib.hid hb1; have hr1 := (hb1.block _ (in_heap HR.out)).trans HR.out; have HR1 := Lib.hid hr1; have HST1 := Lib.hid (HST.out.below hb1 HST.out.lt); have d1 : w1.cell? ⟨P, 1, none⟩ = some (.int .i64 (a : Int)) := cell_of_row _ _ 1 _ _ (0, 0) hr1; have g1 : w1.frozen? ⟨P, 1, none⟩ = false := pfrz hr1; have d2 : w1.cell? ⟨P, 2, none⟩ = some (.int .i64 (-1)) := cell_of_row _ _ 2 _ _ (0, 0) hr1; have g2 : w1.frozen? ⟨P, 2, none⟩ = false := pfrz hr1; clear hr1 hb1) | (go_at_call 22; (with_reducible refine (HF.out _ _ HST1.out).mono ?_); rintro e2 w2 ⟨rfl, hs2, hg2⟩; have HS2 := Lib.hid hs2; have HG2 := Lib.hid hg2; clear hs2 hg2)
      go_ret
      exact ⟨rfl, HS2.out, grown_trans (below_grownP HB1.out) HG2.out⟩
set_option maxHeartbeats 4000000 in
theorem dsign_any (s : ByteArray) (L : List UInt8) (P : Nat) (c : UInt8) (cv : ByteArray) (hcv : cv = S8 [c]) (st : Wm.St) (w : World) (hL : s.data.toList = L) (hs : s.size ≤ 1000000) (h : DSt w P s L st) :
    Calls Tryd.prog 39 #[.pointer (some ⟨P, 0, none⟩), .string cv] w fun e w' => e = .returned (.bool (Wm.signB c st)) ∧ DSt w' P s L (Wm.signD c st) ∧ w.grownBy w' (some P) := by
  cases st with
  | bad e =>
    obtain ⟨⟨a, ha, hrow⟩, hel⟩ := h
    have hc := next_any s L P a ((s.size - e.length : Nat) : Int) w hL hrow ha hs
    obtain ⟨z, hz⟩ : ∃ z, s.size - e.length = z := ⟨_, rfl⟩
    rw [hz] at hrow
    try rw [hz] at hc
    have HZ := Lib.hid hz
    have HAE := Lib.hid (show a ≤ s.size ∧ e.length ≤ s.size from ⟨ha, hel⟩)
    have HR := Lib.hid hrow
    unfold DRow at hrow HR
    unfold NextOf at hc
    generalize Wm.tok (L.drop a) = tk at hc
    obtain ⟨kd, hkd⟩ : ∃ k, tk.kind = k := ⟨_, rfl⟩
    obtain ⟨sv, hsv⟩ : ∃ k, S8 tk.say = k := ⟨_, rfl⟩
    obtain ⟨fa, hfa⟩ : ∃ a, s.size - tk.from_.length = a := ⟨_, rfl⟩
    obtain ⟨ra, hra⟩ : ∃ a, s.size - tk.rest.length = a := ⟨_, rfl⟩
    rw [hkd, hsv, hfa, hra] at hc
    clear hkd hsv hfa hra
    have HC := Lib.hid hc
    have z1 : decide ((z : Int) < 0) = false := decide_eq_false (by omega)
    have z2 : decide (0 ≤ (z : Int)) = true := decide_eq_true (by omega)
    have HST : Hid (DSt w P s L (.bad e)) := Lib.hid ⟨⟨a, ha, by unfold DRow; rw [hz]; exact hrow⟩, hel⟩
    have c1 : w.cell? ⟨P, 1, none⟩ = some (.int .i64 (a : Int)) := cell_of_row _ _ 1 _ _ (0, 0) hrow; have f1 : w.frozen? ⟨P, 1, none⟩ = false := pfrz hrow; have c2 : w.cell? ⟨P, 2, none⟩ = some (.int .i64 (z : Int)) := cell_of_row _ _ 2 _ _ (0, 0) hrow; have f2 : w.frozen? ⟨P, 2, none⟩ = false := pfrz hrow; clear hcv hrow hc hL hs ha hel hz
    go_enter Tryd.func39, Tryd.ntmps39
    go_wp2_with (go_at_call 21; (with_reducible refine HC.out.mono ?_); rintro e1 w1 ⟨rfl, hb1⟩; have HB1 := Lib.hid hb1; have hr1 := (hb1.block _ (in_heap HR.out)).trans HR.out; have HR1 := Lib.hid hr1; have HST1 := Lib.hid (HST.out.below hb1 HST.out.lt); have d1 : w1.cell? ⟨P, 1, none⟩ = some (.int .i64 (a : Int)) := cell_of_row _ _ 1 _ _ (0, 0) hr1; have g1 : w1.frozen? ⟨P, 1, none⟩ = false := pfrz hr1; have d2 : w1.cell? ⟨P, 2, none⟩ = some (.int .i64 (z : Int)) := cell_of_row _ _ 2 _ _ (0, 0) hr1; have g2 : w1.frozen? ⟨P, 2, none⟩ = false := pfrz hr1; clear hr1 hb1)
    go_ret
    exact ⟨rfl, HST1.out, below_grownP HB1.out⟩
  | at_ l =>
    obtain ⟨hrow, hsuf⟩ := h
    have hlen := list_len s L hL
    have hle := hsuf.len
    have hll : l.length ≤ s.size := by omega
    have hd : L.drop (s.size - l.length) = l := by rw [← hlen]; exact hsuf.drop
    have hc := next_any s L P (s.size - l.length) (-1) w hL hrow (by omega) hs
    rw [hd] at hc
    have ok := Wm.tok_ok l
    have hfl := ok.froms.len
    have hrl := ok.rests.len
    have HOK := Lib.hid ok
    have HSUF := Lib.hid hsuf
    unfold NextOf at hc
    obtain ⟨a, ha⟩ : ∃ a, s.size - l.length = a := ⟨_, rfl⟩
    obtain ⟨fa, hfa⟩ : ∃ a, s.size - (Wm.tok l).from_.length = a := ⟨_, rfl⟩
    obtain ⟨ra, hra⟩ : ∃ a, s.size - (Wm.tok l).rest.length = a := ⟨_, rfl⟩
    rw [ha] at hrow
    rw [hfa, hra] at hc
    have HFA := Lib.hid hfa
    have HRA := Lib.hid hra
    have HSL := Lib.hid (show (Wm.tok l).from_.length ≤ s.size ∧ (Wm.tok l).rest.length ≤ s.size ∧ fa ≤ s.size ∧ ra ≤ s.size from by omega)
    have HA := Lib.hid ha
    have HR := Lib.hid hrow
    unfold DRow at hrow HR
    have HC := Lib.hid hc
    have HST : Hid (DSt w P s L (.at_ l)) := Lib.hid ⟨by unfold DRow; rw [ha]; exact hrow, hsuf⟩
    have c1 : w.cell? ⟨P, 1, none⟩ = some (.int .i64 (a : Int)) := cell_of_row _ _ 1 _ _ (0, 0) hrow; have f1 : w.frozen? ⟨P, 1, none⟩ = false := pfrz hrow; have c2 : w.cell? ⟨P, 2, none⟩ = some (.int .i64 (-1)) := cell_of_row _ _ 2 _ _ (0, 0) hrow; have f2 : w.frozen? ⟨P, 2, none⟩ = false := pfrz hrow; obtain ⟨kd, hkd⟩ : ∃ k, (Wm.tok l).kind = k := ⟨_, rfl⟩
    obtain ⟨sy, hsy⟩ : ∃ k, (Wm.tok l).say = k := ⟨_, rfl⟩
    obtain ⟨sv, hsv⟩ : ∃ k, S8 sy = k := ⟨_, rfl⟩
    have HIS : Hid ((Wm.tok l).is c = (decide (kd = 4) && decide (sy = [c]))) := Lib.hid (by unfold Wm.Tk.is; rw [hkd, hsy])
    have HEQ : Hid (sy = [c] ↔ sv = cv) := Lib.hid (by
      rw [← hsv, hcv]
      constructor
      · intro h; rw [h]
      · intro h; have := congrArg (fun x => x.data.toList) h; simpa [S8] using this)
    rw [hkd, hsy, hsv] at HC hc
    clear hcv hrow hc hL hs hlen hle hll hd hfa hra hfl hrl ok hsuf ha hsv hsy hkd
    rcases (show (kd ≠ 4 ∧ (Wm.tok l).is c = false) ∨ (kd = 4 ∧ sv ≠ cv ∧ (Wm.tok l).is c = false) ∨ (kd = 4 ∧ sv = cv ∧ (Wm.tok l).is c = true) from by
      rw [HIS.out]
      by_cases h1 : kd = 4
      · by_cases h2 : sv = cv
        · exact .inr (.inr ⟨h1, h2, by simp [h1, HEQ.out.2 h2]⟩)
        · exact .inr (.inl ⟨h1, h2, by simp [h1]; exact fun h => h2 (HEQ.out.1 h)⟩)
      · exact .inl ⟨h1, by simp [h1]⟩) with ⟨h1, h3⟩ | ⟨h1, h2, h3⟩ | ⟨h1, h2, h3⟩
    · have HE1 : Hid (Wm.signD c (.at_ l) = .at_ l) := Lib.hid (by unfold Wm.signD; exact if_neg (by rw [h3]; decide))
      have HE2 : Hid (Wm.signB c (.at_ l) = false) := Lib.hid h3
      have d1 : ((kd : Int) == 4) = false := by rw [beq_eq_false_iff_ne]; omega
      have d3 : ((kd : Int) != 4) = true := by simp [bne, d1]
      rw [HE1.out, HE2.out]
      clear h1 h3
      go_enter Tryd.func39, Tryd.ntmps39
      go_wp2_with (go_at_call 21; (with_reducible refine HC.out.mono ?_); rintro e1 w1 ⟨rfl, hb1⟩; have HB1 := Lib.hid hb1; have hr1 := (hb1.block _ (in_heap HR.out)).trans HR.out; have HR1 := Lib.hid hr1; have HST1 := Lib.hid (HST.out.below hb1 HST.out.lt); have d1 : w1.cell? ⟨P, 1, none⟩ = some (.int .i64 (a : Int)) := cell_of_row _ _ 1 _ _ (0, 0) hr1; have g1 : w1.frozen? ⟨P, 1, none⟩ = false := pfrz hr1; have d2 : w1.cell? ⟨P, 2, none⟩ = some (.int .i64 (-1)) := cell_of_row _ _ 2 _ _ (0, 0) hr1; have g2 : w1.frozen? ⟨P, 2, none⟩ = false := pfrz hr1; clear hr1 hb1)
      go_ret
      exact ⟨rfl, HST1.out, below_grownP HB1.out⟩
    · have HE1 : Hid (Wm.signD c (.at_ l) = .at_ l) := Lib.hid (by unfold Wm.signD; exact if_neg (by rw [h3]; decide))
      have HE2 : Hid (Wm.signB c (.at_ l) = false) := Lib.hid h3
      have d1 : ((kd : Int) != 4) = false := by rw [h1]; rfl
      have k1 : (sv.toList == cv.toList) = false := beq_eq_false_iff_ne.2 (fun h => h2 (ba_inj h))
      rw [HE1.out, HE2.out]
      clear h1 h3 h2
      go_enter Tryd.func39, Tryd.ntmps39
      go_wp2_with (go_at_call 21; (with_reducible refine HC.out.mono ?_); rintro e1 w1 ⟨rfl, hb1⟩; have HB1 := Lib.hid hb1; have hr1 := (hb1.block _ (in_heap HR.out)).trans HR.out; have HR1 := Lib.hid hr1; have HST1 := Lib.hid (HST.out.below hb1 HST.out.lt); have d1 : w1.cell? ⟨P, 1, none⟩ = some (.int .i64 (a : Int)) := cell_of_row _ _ 1 _ _ (0, 0) hr1; have g1 : w1.frozen? ⟨P, 1, none⟩ = false := pfrz hr1; have d2 : w1.cell? ⟨P, 2, none⟩ = some (.int .i64 (-1)) := cell_of_row _ _ 2 _ _ (0, 0) hr1; have g2 : w1.frozen? ⟨P, 2, none⟩ = false := pfrz hr1; clear hr1 hb1)
      go_ret
      exact ⟨rfl, HST1.out, below_grownP HB1.out⟩
    · have HE1 : Hid (Wm.signD c (.at_ l) = .at_ (Wm.tok l).rest) := Lib.hid (by unfold Wm.signD; exact if_pos h3)
      have HE2 : Hid (Wm.signB c (.at_ l) = true) := Lib.hid h3
      have d1 : ((kd : Int) != 4) = false := by rw [h1]; rfl
      have k1 : (sv.toList == cv.toList) = true := by rw [h2]; exact beq_self_eq_true _
      rw [HE1.out, HE2.out]
      clear h1 h3 h2
      go_enter Tryd.func39, Tryd.ntmps39
      go_wp2_with (go_at_call 21; (with_reducible refine HC.out.mono ?_); rintro e1 w1 ⟨rfl, hb1⟩; have HB1 := Lib.hid hb1; have hr1 := (hb1.block _ (in_heap HR.out)).trans HR.out; have HR1 := Lib.hid hr1; have d1 : w1.cell? ⟨P, 1, none⟩ = some (.int .i64 (a : Int)) := cell_of_row _ _ 1 _ _ (0, 0) hr1; have g1 : w1.frozen? ⟨P, 1, none⟩ = false := pfrz hr1; have d2 : w1.cell? ⟨P, 2, none⟩ = some (.int .i64 (-1)) := cell_of_row _ _ 2 _ _ (0, 0) hr1; have g2 : w1.frozen? ⟨P, 2, none⟩ = false := pfrz hr1; clear hr1 hb1)
      go_ret
      refine ⟨rfl, ⟨?_, HOK.out.rests.trans (HOK.out.froms.trans HSUF.out)⟩, grown_trans (below_grownP HB1.out) (grown_set _ _ _ _)⟩
      unfold DRow
      rw [HRA.out]
      exact PRow.set 1 _ HR1.out rfl
end Go.Proofs.YtgiahfjndononaaDoor
