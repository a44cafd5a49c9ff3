/- The document's Open and ReadBatch. -/
import Derived.Test.YthkclgkbidhmbaaDs
import Derived.Test.YthkclgkbidhmbaaDq
import Derived.Test.YthkclgkbidhmbaaDy
import Derived.Test.YthkclgkbidhmbaaBs
import Derived.Deep.QuietTactic
import Derived.BigQuiet
namespace Go.Proofs.Ythkclgkbidhmbaa
open Go.RowKit
set_option linter.unusedVariables false
set_option linter.unusedSimpArgs false
set_option maxRecDepth 100000

def OpF (b off n c m s : Nat) (sa sb : ByteArray) (ne : Bool) (d4 : List UInt8) (base : Nat) : Nat → Value → World → Prop
  | 0, v, _ => v = .int .i64 (m : Int)
  | 1, v, _ => v = .bool false
  | 2, v, _ => v = .bool false
  | 3, v, _ => v = .slice (some ⟨b, off, none⟩) n c
  | 4, v, _ => v = .int .i64 (m : Int)
  | 5, v, _ => v = .slice (some ⟨b, off, none⟩) m c
  | 6, v, _ => v = .int .u32 (s : Int)
  | 7, v, w => w.ownsRow base 5 1 v d4.length (d4.map B8)
  | 8, v, _ => v = .string sa
  | 9, v, _ => v = .slice (some ⟨b, off, none⟩) n c
  | 10, v, _ => v = .int .i64 (m : Int)
  | 11, v, _ => v = .slice (some ⟨b, off + m, none⟩) 4 (c - m)
  | 12, v, _ => v = .string sb
  | 13, v, _ => v = .bool ne
  | 14, v, _ => v = .bool ne
  | _, _, _ => True
theorem OpF.keep {b off n c m s : Nat} {sa sb : ByteArray} {ne : Bool} {d4 : List UInt8} {base : Nat} {w w' : World} {i : Nat} {v : Value} (h : OpF b off n c m s sa sb ne d4 base i v w) (hr : ∀ mm xs, w.ownsRow base 5 1 v mm xs → w'.ownsRow base 5 1 v mm xs) : OpF b off n c m s sa sb ne d4 base i v w' := by
  match i, h with
  | 0, h => exact h
  | 1, h => exact h
  | 2, h => exact h
  | 3, h => exact h
  | 4, h => exact h
  | 5, h => exact h
  | 6, h => exact h
  | 7, h => exact hr _ _ h
  | 8, h => exact h
  | 9, h => exact h
  | 10, h => exact h
  | 11, h => exact h
  | 12, h => exact h
  | 13, h => exact h
  | 14, h => exact h
  | _ + 15, h => trivial
theorem S8_one {a b : List UInt8} (h : S8 a = S8 b) : a = b := by
  have h2 := congrArg (fun x : ByteArray => x.data.toList) h
  simpa [S8] using h2
theorem ct_iff (l : List UInt8) (m : Nat) (hm : l.length = m + 4) : Ct.ok l ↔ S8 (Cm.le4 (Cm.sum (l.take m))) = S8 (l.drop m) := by
  have e1 : l.length - 4 = m := by omega
  have hd : (l.drop m).length = 4 := by rw [List.length_drop]; omega
  unfold Ct.ok
  rw [e1]
  have h := Fm.sum_eq_iff (l.drop m) (Cm.sum (l.take m)) hd (Cm.sum_lt _)
  constructor
  · intro hh; rw [h.2 hh.2]
  · intro hh; exact ⟨by omega, h.1 (S8_one hh).symm⟩
def OpenOf (A : Option Addr) (l : List UInt8) (n c : Nat) (w : World) (e : Ending) (w' : World) : Prop := e = .returned (if Ct.ok l then .tuple #[.slice A (n - 4) c, .bool true] else .tuple #[.slice none 0 0, .bool false]) ∧ Below w.heap.size w w'
theorem toList_data' (s : ByteArray) : s.toList = s.data.toList := by
  obtain ⟨⟨l⟩⟩ := s
  simp
set_option maxHeartbeats 16000000 in
theorem open_any (A : Option Addr) (l : List UInt8) (n c B : Nat) (w : World) (hn : n = l.length) (hb : Rd w B A (l.map B8)) (hB : B ≤ w.heap.size) (hc : n ≤ c) (hl : n ≤ 1000000) :
    Calls Try.prog 79 #[.slice A n c] w (OpenOf A l n c w) := by
  by_cases h4 : n < 4
  · have hk : ¬ Ct.ok l := fun h => by have := h.1; omega
    have HP : Hid (∀ e w', Below w.heap.size w w' → e = .returned (.tuple #[.slice none 0 0, .bool false]) → OpenOf A l n c w e w') := Lib.hid (fun e w' hb he => ⟨by rw [if_neg hk]; exact he, hb⟩)
    have hd : decide ((n : Int) - 4 < 0) = true := decide_eq_true (by omega)
    have hd2 : decide ((n : Int) < 4) = true := decide_eq_true (by omega)
    have hd3 : decide (n < 4) = true := decide_eq_true (by omega)
    clear hk hn hb
    go_enter Try.func79, Try.ntmps79
    go_wp2_with fail
    go_quiet (fail)
    go_wp2_with fail
    go_ret2
    exact HP.out _ _ ⟨rfl, rfl, rfl, Nat.le_refl _, fun _ _ => rfl⟩ rfl
  · obtain ⟨m, hm⟩ : ∃ m, n = m + 4 := ⟨n - 4, by omega⟩
    obtain ⟨b, off, rfl, hbB, _⟩ := hb.plain (by omega)
    have hl4 : (l.drop m).length = 4 := by rw [List.length_drop]; omega
    have hdr := hb.drop (k := m) (cap := c) (by rw [List.length_map]; omega)
    rw [if_neg (by omega), ← List.map_drop] at hdr
    have hadd : (⟨b, off, none⟩ : Addr).add m = ⟨b, off + m, none⟩ := by unfold Addr.add; split <;> simp_all
    change Rd w B (some ((⟨b, off, none⟩ : Addr).add m)) _ at hdr
    rw [hadd] at hdr
    have htk := hb.take m
    rw [← List.map_take] at htk
    have hct := ct_iff l m (by omega)
    have hslt := Cm.sum_lt (l.take m)
    obtain ⟨W, hW⟩ : ∃ W, W = w.drew := ⟨_, rfl⟩
    have HBW : Hid (Below w.heap.size w W) := Lib.hid (by rw [hW]; exact ⟨rfl, rfl, rfl, Nat.le_refl _, fun _ _ => rfl⟩)
    have HS : Hid (∀ W3, Below W.heap.size W W3 → Calls Try.prog 99 #[.slice (some ⟨b, off, none⟩) m c] W3 fun e w' => e = .returned (.int .u32 (Cm.sum (l.take m) : Nat)) ∧ W3 = w') := Lib.hid (fun W3 h3 => rsumQ (some ⟨b, off, none⟩) (l.take m) m c B W3 (by rw [List.length_take]; omega) ((htk.below (HBW.out.mono hB)).below (h3.mono (Nat.le_trans hB HBW.out.size))) (by rw [List.length_take]; omega))
    have HDR : Hid (∀ W3, Below W.heap.size W W3 → Rd W3 B (some ⟨b, off + m, none⟩) ((l.drop m).map B8)) := Lib.hid (fun W3 h3 => (hdr.below (HBW.out.mono hB)).below (h3.mono (Nat.le_trans hB HBW.out.size)))
    have HF : Hid (∀ W3, Calls Try.prog 98 #[.int .u32 (Cm.sum (l.take m) : Nat)] W3 fun e w' => ∃ v', e = .returned v' ∧ w'.ownsRow W3.heap.size 5 1 v' (Cm.le4 (Cm.sum (l.take m))).length ((Cm.le4 (Cm.sum (l.take m))).map B8) ∧ Grew W3 w' (.slice none 0 0) v') := Lib.hid (fun W3 => four_calls (Cm.sum (l.take m)) W3 hslt)
    have e1 : n - 4 = m := by omega
    have HE := Lib.hid e1
    have HD4 : Hid (4 = (l.drop m).length) := Lib.hid hl4.symm
    have i0 : decide ((m : Int) < 0) = false := decide_eq_false (by omega)
    have i1 : (0 : Int) ≤ m := by omega
    have i2 : (m : Int) ≤ n := by omega
    have i3 : (m : Int) ≤ c := by omega
    have i4 : m ≤ n := by omega
    have i5 : m ≤ c := by omega
    have i6 : (c = m) = False := by simp; omega
    have i7 : n - m = 4 := by omega
    have i8 : (⟨b, off, none⟩ : Addr).add m = ⟨b, off + m, none⟩ := hadd
    have he : (n : Int) - 4 = (m : Int) := by omega
    obtain ⟨ne, hne⟩ : ∃ ne : Bool, ne = !decide (Ct.ok l) := ⟨_, rfl⟩
    have hsab : (ne = false ∧ S8 (Cm.le4 (Cm.sum (l.take m))) = S8 (l.drop m)) ∨ (ne = true ∧ S8 (Cm.le4 (Cm.sum (l.take m))) ≠ S8 (l.drop m)) := by
      rw [hne]
      by_cases hk : Ct.ok l
      · exact .inl ⟨by rw [decide_eq_true hk]; rfl, hct.1 hk⟩
      · exact .inr ⟨by rw [decide_eq_false hk]; rfl, fun h => hk (hct.2 h)⟩
    have HNE : Hid (ne = !decide (Ct.ok l)) := Lib.hid hne
    obtain ⟨d4, hd4⟩ : ∃ d4, d4 = Cm.le4 (Cm.sum (l.take m)) := ⟨_, rfl⟩
    rw [← hd4] at HF hsab
    obtain ⟨sa, hsa⟩ : ∃ sa, S8 d4 = sa := ⟨_, rfl⟩
    obtain ⟨sb, hsb⟩ : ∃ sb, S8 (l.drop m) = sb := ⟨_, rfl⟩
    have HSA := Lib.hid hsa
    have HSB := Lib.hid hsb
    rw [hsa, hsb] at hsab
    have hnn : (ne = false ∧ sa = sb) ∨ (ne = true ∧ sa ≠ sb) := hsab
    have n3 : (sa.toList != sb.toList) = ne := by
      rcases hnn with ⟨rfl, rfl⟩ | ⟨rfl, h⟩
      · simp
      · simp only [bne_iff_ne, ne_eq]
        intro hh
        rw [toList_data', toList_data'] at hh
        exact h (by obtain ⟨⟨x⟩⟩ := sa; obtain ⟨⟨y⟩⟩ := sb; simp only at hh; rw [hh])
    have n4 : (sa.toList == sb.toList) = !ne := by rw [← n3]; simp [bne]
    have n5 : decide (sa = sb) = !ne := by
      rcases hnn with ⟨rfl, rfl⟩ | ⟨rfl, h⟩
      · simp
      · simpa using h
    generalize Cm.sum (l.take m) = s at *
    clear hn hb hdr htk e1 hl4 hm hct hslt hne hd4 hsa hsb hnn hsab hadd h4
    go_enter Try.func79, Try.ntmps79
    go_wp2_with fail
    clear he
    refine PI.wp_region_persG (R := Below W.heap.size) (G := fun _ _ => True) (I := fun _ _ _ => True) [(1, 0), (2, 1), (3, 2), (4, 2), (5, 2), (5, 3), (5, 4), (6, 2), (6, 5), (7, 2), (7, 6), (8, 2), (8, 7), (9, 2), (10, 2), (11, 2), (11, 9), (11, 10), (12, 2), (12, 11), (13, 2), (13, 8), (13, 12), (14, 2), (14, 13)] [14] (by kernel_rfl) (PI.formed_of (by kernel_rfl)) ⟨fun w => Below.refl _ w, fun _ _ _ h k => h.trans k⟩ (fun _ => trivial) (OpF b off n c m s sa sb ne d4 W.heap.size) trivial ?_ ?_
    · rw [← hW]
      intro i o ho
      rcases i with _ | _ | _ | _ | _ | _ | _ | _ | _ | _ | _ | _ | _ | _ | _ | i
      · obtain rfl := Option.some.inj (show some _ = some o from ho)
        refine PI.shown_val rfl fun a w3 L0 hr T => ?_
        have h4 : a.eval (.tmp 4) = .int .i64 (m : Int) := T.was 4 (by kernel_rfl)
        exact ⟨.int .i64 (m : Int), w3, by simp only [execOp, h4]; simp [go_sem], PI.Post.pure ⟨fun w => Below.refl _ w, fun _ _ _ h k => h.trans k⟩ rfl trivial⟩
      · obtain rfl := Option.some.inj (show some _ = some o from ho)
        refine PI.shown_val rfl fun a w3 L0 hr T => ?_
        have h8 : a.eval (.tmp 8) = .int .i64 (m : Int) := T.at_ 0 8 (by kernel_rfl) (by kernel_rfl) (by kernel_rfl)
        exact ⟨.bool false, w3, by simp only [execOp, h8]; simp [go_sem, i0], PI.Post.pure ⟨fun w => Below.refl _ w, fun _ _ _ h k => h.trans k⟩ rfl trivial⟩
      · obtain rfl := Option.some.inj (show some _ = some o from ho)
        refine PI.shown_val rfl fun a w3 L0 hr T => ?_
        have h9 : a.eval (.tmp 9) = .bool false := T.at_ 1 9 (by kernel_rfl) (by kernel_rfl) (by kernel_rfl)
        exact ⟨.bool false, w3, by simp only [execOp, h9]; simp [go_sem], PI.Post.pure ⟨fun w => Below.refl _ w, fun _ _ _ h k => h.trans k⟩ rfl trivial⟩
      · obtain rfl := Option.some.inj (show some _ = some o from ho)
        refine PI.shown_val_if 2 10 false rfl (by kernel_rfl) (by kernel_rfl) (by kernel_rfl) (fun v w h => h) fun a w3 L0 hr T => ?_
        have h0 : a.eval (.tmp 0) = .slice (some ⟨b, off, none⟩) n c := T.was 0 (by kernel_rfl)
        exact ⟨.slice (some ⟨b, off, none⟩) n c, w3, by simp only [execOp, h0]; simp [go_sem], PI.Post.pure ⟨fun w => Below.refl _ w, fun _ _ _ h k => h.trans k⟩ rfl trivial⟩
      · obtain rfl := Option.some.inj (show some _ = some o from ho)
        refine PI.shown_val_if 2 10 false rfl (by kernel_rfl) (by kernel_rfl) (by kernel_rfl) (fun v w h => h) fun a w3 L0 hr T => ?_
        have h4 : a.eval (.tmp 4) = .int .i64 (m : Int) := T.was 4 (by kernel_rfl)
        exact ⟨.int .i64 (m : Int), w3, by simp only [execOp, h4]; simp [go_sem], PI.Post.pure ⟨fun w => Below.refl _ w, fun _ _ _ h k => h.trans k⟩ rfl trivial⟩
      · obtain rfl := Option.some.inj (show some _ = some o from ho)
        refine PI.shown_val_if 2 10 false rfl (by kernel_rfl) (by kernel_rfl) (by kernel_rfl) (fun v w h => h) fun a w3 L0 hr T => ?_
        have h11 : a.eval (.tmp 11) = .slice (some ⟨b, off, none⟩) n c := T.at_ 3 11 (by kernel_rfl) (by kernel_rfl) (by kernel_rfl)
        have h12 : a.eval (.tmp 12) = .int .i64 (m : Int) := T.at_ 4 12 (by kernel_rfl) (by kernel_rfl) (by kernel_rfl)
        have q12 : a.tmps[12]?.getD undef = .int .i64 (m : Int) := by have := h12; simpa [Act.eval] using this
        exact ⟨.slice (some ⟨b, off, none⟩) m c, w3, by simp only [execOp, h11, h12]; simp [go_sem, q12, i1, i2, i3, i4, i5], PI.Post.pure ⟨fun w => Below.refl _ w, fun _ _ _ h k => h.trans k⟩ rfl trivial⟩
      · obtain rfl := Option.some.inj (show some _ = some o from ho)
        refine PI.shown_call_if 2 10 false rfl (by kernel_rfl) (by kernel_rfl) (by kernel_rfl) (fun v w h => h) 99 fun a w3 L0 hr T => ?_
        have h13 : a.eval (.tmp 13) = .slice (some ⟨b, off, none⟩) m c := T.at_ 5 13 (by kernel_rfl) (by kernel_rfl) (by kernel_rfl)
        refine ⟨#[.slice (some ⟨b, off, none⟩) m c], by simp only [execOp, resolve, List.map_toArray, List.map_cons, List.map_nil, h13]; simp [go_sem, Act.eval], ?_⟩
        refine (HS.out w3 hr).mono fun e w4 hh => ?_
        obtain ⟨rfl, rfl⟩ := hh
        exact ⟨_, rfl, PI.Post.pure ⟨fun w => Below.refl _ w, fun _ _ _ h k => h.trans k⟩ rfl trivial⟩
      · obtain rfl := Option.some.inj (show some _ = some o from ho)
        refine PI.shown_call_if 2 10 false rfl (by kernel_rfl) (by kernel_rfl) (by kernel_rfl) (fun v w h => h) 98 fun a w3 L0 hr T => ?_
        have h14 : a.eval (.tmp 14) = .int .u32 (s : Int) := T.at_ 6 14 (by kernel_rfl) (by kernel_rfl) (by kernel_rfl)
        refine ⟨#[.int .u32 (s : Int)], by simp only [execOp, resolve, List.map_toArray, List.map_cons, List.map_nil, h14]; simp [go_sem, Act.eval], ?_⟩
        refine (HF.out w3).mono fun e w4 hh => ?_
        obtain ⟨v4, rfl, ho4, hg4⟩ := hh
        have hb4 := hg4.new
        exact ⟨_, rfl, hb4.mono hr.size, own_mono ho4 hr.size, fun _ _ h => h, fun j v _ _ _ _ h => h.keep (fun mm xs ho => own_below ho hb4), trivial⟩
      · obtain rfl := Option.some.inj (show some _ = some o from ho)
        refine PI.shown_val_if 2 10 false rfl (by kernel_rfl) (by kernel_rfl) (by kernel_rfl) (fun v w h => h) fun a w3 L0 hr T => ?_
        have h1 : w3.ownsRow W.heap.size 5 1 (a.eval (.tmp 15)) d4.length (d4.map B8) := T.at_ 7 15 (by kernel_rfl) (by kernel_rfl) (by kernel_rfl)
        obtain ⟨A1, c1, hv, _, hr1⟩ := own_rd h1
        have h2 := run_str (P := Try.prog) 22 5 9 Try.underlying22 Try.underlying5 Try.underlying9 hr1 _ c1 rfl
        rw [HSA.out] at h2
        exact ⟨.string sa, w3, by simp only [execOp, hv]; generalize d4.length = qq at h2 ⊢; simp [go_sem, h2], PI.Post.pure ⟨fun w => Below.refl _ w, fun _ _ _ h k => h.trans k⟩ rfl trivial⟩
      · obtain rfl := Option.some.inj (show some _ = some o from ho)
        refine PI.shown_val_if 2 10 false rfl (by kernel_rfl) (by kernel_rfl) (by kernel_rfl) (fun v w h => h) fun a w3 L0 hr T => ?_
        have h0 : a.eval (.tmp 0) = .slice (some ⟨b, off, none⟩) n c := T.was 0 (by kernel_rfl)
        exact ⟨.slice (some ⟨b, off, none⟩) n c, w3, by simp only [execOp, h0]; simp [go_sem], PI.Post.pure ⟨fun w => Below.refl _ w, fun _ _ _ h k => h.trans k⟩ rfl trivial⟩
      · obtain rfl := Option.some.inj (show some _ = some o from ho)
        refine PI.shown_val_if 2 10 false rfl (by kernel_rfl) (by kernel_rfl) (by kernel_rfl) (fun v w h => h) fun a w3 L0 hr T => ?_
        have h4 : a.eval (.tmp 4) = .int .i64 (m : Int) := T.was 4 (by kernel_rfl)
        exact ⟨.int .i64 (m : Int), w3, by simp only [execOp, h4]; simp [go_sem], PI.Post.pure ⟨fun w => Below.refl _ w, fun _ _ _ h k => h.trans k⟩ rfl trivial⟩
      · obtain rfl := Option.some.inj (show some _ = some o from ho)
        refine PI.shown_val_if 2 10 false rfl (by kernel_rfl) (by kernel_rfl) (by kernel_rfl) (fun v w h => h) fun a w3 L0 hr T => ?_
        have h17 : a.eval (.tmp 17) = .slice (some ⟨b, off, none⟩) n c := T.at_ 9 17 (by kernel_rfl) (by kernel_rfl) (by kernel_rfl)
        have h18 : a.eval (.tmp 18) = .int .i64 (m : Int) := T.at_ 10 18 (by kernel_rfl) (by kernel_rfl) (by kernel_rfl)
        have q18 : a.tmps[18]?.getD undef = .int .i64 (m : Int) := by have := h18; simpa [Act.eval] using this
        exact ⟨.slice (some ⟨b, off + m, none⟩) 4 (c - m), w3, by simp only [execOp, h17, h18]; simp [go_sem, q18, i1, i2, i3, i4, i5, i6, i7, i8], PI.Post.pure ⟨fun w => Below.refl _ w, fun _ _ _ h k => h.trans k⟩ rfl trivial⟩
      · obtain rfl := Option.some.inj (show some _ = some o from ho)
        refine PI.shown_val_if 2 10 false rfl (by kernel_rfl) (by kernel_rfl) (by kernel_rfl) (fun v w h => h) fun a w3 L0 hr T => ?_
        have h19 : a.eval (.tmp 19) = .slice (some ⟨b, off + m, none⟩) 4 (c - m) := T.at_ 11 19 (by kernel_rfl) (by kernel_rfl) (by kernel_rfl)
        have h2 := run_str (P := Try.prog) 22 5 9 Try.underlying22 Try.underlying5 Try.underlying9 (HDR.out w3 hr) 4 (c - m) HD4.out
        rw [HSB.out] at h2
        exact ⟨.string sb, w3, by simp only [execOp, h19]; simp [go_sem, h2], PI.Post.pure ⟨fun w => Below.refl _ w, fun _ _ _ h k => h.trans k⟩ rfl trivial⟩
      · obtain rfl := Option.some.inj (show some _ = some o from ho)
        refine PI.shown_val_if 2 10 false rfl (by kernel_rfl) (by kernel_rfl) (by kernel_rfl) (fun v w h => h) fun a w3 L0 hr T => ?_
        have h16 : a.eval (.tmp 16) = .string sa := T.at_ 8 16 (by kernel_rfl) (by kernel_rfl) (by kernel_rfl)
        have h20 : a.eval (.tmp 20) = .string sb := T.at_ 12 20 (by kernel_rfl) (by kernel_rfl) (by kernel_rfl)
        exact ⟨.bool ne, w3, by simp only [execOp, h16, h20]; simp [go_sem, n3, n4, n5], PI.Post.pure ⟨fun w => Below.refl _ w, fun _ _ _ h k => h.trans k⟩ rfl trivial⟩
      · obtain rfl := Option.some.inj (show some _ = some o from ho)
        refine PI.shown_val rfl fun a w3 L0 hr T => ?_
        have h10 : a.eval (.tmp 10) = .bool false := T.at_ 2 10 (by kernel_rfl) (by kernel_rfl) (by kernel_rfl)
        have h21 : a.eval (.tmp 21) = .bool ne := T.at_ 13 21 (by kernel_rfl) (by kernel_rfl) (by kernel_rfl)
        exact ⟨.bool ne, w3, by simp only [execOp, h10, h21]; simp [go_sem, Act.eval], PI.Post.pure ⟨fun w => Below.refl _ w, fun _ _ _ h k => h.trans k⟩ rfl trivial⟩
      · cases ho
    · rw [← hW]
      intro x w9 hr hf he _
      have h14 := hf 14 _ 22 rfl rfl (by decide)
      have hx14 : x 14 = .bool ne := h14
      have HB9 := Lib.hid (HBW.out.trans (hr.mono HBW.out.size))
      clear hf he hr h14
      simp only [PI.putAll, Act.put, List.setIfInBounds_toArray, List.set_cons_zero, List.set_cons_succ]
      rw [hx14]
      clear hx14 HS HDR HF n3 n4 n5
      by_cases hk : Ct.ok l
      · have HP : Hid (∀ e w', Below w.heap.size w w' → e = .returned (.tuple #[.slice (some ⟨b, off, none⟩) m c, .bool true]) → OpenOf (some ⟨b, off, none⟩) l n c w e w') := Lib.hid (fun e w' hb he => ⟨by rw [if_pos hk, HE.out]; exact he, hb⟩)
        obtain rfl : ne = false := by rw [HNE.out, decide_eq_true hk]; rfl
        clear hk HNE
        go_wp2_with fail
        go_ret2
        exact HP.out _ _ HB9.out rfl
      · have HP : Hid (∀ e w', Below w.heap.size w w' → e = .returned (.tuple #[.slice none 0 0, .bool false]) → OpenOf (some ⟨b, off, none⟩) l n c w e w') := Lib.hid (fun e w' hb he => ⟨by rw [if_neg hk]; exact he, hb⟩)
        obtain rfl : ne = true := by rw [HNE.out, decide_eq_false hk]; rfl
        clear hk HNE
        go_wp2_with fail
        go_ret2
        exact HP.out _ _ HB9.out rfl
theorem dst_app {w w' w2 : World} {B g : Nat} {r : Rm.R} {u v : Value} (h : DSt w B g r) (hb : Below w.heap.size w w') (hg : Grew w' w2 u v) (hu : ∀ j, u.ownBlock = some j → g + 1 ≤ j) : DSt w2 B g r :=
  (h.keep (row := none) ⟨hb.os, hb.tape, hb.output, hb.size, fun i hi _ => hb.block i hi⟩ (by simp) (fun j e => by cases e)).keep hg.grown (fun e => by have := hu g e; omega) (fun j e => by have := hu j e; have := h.lt; omega)
set_option maxHeartbeats 16000000 in
theorem dreadbatch_any (A : Option Addr) (l : List UInt8) (n c B : Nat) (w : World) (hn : n = l.length) (hb : Rd w B A (l.map B8)) (hB : B ≤ w.heap.size) (hc : n ≤ c ∧ c ≤ maxLen) (hl : n ≤ 500000) :
    (Bd.okD l = false → Calls Try.prog 50 #[.slice A n c] w (NoBatch w)) ∧ (Bd.okD l = true → Calls Try.prog 50 #[.slice A n c] w (YesBatch (Bd.all l).2 w)) := by
  have key : ∀ Q : Ending → World → Prop, (Bd.okD l = false → ∀ w', Below w.heap.size w w' → Q (.returned (.tuple #[.slice none 0 0, .int .i64 2])) w') → (Bd.okD l = true → ∀ v l' w', OwnSps w' w.heap.size v l' → l'.map Ls.s = (Bd.all l).2 → Below w.heap.size w w' → Q (.returned (.tuple #[v, .int .i64 0])) w') → Calls Try.prog 50 #[.slice A n c] w Q := by
    intro Q HQ0' HQ1'
    have HQ0 := Lib.hid HQ0'
    have HQ1 := Lib.hid HQ1'
    clear HQ0' HQ1'
    have HCUT := Lib.hid (open_any A l n c B w hn hb hB hc.1 (by omega))
    obtain ⟨hc1, hc2⟩ := hc
    by_cases hk : Ct.ok l
    · obtain ⟨m, hm⟩ : ∃ m, n = m + 4 := ⟨n - 4, by have := hk.1; omega⟩
      have hbody : Bm.body l = l.take m := by unfold Bm.body; rw [← hn]; congr 1; omega
      have htk := hb.take m
      rw [← List.map_take, ← hbody] at htk
      have hbl : m = (Bm.body l).length := by rw [hbody, List.length_take]; omega
      have HCX : Hid (Calls Try.prog 79 #[.slice A n c] w fun e w' => e = .returned (.tuple #[.slice A m c, .bool true]) ∧ Below w.heap.size w w') := Lib.hid (HCUT.out.mono fun e w' h => by
        obtain ⟨h2, h3⟩ := h
        rw [if_pos hk, show n - 4 = m by omega] at h2
        exact ⟨h2, h3⟩)
      rcases hnum : Bd.first l with ⟨n0, r0⟩
      rcases hall : Bd.all l with ⟨rE, aE⟩
      have HAT : Hid (Bd.rds n0 r0 [] = (rE, aE)) := Lib.hid (by have h := hall; unfold Bd.all at h; rw [hnum] at h; exact h)
      have hn0 : n0 ≤ 50 := by have h := dint_le 50 (Bm.body l, false); unfold Bd.first at hnum; rw [hnum] at h; exact h
      have HOK : Hid (Bd.okD l = (!rE.2 && (rE.1.isEmpty && decide (1 ≤ n0)))) := Lib.hid (by unfold Bd.okD; rw [hall, hnum, decide_eq_true hk]; rfl)
      rw [hall] at HQ1
      simp only at HQ1
      have HNUM : Hid (∀ W, Below w.heap.size w W → Calls Try.prog 80 #[.pointer (some ⟨W.heap.size, 0, none⟩), .int .i64 50] (W.alloc (.cells #[.slice A m c, .bool false] 93)) fun e w' => e = .returned (.int .i64 (n0 : Int)) ∧ DSt w' B W.heap.size r0 ∧ (W.alloc (.cells #[.slice A m c, .bool false] 93)).grownBy w' (some W.heap.size)) := Lib.hid (fun W hW => by
        have h := dintL W.heap.size B 50 50 rfl (Bm.body l, false) (W.alloc (.cells #[.slice A m c, .bool false] 93)) ⟨⟨A, m, c, heap_alloc_new W _, hbl, (htk.below (hW.mono hB)).alloc (Nat.le_trans hB hW.size) _, by omega, by omega, hc2⟩, Nat.le_trans hB hW.size⟩ (by omega)
        unfold Bd.first at hnum
        rw [hnum] at h
        exact h)
      have HN0 := Lib.hid hn0
      clear hn hb hm hbody htk hbl hnum hall hk HCUT hl hc1 hc2
      go_enter Try.func50, Try.ntmps50
      go_wp2_with fail
      refine HCX.out.mono ?_
      rintro e w1 ⟨rfl, hb1⟩
      have HB1 := Lib.hid hb1
      have HNM := Lib.hid (HNUM.out w1 hb1)
      clear hb1 HNUM HCX
      have HW : Hid (Below w.heap.size w (w1.alloc (.cells #[.slice A m c, .bool false] 93))) := Lib.hid (HB1.out.alloc HB1.out.size _)
      have HZ : Hid ((w1.alloc (.cells #[.slice A m c, .bool false] 93)).heap.size = w1.heap.size + 1) := Lib.hid (by simp)
      have HZ1 : Hid (w.heap.size ≤ w1.heap.size) := Lib.hid HB1.out.size
      go_wp2_with fail
      generalize w1.alloc (.cells #[.slice A m c, .bool false] 93) = W1 at *
      refine HNM.out.mono ?_
      rintro e w2 ⟨rfl, hr, hg⟩
      have HR := Lib.hid hr
      have HG0 := Lib.hid hg
      clear hr hg HNM
      go_wp2_with fail
      have hgz : w1.heap.size < W1.heap.size := by rw [HZ.out]; omega
      generalize w1.heap.size = g at *
      go_loopw [9, 8] (fun i v wr => ∃ (k : Nat) (r : Rm.R) (acc : List Ls), i = .int .i64 k ∧ k ≤ n0 ∧ Hid (k = acc.length) ∧ Hid (Bd.rds (n0 - k) r (acc.map Ls.s) = (rE, aE)) ∧ Hid (DSt wr B g r) ∧ Hid (OwnSps wr (g + 1) v acc) ∧ Hid (W1.grownBy wr (some g))) (fun i _ _ => n0 - (intOf i).toNat)
      case atStart => exact ⟨0, r0, [], rfl, Nat.zero_le _, Lib.hid rfl, HAT, HR, Lib.hid OwnSps.nil, HG0⟩
      case round =>
        obtain ⟨k, r, acc, rfl, hkn, HK, HAT2, HR2, HO, HG⟩ := hrel
        obtain ⟨rest, bad⟩ := r
        clear HR HG0 HAT
        have hn50 := HN0.out
        obtain ⟨rA, rn, rc, hx, hrn, _, hrc, _⟩ := HR2.out.cell
        have c1 : wr.cell? ⟨g, 1, none⟩ = some (.bool bad) := cell_of_row _ _ 1 _ _ (0, 0) hx
        have c0 : wr.cell? ⟨g, 0, none⟩ = some (.slice rA rn rc) := cell_of_row _ _ 0 _ _ (0, 0) hx
        have HRN := Lib.hid hrn
        clear hx hrn hrc
        have hgr : g < wr.heap.size := Nat.lt_of_lt_of_le hgz HG.out.size
        by_cases hgo : k < n0 ∧ bad = false
        · obtain ⟨hk0, rfl⟩ := hgo
          have hd1 : decide ((k : Int) < (n0 : Int)) = true := decide_eq_true (by omega)
          have hd2 : decide (k < n0) = true := decide_eq_true hk0
          rcases hs : Dm.span (rest, false) with ⟨s, r2⟩
          have HAT3 : Hid (Bd.rds (n0 - (k + 1)) r2 (acc.map Ls.s ++ [s]) = (rE, aE)) := Lib.hid (by
            have h := HAT2.out
            obtain ⟨k', hk'⟩ : ∃ k', n0 - k = k' + 1 := ⟨n0 - k - 1, by omega⟩
            rw [hk'] at h
            unfold Bd.rds at h
            rw [if_pos rfl, hs] at h
            rw [show n0 - (k + 1) = k' by omega]
            exact h)
          have HAL : Hid (acc.length ≤ 1000000) := Lib.hid (by have h := HK.out; omega)
          have C := Lib.hid (dreadspan_any g B (rest, false) wr HR2.out)
          rw [hs] at C
          obtain ⟨⟨x0, x1, x2, x3, x4, x5, x6, x7, x8, ats⟩, hsd⟩ : ∃ s', s' = s := ⟨s, rfl⟩
          subst hsd
          obtain ⟨q, hq⟩ : ∃ q, q = ats.length := ⟨_, rfl⟩
          have HQ := Lib.hid hq
          clear hs HAT2 HR2 hq c0 HRN
          go_wp2_with fail
          clear c1 hd1 hd2
          refine C.out.mono ?_
          rintro e u1 ⟨A5, c5, rfl, ho, hr, hg⟩
          have HG1 := Lib.hid (grown_trans HG.out hg)
          have HR3 := Lib.hid hr
          have HO1 := Lib.hid (HO.out.grown hg (by omega))
          have HX1 := Lib.hid (ho.mono (show g + 1 ≤ wr.heap.size by omega))
          have hx1 : g < u1.heap.size := Nat.lt_of_lt_of_le hgr hg.size
          clear ho hr hg C HO HG
          simp only [Ls.cells]
          rw [← HQ.out]
          have HBA : Hid (Below u1.heap.size u1 (u1.alloc (.cells #[.int .u64 x0, .int .u64 x1, .int .u64 x2, .int .u64 x3, .string x4, .string x5, .int .i64 x6, .int .i64 x7, .bool x8, .slice A5 q c5] 36))) := Lib.hid ((Below.refl _ _).alloc (Nat.le_refl _) _)
          have HRD : Hid (Rd (u1.alloc (.cells #[.int .u64 x0, .int .u64 x1, .int .u64 x2, .int .u64 x3, .string x4, .string x5, .int .i64 x6, .int .i64 x7, .bool x8, .slice A5 q c5] 36)) (u1.heap.size + 1) (some ⟨u1.heap.size, 0, none⟩) (Ls.mk ⟨x0, x1, x2, x3, x4, x5, x6, x7, x8, ats⟩ A5 c5).cells) := Lib.hid (by
            have h := Rd.lit u1 #[.int .u64 x0, .int .u64 x1, .int .u64 x2, .int .u64 x3, .string x4, .string x5, .int .i64 x6, .int .i64 x7, .bool x8, .slice A5 q c5] 36
            simp only [Ls.cells]
            rw [← HQ.out]
            exact h)
          have AP := Lib.hid (fun ty => appSp (ty := ty) (HO1.out.below HBA.out) (HX1.out.below HBA.out) HRD.out HAL.out (by have := HBA.out.size; omega))
          go_wp2_with (at_builtin; (refine wpList_app rfl (.tmp 34) (.tmp 37) _ _ rfl rfl rfl (AP.out _) ?_); rintro y3 w3 ⟨ho3, hg3⟩; have HO3 := Lib.hid ho3; have HGX := Lib.hid hg3; clear ho3 hg3)
          have HG3 : Hid (W1.grownBy w3 (some g)) := Lib.hid (grown_app HG1.out HBA.out HGX.out (own_block_ge (HO1.out.below HBA.out).own) (by have := HZ.out; omega))
          have HR4 : Hid (DSt w3 B g r2) := Lib.hid (dst_app HR3.out HBA.out HGX.out (own_block_ge (HO1.out.below HBA.out).own))
          go_roundw
          case rel => exact ⟨k + 1, r2, acc ++ [⟨⟨x0, x1, x2, x3, x4, x5, x6, x7, x8, ats⟩, A5, c5⟩], by go_num, by omega, Lib.hid (by rw [List.length_append, HK.out]; rfl), Lib.hid (by rw [List.map_append]; exact HAT3.out), HR4, HO3, HG3⟩
          case measure => simp [intOf]; omega
        · have hst : Bd.rds (n0 - k) (rest, bad) (acc.map Ls.s) = ((rest, bad), acc.map Ls.s) := by
            cases hz : n0 - k with
            | zero => rfl
            | succ k' => unfold Bd.rds; rw [if_neg (fun hh => hgo ⟨by omega, hh⟩)]
          have HRE : Hid (rE = (rest, bad) ∧ aE = acc.map Ls.s) := Lib.hid (by have h := HAT2.out; rw [hst] at h; injection h with h1 h2; exact ⟨h1.symm, h2.symm⟩)
          have HBL : Hid (Below w.heap.size w wr) := Lib.hid (HW.out.grown HG.out (by have := HZ.out; have := HZ1.out; omega) (fun j hj => by injection hj with hj; have := HZ1.out; omega))
          have HF : Hid (Bd.okD l = (!bad && (rest.isEmpty && decide (1 ≤ n0)))) := Lib.hid (by rw [HOK.out, HRE.out.1])
          rw [HRE.out.2] at HQ1
          have hcc : (k = n0 ∧ bad = false) ∨ (k = n0 ∧ bad = true) ∨ (k < n0 ∧ bad = true) := by
            cases bad <;> simp at hgo ⊢ <;> omega
          clear hgo hst HAT2 HOK HRE
          rcases hcc with ⟨rfl, rfl⟩ | ⟨rfl, rfl⟩ | ⟨hk0, rfl⟩
          · by_cases hre : rn = 0
            · subst hre
              have hie : rest.isEmpty = true := by have h := HRN.out; exact List.isEmpty_iff.2 (List.eq_nil_of_length_eq_zero h.symm)
              rw [hie] at HF
              clear HRN hie
              by_cases h1 : k < 1
              · obtain rfl : k = 0 := by omega
                have HOF : Hid (Bd.okD l = false) := Lib.hid (by rw [HF.out]; rfl)
                clear HF h1
                go_wp2_with fail
                exact HQ0.out HOF.out _ HBL.out
              · have HOF : Hid (Bd.okD l = true) := Lib.hid (by rw [HF.out, decide_eq_true (by omega)]; rfl)
                have hd3 : decide (k < 1) = false := decide_eq_false h1
                have hd4 : decide ((k : Int) < 1) = false := decide_eq_false (by omega)
                clear HF h1
                go_wp2_with fail
                exact HQ1.out HOF.out _ acc _ (HO.out.mono (by have := HZ1.out; omega)) rfl HBL.out
            · have hie : rest.isEmpty = false := by have h := HRN.out; cases rest with | nil => exact absurd h hre | cons _ _ => rfl
              rw [hie] at HF
              have HOF : Hid (Bd.okD l = false) := Lib.hid (by rw [HF.out]; rfl)
              have hd3 : decide (0 < rn) = true := decide_eq_true (by omega)
              have hd4 : decide ((0 : Int) < (rn : Int)) = true := decide_eq_true (by omega)
              clear HF hie HRN hre
              go_wp2_with fail
              exact HQ0.out HOF.out _ HBL.out
          · have HOF : Hid (Bd.okD l = false) := Lib.hid (by rw [HF.out]; rfl)
            clear HF HRN
            go_wp2_with fail
            exact HQ0.out HOF.out _ HBL.out
          · have HOF : Hid (Bd.okD l = false) := Lib.hid (by rw [HF.out]; rfl)
            have hd1 : decide ((k : Int) < (n0 : Int)) = true := decide_eq_true (by omega)
            have hd2 : decide (k < n0) = true := decide_eq_true hk0
            clear HF HRN
            go_wp2_with fail
            exact HQ0.out HOF.out _ HBL.out
    · have HP : Hid (Bd.okD l = false) := Lib.hid (by unfold Bd.okD; rw [decide_eq_false hk]; rfl)
      have HCX : Hid (Calls Try.prog 79 #[.slice A n c] w fun e w' => e = .returned (.tuple #[.slice none 0 0, .bool false]) ∧ Below w.heap.size w w') := Lib.hid (HCUT.out.mono fun e w' h => by
        obtain ⟨h2, h3⟩ := h
        rw [if_neg hk] at h2
        exact ⟨h2, h3⟩)
      clear hn hb hk HCUT
      go_enter Try.func50, Try.ntmps50
      go_wp2_with fail
      refine HCX.out.mono ?_
      rintro e w1 ⟨rfl, hb1⟩
      have HB1 := Lib.hid hb1
      clear hb1
      go_wp2_with fail
      exact HQ0.out HP.out _ HB1.out
  refine ⟨fun h => key _ (fun _ w' hb' => ⟨rfl, hb'⟩) (fun h2 => by rw [h] at h2; cases h2), fun h => key _ (fun h2 => by rw [h] at h2; cases h2) (fun _ v l' w' ho hm hb' => ⟨v, l', rfl, ho, hm, hb'⟩)⟩
end Go.Proofs.Ythkclgkbidhmbaa
