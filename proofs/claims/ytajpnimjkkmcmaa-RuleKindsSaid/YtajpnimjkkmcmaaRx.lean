/- A reader's Byte, Take of one, Done. -/
import Derived.Test.YtajpnimjkkmcmaaRd
import Derived.Test.YtajpnimjkkmcmaaGr
namespace Go.Proofs.Ytajpnimjkkmcmaa
open Go.RowKit
set_option linter.unusedVariables false
set_option linter.unusedSimpArgs false
set_option maxRecDepth 100000

theorem RSt.stay {w w' : World} {B g : Nat} {r : Rm.R} (h : RSt w B g r) (hx : w'.heap[g]? = w.heap[g]?) (hr : ∀ p : Addr, p.block < B → w'.cell? p = w.cell? p) : RSt w' B g r := by
  obtain ⟨⟨A, n, c, h1, h2, h3, h4⟩, hB⟩ := h
  exact ⟨⟨A, n, c, hx.trans h1, h2, h3.keep hr, h4⟩, hB⟩
theorem RSt.below {w w' : World} {B g C : Nat} {r : Rm.R} (h : RSt w B g r) (hb : Below C w w') (hg : g < C) : RSt w' B g r :=
  h.stay (hb.block g hg) fun p hp => hb.cell (Nat.lt_trans (Nat.lt_of_lt_of_le hp h.lt) hg)
theorem RSt.at_ {w : World} {B g : Nat} {r : Rm.R} (h : RSt w B g r) : g < w.heap.size := by
  obtain ⟨⟨A, n, c, h1, _⟩, _⟩ := h
  exact in_heap h1

set_option maxHeartbeats 4000000 in
theorem take1_any (g B : Nat) (r : Rm.R) (w : World) (h : RSt w B g r) :
    Calls Try.prog 77 #[.pointer (some ⟨g, 0, none⟩), .int .i64 1] w fun e w' => ((r.1 = [] ∧ e = .returned (.slice none 0 0)) ∨ (∃ (a : Addr) (c : Nat) (x : UInt8) (l : List UInt8), r.1 = x :: l ∧ e = .returned (.slice (some a) 1 c) ∧ a.block < B ∧ w'.cell? a = some (B8 x))) ∧ RSt w' B g (Rm.byte r).2 ∧ w.grownBy w' (some g) := by
  have hw := h
  obtain ⟨⟨A, n, c, hx, hn, hr, hc1, hc2, hc3⟩, hB⟩ := h
  have hgl := in_heap hx
  obtain ⟨rest, bad⟩ := r
  simp only at hx hn hr
  have HX := Lib.hid hx
  have c0 : w.cell? ⟨g, 0, none⟩ = some (.slice A n c) := cell_of_row _ _ 0 _ _ (0, 0) hx
  have f0 : w.frozen? ⟨g, 0, none⟩ = false := by simp [World.frozen?, hx]
  have HR := Lib.hid hr
  have HN := Lib.hid hn
  rcases rest with _ | ⟨x, l⟩
  · have HF := Lib.hid (fail_any g B ([], bad) w hw)
    have hn0 : n = 0 := by simpa using hn
    subst hn0
    clear hx hn hr hw
    go_enter Try.func77, Try.ntmps77
    go_wp2_with (go_at_call 60; (with_reducible refine (HF.out).mono ?_); rintro e w2 ⟨rfl, hr2, hg2⟩; have HR2 := Lib.hid hr2; have HG2 := Lib.hid hg2; clear hr2 hg2)
    go_ret
    exact ⟨Or.inl ⟨by first | trivial | rfl, rfl⟩, HR2.out, HG2.out⟩
  · obtain ⟨a, ha, hab, hcc⟩ := hr (by simp)
    subst ha
    have hx0 := hcc 0 _ rfl
    have ea : a.add 0 = a := by simp [Addr.add]
    rw [ea] at hx0
    have hnl : n = l.length + 1 := by simpa using hn
    have HX0 : Hid (∀ v, (w.setCell ⟨g, 0, none⟩ v).cell? a = some (B8 x)) := Lib.hid (fun v => (World.cell?_setCell_other _ _ _ _ (by intro e; rw [← e] at hab; exact absurd hB (by simp at hab; omega))).trans hx0)
    have hc0 : (c = 0) = False := by simp; omega
    have r1 : (1 : Int) ≤ (n : Int) := by omega
    have r2 : (1 : Int) ≤ (c : Int) := by omega
    have r3 : 1 ≤ c := by omega
    have r4 : 1 ≤ n := by omega
    have hcz : c = 1 ∨ 1 < c := by omega
    rcases hcz with hck | hck
    · have hl0 : l = [] := List.length_eq_zero_iff.1 (by omega)
      have hn1 : n = 1 := by omega
      subst hl0 hn1 hck
      clear hx hn hr hw hcc hx0 ea hnl
      go_enter Try.func77, Try.ntmps77
      go_wp2_with fail
      go_ret
      exact ⟨Or.inr ⟨a, 1, x, [], rfl, rfl, hab, HX0.out _⟩, ⟨⟨some a, 0, 0, heap_setCell_same _ g 0 _ _ _ HX.out, rfl, Rd.nil, Nat.le_refl _, Nat.zero_le _, Nat.zero_le _⟩, hB⟩, grown_set _ _ _ _⟩
    · have hne : (c = 1) = False := by simp; omega
      have ea1 : a.add 1 = ⟨a.block, a.off + 1, none⟩ := by unfold Addr.add; rw [if_neg (by omega)]
      have HD : Hid (Rd w B (some ⟨a.block, a.off + 1, none⟩) (l.map B8)) := Lib.hid (by
        have := HR.out.drop (k := 1) (cap := c) (by rw [List.length_map, ← HN.out]; exact hc1)
        rw [if_neg (by omega)] at this
        rw [← ea1]
        simpa using this)
      have HNL := Lib.hid hnl
      clear ea1 hnl
      clear hx hn hr hw hcc hx0 ea
      go_enter Try.func77, Try.ntmps77
      go_wp2_with fail
      go_ret
      exact ⟨Or.inr ⟨a, c, x, l, rfl, rfl, hab, HX0.out _⟩, ⟨⟨_, _, _, heap_setCell_same _ g 0 _ _ _ HX.out, by have := HNL.out; simp only [Rm.byte]; omega, HD.out.grown (grown_set _ _ _ _) hB (Nat.le_of_lt (Nat.lt_of_le_of_lt hB hgl)), by omega, by omega, by omega⟩, hB⟩, grown_set _ _ _ _⟩
set_option maxHeartbeats 4000000 in
theorem byte_any (g B : Nat) (r : Rm.R) (w : World) (h : RSt w B g r) :
    Calls Try.prog 61 #[.pointer (some ⟨g, 0, none⟩)] w fun e w' => e = .returned (.int .u8 ((Rm.byte r).1.toNat : Nat)) ∧ RSt w' B g (Rm.byte r).2 ∧ w.grownBy w' (some g) := by
  have HT := Lib.hid (take1_any g B r w h)
  have HBT : Hid (∀ x l, r.1 = x :: l → (Rm.byte r).1 = x) := Lib.hid (fun x l e => by unfold Rm.byte; rw [e])
  have HB0 : Hid (r.1 = [] → (Rm.byte r).1 = 0) := Lib.hid (fun e => by unfold Rm.byte; rw [e])
  clear h
  generalize (Rm.byte r).1 = bb at *
  go_enter Try.func61, Try.ntmps61
  go_wp2_with fail
  refine HT.out.mono ?_
  rintro e w1 ⟨he, hr1, hg1⟩
  have HR1 := Lib.hid hr1
  have HG1 := Lib.hid hg1
  clear hr1 hg1 HT
  rcases he with ⟨h0, rfl⟩ | ⟨a, c, x, l, h0, rfl, hab, hx⟩
  · have HE := Lib.hid (HB0.out h0)
    clear h0
    go_wp2_with fail
    go_ret
    exact ⟨by rw [HE.out]; rfl, HR1.out, HG1.out⟩
  · have HE := Lib.hid (HBT.out x l h0)
    have ea : a.add 0 = a := by simp [Addr.add]
    unfold B8 at hx
    clear h0
    go_wp2_with fail
    go_ret
    exact ⟨by rw [HE.out]; rfl, HR1.out, HG1.out⟩
set_option maxHeartbeats 4000000 in
theorem done_any (g B : Nat) (r : Rm.R) (w : World) (h : RSt w B g r) :
    Calls Try.prog 44 #[.pointer (some ⟨g, 0, none⟩)] w fun e w' => e = .returned (.bool (!r.2 && decide (r.1.length = 0))) ∧ w = w' := by
  obtain ⟨⟨A, n, c, hx, hn, hr, hc1, hc2, hc3⟩, hB⟩ := h
  obtain ⟨rest, bad⟩ := r
  simp only at hx hn hr ⊢
  have c0 : w.cell? ⟨g, 0, none⟩ = some (.slice A n c) := cell_of_row _ _ 0 _ _ (0, 0) hx
  have c1 : w.cell? ⟨g, 1, none⟩ = some (.bool bad) := cell_of_row _ _ 1 _ _ (0, 0) hx
  rw [← hn]
  clear hx hr hn
  cases bad
  · have hq : n = 0 ∨ 0 < n := by omega
    rcases hq with rfl | hq
    · go_enter Try.func44, Try.ntmps44
      go_wp2_with fail
      go_ret
      exact ⟨by simp, rfl⟩
    have q0 : ((n : Int) == 0) = false := by rw [beq_eq_false_iff_ne]; omega
    have q1 : decide (n = 0) = false := decide_eq_false (by omega)
    rw [q1]
    go_enter Try.func44, Try.ntmps44
    go_wp2_with fail
    go_ret
    exact ⟨by simp, rfl⟩
  · go_enter Try.func44, Try.ntmps44
    go_wp2_with fail
    go_ret
    exact ⟨by simp, rfl⟩
end Go.Proofs.Ytajpnimjkkmcmaa
