/- FrameTells: a record is written, and records are read, as the document says. -/
import Derived.Test.YtklpmpohbhhfaaaAl5
import Derived.Test.YtklpmpohbhhfaaaRs
import Derived.Deep.RegionWith
namespace Go.Proofs.Ytklpmpohbhhfaaa
open Go.RowKit
set_option linter.unusedVariables false

set_option maxHeartbeats 1000000 in
set_option maxRecDepth 100000 in
theorem tells5_out (pA : Option Addr) (p : List UInt8) (pc : Nat) (bA : Option Addr) (b : List UInt8) (bc : Nat) (w : World) (h : 500 < p.length ∨ 1000 < b.length) (hp : p.length ≤ maxLen) (hb : b.length ≤ maxLen) :
    Calls Try.prog 3 #[.slice pA p.length pc, .slice bA b.length bc] w fun e w' => e = .returned (.bool true) ∧ Below w.heap.size w w' := by
  unfold maxLen at hp hb
  have hh : (500 < p.length) ∨ (¬ 500 < p.length ∧ 1000 < b.length) := by omega
  clear h
  rcases hh with h1 | ⟨h1, h2⟩
  all_goals
    go_enter Try.func3, Try.ntmps3
    go_wp2_with (go_at_call 7; refine (alive5_calls _).mono ?_; rintro e w1 ⟨rfl, hb1⟩)
    go_ret
    exact ⟨rfl, hb1⟩

set_option maxHeartbeats 4000000 in
set_option maxRecDepth 100000 in
theorem tells5_in (pA : Option Addr) (p : List UInt8) (pc : Nat) (bA : Option Addr) (b : List UInt8) (bc : Nat) (w : World) (hp : p.length ≤ 500) (hb : b.length ≤ 1000) (hbc : b.length ≤ bc) (hbm : bc ≤ maxLen) (rp : Rd w w.heap.size pA (p.map B8)) (rb : Rd w w.heap.size bA (b.map B8)) :
    Calls Try.prog 3 #[.slice pA p.length pc, .slice bA b.length bc] w fun e w' => e = .returned (.bool true) ∧ Below w.heap.size w w' := by
  have RP := Lib.hid rp
  have RB := Lib.hid rb
  clear rp rb
  have q1 : ¬ 500 < p.length := by omega
  have q2 : ¬ 1000 < b.length := by omega
  have hlen : (Fm.splits b).1.length ≤ 1001 := by
    have h : ∀ (f : Nat) (l : List UInt8), (Fm.split f l).1.length ≤ f := by
      intro f
      induction f with
      | zero => intro l; simp [Fm.split]
      | succ f ih =>
        intro l
        unfold Fm.split
        split
        · simp only [List.length_cons]
          have := ih (l.drop (Fm.first l).2.1)
          omega
        · simp
    have := h (b.length + 1) b
    unfold Fm.splits
    omega
  generalize hln : b.length = n at *
  have HSP := Lib.hid (fun A c W (hr : Rd W W.heap.size A (b.map B8)) (hc : n ≤ c) => split_calls A b n c W hln.symm hr hc (by omega))
  have HRS := Lib.hid (fun W (h : Below w.heap.size w W) => rsplit_calls bA b n bc W hln.symm ((RB.out.below h).more h.size) hbc (by omega))
  have HLN := Lib.hid hln
  clear hln
  generalize Fm.splits b = S at *
  obtain ⟨ls, at_⟩ := S
  simp only at HSP HRS hlen
  go_enter Try.func3, Try.ntmps3
  go_wp2_with (first
    | (go_at_call 7; refine (alive5_calls _).mono ?_; rintro e w1 ⟨rfl, hb1⟩; have B1 := Lib.hid hb1; have z1 := hb1.size; clear hb1)
    | (at_builtin; refine wpList_app rfl (.const (.slice none 0 0)) (.tmp 25) _ _ rfl rfl rfl (appBn (k := []) (World.ownsRow_nil _ w1.heap.size _ _) (RB.out.below B1.out) (by have := HLN.out; simp; omega) (Nat.le_refl _) rfl HLN.out.symm) ?_; rintro v2 w2 ⟨ho2, hg2⟩; rw [Nat.zero_add, List.nil_append] at ho2; have B2 := Lib.hid (B1.out.trans (hg2.new.mono z1)); have z2 := B2.out.size; obtain ⟨A2, c2, rfl, hc2, hr2⟩ := own_rd ho2; have R2 := Lib.hid hr2; clear ho2 hg2 hr2)
    | (go_at_call 8; refine (HSP.out _ _ _ R2.out hc2).mono ?_; rintro e w3 ⟨v3, rfl, ho3, hb3⟩; have B3 := Lib.hid (B2.out.trans (hb3.mono z2)); have z3 := B3.out.size; obtain ⟨lA, lc, rfl, _, hr3⟩ := ho3.rds; have L3 := Lib.hid hr3; clear ho3 hb3 hr3)
    | (go_at_call 9; refine (HRS.out _ B3.out).mono ?_; rintro e w4 ⟨v4, rfl, ho4, hb4⟩; have B4 := Lib.hid (B3.out.trans (hb4.mono z3)); have z4 := B4.out.size; obtain ⟨mA, mc, rfl, _, hr4⟩ := ho4.rds; have M4 := Lib.hid hr4; have L4 := Lib.hid ((L3.out.below hb4).more hb4.size); clear ho4 hb4 hr4))
  have RP4 := Lib.hid ((RP.out.below B4.out).more z4)
  have HBY := Lib.hid (fun W (h : Below w4.heap.size w4 W) => bytes_calls pA p pc _ W (RP4.out.below h) h.size (by omega))
  have HFR := Lib.hid (fun W (h : Below w4.heap.size w4 W) => rframe_calls pA p pc _ W (RP4.out.below h) h.size (by omega))
  have HSM := Lib.hid (fun W (h : Below w4.heap.size w4 W) => same_calls lA ls ls.length lc mA ls ls.length mc _ W rfl rfl (L4.out.below h) (M4.out.below h) (by omega) (by omega))
  simp only [decide_true] at HSM
  generalize Fm.rec p = R at *
  generalize ls.length = q at *
  clear HSP HRS RB RP
  go_region_with
    ((first
      | (go_at_call 10; refine (HBY.out _ (by first | exact Below.refl _ _ | exact below_drew1 (Below.refl _ _))).mono ?_; rintro e w5 ⟨v5, rfl, ho5, hg5⟩; have B5 : Hid (Below w4.heap.size w4 w5) := (by first | exact hg5.new | exact (grew_drew hg5).new); have z5 := B5.out.size; obtain ⟨A5, c5, rfl, hc5, hr5⟩ := own_rd ho5; have R5 := Lib.hid hr5; have k5 := run_str (P := Try.prog) 22 5 9 Try.underlying22 Try.underlying5 Try.underlying9 hr5 R.length c5 rfl; have k6 := run_str (P := Try.prog) 22 5 9 Try.underlying22 Try.underlying5 Try.underlying9 (w := w5.drew) hr5 R.length c5 rfl; clear ho5 hg5 hr5)
      | (go_at_call 11; refine (HFR.out _ (by first | exact B5.out | exact below_drew1 B5.out)).mono ?_; rintro e w6 ⟨v6, rfl, ho6, hb6⟩; have b56 : Below w5.heap.size w5 w6 := (by first | exact hb6 | exact (below_drew1 (Below.refl _ _)).trans hb6); have B6 := Lib.hid (B5.out.trans (b56.mono z5)); obtain ⟨A6, c6, rfl, hc6, hr6⟩ := own_rd ho6; have k7 := run_str (P := Try.prog) 22 5 9 Try.underlying22 Try.underlying5 Try.underlying9 hr6 R.length c6 rfl; have k8 := run_str (P := Try.prog) 22 5 9 Try.underlying22 Try.underlying5 Try.underlying9 (w := w6.drew) hr6 R.length c6 rfl; have k9 := run_str (P := Try.prog) 22 5 9 Try.underlying22 Try.underlying5 Try.underlying9 (R5.out.below b56) R.length c5 rfl; have k10 := run_str (P := Try.prog) 22 5 9 Try.underlying22 Try.underlying5 Try.underlying9 (w := w6.drew) (R5.out.below (below_drew1 b56)) R.length c5 rfl; clear ho6 hb6 hr6 b56)
      | (go_at_call 12; refine (HSM.out _ (by first | exact B6.out | exact below_drew1 B6.out)).mono ?_; rintro e w7 ⟨rfl, hw7⟩; have B7 : Hid (Below w4.heap.size w4 w7) := (by obtain ⟨j, rfl⟩ := hw7; first | exact below_drewN B6.out j | exact below_drewN (below_drew1 B6.out) j); clear hw7)))
  all_goals
    clear k5 k6 k7 k8 k9 k10 HBY HFR HSM
    simp only [Act.put, List.getElem_toArray, List.getElem_cons_zero, List.getElem_cons_succ, List.setIfInBounds_toArray, List.set_cons_zero, List.set_cons_succ]
    go_wp2
    go_ret
    exact ⟨by first | rfl | simp, B4.out.trans (B7.out.mono z4)⟩
end Go.Proofs.Ytklpmpohbhhfaaa
