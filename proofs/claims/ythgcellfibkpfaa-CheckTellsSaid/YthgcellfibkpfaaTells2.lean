/- CheckTells: the code's sum is the document's, whole or in two. -/
import Derived.Test.YthgcellfibkpfaaRest2
import Derived.Test.YthgcellfibkpfaaApp
import Derived.Deep.QuietTactic
import Derived.BigQuiet
namespace Go.Proofs.Ythgcellfibkpfaa
open Go.RowKit
set_option linter.unusedVariables false

theorem infoB3 : (Try.prog.info? 5).map (fun i => (i.zero, i.size, i.bytes)) = some (some (.int .u8 0), 1, 1) := by kernel_rfl
theorem below_draw2 {B : Nat} {a w : World} (h : Below B a w) (n : Nat) : Below B a (w.drewN n) := ⟨h.os, h.tape, h.output, h.size, h.block⟩
theorem flip_same {P : Program} {f : FuncId} {args : Array Value} {w : World} {x : Ending} (h : Calls P f args w fun e w' => e = x ∧ w = w') : Calls P f args w fun e w' => e = x ∧ w' = w := h.mono fun _ _ ⟨a, b⟩ => ⟨a, b.symm⟩

set_option maxHeartbeats 1000000 in
set_option maxRecDepth 100000 in
theorem tells2_out (A : Option Addr) (l : List UInt8) (c : Nat) (k : Int) (w : World) (h : 500 < l.length ∨ k < 0 ∨ (l.length : Int) < k) (hl : l.length ≤ maxLen) :
    Calls Try.prog 3 #[.slice A l.length c, .int .i64 k] w fun e w' => e = .returned (.bool true) ∧ Below w.heap.size w w' := by
  unfold maxLen at hl
  have hh : (500 < l.length) ∨ (¬ 500 < l.length ∧ k < 0) ∨ (¬ 500 < l.length ∧ ¬ k < 0 ∧ (l.length : Int) < k) := by omega
  clear h
  rcases hh with h1 | ⟨h1, h2⟩ | ⟨h1, h2, h3⟩
  all_goals
    go_enter Try.func3, Try.ntmps3
    go_wp2_with (go_at_call 7; refine (alive2_calls _).mono ?_; rintro e w1 ⟨rfl, hb1⟩)
    go_ret
    exact ⟨rfl, hb1⟩

set_option maxHeartbeats 1000000 in
set_option maxRecDepth 100000 in
theorem tells2_in (A : Option Addr) (l : List UInt8) (c : Nat) (m : Nat) (w : World) (hl : l.length ≤ 500) (hm : m ≤ l.length) (hc : l.length ≤ c) (hcm : c ≤ maxLen) (hb : Rd w w.heap.size A (l.map B8)) :
    Calls Try.prog 3 #[.slice A l.length c, .int .i64 m] w fun e w' => e = .returned (.bool true) ∧ Below w.heap.size w w' := by
  obtain ⟨i0, hi, hz0, hz1, hz2⟩ := info_parts infoB3
  unfold maxLen at hcm
  have x1 := Cm.sum_lt l
  have x2 := Cm.sum_lt (l.take m)
  have M0 : Hid (Cm.more 0 l = Cm.sum l) := rfl
  have M1 : Hid (Cm.more (Cm.sum (l.take m)) (l.drop m) = Cm.sum l) := by
    show Cm.more (Cm.sum (l.take m)) (l.drop m) = Cm.sum l
    rw [Cm.more_sum, List.take_append_drop]
  have H1 := Lib.hid (fun W (h : Below w.heap.size w W) n => flip_same (rsum_calls A l c _ (W.drewN n) ((hb.below h).drewN n) (by omega)))
  have H2 := Lib.hid (fun W (h : Below w.heap.size w W) n => flip_same (sumN A (l.take m) m c _ (W.drewN n) (by rw [List.length_take]; omega) (by rw [List.map_take]; exact ((hb.below h).drewN n).take m) (by rw [List.length_take]; omega)))
  have H3 := Lib.hid (fun W (h : Below w.heap.size w W) n => flip_same (moreN (Cm.sum (l.take m)) x2 _ (l.drop m) (l.length - m) (c - m) _ (W.drewN n) (by rw [List.length_drop]) (by rw [List.map_drop]; exact ((hb.below h).drewN n).drop (by simpa using hc)) (by rw [List.length_drop]; omega)))
  have H4 := Lib.hid (fun W (h : Below w.heap.size w W) n => flip_same (more_calls 0 (by omega) A l c _ (W.drewN n) ((hb.below h).drewN n) (by omega)))
  rw [M1.out] at H3
  rw [M0.out] at H4
  have HB := Lib.hid hb
  clear hb M0 M1
  have S0 := Lib.hid (fun A' c' B W h => sumN A' l l.length c' B W rfl h (by omega))
  generalize Cm.sum (l.take m) = s1 at *
  generalize Cm.sum l = s at *
  have q : ((s : Int) == s) = true := by simp
  have im0 : (0 : Int) ≤ (m : Int) := by omega
  have im1 : (m : Int) ≤ (l.length : Int) := by omega
  have im2 : (m : Int) ≤ (c : Int) := by omega
  have im3 : (l.length : Int) ≤ (c : Int) := by omega
  rcases Nat.lt_or_ge m c with hmc | hmc
  · have hne : ¬ c = m := by omega
    simp only [if_neg hne] at H3
    go_enter Try.func3, Try.ntmps3
    go_wp2_with (first
      | (go_at_call 7; refine (alive2_calls _).mono ?_; rintro e w1 ⟨rfl, hb1⟩; have B1 := Lib.hid hb1; clear hb1)
      | (at_builtin; refine wpList_app rfl (.const (.slice none 0 0)) (.tmp 26) _ _ rfl rfl rfl (run_append_rd _ w1.heap.size _ _ 5 i0 _ 1 1 Try.underlying22 hi hz0 hz1 hz2 rfl _ 0 [] (World.ownsRow_nil _ _ _ _) _ _ _ _ (l.map B8) (by simp) (HB.out.below B1.out) (by simp [B8, Value.oneCell']) (by unfold maxLen; omega) (by omega) (Nat.le_refl _)) ?_; rintro v2 w2 ⟨ho2, hg2⟩; have B2 := Lib.hid (hg2.below B1.out B1.out.size (by simp [Value.ownBlock])); rw [List.nil_append, Nat.zero_add] at ho2; obtain ⟨A2, c2, rfl, hc2, hr2⟩ := own_rd ho2; have R2 := Lib.hid hr2; clear ho2 hg2 hr2)
      | (go_at_call 8; refine (S0.out _ _ _ _ R2.out).mono ?_; rintro e w3 ⟨rfl, rfl⟩))
    go_quiet ((first
      | (go_at_call 9; with_reducible exact Calls.quiet_of_same (H1.out w2 B2.out _))
      | (go_at_call 8; with_reducible exact Calls.quiet_of_same (H2.out w2 B2.out _))
      | (go_at_call 10; with_reducible exact Calls.quiet_of_same (H4.out w2 B2.out _))
      | (go_at_call 10; with_reducible exact Calls.quiet_of_same (H3.out w2 B2.out _))))
    go_wp2
    go_ret
    exact ⟨rfl, below_draw2 B2.out _⟩
  · have heq : c = m := by omega
    subst heq
    have e3 : l.length - c = 0 := by omega
    simp only [if_true, Nat.sub_self, e3] at H3
    clear e3
    go_enter Try.func3, Try.ntmps3
    go_wp2_with (first
      | (go_at_call 7; refine (alive2_calls _).mono ?_; rintro e w1 ⟨rfl, hb1⟩; have B1 := Lib.hid hb1; clear hb1)
      | (at_builtin; refine wpList_app rfl (.const (.slice none 0 0)) (.tmp 26) _ _ rfl rfl rfl (run_append_rd _ w1.heap.size _ _ 5 i0 _ 1 1 Try.underlying22 hi hz0 hz1 hz2 rfl _ 0 [] (World.ownsRow_nil _ _ _ _) _ _ _ _ (l.map B8) (by simp) (HB.out.below B1.out) (by simp [B8, Value.oneCell']) (by unfold maxLen; omega) (by omega) (Nat.le_refl _)) ?_; rintro v2 w2 ⟨ho2, hg2⟩; have B2 := Lib.hid (hg2.below B1.out B1.out.size (by simp [Value.ownBlock])); rw [List.nil_append, Nat.zero_add] at ho2; obtain ⟨A2, c2, rfl, hc2, hr2⟩ := own_rd ho2; have R2 := Lib.hid hr2; clear ho2 hg2 hr2)
      | (go_at_call 8; refine (S0.out _ _ _ _ R2.out).mono ?_; rintro e w3 ⟨rfl, rfl⟩))
    go_quiet ((first
      | (go_at_call 9; with_reducible exact Calls.quiet_of_same (H1.out w2 B2.out _))
      | (go_at_call 8; with_reducible exact Calls.quiet_of_same (H2.out w2 B2.out _))
      | (go_at_call 10; with_reducible exact Calls.quiet_of_same (H4.out w2 B2.out _))
      | (go_at_call 10; with_reducible exact Calls.quiet_of_same (H3.out w2 B2.out _))))
    go_wp2
    go_ret
    exact ⟨rfl, below_draw2 B2.out _⟩
end Go.Proofs.Ythgcellfibkpfaa
