/- The example of chapter 1 holds. -/
import Derived.Test.YthkclgkbidhmbaaPut
import Derived.Test.YthkclgkbidhmbaaGtx
namespace Go.Proofs.Ythkclgkbidhmbaa
open Go.RowKit

theorem convOwn {w : World} {base n : Nat} {e : TypeId} {v : Value} {l : List UInt8} (h : w.ownsRow base e 1 v n (l.map B8))
    (src ee dst : TypeId) (hs : Try.prog.underlying src = some (.slice ee)) (he : Try.prog.underlying ee = some (.int .u8)) (hd : Try.prog.underlying dst = some .string) :
    (convert src dst v).run Try.prog w = .ok (.string (S8 l)) w := by
  obtain ⟨A, c, rfl, hc, hr⟩ := own_rd h
  exact run_str _ _ _ hs he hd hr n c (by have := h.1; simp at this; omega)

theorem put300 : Mi.put 300 = [172, 2] := by decide
theorem get300 : Mi.get [172, 2, 9] = (300, 2, true) := by decide
theorem textab : Mi.text [97, 98] = [2, 97, 98] := by decide

set_option maxHeartbeats 1000000 in
set_option maxRecDepth 100000 in
theorem alive1_calls (w : World) : Calls Try.prog 15 #[] w fun e w' => e = .returned (.bool true) ∧ Below w.heap.size w w' := by
  go_enter Try.func15, Try.ntmps15
  go_wp2_with (first
    | (go_at_call 16; refine (get_calls _ [172, 2, 9] _ _ _ (Rd.lit w _ _) (by decide)).mono ?_; rw [get300]; rintro e w1 ⟨rfl, rfl⟩)
    | (go_at_call 20; refine (put_calls none [] _ _ 300 _ Rd.nil (Nat.zero_le _) (by decide) (by decide)).mono ?_; rintro e w1 ⟨v1, rfl, ho1, hg1⟩; rw [List.nil_append, put300] at ho1; have hc1 := convOwn ho1 22 5 9 Try.underlying22 Try.underlying5 Try.underlying9; simp only [S8] at hc1; clear ho1)
    | (go_at_call 22; refine (text_calls none [] _ _ _ _ Rd.nil (Nat.zero_le _) (by decide) (by decide)).mono ?_; rintro e w2 ⟨v2, rfl, ho2, hg2⟩; rw [List.nil_append, show Mi.text _ = [2, 97, 98] from textab] at ho2; have hc2 := convOwn ho2 22 5 9 Try.underlying22 Try.underlying5 Try.underlying9; simp only [S8] at hc2; clear ho2))
  go_ret
  refine ⟨rfl, ?_⟩
  have b0 : Below w.heap.size w (w.alloc (.cells #[.int .u8 172, .int .u8 2, .int .u8 9] 5)) := (Below.refl _ _).alloc (Nat.le_refl _) _
  have b1 := hg1.below b0 (by simp) (by simp [Value.ownBlock])
  exact hg2.below b1 (Nat.le_trans b0.size hg1.grown.size) (by simp [Value.ownBlock])
end Go.Proofs.Ythkclgkbidhmbaa
