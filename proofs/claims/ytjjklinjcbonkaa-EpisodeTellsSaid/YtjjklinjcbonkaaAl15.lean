/- Chapter 15's example. -/
import Derived.Test.YtjjklinjcbonkaaEp
namespace Go.Proofs.Ytjjklinjcbonkaa
open Go.RowKit Go.Maps
set_option linter.unusedVariables false
set_option maxRecDepth 100000

theorem ok_zero (id : Int) (h : 0 ≤ id ∧ id ≤ 18446744073709551615) : (⟨0, 0, id, 0, ⟨#[]⟩, ⟨#[]⟩, 0, 0, false, []⟩ : Sp).ok := ⟨⟨Int.le_refl _, by simp⟩, ⟨Int.le_refl _, by simp⟩, h, ⟨Int.le_refl _, by simp⟩, Nat.zero_le _, Nat.zero_le _, ⟨by simp, by simp⟩, ⟨by simp, by simp⟩, Nat.zero_le _, by simp⟩
set_option maxHeartbeats 4000000 in
theorem alive15_calls (w : World) : Calls Try.prog 7 #[] w fun e w' => e = .returned (.bool true) ∧ Below w.heap.size w w' := by
  have CA := Lib.hid (add_new 0 0 0 0 false none [] 0 0 5 0 ⟨#[]⟩ ⟨#[]⟩ 0 0 false none 0 0 [] 3 0 w rfl RdSps.nil rfl ⟨Rd.nil, ⟨Nat.le_refl _, Nat.zero_le _⟩, ok_zero 5 (by constructor <;> decide)⟩ (Nat.zero_le _) (by omega) (by simp) (by omega) rfl)
  go_enter Try.func7, Try.ntmps7
  go_wp2_with (first
    | (go_at_call 10; (with_reducible refine (CA.out).mono ?_); rintro e w1 ⟨A1, n1, c1, l1, rfl, hn1, ho1, hm1, hb1⟩; have hn1' : n1 = 1 := hn1; subst hn1'; have HB1 := Lib.hid hb1; clear hn1 ho1 hm1 hb1)
    | (go_at_call 14; (with_reducible refine (spans_any none [] 0 0 0 0 0 _ rfl RdEps.nil (Nat.zero_le _) (Nat.zero_le _) (by simp) (by simp)).mono ?_); rintro e w2 ⟨v2, l2, rfl, ho2, hm2, hb2⟩; obtain rfl : l2 = [] := (by simpa [spAll] using hm2); obtain ⟨A2, c2, hv2, _, _⟩ := ho2.rd; (have hv2' : v2 = .slice A2 0 c2 := hv2); subst hv2'; have hP := (hb2.block w1.heap.size (by simp)).trans (heap_alloc_new w1 _); have p3 := cell_of_row _ _ 3 _ _ (0, 0) hP; have p5 := cell_of_row _ _ 5 _ _ (0, 0) hP; have HB2 := Lib.hid (((HB1.out.alloc HB1.out.size _).trans (hb2.mono (Nat.le_trans HB1.out.size (by simp))))); clear ho2 hm2 hb2 hv2 hP))
  go_ret
  exact ⟨rfl, HB2.out⟩
end Go.Proofs.Ytjjklinjcbonkaa
