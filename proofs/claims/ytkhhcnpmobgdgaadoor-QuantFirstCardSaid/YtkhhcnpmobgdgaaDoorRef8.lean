/- The document's own counters: cap, sum, bucket, both together. -/
import Derived.Test.YtkhhcnpmobgdgaaDoorBk
namespace Go.Proofs.YtkhhcnpmobgdgaaDoor
open Go.RowKit

set_option maxHeartbeats 1000000 in
theorem cap_any (n l h : Int) (w : World) : Calls Tryd.prog 26 #[.int .i64 n, .int .i64 l, .int .i64 h] w fun e w' => e = .returned (.int .i64 (if n < l then l else if h < n then h else n)) ∧ w = w' := by
  by_cases h1 : n < l
  · go_enter Tryd.func26, Tryd.ntmps26
    go_wp2
    go_ret
    exact ⟨by simp, rfl⟩
  · by_cases h2 : h < n
    · go_enter Tryd.func26, Tryd.ntmps26
      go_wp2
      go_ret
      exact ⟨by simp, rfl⟩
    · go_enter Tryd.func26, Tryd.ntmps26
      go_wp2
      go_ret
      exact ⟨by simp, rfl⟩

set_option maxHeartbeats 1000000 in
theorem sum_any (a b m : Int) (w : World) (ha : -9223372036854775808 ≤ a) (ha2 : a ≤ 9223372036854775807) (hb : -9223372036854775808 ≤ b) (hb2 : b ≤ 9223372036854775807) (hm : -9223372036854775808 ≤ m) (hm2 : m ≤ 9223372036854775807) :
    Calls Tryd.prog 39 #[.int .i64 a, .int .i64 b, .int .i64 m] w fun e w' => e = .returned (.int .i64 (Bm.top a b m)) ∧ w = w' := by
  have HT := Lib.hid (top_eq ha2 hb2 hm2)
  obtain ⟨M, hM⟩ : ∃ M, M = (if m < 0 then 0 else if 9223372036854775807 < m then 9223372036854775807 else m) := ⟨_, rfl⟩
  obtain ⟨A, hA⟩ : ∃ A, A = (if a < 0 then 0 else if M < a then M else a) := ⟨_, rfl⟩
  obtain ⟨B, hB⟩ : ∃ B, B = (if b < 0 then 0 else if M < b then M else b) := ⟨_, rfl⟩
  have m0 : 0 ≤ M := by rw [hM]; split <;> (try split) <;> omega
  have m1 : M ≤ 9223372036854775807 := by rw [hM]; split <;> (try split) <;> omega
  have a0 : 0 ≤ A := by rw [hA]; split <;> (try split) <;> omega
  have a1 : A ≤ M := by rw [hA]; split <;> (try split) <;> omega
  have b0 : 0 ≤ B := by rw [hB]; split <;> (try split) <;> omega
  have b1 : B ≤ M := by rw [hB]; split <;> (try split) <;> omega
  have HF : Hid (Bm.top a b m = if M - A < B then M else A + B) := by
    show _ = _
    rw [HT.out]
    have e1 : M = max m 0 := by rw [hM]; split <;> (try split) <;> omega
    have e2 : A = min (max a 0) M := by rw [hA]; split <;> (try split) <;> omega
    have e3 : B = min (max b 0) M := by rw [hB]; split <;> (try split) <;> omega
    split <;> omega
  have C1 := fun W => Lib.hid (cap_any m 0 9223372036854775807 W)
  have C2 := fun W => Lib.hid (cap_any a 0 M W)
  have C3 := fun W => Lib.hid (cap_any b 0 M W)
  rw [← hM] at C1
  rw [← hA] at C2
  rw [← hB] at C3
  clear hM hA hB HT
  have hc : M - A < B ∨ B ≤ M - A := by omega
  rcases hc with hc | hc
  all_goals
    go_enter Tryd.func39, Tryd.ntmps39
    go_wp2_with (first
      | (have hd := done2; clear done2; go_at_call 26; refine (C3 _).out.mono ?_; rintro e w3 ⟨rfl, rfl⟩)
      | (have hd := done1; clear done1; go_at_call 26; refine (C2 _).out.mono ?_; rintro e w2 ⟨rfl, rfl⟩; have done2 := trivial)
      | (go_at_call 26; refine (C1 _).out.mono ?_; rintro e w1 ⟨rfl, rfl⟩; have done1 := trivial))
    go_ret
    refine ⟨?_, rfl⟩
    rw [HF.out]
    first | (rw [if_pos (by omega)]; rfl) | (rw [if_neg (by omega)]; rfl)

/-- The bounds, laid by the call. -/
theorem bnd_cell (w : World) (k : Nat) (h : k < 7) (t : TypeId) : (w.alloc (.cells #[.int .i64 1, .int .i64 5, .int .i64 10, .int .i64 50, .int .i64 100, .int .i64 500, .int .i64 1000] t)).cell? ⟨w.heap.size, k, none⟩ = some (.int .i64 (Bm.bnds.getD k 0)) := by
  rw [cell_of_row _ _ k _ t (0, 0) (heap_alloc_new w _)]
  have : k = 0 ∨ k = 1 ∨ k = 2 ∨ k = 3 ∨ k = 4 ∨ k = 5 ∨ k = 6 := by omega
  rcases this with rfl | rfl | rfl | rfl | rfl | rfl | rfl <;> rfl

set_option maxHeartbeats 1000000 in
theorem ofref_any (d : Int) (w : World) : Calls Tryd.prog 61 #[.int .i64 d] w fun e w' => e = .returned (.int .i64 (Bm.of d)) ∧ Below w.heap.size w w' := by
  go_enter Tryd.func61, Tryd.ntmps61
  go_wp2_with fail
  have CB := Lib.hid (fun k h => bnd_cell w k h 3)
  have BB := Lib.hid ((Below.refl w.heap.size w).alloc (Nat.le_refl _) (.cells #[.int .i64 1, .int .i64 5, .int .i64 10, .int .i64 50, .int .i64 100, .int .i64 500, .int .i64 1000] 3))
  generalize hW2 : w.alloc (.cells #[.int .i64 1, .int .i64 5, .int .i64 10, .int .i64 50, .int .i64 100, .int .i64 500, .int .i64 1000] 3) = W2 at *
  have HW2 := Lib.hid hW2
  clear hW2
  generalize hC : w.heap.size = C at *
  go_loop [4, 5] (fun n i => ∃ k : Nat, k ≤ 7 ∧ i = .int .i64 k ∧ n = .int .i64 (Bm.cnt d k)) (fun _ i => 7 - (intOf i).toNat)
  case atStart => exact ⟨0, by omega, rfl, rfl⟩
  case round =>
    obtain ⟨k, hk, rfl, rfl⟩ := hrel
    by_cases h7 : k < 7
    · have cc := CB.out k h7
      have hs := Bm.cnt_step d k h7
      have hb := Bm.cnt_le d k
      have HS := Lib.hid hs
      clear hs
      obtain ⟨b, hb2⟩ : ∃ b, b = Bm.bnds.getD k 0 := ⟨_, rfl⟩
      rw [← hb2] at cc HS
      clear hb2
      by_cases hd : b ≤ d
      · have H2 : Hid (Bm.cnt d (k + 1) = Bm.cnt d k + 1) := by rw [HS.out, if_pos hd]; rfl
        go_wp2
        go_round
        case rel => exact ⟨k + 1, by omega, by go_num, by rw [H2.out]; go_num⟩
        case measure => simp [intOf]; omega
      · have H2 : Hid (Bm.cnt d (k + 1) = Bm.cnt d k) := by rw [HS.out, if_neg hd]; rfl
        go_wp2
        go_round
        case rel => exact ⟨k + 1, by omega, by go_num, by rw [H2.out]⟩
        case measure => simp [intOf]; omega
    · obtain rfl : k = 7 := by omega
      go_wp2
      go_ret
      exact ⟨rfl, BB.out⟩

end Go.Proofs.YtkhhcnpmobgdgaaDoor
