/- The document's Count, less, long, Close. -/
import Derived.Test.YtenioeppmgmdiaaCl
namespace Go.Proofs.Ytenioeppmgmdiaa
open Go.RowKit
set_option linter.unusedVariables false
set_option linter.unusedSimpArgs false
set_option maxRecDepth 100000

set_option maxHeartbeats 8000000 in
theorem dcount_any (A : Option Addr) (l : List Le) (n c B : Nat) (w : World) (hn : n = l.length) (hy : RdEps w B A l) (hB : B ≤ w.heap.size) (hg : ModE l) :
    Calls Try.prog 25 #[.slice A n c] w fun e w' => e = .returned (.int .i64 (cntE l : Int)) ∧ w = w' := by
  have HN := Lib.hid hn
  have HY := Lib.hid hy
  obtain ⟨hgl, hge⟩ := hg
  have hn1 : n ≤ 100000 := by omega
  have HCL : Hid (∀ k, k ≤ n → cntE (l.take k) ≤ 90000 * n) := Lib.hid (fun k hk => by
    have h := cntE_le (l.take k) (fun e he => (hge e (List.mem_of_mem_take he)).1)
    rw [List.length_take] at h
    exact Nat.le_trans h (Nat.mul_le_mul_left _ (by omega)))
  have HGE : Hid (∀ e ∈ l, e.l.length ≤ 90000) := Lib.hid (fun e he => (hge e he).1)
  clear hn hy hgl hge
  go_enter Try.func25, Try.ntmps25
  go_wp2_with fail
  go_loopw [4, 3] (fun i v wr => ∃ k t : Nat, i = .int .i64 k ∧ v = .int .i64 t ∧ k ≤ n ∧ t ≤ 90000 * n ∧ Hid (t = cntE (l.take k)) ∧ Hid (w = wr)) (fun i _ _ => n - (intOf i).toNat)
  case atStart => exact ⟨0, 0, rfl, rfl, by omega, by omega, Lib.hid (by simp [cntE]), Lib.hid rfl⟩
  case round =>
    obtain ⟨k, t, rfl, rfl, hk, ht, HT, HB⟩ := hrel
    by_cases hlt : k < n
    · obtain ⟨e, he⟩ : ∃ e, l[k]? = some e := ⟨_, List.getElem?_eq_getElem (by rw [← HN.out]; exact hlt)⟩
      have hql := HGE.out e (List.mem_of_getElem? he)
      obtain ⟨th, tl, f, la, su, ls, eA, ec⟩ := e
      obtain ⟨q, hq⟩ : ∃ q, q = ls.length := ⟨_, rfl⟩
      simp only at hql
      rw [← hq] at hql
      have hyr : RdEps wr B A l := by rw [← HB.out]; exact HY.out
      obtain ⟨a, ha, hab, c0, c1, c2, c3, c4, c5, _⟩ := epcells hyr he q hq
      subst ha
      have hst := cntE_step l k _ he
      simp only at hst
      rw [← hq] at hst
      have hcl := HCL.out (k + 1) (by omega)
      rw [hst, ← HT.out] at hcl
      have HST : Hid (t + q = cntE (l.take (k + 1))) := Lib.hid (by rw [hst, HT.out])
      clear he hq hst hyr
      go_wp2_with fail
      go_roundw
      case rel => exact ⟨k + 1, t + q, by go_num, by go_num, by omega, hcl, HST, HB⟩
      case measure => simp [intOf]; omega
    · obtain rfl : k = n := by omega
      have HF : Hid (t = cntE l) := Lib.hid (by have := HT.out; rwa [List.take_of_length_le (by rw [← HN.out]; exact Nat.le_refl _)] at this)
      go_wp2_with fail
      go_ret
      exact ⟨by rw [← HF.out] <;> rfl, HB.out⟩
set_option maxHeartbeats 4000000 in
theorem dless_any (a b : Int) (w : World) (ha : -9223372036854775808 ≤ a ∧ a ≤ 9223372036854775807) (hb : -9223372036854775808 ≤ b ∧ b ≤ 9223372036854775807) :
    Calls Try.prog 54 #[.int .i64 a, .int .i64 b] w fun e w' => e = .returned (.int .i64 (satS a b)) ∧ w = w' := by
  obtain ⟨a1, a2⟩ := ha
  obtain ⟨b1, b2⟩ := hb
  have hc : (b < 0 ∧ 9223372036854775807 + b < a) ∨ (b < 0 ∧ ¬ 9223372036854775807 + b < a) ∨ (0 < b ∧ a < -9223372036854775808 + b) ∨ (0 < b ∧ ¬ a < -9223372036854775808 + b) ∨ b = 0 := by omega
  rcases hc with ⟨h1, h2⟩ | ⟨h1, h2⟩ | ⟨h1, h2⟩ | ⟨h1, h2⟩ | rfl
  · have HQ : Hid (satS a b = 9223372036854775807) := Lib.hid (by unfold satS; rw [if_neg (by omega), if_pos ⟨h1, h2⟩])
    have d1 : decide (b < 0) = true := decide_eq_true h1
    have d2 : decide (9223372036854775807 + b < a) = true := decide_eq_true h2
    rw [HQ.out]
    go_enter Try.func54, Try.ntmps54
    go_wp2_with fail
    go_ret
    exact ⟨rfl, rfl⟩
  · have HQ : Hid (satS a b = a - b) := Lib.hid (by unfold satS; rw [if_neg (by omega), if_neg (by omega)])
    have d1 : decide (b < 0) = true := decide_eq_true h1
    have d2 : decide (9223372036854775807 + b < a) = false := decide_eq_false h2
    have d3 : decide (0 < b) = false := decide_eq_false (by omega)
    rw [HQ.out]
    go_enter Try.func54, Try.ntmps54
    go_wp2_with fail
    go_ret
    exact ⟨rfl, rfl⟩
  · have HQ : Hid (satS a b = -9223372036854775808) := Lib.hid (by unfold satS; rw [if_pos ⟨h1, h2⟩])
    have d1 : decide (b < 0) = false := decide_eq_false (by omega)
    have d2 : decide (0 < b) = true := decide_eq_true h1
    have d3 : decide (a < -9223372036854775808 + b) = true := decide_eq_true h2
    rw [HQ.out]
    go_enter Try.func54, Try.ntmps54
    go_wp2_with fail
    go_ret
    exact ⟨rfl, rfl⟩
  · have HQ : Hid (satS a b = a - b) := Lib.hid (by unfold satS; rw [if_neg (by omega), if_neg (by omega)])
    have d1 : decide (b < 0) = false := decide_eq_false (by omega)
    have d2 : decide (0 < b) = true := decide_eq_true h1
    have d3 : decide (a < -9223372036854775808 + b) = false := decide_eq_false h2
    rw [HQ.out]
    go_enter Try.func54, Try.ntmps54
    go_wp2_with fail
    go_ret
    exact ⟨rfl, rfl⟩
  · have HQ : Hid (satS a 0 = a) := Lib.hid (by unfold satS; rw [if_neg (by omega), if_neg (by omega)]; omega)
    rw [HQ.out]
    go_enter Try.func54, Try.ntmps54
    go_wp2_with fail
    go_ret
    exact ⟨rfl, rfl⟩
set_option maxHeartbeats 4000000 in
theorem dlong_any (x to m : Int) (w : World) (hx : -9223372036854775808 ≤ x ∧ x ≤ 9223372036854775807) (ht : -9223372036854775808 ≤ to ∧ to ≤ 9223372036854775807) :
    Calls Try.prog 42 #[.int .i64 x, .int .i64 to, .int .i64 m] w fun e w' => e = .returned (.bool (decide (m ≤ satS to x))) ∧ w = w' := by
  have HL := Lib.hid (dless_any to x w ht hx)
  clear hx ht
  generalize satS to x = z at *
  go_enter Try.func42, Try.ntmps42
  go_wp2_with (go_at_call 54; refine HL.out.mono ?_; rintro e w1 ⟨rfl, rfl⟩)
  go_ret
  exact ⟨rfl, rfl⟩
end Go.Proofs.Ytenioeppmgmdiaa
