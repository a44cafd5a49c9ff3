/- BatchTorn: no beginning of a batch is one, none with more behind, and none of which a bit was turned. -/
import Derived.Test.YthkclgkbidhmbaaTl4
import Derived.Test.YthkclgkbidhmbaaPl
import Derived.Test.YthkclgkbidhmbaaBl
namespace Go.Proofs.Ythkclgkbidhmbaa
open Go.RowKit
set_option linter.unusedVariables false
set_option linter.unusedSimpArgs false
set_option maxRecDepth 100000

theorem lit_zero (w : World) : Rd (w.alloc (.cells #[.int .u8 0] 5)) (w.heap.size + 1) (some ⟨w.heap.size, 0, none⟩) (([0] : List UInt8).map B8) := by
  have := Rd.lit w #[.int .u8 0] 5
  simpa [B8] using this
theorem flip_no (b : List UInt8) (k : Nat) (h : k < 8 * (b ++ Cm.le4 (Cm.sum b)).length) : ¬ Ct.ok (Cm.flip (b ++ Cm.le4 (Cm.sum b)) k) := by
  intro ⟨_, hv⟩
  have h4 : (Cm.le4 (Cm.sum b)).length = 4 := rfl
  have hl : (Cm.flip (b ++ Cm.le4 (Cm.sum b)) k).length - 4 = b.length := by rw [Cm.flip_len, List.length_append, h4]; omega
  rw [hl] at hv
  rw [List.length_append, h4] at h
  generalize ht : Cm.le4 (Cm.sum b) = t at *
  by_cases hk : k / 8 < b.length
  · have e : Cm.flip (b ++ t) k = Cm.flip b k ++ t := by
      unfold Cm.flip
      rw [List.set_append, if_pos hk]
      congr 2
      simp [List.getD, List.getElem?_append, hk]
    have el : (Cm.flip b k).length = b.length := Cm.flip_len b k
    rw [e, List.drop_left' el, List.take_left' el, ← ht, Fm.val4_le4 _ (Cm.sum_lt b)] at hv
    exact Cm.one_ne b k (by omega) hv.symm
  · have e : Cm.flip (b ++ t) k = b ++ t.set (k / 8 - b.length) ((b ++ t).getD (k / 8) 0 ^^^ Cm.bitb k) := by
      unfold Cm.flip
      rw [List.set_append, if_neg hk]
    rw [e, List.drop_left' rfl, List.take_left' rfl] at hv
    have h5 := (Fm.sum_eq_iff (t.set (k / 8 - b.length) ((b ++ t).getD (k / 8) 0 ^^^ Cm.bitb k)) (Cm.sum b) (by rw [List.length_set]; exact h4) (Cm.sum_lt b)).2 hv
    rw [ht] at h5
    have h6 := congrArg (fun z => z.getD (k / 8 - b.length) 0) h5
    have hi : k / 8 - b.length < t.length := by rw [h4]; omega
    have h7 : (b ++ t).getD (k / 8) 0 = t.getD (k / 8 - b.length) 0 := by
      simp only [List.getD, List.getElem?_append_right (Nat.le_of_not_lt hk)]
    rw [h7] at h6
    simp only [List.getD, List.getElem?_set, if_true, hi, Option.getD_some] at h6
    have h8 := congrArg UInt8.toNat h6
    rw [UInt8.toNat_xor, Cm.bitb_nat] at h8
    exact Cm.xor_ne _ _ (Nat.ne_of_gt (Nat.pow_pos (by decide))) h8
theorem read_er (b : List UInt8) (hb : b.length ≤ 500000) : ∃ (s : List Sp), ∀ (A : Option Addr) (n c B : Nat) (w : World), n = b.length → Rd w B A (b.map B8) → B ≤ w.heap.size → (n ≤ c ∧ c ≤ maxLen) → Calls Try.prog 49 #[.slice A n c] w (BatchRes s (if Bm.okB b then 0 else 2) w) := by
  cases hk : Bm.okB b with
  | false => exact ⟨[], fun A n c B w hn hr hB hc => ((readbatch_any A b n c B w hn hr hB hc (by omega)).1 hk).mono fun e w' h => noBatch_res h⟩
  | true => exact ⟨(Bm.all b).2, fun A n c B w hn hr hB hc => ((readbatch_any A b n c B w hn hr hB hc (by omega)).2 hk).mono fun e w' h => h⟩
set_option maxHeartbeats 4000000 in
theorem wholly_any (b : List UInt8) (A : Option Addr) (n c B : Nat) (w : World) (hb : b.length ≤ 500000) (hn : n = b.length) (hr : Rd w B A (b.map B8)) (hB : B ≤ w.heap.size) (hc : n ≤ c ∧ c ≤ maxLen) :
    Calls Try.prog 53 #[.slice A n c] w fun e w' => e = .returned (.bool (Bm.okB b)) ∧ Below w.heap.size w w' := by
  obtain ⟨h1, _⟩ := batch_both b
  obtain ⟨h3, h4⟩ := dreadbatch_any A b n c B w hn hr hB hc (by omega)
  cases hk : Bm.okB b with
  | false =>
    have HC := Lib.hid (h3 (h1.trans hk))
    clear h1 h3 h4 hk hn hr hB hc hb
    go_enter Try.func53, Try.ntmps53
    go_wp2_with (go_at_call 50; (with_reducible refine (HC.out).mono ?_); rintro e w1 ⟨rfl, hb1⟩; have HB1 := Lib.hid hb1; clear hb1)
    go_ret
    exact ⟨rfl, HB1.out⟩
  | true =>
    have HC := Lib.hid (h4 (h1.trans hk))
    clear h1 h3 h4 hk hn hr hB hc hb
    go_enter Try.func53, Try.ntmps53
    go_wp2_with (go_at_call 50; (with_reducible refine (HC.out).mono ?_); rintro e w1 ⟨v, l', rfl, ho, _, hb1⟩; obtain ⟨A1, c1, rfl, _, _⟩ := ho.rd; have HB1 := Lib.hid hb1; clear hb1 ho)
    go_ret
    exact ⟨rfl, HB1.out⟩
set_option maxHeartbeats 8000000 in
theorem torn4_out (A : Option Addr) (l : List Ls) (n c : Nat) (cut bit : Int) (w : World) (hn : n = l.length) (hy : RdSps w w.heap.size A l) (hl : n ≤ maxLen) (h : fewAll l = false ∨ rightL l = false ∨ cut < 0 ∨ bit < 0) :
    Calls Try.prog 13 #[.slice A n c, .int .i64 cut, .int .i64 bit] w fun e w' => e = .returned (.bool true) ∧ Below w.heap.size w w' := by
  have HFW : Hid (∀ W, Below w.heap.size w W → Calls Try.prog 36 #[.slice A n c] W fun e w' => e = .returned (.bool (fewAll l)) ∧ Below W.heap.size W w') := Lib.hid (fun W hW => fewall_any A l n c w.heap.size W hn (hy.below hW) hW.size hl)
  obtain ⟨X, hX⟩ : ∃ X, X = if rightL l then batchBytes l else [] := ⟨_, rfl⟩
  obtain ⟨xl, hxl⟩ : ∃ xl, xl = X.length := ⟨_, rfl⟩
  have HXL := Lib.hid hxl
  have KBD : Hid (∀ W, Below w.heap.size w W → Calls Try.prog 51 #[.slice A n c] W (BytesOf X W)) := Lib.hid (fun W hW => by rw [hX]; exact dbatchbytes_any A l n c w.heap.size W hn (hy.below hW) hW.size hl)
  have hh : fewAll l = false ∨ (fewAll l = true ∧ xl = 0) ∨ (fewAll l = true ∧ 0 < xl ∧ cut < 0) ∨ (fewAll l = true ∧ 0 < xl ∧ 0 ≤ cut ∧ bit < 0) := by
    cases hf : fewAll l with
    | false => exact .inl rfl
    | true =>
      cases hr : rightL l with
      | false => exact .inr (.inl ⟨rfl, by rw [hxl, hX, hr]; rfl⟩)
      | true =>
        have hx := (batch_len l hr).1
        rw [hr, if_pos rfl] at hX
        rw [← hX, ← hxl] at hx
        rw [hf, hr] at h
        have h2 : cut < 0 ∨ bit < 0 := by
          rcases h with h | h | h
          · cases h
          · cases h
          · exact h
        by_cases hc : cut < 0
        · exact .inr (.inr (.inl ⟨rfl, hx, hc⟩))
        · exact .inr (.inr (.inr ⟨rfl, hx, by omega, by omega⟩))
  clear h hy hn hX hxl
  rcases hh with hr | ⟨hr, rfl⟩ | ⟨hr, hx, hc⟩ | ⟨hr, hx, hc, hc2⟩
  · rw [hr] at HFW
    clear hr
    go_enter Try.func13, Try.ntmps13
    go_wp2_with fail
    refine (alive4_calls _).mono ?_
    rintro e w1 ⟨rfl, hb1⟩
    have HB1 := Lib.hid hb1
    clear hb1
    go_wp2_with fail
    refine (KBD.out w1 HB1.out).mono ?_
    rintro e w2 ⟨v2, rfl, ho2, hb2⟩
    rw [← HXL.out] at ho2
    obtain ⟨xA, xc, rfl, hxc, hxr⟩ := own_rd ho2
    have HB2 := Lib.hid (HB1.out.trans (hb2.mono HB1.out.size))
    clear hb2 ho2 hxc hxr
    go_wp2_with fail
    refine (HFW.out w2 HB2.out).mono ?_
    rintro e w3 ⟨rfl, hb3⟩
    have HB3 := Lib.hid (HB2.out.trans (hb3.mono HB2.out.size))
    clear hb3
    go_wp2_with fail
    go_ret
    exact ⟨rfl, HB3.out⟩
  · rw [hr] at HFW
    clear hr
    go_enter Try.func13, Try.ntmps13
    go_wp2_with fail
    refine (alive4_calls _).mono ?_
    rintro e w1 ⟨rfl, hb1⟩
    have HB1 := Lib.hid hb1
    clear hb1
    go_wp2_with fail
    refine (KBD.out w1 HB1.out).mono ?_
    rintro e w2 ⟨v2, rfl, ho2, hb2⟩
    rw [← HXL.out] at ho2
    obtain ⟨xA, xc, rfl, hxc, hxr⟩ := own_rd ho2
    have HB2 := Lib.hid (HB1.out.trans (hb2.mono HB1.out.size))
    clear hb2 ho2 hxc hxr
    go_wp2_with fail
    refine (HFW.out w2 HB2.out).mono ?_
    rintro e w3 ⟨rfl, hb3⟩
    have HB3 := Lib.hid (HB2.out.trans (hb3.mono HB2.out.size))
    clear hb3
    go_wp2_with fail
    go_ret
    exact ⟨rfl, HB3.out⟩
  · rw [hr] at HFW
    clear hr
    have q1 : ((xl : Int) == 0) = false := by rw [beq_eq_false_iff_ne]; omega
    have q2 : (xl = 0) = False := by simp; omega
    have d1 : decide (cut < 0) = true := decide_eq_true hc
    go_enter Try.func13, Try.ntmps13
    go_wp2_with fail
    refine (alive4_calls _).mono ?_
    rintro e w1 ⟨rfl, hb1⟩
    have HB1 := Lib.hid hb1
    clear hb1
    go_wp2_with fail
    refine (KBD.out w1 HB1.out).mono ?_
    rintro e w2 ⟨v2, rfl, ho2, hb2⟩
    rw [← HXL.out] at ho2
    obtain ⟨xA, xc, rfl, hxc, hxr⟩ := own_rd ho2
    have HB2 := Lib.hid (HB1.out.trans (hb2.mono HB1.out.size))
    clear hb2 ho2 hxc hxr
    go_wp2_with fail
    refine (HFW.out w2 HB2.out).mono ?_
    rintro e w3 ⟨rfl, hb3⟩
    have HB3 := Lib.hid (HB2.out.trans (hb3.mono HB2.out.size))
    clear hb3
    go_wp2_with fail
    go_ret
    exact ⟨rfl, HB3.out⟩
  · rw [hr] at HFW
    clear hr
    have q1 : ((xl : Int) == 0) = false := by rw [beq_eq_false_iff_ne]; omega
    have q2 : (xl = 0) = False := by simp; omega
    have d1 : decide (cut < 0) = false := decide_eq_false (by omega)
    have d2 : decide (bit < 0) = true := decide_eq_true hc2
    go_enter Try.func13, Try.ntmps13
    go_wp2_with fail
    refine (alive4_calls _).mono ?_
    rintro e w1 ⟨rfl, hb1⟩
    have HB1 := Lib.hid hb1
    clear hb1
    go_wp2_with fail
    refine (KBD.out w1 HB1.out).mono ?_
    rintro e w2 ⟨v2, rfl, ho2, hb2⟩
    rw [← HXL.out] at ho2
    obtain ⟨xA, xc, rfl, hxc, hxr⟩ := own_rd ho2
    have HB2 := Lib.hid (HB1.out.trans (hb2.mono HB1.out.size))
    clear hb2 ho2 hxc hxr
    go_wp2_with fail
    refine (HFW.out w2 HB2.out).mono ?_
    rintro e w3 ⟨rfl, hb3⟩
    have HB3 := Lib.hid (HB2.out.trans (hb3.mono HB2.out.size))
    clear hb3
    go_wp2_with fail
    go_ret
    exact ⟨rfl, HB3.out⟩
end Go.Proofs.Ythkclgkbidhmbaa
