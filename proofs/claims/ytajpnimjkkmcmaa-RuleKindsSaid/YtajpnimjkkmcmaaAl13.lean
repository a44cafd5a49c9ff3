/- Chapter 13's example: no bytes are no policy; one that was written is read back. -/
import Derived.Test.YtajpnimjkkmcmaaGd
import Derived.Test.YtajpnimjkkmcmaaPv
namespace Go.Proofs.Ytajpnimjkkmcmaa
open Go.RowKit
set_option linter.unusedVariables false
set_option linter.unusedSimpArgs false
set_option maxRecDepth 100000

theorem reads_bts {t : Rt} (h : t.right = true) : reads t.bts = true ∧ readT t.bts = t ∧ readE t.bts = 0 := by
  obtain ⟨h1, h2, h3⟩ := (t.right_iff).1 h
  have hb := Rt.back t 5 [] h3 h1 (by omega)
  rw [List.append_nil] at hb
  have hr : reads t.bts = true := by
    unfold reads
    rw [hb]
    simp [h]
  exact ⟨hr, by unfold readT; rw [hr, hb]; rfl, by unfold readE; rw [hr]; rfl⟩
theorem reads_nil : reads [] = false := by
  have h : (Rm.rul 5 ([], false)).2.2 = true := by
    rw [Rm.rul]
    have hb : Rm.byte ([], false) = (0, Rm.fail) := rfl
    rw [hb]
    simp only [UInt8.toNat_zero]
    have h2 := num_bad Rm.fail rfl
    simp [h2]
  unfold reads
  rw [h]
  simp
theorem leaf_right (k n : Int) (h1 : (Rt.mk k n ⟨#[]⟩ ⟨#[]⟩ []).all = true) : (Rt.mk k n ⟨#[]⟩ ⟨#[]⟩ []).right = true := by
  rw [Rt.right_iff, Rt.hgt_mk, Rt.cnt_mk]
  exact ⟨by simp [hgtL], by simp [cntL], h1⟩
theorem right49 : (Rt.mk 4 9 ⟨#[]⟩ ⟨#[]⟩ []).right = true := leaf_right 4 9 (by rw [Rt.all_mk]; simp [allL, oneR, gok, gmost, ByteArray.toList, ByteArray.toList.loop, ByteArray.size])
theorem bts49 : (Rt.mk 4 9 ⟨#[]⟩ ⟨#[]⟩ []).bts.length ≤ 11 := by
  rw [Rt.bts_mk]
  have := (Mi.put_len 9).2
  simp
  exact this
theorem num_any13 (n : Int) (w : World) : Calls Try.prog 31 #[.int .i64 n] w fun e w' => e = .returned (.int .i64 n) ∧ w = w' := by
  go_enter Try.func31, Try.ntmps31
  go_wp2_with fail
  go_ret
  exact ⟨rfl, rfl⟩
set_option maxHeartbeats 16000000 in
theorem alive13_calls (w : World) : Calls Try.prog 22 #[] w fun e w' => e = .returned (.bool true) ∧ Below w.heap.size w w' := by
  have R0 := Lib.hid (show Calls Try.prog 25 #[.slice none 0 0] w _ from read_any none [] 0 0 w.heap.size w rfl Rd.nil (Nat.le_refl _) (Nat.le_refl _) (Nat.zero_le _) (by simp))
  have E0 : Hid (readE [] = 2) := Lib.hid (by unfold readE; rw [reads_nil]; rfl)
  have LF : ∀ W : World, RdR W 0 (.mk 4 9 ⟨#[]⟩ ⟨#[]⟩ []) (rcs 4 9 ⟨#[]⟩ ⟨#[]⟩ none 0 0) := fun W => (RdP.leaf W (fun _ => False) 4 9 ⟨#[]⟩ ⟨#[]⟩ (by omega) (by omega) (Nat.zero_le _) (Nat.zero_le _)).toR fun b hb => hb.elim
  have BT := Lib.hid (fun W => bytes_all (LF W) W (Below.refl _ _) (Nat.zero_le _) (fun _ => by have := bts49; omega))
  have RR := Lib.hid (fun W (B : Nat) (hB : B ≤ W.heap.size) (hW : Below B W W) => right_all (LF W) W (Below.refl _ _) (Nat.zero_le _))
  rw [right49] at BT RR
  simp only [if_true, rcs] at BT RR
  obtain ⟨b1, b2, b3⟩ := reads_bts right49
  have R1 := Lib.hid (fun (W : World) (A : Option Addr) (n c : Nat) (hn : n = (Rt.mk 4 9 ⟨#[]⟩ ⟨#[]⟩ []).bts.length) (hr : Rd W W.heap.size A ((Rt.mk 4 9 ⟨#[]⟩ ⟨#[]⟩ []).bts.map B8)) (hnc : n ≤ c) (hcm : c ≤ maxLen) => read_any A _ n c W.heap.size W hn hr (Nat.le_refl _) hnc hcm (by have := bts49; omega))
  rw [b2, b3] at R1
  generalize (Rt.mk 4 9 ⟨#[]⟩ ⟨#[]⟩ []).bts = bs at *
  have NM := Lib.hid (fun n W => num_any13 n W)
  clear LF b1 b2 b3
  go_enter Try.func22, Try.ntmps22
  go_wp2_with fail
  refine R0.out.mono ?_
  rintro e w1 ⟨cs, rfl, hr1, hb1⟩
  obtain ⟨k1, n1, y1, v1, ks1, A1, c1, _, rfl⟩ := hr1.inv
  rw [E0.out]
  have HB1 := Lib.hid hb1
  simp only [rcs]
  clear hr1 hb1
  go_wp2_with (go_at_call 24; (with_reducible refine (BT.out _).mono ?_); rintro e w2 ⟨v2, rfl, ho2, hb2⟩; obtain ⟨A2, c2, rfl, hc2, hr2⟩ := own_rd ho2; have HC2 := Lib.hid (own_cap ho2); have HR2 := Lib.hid hr2; have HB2 := Lib.hid (HB1.out.trans (((Below.refl w1.heap.size w1).alloc (Nat.le_refl _) _ |>.trans (hb2.mono (by simp))).mono HB1.out.size)); clear ho2 hc2 hr2 hb2)
  refine (R1.out w2 A2 _ c2 rfl HR2.out HC2.out.1 HC2.out.2).mono ?_
  rintro e w3 ⟨cs, rfl, hr3, hb3⟩
  obtain ⟨k3, n3, y3, v3, ks3, A3, c3, ht, rfl⟩ := hr3.inv
  injection ht with e1 e2 e3 e4 e5
  subst e1 e2 e3 e4 e5
  have HR3 := Lib.hid hr3
  have HB3 := Lib.hid (HB2.out.trans (hb3.mono HB2.out.size))
  have HRG := Lib.hid (right_all hr3)
  rw [right49] at HRG
  simp only [rcs, List.length_nil] at HRG ⊢
  clear hr3 hb3
  have HBA := Lib.hid (show ∀ o, Below w3.heap.size w3 (w3.alloc o) from fun o => (Below.refl _ _).alloc (Nat.le_refl _) o)
  go_wp2_with (first
    | (go_at_call 27; (with_reducible refine (HRG.out _ (HBA.out _) (HBA.out _).size).mono ?_); rintro e w4 ⟨rfl, hb4⟩; have HB4 := Lib.hid (HB3.out.trans (((HBA.out _).trans (hb4.mono (HBA.out _).size)).mono HB3.out.size)); clear hb4)
    | (go_at_call 31; (with_reducible refine (NM.out _ _).mono ?_); rintro e wn ⟨rfl, rfl⟩))
  go_ret
  exact ⟨rfl, HB4.out⟩
end Go.Proofs.Ytajpnimjkkmcmaa
