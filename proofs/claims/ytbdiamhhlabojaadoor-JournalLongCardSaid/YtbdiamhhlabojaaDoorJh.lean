/- JournalLong. -/
import Derived.Test.YtbdiamhhlabojaaDoorJg
namespace Go.Proofs.YtbdiamhhlabojaaDoor
open Go.RowKit
set_option linter.unusedVariables false
set_option linter.unusedSimpArgs false
set_option maxRecDepth 100000

theorem cap_any7 (n a b : Int) (hab : a ≤ b) (w : World) : Calls Tryd.prog 22 #[.int .i64 n, .int .i64 a, .int .i64 b] w fun e w' => ∃ x, e = .returned (.int .i64 x) ∧ x ≤ b ∧ w = w' := by
  rcases Int.lt_or_le n a with h | h
  · go_enter Tryd.func22, Tryd.ntmps22
    go_wp2
    go_ret
    exact ⟨_, rfl, by omega, rfl⟩
  · rcases Int.lt_or_le b n with h2 | h2
    · go_enter Tryd.func22, Tryd.ntmps22
      go_wp2
      go_ret
      exact ⟨_, rfl, by omega, rfl⟩
    · go_enter Tryd.func22, Tryd.ntmps22
      go_wp2
      go_ret
      exact ⟨_, rfl, by omega, rfl⟩

set_option maxHeartbeats 8000000 in
theorem long7 (n0 z0 d0 : Int) (w : World) : Calls Tryd.prog 4 #[.int .i64 n0, .int .i64 z0, .int .i64 d0] w fun e w' => e = .returned (.bool true) ∧ Below w.heap.size w w' := by
  by_cases h0 : n0 < 1
  · have e0 : decide (n0 < 1) = true := decide_eq_true h0
    go_enter Tryd.func4, Tryd.ntmps4
    go_wp2_with (go_at_call 9; (with_reducible refine (alive7_calls _).mono ?_); rintro e w0 ⟨rfl, hb0⟩; have HB0 := Lib.hid hb0; clear hb0)
    go_ret
    exact ⟨rfl, HB0.out⟩
  have e0 : decide (n0 < 1) = false := decide_eq_false h0
  by_cases h1 : 30 < n0
  · have e1 : decide (30 < n0) = true := decide_eq_true h1
    go_enter Tryd.func4, Tryd.ntmps4
    go_wp2_with (go_at_call 9; (with_reducible refine (alive7_calls _).mono ?_); rintro e w0 ⟨rfl, hb0⟩; have HB0 := Lib.hid hb0; clear hb0)
    go_ret
    exact ⟨rfl, HB0.out⟩
  have e1 : decide (30 < n0) = false := decide_eq_false h1
  by_cases h2 : z0 < 0
  · have e2 : decide (z0 < 0) = true := decide_eq_true h2
    go_enter Tryd.func4, Tryd.ntmps4
    go_wp2_with (go_at_call 9; (with_reducible refine (alive7_calls _).mono ?_); rintro e w0 ⟨rfl, hb0⟩; have HB0 := Lib.hid hb0; clear hb0)
    go_ret
    exact ⟨rfl, HB0.out⟩
  have e2 : decide (z0 < 0) = false := decide_eq_false h2
  by_cases h3 : 900 < z0
  · have e3 : decide (900 < z0) = true := decide_eq_true h3
    go_enter Tryd.func4, Tryd.ntmps4
    go_wp2_with (go_at_call 9; (with_reducible refine (alive7_calls _).mono ?_); rintro e w0 ⟨rfl, hb0⟩; have HB0 := Lib.hid hb0; clear hb0)
    go_ret
    exact ⟨rfl, HB0.out⟩
  have e3 : decide (900 < z0) = false := decide_eq_false h3
  by_cases h4 : d0 < 0
  · have e4 : decide (d0 < 0) = true := decide_eq_true h4
    go_enter Tryd.func4, Tryd.ntmps4
    go_wp2_with (go_at_call 9; (with_reducible refine (alive7_calls _).mono ?_); rintro e w0 ⟨rfl, hb0⟩; have HB0 := Lib.hid hb0; clear hb0)
    go_ret
    exact ⟨rfl, HB0.out⟩
  have e4 : decide (d0 < 0) = false := decide_eq_false h4
  by_cases h5 : 40 < d0
  · have e5 : decide (40 < d0) = true := decide_eq_true h5
    go_enter Tryd.func4, Tryd.ntmps4
    go_wp2_with (go_at_call 9; (with_reducible refine (alive7_calls _).mono ?_); rintro e w0 ⟨rfl, hb0⟩; have HB0 := Lib.hid hb0; clear hb0)
    go_ret
    exact ⟨rfl, HB0.out⟩
  have e5 : decide (40 < d0) = false := decide_eq_false h5
  obtain ⟨N, hN⟩ : ∃ N : Nat, n0 = (N : Int) := ⟨n0.toNat, by omega⟩
  obtain ⟨z, hz⟩ : ∃ z : Nat, z0 = (z : Int) := ⟨z0.toNat, by omega⟩
  obtain ⟨dr, hdr⟩ : ∃ dr : Nat, d0 = (dr : Int) := ⟨d0.toNat, by omega⟩
  subst hN
  subst hz
  subst hdr
  have hN30 : N ≤ 30 := by omega
  have hz9 : z ≤ 900 := by omega
  have hd40 : dr ≤ 40 := by omega
  clear h0 h1 h2 h3 h4 h5
  obtain ⟨zs, hzs⟩ : ∃ zs, zs = List.replicate z (0 : UInt8) := ⟨_, rfl⟩
  obtain ⟨r, hr⟩ : ∃ r, r = (Fm.rec zs).length := ⟨_, rfl⟩
  have hzl : z = zs.length := by rw [hzs, List.length_replicate]
  have hr1 : 0 < r ∧ r ≤ 1000 := by
    have h1 := Fm.rec_len zs
    have h2 := Mi.put_len zs.length
    omega
  have hmk := make_bytes z (by omega)
  have RZ : Hid (∀ W : World, Rd (W.alloc (.cells (zeroC z) 5)) (W.heap.size + 1) (some ⟨W.heap.size, 0, none⟩) (zs.map B8)) := Lib.hid (fun W => by
    have h := Rd.lit W (zeroC z) 5
    rw [hzs]
    unfold zeroC at h ⊢
    simpa using h)
  have NW := Lib.hid (fun W => newN 1048576 W (by decide))
  have BY : Hid (∀ W : World, Calls Tryd.prog 17 #[.slice (some ⟨W.heap.size, 0, none⟩) z z] (W.alloc (.cells (zeroC z) 5)) fun e w' => ∃ A2 c2, e = .returned (.slice A2 r c2) ∧ Below W.heap.size W w') := Lib.hid (fun W => by
    have kk := bytes_calls (some ⟨W.heap.size, 0, none⟩) zs z (W.heap.size + 1) (W.alloc (.cells (zeroC z) 5)) (RZ.out W) (by simp) (by omega)
    rw [← hzl] at kk
    refine kk.mono fun e w' hh => ?_
    obtain ⟨v', rfl, ho, hg⟩ := hh
    obtain ⟨A2, c2, rfl, _, _⟩ := own_rd ho
    exact ⟨A2, c2, by rw [hr], ((Below.refl _ _).alloc (Nat.le_refl _) _).trans ((Grew.new hg).mono (by simp))⟩)
  have AJ : Hid (∀ D W S jb (i at_ has : Nat) m us, DvN W D D m us 1048576 i S → JAt W jb D 0 at_ → ¬ S jb → LgI i at_ has r m us → i < 30 → ∃ (at2 has2 : Nat) (m2 : Mp), ((2000 ≤ has + r ∧ at2 = at_ + 1 ∧ has2 = 0) ∨ (has + r < 2000 ∧ at2 = at_ ∧ has2 = has + r)) ∧ LgI (i + 1) at2 has2 r m2 (us + r) ∧ Calls Tryd.prog 14 #[.pointer (some ⟨jb, 0, none⟩), .slice (some ⟨W.heap.size, 0, none⟩) z z] (W.alloc (.cells (zeroC z) 5)) (LeftJ D D jb 0 at2 m2 (us + r) 1048576 (i + 1) S (.int .i64 0) (W.alloc (.cells (zeroC z) 5)))) := Lib.hid (fun D W S jb i at_ has m us h hj hS hL hi => by
    have hle := hL.le
    have hus := hL.us
    have hir : i * r ≤ 30 * 1000 := Nat.mul_le_mul (by omega) hr1.2
    have kk := jappend D D jb 0 at_ m us 1048576 i S (some ⟨W.heap.size, 0, none⟩) zs z z (W.heap.size + 1) (W.alloc (.cells (zeroC z) 5)) (((Below.refl W.heap.size W).alloc (Nat.le_refl _) _).block _ hj.lt |>.trans hj) (by omega) (h.below ((Below.refl _ _).alloc (Nat.le_refl _) _)) hS (by omega) hzl (RZ.out W) (by simp) (by omega) (by rw [← hr]; omega) hL.big (by omega)
    rw [← hr] at kk
    have hlen : (newJ m (nmJ at_) zs).length = has + r := by rw [hL.len, ← hr]
    by_cases hf : 2000 ≤ has + r
    · rw [if_pos (by rw [hlen]; exact hf)] at kk
      exact ⟨at_ + 1, 0, _, .inl ⟨hf, rfl, rfl⟩, hL.next (by omega) zs hr.symm hr1.1 hf, kk⟩
    · rw [if_neg (by rw [hlen]; exact hf)] at kk
      exact ⟨at_, has + r, _, .inr ⟨by omega, rfl, rfl⟩, hL.more (by omega) zs hr.symm hr1.1 (by omega), kk⟩)
  have HR := Lib.hid hr
  have HZS := Lib.hid hzs
  clear hr hzs hzl
  go_enter Tryd.func4, Tryd.ntmps4
  go_upto_region 5 with (first
    | (go_at_call 10; (with_reducible refine (NW.out _).mono ?_); rintro e w1 ⟨rfl, ⟨S1, hd1⟩, hb1⟩; have HD1 := Lib.hid hd1; have HB1 := Lib.hid hb1; clear hd1 hb1)
    | (go_at_call 9; (with_reducible refine (alive7_calls _).mono ?_); rintro e w0 ⟨rfl, hb0⟩; have HB0 := Lib.hid hb0; clear hb0))
  clear e0 e1 e2 e3 e4 e5
  obtain ⟨D, hD⟩ : ∃ D, D = w0.heap.size := ⟨_, rfl⟩
  have HDE := Lib.hid hD
  rw [← hD] at HD1 HB1 ⊢
  clear hD NW
  have ON := Lib.hid (open_none D 0 0 1048576 S1 w1 HD1.out (by decide))
  go_upto_region 8 with (go_at_call 11; (with_reducible refine ON.out.mono ?_); rintro e w2 ⟨A2, c2, rfl, hj2, hb2⟩; have HJ2 := Lib.hid hj2; have HD2 := Lib.hid (HD1.out.below hb2); have HS2 : Hid (¬ S1 w1.heap.size) := Lib.hid (fun h => absurd (HD1.out.lt _ h) (Nat.lt_irrefl _)); have HB2 := Lib.hid (HB1.out.trans (hb2.mono (Nat.le_of_lt HD1.out.dok.2))); clear hj2 hb2)
  have HDJ : Hid (D ≤ w1.heap.size) := Lib.hid (Nat.le_of_lt HD1.out.dok.2)
  generalize w1.heap.size = jb at *
  clear HD1 HB1 ON
  go_wp2_with (go_at_call 17; (with_reducible refine (BY.out _).mono ?_); rintro e w3 ⟨A3, c3, rfl, hb3⟩; have HD3 := Lib.hid (HD2.out.below hb3); have HJ3 := Lib.hid (show JAt w3 jb D 0 0 from (hb3.block _ HJ2.out.lt).trans HJ2.out); have HB3 := Lib.hid (HB2.out.trans (hb3.mono (Nat.le_of_lt HD2.out.dok.2))); clear hb3)
  clear HD2 HJ2 HB2
  go_loopw [12, 13, 14] (fun av hv iv wr => ∃ (i at_ has : Nat) (m : Mp) (us : Int) (S : Nat → Prop), av = .int .i64 (at_ : Int) ∧ hv = .int .i64 (has : Int) ∧ iv = .int .i64 (i : Int) ∧ i ≤ N ∧ Hid (LgI i at_ has r m us) ∧ Hid (DvN wr D D m us 1048576 i S) ∧ Hid (JAt wr jb D 0 at_) ∧ Hid (¬ S jb) ∧ Hid (Below D w0 wr)) (fun _ _ iv _ => N - (intOf iv).toNat)
  case atStart => exact ⟨0, 0, 0, m0, 0, S1, rfl, rfl, rfl, Nat.zero_le _, Lib.hid (LgI.start r), HD3, HJ3, HS2, HB3⟩
  case round =>
    obtain ⟨i, at_, has, m, us, S, rfl, rfl, rfl, hi, HL, HD, HJ, HS, HB⟩ := hrel
    clear HD3 HJ3 HB3
    by_cases hlt : i < N
    · obtain ⟨at2, has2, m2, hc, hL2, ca⟩ := AJ.out D wr S jb i at_ has m us HD.out HJ.out HS.out HL.out (by omega)
      have HL2 := Lib.hid hL2
      have CA := Lib.hid ca
      clear hL2 ca
      have hle := HL.out.le
      have hlt2 := HL.out.lt
      have ha9 : at_ ≤ 30 := by omega
      have hd1 : decide ((i : Int) < (N : Int)) = true := decide_eq_true (by omega)
      rcases hc with ⟨hf, rfl, rfl⟩ | ⟨hf, rfl, rfl⟩
      · have hd2 : decide ((2000 : Int) ≤ (has : Int) + (r : Int)) = true := decide_eq_true (by omega)
        go_wp2_with (first
          | (go_at_call 18; (with_reducible refine JT4.out.mono ?_); rintro e wt ⟨rfl, hwt⟩; subst hwt)
          | (go_at_call 13; (with_reducible refine (num7 _ _).mono ?_); rintro e wn ⟨rfl, hwn⟩; subst hwn)
          | (go_at_call 14; (with_reducible refine CA.out.mono ?_); rintro e w4 ⟨rfl, S4, hd4, hj4, hs4, hk4⟩; have HD4 := Lib.hid hd4; have HJ4 := Lib.hid hj4; have HS4 := Lib.hid hs4; have JT4 := Lib.hid (jat_any jb D 0 _ w4 hj4); have HB4 := Lib.hid ((HB.out.alloc (Nat.le_of_lt HD.out.dok.2) _).trans (hk4.below (fun k hk => hk.elim (HD.out.ge k) (fun e => by rw [e]; exact HDJ.out)) (by simp; have := HD.out.dok.2; omega))); clear hd4 hj4 hs4 hk4))
        go_roundw
        case rel => exact ⟨i + 1, at_ + 1, 0, m2, _, S4, by go_num, rfl, by go_num, by omega, HL2, HD4, HJ4, HS4, HB4⟩
        case measure => simp [intOf]; omega
      · have hd2 : decide ((2000 : Int) ≤ (has : Int) + (r : Int)) = false := decide_eq_false (by omega)
        go_wp2_with (first
          | (go_at_call 18; (with_reducible refine JT4.out.mono ?_); rintro e wt ⟨rfl, hwt⟩; subst hwt)
          | (go_at_call 13; (with_reducible refine (num7 _ _).mono ?_); rintro e wn ⟨rfl, hwn⟩; subst hwn)
          | (go_at_call 14; (with_reducible refine CA.out.mono ?_); rintro e w4 ⟨rfl, S4, hd4, hj4, hs4, hk4⟩; have HD4 := Lib.hid hd4; have HJ4 := Lib.hid hj4; have HS4 := Lib.hid hs4; have JT4 := Lib.hid (jat_any jb D 0 _ w4 hj4); have HB4 := Lib.hid ((HB.out.alloc (Nat.le_of_lt HD.out.dok.2) _).trans (hk4.below (fun k hk => hk.elim (HD.out.ge k) (fun e => by rw [e]; exact HDJ.out)) (by simp; have := HD.out.dok.2; omega))); clear hd4 hj4 hs4 hk4))
        go_roundw
        case rel => exact ⟨i + 1, at2, has + r, m2, _, S4, rfl, by go_num, by go_num, by omega, HL2, HD4, HJ4, HS4, HB4⟩
        case measure => simp [intOf]; omega
    · obtain rfl : i = N := by omega
      have hle := HL.out.le
      have hlt2 := HL.out.lt
      obtain ⟨fd, hfd⟩ : ∃ fd, fd = min dr at_ := ⟨_, rfl⟩
      have DC := Lib.hid (drop_any D D jb 0 fd dr at_ m us 1048576 i S wr HJ.out HD.out HS.out (by omega) (by omega) (by decide) (by omega))
      have hd1 : decide ((i : Int) < (i : Int)) = false := decide_eq_false (by omega)
      have hfc : (fd = dr ∧ dr ≤ at_) ∨ (fd = at_ ∧ at_ < dr) := by omega
      clear hfd
      go_upto_region 23 with (go_at_call 19; (with_reducible refine DC.out.mono ?_); rintro e w4 ⟨rfl, m4, us4, S4, hg4, hd4, hj4, hs4, hk4⟩; have HG4 := Lib.hid hg4; have HD4 := Lib.hid hd4; have HB4 := Lib.hid (HB.out.trans (hk4.below (fun k hk => hk.elim (HD.out.ge k) (fun e => by rw [e]; exact HDJ.out)) (Nat.le_of_lt HD.out.dok.2))); clear hg4 hd4 hj4 hs4 hk4)
      clear DC HD HJ HB HS hd1
      have HGN : Hid (∀ k, k < 99 → k < fd → m4 (nmJ k) = none) := Lib.hid (fun k h1 h2 => by rw [HG4.out k h1, if_pos ⟨Nat.zero_le _, by omega⟩])
      have HGO : Hid (∀ k, k < 99 → ¬ k < fd → m4 (nmJ k) = m (nmJ k)) := Lib.hid (fun k h1 h2 => by rw [HG4.out k h1, if_neg (by omega)])
      rcases Nat.eq_zero_or_pos has with rfl | hpos
      · (try simp only [Int.natCast_zero, Int.cast_ofNat_Int])
        go_wp2_with fail
        go_loopw [16] (fun kv wr => ∃ k : Nat, kv = .int .i64 (k : Int) ∧ k ≤ at_ + 1 ∧ Hid (DvN wr D D m4 us4 1048576 i S4) ∧ Hid (Below D w0 wr)) (fun kv _ => at_ + 1 - (intOf kv).toNat)
        case atStart => exact ⟨0, rfl, Nat.zero_le _, HD4, HB4⟩
        case round =>
          clear HD4 HB4
          obtain ⟨k, rfl, hk1, HD5, HB6⟩ := hrel
          by_cases hka : k ≤ at_
          · have NA := Lib.hid (name_any k (by omega))
            have hk99 : k < 99 := by omega
            by_cases hkf : k < fd
            · have hv := HGN.out k hk99 hkf
              have g1 : k < dr := by omega
              have g2 : k < at_ := by omega
              have g3 : ¬ k = at_ := by omega
              rcases hfc with ⟨_, g4⟩ | ⟨_, g4⟩
              ·
                have RC := Lib.hid (read_notN D D m4 us4 1048576 i S4 (nmJ k) wr HD5.out (by omega) hv)
                clear hv
                go_wp2_with (first
                  | (go_at_call 20; (with_reducible refine RC.out.mono ?_); rintro e w5 ⟨rfl, hb5⟩; have HB5 := Lib.hid hb5; clear hb5)
                  | (go_at_call 21; (with_reducible refine (NA.out _).mono ?_); rintro e wn ⟨rfl, hwn⟩; subst hwn))
                go_roundw
                case rel => exact ⟨k + 1, by go_num, by omega, Lib.hid (HD5.out.below HB5.out), Lib.hid (HB6.out.trans (HB5.out.mono (Nat.le_of_lt HD5.out.dok.2)))⟩
                case measure => simp [intOf] <;> omega
              ·
                have RC := Lib.hid (read_notN D D m4 us4 1048576 i S4 (nmJ k) wr HD5.out (by omega) hv)
                clear hv
                go_wp2_with (first
                  | (go_at_call 20; (with_reducible refine RC.out.mono ?_); rintro e w5 ⟨rfl, hb5⟩; have HB5 := Lib.hid hb5; clear hb5)
                  | (go_at_call 21; (with_reducible refine (NA.out _).mono ?_); rintro e wn ⟨rfl, hwn⟩; subst hwn))
                go_roundw
                case rel => exact ⟨k + 1, by go_num, by omega, Lib.hid (HD5.out.below HB5.out), Lib.hid (HB6.out.trans (HB5.out.mono (Nat.le_of_lt HD5.out.dok.2)))⟩
                case measure => simp [intOf] <;> omega
            · have hv0 := HGO.out k hk99 hkf
              by_cases hkt : k < at_
              · have hs := HL.out.full k hkt
                rw [← hv0] at hs
                obtain ⟨v, hv⟩ := Option.isSome_iff_exists.1 hs
                have g1 : dr ≤ k := by omega
                clear hfc hs hv0
                have RC := Lib.hid (readN D D m4 us4 1048576 i S4 (nmJ k) v wr HD5.out (by omega) hv)
                clear hv
                go_wp2_with (first
                  | (go_at_call 20; (with_reducible refine RC.out.mono ?_); rintro e w5 ⟨A5, c5, rfl, _, hb5⟩; have HB5 := Lib.hid hb5; clear hb5)
                  | (go_at_call 21; (with_reducible refine (NA.out _).mono ?_); rintro e wn ⟨rfl, hwn⟩; subst hwn))
                go_roundw
                case rel => exact ⟨k + 1, by go_num, by omega, Lib.hid (HD5.out.below HB5.out), Lib.hid (HB6.out.trans (HB5.out.mono (Nat.le_of_lt HD5.out.dok.2)))⟩
                case measure => simp [intOf] <;> omega
              · obtain rfl : k = at_ := by omega
                rcases HL.out.cur with ⟨h1, h2⟩ | ⟨h1, v, h2, h3⟩
                · have hv : m4 (nmJ k) = none := by rw [hv0, h2]
                  clear hv0 h2 h1
                  rcases hfc with ⟨_, g1⟩ | ⟨_, g1⟩
                  ·
                    have RC := Lib.hid (read_notN D D m4 us4 1048576 i S4 (nmJ k) wr HD5.out (by omega) hv)
                    clear hv
                    go_wp2_with (first
                      | (go_at_call 20; (with_reducible refine RC.out.mono ?_); rintro e w5 ⟨rfl, hb5⟩; have HB5 := Lib.hid hb5; clear hb5)
                      | (go_at_call 21; (with_reducible refine (NA.out _).mono ?_); rintro e wn ⟨rfl, hwn⟩; subst hwn))
                    go_roundw
                    case rel => exact ⟨k + 1, by go_num, by omega, Lib.hid (HD5.out.below HB5.out), Lib.hid (HB6.out.trans (HB5.out.mono (Nat.le_of_lt HD5.out.dok.2)))⟩
                    case measure => simp [intOf] <;> omega
                  ·
                    have RC := Lib.hid (read_notN D D m4 us4 1048576 i S4 (nmJ k) wr HD5.out (by omega) hv)
                    clear hv
                    go_wp2_with (first
                      | (go_at_call 20; (with_reducible refine RC.out.mono ?_); rintro e w5 ⟨rfl, hb5⟩; have HB5 := Lib.hid hb5; clear hb5)
                      | (go_at_call 21; (with_reducible refine (NA.out _).mono ?_); rintro e wn ⟨rfl, hwn⟩; subst hwn))
                    go_roundw
                    case rel => exact ⟨k + 1, by go_num, by omega, Lib.hid (HD5.out.below HB5.out), Lib.hid (HB6.out.trans (HB5.out.mono (Nat.le_of_lt HD5.out.dok.2)))⟩
                    case measure => simp [intOf] <;> omega
                · exact absurd h1 (Nat.lt_irrefl _)
          · obtain rfl : k = at_ + 1 := by omega
            have CP := Lib.hid (cap_any7 (dr : Int) 0 (at_ : Int) (by omega))
            clear hfc
            go_wp2_with (first
              | (go_at_call 13; (with_reducible refine (num7 _ _).mono ?_); rintro e wn ⟨rfl, hwn⟩; subst hwn)
              | (go_at_call 22; (with_reducible refine (CP.out _).mono ?_); rintro e wc ⟨x, rfl, hx, hwc⟩; subst hwc; have HXX := decide_eq_true hx; clear hx))
            go_ret
            refine ⟨rfl, HB0.out.trans (HB6.out.mono ?_)⟩
            rw [HDE.out]
            exact HB0.out.size
      ·
        go_wp2_with fail
        go_loopw [16] (fun kv wr => ∃ k : Nat, kv = .int .i64 (k : Int) ∧ k ≤ at_ + 1 ∧ Hid (DvN wr D D m4 us4 1048576 i S4) ∧ Hid (Below D w0 wr)) (fun kv _ => at_ + 1 - (intOf kv).toNat)
        case atStart => exact ⟨0, rfl, Nat.zero_le _, HD4, HB4⟩
        case round =>
          clear HD4 HB4
          obtain ⟨k, rfl, hk1, HD5, HB6⟩ := hrel
          by_cases hka : k ≤ at_
          · have NA := Lib.hid (name_any k (by omega))
            have hk99 : k < 99 := by omega
            by_cases hkf : k < fd
            · have hv := HGN.out k hk99 hkf
              have g1 : k < dr := by omega
              have g2 : k < at_ := by omega
              have g3 : ¬ k = at_ := by omega
              rcases hfc with ⟨_, g4⟩ | ⟨_, g4⟩
              ·
                have RC := Lib.hid (read_notN D D m4 us4 1048576 i S4 (nmJ k) wr HD5.out (by omega) hv)
                clear hv
                go_wp2_with (first
                  | (go_at_call 20; (with_reducible refine RC.out.mono ?_); rintro e w5 ⟨rfl, hb5⟩; have HB5 := Lib.hid hb5; clear hb5)
                  | (go_at_call 21; (with_reducible refine (NA.out _).mono ?_); rintro e wn ⟨rfl, hwn⟩; subst hwn))
                go_roundw
                case rel => exact ⟨k + 1, by go_num, by omega, Lib.hid (HD5.out.below HB5.out), Lib.hid (HB6.out.trans (HB5.out.mono (Nat.le_of_lt HD5.out.dok.2)))⟩
                case measure => simp [intOf] <;> omega
              ·
                have RC := Lib.hid (read_notN D D m4 us4 1048576 i S4 (nmJ k) wr HD5.out (by omega) hv)
                clear hv
                go_wp2_with (first
                  | (go_at_call 20; (with_reducible refine RC.out.mono ?_); rintro e w5 ⟨rfl, hb5⟩; have HB5 := Lib.hid hb5; clear hb5)
                  | (go_at_call 21; (with_reducible refine (NA.out _).mono ?_); rintro e wn ⟨rfl, hwn⟩; subst hwn))
                go_roundw
                case rel => exact ⟨k + 1, by go_num, by omega, Lib.hid (HD5.out.below HB5.out), Lib.hid (HB6.out.trans (HB5.out.mono (Nat.le_of_lt HD5.out.dok.2)))⟩
                case measure => simp [intOf] <;> omega
            · have hv0 := HGO.out k hk99 hkf
              by_cases hkt : k < at_
              · have hs := HL.out.full k hkt
                rw [← hv0] at hs
                obtain ⟨v, hv⟩ := Option.isSome_iff_exists.1 hs
                have g1 : dr ≤ k := by omega
                clear hfc hs hv0
                have RC := Lib.hid (readN D D m4 us4 1048576 i S4 (nmJ k) v wr HD5.out (by omega) hv)
                clear hv
                go_wp2_with (first
                  | (go_at_call 20; (with_reducible refine RC.out.mono ?_); rintro e w5 ⟨A5, c5, rfl, _, hb5⟩; have HB5 := Lib.hid hb5; clear hb5)
                  | (go_at_call 21; (with_reducible refine (NA.out _).mono ?_); rintro e wn ⟨rfl, hwn⟩; subst hwn))
                go_roundw
                case rel => exact ⟨k + 1, by go_num, by omega, Lib.hid (HD5.out.below HB5.out), Lib.hid (HB6.out.trans (HB5.out.mono (Nat.le_of_lt HD5.out.dok.2)))⟩
                case measure => simp [intOf] <;> omega
              · obtain rfl : k = at_ := by omega
                rcases HL.out.cur with ⟨h1, h2⟩ | ⟨h1, v, h2, h3⟩
                · exfalso; omega
                · have hv : m4 (nmJ k) = some v := by rw [hv0, h2]
                  clear hv0 h2 h3
                  rcases hfc with ⟨_, g1⟩ | ⟨_, g1⟩
                  ·
                    have RC := Lib.hid (readN D D m4 us4 1048576 i S4 (nmJ k) v wr HD5.out (by omega) hv)
                    clear hv
                    go_wp2_with (first
                      | (go_at_call 20; (with_reducible refine RC.out.mono ?_); rintro e w5 ⟨A5, c5, rfl, _, hb5⟩; have HB5 := Lib.hid hb5; clear hb5)
                      | (go_at_call 21; (with_reducible refine (NA.out _).mono ?_); rintro e wn ⟨rfl, hwn⟩; subst hwn))
                    go_roundw
                    case rel => exact ⟨k + 1, by go_num, by omega, Lib.hid (HD5.out.below HB5.out), Lib.hid (HB6.out.trans (HB5.out.mono (Nat.le_of_lt HD5.out.dok.2)))⟩
                    case measure => simp [intOf] <;> omega
                  ·
                    have RC := Lib.hid (readN D D m4 us4 1048576 i S4 (nmJ k) v wr HD5.out (by omega) hv)
                    clear hv
                    go_wp2_with (first
                      | (go_at_call 20; (with_reducible refine RC.out.mono ?_); rintro e w5 ⟨A5, c5, rfl, _, hb5⟩; have HB5 := Lib.hid hb5; clear hb5)
                      | (go_at_call 21; (with_reducible refine (NA.out _).mono ?_); rintro e wn ⟨rfl, hwn⟩; subst hwn))
                    go_roundw
                    case rel => exact ⟨k + 1, by go_num, by omega, Lib.hid (HD5.out.below HB5.out), Lib.hid (HB6.out.trans (HB5.out.mono (Nat.le_of_lt HD5.out.dok.2)))⟩
                    case measure => simp [intOf] <;> omega
          · obtain rfl : k = at_ + 1 := by omega
            have CP := Lib.hid (cap_any7 (dr : Int) 0 (at_ : Int) (by omega))
            clear hfc
            go_wp2_with (first
              | (go_at_call 13; (with_reducible refine (num7 _ _).mono ?_); rintro e wn ⟨rfl, hwn⟩; subst hwn)
              | (go_at_call 22; (with_reducible refine (CP.out _).mono ?_); rintro e wc ⟨x, rfl, hx, hwc⟩; subst hwc; have HXX := decide_eq_true hx; clear hx))
            go_ret
            refine ⟨rfl, HB0.out.trans (HB6.out.mono ?_)⟩
            rw [HDE.out]
            exact HB0.out.size
end Go.Proofs.YtbdiamhhlabojaaDoor
