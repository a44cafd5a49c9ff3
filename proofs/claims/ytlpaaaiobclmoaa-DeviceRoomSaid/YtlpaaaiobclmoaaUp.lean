/- DeviceRoom. -/
import Derived.Test.YtlpaaaiobclmoaaUo
import Derived.Deep.RegionHeld3
namespace Go.Proofs.Ytlpaaaiobclmoaa
open Go.RowKit
set_option linter.unusedVariables false
set_option linter.unusedSimpArgs false
set_option maxRecDepth 100000

set_option maxHeartbeats 8000000 in
theorem room6 (room : Int) (sA : Option Addr) (s : List Int) (n sc : Nat) (w : World) (hn : n = s.length) (hs : Rd w w.heap.size sA (s.map (Value.int .i64))) (hmn : n ≤ maxLen) : Calls Try.prog 7 #[.int .i64 room, .slice sA n sc] w fun e w' => e = .returned (.bool true) ∧ Below w.heap.size w w' := by
  have HN := Lib.hid hn
  have HS := Lib.hid hs
  simp only [maxLen] at hmn
  clear hn hs
  by_cases h1 : room < 0
  · have d1 : decide (room < 0) = true := decide_eq_true h1
    go_enter Try.func7, Try.ntmps7
    go_wp2_with (go_at_call 8; (with_reducible refine (alive6_calls _).mono ?_); rintro e w0 ⟨rfl, hb0⟩; have HB0 := Lib.hid hb0; clear hb0)
    go_ret
    exact ⟨rfl, HB0.out⟩
  have d1 : decide (room < 0) = false := decide_eq_false h1
  by_cases h2 : 2000 < room
  · have d2 : decide (2000 < room) = true := decide_eq_true h2
    go_enter Try.func7, Try.ntmps7
    go_wp2_with (go_at_call 8; (with_reducible refine (alive6_calls _).mono ?_); rintro e w0 ⟨rfl, hb0⟩; have HB0 := Lib.hid hb0; clear hb0)
    go_ret
    exact ⟨rfl, HB0.out⟩
  have d2 : decide (2000 < room) = false := decide_eq_false h2
  by_cases h3 : 20 < n
  · have d3 : decide ((20 : Int) < (n : Int)) = true := decide_eq_true (by omega)
    go_enter Try.func7, Try.ntmps7
    go_wp2_with (go_at_call 8; (with_reducible refine (alive6_calls _).mono ?_); rintro e w0 ⟨rfl, hb0⟩; have HB0 := Lib.hid hb0; clear hb0)
    go_ret
    exact ⟨rfl, HB0.out⟩
  have d3 : decide ((20 : Int) < (n : Int)) = false := decide_eq_false (by omega)
  have hr0 : 0 ≤ room := by omega
  have hr1 : room ≤ 2000 := by omega
  have hn20 : n ≤ 20 := by omega
  clear h1 h2 h3
  have HMK := fun (q : Nat) (hq : q ≤ 100000) (W : World) => make_bytes q hq W
  have HMK' := Lib.hid HMK
  clear HMK
  have NW := Lib.hid (fun W => newL room room W (by omega) (by omega))
  have OK : Hid (∀ i L, RmI i room L → i ≤ 20 → (gR room L).ok) := Lib.hid (fun i L h hi => gR_ok ⟨hr0, hr1⟩ h.srt (by have := h.len; omega) (fun x hx => by have := h.big x hx; omega) h.us)
  go_enter Try.func7, Try.ntmps7
  go_wp2_with (first
    | (go_at_call 10; (with_reducible refine (NW.out _).mono ?_); rintro e w1 ⟨rfl, ⟨S, hd1⟩, hb1⟩; have HD1 := Lib.hid hd1; have HB1 := Lib.hid hb1; clear hd1 hb1)
    | (go_at_call 8; (with_reducible refine (alive6_calls _).mono ?_); rintro e w0 ⟨rfl, hb0⟩; have HB0 := Lib.hid hb0; clear hb0))
  clear d1 d2 d3
  obtain ⟨D, hD⟩ : ∃ D, D = w0.heap.size := ⟨_, rfl⟩
  have HDE := Lib.hid hD
  rw [← hD] at HD1 HB1 ⊢
  clear hD NW
  go_loopw [8, 9] (fun uv iv wr => ∃ (i : Nat) (L : List Lg), iv = .int .i64 i ∧ i ≤ n ∧ uv = .int .i64 (sumL L) ∧ Hid (RmI i room L) ∧ Hid (∃ S, DvL wr D D (gR room L) S ∧ Below D w0 wr)) (fun _ iv _ => n - (intOf iv).toNat)
  case atStart => exact ⟨0, [], rfl, Nat.zero_le _, rfl, Lib.hid (RmI.nil room hr0), Lib.hid ⟨_, HD1.out, HB1.out⟩⟩
  case round =>
    obtain ⟨i, L, rfl, hi, rfl, HR, HH⟩ := hrel
    obtain ⟨S, hd, hb⟩ := HH.out
    have HD := Lib.hid hd
    have HB := Lib.hid hb
    have HU0 := Lib.hid (sumL_nn L)
    have HU1 := Lib.hid HR.out.us
    clear HH hd hb HD1 HB1
    obtain ⟨u, hu⟩ : ∃ u, u = sumL L := ⟨_, rfl⟩
    have HUE := Lib.hid hu
    have hu0 : 0 ≤ u := by rw [hu]; exact HU0.out
    have hu1 : u ≤ room := by rw [hu]; exact HU1.out
    rw [← hu]
    clear hu
    by_cases hlt : i < n
    · have hi20 : i < 20 := by omega
      obtain ⟨x, hx⟩ : ∃ x, s[i]? = some x := ⟨_, List.getElem?_eq_getElem (by rw [← HN.out]; exact hlt)⟩
      have HBW : Hid (Below w.heap.size w wr) := Lib.hid (HB0.out.trans (HB.out.mono (by rw [HDE.out]; exact HB0.out.size)))
      obtain ⟨sa, hsa, hsb, hsc⟩ := (HS.out.below HBW.out) (by rw [List.length_map, ← HN.out]; omega)
      subst hsa
      have c0 : wr.cell? (sa.add i) = some (.int .i64 x) := hsc i _ (by rw [List.getElem?_map, hx]; rfl)
      obtain ⟨q, hq⟩ : ∃ q, q = (x % 256).toNat := ⟨_, rfl⟩
      have hq255 : q ≤ 255 := by omega
      have e3 : bits .and .i64 x 255 = (q : Int) := by rw [i64_and255]; omega
      have hmk := HMK'.out q (by omega)
      obtain ⟨u2, hu2⟩ : ∃ u2, u2 = u + (q : Int) := ⟨_, rfl⟩
      have iu : u + (q : Int) = u2 := hu2.symm
      have hu2b : 0 ≤ u2 ∧ u2 ≤ 3000 := by omega
      have HU2 := Lib.hid hu2
      obtain ⟨i1, hi1⟩ : ∃ i1, i1 = i + 1 := ⟨_, rfl⟩
      have iw1 : IntKind.i64.wrap ((i : Int) + 1) = (i1 : Int) := by rw [IntKind.wrap_i64]; omega
      have iw2 : IntKind.i64.wrap (i1 : Int) = (i1 : Int) := by rw [IntKind.wrap_i64]; omega
      have j0 : (0 : Int) ≤ (i : Int) := by omega
      have j1 : (i : Int) < (n : Int) := by omega
      have j2 : (i : Int) ≤ (i1 : Int) := by omega
      have j3 : (i1 : Int) ≤ 20 := by omega
      have j4 : i ≤ i1 := by omega
      have j5 : i1 ≤ 20 := by omega
      have HI1 := Lib.hid hi1
      clear hx hsc hsb hq hu2 hi1
      have HBW13 : Hid (Below wr.heap.size wr (wr.alloc (.cells (zeroC q) 5)).drew) := Lib.hid (((Below.refl wr.heap.size wr).alloc (Nat.le_refl _) (.cells (zeroC q) 5)).trans ⟨rfl, rfl, rfl, Nat.le_refl _, fun _ _ => rfl⟩)
      have HRD : Hid (Rd (wr.alloc (.cells (zeroC q) 5)).drew (wr.heap.size + 1) (some ⟨wr.heap.size, 0, none⟩) ((List.replicate q (0 : UInt8)).map B8)) := Lib.hid (by have := Rd.drew (Rd.lit wr (zeroC q) 5); unfold zeroC at this ⊢; simpa using this)
      have HNA : Hid (∀ a, some (⟨wr.heap.size, 0, none⟩ : Addr) = some a → ¬ S a.block) := Lib.hid (fun a ha hs => by injection ha with ha; subst ha; have := HD.out.lt _ hs; simp at this)
      have HSZ : Hid (wr.heap.size + 1 ≤ ((wr.alloc (.cells (zeroC q) 5)).drew).heap.size) := Lib.hid (by show _ ≤ (wr.alloc _).heap.size; simp)
      by_cases hfit : u2 ≤ room
      · have e4 : decide (u2 ≤ room) = true := decide_eq_true hfit
        go_upto_region 13 with fail
        have APX := Lib.hid ((by have h := appendL D D (gR room L) S (nmR i) (some ⟨wr.heap.size, 0, none⟩) (List.replicate q 0) q q (wr.heap.size + 1) (wr.alloc (.cells (zeroC q) 5)).drew (HD.out.below HBW13.out) (OK.out i L HR.out (by omega)) rfl (nmR_ne hi20) (by show (q : Int) ≤ room - sumL L; rw [← HUE.out]; omega) (by simp) HRD.out HSZ.out HNA.out (by simp; omega); rw [gR_put (HR.out.lt hi20)] at h; unfold nmR at h; rw [← HI1.out] at h; exact h))
        go_region_held3 (fun w' => True)
          (trivial)
          ((go_at_call 12; (with_reducible refine APX.out.mono ?_); rintro e w2 ⟨rfl, S2, hd2, hk2⟩))
        have HD2 := Lib.hid hd2
        have HB2 : Hid (Below D w0 w2) := Lib.hid ((HB.out.alloc (Nat.le_of_lt HD.out.dok.2) (.cells (zeroC q) 5)).trans ((⟨rfl, rfl, rfl, Nat.le_refl _, fun _ _ => rfl⟩ : Below D (wr.alloc (.cells (zeroC q) 5)) (wr.alloc (.cells (zeroC q) 5)).drew).trans (hk2.below HD.out.ge (Nat.le_trans (Nat.le_of_lt HD.out.dok.2) ((Below.refl wr.heap.size wr).alloc (Nat.le_refl _) (.cells (zeroC q) 5)).size))))
        clear hd2 hk2 APX
        clear iw1 iw2 hmk HRD HNA HSZ HBW13 c0
        have HD2' : Hid (DvL w2 D D (gR room (L ++ [(nmR i, List.replicate q 0, 0)])) S2) := Lib.hid (by unfold nmR; rw [← HI1.out]; exact HD2.out)
        clear HD2
        have HD2 := HD2'
        clear HD2'
        have UE : sumL (L ++ [(nmR i, List.replicate q 0, 0)]) = u2 := by rw [sumL_snoc, ← HUE.out, HU2.out]; simp
        have US2 : Hid (∀ W, DvL W D D (gR room (L ++ [(nmR i, List.replicate q 0, 0)])) S2 → Calls Try.prog 27 #[.pointer (some ⟨D, 0, none⟩)] W fun e w' => e = .returned (.int .i64 u2) ∧ w' = W) := Lib.hid (fun W h => by
          have k := usedL D D _ S2 W h
          have e : (gR room (L ++ [(nmR i, List.replicate q 0, 0)])).us = u2 := UE
          rw [e] at k
          exact k)
        have HUE2 := Lib.hid UE
        clear UE
        go_wp2_with (first
          | (go_at_call 27; (with_reducible refine (US2.out _ HD2.out).mono ?_); rintro e wu ⟨rfl, hwu⟩; subst hwu)
          | (go_at_call 13; (with_reducible refine (num_any _ _).mono ?_); rintro e wn ⟨rfl, hwn⟩; subst hwn))
        go_roundw
        case rel => exact ⟨i + 1, L ++ [(nmR i, List.replicate q 0, 0)], by go_num, by omega, by rw [HUE2.out], Lib.hid (HR.out.more hi20 q hq255 (by rw [← HUE.out]; omega)), Lib.hid ⟨S2, HD2.out, HB2.out⟩⟩
        case measure => simp [intOf]; omega
      · have e4 : decide (u2 ≤ room) = false := decide_eq_false hfit
        go_upto_region 13 with fail
        have APX := Lib.hid ((by have h := append_fullL D D (gR room L) S (nmR i) (some ⟨wr.heap.size, 0, none⟩) q q (wr.alloc (.cells (zeroC q) 5)).drew (HD.out.below HBW13.out) (OK.out i L HR.out (by omega)) rfl (nmR_ne hi20) (by show room - sumL L < (q : Int); rw [← HUE.out]; omega); unfold nmR at h; rw [← HI1.out] at h; exact h))
        go_region_held3 (fun w' => True)
          (trivial)
          ((go_at_call 12; (with_reducible refine APX.out.mono ?_); rintro e w2 ⟨rfl, S2, hd2, hk2⟩))
        have HD2 := Lib.hid hd2
        have HB2 : Hid (Below D w0 w2) := Lib.hid ((HB.out.alloc (Nat.le_of_lt HD.out.dok.2) (.cells (zeroC q) 5)).trans ((⟨rfl, rfl, rfl, Nat.le_refl _, fun _ _ => rfl⟩ : Below D (wr.alloc (.cells (zeroC q) 5)) (wr.alloc (.cells (zeroC q) 5)).drew).trans (hk2.below HD.out.ge (Nat.le_trans (Nat.le_of_lt HD.out.dok.2) ((Below.refl wr.heap.size wr).alloc (Nat.le_refl _) (.cells (zeroC q) 5)).size))))
        clear hd2 hk2 APX
        clear iw1 iw2 hmk HRD HNA HSZ HBW13 c0
        have US2 : Hid (∀ W, DvL W D D (gR room L) S2 → Calls Try.prog 27 #[.pointer (some ⟨D, 0, none⟩)] W fun e w' => e = .returned (.int .i64 u) ∧ w' = W) := Lib.hid (fun W h => by
          have k := usedL D D _ S2 W h
          have e : (gR room L).us = u := HUE.out.symm
          rw [e] at k
          exact k)
        go_wp2_with (first
          | (go_at_call 27; (with_reducible refine (US2.out _ HD2.out).mono ?_); rintro e wu ⟨rfl, hwu⟩; subst hwu)
          | (go_at_call 13; (with_reducible refine (num_any _ _).mono ?_); rintro e wn ⟨rfl, hwn⟩; subst hwn))
        go_roundw
        case rel => exact ⟨i + 1, L, by go_num, by omega, by rw [HUE.out], Lib.hid HR.out.skip, Lib.hid ⟨S2, HD2.out, HB2.out⟩⟩
        case measure => simp [intOf]; omega
    · obtain rfl : i = n := by omega
      have HLZ := Lib.hid (HR.out.ltz hn20)
      obtain ⟨v, hv⟩ : ∃ v : Nat, (v : Int) = room - u := ⟨(room - u).toNat, by omega⟩
      obtain ⟨v1, hv1⟩ : ∃ v1 : Nat, v1 = v + 1 := ⟨_, rfl⟩
      have iv : room - u = (v : Int) := hv.symm
      have iv1 : (v : Int) + 1 = (v1 : Int) := by omega
      have hv2 : v ≤ 2000 := by omega
      have hv3 : v1 ≤ 2001 := by omega
      have hmk0 := HMK'.out v (by omega)
      have hmk1 := HMK'.out v1 (by omega)
      have UE : sumL (L ++ [(zzz, List.replicate v 0, 0)]) = room := by rw [sumL_snoc, ← HUE.out]; simp; omega
      have OKZ : Hid (gR room (L ++ [(zzz, List.replicate v 0, 0)])).ok := Lib.hid (gR_ok ⟨hr0, hr1⟩ (sort_snoc HR.out.srt HLZ.out _ _) (by rw [List.length_append]; have := HR.out.len; simp; omega) (fun x hx => by
        rcases List.mem_append.1 hx with hx | hx
        · have := HR.out.big x hx; omega
        · simp at hx; subst hx; simp; omega) (by rw [UE]; omega))
      have AF : Hid (∀ W S, DvL W D D (gR room L) S → Calls Try.prog 12 #[.pointer (some ⟨D, 0, none⟩), .string ⟨#[122]⟩, .slice (some ⟨W.heap.size, 0, none⟩) v1 v1] (W.alloc (.cells (zeroC v1) 5)) (LeftL D D (gR room L) S (.int .i64 3) (W.alloc (.cells (zeroC v1) 5)))) := Lib.hid (fun W S h => append_fullL D D (gR room L) S zzz _ v1 v1 _ (h.below ((Below.refl _ _).alloc (Nat.le_refl _) _)) (OK.out i L HR.out hn20) rfl (by decide +kernel) (by show room - sumL L < (v1 : Int); rw [← HUE.out]; omega))
      have AO : Hid (∀ W S, DvL W D D (gR room L) S → Calls Try.prog 12 #[.pointer (some ⟨D, 0, none⟩), .string ⟨#[122]⟩, .slice (some ⟨W.heap.size, 0, none⟩) v v] (W.alloc (.cells (zeroC v) 5)) (LeftL D D (gR room (L ++ [(zzz, List.replicate v 0, 0)])) S (.int .i64 0) (W.alloc (.cells (zeroC v) 5)))) := Lib.hid (fun W S h => by
        have k := append_lit D (gR room L) S zzz (List.replicate v 0) v W (0, 0) h (OK.out i L HR.out hn20) rfl (by decide +kernel) (by show (v : Int) ≤ room - sumL L; rw [← HUE.out]; omega) (by simp) (by simp; omega)
        rw [gR_put HLZ.out] at k
        exact k)
      have USZ : Hid (∀ W S, DvL W D D (gR room (L ++ [(zzz, List.replicate v 0, 0)])) S → Calls Try.prog 27 #[.pointer (some ⟨D, 0, none⟩)] W fun e w' => e = .returned (.int .i64 room) ∧ w' = W) := Lib.hid (fun W S h => by
        have k := usedL D D _ S W h
        have e : (gR room (L ++ [(zzz, List.replicate v 0, 0)])).us = room := UE
        rw [e] at k
        exact k)
      have HLL : Hid ((L ++ [(zzz, List.replicate v 0, 0)]).length ≤ 21) := Lib.hid (by rw [List.length_append]; have := HR.out.len; simp; omega)
      have HSL : Hid (SortG (L ++ [(zzz, List.replicate v 0, 0)]) ∧ sumL (L ++ [(zzz, List.replicate v 0, 0)]) = room ∧ ∀ x ∈ L ++ [(zzz, List.replicate v 0, 0)], x.2.1.length ≤ 2147483648) := Lib.hid ⟨OKZ.out.srt, UE, OKZ.out.big⟩
      clear UE hv hv1
      generalize hZ : L ++ [(zzz, List.replicate v 0, 0)] = Z at *
      clear hZ
      go_upto_region 22 with (first
        | (have hd := done1; go_at_call 27; (with_reducible refine (USZ.out _ _ HD4.out).mono ?_); rintro e wu ⟨rfl, hwu⟩; subst hwu)
        | (have hd := done1; go_at_call 12; (with_reducible refine (AO.out _ _ HD3.out).mono ?_); rintro e w4 ⟨rfl, S4, hd4, hk4⟩; have HD4 := Lib.hid hd4; have HB4 := Lib.hid ((HB3.out.alloc (Nat.le_of_lt HD3.out.dok.2) _).trans (hk4.below HD3.out.ge (by simp; have := HD3.out.dok.2; omega))); clear hd4 hk4)
        | (go_at_call 13; (with_reducible refine (num_any _ _).mono ?_); rintro e wn ⟨rfl, hwn⟩; subst hwn)
        | (go_at_call 12; (with_reducible refine (AF.out _ _ HD.out).mono ?_); rintro e w3 ⟨rfl, S3, hd3, hk3⟩; have done1 := trivial; have HD3 := Lib.hid hd3; have HB3 := Lib.hid ((HB.out.alloc (Nat.le_of_lt HD.out.dok.2) _).trans (hk3.below HD.out.ge (by simp; have := HD.out.dok.2; omega))); clear hd3 hk3))
      clear hmk0 hmk1 iv iv1
      have HB4' := HB4
      have FL := Lib.hid (filesL D D (gR room Z) S4 _ HD4.out OKZ.out (by show Z.length ≤ _; have := HLL.out; omega))
      go_upto_region 23 with (go_at_call 32; (with_reducible refine FL.out.mono ?_); rintro e w6 ⟨v6, l6, rfl, hf6, hl6, hb6⟩; obtain ⟨A6, c6, hv6, hc6, hr6⟩ := own_rd hf6.own; subst hv6; have HF6 := Lib.hid hf6; have HL6 : Hid (l6.map Lf.lg = Z) := Lib.hid hl6; have HB6 := Lib.hid (HB4.out.trans (hb6.mono (Nat.le_of_lt HD4.out.dok.2))); have HD6 := Lib.hid (HD4.out.below hb6); have HR6 := Lib.hid hr6; have HNA6 := Lib.hid (fun (a : Addr) (ha : A6 = some a) (hs : S4 a.block) => (by have h1 := own_block_ge hf6.own a.block (by rw [ha]; simp [Value.ownBlock]); have h2 := HD4.out.lt _ hs; omega : False)); clear hf6 hl6 hb6 hr6)
      obtain ⟨n6, hn6⟩ : ∃ n6, n6 = l6.length := ⟨_, rfl⟩
      rw [← hn6]
      have HN6 := Lib.hid hn6
      have HZN : Hid (n6 = Z.length) := Lib.hid (by rw [hn6, ← HL6.out, List.length_map])
      have hn21 : n6 ≤ 21 := by rw [HZN.out]; exact HLL.out
      clear hn6 hlt hi hc6
      go_wp2_with fail
      go_loopw [8, 13] (fun uv iv wr => ∃ (k : Nat) (t : Int), iv = .int .i64 k ∧ k ≤ n6 ∧ uv = .int .i64 t ∧ Hid (∃ S, DvL wr D D (gR room (Z.drop k)) S ∧ Below D w0 wr ∧ Rd wr w6.heap.size A6 (l6.flatMap Lf.cells) ∧ (∀ a, A6 = some a → ¬ S a.block) ∧ w6.heap.size ≤ wr.heap.size)) (fun _ iv _ => n6 - (intOf iv).toNat)
      case atStart => exact ⟨0, u, rfl, Nat.zero_le _, rfl, Lib.hid ⟨S4, HD6.out, HB6.out, HR6.out, HNA6.out, Nat.le_refl _⟩⟩
      case round =>
        clear HD HB HD6 HB6 HR6 HD4 HB4 HB4'
        obtain ⟨k, t, rfl, hk, rfl, HH⟩ := hrel
        obtain ⟨S, hd, hb, hr, hna, hsz⟩ := HH.out
        have HD := Lib.hid hd
        have HB := Lib.hid hb
        have HR8 := Lib.hid hr
        have HNA8 := Lib.hid hna
        clear HH hd hb hr hna
        by_cases hlt : k < n6
        · obtain ⟨f, hf⟩ : ∃ f, l6[k]? = some f := ⟨_, List.getElem?_eq_getElem (by rw [← HN6.out]; exact hlt)⟩
          have hzk : Z.drop k = f.lg :: Z.drop (k + 1) := by
            have h1 : Z[k]? = some f.lg := by rw [← HL6.out, List.getElem?_map, hf]; rfl
            obtain ⟨h2, h3⟩ := List.getElem?_eq_some_iff.1 h1
            rw [← h3]; exact List.drop_eq_getElem_cons h2
          obtain ⟨q, hq⟩ : ∃ q, q = f.da.length := ⟨_, rfl⟩
          obtain ⟨a, ha, hab, x0, x1, x2⟩ := file_cells HR8.out hf q hq
          have HAB := Lib.hid hab
          have HNB : Hid (¬ S (a.add (k * 3)).block ∧ (a.add (k * 3)).block < wr.heap.size) := Lib.hid ⟨by rw [block_add]; exact HNA8.out a ha, by rw [block_add]; omega⟩
          subst ha
          rw [hzk] at HD
          have hso : SortG (f.lg :: Z.drop (k + 1)) := by rw [← hzk]; exact HSL.out.1.sublist (List.drop_sublist _ _)
          have hss : sumL (f.lg :: Z.drop (k + 1)) ≤ room := by
            rw [← hzk]
            have h1 : Z = Z.take k ++ Z.drop k := (List.take_append_drop _ _).symm
            have h2 := HSL.out.2.1
            have h3 : sumL (Z.take k ++ Z.drop k) = sumL (Z.take k) + sumL (Z.drop k) := by unfold sumL; rw [List.map_append, List.sum_append]
            have h4 := sumL_nn (Z.take k)
            rw [← h1] at h3
            omega
          have HOK : Hid (gR room (f.lg :: Z.drop (k + 1))).ok := Lib.hid (gR_ok ⟨hr0, hr1⟩ hso (by rw [← hzk, List.length_drop]; have := HLL.out; omega) (fun x hx => HSL.out.2.2 x (List.mem_of_mem_drop (by rw [hzk]; exact hx))) hss)
          obtain ⟨t0, ht0⟩ : ∃ t0, t0 = sumL (Z.drop (k + 1)) := ⟨_, rfl⟩
          obtain ⟨t1, ht1⟩ : ∃ t1, t1 = sumL (f.lg :: Z.drop (k + 1)) := ⟨_, rfl⟩
          have hnn := sumL_nn (Z.drop (k + 1))
          have hqq : f.lg.2.1.length = q := hq.symm
          have it : t1 - (q : Int) = t0 := by rw [ht0, ht1, sumL_cons, hqq]; omega
          have htb : 0 ≤ t0 ∧ t1 ≤ 2000 ∧ t0 ≤ t1 := by
            rw [sumL_cons, hqq] at ht1 hss
            omega
          have DX : Hid (∀ W, Below wr.heap.size wr W → DvL W D D (gR room (f.lg :: Z.drop (k + 1))) S → Calls Try.prog 19 #[.pointer (some ⟨D, 0, none⟩), .string f.nm] W (LeftL D D (gR room (Z.drop (k + 1))) S (.int .i64 0) W)) := Lib.hid (fun W hW h => by
            have k9 := delete_hitL D D _ S f.nm 0 f.lg W h HOK.out rfl (first_hit hso) (first_pos hso) rfl
            rw [gR_del] at k9
            exact k9)
          have US1 : Hid (∀ W, DvL W D D (gR room (f.lg :: Z.drop (k + 1))) S → Calls Try.prog 27 #[.pointer (some ⟨D, 0, none⟩)] W fun e w' => e = .returned (.int .i64 t1) ∧ w' = W) := Lib.hid (fun W h => by
            have k9 := usedL D D _ S W h
            have e : (gR room (f.lg :: Z.drop (k + 1))).us = t1 := ht1.symm
            rw [e] at k9
            exact k9)
          have US0 : Hid (∀ W S, DvL W D D (gR room (Z.drop (k + 1))) S → Calls Try.prog 27 #[.pointer (some ⟨D, 0, none⟩)] W fun e w' => e = .returned (.int .i64 t0) ∧ w' = W) := Lib.hid (fun W S h => by
            have k9 := usedL D D _ S W h
            have e : (gR room (Z.drop (k + 1))).us = t0 := ht0.symm
            rw [e] at k9
            exact k9)
          have k0 : (0 : Int) ≤ (k : Int) := by omega
          have k1 : (k : Int) < (n6 : Int) := by omega
          clear hf hzk hq hso hss ht0 ht1 hnn hqq hab
          go_upto_region 27 with (go_at_call 27; (with_reducible refine (US1.out _ HD.out).mono ?_); rintro e wu ⟨rfl, hwu⟩; subst hwu)
          have iwA : IntKind.i64.wrap (t1 - (q : Int)) = t0 := by rw [it, IntKind.wrap_i64]; omega
          have iwB : IntKind.i64.wrap t0 = t0 := by rw [IntKind.wrap_i64]; omega
          have y1 := x1
          have y0 := x0
          have DXN := Lib.hid (DX.out wu.drew ⟨rfl, rfl, rfl, Nat.le_refl _, fun _ _ => rfl⟩ (HD.out.below (w' := wu.drew) ⟨rfl, rfl, rfl, Nat.le_refl _, fun _ _ => rfl⟩))
          go_region_held3 (fun w' => w'.cell? (a.add (k * 3)) = some (.string f.nm) ∧ w'.cell? ⟨(a.add (k * 3)).block, (a.add (k * 3)).off + 1, none⟩ = some (.slice f.A q f.c))
            (first
              | go_keep
              | exact ⟨(World.cell?_of_block (hk7.block _ HNB.out.2 HNB.out.1)).trans y0, (World.cell?_of_block (a := ⟨(a.add (k * 3)).block, (a.add (k * 3)).off + 1, none⟩) (hk7.block _ HNB.out.2 HNB.out.1)).trans y1⟩)
            ((first
              | (go_at_call 27; (with_reducible refine (US0.out _ _ HD7.out).mono ?_); rintro e wv ⟨rfl, hwv⟩; subst hwv)
              | (go_at_call 13; (with_reducible refine (num_any _ _).mono ?_); rintro e wn ⟨rfl, hwn⟩; subst hwn)
              | (go_at_call 19; (with_reducible refine DXN.out.mono ?_); rintro e w7 ⟨rfl, S7, hd7, hk7⟩; have HD7 := Lib.hid hd7; have HK7 := Lib.hid hk7)))
          have HDZ := HD7
          have HBZ := Lib.hid (HB.out.trans ((⟨rfl, rfl, rfl, Nat.le_refl _, fun _ _ => rfl⟩ : Below D wu wu.drew).trans (HK7.out.below HD.out.ge (Nat.le_of_lt HD.out.dok.2))))
          have HRZ := Lib.hid (HK7.out.rd (Rd.drew HR8.out) hsz HNA8.out)
          have HNZ := Lib.hid (fun (b : Addr) (hb : some a = some b) (h : S7 b.block) => HNA8.out b hb (HK7.out.sub b.block (by injection hb with hb; subst hb; exact Nat.lt_of_lt_of_le HAB.out hsz) h))
          have HSZ := Lib.hid (Nat.le_trans hsz HK7.out.size)
          clear HK7 hd7 hk7 DX DXN US1 iwA iwB
          go_wp2_with fail
          go_roundw
          case rel => exact ⟨k + 1, t1, by go_num, by omega, rfl, Lib.hid ⟨S7, HDZ.out, HBZ.out, HRZ.out, HNZ.out, HSZ.out⟩⟩
          case measure => simp [intOf]; omega
        · obtain rfl : k = n6 := by omega
          have hz0 : Z.drop k = [] := by rw [List.drop_eq_nil_iff, HZN.out]; exact Nat.le_refl _
          rw [hz0] at HD
          have U00 : Hid (∀ W, DvL W D D (gR room []) S → Calls Try.prog 27 #[.pointer (some ⟨D, 0, none⟩)] W fun e w' => e = .returned (.int .i64 0) ∧ w' = W) := Lib.hid (fun W h => usedL D D _ S W h)
          have F00 : Hid (∀ W, DvL W D D (gR room []) S → Calls Try.prog 32 #[.pointer (some ⟨D, 0, none⟩)] W (FilesOf [] W)) := Lib.hid (fun W h => filesL D D _ S W h (gR_ok ⟨hr0, hr1⟩ List.Pairwise.nil (by simp) (fun x hx => by cases hx) (by simpa [sumL] using hr0)) (by show (0 : Nat) ≤ _; omega))
          clear hz0
          go_wp2_with (first
            | (go_at_call 32; (with_reducible refine (F00.out _ HD.out).mono ?_); rintro e w9 ⟨v9, l9, rfl, hf9, hl9, hb9⟩; have hl0 : l9 = [] := List.map_eq_nil_iff.1 hl9; subst hl0; obtain ⟨A9, c9, rfl, _, _⟩ := own_rd hf9.own; have HB9 := Lib.hid (HB.out.trans (hb9.mono (Nat.le_of_lt HD.out.dok.2))); clear hf9 hl9 hb9)
            | (go_at_call 27; (with_reducible refine (U00.out _ HD.out).mono ?_); rintro e wv ⟨rfl, hwv⟩; subst hwv))
          go_ret
          exact ⟨rfl, HB0.out.trans (HB9.out.mono (by rw [HDE.out]; exact HB0.out.size))⟩
end Go.Proofs.Ytlpaaaiobclmoaa
