/- DeviceFuse. -/
import Derived.Test.YtlpaaaiobclmoaaUk
namespace Go.Proofs.Ytlpaaaiobclmoaa
open Go.RowKit
set_option linter.unusedVariables false
set_option linter.unusedSimpArgs false
set_option maxRecDepth 100000

def gQ (n q : Nat) : Dg := ⟨100, 1 + (q : Int), [(⟨#[97]⟩, 49 :: List.replicate q 50, 0)], true, (n : Int) - (q : Int)⟩
theorem gQ_ok (n q : Nat) (hn : n ≤ 50) (hq : q ≤ n) : (gQ n q).ok := ok_one _ _ _ _ _ (by omega) ⟨by decide, by decide⟩ (by omega) (by simp; omega)
theorem gQ_dead (n q : Nat) : (gQ n q).dead = decide ((n : Int) - (q : Int) = 0) := rfl
theorem hit_a (l : List UInt8) (s : Int) : hitG [(⟨#[97]⟩, l, s)] ⟨#[97]⟩ = true := by rfl
theorem pos_a (l : List UInt8) (s : Int) : posG [(⟨#[97]⟩, l, s)] ⟨#[97]⟩ = 0 := by rfl
theorem hit_nobody (l : List UInt8) (s : Int) : hitG [(⟨#[97]⟩, l, s)] ⟨#[110, 111, 98, 111, 100, 121]⟩ = false := by rfl
theorem gQ_put (n q : Nat) : ((gQ n q).put ⟨#[97]⟩ [50]).burnt = gQ n (q + 1) := by
  unfold Dg.put Dg.burnt putL gQ
  simp only [hit_a, pos_a, List.getElem?_cons_zero, List.set_cons_zero, if_true, List.length_singleton]
  have e1 : (1 + (q : Int)) + ((1 : Nat) : Int) = 1 + ((q + 1 : Nat) : Int) := by omega
  have e2 : (n : Int) - (q : Int) - 1 = (n : Int) - ((q + 1 : Nat) : Int) := by omega
  have e3 : 49 :: List.replicate q (50 : UInt8) ++ [50] = 49 :: List.replicate (q + 1) 50 := by
    rw [List.cons_append, ← List.replicate_succ']
  rw [e1, e2, e3]
theorem fuse_put : ((Dg.new 100).put ⟨#[97]⟩ [49]).burnt = ⟨100, 1, [(⟨#[97]⟩, [49], 0)], false, 0⟩ := by rfl
theorem fuse_gQ (n : Nat) : (Dg.fused ⟨100, 1, [(⟨#[97]⟩, [49], 0)], false, 0⟩ (n : Int)) = gQ n 0 := by
  unfold Dg.fused gQ
  simp
set_option maxHeartbeats 4000000 in
theorem fuse6 (a c : Int) (w : World) : Calls Try.prog 5 #[.int .i64 a, .int .i64 c] w fun e w' => e = .returned (.bool true) ∧ Below w.heap.size w w' := by
  have kc := fun (w : World) (C : Array Value) (n c : Nat) => Lib.run_convert_bytes_const (P := Try.prog) w 29 5 C n c Try.underlying29 Try.underlying5
  by_cases h1 : a < 0
  · have d1 : decide (a < 0) = true := decide_eq_true h1
    go_enter Try.func5, Try.ntmps5
    go_wp2_with (go_at_call 8; (with_reducible refine (alive6_calls _).mono ?_); rintro e w0 ⟨rfl, hb0⟩; have HB0 := Lib.hid hb0; clear hb0)
    go_ret
    exact ⟨rfl, HB0.out⟩
  have d1 : decide (a < 0) = false := decide_eq_false h1
  by_cases h2 : 50 < a
  · have d2 : decide (50 < a) = true := decide_eq_true h2
    go_enter Try.func5, Try.ntmps5
    go_wp2_with (go_at_call 8; (with_reducible refine (alive6_calls _).mono ?_); rintro e w0 ⟨rfl, hb0⟩; have HB0 := Lib.hid hb0; clear hb0)
    go_ret
    exact ⟨rfl, HB0.out⟩
  have d2 : decide (50 < a) = false := decide_eq_false h2
  by_cases h3 : c < 0
  · have d3 : decide (c < 0) = true := decide_eq_true h3
    go_enter Try.func5, Try.ntmps5
    go_wp2_with (go_at_call 8; (with_reducible refine (alive6_calls _).mono ?_); rintro e w0 ⟨rfl, hb0⟩; have HB0 := Lib.hid hb0; clear hb0)
    go_ret
    exact ⟨rfl, HB0.out⟩
  have d3 : decide (c < 0) = false := decide_eq_false h3
  by_cases h4 : 60 < c
  · have d4 : decide (60 < c) = true := decide_eq_true h4
    go_enter Try.func5, Try.ntmps5
    go_wp2_with (go_at_call 8; (with_reducible refine (alive6_calls _).mono ?_); rintro e w0 ⟨rfl, hb0⟩; have HB0 := Lib.hid hb0; clear hb0)
    go_ret
    exact ⟨rfl, HB0.out⟩
  have d4 : decide (60 < c) = false := decide_eq_false h4
  obtain ⟨n, rfl⟩ := Int.eq_ofNat_of_zero_le (show 0 ≤ a by omega)
  obtain ⟨m, rfl⟩ := Int.eq_ofNat_of_zero_le (show 0 ≤ c by omega)
  have hn : n ≤ 50 := by omega
  have hm : m ≤ 60 := by omega
  clear h1 h2 h3 h4
  have NW := Lib.hid (fun W => newL 100 100 W (by decide) ⟨by decide, by decide⟩)
  have AP : Hid (∀ D S W fr, DvL W D D (Dg.new 100) S → Calls Try.prog 12 #[.pointer (some ⟨D, 0, none⟩), .string ⟨#[97]⟩, .slice (some ⟨W.heap.size, 0, none⟩) 1 1] (W.alloc (.cells #[.int .u8 49] 5 fr)) (LeftL D D ⟨100, 1, [(⟨#[97]⟩, [49], 0)], false, 0⟩ S (.int .i64 0) (W.alloc (.cells #[.int .u8 49] 5 fr)))) := Lib.hid (fun D S W fr h => by
    have := append_lit D (Dg.new 100) S ⟨#[97]⟩ [49] 1 W fr h (ok_none _ _ _ _ ⟨by decide, by decide⟩ ⟨by decide, by decide⟩ ⟨by decide, by decide⟩) rfl (by decide +kernel) (by decide) rfl (by decide)
    rw [fuse_put] at this
    exact this)
  have FU : Hid (∀ D S W, DvL W D D ⟨100, 1, [(⟨#[97]⟩, [49], 0)], false, 0⟩ S → Calls Try.prog 21 #[.pointer (some ⟨D, 0, none⟩), .int .i64 (n : Int)] W (LeftL D D (gQ n 0) S (.tuple #[]) W)) := Lib.hid (fun D S W h => by
    have := fuseL D D _ S (n : Int) W h
    rw [fuse_gQ] at this
    exact this)
  have AG : Hid (∀ D S W fr q, q < n → DvL W D D (gQ n q) S → Calls Try.prog 12 #[.pointer (some ⟨D, 0, none⟩), .string ⟨#[97]⟩, .slice (some ⟨W.heap.size, 0, none⟩) 1 1] (W.alloc (.cells #[.int .u8 50] 5 fr)) (LeftL D D (gQ n (q + 1)) S (.int .i64 0) (W.alloc (.cells #[.int .u8 50] 5 fr)))) := Lib.hid (fun D S W fr q hq h => by
    have := append_lit D (gQ n q) S ⟨#[97]⟩ [50] 1 W fr h (gQ_ok n q hn (by omega)) (by rw [gQ_dead]; exact decide_eq_false (by omega)) (by decide +kernel) (by show ((1 : Nat) : Int) ≤ 100 - (1 + (q : Int)); omega) rfl (by decide)
    rw [gQ_put] at this
    exact this)
  have AD : Hid (∀ D S W fr, DvL W D D (gQ n n) S → Calls Try.prog 12 #[.pointer (some ⟨D, 0, none⟩), .string ⟨#[97]⟩, .slice (some ⟨W.heap.size, 0, none⟩) 1 1] (W.alloc (.cells #[.int .u8 50] 5 fr)) (LeftL D D (gQ n n) S (.int .i64 5) (W.alloc (.cells #[.int .u8 50] 5 fr)))) := Lib.hid (fun D S W fr h => append_deadL D D (gQ n n) S ⟨#[97]⟩ _ 1 1 _ (h.below ((Below.refl _ _).alloc (Nat.le_refl _) _)) (by rw [gQ_dead]; exact decide_eq_true (by omega)))
  have SN : Hid (∀ D S W q, q < n → DvL W D D (gQ n q) S → Calls Try.prog 15 #[.pointer (some ⟨D, 0, none⟩), .string ⟨#[110, 111, 98, 111, 100, 121]⟩] W (LeftL D D (gQ n q) S (.int .i64 4) W)) := Lib.hid (fun D S W q hq h => sync_noneL D D (gQ n q) S _ W h (gQ_ok n q hn (by omega)) (by rw [gQ_dead]; exact decide_eq_false (by omega)) (hit_nobody _ _))
  have SD : Hid (∀ D S W q, q = n → DvL W D D (gQ n q) S → Calls Try.prog 15 #[.pointer (some ⟨D, 0, none⟩), .string ⟨#[110, 111, 98, 111, 100, 121]⟩] W (LeftL D D (gQ n q) S (.int .i64 5) W)) := Lib.hid (fun D S W q hq h => sync_deadL D D (gQ n q) S _ W h (by rw [gQ_dead]; exact decide_eq_true (by omega)))
  have UU : Hid (∀ D S W q, DvL W D D (gQ n q) S → Calls Try.prog 27 #[.pointer (some ⟨D, 0, none⟩)] W fun e w' => e = .returned (.int .i64 (1 + (q : Int))) ∧ w' = W) := Lib.hid (fun D S W q h => usedL D D _ S W h)
  go_enter Try.func5, Try.ntmps5
  go_wp2_with (first
    | (go_at_call 21; (with_reducible refine (FU.out _ _ _ HD2.out).mono ?_); rintro e w3 ⟨rfl, S3, hd3, hk3⟩; have HD3 := Lib.hid hd3; have HB3 := Lib.hid (HB2.out.trans (hk3.below HD2.out.ge (Nat.le_of_lt HD2.out.dok.2))); clear hd3 hk3)
    | (go_at_call 12; (with_reducible refine (AP.out _ _ _ _ HD1.out).mono ?_); rintro e w2 ⟨rfl, S2, hd2, hk2⟩; have HD2 := Lib.hid hd2; have HB2 := Lib.hid ((HB1.out.alloc (Nat.le_of_lt HD1.out.dok.2) _).trans (hk2.below HD1.out.ge (by simp; have := HD1.out.dok.2; omega))); clear hd2 hk2)
    | (go_at_call 10; (with_reducible refine (NW.out _).mono ?_); rintro e w1 ⟨rfl, ⟨S, hd1⟩, hb1⟩; have HD1 := Lib.hid hd1; have HB1 := Lib.hid hb1; clear hd1 hb1)
    | (go_at_call 8; (with_reducible refine (alive6_calls _).mono ?_); rintro e w0 ⟨rfl, hb0⟩; have HB0 := Lib.hid hb0; clear hb0))
  clear d1 d2 d3 d4
  obtain ⟨D, hD⟩ : ∃ D, D = w0.heap.size := ⟨_, rfl⟩
  have HDE := Lib.hid hD
  rw [← hD] at HD3 HB3 ⊢
  clear hD HD1 HD2 HB1 HB2 AP FU NW
  go_loopw [7] (fun iv wr => ∃ i : Nat, iv = .int .i64 i ∧ i ≤ m ∧ Hid (∃ S, DvL wr D D (gQ n (min i n)) S ∧ Below D w0 wr)) (fun iv _ => m - (intOf iv).toNat)
  case atStart => exact ⟨0, rfl, Nat.zero_le _, Lib.hid ⟨S3, by rw [Nat.zero_min]; exact HD3.out, HB3.out⟩⟩
  case round =>
    obtain ⟨i, rfl, hi, HH⟩ := hrel
    obtain ⟨S, hd, hb⟩ := HH.out
    have HD := Lib.hid hd
    have HB := Lib.hid hb
    clear HH hd hb HD3 HB3
    by_cases hlt : i < m
    · by_cases c1 : i < n
      · rw [show min i n = i by omega] at HD
        have e1 : decide ((i : Int) < (n : Int)) = true := decide_eq_true (by omega)
        have e3 : decide ((n : Int) ≤ (i : Int)) = false := decide_eq_false (by omega)
        by_cases c2 : i + 1 < n
        · have e2 : decide ((i : Int) + 1 < (n : Int)) = true := decide_eq_true (by omega)
          go_wp2_with (first
            | (go_at_call 15; (with_reducible refine (SN.out _ _ _ (i + 1) c2 HD4.out).mono ?_); rintro e w5 ⟨rfl, S5, hd5, hk5⟩; have HD5 := Lib.hid hd5; have HB5 := Lib.hid (HB4.out.trans (hk5.below HD4.out.ge (Nat.le_of_lt HD4.out.dok.2))); clear hd5 hk5)
            | (go_at_call 13; (with_reducible refine (num_any _ _).mono ?_); rintro e wn ⟨rfl, hwn⟩; subst hwn)
            | (go_at_call 12; (with_reducible refine (AG.out _ _ _ _ i c1 HD.out).mono ?_); rintro e w4 ⟨rfl, S4, hd4, hk4⟩; have HD4 := Lib.hid hd4; have HB4 := Lib.hid ((HB.out.alloc (Nat.le_of_lt HD.out.dok.2) _).trans (hk4.below HD.out.ge (by simp; have := HD.out.dok.2; omega))); clear hd4 hk4))
          go_roundw
          case rel => exact ⟨i + 1, by go_num, by omega, Lib.hid ⟨S5, by rw [show min (i + 1) n = i + 1 by omega]; exact HD5.out, HB5.out⟩⟩
          case measure => simp [intOf]; omega
        · have e2 : decide ((i : Int) + 1 < (n : Int)) = false := decide_eq_false (by omega)
          have hni : i + 1 = n := by omega
          go_wp2_with (first
            | (go_at_call 15; (with_reducible refine (SD.out _ _ _ _ hni HD4.out).mono ?_); rintro e w5 ⟨rfl, S5, hd5, hk5⟩; have HD5 := Lib.hid hd5; have HB5 := Lib.hid (HB4.out.trans (hk5.below HD4.out.ge (Nat.le_of_lt HD4.out.dok.2))); clear hd5 hk5)
            | (go_at_call 13; (with_reducible refine (num_any _ _).mono ?_); rintro e wn ⟨rfl, hwn⟩; subst hwn)
            | (go_at_call 12; (with_reducible refine (AG.out _ _ _ _ i c1 HD.out).mono ?_); rintro e w4 ⟨rfl, S4, hd4, hk4⟩; have HD4 := Lib.hid hd4; have HB4 := Lib.hid ((HB.out.alloc (Nat.le_of_lt HD.out.dok.2) _).trans (hk4.below HD.out.ge (by simp; have := HD.out.dok.2; omega))); clear hd4 hk4))
          go_roundw
          case rel => exact ⟨i + 1, by go_num, by omega, Lib.hid ⟨S5, by rw [show min (i + 1) n = i + 1 by omega]; exact HD5.out, HB5.out⟩⟩
          case measure => simp [intOf]; omega
      · rw [show min i n = n by omega] at HD
        have e1 : decide ((i : Int) < (n : Int)) = false := decide_eq_false (by omega)
        have e3 : decide ((n : Int) ≤ (i : Int)) = true := decide_eq_true (by omega)
        · go_wp2_with (first
            | (go_at_call 15; (with_reducible refine (SD.out _ _ _ _ rfl HD4.out).mono ?_); rintro e w5 ⟨rfl, S5, hd5, hk5⟩; have HD5 := Lib.hid hd5; have HB5 := Lib.hid (HB4.out.trans (hk5.below HD4.out.ge (Nat.le_of_lt HD4.out.dok.2))); clear hd5 hk5)
            | (go_at_call 13; (with_reducible refine (num_any _ _).mono ?_); rintro e wn ⟨rfl, hwn⟩; subst hwn)
            | (go_at_call 12; (with_reducible refine (AD.out _ _ _ _ HD.out).mono ?_); rintro e w4 ⟨rfl, S4, hd4, hk4⟩; have HD4 := Lib.hid hd4; have HB4 := Lib.hid ((HB.out.alloc (Nat.le_of_lt HD.out.dok.2) _).trans (hk4.below HD.out.ge (by simp; have := HD.out.dok.2; omega))); clear hd4 hk4))
          go_roundw
          case rel => exact ⟨i + 1, by go_num, by omega, Lib.hid ⟨S5, by rw [show min (i + 1) n = n by omega]; exact HD5.out, HB5.out⟩⟩
          case measure => simp [intOf]; omega
    · obtain rfl : i = m := by omega
      have HUB : Hid (Below w.heap.size w wr) := Lib.hid (HB0.out.trans (HB.out.mono (by rw [HDE.out]; exact HB0.out.size)))
      by_cases c1 : i < n
      · rw [show min i n = i by omega] at HD
        have e1 : decide ((i : Int) < (n : Int)) = true := decide_eq_true (by omega)
        go_wp2_with (go_at_call 27; (with_reducible refine (UU.out _ _ _ _ HD.out).mono ?_); rintro e w6 ⟨rfl, hw6⟩; subst hw6)
        go_ret
        refine ⟨?_, HUB.out⟩
        show Ending.returned (.bool (1 + (i : Int) == (i : Int) + 1)) = _
        rw [Int.add_comm]; simp
      · rw [show min i n = n by omega] at HD
        have e1 : decide ((i : Int) < (n : Int)) = false := decide_eq_false (by omega)
        go_wp2_with (go_at_call 27; (with_reducible refine (UU.out _ _ _ _ HD.out).mono ?_); rintro e w6 ⟨rfl, hw6⟩; subst hw6)
        go_ret
        refine ⟨?_, HUB.out⟩
        show Ending.returned (.bool (1 + (n : Int) == (n : Int) + 1)) = _
        rw [Int.add_comm]; simp
end Go.Proofs.Ytlpaaaiobclmoaa
