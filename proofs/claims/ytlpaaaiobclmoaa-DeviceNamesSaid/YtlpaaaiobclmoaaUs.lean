/- DeviceSure. -/
import Derived.Test.YtlpaaaiobclmoaaUr
import Derived.Test.YtlpaaaiobclmoaaUo
import Derived.BigQuiet
namespace Go.Proofs.Ytlpaaaiobclmoaa
open Go.RowKit
set_option linter.unusedVariables false
set_option linter.unusedSimpArgs false
set_option maxRecDepth 100000

def Dg.crash (g : Dg) (ps : List Int) : Dg := { g with us := sumD (crashN ps 0 g.L), L := crashN ps 0 g.L, fu := false }
theorem crashL (base D : Nat) (g : Dg) (S : Nat → Prop) (pA : Option Addr) (ps : List Int) (m pc B : Nat) (w : World) (h : DvL w base D g S) (hk : g.ok) (hf : g.L.length ≤ 100000) (hs : ∀ x ∈ g.L, sureOk x) (hus : g.us = sumD g.L)
    (hm : m = ps.length) (hms : m ≤ 100000) (hp : Rd w B pA (ps.map (Value.int .i64))) (hB : B ≤ w.heap.size) (hpA : ∀ a, pA = some a → ¬ S a.block) (hpw : ∀ p ∈ ps, -9223372036854775808 ≤ p ∧ p ≤ 9223372036854775807) :
    Calls Try.prog 23 #[.pointer (some ⟨D, 0, none⟩), .slice pA m pc] w (LeftL base D (g.crash ps) S (.tuple #[]) w) := by
  obtain ⟨d, h1, rfl, e1, e2, e3, e4, e5, rfl⟩ := h
  refine (crash_any base d pA ps m pc B w h1 (by rw [← List.length_map (f := Lf.lg), e5]; exact hf) (fun f hf => hs _ (by rw [← e5]; exact List.mem_map_of_mem hf)) (by rw [e2, e5]; exact hus) (by rw [e2]; exact hk.us.2) hm hms hp hB hpA hpw).mono fun e w' hh => ?_
  obtain ⟨d', ⟨p0, p1, p2⟩, q1, q2, q3, q4, q5, q6⟩ := hh
  exact ⟨p0, _, ⟨d', p1, q1, q2.trans e1, by rw [q3, e5]; rfl, q4, q5.trans e4, by rw [q6, e5]; rfl, rfl⟩, p2⟩
theorem rd_out {w : World} {B base : Nat} {A : Option Addr} {xs : List Value} {S : Nat → Prop} (hr : Rd w B A xs) (hge : ∀ k, S k → base ≤ k) (hB : B ≤ base) (hx : xs ≠ []) : ∀ a, A = some a → ¬ S a.block := fun a ha hs => by
  obtain ⟨b, hb, hlt, _⟩ := hr (List.length_pos_iff.2 hx)
  rw [ha] at hb; injection hb with hb; subst hb
  have := hge _ hs; omega
theorem rd_take {w : World} {B k : Nat} {A : Option Addr} {xs : List Value} (h : Rd w B A xs) : Rd w B A (xs.take k) := fun hp => by
  obtain ⟨a, ha, hb, hc⟩ := h (by rw [List.length_take] at hp; omega)
  refine ⟨a, ha, hb, fun j x hx => hc j x ?_⟩
  rw [List.getElem?_take] at hx
  split at hx
  · exact hx
  · cases hx
def gF (room us : Int) (x : List UInt8) (su : Int) (fu : Bool) : Dg := ⟨room, us, [(⟨#[102]⟩, x, su)], fu, 0⟩
theorem sort_one (x : Lg) : SortG [x] := List.pairwise_singleton _ _
theorem hit_f (x : List UInt8) (su : Int) : hitG [(⟨#[102]⟩, x, su)] ⟨#[102]⟩ = true := first_hit (sort_one (⟨#[102]⟩, x, su))
theorem pos_f (x : List UInt8) (su : Int) : posG [(⟨#[102]⟩, x, su)] ⟨#[102]⟩ = 0 := first_pos (sort_one (⟨#[102]⟩, x, su))
theorem put_new (a : List UInt8) : ((Dg.new 1000).put ⟨#[102]⟩ a).burnt = gF 1000 a.length a 0 false := by
  unfold Dg.put Dg.burnt Dg.new gF
  have e : putL [] ⟨#[102]⟩ a = [(⟨#[102]⟩, a, 0)] := rfl
  simp only [e, Int.zero_add]
  rfl
theorem put_f (room us : Int) (x b : List UInt8) (su : Int) : ((gF room us x su false).put ⟨#[102]⟩ b).burnt = gF room (us + b.length) (x ++ b) su false := by
  unfold Dg.put Dg.burnt gF
  have e : putL [((⟨#[102]⟩ : ByteArray), x, su)] ⟨#[102]⟩ b = [(⟨#[102]⟩, x ++ b, su)] := by
    unfold putL
    rw [hit_f, pos_f]; rfl
  simp only [e]
  rfl
theorem gF_ok (room us : Int) (x : List UInt8) (su : Int) (fu : Bool) (h1 : 0 ≤ us ∧ us ≤ 4611686018427387904) (h2 : 0 ≤ room ∧ room ≤ 9223372036854775807) (h4 : x.length ≤ 2147483648) : (gF room us x su fu).ok :=
  ok_one room us 0 fu (⟨#[102]⟩, x, su) h1 h2 ⟨by decide, by decide⟩ h4
/-- The file behind the crash. -/
theorem crash_f (a b : List UInt8) (p : Int) (q : Nat) (hq : (q : Int) = min (max p 0) b.length) : (gF 1000 ((a.length : Int) + b.length) (a ++ b) a.length true).crash [p] = gF 1000 ((a.length : Int) + q) (a ++ b.take q) ((a.length : Int) + q) false := by
  have hc : crashN [p] 0 [((⟨#[102]⟩ : ByteArray), a ++ b, (a.length : Int))] = [(⟨#[102]⟩, a ++ b.take q, (a.length : Int) + q)] := by
    have e1 : cutE p ((⟨#[102]⟩ : ByteArray), a ++ b, (a.length : Int)) = (a.length : Int) + q := by
      unfold cutE
      show (a.length : Int) + min (max p 0) (((a ++ b).length : Int) - a.length) = _
      rw [List.length_append]
      omega
    have e2 : ((a.length : Int) + q).toNat = a.length + q := by omega
    show [crashX p _] = _
    unfold crashX
    rw [e1, e2]
    show [((⟨#[102]⟩ : ByteArray), (a ++ b).take (a.length + q), _)] = _
    rw [List.take_length_add_append]
  unfold Dg.crash gF
  simp only [hc]
  have hs : sumD [((⟨#[102]⟩ : ByteArray), a ++ b.take q, (a.length : Int) + q)] = (a.length : Int) + q := by
    unfold sumD
    simp
    omega
  rw [hs]
set_option maxHeartbeats 8000000 in
theorem sure6 (aA : Option Addr) (a : List UInt8) (n ac : Nat) (bA : Option Addr) (b : List UInt8) (m bc : Nat) (p : Int) (w : World) (hn : n = a.length) (ha : Rd w w.heap.size aA (a.map B8)) (hnc : n ≤ ac) (hac : ac ≤ maxLen) (hm : m = b.length) (hb : Rd w w.heap.size bA (b.map B8)) (hmc : m ≤ bc) (hbc : bc ≤ maxLen) (hp : -9223372036854775808 ≤ p ∧ p ≤ 9223372036854775807) :
    Calls Try.prog 4 #[.slice aA n ac, .slice bA m bc, .int .i64 p] w fun e w' => e = .returned (.bool true) ∧ Below w.heap.size w w' := by
  have HN := Lib.hid hn
  have HM := Lib.hid hm
  have HA := Lib.hid ha
  have HBR := Lib.hid hb
  simp only [maxLen] at hac hbc
  clear hn hm ha hb
  by_cases h1 : 200 < n
  · have d1 : decide ((200 : Int) < (n : Int)) = true := decide_eq_true (by omega)
    go_enter Try.func4, Try.ntmps4
    go_wp2_with (go_at_call 8; (with_reducible refine (alive6_calls _).mono ?_); rintro e w0 ⟨rfl, hb0⟩; have HB0 := Lib.hid hb0; clear hb0)
    go_ret
    exact ⟨rfl, HB0.out⟩
  have d1 : decide ((200 : Int) < (n : Int)) = false := decide_eq_false (by omega)
  by_cases h2 : 200 < m
  · have d2 : decide ((200 : Int) < (m : Int)) = true := decide_eq_true (by omega)
    go_enter Try.func4, Try.ntmps4
    go_wp2_with (go_at_call 8; (with_reducible refine (alive6_calls _).mono ?_); rintro e w0 ⟨rfl, hb0⟩; have HB0 := Lib.hid hb0; clear hb0)
    go_ret
    exact ⟨rfl, HB0.out⟩
  have d2 : decide ((200 : Int) < (m : Int)) = false := decide_eq_false (by omega)
  have hn2 : n ≤ 200 := by omega
  have hm2 : m ≤ 200 := by omega
  clear h1 h2
  obtain ⟨x, hx⟩ : ∃ x : Nat, (x : Int) = max p 0 := ⟨(max p 0).toNat, by omega⟩
  obtain ⟨q, hq⟩ : ∃ q : Nat, (q : Int) = min (x : Int) m := ⟨min x m, by omega⟩
  have hqm : q ≤ m := by omega
  have NW := Lib.hid (fun W => newL 1000 1000 W (by decide) ⟨by decide, by decide⟩)
  go_enter Try.func4, Try.ntmps4
  go_upto_region 5 with (first
    | (go_at_call 10; (with_reducible refine (NW.out _).mono ?_); rintro e w1 ⟨rfl, ⟨S1, hd1⟩, hb1⟩; have HD1 := Lib.hid hd1; have HB1 := Lib.hid hb1; clear hd1 hb1)
    | (go_at_call 8; (with_reducible refine (alive6_calls _).mono ?_); rintro e w0 ⟨rfl, hb0⟩; have HB0 := Lib.hid hb0; clear hb0))
  clear d1 d2
  obtain ⟨D, hD⟩ : ∃ D, D = w0.heap.size := ⟨_, rfl⟩
  have HDE := Lib.hid hD
  rw [← hD] at HD1 HB1 ⊢
  clear hD NW
  have BW : Hid (∀ W, Below D w0 W → Below w.heap.size w W ∧ w.heap.size ≤ D) := Lib.hid (fun W h => ⟨HB0.out.trans (h.mono (by rw [HDE.out]; exact HB0.out.size)), by rw [HDE.out]; exact HB0.out.size⟩)
  have LA : Hid (a.length = n ∧ b.length = m) := Lib.hid ⟨HN.out.symm, HM.out.symm⟩
  have A1 : Hid (∀ W S, DvL W D D (Dg.new 1000) S → Below D w0 W → Calls Try.prog 12 #[.pointer (some ⟨D, 0, none⟩), .string ⟨#[102]⟩, .slice aA n ac] W (LeftL D D (gF 1000 n a 0 false) S (.int .i64 0) W)) := Lib.hid (fun W S h hb => by
    obtain ⟨b1, b2⟩ := BW.out W hb
    have k := appendL D D (Dg.new 1000) S ⟨#[102]⟩ aA a n ac w.heap.size W h (ok_none _ _ _ _ ⟨by decide, by decide⟩ ⟨by decide, by decide⟩ ⟨by decide, by decide⟩) rfl (by decide +kernel) (by show (n : Int) ≤ 1000 - 0; omega) HN.out (HA.out.below b1) b1.size (fun hne => rd_out (HA.out.below b1) h.ge b2 (by simpa using hne)) (by rw [LA.out.1]; omega)
    rw [put_new, LA.out.1] at k
    exact k)
  have Y2 : Hid (∀ W S, DvL W D D (gF 1000 n a 0 false) S → Calls Try.prog 15 #[.pointer (some ⟨D, 0, none⟩), .string ⟨#[102]⟩] W (LeftL D D (gF 1000 n a n false) S (.int .i64 0) W)) := Lib.hid (fun W S h => by
    have k := sync_hitL D D (gF 1000 n a 0 false) S ⟨#[102]⟩ 0 (⟨#[102]⟩, a, 0) W h (gF_ok _ _ _ _ _ ⟨by omega, by omega⟩ ⟨by decide, by decide⟩ (by rw [LA.out.1]; omega)) rfl (hit_f _ _) (pos_f _ _) rfl
    have e : ((gF 1000 n a 0 false).synced 0 (⟨#[102]⟩, a, 0)).burnt = gF 1000 n a n false := by
      unfold Dg.synced Dg.burnt gF
      simp only [List.set_cons_zero, LA.out.1]
      rfl
    rw [e] at k
    exact k)
  have A3 : Hid (∀ W S, DvL W D D (gF 1000 n a n false) S → Below D w0 W → Calls Try.prog 12 #[.pointer (some ⟨D, 0, none⟩), .string ⟨#[102]⟩, .slice bA m bc] W (LeftL D D (gF 1000 ((n : Int) + m) (a ++ b) n false) S (.int .i64 0) W)) := Lib.hid (fun W S h hb => by
    obtain ⟨b1, b2⟩ := BW.out W hb
    have k := appendL D D (gF 1000 n a n false) S ⟨#[102]⟩ bA b m bc w.heap.size W h (gF_ok _ _ _ _ _ ⟨by omega, by omega⟩ ⟨by decide, by decide⟩ (by rw [LA.out.1]; omega)) rfl (by decide +kernel) (by show (m : Int) ≤ 1000 - (n : Int); omega) HM.out (HBR.out.below b1) b1.size (fun hne => rd_out (HBR.out.below b1) h.ge b2 (by simpa using hne)) (by rw [LA.out.2]; omega)
    rw [put_f, LA.out.2] at k
    exact k)
  have F4 : Hid (∀ W S, DvL W D D (gF 1000 ((n : Int) + m) (a ++ b) n false) S → Calls Try.prog 21 #[.pointer (some ⟨D, 0, none⟩), .int .i64 0] W (LeftL D D (gF 1000 ((n : Int) + m) (a ++ b) n true) S (.tuple #[]) W)) := Lib.hid (fun W S h => fuseL D D _ S 0 W h)
  have A5 : Hid (∀ W S C fr, DvL W D D (gF 1000 ((n : Int) + m) (a ++ b) n true) S → Calls Try.prog 12 #[.pointer (some ⟨D, 0, none⟩), .string ⟨#[102]⟩, .slice (some ⟨W.heap.size, 0, none⟩) 1 1] (W.alloc (.cells C 5 fr)) (LeftL D D (gF 1000 ((n : Int) + m) (a ++ b) n true) S (.int .i64 5) (W.alloc (.cells C 5 fr)))) := Lib.hid (fun W S C fr h => append_deadL D D _ S ⟨#[102]⟩ _ 1 1 _ (h.below ((Below.refl _ _).alloc (Nat.le_refl _) _)) rfl)
  have C6 : Hid (∀ W S fr, DvL W D D (gF 1000 ((n : Int) + m) (a ++ b) n true) S → Calls Try.prog 23 #[.pointer (some ⟨D, 0, none⟩), .slice (some ⟨W.heap.size, 0, none⟩) 1 1] (W.alloc (.cells #[.int .i64 p] 3 fr)) (LeftL D D (gF 1000 ((n : Int) + q) (a ++ b.take q) ((n : Int) + q) false) S (.tuple #[]) (W.alloc (.cells #[.int .i64 p] 3 fr)))) := Lib.hid (fun W S fr h => by
    have k := crashL D D (gF 1000 ((n : Int) + m) (a ++ b) n true) S (some ⟨W.heap.size, 0, none⟩) [p] 1 1 (W.heap.size + 1) (W.alloc (.cells #[.int .i64 p] 3 fr)) (h.below ((Below.refl _ _).alloc (Nat.le_refl _) _)) (gF_ok _ _ _ _ _ ⟨by omega, by omega⟩ ⟨by decide, by decide⟩ (by rw [List.length_append, LA.out.1, LA.out.2]; omega)) (by show 1 ≤ 100000; decide)
      (fun x hx => by
        rw [show (gF 1000 ((n : Int) + m) (a ++ b) n true).L = [((⟨#[102]⟩ : ByteArray), a ++ b, (n : Int))] from rfl] at hx
        rw [List.mem_singleton] at hx
        subst hx
        refine ⟨by show (0 : Int) ≤ n; omega, ?_⟩
        show (n : Int) ≤ ((a ++ b).length : Int)
        rw [List.length_append, LA.out.1]; omega)
      (by show (n : Int) + m = sumD [((⟨#[102]⟩ : ByteArray), a ++ b, (n : Int))]; unfold sumD; simp [LA.out.1, LA.out.2])
      rfl (by decide) (by have := Rd.litm W #[Value.int .i64 p] 3 fr; simpa using this) (by simp) (fun x hx hs => by injection hx with hx; subst hx; have := h.lt _ hs; simp at this) (fun y hy => by rw [List.mem_singleton] at hy; subst hy; exact hp)
    have e := crash_f a b p q (by rw [LA.out.2]; omega)
    rw [LA.out.1, LA.out.2] at e
    rw [e] at k
    exact k)
  have R7 : Hid (∀ W S, DvL W D D (gF 1000 ((n : Int) + q) (a ++ b.take q) ((n : Int) + q) false) S → Calls Try.prog 25 #[.pointer (some ⟨D, 0, none⟩), .string ⟨#[102]⟩] W (ReadOf (a ++ b.take q) W)) := Lib.hid (fun W S h => read_hitL D D _ S ⟨#[102]⟩ 0 (⟨#[102]⟩, a ++ b.take q, (n : Int) + q) W h (gF_ok _ _ _ _ _ ⟨by omega, by omega⟩ ⟨by decide, by decide⟩ (by rw [List.length_append, List.length_take, LA.out.1, LA.out.2]; omega)) (hit_f _ _) (pos_f _ _) rfl)
  have F8 : Hid (∀ W S, DvL W D D (gF 1000 ((n : Int) + q) (a ++ b.take q) ((n : Int) + q) false) S → Calls Try.prog 32 #[.pointer (some ⟨D, 0, none⟩)] W (FilesOf [(⟨#[102]⟩, a ++ b.take q, (n : Int) + q)] W)) := Lib.hid (fun W S h => filesL D D _ S W h (gF_ok _ _ _ _ _ ⟨by omega, by omega⟩ ⟨by decide, by decide⟩ (by rw [List.length_append, List.length_take, LA.out.1, LA.out.2]; omega)) (by show 1 ≤ _; decide))
  have A9 : Hid (∀ W S, DvL W D D (gF 1000 ((n : Int) + q) (a ++ b.take q) ((n : Int) + q) false) S → ∃ g, Calls Try.prog 12 #[.pointer (some ⟨D, 0, none⟩), .string ⟨#[102]⟩, .slice none 0 0] W (LeftL D D g S (.int .i64 0) W)) := Lib.hid (fun W S h => ⟨_, appendL D D _ S ⟨#[102]⟩ none [] 0 0 0 W h (gF_ok _ _ _ _ _ ⟨by omega, by omega⟩ ⟨by decide, by decide⟩ (by rw [List.length_append, List.length_take, LA.out.1, LA.out.2]; omega)) rfl (by decide +kernel) (by show (0 : Int) ≤ 1000 - ((n : Int) + q); omega) rfl (fun h => absurd h (by simp)) (Nat.zero_le _) (fun h => absurd rfl h) (by decide)⟩)
  go_upto_region 8 with (go_at_call 12; (with_reducible refine (A1.out _ _ HD1.out HB1.out).mono ?_); rintro e w2 ⟨rfl, S2, hd, hk⟩; have HD2 := Lib.hid hd; have HB2 := Lib.hid (HB1.out.trans (hk.below HD1.out.ge (Nat.le_of_lt HD1.out.dok.2))); clear hd hk)
  clear HD1 A1
  go_upto_region 9 with (go_at_call 15; (with_reducible refine (Y2.out _ _ HD2.out).mono ?_); rintro e w3 ⟨rfl, S3, hd, hk⟩; have HD3 := Lib.hid hd; have HB3 := Lib.hid (HB2.out.trans (hk.below HD2.out.ge (Nat.le_of_lt HD2.out.dok.2))); clear hd hk)
  clear HD2 Y2
  go_upto_region 10 with (go_at_call 12; (with_reducible refine (A3.out _ _ HD3.out HB3.out).mono ?_); rintro e w4 ⟨rfl, S4, hd, hk⟩; have HD4 := Lib.hid hd; have HB4 := Lib.hid (HB3.out.trans (hk.below HD3.out.ge (Nat.le_of_lt HD3.out.dok.2))); clear hd hk)
  clear HD3 A3
  go_upto_region 11 with (go_at_call 21; (with_reducible refine (F4.out _ _ HD4.out).mono ?_); rintro e w5 ⟨rfl, S5, hd, hk⟩; have HD5 := Lib.hid hd; have HB5 := Lib.hid (HB4.out.trans (hk.below HD4.out.ge (Nat.le_of_lt HD4.out.dok.2))); clear hd hk)
  clear HD4 F4
  have kc := fun (w : World) (C : Array Value) (n c : Nat) => Lib.run_convert_bytes_const (P := Try.prog) w 29 5 C n c Try.underlying29 Try.underlying5
  go_upto_region 12 with (go_at_call 12; (with_reducible refine (A5.out _ _ _ _ HD5.out).mono ?_); rintro e w6 ⟨rfl, S6, hd, hk⟩; have HD6 := Lib.hid hd; have HB6 := Lib.hid ((HB5.out.alloc (Nat.le_of_lt HD5.out.dok.2) _).trans (hk.below HD5.out.ge (by simp; have := HD5.out.dok.2; omega))); clear hd hk)
  clear HD5 A5 kc
  go_upto_region 13 with (go_at_call 23; (with_reducible refine (C6.out _ _ _ HD6.out).mono ?_); rintro e w7 ⟨rfl, S7, hd, hk⟩; have HD7 := Lib.hid hd; have HB7 := Lib.hid ((HB6.out.alloc (Nat.le_of_lt HD6.out.dok.2) _).trans (hk.below HD6.out.ge (by simp; have := HD6.out.dok.2; omega))); clear hd hk)
  clear HD6 C6
  go_upto_if 52 with fail
  go_cut [10] (fun v10 wx => v10 = .int .i64 (x : Int) ∧ w7 = wx)
  case first =>
    by_cases hp0 : p < 0
    · have d3 : decide (p < 0) = true := decide_eq_true hp0
      go_wp2_with fail
      go_meet
      refine ⟨?_, rfl⟩
      have : (x : Int) = 0 := by omega
      rw [this]
    · have d3 : decide (p < 0) = false := decide_eq_false hp0
      go_wp2_with fail
      go_meet
      refine ⟨?_, rfl⟩
      have : (x : Int) = p := by omega
      rw [this]
  case rest =>
    obtain ⟨rfl, rfl⟩ := hcut
    go_upto_if 56 with fail
    go_cut [10] (fun v10 wx => v10 = .int .i64 (q : Int) ∧ w7 = wx)
    case first =>
      by_cases hp0 : m < x
      · have d3 : decide ((m : Int) < (x : Int)) = true := decide_eq_true (by omega)
        go_wp2_with fail
        go_meet
        refine ⟨?_, rfl⟩
        have : (q : Int) = m := by omega
        rw [this]
      · have d3 : decide ((m : Int) < (x : Int)) = false := decide_eq_false (by omega)
        go_wp2_with fail
        go_meet
        refine ⟨?_, rfl⟩
        have : (q : Int) = x := by omega
        rw [this]
    case rest =>
      obtain ⟨rfl, rfl⟩ := hcut
      obtain ⟨G, hG⟩ : ∃ G, G = a ++ b.take q := ⟨_, rfl⟩
      have HG := Lib.hid hG
      have hGL : G.length = n + q := by rw [hG, List.length_append, List.length_take, LA.out.1, LA.out.2]; omega
      rw [← hG] at HD7 R7 F8 A9
      have HQ := Lib.hid hq
      clear hG hx hq
      obtain ⟨l, hl⟩ : ∃ l, l = n + q := ⟨_, rfl⟩
      rw [← hl] at hGL
      have HGL := Lib.hid hGL
      have HL := Lib.hid hl
      have hl4 : l ≤ 400 := by omega
      clear hl
      go_upto_region 19 with (go_at_call 25; (with_reducible refine (R7.out _ _ HD7.out).mono ?_); rintro e w8 ⟨A8, c8, rfl, ho8, hb8⟩; have HR8 : Hid (Rd w8 w8.heap.size A8 (G.map B8)) := Lib.hid (Rd.of_own ho8); have HN8 := Lib.hid (fun (a : Addr) (ha : A8 = some a) (hs : S7 a.block) => (by have h1 := own_block_ge ho8 a.block (by rw [ha]; simp [Value.ownBlock]); have h2 := HD7.out.lt _ hs; omega : False)); have HD8 := Lib.hid (HD7.out.below hb8); have HB8 := Lib.hid (HB7.out.trans (hb8.mono (Nat.le_of_lt HD7.out.dok.2))); clear ho8 hb8)
      clear HD7 R7
      go_upto_region 20 with (go_at_call 32; (with_reducible refine (F8.out _ _ HD8.out).mono ?_); rintro e w9 ⟨v9, l9, rfl, hf9, hl9, hb9⟩; obtain ⟨y, rfl, hy⟩ := List.map_eq_singleton_iff.1 hl9; obtain ⟨g9, c9, hv9⟩ : ∃ g c, v9 = .slice (some ⟨g, 0, none⟩) 1 c := (by rcases hf9.own.2 with ⟨_, h0⟩ | ⟨g, cap, cur, hv, _⟩; exact absurd h0 (by simp); exact ⟨g, cap, hv⟩); subst hv9; have HY := Lib.hid hy; have HR9 := Lib.hid (Rd.of_own hf9.own); have HN9 := Lib.hid (fun (a : Addr) (ha : some (⟨g9, 0, none⟩ : Addr) = some a) (hs : S7 a.block) => (by have h1 := own_block_ge hf9.own a.block (by injection ha with ha; subst ha; simp [Value.ownBlock]); have h2 := HD8.out.lt _ hs; omega : False)); have HD9 := Lib.hid (HD8.out.below hb9); have HBB9 := Lib.hid hb9; have HB9 := Lib.hid (HB8.out.trans (hb9.mono (Nat.le_of_lt HD8.out.dok.2))); clear hf9 hl9 hb9 hy)
      clear F8
      obtain ⟨gg, kg⟩ := A9.out _ _ HD9.out
      have KG := Lib.hid kg
      clear kg A9
      go_upto_region 21 with (go_at_call 12; (with_reducible refine KG.out.mono ?_); rintro e w10 ⟨rfl, S10, hd, hk⟩; have HK := Lib.hid hk; have HB10 := Lib.hid (HB9.out.trans (hk.below HD9.out.ge (Nat.le_of_lt HD9.out.dok.2))); clear hd hk)
      clear KG HD9
      obtain ⟨z1, z2⟩ := BW.out _ HB10.out
      have x2 : w10.cell? ⟨g9, 2, none⟩ = some (.int .i64 (l : Int)) := by
        have hr := HK.out.rd HR9.out (Nat.le_refl _) (fun _ => HN9.out)
        obtain ⟨a9, ha9, _, _, _, hx⟩ := file_cells hr (k := 0) (e := y) rfl _ rfl
        injection ha9 with ha9
        subst ha9
        have hsu : y.su = (l : Int) := by
          have h1 : y.su = (n : Int) + q := congrArg (fun t => t.2.2) HY.out
          rw [h1, HL.out]; omega
        rw [hsu] at hx
        rw [Addr.add_lit] at hx
        exact hx
      have R8 := HK.out.rd (HR8.out.below HBB9.out) HBB9.out.size (fun _ => HN8.out)
      have RA := HA.out.below z1
      have RB := rd_take (k := q) (HBR.out.below z1)
      rw [← List.map_take] at RB
      have hqb : bA = none → m = 0 := fun e => by
        have h0 := HBR.out
        rw [HM.out]
        rcases b with _ | ⟨c, r⟩
        · rfl
        · obtain ⟨t, ht, _⟩ := h0 (by simp)
          rw [e] at ht; cases ht
      have K1 : ∀ k, (convert 29 9 (.slice A8 l c8)).run Try.prog (w10.drewN k) = .ok (.string (S8 G)) (w10.drewN k) := fun k => run_str (P := Try.prog) 29 5 9 Try.underlying29 Try.underlying5 Try.underlying9 (w := w10.drewN k) (show Rd (w10.drewN k) _ A8 (G.map B8) from R8) l c8 HGL.out.symm
      have K2 : ∀ k, (convert 29 9 (.slice aA n ac)).run Try.prog (w10.drewN k) = .ok (.string (S8 a)) (w10.drewN k) := fun k => run_str (P := Try.prog) 29 5 9 Try.underlying29 Try.underlying5 Try.underlying9 (w := w10.drewN k) (show Rd (w10.drewN k) _ aA (a.map B8) from RA) n ac HN.out
      have K3 : ∀ cc k, (convert 29 9 (.slice bA q cc)).run Try.prog (w10.drewN k) = .ok (.string (S8 (b.take q))) (w10.drewN k) := fun cc k => run_str (P := Try.prog) 29 5 9 Try.underlying29 Try.underlying5 Try.underlying9 (w := w10.drewN k) (show Rd (w10.drewN k) _ bA ((b.take q).map B8) from RB) q cc (by rw [List.length_take, LA.out.2]; omega)
      have K4 : ∀ W, (Op.stringOp .add (S8 a) (S8 (b.take q))).run Try.prog W = .ok (.string (S8 G)) W := fun W => by
        have h := run_string_add_sum (P := Try.prog) W (S8 a) (S8 (b.take q)) (by
          show (S8 a).data.size + (S8 (b.take q)).data.size ≤ _
          unfold S8
          simp only [List.size_toArray, List.length_take, LA.out.1, LA.out.2]; omega)
        rw [h, HG.out]
        unfold S8
        rw [ByteArray.mk_append_mk]
      clear R8 RA RB HK HR8 HR9 HN8 HN9 HY HBB9
      generalize S8 G = SG at *
      generalize S8 a = SA at *
      generalize S8 (b.take q) = SB at *
      cases hbA : bA with
      | none =>
        have hm0 := hqb hbA
        have hq0 : q = 0 := by omega
        subst hm0
        subst hq0
        rw [hbA] at K3
        go_quiet ((go_at_call 13; with_reducible exact Calls.quiet_of_same (num_any _ _)))
        go_wp2_with fail
        go_ret
        exact ⟨rfl, z1.trans ⟨rfl, rfl, rfl, Nat.le_refl _, fun _ _ => rfl⟩⟩
      | some ba =>
        rw [hbA] at K3
        go_quiet ((go_at_call 13; with_reducible exact Calls.quiet_of_same (num_any _ _)))
        go_wp2_with fail
        go_ret
        exact ⟨rfl, z1.trans ⟨rfl, rfl, rfl, Nat.le_refl _, fun _ _ => rfl⟩⟩
end Go.Proofs.Ytlpaaaiobclmoaa
