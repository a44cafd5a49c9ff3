/- ShelfWhole. -/
import Derived.Test.YtbdiamhhlabojaaDoorHc
namespace Go.Proofs.YtbdiamhhlabojaaDoor
open Go.RowKit
set_option linter.unusedVariables false
set_option linter.unusedSimpArgs false
set_option maxRecDepth 100000

def PutOut (D : Nat) (A : Option (List UInt8)) (b : List UInt8) (S : Nat → Prop) (w : World) (e : Ending) (w' : World) : Prop :=
  ∃ (er us lf : Int) (A' : Option (List UInt8)) (B' : Option (List UInt8 × Int)), e = .returned (.int .i64 er) ∧ (∃ S', DvL w' D D (gS ⟨#[102]⟩ ⟨#[102, 46, 116, 109, 112]⟩ 1000 us true lf A' B') S' ∧ Kept w w' S S') ∧ us = (bytA A' : Int) + bytB B' ∧ okB B' ∧ bytA A' ≤ 300 ∧ bytB B' ≤ 300 ∧ (0 ≤ lf ∧ lf ≤ 6) ∧ ((er = 0 ∧ A' = some b) ∨ (er = 5 ∧ A' = A))
theorem put_fused (D : Nat) (us : Int) (A : Option (List UInt8)) (bA : Option Addr) (b : List UInt8) (m bc B : Nat) (S : Nat → Prop) (w : World) (k : Int) (hk : 0 ≤ k ∧ k ≤ 6) (hus : us = (bytA A : Int)) (hA : bytA A ≤ 300) (hm : m = b.length) (hm3 : m ≤ 300) (hr : us + (b.length : Int) ≤ 1000) (hbr : Rd w B bA (b.map B8)) (hB : B ≤ w.heap.size) (hbA : b ≠ [] → ∀ a, bA = some a → ¬ S a.block) (h : DvL w D D (gS ⟨#[102]⟩ ⟨#[102, 46, 116, 109, 112]⟩ 1000 us true k A none) S) :
    Calls Tryd.prog 30 #[.pointer (some ⟨D, 0, none⟩), .string ⟨#[102]⟩, .slice bA m bc] w (PutOut D A b S w) := by
  have hc : ∀ W, (Op.stringOp .add ⟨#[102]⟩ ⟨#[46, 116, 109, 112]⟩).run Tryd.prog W = .ok (.string ⟨#[102, 46, 116, 109, 112]⟩) W := (fun W => by rw [run_string_add_sum (P := Tryd.prog) W _ _ (by decide)]; rfl)
  have hk4 : k = 0 ∨ k = 1 ∨ k = 2 ∨ 3 ≤ k := by omega
  rcases hk4 with rfl | rfl | rfl | h3
  · exact (put_dead pr_f D 1000 us A bA b m bc B S w hus hA hm hm3 ⟨hr, by decide⟩ hbr hB hbA hc h).mono fun e w' hh => ⟨5, us, 0, A, none, hh.1, hh.2, by rw [hus]; simp [bytB], (fun y hy => by cases hy), hA, by simp [bytB], by decide, .inr ⟨rfl, rfl⟩⟩
  · exact (put_one pr_f D 1000 us A bA b m bc B S w hus hA hm hm3 ⟨hr, by decide⟩ hbr hB hbA hc h).mono fun e w' hh => ⟨5, us + b.length, 0, A, some (b, 0), hh.1, hh.2, by rw [hus]; rfl, (fun y hy => by injection hy with hy; subst hy; exact ⟨by show (0 : Int) ≤ 0; decide, by show (0 : Int) ≤ (b.length : Int); omega⟩), hA, by show b.length ≤ _; omega, by decide, .inr ⟨rfl, rfl⟩⟩
  · exact (put_two pr_f D 1000 us A bA b m bc B S w hus hA hm hm3 ⟨hr, by decide⟩ hbr hB hbA hc h).mono fun e w' hh => ⟨5, us + b.length, 0, A, some (b, (b.length : Int)), hh.1, hh.2, by rw [hus]; rfl, (fun y hy => by injection hy with hy; subst hy; exact ⟨by show (0 : Int) ≤ (b.length : Int); omega, by show (b.length : Int) ≤ (b.length : Int); omega⟩), hA, by show b.length ≤ _; omega, by decide, .inr ⟨rfl, rfl⟩⟩
  · exact (put_done pr_f D 1000 us A bA b m bc B S w hus hA hm hm3 ⟨hr, by decide⟩ hbr hB hbA hc k ⟨h3, by omega⟩ h).mono fun e w' hh => ⟨0, (b.length : Int), k - 1 - 1 - 1, some b, none, hh.1, hh.2, by simp [bytA, bytB], (fun y hy => by cases hy), by show b.length ≤ _; omega, by simp [bytB], by omega, .inl ⟨rfl, rfl⟩⟩
def CutOut (D : Nat) (lf : Int) (A' : Option (List UInt8)) (S : Nat → Prop) (w : World) (e : Ending) (w' : World) : Prop :=
  ∃ (us : Int) (B' : Option (List UInt8 × Int)), LeftL D D (gS ⟨#[102]⟩ ⟨#[102, 46, 116, 109, 112]⟩ 1000 us false lf A' B') S (.tuple #[]) w e w' ∧ bytB B' ≤ 300 ∧ us = (bytA A' : Int) + bytB B'
theorem crash_gS (D : Nat) (us lf : Int) (A' : Option (List UInt8)) (B' : Option (List UInt8 × Int)) (pA : Option Addr) (ps : List Int) (m pc B : Nat) (S : Nat → Prop) (w : World) (e1 : us = (bytA A' : Int) + bytB B') (e2 : okB B') (e3 : bytA A' ≤ 300) (e4 : bytB B' ≤ 300) (e5 : 0 ≤ lf ∧ lf ≤ 6)
    (hm : m = ps.length) (hms : m ≤ 100000) (hp : Rd w B pA (ps.map (Value.int .i64))) (hB : B ≤ w.heap.size) (hpA : ∀ a, pA = some a → ¬ S a.block) (hpw : ∀ p ∈ ps, -9223372036854775808 ≤ p ∧ p ≤ 9223372036854775807) (h : DvL w D D (gS ⟨#[102]⟩ ⟨#[102, 46, 116, 109, 112]⟩ 1000 us true lf A' B') S) :
    Calls Tryd.prog 15 #[.pointer (some ⟨D, 0, none⟩), .slice pA m pc] w (CutOut D lf A' S w) := by
  obtain ⟨B2, hB2, hle⟩ := crash_s pr_f ps A' B' e2
  refine (crashL D D _ S pA ps m pc B w h (gS_ok pr_f _ _ _ _ _ _ ⟨by omega, by omega⟩ ⟨by omega, by omega⟩ ⟨by omega, by omega⟩ (by omega) (by omega)) (Nat.le_trans (shL_len _ _ A' B') (by decide)) (sure_s pr_f e2) (by show us = sumD (shL _ _ A' B'); rw [sum_s pr_f]; exact e1) hm hms hp hB hpA hpw).mono fun e w' hh => ?_
  refine ⟨(bytA A' : Int) + bytB B2, B2, ?_, by omega, rfl⟩
  have e : (gS ⟨#[102]⟩ ⟨#[102, 46, 116, 109, 112]⟩ 1000 us true lf A' B').crash ps = gS ⟨#[102]⟩ ⟨#[102, 46, 116, 109, 112]⟩ 1000 ((bytA A' : Int) + bytB B2) false lf A' B2 := by
    unfold Dg.crash gS
    simp only [hB2, sum_s pr_f]
  rw [e] at hh
  exact hh
set_option maxHeartbeats 8000000 in
theorem whole24t (aA : Option Addr) (a : List UInt8) (n ac : Nat) (bA : Option Addr) (b : List UInt8) (m bc : Nat) (k p : Int) (w : World) (hn : n = a.length) (ha : Rd w w.heap.size aA (a.map B8)) (hac : n ≤ maxLen) (hm : m = b.length) (hb : Rd w w.heap.size bA (b.map B8)) (hbc : m ≤ maxLen) (hp : -9223372036854775808 ≤ p ∧ p ≤ 9223372036854775807) :
    Calls Tryd.prog 7 #[.slice aA n ac, .slice bA m bc, .bool true, .int .i64 k, .int .i64 p] w fun e w' => e = .returned (.bool true) ∧ Below w.heap.size w w' := by
  have HN := Lib.hid hn
  have HM := Lib.hid hm
  have HA := Lib.hid ha
  have HBR := Lib.hid hb
  simp only [maxLen] at hac hbc
  clear hn hm ha hb
  by_cases h1 : 200 < n
  · have d1 : decide ((200 : Int) < (n : Int)) = true := decide_eq_true (by omega)
    go_enter Tryd.func7, Tryd.ntmps7
    go_wp2_with (go_at_call 24; (with_reducible refine (alive24_calls _).mono ?_); rintro e w0 ⟨rfl, hb0⟩; have HB0 := Lib.hid hb0; clear hb0)
    go_ret
    exact ⟨rfl, HB0.out⟩
  have d1 : decide ((200 : Int) < (n : Int)) = false := decide_eq_false (by omega)
  by_cases h2 : 200 < m
  · have d2 : decide ((200 : Int) < (m : Int)) = true := decide_eq_true (by omega)
    go_enter Tryd.func7, Tryd.ntmps7
    go_wp2_with (go_at_call 24; (with_reducible refine (alive24_calls _).mono ?_); rintro e w0 ⟨rfl, hb0⟩; have HB0 := Lib.hid hb0; clear hb0)
    go_ret
    exact ⟨rfl, HB0.out⟩
  have d2 : decide ((200 : Int) < (m : Int)) = false := decide_eq_false (by omega)
  by_cases h3 : k < 0
  · have d3 : decide (k < 0) = true := decide_eq_true h3
    go_enter Tryd.func7, Tryd.ntmps7
    go_wp2_with (go_at_call 24; (with_reducible refine (alive24_calls _).mono ?_); rintro e w0 ⟨rfl, hb0⟩; have HB0 := Lib.hid hb0; clear hb0)
    go_ret
    exact ⟨rfl, HB0.out⟩
  have d3 : decide (k < 0) = false := decide_eq_false h3
  by_cases h4 : 6 < k
  · have d4 : decide (6 < k) = true := decide_eq_true h4
    go_enter Tryd.func7, Tryd.ntmps7
    go_wp2_with (go_at_call 24; (with_reducible refine (alive24_calls _).mono ?_); rintro e w0 ⟨rfl, hb0⟩; have HB0 := Lib.hid hb0; clear hb0)
    go_ret
    exact ⟨rfl, HB0.out⟩
  have d4 : decide (6 < k) = false := decide_eq_false h4
  have hn2 : n ≤ 200 := by omega
  have hm2 : m ≤ 200 := by omega
  have HKB : Hid (0 ≤ k ∧ k ≤ 6) := Lib.hid (by omega)
  have HPB := Lib.hid hp
  clear h1 h2 h3 h4 hp
  have NW : Hid (∀ W, Calls Tryd.prog 10 #[.int .i64 1000] W fun e w' => e = .returned (.pointer (some ⟨W.heap.size, 0, none⟩)) ∧ (∃ S, DvL w' W.heap.size W.heap.size (gS ⟨#[102]⟩ ⟨#[102, 46, 116, 109, 112]⟩ 1000 0 false 0 none none) S) ∧ Below W.heap.size W w') := Lib.hid (fun W => newL 1000 1000 W (by decide) ⟨by decide, by decide⟩)
  go_enter Tryd.func7, Tryd.ntmps7
  go_upto_region 5 with (first
    | (go_at_call 10; (with_reducible refine (NW.out _).mono ?_); rintro e w1 ⟨rfl, ⟨S1, hd1⟩, hb1⟩; have HD1 := Lib.hid hd1; have HB1 := Lib.hid hb1; clear hd1 hb1)
    | (go_at_call 24; (with_reducible refine (alive24_calls _).mono ?_); rintro e w0 ⟨rfl, hb0⟩; have HB0 := Lib.hid hb0; clear hb0))
  clear d1 d2 d3 d4
  obtain ⟨D, hD⟩ : ∃ D, D = w0.heap.size := ⟨_, rfl⟩
  have HDE := Lib.hid hD
  rw [← hD] at HD1 HB1 ⊢
  clear hD NW
  have BW : Hid (∀ W, Below D w0 W → Below w.heap.size w W ∧ w.heap.size ≤ D) := Lib.hid (fun W h => ⟨HB0.out.trans (h.mono (by rw [HDE.out]; exact HB0.out.size)), by rw [HDE.out]; exact HB0.out.size⟩)
  have LA : Hid (a.length = n ∧ b.length = m) := Lib.hid ⟨HN.out.symm, HM.out.symm⟩
  have PA : Hid (∀ W S, DvL W D D (gS ⟨#[102]⟩ ⟨#[102, 46, 116, 109, 112]⟩ 1000 0 false 0 none none) S → Below D w0 W → Calls Tryd.prog 30 #[.pointer (some ⟨D, 0, none⟩), .string ⟨#[102]⟩, .slice aA n ac] W (LeftL D D (gS ⟨#[102]⟩ ⟨#[102, 46, 116, 109, 112]⟩ 1000 n false 0 (some a) none) S (.int .i64 0) W)) := Lib.hid (fun W S h hb => by
    obtain ⟨b1, b2⟩ := BW.out W hb
    have kk := put_free pr_f D 1000 0 none aA a n ac w.heap.size S W rfl (by decide) HN.out (by omega) ⟨by rw [LA.out.1]; omega, by decide⟩ (HA.out.below b1) b1.size (fun hne => rd_out (HA.out.below b1) h.ge b2 (by simpa using hne)) (fun W => by rw [run_string_add_sum (P := Tryd.prog) W _ _ (by decide)]; rfl) h
    rw [LA.out.1] at kk
    exact kk)
  have FS : Hid (∀ W S, DvL W D D (gS ⟨#[102]⟩ ⟨#[102, 46, 116, 109, 112]⟩ 1000 n false 0 (some a) none) S → Calls Tryd.prog 12 #[.pointer (some ⟨D, 0, none⟩), .int .i64 k] W (LeftL D D (gS ⟨#[102]⟩ ⟨#[102, 46, 116, 109, 112]⟩ 1000 n true k (some a) none) S (.tuple #[]) W)) := Lib.hid (fun W S h => by
    have kk := fuseL D D _ S k W h
    have e : (gS ⟨#[102]⟩ ⟨#[102, 46, 116, 109, 112]⟩ 1000 n false 0 (some a) none).fused k = gS ⟨#[102]⟩ ⟨#[102, 46, 116, 109, 112]⟩ 1000 n true k (some a) none := by
      unfold Dg.fused gS
      simp only [decide_eq_true HKB.out.1]
    rw [e] at kk
    exact kk)
  have PN : Hid (∀ W S, DvL W D D (gS ⟨#[102]⟩ ⟨#[102, 46, 116, 109, 112]⟩ 1000 n true k (some a) none) S → Below D w0 W → Calls Tryd.prog 30 #[.pointer (some ⟨D, 0, none⟩), .string ⟨#[102]⟩, .slice bA m bc] W (PutOut D (some a) b S W)) := Lib.hid (fun W S h hb => by
    obtain ⟨b1, b2⟩ := BW.out W hb
    exact put_fused D n (some a) bA b m bc w.heap.size S W k HKB.out (by show (n : Int) = (a.length : Int); rw [LA.out.1]) (by show a.length ≤ _; rw [LA.out.1]; omega) HM.out (by omega) (by rw [LA.out.2]; omega) (HBR.out.below b1) b1.size (fun hne => rd_out (HBR.out.below b1) h.ge b2 (by simpa using hne)) h)
  have CRS : Hid (∀ W S us lf A' B' fr, DvL W D D (gS ⟨#[102]⟩ ⟨#[102, 46, 116, 109, 112]⟩ 1000 us true lf A' B') S → us = (bytA A' : Int) + bytB B' → okB B' → bytA A' ≤ 300 → bytB B' ≤ 300 → (0 ≤ lf ∧ lf ≤ 6) → Calls Tryd.prog 15 #[.pointer (some ⟨D, 0, none⟩), .slice (some ⟨W.heap.size, 0, none⟩) 3 3] (W.alloc (.cells #[.int .i64 p, .int .i64 p, .int .i64 p] 3 fr)) (CutOut D lf A' S (W.alloc (.cells #[.int .i64 p, .int .i64 p, .int .i64 p] 3 fr)))) := Lib.hid (fun W S us lf A' B' fr h e1 e2 e3 e4 e5 =>
    crash_gS D us lf A' B' (some ⟨W.heap.size, 0, none⟩) [p, p, p] 3 3 (W.heap.size + 1) S (W.alloc (.cells #[.int .i64 p, .int .i64 p, .int .i64 p] 3 fr)) e1 e2 e3 e4 e5 rfl (by decide) (by have := Rd.litm W #[Value.int .i64 p, .int .i64 p, .int .i64 p] 3 fr; simpa using this) (by simp) (fun x hx hs => by injection hx with hx; subst hx; have := h.lt _ hs; simp at this) (fun y hy => by simp at hy; subst hy; exact HPB.out) (h.below ((Below.refl _ _).alloc (Nat.le_refl _) _)))
  go_upto_region 9 with (go_at_call 30; (with_reducible refine (PA.out _ _ HD1.out HB1.out).mono ?_); rintro e w4 ⟨rfl, Sp4, hd, hk⟩; have HD4 := Lib.hid hd; have HB4 := Lib.hid (HB1.out.trans (hk.below HD1.out.ge (Nat.le_of_lt HD1.out.dok.2))); clear hd hk)
  clear HD1 PA
  go_upto_region 10 with (go_at_call 12; (with_reducible refine (FS.out _ _ HD4.out).mono ?_); rintro e w5 ⟨rfl, Sp5, hd, hk⟩; have HD5 := Lib.hid hd; have HB5 := Lib.hid (HB4.out.trans (hk.below HD4.out.ge (Nat.le_of_lt HD4.out.dok.2))); clear hd hk)
  clear HD4 FS
  go_upto_region 11 with (go_at_call 30; (with_reducible refine (PN.out _ _ HD5.out HB5.out).mono ?_); rintro e w6 ⟨er, us6, lf6, A6, B6, rfl, ⟨Sp6, hd, hk⟩, q1, q2, q3, q4, q5, q6⟩; have HD6 := Lib.hid hd; have HB6 := Lib.hid (HB5.out.trans (hk.below HD5.out.ge (Nat.le_of_lt HD5.out.dok.2))); have H6 := Lib.hid (And.intro q1 (And.intro q2 (And.intro q3 (And.intro q4 q5)))); have HE6 := Lib.hid q6; clear hd hk q1 q2 q3 q4 q5 q6)
  clear HD5 PN
  rcases HE6.out with ⟨rfl, rfl⟩ | ⟨rfl, rfl⟩
  · clear HE6
    go_upto_region 12 with (go_at_call 15; (with_reducible refine (CRS.out _ _ _ _ _ _ _ HD6.out H6.out.1 H6.out.2.1 H6.out.2.2.1 H6.out.2.2.2.1 H6.out.2.2.2.2).mono ?_); rintro e w7 ⟨us7, B7, ⟨rfl, Sp7, hd7, hk7⟩, hb7, hu7⟩; have HD7 := Lib.hid hd7; have HB7 := Lib.hid ((HB6.out.alloc (Nat.le_of_lt HD6.out.dok.2) _).trans (hk7.below HD6.out.ge (by simp; have := HD6.out.dok.2; omega))); have H7 := Lib.hid (And.intro hb7 hu7); clear hd7 hk7 hb7 hu7)
    have RH := Lib.hid (read_hitL D D _ Sp7 ⟨#[102]⟩ 0 (⟨#[102]⟩, b, (b.length : Int)) w7 HD7.out (gS_ok pr_f _ _ _ _ _ _ ⟨by omega, by omega⟩ ⟨by rw [H7.out.2]; omega, by rw [H7.out.2]; have h1 := H7.out.1; have h2 := H6.out.2.2.1; omega⟩ ⟨by have := H6.out.2.2.2.2; omega, by have := H6.out.2.2.2.2; omega⟩ (by have := H6.out.2.2.1; omega) (by have := H7.out.1; omega)) (hit_sf pr_f (some b) B7) (pos_sf pr_f b B7) (by cases B7 <;> rfl))
    have hxl : b.length = m := LA.out.2
    go_upto_region 13 with (go_at_call 20; (with_reducible refine RH.out.mono ?_); rintro e w9 ⟨A9, c9, rfl, ho9, hb9⟩; have HR9 : Hid (Rd w9 w9.heap.size A9 (b.map B8)) := Lib.hid (Rd.of_own ho9); have HB9 := Lib.hid (HB7.out.trans (hb9.mono (Nat.le_of_lt HD7.out.dok.2))); clear ho9 hb9)
    clear hxl RH
    obtain ⟨z1, z2⟩ := BW.out _ HB9.out
    have K1 : (convert 30 9 (.slice A9 m c9)).run Tryd.prog w9 = .ok (.string (S8 b)) w9 := run_str (P := Tryd.prog) 30 5 9 Tryd.underlying30 Tryd.underlying5 Tryd.underlying9 HR9.out m c9 LA.out.2.symm
    have K2 : (convert 30 9 (.slice aA n ac)).run Tryd.prog w9 = .ok (.string (S8 a)) w9 := run_str (P := Tryd.prog) 30 5 9 Tryd.underlying30 Tryd.underlying5 Tryd.underlying9 (HA.out.below z1) n ac HN.out
    have K3 : (convert 30 9 (.slice bA m bc)).run Tryd.prog w9 = .ok (.string (S8 b)) w9 := run_str (P := Tryd.prog) 30 5 9 Tryd.underlying30 Tryd.underlying5 Tryd.underlying9 (HBR.out.below z1) m bc HM.out
    have HZ := Lib.hid z1
    clear z1 z2 HD7 HB7 HD6 HB6
    generalize S8 a = SA at *
    generalize S8 b = SB at *
    go_wp2_with (go_at_call 32; (with_reducible refine (num24 _ _).mono ?_); rintro e wn ⟨rfl, hwn⟩; subst hwn)
    go_ret
    exact ⟨rfl, HZ.out⟩
  · clear HE6
    go_upto_region 12 with (go_at_call 15; (with_reducible refine (CRS.out _ _ _ _ _ _ _ HD6.out H6.out.1 H6.out.2.1 H6.out.2.2.1 H6.out.2.2.2.1 H6.out.2.2.2.2).mono ?_); rintro e w7 ⟨us7, B7, ⟨rfl, Sp7, hd7, hk7⟩, hb7, hu7⟩; have HD7 := Lib.hid hd7; have HB7 := Lib.hid ((HB6.out.alloc (Nat.le_of_lt HD6.out.dok.2) _).trans (hk7.below HD6.out.ge (by simp; have := HD6.out.dok.2; omega))); have H7 := Lib.hid (And.intro hb7 hu7); clear hd7 hk7 hb7 hu7)
    have RH := Lib.hid (read_hitL D D _ Sp7 ⟨#[102]⟩ 0 (⟨#[102]⟩, a, (a.length : Int)) w7 HD7.out (gS_ok pr_f _ _ _ _ _ _ ⟨by omega, by omega⟩ ⟨by rw [H7.out.2]; omega, by rw [H7.out.2]; have h1 := H7.out.1; have h2 := H6.out.2.2.1; omega⟩ ⟨by have := H6.out.2.2.2.2; omega, by have := H6.out.2.2.2.2; omega⟩ (by have := H6.out.2.2.1; omega) (by have := H7.out.1; omega)) (hit_sf pr_f (some a) B7) (pos_sf pr_f a B7) (by cases B7 <;> rfl))
    have hxl : a.length = n := LA.out.1
    go_upto_region 13 with (go_at_call 20; (with_reducible refine RH.out.mono ?_); rintro e w9 ⟨A9, c9, rfl, ho9, hb9⟩; have HR9 : Hid (Rd w9 w9.heap.size A9 (a.map B8)) := Lib.hid (Rd.of_own ho9); have HB9 := Lib.hid (HB7.out.trans (hb9.mono (Nat.le_of_lt HD7.out.dok.2))); clear ho9 hb9)
    clear hxl RH
    obtain ⟨z1, z2⟩ := BW.out _ HB9.out
    have K1 : (convert 30 9 (.slice A9 n c9)).run Tryd.prog w9 = .ok (.string (S8 a)) w9 := run_str (P := Tryd.prog) 30 5 9 Tryd.underlying30 Tryd.underlying5 Tryd.underlying9 HR9.out n c9 LA.out.1.symm
    have K2 : (convert 30 9 (.slice aA n ac)).run Tryd.prog w9 = .ok (.string (S8 a)) w9 := run_str (P := Tryd.prog) 30 5 9 Tryd.underlying30 Tryd.underlying5 Tryd.underlying9 (HA.out.below z1) n ac HN.out
    have K3 : (convert 30 9 (.slice bA m bc)).run Tryd.prog w9 = .ok (.string (S8 b)) w9 := run_str (P := Tryd.prog) 30 5 9 Tryd.underlying30 Tryd.underlying5 Tryd.underlying9 (HBR.out.below z1) m bc HM.out
    have HZ := Lib.hid z1
    clear z1 z2 HD7 HB7 HD6 HB6
    generalize S8 a = SA at *
    generalize S8 b = SB at *
    go_wp2_with (go_at_call 32; (with_reducible refine (num24 _ _).mono ?_); rintro e wn ⟨rfl, hwn⟩; subst hwn)
    go_ret
    exact ⟨rfl, HZ.out⟩
set_option maxHeartbeats 8000000 in
theorem whole24f (aA : Option Addr) (a : List UInt8) (n ac : Nat) (bA : Option Addr) (b : List UInt8) (m bc : Nat) (k p : Int) (w : World) (hn : n = a.length) (ha : Rd w w.heap.size aA (a.map B8)) (hac : n ≤ maxLen) (hm : m = b.length) (hb : Rd w w.heap.size bA (b.map B8)) (hbc : m ≤ maxLen) (hp : -9223372036854775808 ≤ p ∧ p ≤ 9223372036854775807) :
    Calls Tryd.prog 7 #[.slice aA n ac, .slice bA m bc, .bool false, .int .i64 k, .int .i64 p] w fun e w' => e = .returned (.bool true) ∧ Below w.heap.size w w' := by
  have HN := Lib.hid hn
  have HM := Lib.hid hm
  have HA := Lib.hid ha
  have HBR := Lib.hid hb
  simp only [maxLen] at hac hbc
  clear hn hm ha hb
  by_cases h1 : 200 < n
  · have d1 : decide ((200 : Int) < (n : Int)) = true := decide_eq_true (by omega)
    go_enter Tryd.func7, Tryd.ntmps7
    go_wp2_with (go_at_call 24; (with_reducible refine (alive24_calls _).mono ?_); rintro e w0 ⟨rfl, hb0⟩; have HB0 := Lib.hid hb0; clear hb0)
    go_ret
    exact ⟨rfl, HB0.out⟩
  have d1 : decide ((200 : Int) < (n : Int)) = false := decide_eq_false (by omega)
  by_cases h2 : 200 < m
  · have d2 : decide ((200 : Int) < (m : Int)) = true := decide_eq_true (by omega)
    go_enter Tryd.func7, Tryd.ntmps7
    go_wp2_with (go_at_call 24; (with_reducible refine (alive24_calls _).mono ?_); rintro e w0 ⟨rfl, hb0⟩; have HB0 := Lib.hid hb0; clear hb0)
    go_ret
    exact ⟨rfl, HB0.out⟩
  have d2 : decide ((200 : Int) < (m : Int)) = false := decide_eq_false (by omega)
  by_cases h3 : k < 0
  · have d3 : decide (k < 0) = true := decide_eq_true h3
    go_enter Tryd.func7, Tryd.ntmps7
    go_wp2_with (go_at_call 24; (with_reducible refine (alive24_calls _).mono ?_); rintro e w0 ⟨rfl, hb0⟩; have HB0 := Lib.hid hb0; clear hb0)
    go_ret
    exact ⟨rfl, HB0.out⟩
  have d3 : decide (k < 0) = false := decide_eq_false h3
  by_cases h4 : 6 < k
  · have d4 : decide (6 < k) = true := decide_eq_true h4
    go_enter Tryd.func7, Tryd.ntmps7
    go_wp2_with (go_at_call 24; (with_reducible refine (alive24_calls _).mono ?_); rintro e w0 ⟨rfl, hb0⟩; have HB0 := Lib.hid hb0; clear hb0)
    go_ret
    exact ⟨rfl, HB0.out⟩
  have d4 : decide (6 < k) = false := decide_eq_false h4
  have hn2 : n ≤ 200 := by omega
  have hm2 : m ≤ 200 := by omega
  have HKB : Hid (0 ≤ k ∧ k ≤ 6) := Lib.hid (by omega)
  have HPB := Lib.hid hp
  clear h1 h2 h3 h4 hp
  have NW : Hid (∀ W, Calls Tryd.prog 10 #[.int .i64 1000] W fun e w' => e = .returned (.pointer (some ⟨W.heap.size, 0, none⟩)) ∧ (∃ S, DvL w' W.heap.size W.heap.size (gS ⟨#[102]⟩ ⟨#[102, 46, 116, 109, 112]⟩ 1000 0 false 0 none none) S) ∧ Below W.heap.size W w') := Lib.hid (fun W => newL 1000 1000 W (by decide) ⟨by decide, by decide⟩)
  go_enter Tryd.func7, Tryd.ntmps7
  go_upto_region 5 with (first
    | (go_at_call 10; (with_reducible refine (NW.out _).mono ?_); rintro e w1 ⟨rfl, ⟨S1, hd1⟩, hb1⟩; have HD1 := Lib.hid hd1; have HB1 := Lib.hid hb1; clear hd1 hb1)
    | (go_at_call 24; (with_reducible refine (alive24_calls _).mono ?_); rintro e w0 ⟨rfl, hb0⟩; have HB0 := Lib.hid hb0; clear hb0))
  clear d1 d2 d3 d4
  obtain ⟨D, hD⟩ : ∃ D, D = w0.heap.size := ⟨_, rfl⟩
  have HDE := Lib.hid hD
  rw [← hD] at HD1 HB1 ⊢
  clear hD NW
  have BW : Hid (∀ W, Below D w0 W → Below w.heap.size w W ∧ w.heap.size ≤ D) := Lib.hid (fun W h => ⟨HB0.out.trans (h.mono (by rw [HDE.out]; exact HB0.out.size)), by rw [HDE.out]; exact HB0.out.size⟩)
  have LA : Hid (a.length = n ∧ b.length = m) := Lib.hid ⟨HN.out.symm, HM.out.symm⟩
  have FS : Hid (∀ W S, DvL W D D (gS ⟨#[102]⟩ ⟨#[102, 46, 116, 109, 112]⟩ 1000 0 false 0 none none) S → Calls Tryd.prog 12 #[.pointer (some ⟨D, 0, none⟩), .int .i64 k] W (LeftL D D (gS ⟨#[102]⟩ ⟨#[102, 46, 116, 109, 112]⟩ 1000 0 true k none none) S (.tuple #[]) W)) := Lib.hid (fun W S h => by
    have kk := fuseL D D _ S k W h
    have e : (gS ⟨#[102]⟩ ⟨#[102, 46, 116, 109, 112]⟩ 1000 0 false 0 none none).fused k = gS ⟨#[102]⟩ ⟨#[102, 46, 116, 109, 112]⟩ 1000 0 true k none none := by
      unfold Dg.fused gS
      simp only [decide_eq_true HKB.out.1]
    rw [e] at kk
    exact kk)
  have PN : Hid (∀ W S, DvL W D D (gS ⟨#[102]⟩ ⟨#[102, 46, 116, 109, 112]⟩ 1000 0 true k none none) S → Below D w0 W → Calls Tryd.prog 30 #[.pointer (some ⟨D, 0, none⟩), .string ⟨#[102]⟩, .slice bA m bc] W (PutOut D none b S W)) := Lib.hid (fun W S h hb => by
    obtain ⟨b1, b2⟩ := BW.out W hb
    exact put_fused D 0 none bA b m bc w.heap.size S W k HKB.out (by rfl) (by decide) HM.out (by omega) (by rw [LA.out.2]; omega) (HBR.out.below b1) b1.size (fun hne => rd_out (HBR.out.below b1) h.ge b2 (by simpa using hne)) h)
  have CRS : Hid (∀ W S us lf A' B' fr, DvL W D D (gS ⟨#[102]⟩ ⟨#[102, 46, 116, 109, 112]⟩ 1000 us true lf A' B') S → us = (bytA A' : Int) + bytB B' → okB B' → bytA A' ≤ 300 → bytB B' ≤ 300 → (0 ≤ lf ∧ lf ≤ 6) → Calls Tryd.prog 15 #[.pointer (some ⟨D, 0, none⟩), .slice (some ⟨W.heap.size, 0, none⟩) 3 3] (W.alloc (.cells #[.int .i64 p, .int .i64 p, .int .i64 p] 3 fr)) (CutOut D lf A' S (W.alloc (.cells #[.int .i64 p, .int .i64 p, .int .i64 p] 3 fr)))) := Lib.hid (fun W S us lf A' B' fr h e1 e2 e3 e4 e5 =>
    crash_gS D us lf A' B' (some ⟨W.heap.size, 0, none⟩) [p, p, p] 3 3 (W.heap.size + 1) S (W.alloc (.cells #[.int .i64 p, .int .i64 p, .int .i64 p] 3 fr)) e1 e2 e3 e4 e5 rfl (by decide) (by have := Rd.litm W #[Value.int .i64 p, .int .i64 p, .int .i64 p] 3 fr; simpa using this) (by simp) (fun x hx hs => by injection hx with hx; subst hx; have := h.lt _ hs; simp at this) (fun y hy => by simp at hy; subst hy; exact HPB.out) (h.below ((Below.refl _ _).alloc (Nat.le_refl _) _)))
  go_upto_region 10 with (go_at_call 12; (with_reducible refine (FS.out _ _ HD1.out).mono ?_); rintro e w5 ⟨rfl, Sp5, hd, hk⟩; have HD5 := Lib.hid hd; have HB5 := Lib.hid (HB1.out.trans (hk.below HD1.out.ge (Nat.le_of_lt HD1.out.dok.2))); clear hd hk)
  clear HD1 FS
  go_upto_region 11 with (go_at_call 30; (with_reducible refine (PN.out _ _ HD5.out HB5.out).mono ?_); rintro e w6 ⟨er, us6, lf6, A6, B6, rfl, ⟨Sp6, hd, hk⟩, q1, q2, q3, q4, q5, q6⟩; have HD6 := Lib.hid hd; have HB6 := Lib.hid (HB5.out.trans (hk.below HD5.out.ge (Nat.le_of_lt HD5.out.dok.2))); have H6 := Lib.hid (And.intro q1 (And.intro q2 (And.intro q3 (And.intro q4 q5)))); have HE6 := Lib.hid q6; clear hd hk q1 q2 q3 q4 q5 q6)
  clear HD5 PN
  rcases HE6.out with ⟨rfl, rfl⟩ | ⟨rfl, rfl⟩
  · clear HE6
    go_upto_region 12 with (go_at_call 15; (with_reducible refine (CRS.out _ _ _ _ _ _ _ HD6.out H6.out.1 H6.out.2.1 H6.out.2.2.1 H6.out.2.2.2.1 H6.out.2.2.2.2).mono ?_); rintro e w7 ⟨us7, B7, ⟨rfl, Sp7, hd7, hk7⟩, hb7, hu7⟩; have HD7 := Lib.hid hd7; have HB7 := Lib.hid ((HB6.out.alloc (Nat.le_of_lt HD6.out.dok.2) _).trans (hk7.below HD6.out.ge (by simp; have := HD6.out.dok.2; omega))); have H7 := Lib.hid (And.intro hb7 hu7); clear hd7 hk7 hb7 hu7)
    have RH := Lib.hid (read_hitL D D _ Sp7 ⟨#[102]⟩ 0 (⟨#[102]⟩, b, (b.length : Int)) w7 HD7.out (gS_ok pr_f _ _ _ _ _ _ ⟨by omega, by omega⟩ ⟨by rw [H7.out.2]; omega, by rw [H7.out.2]; have h1 := H7.out.1; have h2 := H6.out.2.2.1; omega⟩ ⟨by have := H6.out.2.2.2.2; omega, by have := H6.out.2.2.2.2; omega⟩ (by have := H6.out.2.2.1; omega) (by have := H7.out.1; omega)) (hit_sf pr_f (some b) B7) (pos_sf pr_f b B7) (by cases B7 <;> rfl))
    have hxl : b.length = m := LA.out.2
    go_upto_region 13 with (go_at_call 20; (with_reducible refine RH.out.mono ?_); rintro e w9 ⟨A9, c9, rfl, ho9, hb9⟩; have HR9 : Hid (Rd w9 w9.heap.size A9 (b.map B8)) := Lib.hid (Rd.of_own ho9); have HB9 := Lib.hid (HB7.out.trans (hb9.mono (Nat.le_of_lt HD7.out.dok.2))); clear ho9 hb9)
    clear hxl RH
    obtain ⟨z1, z2⟩ := BW.out _ HB9.out
    have K1 : (convert 30 9 (.slice A9 m c9)).run Tryd.prog w9 = .ok (.string (S8 b)) w9 := run_str (P := Tryd.prog) 30 5 9 Tryd.underlying30 Tryd.underlying5 Tryd.underlying9 HR9.out m c9 LA.out.2.symm
    have K2 : (convert 30 9 (.slice aA n ac)).run Tryd.prog w9 = .ok (.string (S8 a)) w9 := run_str (P := Tryd.prog) 30 5 9 Tryd.underlying30 Tryd.underlying5 Tryd.underlying9 (HA.out.below z1) n ac HN.out
    have K3 : (convert 30 9 (.slice bA m bc)).run Tryd.prog w9 = .ok (.string (S8 b)) w9 := run_str (P := Tryd.prog) 30 5 9 Tryd.underlying30 Tryd.underlying5 Tryd.underlying9 (HBR.out.below z1) m bc HM.out
    have HZ := Lib.hid z1
    clear z1 z2 HD7 HB7 HD6 HB6
    generalize S8 a = SA at *
    generalize S8 b = SB at *
    go_wp2_with (go_at_call 32; (with_reducible refine (num24 _ _).mono ?_); rintro e wn ⟨rfl, hwn⟩; subst hwn)
    go_ret
    exact ⟨rfl, HZ.out⟩
  · clear HE6
    go_upto_region 12 with (go_at_call 15; (with_reducible refine (CRS.out _ _ _ _ _ _ _ HD6.out H6.out.1 H6.out.2.1 H6.out.2.2.1 H6.out.2.2.2.1 H6.out.2.2.2.2).mono ?_); rintro e w7 ⟨us7, B7, ⟨rfl, Sp7, hd7, hk7⟩, hb7, hu7⟩; have HD7 := Lib.hid hd7; have HB7 := Lib.hid ((HB6.out.alloc (Nat.le_of_lt HD6.out.dok.2) _).trans (hk7.below HD6.out.ge (by simp; have := HD6.out.dok.2; omega))); have H7 := Lib.hid (And.intro hb7 hu7); clear hd7 hk7 hb7 hu7)
    have RH := Lib.hid (read_noneL D D _ Sp7 ⟨#[102]⟩ w7 HD7.out (gS_ok pr_f _ _ _ _ _ _ ⟨by omega, by omega⟩ ⟨by rw [H7.out.2]; omega, by rw [H7.out.2]; have h1 := H7.out.1; have h2 := H6.out.2.2.1; omega⟩ ⟨by have := H6.out.2.2.2.2; omega, by have := H6.out.2.2.2.2; omega⟩ (by have := H6.out.2.2.1; omega) (by have := H7.out.1; omega)) (hit_sf pr_f none B7))
    go_upto_region 13 with (go_at_call 20; (with_reducible refine RH.out.mono ?_); rintro e w9 ⟨rfl, hb9⟩; have HB9 := Lib.hid (HB7.out.trans (hb9.mono (Nat.le_of_lt HD7.out.dok.2))); clear hb9)
    clear RH
    obtain ⟨z1, z2⟩ := BW.out _ HB9.out
    have K1 : (convert 30 9 (.slice none 0 0)).run Tryd.prog w9 = .ok (.string (S8 [])) w9 := run_str (P := Tryd.prog) 30 5 9 Tryd.underlying30 Tryd.underlying5 Tryd.underlying9 (Rd.nil (w := w9) (B := 0) (A := none)) 0 0 rfl
    have K2 : (convert 30 9 (.slice aA n ac)).run Tryd.prog w9 = .ok (.string (S8 a)) w9 := run_str (P := Tryd.prog) 30 5 9 Tryd.underlying30 Tryd.underlying5 Tryd.underlying9 (HA.out.below z1) n ac HN.out
    have K3 : (convert 30 9 (.slice bA m bc)).run Tryd.prog w9 = .ok (.string (S8 b)) w9 := run_str (P := Tryd.prog) 30 5 9 Tryd.underlying30 Tryd.underlying5 Tryd.underlying9 (HBR.out.below z1) m bc HM.out
    have HZ := Lib.hid z1
    clear z1 z2 HD7 HB7 HD6 HB6
    generalize S8 a = SA at *
    generalize S8 b = SB at *
    generalize S8 ([] : List UInt8) = SE at *
    cases hE : (SE.toList == SA.toList)
    · go_wp2_with (go_at_call 32; (with_reducible refine (num24 _ _).mono ?_); rintro e wn ⟨rfl, hwn⟩; subst hwn)
      go_ret
      exact ⟨rfl, HZ.out⟩
    · go_wp2_with (go_at_call 32; (with_reducible refine (num24 _ _).mono ?_); rintro e wn ⟨rfl, hwn⟩; subst hwn)
      go_ret
      exact ⟨rfl, HZ.out⟩
theorem whole24 (aA : Option Addr) (a : List UInt8) (n ac : Nat) (bA : Option Addr) (b : List UInt8) (m bc : Nat) (o : Bool) (k p : Int) (w : World) (hn : n = a.length) (ha : Rd w w.heap.size aA (a.map B8)) (hac : n ≤ maxLen) (hm : m = b.length) (hb : Rd w w.heap.size bA (b.map B8)) (hbc : m ≤ maxLen) (hp : -9223372036854775808 ≤ p ∧ p ≤ 9223372036854775807) :
    Calls Tryd.prog 7 #[.slice aA n ac, .slice bA m bc, .bool o, .int .i64 k, .int .i64 p] w fun e w' => e = .returned (.bool true) ∧ Below w.heap.size w w' := by
  cases o
  · exact whole24f aA a n ac bA b m bc k p w hn ha hac hm hb hbc hp
  · exact whole24t aA a n ac bA b m bc k p w hn ha hac hm hb hbc hp
end Go.Proofs.YtbdiamhhlabojaaDoor
