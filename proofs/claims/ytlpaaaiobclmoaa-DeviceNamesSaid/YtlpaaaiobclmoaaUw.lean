/- DeviceNames. -/
import Derived.Test.YtlpaaaiobclmoaaUv
import Derived.BigQuiet
namespace Go.Proofs.Ytlpaaaiobclmoaa
open Go.RowKit
set_option linter.unusedVariables false
set_option linter.unusedSimpArgs false
set_option maxRecDepth 100000

set_option maxHeartbeats 8000000 in
theorem names6t (aA : Option Addr) (a : List UInt8) (n ac : Nat) (bA : Option Addr) (b : List UInt8) (m bc : Nat) (rA : Option Addr) (r : List UInt8) (k rc : Nat) (w : World) (hn : n = a.length) (ha : Rd w w.heap.size aA (a.map B8)) (hac : n ≤ maxLen) (hm : m = b.length) (hb : Rd w w.heap.size bA (b.map B8)) (hbc : m ≤ maxLen) (hk : k = r.length) (hr : Rd w w.heap.size rA (r.map B8)) (hrc : k ≤ maxLen) :
    Calls Try.prog 6 #[.slice aA n ac, .slice bA m bc, .slice rA k rc, .bool true] w fun e w' => e = .returned (.bool true) ∧ Below w.heap.size w w' := by
  have HN := Lib.hid hn
  have HM := Lib.hid hm
  have HK0 := Lib.hid hk
  have HA := Lib.hid ha
  have HBR := Lib.hid hb
  have HRR := Lib.hid hr
  simp only [maxLen] at hac hbc hrc
  clear hn hm hk ha hb hr
  by_cases h1 : 200 < n
  · have d1 : decide ((200 : Int) < (n : Int)) = true := decide_eq_true (by omega)
    go_enter Try.func6, Try.ntmps6
    go_wp2_with (go_at_call 8; (with_reducible refine (alive6_calls _).mono ?_); rintro e w0 ⟨rfl, hb0⟩; have HB0 := Lib.hid hb0; clear hb0)
    go_ret
    exact ⟨rfl, HB0.out⟩
  have d1 : decide ((200 : Int) < (n : Int)) = false := decide_eq_false (by omega)
  by_cases h2 : 200 < m
  · have d2 : decide ((200 : Int) < (m : Int)) = true := decide_eq_true (by omega)
    go_enter Try.func6, Try.ntmps6
    go_wp2_with (go_at_call 8; (with_reducible refine (alive6_calls _).mono ?_); rintro e w0 ⟨rfl, hb0⟩; have HB0 := Lib.hid hb0; clear hb0)
    go_ret
    exact ⟨rfl, HB0.out⟩
  have d2 : decide ((200 : Int) < (m : Int)) = false := decide_eq_false (by omega)
  by_cases h3 : 200 < k
  · have d3 : decide ((200 : Int) < (k : Int)) = true := decide_eq_true (by omega)
    go_enter Try.func6, Try.ntmps6
    go_wp2_with (go_at_call 8; (with_reducible refine (alive6_calls _).mono ?_); rintro e w0 ⟨rfl, hb0⟩; have HB0 := Lib.hid hb0; clear hb0)
    go_ret
    exact ⟨rfl, HB0.out⟩
  have d3 : decide ((200 : Int) < (k : Int)) = false := decide_eq_false (by omega)
  have hn2 : n ≤ 200 := by omega
  have hm2 : m ≤ 200 := by omega
  have hk2 : k ≤ 200 := by omega
  clear h1 h2 h3
  have NW := Lib.hid (fun W => newL 1000 1000 W (by decide) ⟨by decide, by decide⟩)
  have kc := fun (w : World) (C : Array Value) (n c : Nat) => Lib.run_convert_bytes_const (P := Try.prog) w 29 5 C n c Try.underlying29 Try.underlying5
  go_enter Try.func6, Try.ntmps6
  go_upto_region 5 with (first
    | (go_at_call 10; (with_reducible refine (NW.out _).mono ?_); rintro e w1 ⟨rfl, ⟨S1, hd1⟩, hb1⟩; have HD1 := Lib.hid hd1; have HB1 := Lib.hid hb1; clear hd1 hb1)
    | (go_at_call 8; (with_reducible refine (alive6_calls _).mono ?_); rintro e w0 ⟨rfl, hb0⟩; have HB0 := Lib.hid hb0; clear hb0))
  clear d1 d2 d3
  obtain ⟨D, hD⟩ : ∃ D, D = w0.heap.size := ⟨_, rfl⟩
  have HDE := Lib.hid hD
  rw [← hD] at HD1 HB1 ⊢
  clear hD NW
  have BW : Hid (∀ W, Below D w0 W → Below w.heap.size w W ∧ w.heap.size ≤ D) := Lib.hid (fun W h => ⟨HB0.out.trans (h.mono (by rw [HDE.out]; exact HB0.out.size)), by rw [HDE.out]; exact HB0.out.size⟩)
  have LA : Hid (a.length = n ∧ b.length = m ∧ r.length = k) := Lib.hid ⟨HN.out.symm, HM.out.symm, HK0.out.symm⟩
  have A1 : Hid (∀ W S, DvL W D D (Dg.new 1000) S → Below D w0 W → Calls Try.prog 12 #[.pointer (some ⟨D, 0, none⟩), .string ⟨#[120]⟩, .slice aA n ac] W (LeftL D D (gM ⟨#[120]⟩ n a 0) S (.int .i64 0) W)) := Lib.hid (fun W S h hb => by
    obtain ⟨b1, b2⟩ := BW.out W hb
    have kk := appendL D D (Dg.new 1000) S ⟨#[120]⟩ aA a n ac w.heap.size W h (ok_none _ _ _ _ ⟨by decide, by decide⟩ ⟨by decide, by decide⟩ ⟨by decide, by decide⟩) rfl (by decide +kernel) (by show (n : Int) ≤ 1000 - 0; omega) HN.out (HA.out.below b1) b1.size (fun hne => rd_out (HA.out.below b1) h.ge b2 (by simpa using hne)) (by rw [LA.out.1]; omega)
    rw [put_newM, LA.out.1] at kk
    exact kk)
  have Y2 : Hid (∀ W S, DvL W D D (gM ⟨#[120]⟩ n a 0) S → Calls Try.prog 15 #[.pointer (some ⟨D, 0, none⟩), .string ⟨#[120]⟩] W (LeftL D D (gM ⟨#[120]⟩ n a n) S (.int .i64 0) W)) := Lib.hid (fun W S h => by
    have kk := sync_hitL D D (gM ⟨#[120]⟩ n a 0) S ⟨#[120]⟩ 0 (⟨#[120]⟩, a, 0) W h (gM_ok _ _ _ _ ⟨by omega, by omega⟩ (by rw [LA.out.1]; omega)) rfl (hit_m _ _ _) (pos_m _ _ _) rfl
    rw [sync_m, LA.out.1] at kk
    exact kk)
  have A3 : Hid (∀ W S, DvL W D D (gM ⟨#[120]⟩ n a n) S → Below D w0 W → Calls Try.prog 12 #[.pointer (some ⟨D, 0, none⟩), .string ⟨#[120]⟩, .slice rA k rc] W (LeftL D D (gM ⟨#[120]⟩ ((n : Int) + k) (a ++ r) n) S (.int .i64 0) W)) := Lib.hid (fun W S h hb => by
    obtain ⟨b1, b2⟩ := BW.out W hb
    have kk := appendL D D (gM ⟨#[120]⟩ n a n) S ⟨#[120]⟩ rA r k rc w.heap.size W h (gM_ok _ _ _ _ ⟨by omega, by omega⟩ (by rw [LA.out.1]; omega)) rfl (by decide +kernel) (by show (k : Int) ≤ 1000 - (n : Int); omega) HK0.out (HRR.out.below b1) b1.size (fun hne => rd_out (HRR.out.below b1) h.ge b2 (by simpa using hne)) (by rw [LA.out.2.2]; omega)
    rw [put_m, LA.out.2.2] at kk
    exact kk)
  have A4 : Hid (∀ W S, DvL W D D (gM ⟨#[120]⟩ ((n : Int) + k) (a ++ r) n) S → Below D w0 W → Calls Try.prog 12 #[.pointer (some ⟨D, 0, none⟩), .string ⟨#[121]⟩, .slice bA m bc] W (LeftL D D (gO ((n : Int) + k + m) (a ++ r) n b) S (.int .i64 0) W)) := Lib.hid (fun W S h hb => by
    obtain ⟨b1, b2⟩ := BW.out W hb
    have kk := appendL D D (gM ⟨#[120]⟩ ((n : Int) + k) (a ++ r) n) S ⟨#[121]⟩ bA b m bc w.heap.size W h (gM_ok _ _ _ _ ⟨by omega, by omega⟩ (by rw [List.length_append, LA.out.1, LA.out.2.2]; omega)) rfl (by decide +kernel) (by show (m : Int) ≤ 1000 - ((n : Int) + k); omega) HM.out (HBR.out.below b1) b1.size (fun hne => rd_out (HBR.out.below b1) h.ge b2 (by simpa using hne)) (by rw [LA.out.2.1]; omega)
    rw [put_o, LA.out.2.1] at kk
    exact kk)
  have N5 : Hid (∀ W S, DvL W D D (gO ((n : Int) + k + m) (a ++ r) n b) S → Calls Try.prog 17 #[.pointer (some ⟨D, 0, none⟩), .string ⟨#[120]⟩, .string ⟨#[121]⟩] W (LeftL D D (gM ⟨#[121]⟩ ((n : Int) + k) (a ++ r) n) S (.int .i64 0) W)) := Lib.hid (fun W S h => by
    have kk := rename1L D D (gO ((n : Int) + k + m) (a ++ r) n b) S ⟨#[120]⟩ ⟨#[121]⟩ 0 0 (⟨#[120]⟩, a ++ r, (n : Int)) (⟨#[121]⟩, b, 0) W h (gO_ok _ _ _ _ ⟨by omega, by omega⟩ (by rw [List.length_append, LA.out.1, LA.out.2.2]; omega) (by rw [LA.out.2.1]; omega)) rfl (first_hit (gO_sort _ _ _)) (first_pos (gO_sort _ _ _)) rfl (by decide +kernel) (by decide +kernel) (first_hit (sort_one (⟨#[121]⟩, b, 0))) (first_pos (sort_one (⟨#[121]⟩, b, 0))) rfl
    have e : (n : Int) + k + m - (b.length : Int) = (n : Int) + k := by rw [LA.out.2.1]; omega
    unfold gO at kk
    simp only [e] at kk
    exact kk)
  have N6 : Hid (∀ W S, DvL W D D (gM ⟨#[121]⟩ ((n : Int) + k) (a ++ r) n) S → Calls Try.prog 17 #[.pointer (some ⟨D, 0, none⟩), .string ⟨#[120]⟩, .string ⟨#[122]⟩] W (LeftL D D (gM ⟨#[121]⟩ ((n : Int) + k) (a ++ r) n) S (.int .i64 4) W)) := Lib.hid (fun W S h => rename_noneL D D _ S ⟨#[120]⟩ ⟨#[122]⟩ W h (gM_ok _ _ _ _ ⟨by omega, by omega⟩ (by rw [List.length_append, LA.out.1, LA.out.2.2]; omega)) rfl (miss_x _ _))
  have N7 : Hid (∀ W S, DvL W D D (gM ⟨#[121]⟩ ((n : Int) + k) (a ++ r) n) S → Calls Try.prog 17 #[.pointer (some ⟨D, 0, none⟩), .string ⟨#[121]⟩, .string ⟨#[]⟩] W (LeftL D D (gM ⟨#[121]⟩ ((n : Int) + k) (a ++ r) n) S (.int .i64 1) W)) := Lib.hid (fun W S h => rename_emptyL D D _ S ⟨#[121]⟩ ⟨#[]⟩ W h (gM_ok _ _ _ _ ⟨by omega, by omega⟩ (by rw [List.length_append, LA.out.1, LA.out.2.2]; omega)) rfl (hit_m _ _ _) (by decide +kernel))
  have F8 : Hid (∀ W S, DvL W D D (gM ⟨#[121]⟩ ((n : Int) + k) (a ++ r) n) S → Calls Try.prog 32 #[.pointer (some ⟨D, 0, none⟩)] W (FilesOf [(⟨#[121]⟩, a ++ r, (n : Int))] W)) := Lib.hid (fun W S h => filesL D D _ S W h (gM_ok _ _ _ _ ⟨by omega, by omega⟩ (by rw [List.length_append, LA.out.1, LA.out.2.2]; omega)) (by show 1 ≤ 100000; decide))
  have C9 : Hid (∀ W S fr, DvL W D D (gM ⟨#[121]⟩ ((n : Int) + k) (a ++ r) n) S → Calls Try.prog 23 #[.pointer (some ⟨D, 0, none⟩), .slice (some ⟨W.heap.size, 0, none⟩) 1 1] (W.alloc (.cells #[.int .i64 0] 3 fr)) (LeftL D D (gM ⟨#[121]⟩ n a n) S (.tuple #[]) (W.alloc (.cells #[.int .i64 0] 3 fr)))) := Lib.hid (fun W S fr h => by
    have kk := crashL D D (gM ⟨#[121]⟩ ((n : Int) + k) (a ++ r) n) S (some ⟨W.heap.size, 0, none⟩) [0] 1 1 (W.heap.size + 1) (W.alloc (.cells #[.int .i64 0] 3 fr)) (h.below ((Below.refl _ _).alloc (Nat.le_refl _) _)) (gM_ok _ _ _ _ ⟨by omega, by omega⟩ (by rw [List.length_append, LA.out.1, LA.out.2.2]; omega)) (by show 1 ≤ 100000; decide)
      (fun x hx => by
        rw [show (gM ⟨#[121]⟩ ((n : Int) + k) (a ++ r) n).L = [((⟨#[121]⟩ : ByteArray), a ++ r, (n : Int))] from rfl] at hx
        rw [List.mem_singleton] at hx
        subst hx
        refine ⟨by show (0 : Int) ≤ n; omega, ?_⟩
        show (n : Int) ≤ ((a ++ r).length : Int)
        rw [List.length_append, LA.out.1]; omega)
      (by show (n : Int) + k = sumD [((⟨#[121]⟩ : ByteArray), a ++ r, (n : Int))]; unfold sumD; simp [LA.out.1, LA.out.2.2])
      rfl (by decide) (by have := Rd.litm W #[Value.int .i64 0] 3 fr; simpa using this) (by simp) (fun x hx hs => by injection hx with hx; subst hx; have := h.lt _ hs; simp at this) (fun y hy => by rw [List.mem_singleton] at hy; subst hy; decide)
    have e := crash_m ⟨#[121]⟩ ((n : Int) + k) a r
    rw [LA.out.1] at e
    rw [e] at kk
    exact kk)
  have R10 : Hid (∀ W S, DvL W D D (gM ⟨#[121]⟩ n a n) S → Calls Try.prog 25 #[.pointer (some ⟨D, 0, none⟩), .string ⟨#[121]⟩] W (ReadOf a W)) := Lib.hid (fun W S h => read_hitL D D _ S ⟨#[121]⟩ 0 (⟨#[121]⟩, a, (n : Int)) W h (gM_ok _ _ _ _ ⟨by omega, by omega⟩ (by rw [LA.out.1]; omega)) (hit_m _ _ _) (pos_m _ _ _) rfl)
  go_upto_region 8 with (go_at_call 12; (with_reducible refine (A1.out _ _ HD1.out HB1.out).mono ?_); rintro e w2 ⟨rfl, Sp2, hd, hk⟩; have HD2 := Lib.hid hd; have HB2 := Lib.hid (HB1.out.trans (hk.below HD1.out.ge (Nat.le_of_lt HD1.out.dok.2))); clear hd hk)
  clear HD1 A1
  go_upto_region 9 with (go_at_call 15; (with_reducible refine (Y2.out _ _ HD2.out).mono ?_); rintro e w3 ⟨rfl, Sp3, hd, hk⟩; have HD3 := Lib.hid hd; have HB3 := Lib.hid (HB2.out.trans (hk.below HD2.out.ge (Nat.le_of_lt HD2.out.dok.2))); clear hd hk)
  clear HD2 Y2
  go_upto_region 10 with (go_at_call 12; (with_reducible refine (A3.out _ _ HD3.out HB3.out).mono ?_); rintro e w4 ⟨rfl, Sp4, hd, hk⟩; have HD4 := Lib.hid hd; have HB4 := Lib.hid (HB3.out.trans (hk.below HD3.out.ge (Nat.le_of_lt HD3.out.dok.2))); clear hd hk)
  clear HD3 A3
  go_upto_region 12 with (go_at_call 12; (with_reducible refine (A4.out _ _ HD4.out HB4.out).mono ?_); rintro e w5 ⟨rfl, Sp5, hd, hk⟩; have HD5 := Lib.hid hd; have HB5 := Lib.hid (HB4.out.trans (hk.below HD4.out.ge (Nat.le_of_lt HD4.out.dok.2))); clear hd hk)
  clear HD4 A4
  go_upto_region 13 with (go_at_call 17; (with_reducible refine (N5.out _ _ HD5.out).mono ?_); rintro e w6 ⟨rfl, Sp6, hd, hk⟩; have HD6 := Lib.hid hd; have HB6 := Lib.hid (HB5.out.trans (hk.below HD5.out.ge (Nat.le_of_lt HD5.out.dok.2))); clear hd hk)
  clear HD5 N5
  go_upto_region 14 with (go_at_call 17; (with_reducible refine (N6.out _ _ HD6.out).mono ?_); rintro e w7 ⟨rfl, Sp7, hd, hk⟩; have HD7 := Lib.hid hd; have HB7 := Lib.hid (HB6.out.trans (hk.below HD6.out.ge (Nat.le_of_lt HD6.out.dok.2))); clear hd hk)
  clear HD6 N6
  go_upto_region 15 with (go_at_call 17; (with_reducible refine (N7.out _ _ HD7.out).mono ?_); rintro e w8 ⟨rfl, Sp8, hd, hk⟩; have HD8 := Lib.hid hd; have HB8 := Lib.hid (HB7.out.trans (hk.below HD7.out.ge (Nat.le_of_lt HD7.out.dok.2))); clear hd hk)
  clear HD7 N7
  obtain ⟨G, hG⟩ : ∃ G, G = a ++ r := ⟨_, rfl⟩
  have HG := Lib.hid hG
  have hGL : G.length = n + k := by rw [hG, List.length_append, LA.out.1, LA.out.2.2]
  rw [← hG] at F8 HD8 C9
  obtain ⟨l, hl⟩ : ∃ l, l = n + k := ⟨_, rfl⟩
  rw [← hl] at hGL
  have HGL := Lib.hid hGL
  have HL := Lib.hid hl
  have hl4 : l ≤ 400 := by omega
  clear hl hG
  go_upto_region 16 with (go_at_call 32; (with_reducible refine (F8.out _ _ HD8.out).mono ?_); rintro e w9 ⟨v9, l9, rfl, hf9, hl9, hb9⟩; obtain ⟨y, rfl, hy⟩ := List.map_eq_singleton_iff.1 hl9; obtain ⟨g9, c9, hv9⟩ : ∃ g c, v9 = .slice (some ⟨g, 0, none⟩) 1 c := (by rcases hf9.own.2 with ⟨_, h0⟩ | ⟨g, cap, cur, hv, _⟩; exact absurd h0 (by simp); exact ⟨g, cap, hv⟩); subst hv9; have HY := Lib.hid hy; have HR9 := Lib.hid (Rd.of_own hf9.own); have HR9d : Hid (Rd w9 w9.heap.size y.A (y.da.map B8)) := Lib.hid (Rd.of_own (hf9.each y (by simp))); have HN9 := Lib.hid (fun (a : Addr) (ha : some (⟨g9, 0, none⟩ : Addr) = some a) (hs : Sp8 a.block) => (by have h1 := own_block_ge hf9.own a.block (by injection ha with ha; subst ha; simp [Value.ownBlock]); have h2 := HD8.out.lt _ hs; omega : False)); have HN9d := Lib.hid (fun (a : Addr) (ha : y.A = some a) (hs : Sp8 a.block) => (by have h1 := own_block_ge (hf9.each y (by simp)) a.block (by simp [Lf.val, Value.ownBlock, ha]); have h2 := HD8.out.lt _ hs; omega : False)); have HD9 := Lib.hid (HD8.out.below hb9); have HB9 := Lib.hid (HB8.out.trans (hb9.mono (Nat.le_of_lt HD8.out.dok.2))); clear hf9 hl9 hb9 hy)
  clear F8 HD8
  go_upto_region 17 with (go_at_call 23; (with_reducible refine (C9.out _ _ _ HD9.out).mono ?_); rintro e w10 ⟨rfl, Sp10, hd, hk⟩; have HD10 := Lib.hid hd; have HB10 := Lib.hid ((HB9.out.alloc (Nat.le_of_lt HD9.out.dok.2) _).trans (hk.below HD9.out.ge (by simp; have := HD9.out.dok.2; omega))); have HK := Lib.hid hk; clear hd hk)
  clear HD9 C9
  have hla : a.length = n := LA.out.1
  go_upto_region 18 with (go_at_call 25; (with_reducible refine (R10.out _ _ HD10.out).mono ?_); rintro e w11 ⟨A11, c11, rfl, ho11, hb11⟩; have HR11 : Hid (Rd w11 w11.heap.size A11 (a.map B8)) := Lib.hid (Rd.of_own ho11); have HBB := Lib.hid hb11; have HB11 := Lib.hid (HB10.out.trans (hb11.mono (Nat.le_of_lt HD10.out.dok.2))); clear ho11 hb11)
  clear HD10 R10 hla
  obtain ⟨z1, z2⟩ := BW.out _ HB11.out
  have hy2 : y.da = G := congrArg (fun t => t.2.1) HY.out
  have hy3 : y.su = (n : Int) := congrArg (fun t => t.2.2) HY.out
  have hy1 : y.nm = ⟨#[121]⟩ := congrArg (fun t => t.1) HY.out
  have hz9 : w9.heap.size ≤ (w9.alloc (.cells #[.int .i64 0] 3)).heap.size := by simp
  have hz10 : w9.heap.size ≤ w10.heap.size := Nat.le_trans hz9 HK.out.size
  have hr := (HK.out.rd (HR9.out.alloc (Nat.le_refl _) _) hz9 (fun _ => HN9.out)).below (HBB.out.mono hz10)
  have RG := (HK.out.rd (HR9d.out.alloc (Nat.le_refl _) _) hz9 (fun _ => HN9d.out)).below (HBB.out.mono hz10)
  rw [hy2] at RG
  obtain ⟨a9, ha9, _, x0, x1, x2⟩ := file_cells hr (k := 0) (e := y) rfl l (by rw [hy2]; exact HGL.out.symm)
  injection ha9 with ha9
  subst ha9
  rw [hy1] at x0
  rw [hy3] at x2
  rw [Addr.add_lit] at x0 x1 x2
  have y0 : w11.cell? ⟨g9, 0, none⟩ = some (.string ⟨#[121]⟩) := x0
  have y1 : w11.cell? ⟨g9, 1, none⟩ = some (.slice y.A l y.c) := x1
  have y2 : w11.cell? ⟨g9, 2, none⟩ = some (.int .i64 (n : Int)) := x2
  clear x0 x1 x2 hr
  have R11 := HR11.out
  have RA := HA.out.below z1
  have RR := HRR.out.below z1
  have K1 : ∀ q, (convert 29 9 (.slice y.A l y.c)).run Try.prog (w11.drewN q) = .ok (.string (S8 G)) (w11.drewN q) := fun q => run_str (P := Try.prog) 29 5 9 Try.underlying29 Try.underlying5 Try.underlying9 (w := w11.drewN q) (show Rd (w11.drewN q) _ y.A (G.map B8) from RG) l y.c HGL.out.symm
  have K2 : ∀ q, (convert 29 9 (.slice aA n ac)).run Try.prog (w11.drewN q) = .ok (.string (S8 a)) (w11.drewN q) := fun q => run_str (P := Try.prog) 29 5 9 Try.underlying29 Try.underlying5 Try.underlying9 (w := w11.drewN q) (show Rd (w11.drewN q) _ aA (a.map B8) from RA) n ac HN.out
  have K3 : ∀ q, (convert 29 9 (.slice rA k rc)).run Try.prog (w11.drewN q) = .ok (.string (S8 r)) (w11.drewN q) := fun q => run_str (P := Try.prog) 29 5 9 Try.underlying29 Try.underlying5 Try.underlying9 (w := w11.drewN q) (show Rd (w11.drewN q) _ rA (r.map B8) from RR) k rc HK0.out
  have K4 : ∀ q, (convert 29 9 (.slice A11 n c11)).run Try.prog (w11.drewN q) = .ok (.string (S8 a)) (w11.drewN q) := fun q => run_str (P := Try.prog) 29 5 9 Try.underlying29 Try.underlying5 Try.underlying9 (w := w11.drewN q) (show Rd (w11.drewN q) _ A11 (a.map B8) from R11) n c11 HN.out
  have K5 : ∀ W, (Op.stringOp .add (S8 a) (S8 r)).run Try.prog W = .ok (.string (S8 G)) W := fun W => by
    have h := run_string_add_sum (P := Try.prog) W (S8 a) (S8 r) (by
      show (S8 a).data.size + (S8 r).data.size ≤ _
      unfold S8
      simp only [List.size_toArray, LA.out.1, LA.out.2.2]; omega)
    rw [h, HG.out]
    unfold S8
    rw [ByteArray.mk_append_mk]
  clear R11 RA RR RG HK HR9 HR9d HN9 HN9d HR11 HBB hy1 hy2 hy3 hz9 hz10
  generalize S8 G = SG at *
  generalize S8 a = SA at *
  generalize S8 r = SR at *
  obtain ⟨yA, hyA⟩ : ∃ yA, yA = y.A := ⟨_, rfl⟩
  obtain ⟨yc, hyc⟩ : ∃ yc, yc = y.c := ⟨_, rfl⟩
  rw [← hyA, ← hyc] at y1 K1
  clear hyA hyc HY
  go_quiet ((go_at_call 13; with_reducible exact Calls.quiet_of_same (num_any _ _)))
  go_wp2_with fail
  go_ret
  exact ⟨rfl, z1.trans ⟨rfl, rfl, rfl, Nat.le_refl _, fun _ _ => rfl⟩⟩
set_option maxHeartbeats 8000000 in
theorem names6f (aA : Option Addr) (a : List UInt8) (n ac : Nat) (bA : Option Addr) (b : List UInt8) (m bc : Nat) (rA : Option Addr) (r : List UInt8) (k rc : Nat) (w : World) (hn : n = a.length) (ha : Rd w w.heap.size aA (a.map B8)) (hac : n ≤ maxLen) (hm : m = b.length) (hb : Rd w w.heap.size bA (b.map B8)) (hbc : m ≤ maxLen) (hk : k = r.length) (hr : Rd w w.heap.size rA (r.map B8)) (hrc : k ≤ maxLen) :
    Calls Try.prog 6 #[.slice aA n ac, .slice bA m bc, .slice rA k rc, .bool false] w fun e w' => e = .returned (.bool true) ∧ Below w.heap.size w w' := by
  have HN := Lib.hid hn
  have HM := Lib.hid hm
  have HK0 := Lib.hid hk
  have HA := Lib.hid ha
  have HBR := Lib.hid hb
  have HRR := Lib.hid hr
  simp only [maxLen] at hac hbc hrc
  clear hn hm hk ha hb hr
  by_cases h1 : 200 < n
  · have d1 : decide ((200 : Int) < (n : Int)) = true := decide_eq_true (by omega)
    go_enter Try.func6, Try.ntmps6
    go_wp2_with (go_at_call 8; (with_reducible refine (alive6_calls _).mono ?_); rintro e w0 ⟨rfl, hb0⟩; have HB0 := Lib.hid hb0; clear hb0)
    go_ret
    exact ⟨rfl, HB0.out⟩
  have d1 : decide ((200 : Int) < (n : Int)) = false := decide_eq_false (by omega)
  by_cases h2 : 200 < m
  · have d2 : decide ((200 : Int) < (m : Int)) = true := decide_eq_true (by omega)
    go_enter Try.func6, Try.ntmps6
    go_wp2_with (go_at_call 8; (with_reducible refine (alive6_calls _).mono ?_); rintro e w0 ⟨rfl, hb0⟩; have HB0 := Lib.hid hb0; clear hb0)
    go_ret
    exact ⟨rfl, HB0.out⟩
  have d2 : decide ((200 : Int) < (m : Int)) = false := decide_eq_false (by omega)
  by_cases h3 : 200 < k
  · have d3 : decide ((200 : Int) < (k : Int)) = true := decide_eq_true (by omega)
    go_enter Try.func6, Try.ntmps6
    go_wp2_with (go_at_call 8; (with_reducible refine (alive6_calls _).mono ?_); rintro e w0 ⟨rfl, hb0⟩; have HB0 := Lib.hid hb0; clear hb0)
    go_ret
    exact ⟨rfl, HB0.out⟩
  have d3 : decide ((200 : Int) < (k : Int)) = false := decide_eq_false (by omega)
  have hn2 : n ≤ 200 := by omega
  have hm2 : m ≤ 200 := by omega
  have hk2 : k ≤ 200 := by omega
  clear h1 h2 h3
  have NW := Lib.hid (fun W => newL 1000 1000 W (by decide) ⟨by decide, by decide⟩)
  have kc := fun (w : World) (C : Array Value) (n c : Nat) => Lib.run_convert_bytes_const (P := Try.prog) w 29 5 C n c Try.underlying29 Try.underlying5
  go_enter Try.func6, Try.ntmps6
  go_upto_region 5 with (first
    | (go_at_call 10; (with_reducible refine (NW.out _).mono ?_); rintro e w1 ⟨rfl, ⟨S1, hd1⟩, hb1⟩; have HD1 := Lib.hid hd1; have HB1 := Lib.hid hb1; clear hd1 hb1)
    | (go_at_call 8; (with_reducible refine (alive6_calls _).mono ?_); rintro e w0 ⟨rfl, hb0⟩; have HB0 := Lib.hid hb0; clear hb0))
  clear d1 d2 d3
  obtain ⟨D, hD⟩ : ∃ D, D = w0.heap.size := ⟨_, rfl⟩
  have HDE := Lib.hid hD
  rw [← hD] at HD1 HB1 ⊢
  clear hD NW
  have BW : Hid (∀ W, Below D w0 W → Below w.heap.size w W ∧ w.heap.size ≤ D) := Lib.hid (fun W h => ⟨HB0.out.trans (h.mono (by rw [HDE.out]; exact HB0.out.size)), by rw [HDE.out]; exact HB0.out.size⟩)
  have LA : Hid (a.length = n ∧ b.length = m ∧ r.length = k) := Lib.hid ⟨HN.out.symm, HM.out.symm, HK0.out.symm⟩
  have A1 : Hid (∀ W S, DvL W D D (Dg.new 1000) S → Below D w0 W → Calls Try.prog 12 #[.pointer (some ⟨D, 0, none⟩), .string ⟨#[120]⟩, .slice aA n ac] W (LeftL D D (gM ⟨#[120]⟩ n a 0) S (.int .i64 0) W)) := Lib.hid (fun W S h hb => by
    obtain ⟨b1, b2⟩ := BW.out W hb
    have kk := appendL D D (Dg.new 1000) S ⟨#[120]⟩ aA a n ac w.heap.size W h (ok_none _ _ _ _ ⟨by decide, by decide⟩ ⟨by decide, by decide⟩ ⟨by decide, by decide⟩) rfl (by decide +kernel) (by show (n : Int) ≤ 1000 - 0; omega) HN.out (HA.out.below b1) b1.size (fun hne => rd_out (HA.out.below b1) h.ge b2 (by simpa using hne)) (by rw [LA.out.1]; omega)
    rw [put_newM, LA.out.1] at kk
    exact kk)
  have Y2 : Hid (∀ W S, DvL W D D (gM ⟨#[120]⟩ n a 0) S → Calls Try.prog 15 #[.pointer (some ⟨D, 0, none⟩), .string ⟨#[120]⟩] W (LeftL D D (gM ⟨#[120]⟩ n a n) S (.int .i64 0) W)) := Lib.hid (fun W S h => by
    have kk := sync_hitL D D (gM ⟨#[120]⟩ n a 0) S ⟨#[120]⟩ 0 (⟨#[120]⟩, a, 0) W h (gM_ok _ _ _ _ ⟨by omega, by omega⟩ (by rw [LA.out.1]; omega)) rfl (hit_m _ _ _) (pos_m _ _ _) rfl
    rw [sync_m, LA.out.1] at kk
    exact kk)
  have A3 : Hid (∀ W S, DvL W D D (gM ⟨#[120]⟩ n a n) S → Below D w0 W → Calls Try.prog 12 #[.pointer (some ⟨D, 0, none⟩), .string ⟨#[120]⟩, .slice rA k rc] W (LeftL D D (gM ⟨#[120]⟩ ((n : Int) + k) (a ++ r) n) S (.int .i64 0) W)) := Lib.hid (fun W S h hb => by
    obtain ⟨b1, b2⟩ := BW.out W hb
    have kk := appendL D D (gM ⟨#[120]⟩ n a n) S ⟨#[120]⟩ rA r k rc w.heap.size W h (gM_ok _ _ _ _ ⟨by omega, by omega⟩ (by rw [LA.out.1]; omega)) rfl (by decide +kernel) (by show (k : Int) ≤ 1000 - (n : Int); omega) HK0.out (HRR.out.below b1) b1.size (fun hne => rd_out (HRR.out.below b1) h.ge b2 (by simpa using hne)) (by rw [LA.out.2.2]; omega)
    rw [put_m, LA.out.2.2] at kk
    exact kk)
  have N5 : Hid (∀ W S, DvL W D D (gM ⟨#[120]⟩ ((n : Int) + k) (a ++ r) n) S → Calls Try.prog 17 #[.pointer (some ⟨D, 0, none⟩), .string ⟨#[120]⟩, .string ⟨#[121]⟩] W (LeftL D D (gM ⟨#[121]⟩ ((n : Int) + k) (a ++ r) n) S (.int .i64 0) W)) := Lib.hid (fun W S h => rename0L D D (gM ⟨#[120]⟩ ((n : Int) + k) (a ++ r) n) S ⟨#[120]⟩ ⟨#[121]⟩ 0 0 (⟨#[120]⟩, a ++ r, (n : Int)) W h (gM_ok _ _ _ _ ⟨by omega, by omega⟩ (by rw [List.length_append, LA.out.1, LA.out.2.2]; omega)) rfl (hit_m _ _ _) (pos_m _ _ _) rfl (by decide +kernel) (by decide +kernel) rfl rfl)
  have N6 : Hid (∀ W S, DvL W D D (gM ⟨#[121]⟩ ((n : Int) + k) (a ++ r) n) S → Calls Try.prog 17 #[.pointer (some ⟨D, 0, none⟩), .string ⟨#[120]⟩, .string ⟨#[122]⟩] W (LeftL D D (gM ⟨#[121]⟩ ((n : Int) + k) (a ++ r) n) S (.int .i64 4) W)) := Lib.hid (fun W S h => rename_noneL D D _ S ⟨#[120]⟩ ⟨#[122]⟩ W h (gM_ok _ _ _ _ ⟨by omega, by omega⟩ (by rw [List.length_append, LA.out.1, LA.out.2.2]; omega)) rfl (miss_x _ _))
  have N7 : Hid (∀ W S, DvL W D D (gM ⟨#[121]⟩ ((n : Int) + k) (a ++ r) n) S → Calls Try.prog 17 #[.pointer (some ⟨D, 0, none⟩), .string ⟨#[121]⟩, .string ⟨#[]⟩] W (LeftL D D (gM ⟨#[121]⟩ ((n : Int) + k) (a ++ r) n) S (.int .i64 1) W)) := Lib.hid (fun W S h => rename_emptyL D D _ S ⟨#[121]⟩ ⟨#[]⟩ W h (gM_ok _ _ _ _ ⟨by omega, by omega⟩ (by rw [List.length_append, LA.out.1, LA.out.2.2]; omega)) rfl (hit_m _ _ _) (by decide +kernel))
  have F8 : Hid (∀ W S, DvL W D D (gM ⟨#[121]⟩ ((n : Int) + k) (a ++ r) n) S → Calls Try.prog 32 #[.pointer (some ⟨D, 0, none⟩)] W (FilesOf [(⟨#[121]⟩, a ++ r, (n : Int))] W)) := Lib.hid (fun W S h => filesL D D _ S W h (gM_ok _ _ _ _ ⟨by omega, by omega⟩ (by rw [List.length_append, LA.out.1, LA.out.2.2]; omega)) (by show 1 ≤ 100000; decide))
  have C9 : Hid (∀ W S fr, DvL W D D (gM ⟨#[121]⟩ ((n : Int) + k) (a ++ r) n) S → Calls Try.prog 23 #[.pointer (some ⟨D, 0, none⟩), .slice (some ⟨W.heap.size, 0, none⟩) 1 1] (W.alloc (.cells #[.int .i64 0] 3 fr)) (LeftL D D (gM ⟨#[121]⟩ n a n) S (.tuple #[]) (W.alloc (.cells #[.int .i64 0] 3 fr)))) := Lib.hid (fun W S fr h => by
    have kk := crashL D D (gM ⟨#[121]⟩ ((n : Int) + k) (a ++ r) n) S (some ⟨W.heap.size, 0, none⟩) [0] 1 1 (W.heap.size + 1) (W.alloc (.cells #[.int .i64 0] 3 fr)) (h.below ((Below.refl _ _).alloc (Nat.le_refl _) _)) (gM_ok _ _ _ _ ⟨by omega, by omega⟩ (by rw [List.length_append, LA.out.1, LA.out.2.2]; omega)) (by show 1 ≤ 100000; decide)
      (fun x hx => by
        rw [show (gM ⟨#[121]⟩ ((n : Int) + k) (a ++ r) n).L = [((⟨#[121]⟩ : ByteArray), a ++ r, (n : Int))] from rfl] at hx
        rw [List.mem_singleton] at hx
        subst hx
        refine ⟨by show (0 : Int) ≤ n; omega, ?_⟩
        show (n : Int) ≤ ((a ++ r).length : Int)
        rw [List.length_append, LA.out.1]; omega)
      (by show (n : Int) + k = sumD [((⟨#[121]⟩ : ByteArray), a ++ r, (n : Int))]; unfold sumD; simp [LA.out.1, LA.out.2.2])
      rfl (by decide) (by have := Rd.litm W #[Value.int .i64 0] 3 fr; simpa using this) (by simp) (fun x hx hs => by injection hx with hx; subst hx; have := h.lt _ hs; simp at this) (fun y hy => by rw [List.mem_singleton] at hy; subst hy; decide)
    have e := crash_m ⟨#[121]⟩ ((n : Int) + k) a r
    rw [LA.out.1] at e
    rw [e] at kk
    exact kk)
  have R10 : Hid (∀ W S, DvL W D D (gM ⟨#[121]⟩ n a n) S → Calls Try.prog 25 #[.pointer (some ⟨D, 0, none⟩), .string ⟨#[121]⟩] W (ReadOf a W)) := Lib.hid (fun W S h => read_hitL D D _ S ⟨#[121]⟩ 0 (⟨#[121]⟩, a, (n : Int)) W h (gM_ok _ _ _ _ ⟨by omega, by omega⟩ (by rw [LA.out.1]; omega)) (hit_m _ _ _) (pos_m _ _ _) rfl)
  go_upto_region 8 with (go_at_call 12; (with_reducible refine (A1.out _ _ HD1.out HB1.out).mono ?_); rintro e w2 ⟨rfl, Sp2, hd, hk⟩; have HD2 := Lib.hid hd; have HB2 := Lib.hid (HB1.out.trans (hk.below HD1.out.ge (Nat.le_of_lt HD1.out.dok.2))); clear hd hk)
  clear HD1 A1
  go_upto_region 9 with (go_at_call 15; (with_reducible refine (Y2.out _ _ HD2.out).mono ?_); rintro e w3 ⟨rfl, Sp3, hd, hk⟩; have HD3 := Lib.hid hd; have HB3 := Lib.hid (HB2.out.trans (hk.below HD2.out.ge (Nat.le_of_lt HD2.out.dok.2))); clear hd hk)
  clear HD2 Y2
  go_upto_region 10 with (go_at_call 12; (with_reducible refine (A3.out _ _ HD3.out HB3.out).mono ?_); rintro e w4 ⟨rfl, Sp4, hd, hk⟩; have HD4 := Lib.hid hd; have HB4 := Lib.hid (HB3.out.trans (hk.below HD3.out.ge (Nat.le_of_lt HD3.out.dok.2))); clear hd hk)
  clear HD3 A3
  go_upto_region 13 with (go_at_call 17; (with_reducible refine (N5.out _ _ HD4.out).mono ?_); rintro e w6 ⟨rfl, Sp6, hd, hk⟩; have HD6 := Lib.hid hd; have HB6 := Lib.hid (HB4.out.trans (hk.below HD4.out.ge (Nat.le_of_lt HD4.out.dok.2))); clear hd hk)
  clear HD4 N5
  go_upto_region 14 with (go_at_call 17; (with_reducible refine (N6.out _ _ HD6.out).mono ?_); rintro e w7 ⟨rfl, Sp7, hd, hk⟩; have HD7 := Lib.hid hd; have HB7 := Lib.hid (HB6.out.trans (hk.below HD6.out.ge (Nat.le_of_lt HD6.out.dok.2))); clear hd hk)
  clear HD6 N6
  go_upto_region 15 with (go_at_call 17; (with_reducible refine (N7.out _ _ HD7.out).mono ?_); rintro e w8 ⟨rfl, Sp8, hd, hk⟩; have HD8 := Lib.hid hd; have HB8 := Lib.hid (HB7.out.trans (hk.below HD7.out.ge (Nat.le_of_lt HD7.out.dok.2))); clear hd hk)
  clear HD7 N7
  obtain ⟨G, hG⟩ : ∃ G, G = a ++ r := ⟨_, rfl⟩
  have HG := Lib.hid hG
  have hGL : G.length = n + k := by rw [hG, List.length_append, LA.out.1, LA.out.2.2]
  rw [← hG] at F8 HD8 C9
  obtain ⟨l, hl⟩ : ∃ l, l = n + k := ⟨_, rfl⟩
  rw [← hl] at hGL
  have HGL := Lib.hid hGL
  have HL := Lib.hid hl
  have hl4 : l ≤ 400 := by omega
  clear hl hG
  go_upto_region 16 with (go_at_call 32; (with_reducible refine (F8.out _ _ HD8.out).mono ?_); rintro e w9 ⟨v9, l9, rfl, hf9, hl9, hb9⟩; obtain ⟨y, rfl, hy⟩ := List.map_eq_singleton_iff.1 hl9; obtain ⟨g9, c9, hv9⟩ : ∃ g c, v9 = .slice (some ⟨g, 0, none⟩) 1 c := (by rcases hf9.own.2 with ⟨_, h0⟩ | ⟨g, cap, cur, hv, _⟩; exact absurd h0 (by simp); exact ⟨g, cap, hv⟩); subst hv9; have HY := Lib.hid hy; have HR9 := Lib.hid (Rd.of_own hf9.own); have HR9d : Hid (Rd w9 w9.heap.size y.A (y.da.map B8)) := Lib.hid (Rd.of_own (hf9.each y (by simp))); have HN9 := Lib.hid (fun (a : Addr) (ha : some (⟨g9, 0, none⟩ : Addr) = some a) (hs : Sp8 a.block) => (by have h1 := own_block_ge hf9.own a.block (by injection ha with ha; subst ha; simp [Value.ownBlock]); have h2 := HD8.out.lt _ hs; omega : False)); have HN9d := Lib.hid (fun (a : Addr) (ha : y.A = some a) (hs : Sp8 a.block) => (by have h1 := own_block_ge (hf9.each y (by simp)) a.block (by simp [Lf.val, Value.ownBlock, ha]); have h2 := HD8.out.lt _ hs; omega : False)); have HD9 := Lib.hid (HD8.out.below hb9); have HB9 := Lib.hid (HB8.out.trans (hb9.mono (Nat.le_of_lt HD8.out.dok.2))); clear hf9 hl9 hb9 hy)
  clear F8 HD8
  go_upto_region 17 with (go_at_call 23; (with_reducible refine (C9.out _ _ _ HD9.out).mono ?_); rintro e w10 ⟨rfl, Sp10, hd, hk⟩; have HD10 := Lib.hid hd; have HB10 := Lib.hid ((HB9.out.alloc (Nat.le_of_lt HD9.out.dok.2) _).trans (hk.below HD9.out.ge (by simp; have := HD9.out.dok.2; omega))); have HK := Lib.hid hk; clear hd hk)
  clear HD9 C9
  have hla : a.length = n := LA.out.1
  go_upto_region 18 with (go_at_call 25; (with_reducible refine (R10.out _ _ HD10.out).mono ?_); rintro e w11 ⟨A11, c11, rfl, ho11, hb11⟩; have HR11 : Hid (Rd w11 w11.heap.size A11 (a.map B8)) := Lib.hid (Rd.of_own ho11); have HBB := Lib.hid hb11; have HB11 := Lib.hid (HB10.out.trans (hb11.mono (Nat.le_of_lt HD10.out.dok.2))); clear ho11 hb11)
  clear HD10 R10 hla
  obtain ⟨z1, z2⟩ := BW.out _ HB11.out
  have hy2 : y.da = G := congrArg (fun t => t.2.1) HY.out
  have hy3 : y.su = (n : Int) := congrArg (fun t => t.2.2) HY.out
  have hy1 : y.nm = ⟨#[121]⟩ := congrArg (fun t => t.1) HY.out
  have hz9 : w9.heap.size ≤ (w9.alloc (.cells #[.int .i64 0] 3)).heap.size := by simp
  have hz10 : w9.heap.size ≤ w10.heap.size := Nat.le_trans hz9 HK.out.size
  have hr := (HK.out.rd (HR9.out.alloc (Nat.le_refl _) _) hz9 (fun _ => HN9.out)).below (HBB.out.mono hz10)
  have RG := (HK.out.rd (HR9d.out.alloc (Nat.le_refl _) _) hz9 (fun _ => HN9d.out)).below (HBB.out.mono hz10)
  rw [hy2] at RG
  obtain ⟨a9, ha9, _, x0, x1, x2⟩ := file_cells hr (k := 0) (e := y) rfl l (by rw [hy2]; exact HGL.out.symm)
  injection ha9 with ha9
  subst ha9
  rw [hy1] at x0
  rw [hy3] at x2
  rw [Addr.add_lit] at x0 x1 x2
  have y0 : w11.cell? ⟨g9, 0, none⟩ = some (.string ⟨#[121]⟩) := x0
  have y1 : w11.cell? ⟨g9, 1, none⟩ = some (.slice y.A l y.c) := x1
  have y2 : w11.cell? ⟨g9, 2, none⟩ = some (.int .i64 (n : Int)) := x2
  clear x0 x1 x2 hr
  have R11 := HR11.out
  have RA := HA.out.below z1
  have RR := HRR.out.below z1
  have K1 : ∀ q, (convert 29 9 (.slice y.A l y.c)).run Try.prog (w11.drewN q) = .ok (.string (S8 G)) (w11.drewN q) := fun q => run_str (P := Try.prog) 29 5 9 Try.underlying29 Try.underlying5 Try.underlying9 (w := w11.drewN q) (show Rd (w11.drewN q) _ y.A (G.map B8) from RG) l y.c HGL.out.symm
  have K2 : ∀ q, (convert 29 9 (.slice aA n ac)).run Try.prog (w11.drewN q) = .ok (.string (S8 a)) (w11.drewN q) := fun q => run_str (P := Try.prog) 29 5 9 Try.underlying29 Try.underlying5 Try.underlying9 (w := w11.drewN q) (show Rd (w11.drewN q) _ aA (a.map B8) from RA) n ac HN.out
  have K3 : ∀ q, (convert 29 9 (.slice rA k rc)).run Try.prog (w11.drewN q) = .ok (.string (S8 r)) (w11.drewN q) := fun q => run_str (P := Try.prog) 29 5 9 Try.underlying29 Try.underlying5 Try.underlying9 (w := w11.drewN q) (show Rd (w11.drewN q) _ rA (r.map B8) from RR) k rc HK0.out
  have K4 : ∀ q, (convert 29 9 (.slice A11 n c11)).run Try.prog (w11.drewN q) = .ok (.string (S8 a)) (w11.drewN q) := fun q => run_str (P := Try.prog) 29 5 9 Try.underlying29 Try.underlying5 Try.underlying9 (w := w11.drewN q) (show Rd (w11.drewN q) _ A11 (a.map B8) from R11) n c11 HN.out
  have K5 : ∀ W, (Op.stringOp .add (S8 a) (S8 r)).run Try.prog W = .ok (.string (S8 G)) W := fun W => by
    have h := run_string_add_sum (P := Try.prog) W (S8 a) (S8 r) (by
      show (S8 a).data.size + (S8 r).data.size ≤ _
      unfold S8
      simp only [List.size_toArray, LA.out.1, LA.out.2.2]; omega)
    rw [h, HG.out]
    unfold S8
    rw [ByteArray.mk_append_mk]
  clear R11 RA RR RG HK HR9 HR9d HN9 HN9d HR11 HBB hy1 hy2 hy3 hz9 hz10
  generalize S8 G = SG at *
  generalize S8 a = SA at *
  generalize S8 r = SR at *
  obtain ⟨yA, hyA⟩ : ∃ yA, yA = y.A := ⟨_, rfl⟩
  obtain ⟨yc, hyc⟩ : ∃ yc, yc = y.c := ⟨_, rfl⟩
  rw [← hyA, ← hyc] at y1 K1
  clear hyA hyc HY
  go_quiet ((go_at_call 13; with_reducible exact Calls.quiet_of_same (num_any _ _)))
  go_wp2_with fail
  go_ret
  exact ⟨rfl, z1.trans ⟨rfl, rfl, rfl, Nat.le_refl _, fun _ _ => rfl⟩⟩
theorem names6 (aA : Option Addr) (a : List UInt8) (n ac : Nat) (bA : Option Addr) (b : List UInt8) (m bc : Nat) (rA : Option Addr) (r : List UInt8) (k rc : Nat) (o : Bool) (w : World) (hn : n = a.length) (ha : Rd w w.heap.size aA (a.map B8)) (hac : n ≤ maxLen) (hm : m = b.length) (hb : Rd w w.heap.size bA (b.map B8)) (hbc : m ≤ maxLen) (hk : k = r.length) (hr : Rd w w.heap.size rA (r.map B8)) (hrc : k ≤ maxLen) :
    Calls Try.prog 6 #[.slice aA n ac, .slice bA m bc, .slice rA k rc, .bool o] w fun e w' => e = .returned (.bool true) ∧ Below w.heap.size w w' := by
  cases o
  · exact names6f aA a n ac bA b m bc rA r k rc w hn ha hac hm hb hbc hk hr hrc
  · exact names6t aA a n ac bA b m bc rA r k rc w hn ha hac hm hb hbc hk hr hrc
end Go.Proofs.Ytlpaaaiobclmoaa
