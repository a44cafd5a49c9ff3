/- shelf.Put. -/
import Derived.Test.YtbdiamhhlabojaaDoorHa
namespace Go.Proofs.YtbdiamhhlabojaaDoor
open Go.RowKit
set_option linter.unusedVariables false
set_option linter.unusedSimpArgs false
set_option maxRecDepth 100000

theorem rename_deadL (base D : Nat) (g : Dg) (S : Nat → Prop) (frm tn : ByteArray) (w : World) (h : DvL w base D g S) (hd : g.dead = true) : Calls Tryd.prog 57 #[.pointer (some ⟨D, 0, none⟩), .string frm, .string tn] w (LeftL base D g S (.int .i64 5) w) := by
  obtain ⟨d, h1, rfl, e1, e2, e3, e4, e5, rfl⟩ := h
  exact (rename_dead base d frm tn w h1 (by rw [dead_of e3 e4]; exact hd)).mono fun e w' h => ⟨h.1, _, ⟨_, h.2.1, rfl, e1, e2, e3, e4, e5, rfl⟩, h.2.2⟩
theorem ren_s {f t : ByteArray} (hp : Pr f t) (D : Nat) (rm us : Int) (fu : Bool) (lf : Int) (A : Option (List UInt8)) (b : List UInt8) (S : Nat → Prop) (w : World) (h : DvL w D D (gS f t rm us fu lf A (some (b, (b.length : Int)))) S) (hus : us = (bytA A : Int) + b.length) (hk : (gS f t rm us fu lf A (some (b, (b.length : Int)))).ok) (hd : (gS f t rm us fu lf A (some (b, (b.length : Int)))).dead = false) :
    Calls Tryd.prog 57 #[.pointer (some ⟨D, 0, none⟩), .string t, .string f] w (LeftL D D (gS f t rm (b.length : Int) fu (if fu = true then lf - 1 else lf) (some b) none) S (.int .i64 0) w) := by
  have hft : (f.toList == t.toList) = false := hp.ft
  cases A with
  | none =>
    have kk := rename0L D D _ S t f 0 0 (t, b, (b.length : Int)) w h hk hd (hit_t hp none (b, (b.length : Int))) (pos_t hp none (b, (b.length : Int))) rfl hp.fne hft rfl rfl
    have e : us = (b.length : Int) := by rw [hus]; simp [bytA]
    rw [e] at kk
    exact kk
  | some x =>
    have kk := rename1L D D _ S t f 1 0 (t, b, (b.length : Int)) (f, x, (x.length : Int)) w h hk hd (hit_t hp (some x) (b, (b.length : Int))) (pos_t hp (some x) (b, (b.length : Int))) rfl hp.fne hft (hit_sf hp (some x) none) (pos_sf hp x none) rfl
    have e : us - (x.length : Int) = (b.length : Int) := by rw [hus]; simp [bytA]; omega
    simp only [gS] at kk
    simp only [e] at kk
    exact kk
theorem put_dead {f t : ByteArray} (hp : Pr f t) (D : Nat) (rm us : Int) (A : Option (List UInt8)) (bA : Option Addr) (b : List UInt8) (m bc B : Nat) (S : Nat → Prop) (w : World) (hus : us = (bytA A : Int)) (hA : bytA A ≤ 300) (hm : m = b.length) (hm3 : m ≤ 300) (hrm : us + (b.length : Int) ≤ rm ∧ rm ≤ 1000) (hbr : Rd w B bA (b.map B8)) (hB : B ≤ w.heap.size) (hbA : b ≠ [] → ∀ a, bA = some a → ¬ S a.block) (hcat : ∀ W, (Op.stringOp .add f ⟨#[46, 116, 109, 112]⟩).run Tryd.prog W = .ok (.string t) W) (h : DvL w D D (gS f t rm us true 0 A none) S) :
    Calls Tryd.prog 30 #[.pointer (some ⟨D, 0, none⟩), .string f, .slice bA m bc] w (LeftL D D (gS f t rm us true 0 A none) S (.int .i64 5) w) := by
  have HD0 := Lib.hid h
  have HK0 : Hid (Kept w w S S) := Lib.hid (Kept.refl _ _)
  have hbl : (b.length : Int) ≤ 300 := by omega
  have KD : Hid (∀ W S', DvL W D D (gS f t rm us true 0 A none) S' → Kept w W S S' → Calls Tryd.prog 45 #[.pointer (some ⟨D, 0, none⟩), .string t] W (LeftL D D (gS f t rm us true 0 A none) S' (.int .i64 5) W)) := Lib.hid (fun W S' h hk => delete_deadL D D _ S' t W h rfl)
  clear h hbr hbA hus hm
  go_enter Tryd.func30, Tryd.ntmps30
  go_wp2_with (first
    | (go_at_call 45; (with_reducible refine (KD.out _ _ HD0.out HK0.out).mono ?_); rintro e w1 ⟨rfl, Sp1, hd, hk⟩; have HD1 := Lib.hid hd; have HK1 := Lib.hid (HK0.out.trans hk); clear hd hk)
    | fail)
  go_ret
  exact ⟨rfl, _, HD1.out, HK1.out⟩
theorem put_one {f t : ByteArray} (hp : Pr f t) (D : Nat) (rm us : Int) (A : Option (List UInt8)) (bA : Option Addr) (b : List UInt8) (m bc B : Nat) (S : Nat → Prop) (w : World) (hus : us = (bytA A : Int)) (hA : bytA A ≤ 300) (hm : m = b.length) (hm3 : m ≤ 300) (hrm : us + (b.length : Int) ≤ rm ∧ rm ≤ 1000) (hbr : Rd w B bA (b.map B8)) (hB : B ≤ w.heap.size) (hbA : b ≠ [] → ∀ a, bA = some a → ¬ S a.block) (hcat : ∀ W, (Op.stringOp .add f ⟨#[46, 116, 109, 112]⟩).run Tryd.prog W = .ok (.string t) W) (h : DvL w D D (gS f t rm us true 1 A none) S) :
    Calls Tryd.prog 30 #[.pointer (some ⟨D, 0, none⟩), .string f, .slice bA m bc] w (LeftL D D (gS f t rm (us + b.length) true 0 A (some (b, 0))) S (.int .i64 5) w) := by
  have HD0 := Lib.hid h
  have HK0 : Hid (Kept w w S S) := Lib.hid (Kept.refl _ _)
  have hbl : (b.length : Int) ≤ 300 := by omega
  have KD : Hid (∀ W S', DvL W D D (gS f t rm us true 1 A none) S' → Kept w W S S' → Calls Tryd.prog 45 #[.pointer (some ⟨D, 0, none⟩), .string t] W (LeftL D D (gS f t rm us true 1 A none) S' (.int .i64 4) W)) := Lib.hid (fun W S' h hk => delete_noneL D D _ S' t W h (gS_ok hp _ _ _ _ _ _ ⟨by omega, by omega⟩ ⟨by omega, by omega⟩ ⟨by omega, by omega⟩ (by omega) (by show 0 ≤ _; omega)) rfl (hit_all (all_t hp A)))
  have KA : Hid (∀ W S', DvL W D D (gS f t rm us true 1 A none) S' → Kept w W S S' → Calls Tryd.prog 27 #[.pointer (some ⟨D, 0, none⟩), .string t, .slice bA m bc] W (LeftL D D (gS f t rm (us + b.length) true 0 A (some (b, 0))) S' (.int .i64 0) W)) := Lib.hid (fun W S' h hk => by
    have kk := appendL D D _ S' t bA b m bc B W h (gS_ok hp _ _ _ _ _ _ ⟨by omega, by omega⟩ ⟨by omega, by omega⟩ ⟨by omega, by omega⟩ (by omega) (by show 0 ≤ _; omega)) rfl hp.tne (by show (m : Int) ≤ rm - us; omega) hm (hk.rd hbr hB (fun hne => hbA (fun e0 => hne (by rw [e0]; rfl)))) (Nat.le_trans hB hk.size) (fun hne a ha hs => hbA hne a ha (hk.sub a.block (by obtain ⟨a', ha', hlt, _⟩ := hbr (by rw [List.length_map]; exact List.length_pos_iff.2 hne); rw [ha] at ha'; injection ha' with e; subst e; omega) hs)) (by omega)
    rw [put_t hp] at kk
    exact kk)
  have KS : Hid (∀ W S', DvL W D D (gS f t rm (us + b.length) true 0 A (some (b, 0))) S' → Kept w W S S' → Calls Tryd.prog 40 #[.pointer (some ⟨D, 0, none⟩), .string t] W (LeftL D D (gS f t rm (us + b.length) true 0 A (some (b, 0))) S' (.int .i64 5) W)) := Lib.hid (fun W S' h hk => sync_deadL D D _ S' t W h rfl)
  clear h hbr hbA hus hm
  go_enter Tryd.func30, Tryd.ntmps30
  go_wp2_with (first
    | (go_at_call 40; (with_reducible refine (KS.out _ _ HD2.out HK2.out).mono ?_); rintro e w3 ⟨rfl, Sp3, hd, hk⟩; have HD3 := Lib.hid hd; have HK3 := Lib.hid (HK2.out.trans hk); clear hd hk)
    | (go_at_call 27; (with_reducible refine (KA.out _ _ HD1.out HK1.out).mono ?_); rintro e w2 ⟨rfl, Sp2, hd, hk⟩; have HD2 := Lib.hid hd; have HK2 := Lib.hid (HK1.out.trans hk); clear hd hk)
    | (go_at_call 45; (with_reducible refine (KD.out _ _ HD0.out HK0.out).mono ?_); rintro e w1 ⟨rfl, Sp1, hd, hk⟩; have HD1 := Lib.hid hd; have HK1 := Lib.hid (HK0.out.trans hk); clear hd hk)
    | fail)
  go_ret
  exact ⟨rfl, _, HD3.out, HK3.out⟩
theorem put_two {f t : ByteArray} (hp : Pr f t) (D : Nat) (rm us : Int) (A : Option (List UInt8)) (bA : Option Addr) (b : List UInt8) (m bc B : Nat) (S : Nat → Prop) (w : World) (hus : us = (bytA A : Int)) (hA : bytA A ≤ 300) (hm : m = b.length) (hm3 : m ≤ 300) (hrm : us + (b.length : Int) ≤ rm ∧ rm ≤ 1000) (hbr : Rd w B bA (b.map B8)) (hB : B ≤ w.heap.size) (hbA : b ≠ [] → ∀ a, bA = some a → ¬ S a.block) (hcat : ∀ W, (Op.stringOp .add f ⟨#[46, 116, 109, 112]⟩).run Tryd.prog W = .ok (.string t) W) (h : DvL w D D (gS f t rm us true 2 A none) S) :
    Calls Tryd.prog 30 #[.pointer (some ⟨D, 0, none⟩), .string f, .slice bA m bc] w (LeftL D D (gS f t rm (us + b.length) true 0 A (some (b, (b.length : Int)))) S (.int .i64 5) w) := by
  have HD0 := Lib.hid h
  have HK0 : Hid (Kept w w S S) := Lib.hid (Kept.refl _ _)
  have hbl : (b.length : Int) ≤ 300 := by omega
  have KD : Hid (∀ W S', DvL W D D (gS f t rm us true 2 A none) S' → Kept w W S S' → Calls Tryd.prog 45 #[.pointer (some ⟨D, 0, none⟩), .string t] W (LeftL D D (gS f t rm us true 2 A none) S' (.int .i64 4) W)) := Lib.hid (fun W S' h hk => delete_noneL D D _ S' t W h (gS_ok hp _ _ _ _ _ _ ⟨by omega, by omega⟩ ⟨by omega, by omega⟩ ⟨by omega, by omega⟩ (by omega) (by show 0 ≤ _; omega)) rfl (hit_all (all_t hp A)))
  have KA : Hid (∀ W S', DvL W D D (gS f t rm us true 2 A none) S' → Kept w W S S' → Calls Tryd.prog 27 #[.pointer (some ⟨D, 0, none⟩), .string t, .slice bA m bc] W (LeftL D D (gS f t rm (us + b.length) true 1 A (some (b, 0))) S' (.int .i64 0) W)) := Lib.hid (fun W S' h hk => by
    have kk := appendL D D _ S' t bA b m bc B W h (gS_ok hp _ _ _ _ _ _ ⟨by omega, by omega⟩ ⟨by omega, by omega⟩ ⟨by omega, by omega⟩ (by omega) (by show 0 ≤ _; omega)) rfl hp.tne (by show (m : Int) ≤ rm - us; omega) hm (hk.rd hbr hB (fun hne => hbA (fun e0 => hne (by rw [e0]; rfl)))) (Nat.le_trans hB hk.size) (fun hne a ha hs => hbA hne a ha (hk.sub a.block (by obtain ⟨a', ha', hlt, _⟩ := hbr (by rw [List.length_map]; exact List.length_pos_iff.2 hne); rw [ha] at ha'; injection ha' with e; subst e; omega) hs)) (by omega)
    rw [put_t hp] at kk
    exact kk)
  have KS : Hid (∀ W S', DvL W D D (gS f t rm (us + b.length) true 1 A (some (b, 0))) S' → Kept w W S S' → Calls Tryd.prog 40 #[.pointer (some ⟨D, 0, none⟩), .string t] W (LeftL D D (gS f t rm (us + b.length) true 0 A (some (b, (b.length : Int)))) S' (.int .i64 0) W)) := Lib.hid (fun W S' h hk => by
    have kk := sync_hitL D D _ S' t (lenA A) (t, b, 0) W h (gS_ok hp _ _ _ _ _ _ ⟨by omega, by omega⟩ ⟨by omega, by omega⟩ ⟨by omega, by omega⟩ (by omega) (by show b.length ≤ _; omega)) rfl (hit_t hp A (b, 0)) (pos_t hp A (b, 0)) (at_t hp A (b, 0))
    rw [sync_t hp] at kk
    exact kk)
  have KR : Hid (∀ W S', DvL W D D (gS f t rm (us + b.length) true 0 A (some (b, (b.length : Int)))) S' → Kept w W S S' → Calls Tryd.prog 57 #[.pointer (some ⟨D, 0, none⟩), .string t, .string f] W (LeftL D D (gS f t rm (us + b.length) true 0 A (some (b, (b.length : Int)))) S' (.int .i64 5) W)) := Lib.hid (fun W S' h hk => rename_deadL D D _ S' t f W h rfl)
  clear h hbr hbA hus hm
  go_enter Tryd.func30, Tryd.ntmps30
  go_wp2_with (first
    | (go_at_call 57; (with_reducible refine (KR.out _ _ HD3.out HK3.out).mono ?_); rintro e w4 ⟨rfl, Sp4, hd, hk⟩; have HD4 := Lib.hid hd; have HK4 := Lib.hid (HK3.out.trans hk); clear hd hk)
    | (go_at_call 40; (with_reducible refine (KS.out _ _ HD2.out HK2.out).mono ?_); rintro e w3 ⟨rfl, Sp3, hd, hk⟩; have HD3 := Lib.hid hd; have HK3 := Lib.hid (HK2.out.trans hk); clear hd hk)
    | (go_at_call 27; (with_reducible refine (KA.out _ _ HD1.out HK1.out).mono ?_); rintro e w2 ⟨rfl, Sp2, hd, hk⟩; have HD2 := Lib.hid hd; have HK2 := Lib.hid (HK1.out.trans hk); clear hd hk)
    | (go_at_call 45; (with_reducible refine (KD.out _ _ HD0.out HK0.out).mono ?_); rintro e w1 ⟨rfl, Sp1, hd, hk⟩; have HD1 := Lib.hid hd; have HK1 := Lib.hid (HK0.out.trans hk); clear hd hk)
    | fail)
  go_ret
  exact ⟨rfl, _, HD4.out, HK4.out⟩
theorem put_done {f t : ByteArray} (hp : Pr f t) (D : Nat) (rm us : Int) (A : Option (List UInt8)) (bA : Option Addr) (b : List UInt8) (m bc B : Nat) (S : Nat → Prop) (w : World) (hus : us = (bytA A : Int)) (hA : bytA A ≤ 300) (hm : m = b.length) (hm3 : m ≤ 300) (hrm : us + (b.length : Int) ≤ rm ∧ rm ≤ 1000) (hbr : Rd w B bA (b.map B8)) (hB : B ≤ w.heap.size) (hbA : b ≠ [] → ∀ a, bA = some a → ¬ S a.block) (hcat : ∀ W, (Op.stringOp .add f ⟨#[46, 116, 109, 112]⟩).run Tryd.prog W = .ok (.string t) W) (lf : Int) (hlf : 3 ≤ lf ∧ lf ≤ 9223372036854775807) (h : DvL w D D (gS f t rm us true lf A none) S) :
    Calls Tryd.prog 30 #[.pointer (some ⟨D, 0, none⟩), .string f, .slice bA m bc] w (LeftL D D (gS f t rm (b.length : Int) true (lf - 1 - 1 - 1) (some b) none) S (.int .i64 0) w) := by
  have HD0 := Lib.hid h
  have HK0 : Hid (Kept w w S S) := Lib.hid (Kept.refl _ _)
  have hbl : (b.length : Int) ≤ 300 := by omega
  have KD : Hid (∀ W S', DvL W D D (gS f t rm us true lf A none) S' → Kept w W S S' → Calls Tryd.prog 45 #[.pointer (some ⟨D, 0, none⟩), .string t] W (LeftL D D (gS f t rm us true lf A none) S' (.int .i64 4) W)) := Lib.hid (fun W S' h hk => delete_noneL D D _ S' t W h (gS_ok hp _ _ _ _ _ _ ⟨by omega, by omega⟩ ⟨by omega, by omega⟩ ⟨by omega, by omega⟩ (by omega) (by show 0 ≤ _; omega)) (by show (true && decide (lf = 0)) = false; rw [Bool.true_and]; exact decide_eq_false (by omega)) (hit_all (all_t hp A)))
  have KA : Hid (∀ W S', DvL W D D (gS f t rm us true lf A none) S' → Kept w W S S' → Calls Tryd.prog 27 #[.pointer (some ⟨D, 0, none⟩), .string t, .slice bA m bc] W (LeftL D D (gS f t rm (us + b.length) true (lf - 1) A (some (b, 0))) S' (.int .i64 0) W)) := Lib.hid (fun W S' h hk => by
    have kk := appendL D D _ S' t bA b m bc B W h (gS_ok hp _ _ _ _ _ _ ⟨by omega, by omega⟩ ⟨by omega, by omega⟩ ⟨by omega, by omega⟩ (by omega) (by show 0 ≤ _; omega)) (by show (true && decide (lf = 0)) = false; rw [Bool.true_and]; exact decide_eq_false (by omega)) hp.tne (by show (m : Int) ≤ rm - us; omega) hm (hk.rd hbr hB (fun hne => hbA (fun e0 => hne (by rw [e0]; rfl)))) (Nat.le_trans hB hk.size) (fun hne a ha hs => hbA hne a ha (hk.sub a.block (by obtain ⟨a', ha', hlt, _⟩ := hbr (by rw [List.length_map]; exact List.length_pos_iff.2 hne); rw [ha] at ha'; injection ha' with e; subst e; omega) hs)) (by omega)
    rw [put_t hp] at kk
    exact kk)
  have KS : Hid (∀ W S', DvL W D D (gS f t rm (us + b.length) true (lf - 1) A (some (b, 0))) S' → Kept w W S S' → Calls Tryd.prog 40 #[.pointer (some ⟨D, 0, none⟩), .string t] W (LeftL D D (gS f t rm (us + b.length) true (lf - 1 - 1) A (some (b, (b.length : Int)))) S' (.int .i64 0) W)) := Lib.hid (fun W S' h hk => by
    have kk := sync_hitL D D _ S' t (lenA A) (t, b, 0) W h (gS_ok hp _ _ _ _ _ _ ⟨by omega, by omega⟩ ⟨by omega, by omega⟩ ⟨by omega, by omega⟩ (by omega) (by show b.length ≤ _; omega)) (by show (true && decide ((lf - 1) = 0)) = false; rw [Bool.true_and]; exact decide_eq_false (by omega)) (hit_t hp A (b, 0)) (pos_t hp A (b, 0)) (at_t hp A (b, 0))
    rw [sync_t hp] at kk
    exact kk)
  have KR : Hid (∀ W S', DvL W D D (gS f t rm (us + b.length) true (lf - 1 - 1) A (some (b, (b.length : Int)))) S' → Kept w W S S' → Calls Tryd.prog 57 #[.pointer (some ⟨D, 0, none⟩), .string t, .string f] W (LeftL D D (gS f t rm (b.length : Int) true (lf - 1 - 1 - 1) (some b) none) S' (.int .i64 0) W)) := Lib.hid (fun W S' h hk => by
    exact ren_s hp D rm (us + b.length) true (lf - 1 - 1) A b S' W h (by omega) (gS_ok hp _ _ _ _ _ _ ⟨by omega, by omega⟩ ⟨by omega, by omega⟩ ⟨by omega, by omega⟩ (by omega) (by show b.length ≤ _; omega)) (by show (true && decide ((lf - 1 - 1) = 0)) = false; rw [Bool.true_and]; exact decide_eq_false (by omega)))
  clear h hbr hbA hus hm
  go_enter Tryd.func30, Tryd.ntmps30
  go_wp2_with (first
    | (go_at_call 57; (with_reducible refine (KR.out _ _ HD3.out HK3.out).mono ?_); rintro e w4 ⟨rfl, Sp4, hd, hk⟩; have HD4 := Lib.hid hd; have HK4 := Lib.hid (HK3.out.trans hk); clear hd hk)
    | (go_at_call 40; (with_reducible refine (KS.out _ _ HD2.out HK2.out).mono ?_); rintro e w3 ⟨rfl, Sp3, hd, hk⟩; have HD3 := Lib.hid hd; have HK3 := Lib.hid (HK2.out.trans hk); clear hd hk)
    | (go_at_call 27; (with_reducible refine (KA.out _ _ HD1.out HK1.out).mono ?_); rintro e w2 ⟨rfl, Sp2, hd, hk⟩; have HD2 := Lib.hid hd; have HK2 := Lib.hid (HK1.out.trans hk); clear hd hk)
    | (go_at_call 45; (with_reducible refine (KD.out _ _ HD0.out HK0.out).mono ?_); rintro e w1 ⟨rfl, Sp1, hd, hk⟩; have HD1 := Lib.hid hd; have HK1 := Lib.hid (HK0.out.trans hk); clear hd hk)
    | fail)
  go_ret
  exact ⟨rfl, _, HD4.out, HK4.out⟩
theorem put_free {f t : ByteArray} (hp : Pr f t) (D : Nat) (rm us : Int) (A : Option (List UInt8)) (bA : Option Addr) (b : List UInt8) (m bc B : Nat) (S : Nat → Prop) (w : World) (hus : us = (bytA A : Int)) (hA : bytA A ≤ 300) (hm : m = b.length) (hm3 : m ≤ 300) (hrm : us + (b.length : Int) ≤ rm ∧ rm ≤ 1000) (hbr : Rd w B bA (b.map B8)) (hB : B ≤ w.heap.size) (hbA : b ≠ [] → ∀ a, bA = some a → ¬ S a.block) (hcat : ∀ W, (Op.stringOp .add f ⟨#[46, 116, 109, 112]⟩).run Tryd.prog W = .ok (.string t) W) (h : DvL w D D (gS f t rm us false 0 A none) S) :
    Calls Tryd.prog 30 #[.pointer (some ⟨D, 0, none⟩), .string f, .slice bA m bc] w (LeftL D D (gS f t rm (b.length : Int) false 0 (some b) none) S (.int .i64 0) w) := by
  have HD0 := Lib.hid h
  have HK0 : Hid (Kept w w S S) := Lib.hid (Kept.refl _ _)
  have hbl : (b.length : Int) ≤ 300 := by omega
  have KD : Hid (∀ W S', DvL W D D (gS f t rm us false 0 A none) S' → Kept w W S S' → Calls Tryd.prog 45 #[.pointer (some ⟨D, 0, none⟩), .string t] W (LeftL D D (gS f t rm us false 0 A none) S' (.int .i64 4) W)) := Lib.hid (fun W S' h hk => delete_noneL D D _ S' t W h (gS_ok hp _ _ _ _ _ _ ⟨by omega, by omega⟩ ⟨by omega, by omega⟩ ⟨by omega, by omega⟩ (by omega) (by show 0 ≤ _; omega)) rfl (hit_all (all_t hp A)))
  have KA : Hid (∀ W S', DvL W D D (gS f t rm us false 0 A none) S' → Kept w W S S' → Calls Tryd.prog 27 #[.pointer (some ⟨D, 0, none⟩), .string t, .slice bA m bc] W (LeftL D D (gS f t rm (us + b.length) false 0 A (some (b, 0))) S' (.int .i64 0) W)) := Lib.hid (fun W S' h hk => by
    have kk := appendL D D _ S' t bA b m bc B W h (gS_ok hp _ _ _ _ _ _ ⟨by omega, by omega⟩ ⟨by omega, by omega⟩ ⟨by omega, by omega⟩ (by omega) (by show 0 ≤ _; omega)) rfl hp.tne (by show (m : Int) ≤ rm - us; omega) hm (hk.rd hbr hB (fun hne => hbA (fun e0 => hne (by rw [e0]; rfl)))) (Nat.le_trans hB hk.size) (fun hne a ha hs => hbA hne a ha (hk.sub a.block (by obtain ⟨a', ha', hlt, _⟩ := hbr (by rw [List.length_map]; exact List.length_pos_iff.2 hne); rw [ha] at ha'; injection ha' with e; subst e; omega) hs)) (by omega)
    rw [put_t hp] at kk
    exact kk)
  have KS : Hid (∀ W S', DvL W D D (gS f t rm (us + b.length) false 0 A (some (b, 0))) S' → Kept w W S S' → Calls Tryd.prog 40 #[.pointer (some ⟨D, 0, none⟩), .string t] W (LeftL D D (gS f t rm (us + b.length) false 0 A (some (b, (b.length : Int)))) S' (.int .i64 0) W)) := Lib.hid (fun W S' h hk => by
    have kk := sync_hitL D D _ S' t (lenA A) (t, b, 0) W h (gS_ok hp _ _ _ _ _ _ ⟨by omega, by omega⟩ ⟨by omega, by omega⟩ ⟨by omega, by omega⟩ (by omega) (by show b.length ≤ _; omega)) rfl (hit_t hp A (b, 0)) (pos_t hp A (b, 0)) (at_t hp A (b, 0))
    rw [sync_t hp] at kk
    exact kk)
  have KR : Hid (∀ W S', DvL W D D (gS f t rm (us + b.length) false 0 A (some (b, (b.length : Int)))) S' → Kept w W S S' → Calls Tryd.prog 57 #[.pointer (some ⟨D, 0, none⟩), .string t, .string f] W (LeftL D D (gS f t rm (b.length : Int) false 0 (some b) none) S' (.int .i64 0) W)) := Lib.hid (fun W S' h hk => by
    exact ren_s hp D rm (us + b.length) false 0 A b S' W h (by omega) (gS_ok hp _ _ _ _ _ _ ⟨by omega, by omega⟩ ⟨by omega, by omega⟩ ⟨by omega, by omega⟩ (by omega) (by show b.length ≤ _; omega)) rfl)
  clear h hbr hbA hus hm
  go_enter Tryd.func30, Tryd.ntmps30
  go_wp2_with (first
    | (go_at_call 57; (with_reducible refine (KR.out _ _ HD3.out HK3.out).mono ?_); rintro e w4 ⟨rfl, Sp4, hd, hk⟩; have HD4 := Lib.hid hd; have HK4 := Lib.hid (HK3.out.trans hk); clear hd hk)
    | (go_at_call 40; (with_reducible refine (KS.out _ _ HD2.out HK2.out).mono ?_); rintro e w3 ⟨rfl, Sp3, hd, hk⟩; have HD3 := Lib.hid hd; have HK3 := Lib.hid (HK2.out.trans hk); clear hd hk)
    | (go_at_call 27; (with_reducible refine (KA.out _ _ HD1.out HK1.out).mono ?_); rintro e w2 ⟨rfl, Sp2, hd, hk⟩; have HD2 := Lib.hid hd; have HK2 := Lib.hid (HK1.out.trans hk); clear hd hk)
    | (go_at_call 45; (with_reducible refine (KD.out _ _ HD0.out HK0.out).mono ?_); rintro e w1 ⟨rfl, Sp1, hd, hk⟩; have HD1 := Lib.hid hd; have HK1 := Lib.hid (HK0.out.trans hk); clear hd hk)
    | fail)
  go_ret
  exact ⟨rfl, _, HD4.out, HK4.out⟩
end Go.Proofs.YtbdiamhhlabojaaDoor
