/- Chapter 6's example. -/
import Derived.Test.YtlpaaaiobclmoaaUl
import Derived.Lib.SlBytesConst
import Derived.Test.YtlpaaaiobclmoaaCk
namespace Go.Proofs.Ytlpaaaiobclmoaa
open Go.RowKit
set_option linter.unusedVariables false
set_option linter.unusedSimpArgs false
set_option maxRecDepth 100000

theorem ok_none (room lf : Int) (fu : Bool) (us : Int) (h1 : 0 ≤ us ∧ us ≤ 4611686018427387904) (h2 : 0 ≤ room ∧ room ≤ 9223372036854775807) (h3 : -9223372036854775807 ≤ lf ∧ lf ≤ 9223372036854775807) : Dg.ok ⟨room, us, [], fu, lf⟩ :=
  ⟨h1, h2, h3, List.Pairwise.nil, by simp, fun x hx => by cases hx⟩
theorem ok_one (room us lf : Int) (fu : Bool) (x : Lg) (h1 : 0 ≤ us ∧ us ≤ 4611686018427387904) (h2 : 0 ≤ room ∧ room ≤ 9223372036854775807) (h3 : -9223372036854775807 ≤ lf ∧ lf ≤ 9223372036854775807) (h4 : x.2.1.length ≤ 2147483648) : Dg.ok ⟨room, us, [x], fu, lf⟩ :=
  ⟨h1, h2, h3, List.pairwise_singleton _ _, by simp, fun y hy => by simp at hy; subst hy; exact h4⟩
/-- Appending bytes that lie in a new block. -/
theorem append_lit (D : Nat) (g : Dg) (S : Nat → Prop) (nm : ByteArray) (b : List UInt8) (m : Nat) (W : World) (fr : Nat × Nat) (h : DvL W D D g S) (hk : g.ok) (hd : g.dead = false) (hnm : (nm.toList == ([] : List UInt8)) = false) (hf : (m : Int) ≤ g.room - g.us) (hm : m = b.length) (hbig : b.length ≤ 2147483647) :
    Calls Try.prog 12 #[.pointer (some ⟨D, 0, none⟩), .string nm, .slice (some ⟨W.heap.size, 0, none⟩) m m] (W.alloc (.cells (b.map B8).toArray 5 fr)) (LeftL D D (g.put nm b).burnt S (.int .i64 0) (W.alloc (.cells (b.map B8).toArray 5 fr))) :=
  appendL D D g S nm (some ⟨W.heap.size, 0, none⟩) b m m (W.heap.size + 1) (W.alloc (.cells (b.map B8).toArray 5 fr)) (h.below ((Below.refl _ _).alloc (Nat.le_refl _) _)) hk hd hnm hf hm (by have := Rd.litm W (b.map B8).toArray 5 fr; simpa using this) (by simp) (fun _ a ha hs => by injection ha with ha; subst ha; have := h.lt _ hs; simp at this) hbig
theorem alive6_put : ((Dg.new 9).put ⟨#[97]⟩ [120, 121]).burnt = ⟨9, 2, [(⟨#[97]⟩, [120, 121], 0)], false, 0⟩ := by rfl
set_option maxHeartbeats 2000000 in
theorem alive6_calls (w : World) : Calls Try.prog 8 #[] w fun e w' => e = .returned (.bool true) ∧ Below w.heap.size w w' := by
  have kc := fun (w : World) (C : Array Value) (n c : Nat) => Lib.run_convert_bytes_const (P := Try.prog) w 29 5 C n c Try.underlying29 Try.underlying5
  obtain ⟨D, hD⟩ : ∃ D, D = w.heap.size := ⟨_, rfl⟩
  have HDE := Lib.hid hD
  have NW : Hid (Calls Try.prog 10 #[.int .i64 9] w fun e w' => e = .returned (.pointer (some ⟨D, 0, none⟩)) ∧ (∃ S, DvL w' D D (Dg.new 9) S) ∧ Below D w w') := Lib.hid (by rw [hD]; exact newL 9 9 w (by decide) ⟨by decide, by decide⟩)
  have U0 : Hid (∀ S W, DvL W D D (Dg.new 9) S → Calls Try.prog 27 #[.pointer (some ⟨D, 0, none⟩)] W fun e w' => e = .returned (.int .i64 0) ∧ w' = W) := Lib.hid (fun S W h => usedL D D _ S W h)
  have AP : Hid (∀ S W fr, DvL W D D (Dg.new 9) S → Calls Try.prog 12 #[.pointer (some ⟨D, 0, none⟩), .string ⟨#[97]⟩, .slice (some ⟨W.heap.size, 0, none⟩) 2 2] (W.alloc (.cells #[.int .u8 120, .int .u8 121] 5 fr)) (LeftL D D ⟨9, 2, [(⟨#[97]⟩, [120, 121], 0)], false, 0⟩ S (.int .i64 0) (W.alloc (.cells #[.int .u8 120, .int .u8 121] 5 fr)))) := Lib.hid (fun S W fr h => by
    have := append_lit D (Dg.new 9) S ⟨#[97]⟩ [120, 121] 2 W fr h (ok_none _ _ _ _ ⟨by decide, by decide⟩ ⟨by decide, by decide⟩ ⟨by decide, by decide⟩) rfl (by decide +kernel) (by decide) rfl (by decide)
    rw [alive6_put] at this
    exact this)
  have RH : Hid (∀ S W, DvL W D D ⟨9, 2, [(⟨#[97]⟩, [120, 121], 0)], false, 0⟩ S → Calls Try.prog 25 #[.pointer (some ⟨D, 0, none⟩), .string ⟨#[97]⟩] W (ReadOf [120, 121] W)) := Lib.hid (fun S W h => read_hitL D D _ S ⟨#[97]⟩ 0 (⟨#[97]⟩, [120, 121], 0) W h (ok_one _ _ _ _ _ ⟨by decide, by decide⟩ ⟨by decide, by decide⟩ ⟨by decide, by decide⟩ (by decide)) (by decide +kernel) (by decide +kernel) rfl)
  have U2 : Hid (∀ S W, DvL W D D ⟨9, 2, [(⟨#[97]⟩, [120, 121], 0)], false, 0⟩ S → Calls Try.prog 27 #[.pointer (some ⟨D, 0, none⟩)] W fun e w' => e = .returned (.int .i64 2) ∧ w' = W) := Lib.hid (fun S W h => usedL D D _ S W h)
  have R9 : Hid (∀ S W, DvL W D D ⟨9, 2, [(⟨#[97]⟩, [120, 121], 0)], false, 0⟩ S → Calls Try.prog 29 #[.pointer (some ⟨D, 0, none⟩)] W fun e w' => e = .returned (.int .i64 9) ∧ w' = W) := Lib.hid (fun S W h => roomL D D _ S W h)
  clear hD
  go_enter Try.func8, Try.ntmps8
  go_wp2_with (first
    | (have hd := done3; clear hd; go_at_call 29; (with_reducible refine (R9.out _ _ HD3.out).mono ?_); rintro e w5 ⟨rfl, hw5⟩; subst hw5)
    | (have hd := done3; clear hd; go_at_call 27; (with_reducible refine (U2.out _ _ HD3.out).mono ?_); rintro e w4 ⟨rfl, hw4⟩; subst hw4)
    | (have hd := done2; clear hd; go_at_call 25; (with_reducible refine (RH.out _ _ HD2.out).mono ?_); rintro e w3 ⟨A3, c3, rfl, ho3, hb3⟩; have done3 := trivial; have HD3 := Lib.hid (HD2.out.below hb3); have HB3 := Lib.hid hb3; have hstr : (convert 29 9 (.slice A3 2 c3)).run Try.prog w3 = .ok (.string ⟨#[120, 121]⟩) w3 := run_str (P := Try.prog) 29 5 9 Try.underlying29 Try.underlying5 Try.underlying9 (Rd.of_own ho3) 2 c3 rfl; clear ho3 hb3)
    | (go_at_call 13; (with_reducible refine (num_any _ _).mono ?_); rintro e wn ⟨rfl, hwn⟩; subst hwn)
    | (go_at_call 12; (with_reducible refine (AP.out _ _ _ HD1.out).mono ?_); rintro e w2 ⟨rfl, S2, hd2, hk2⟩; have done2 := trivial; have HD2 := Lib.hid hd2; have HB2 := Lib.hid ((HB1.out.alloc (Nat.le_of_lt HD1.out.dok.2) _).trans (hk2.below HD1.out.ge (by simp; have := HD1.out.dok.2; omega))); clear hd2 hk2)
    | (go_at_call 27; (with_reducible refine (U0.out _ _ HD1.out).mono ?_); rintro e wu ⟨rfl, hwu⟩; subst hwu)
    | (go_at_call 10; (with_reducible refine NW.out.mono ?_); rintro e w1 ⟨rfl, ⟨S, hd1⟩, hb1⟩; have HD1 := Lib.hid hd1; have HB1 := Lib.hid hb1; clear hd1 hb1))
  go_ret
  refine ⟨rfl, ?_⟩
  have b3 := HB2.out.trans (HB3.out.mono (Nat.le_of_lt HD2.out.dok.2))
  rw [HDE.out] at b3
  exact b3
end Go.Proofs.Ytlpaaaiobclmoaa
