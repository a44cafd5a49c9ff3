/- Chapter 24's example. -/
import Derived.Test.YtbdiamhhlabojaaDoorHb
import Derived.Lib.SlBytesConst
namespace Go.Proofs.YtbdiamhhlabojaaDoor
open Go.RowKit
set_option linter.unusedVariables false
set_option linter.unusedSimpArgs false
set_option maxRecDepth 100000

theorem num24 (k : Int) (w : World) : Calls Tryd.prog 32 #[.int .i64 k] w fun e w' => e = .returned (.int .i64 k) ∧ w' = w := by
  go_enter Tryd.func32, Tryd.ntmps32
  go_wp2
  go_ret
  exact ⟨rfl, rfl⟩
theorem small3 (w : World) : Calls Tryd.prog 84 #[.int .i64 3] w fun e w' => e = .returned (.string ⟨#[51]⟩) ∧ w' = w := by
  go_enter Tryd.func84, Tryd.ntmps84
  go_wp2_with fail
  go_ret
  exact ⟨by first | rfl | decide +kernel, rfl⟩
theorem fmt3 (w : World) : Calls Tryd.prog 80 #[.int .i64 3, .int .i64 10] w fun e w' => e = .returned (.string ⟨#[51]⟩) ∧ w' = w := by
  go_enter Tryd.func80, Tryd.ntmps80
  go_wp2_with ((go_at_call 84; (with_reducible refine (small3 _).mono ?_); rintro e wi ⟨rfl, hwi⟩; subst hwi))
  go_ret
  exact ⟨by first | rfl | decide +kernel, rfl⟩
theorem iitoa3 (w : World) : Calls Tryd.prog 71 #[.int .i64 3] w fun e w' => e = .returned (.string ⟨#[51]⟩) ∧ w' = w := by
  go_enter Tryd.func71, Tryd.ntmps71
  go_wp2_with ((go_at_call 80; (with_reducible refine (fmt3 _).mono ?_); rintro e wi ⟨rfl, hwi⟩; subst hwi))
  go_ret
  exact ⟨by first | rfl | decide +kernel, rfl⟩
theorem itoa3 (w : World) : Calls Tryd.prog 48 #[.int .i64 3] w fun e w' => e = .returned (.string ⟨#[51]⟩) ∧ w' = w := by
  go_enter Tryd.func48, Tryd.ntmps48
  go_wp2_with ((go_at_call 71; (with_reducible refine (iitoa3 _).mono ?_); rintro e wi ⟨rfl, hwi⟩; subst hwi))
  go_ret
  exact ⟨by first | rfl | decide +kernel, rfl⟩
theorem numbered3 (w : World) : Calls Tryd.prog 62 #[.string ⟨#[98]⟩, .int .i64 3] w fun e w' => e = .returned (.string ⟨#[98, 51]⟩) ∧ w' = w := by
  have hc : ∀ W, (Op.stringOp .add ⟨#[98]⟩ ⟨#[51]⟩).run Tryd.prog W = .ok (.string ⟨#[98, 51]⟩) W := fun W => by rw [run_string_add_sum (P := Tryd.prog) W _ _ (by decide)]; rfl
  go_enter Tryd.func62, Tryd.ntmps62
  go_wp2_with ((go_at_call 48; (with_reducible refine (itoa3 _).mono ?_); rintro e wi ⟨rfl, hwi⟩; subst hwi))
  go_ret
  exact ⟨by first | rfl | decide +kernel, rfl⟩
theorem top3 (w : World) : Calls Tryd.prog 36 #[.int .i64 3] w fun e w' => e = .returned (.string ⟨#[98, 51]⟩) ∧ w' = w := by
  go_enter Tryd.func36, Tryd.ntmps36
  go_wp2_with ((go_at_call 62; (with_reducible refine (numbered3 _).mono ?_); rintro e wi ⟨rfl, hwi⟩; subst hwi))
  go_ret
  exact ⟨by first | rfl | decide +kernel, rfl⟩
theorem small12 (w : World) : Calls Tryd.prog 84 #[.int .i64 12] w fun e w' => e = .returned (.string ⟨#[49, 50]⟩) ∧ w' = w := by
  go_enter Tryd.func84, Tryd.ntmps84
  go_wp2_with fail
  go_ret
  exact ⟨by first | rfl | decide +kernel, rfl⟩
theorem fmt12 (w : World) : Calls Tryd.prog 80 #[.int .i64 12, .int .i64 10] w fun e w' => e = .returned (.string ⟨#[49, 50]⟩) ∧ w' = w := by
  go_enter Tryd.func80, Tryd.ntmps80
  go_wp2_with ((go_at_call 84; (with_reducible refine (small12 _).mono ?_); rintro e wi ⟨rfl, hwi⟩; subst hwi))
  go_ret
  exact ⟨by first | rfl | decide +kernel, rfl⟩
theorem iitoa12 (w : World) : Calls Tryd.prog 71 #[.int .i64 12] w fun e w' => e = .returned (.string ⟨#[49, 50]⟩) ∧ w' = w := by
  go_enter Tryd.func71, Tryd.ntmps71
  go_wp2_with ((go_at_call 80; (with_reducible refine (fmt12 _).mono ?_); rintro e wi ⟨rfl, hwi⟩; subst hwi))
  go_ret
  exact ⟨by first | rfl | decide +kernel, rfl⟩
theorem itoa12 (w : World) : Calls Tryd.prog 48 #[.int .i64 12] w fun e w' => e = .returned (.string ⟨#[49, 50]⟩) ∧ w' = w := by
  go_enter Tryd.func48, Tryd.ntmps48
  go_wp2_with ((go_at_call 71; (with_reducible refine (iitoa12 _).mono ?_); rintro e wi ⟨rfl, hwi⟩; subst hwi))
  go_ret
  exact ⟨by first | rfl | decide +kernel, rfl⟩
theorem numbered12 (w : World) : Calls Tryd.prog 62 #[.string ⟨#[115]⟩, .int .i64 12] w fun e w' => e = .returned (.string ⟨#[115, 49, 50]⟩) ∧ w' = w := by
  have hc : ∀ W, (Op.stringOp .add ⟨#[115]⟩ ⟨#[49, 50]⟩).run Tryd.prog W = .ok (.string ⟨#[115, 49, 50]⟩) W := fun W => by rw [run_string_add_sum (P := Tryd.prog) W _ _ (by decide)]; rfl
  go_enter Tryd.func62, Tryd.ntmps62
  go_wp2_with ((go_at_call 48; (with_reducible refine (itoa12 _).mono ?_); rintro e wi ⟨rfl, hwi⟩; subst hwi))
  go_ret
  exact ⟨by first | rfl | decide +kernel, rfl⟩
theorem top12 (w : World) : Calls Tryd.prog 37 #[.int .i64 12] w fun e w' => e = .returned (.string ⟨#[115, 49, 50]⟩) ∧ w' = w := by
  go_enter Tryd.func37, Tryd.ntmps37
  go_wp2_with ((go_at_call 62; (with_reducible refine (numbered12 _).mono ?_); rintro e wi ⟨rfl, hwi⟩; subst hwi))
  go_ret
  exact ⟨by first | rfl | decide +kernel, rfl⟩
set_option maxHeartbeats 2000000 in
theorem alive24_calls (w : World) : Calls Tryd.prog 24 #[] w fun e w' => e = .returned (.bool true) ∧ Below w.heap.size w w' := by
  have kc := fun (w : World) (C : Array Value) (n c : Nat) => Lib.run_convert_bytes_const (P := Tryd.prog) w 30 5 C n c Tryd.underlying30 Tryd.underlying5
  obtain ⟨D, hD⟩ : ∃ D, D = w.heap.size := ⟨_, rfl⟩
  have HDE := Lib.hid hD
  have NW : Hid (Calls Tryd.prog 10 #[.int .i64 100] w fun e w' => e = .returned (.pointer (some ⟨D, 0, none⟩)) ∧ (∃ S, DvL w' D D (gS ⟨#[120]⟩ ⟨#[120, 46, 116, 109, 112]⟩ 100 0 false 0 none none) S) ∧ Below D w w') := Lib.hid (by rw [hD]; exact newL 100 100 w (by decide) ⟨by decide, by decide⟩)
  have PU : Hid (∀ S W fr, DvL W D D (gS ⟨#[120]⟩ ⟨#[120, 46, 116, 109, 112]⟩ 100 0 false 0 none none) S → Calls Tryd.prog 30 #[.pointer (some ⟨D, 0, none⟩), .string ⟨#[120]⟩, .slice (some ⟨W.heap.size, 0, none⟩) 2 2] (W.alloc (.cells #[.int .u8 97, .int .u8 98] 5 fr)) (LeftL D D (gS ⟨#[120]⟩ ⟨#[120, 46, 116, 109, 112]⟩ 100 2 false 0 (some [97, 98]) none) S (.int .i64 0) (W.alloc (.cells #[.int .u8 97, .int .u8 98] 5 fr)))) := Lib.hid (fun S W fr h =>
    put_free pr_x D 100 0 none (some ⟨W.heap.size, 0, none⟩) [97, 98] 2 2 (W.heap.size + 1) S (W.alloc (.cells #[.int .u8 97, .int .u8 98] 5 fr)) rfl (by decide) rfl (by decide) (by decide) (by have := Rd.litm W #[Value.int .u8 97, .int .u8 98] 5 fr; exact this) (by simp) (fun _ a ha hs => by injection ha with ha; subst ha; have := h.lt _ hs; simp at this) (fun W => by rw [run_string_add_sum (P := Tryd.prog) W _ _ (by decide)]; rfl) (h.below ((Below.refl _ _).alloc (Nat.le_refl _) _)))
  have RH : Hid (∀ S W, DvL W D D (gS ⟨#[120]⟩ ⟨#[120, 46, 116, 109, 112]⟩ 100 2 false 0 (some [97, 98]) none) S → Calls Tryd.prog 20 #[.pointer (some ⟨D, 0, none⟩), .string ⟨#[120]⟩] W (ReadOf [97, 98] W)) := Lib.hid (fun S W h => read_hitL D D _ S ⟨#[120]⟩ 0 (⟨#[120]⟩, [97, 98], 2) W h (gS_ok pr_x _ _ _ _ _ _ ⟨by decide, by decide⟩ ⟨by decide, by decide⟩ ⟨by decide, by decide⟩ (by decide) (by decide)) (hit_sf pr_x (some [97, 98]) none) (pos_sf pr_x [97, 98] none) rfl)
  clear hD
  go_enter Tryd.func24, Tryd.ntmps24
  go_wp2_with (first
    | (go_at_call 37; (with_reducible refine (top12 _).mono ?_); rintro e wi ⟨rfl, hwi⟩; subst hwi)
    | (go_at_call 36; (with_reducible refine (top3 _).mono ?_); rintro e wi ⟨rfl, hwi⟩; subst hwi)
    | (go_at_call 32; (with_reducible refine (num24 _ _).mono ?_); rintro e wn ⟨rfl, hwn⟩; subst hwn)
    | (go_at_call 20; (with_reducible refine (RH.out _ _ HD2.out).mono ?_); rintro e w3 ⟨A3, c3, rfl, ho3, hb3⟩; have HB3 := Lib.hid hb3; have hstr : (convert 30 9 (.slice A3 2 c3)).run Tryd.prog w3 = .ok (.string ⟨#[97, 98]⟩) w3 := run_str (P := Tryd.prog) 30 5 9 Tryd.underlying30 Tryd.underlying5 Tryd.underlying9 (Rd.of_own ho3) 2 c3 rfl; clear ho3 hb3)
    | (go_at_call 30; (with_reducible refine (PU.out _ _ _ HD1.out).mono ?_); rintro e w2 ⟨rfl, S2, hd2, hk2⟩; have HD2 := Lib.hid hd2; have HB2 := Lib.hid ((HB1.out.alloc (Nat.le_of_lt HD1.out.dok.2) _).trans (hk2.below HD1.out.ge (by simp; have := HD1.out.dok.2; omega))); clear hd2 hk2)
    | (go_at_call 10; (with_reducible refine NW.out.mono ?_); rintro e w1 ⟨rfl, ⟨S, hd1⟩, hb1⟩; have HD1 := Lib.hid hd1; have HB1 := Lib.hid hb1; clear hd1 hb1))
  go_ret
  refine ⟨rfl, ?_⟩
  have b3 := HB2.out.trans (HB3.out.mono (Nat.le_of_lt HD2.out.dok.2))
  rw [HDE.out] at b3
  exact b3
end Go.Proofs.YtbdiamhhlabojaaDoor
