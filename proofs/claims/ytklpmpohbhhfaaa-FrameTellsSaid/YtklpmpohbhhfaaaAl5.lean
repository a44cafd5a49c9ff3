/- The example of chapter 5 holds. -/
import Derived.Test.YtklpmpohbhhfaaaSm
import Derived.Lib.SlBytesConst
namespace Go.Proofs.Ytklpmpohbhhfaaa
open Go.RowKit
set_option linter.unusedVariables false

theorem splits_nil : Fm.splits [] = ([], 0) := by decide +kernel
theorem splits_ab : Fm.splits (Fm.rec [97, 98]) = ([[97, 98]], 7) := by decide +kernel
theorem rec_ab : (Fm.rec [97, 98]).length = 7 := by decide +kernel

set_option maxHeartbeats 1000000 in
set_option maxRecDepth 100000 in
theorem alive5_calls (w : World) : Calls Try.prog 7 #[] w fun e w' => e = .returned (.bool true) ∧ Below w.heap.size w w' := by
  have kc := fun (w : World) (C : Array Value) (n c : Nat) => Lib.run_convert_bytes_const (P := Try.prog) w 22 5 C n c Try.underlying22 Try.underlying5
  have H0 := Lib.hid (fun W => split_calls none [] 0 0 W rfl Rd.nil (by omega) (by omega))
  rw [splits_nil] at H0
  have H9 := Lib.hid (fun W fr => bytes_calls (some ⟨W.heap.size, 0, none⟩) [97, 98] 2 (W.heap.size + 1) (W.alloc (.cells (([97, 98] : List UInt8).map B8).toArray 5 fr)) (Rd.litm W (([97, 98] : List UInt8).map B8).toArray 5 fr) (by simp) (by simp))
  have H7 := Lib.hid (fun A c W hb hc => split_calls A (Fm.rec [97, 98]) 7 c W rec_ab.symm hb hc (by omega))
  rw [splits_ab] at H7
  rw [rec_ab] at H9
  generalize Fm.rec [97, 98] = rab at *
  go_enter Try.func7, Try.ntmps7
  go_wp2_with (first
    | (have hd := done1; clear done1; go_at_call 10; refine (H9.out _ _).mono ?_; rintro e w2 ⟨v2, rfl, ho2, hg2⟩; have hb2 := hg2.new; obtain ⟨A2, c2, rfl, hc2, hr2⟩ := own_rd ho2; have done2 := trivial)
    | (have hd := done2; clear done2; go_at_call 8; refine (H7.out _ _ _ hr2 hc2).mono ?_; rintro e w3 ⟨v3, rfl, ho3, hb3⟩; obtain ⟨A3, c3, rfl, hc3, hr3⟩ := ho3.rds; obtain ⟨b, off, X, cx, rfl, _, hcell, _, _, hxr⟩ := hr3.at_ (k := 0) (by decide); have hcell2 : w3.cell? ⟨b, off, none⟩ = some (.slice X 2 cx) := hcell; have hstr := run_str (P := Try.prog) 22 5 9 Try.underlying22 Try.underlying5 Try.underlying9 (l := [97, 98]) hxr 2 cx rfl; have hstr2 : (convert 22 9 (.slice X 2 cx)).run Try.prog w3 = .ok (.string { data := #[97, 98] }) w3 := hstr; clear hstr hcell hxr)
    | (go_at_call 8; refine (H0.out _).mono ?_; rintro e w1 ⟨v1, rfl, ho1, hb1⟩; obtain ⟨A1, c1, rfl, hc1, hr1⟩ := ho1.rds; have done1 := trivial))
  go_ret
  refine ⟨rfl, ?_⟩
  have x1 : Below w.heap.size w (w1.alloc (.cells #[.int .u8 97, .int .u8 98] 5 (2, 3))) := hb1.alloc hb1.size _
  have x2 := x1.trans (hb2.mono x1.size)
  exact x2.trans (hb3.mono x2.size)
end Go.Proofs.Ytklpmpohbhhfaaa
