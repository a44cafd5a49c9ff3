/- slices.Clone of rows of the rollup. -/
import Derived.Test.YtkhhcnpmobgdgaaDoorYia
namespace Go.Proofs.YtkhhcnpmobgdgaaDoor
open Go.RowKit
set_option linter.unusedVariables false
set_option linter.unusedSimpArgs false
set_option maxRecDepth 100000

set_option maxHeartbeats 1000000 in
theorem r_clone (A : Option Addr) (l : List Rw) (n c B : Nat) (w : World) (hn : n = l.length) (hb : Rd w B A (l.flatMap Rw.cells)) (hB : B ≤ w.heap.size) (hl : n ≤ 1000000) :
    Calls Tryd.prog 50 #[.slice A n c] w fun e w' => ∃ v', e = .returned v' ∧ w'.ownsRow w.heap.size 48 14 v' n (l.flatMap Rw.cells) ∧ Below w.heap.size w w' := by
  obtain ⟨i0, hi, hz0, hz1, hz2⟩ := info_parts r_info
  have heq := fun (W : World) (A' : Option Addr) (n' c' : Nat) => Lib.run_eql_slice_nil (P := Tryd.prog) W 22 48 A' n' c' 0 0 Tryd.underlying22
  have hfl : (l.flatMap Rw.cells).length = n * 14 := by rw [flatMap_len _ 14 rcells_len, hn]
  rcases A with _ | a
  · have h0 : l = [] := by
      rcases l with _ | ⟨x, r⟩
      · rfl
      · obtain ⟨a, h, _⟩ := hb (by rw [hfl, hn]; simp); cases h
    subst h0
    obtain rfl : n = 0 := hn
    go_enter Tryd.func50, Tryd.ntmps50
    go_wp2
    go_ret
    exact ⟨_, rfl, World.ownsRow_nil _ _ _ _, Below.refl _ _⟩
  · have HB := Lib.hid hb
    have HL := Lib.hid hfl
    have H1 := Lib.hid (rcells_one l)
    clear hb hfl hn
    generalize l.flatMap Rw.cells = xs at *
    go_enter Tryd.func50, Tryd.ntmps50
    go_wp2_with (at_builtin; refine wpList_app rfl (.tmp 5) (.tmp 6) _ _ rfl rfl rfl (run_append_rd _ w.heap.size _ _ 48 i0 _ 14 128 Tryd.underlying22 hi hz0 hz1 hz2 rfl (.slice (some ⟨w.heap.size, 0, none⟩) 0 0) 0 [] (World.ownsRow_made w #[] 0 (Nat.le_refl _) (Nat.zero_le _) rfl) B (some a) n c xs HL.out (HB.out.alloc hB _) H1.out (by unfold maxLen; omega) (by omega) (by simp)) ?_; rintro v1 w1 ⟨ho1, hg1⟩)
    go_ret
    have hg2 := hg1.alloc
    exact ⟨v1, rfl, by simpa using ho1, ⟨hg2.grown.os, hg2.grown.tape, hg2.grown.output, hg2.grown.size, fun i hi => hg2.grown.block i hi (by simp [Value.ownBlock]; omega)⟩⟩
end Go.Proofs.YtkhhcnpmobgdgaaDoor
