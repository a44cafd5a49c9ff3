/- slices.Clone of edges. -/
import Derived.Test.YtobgnendfnmnpaaVia
namespace Go.Proofs.Ytobgnendfnmnpaa
open Go.RowKit
set_option linter.unusedVariables false
set_option linter.unusedSimpArgs false
set_option maxRecDepth 100000

set_option maxHeartbeats 1000000 in
theorem g_clone (A : Option Addr) (l : List Eg) (n c B : Nat) (w : World) (hn : n = l.length) (hb : Rd w B A (l.flatMap Eg.cells)) (hB : B ≤ w.heap.size) (hl : n ≤ 1000000) :
    Calls Try.prog 9 #[.slice A n c] w fun e w' => ∃ v', e = .returned v' ∧ w'.ownsRow w.heap.size 36 4 v' n (l.flatMap Eg.cells) ∧ Below w.heap.size w w' := by
  obtain ⟨i0, hi, hz0, hz1, hz2⟩ := info_parts g_info
  have heq := fun (W : World) (A' : Option Addr) (n' c' : Nat) => Lib.run_eql_slice_nil (P := Try.prog) W 34 36 A' n' c' 0 0 Try.underlying34
  have hfl : (l.flatMap Eg.cells).length = n * 4 := by rw [flatMap_len _ 4 gcells_len, hn]
  rcases A with _ | a
  · have h0 : l = [] := by
      rcases l with _ | ⟨x, r⟩
      · rfl
      · obtain ⟨a, h, _⟩ := hb (by rw [hfl, hn]; simp); cases h
    subst h0
    obtain rfl : n = 0 := hn
    go_enter Try.func9, Try.ntmps9
    go_wp2
    go_ret
    exact ⟨_, rfl, World.ownsRow_nil _ _ _ _, Below.refl _ _⟩
  · have HB := Lib.hid hb
    have HL := Lib.hid hfl
    have H1 := Lib.hid (gcells_one l)
    clear hb hfl hn
    generalize l.flatMap Eg.cells = xs at *
    go_enter Try.func9, Try.ntmps9
    go_wp2_with (at_builtin; refine wpList_app rfl (.tmp 5) (.tmp 6) _ _ rfl rfl rfl (run_append_rd _ w.heap.size _ _ 36 i0 _ 4 48 Try.underlying34 hi hz0 hz1 hz2 rfl (.slice (some ⟨w.heap.size, 0, none⟩) 0 0) 0 [] (World.ownsRow_made w #[] 0 (Nat.le_refl _) (Nat.zero_le _) rfl) B (some a) n c xs HL.out (HB.out.alloc hB _) H1.out (by unfold maxLen; omega) (by omega) (by simp)) ?_; rintro v1 w1 ⟨ho1, hg1⟩)
    go_ret
    have hg2 := hg1.alloc
    exact ⟨v1, rfl, by simpa using ho1, ⟨hg2.grown.os, hg2.grown.tape, hg2.grown.output, hg2.grown.size, fun i hi => hg2.grown.block i hi (by simp [Value.ownBlock]; omega)⟩⟩
end Go.Proofs.Ytobgnendfnmnpaa
