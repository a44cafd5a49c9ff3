/- tree.byStart: all places, those of spans that are before others ahead of them. -/
import Derived.Test.YtgldjjmpjaegfaaSyh
namespace Go.Proofs.Ytgldjjmpjaegfaa
open Go.RowKit
set_option linter.unusedVariables false
set_option linter.unusedSimpArgs false
set_option maxRecDepth 100000

set_option maxHeartbeats 8000000 in
theorem bystart_any (l : List Ls) (A : Option Addr) (n c B : Nat) (w : World) (hS : RdSps w B A l) (hB : B ≤ w.heap.size) (hn : n = l.length) (hsm : n ≤ 1000000) :
    Calls Try.prog 40 #[.slice A n c] w fun e w' => ∃ g cap M, e = .returned (.slice (some ⟨g, 0, none⟩) n cap) ∧ Bys l M ∧ w'.ownsRow w.heap.size 3 1 (.slice (some ⟨g, 0, none⟩) n cap) n ((M).map encN) ∧ Below w.heap.size w w' := by
  obtain ⟨base, hbase⟩ : ∃ base, base = w.heap.size := ⟨_, rfl⟩
  have HSs := Lib.hid hS
  have HB := Lib.hid hB
  have HN := Lib.hid hn
  have hbp := heap_alloc_new w (.cells #[.slice A n c] 22)
  obtain ⟨w1, hw1⟩ : ∃ w1, w1 = w.alloc (.cells #[.slice A n c] 22) := ⟨_, rfl⟩
  have hB1 : Below w.heap.size w w1 := by rw [hw1]; exact (Below.refl _ _).alloc (Nat.le_refl _) _
  have hs1 : w1.heap.size = w.heap.size + 1 := by rw [hw1]; simp
  rw [← hw1] at hbp
  have hcb : w1.cell? ⟨w.heap.size, 0, none⟩ = some (.slice A n c) := by rw [cell_of_row w1 w.heap.size 0 _ _ (0, 0) hbp]; rfl
  obtain ⟨W5, hrun, hown, hb5⟩ := make_int0 n hsm w1 (w.heap.size + 1) (by omega)
  have hc5 : W5.cell? ⟨w.heap.size, 0, none⟩ = some (.slice A n c) := by rw [(bcell hb5).1 _ _ (by omega)]; exact hcb
  have HCB := Lib.hid hc5
  have hw15 := hb5.size
  have HW5 := Lib.hid (show Below w.heap.size w W5 from hB1.trans (hb5.mono (by omega)))
  obtain ⟨bb, hbb⟩ : ∃ bb, bb = w.heap.size + 1 := ⟨_, rfl⟩
  have HBB := Lib.hid hbb
  have HOW := Lib.hid hown
  have HS5 := Lib.hid (show bb ≤ W5.heap.size from by omega)
  rw [← hbb] at HOW
  rw [hs1] at HOW
  have hrun' : (Instr.makeSlice 26 (.int .i64 0) (.int .i64 (n : Int))).run Try.prog w1 = .ok (.slice (some ⟨bb, 0, none⟩) 0 n) W5 := by rw [hrun, hs1, hbb]
  rw [← hbb] at HOW
  have CK : Hid (CmpOkN (ordSt (stS l)) (.pointer (some ⟨w.heap.size, 0, none⟩)) bb n W5) := Lib.hid (fun W hW x y hx hy => by
    have hn := HN.out
    have hcell : W.cell? ⟨w.heap.size, 0, none⟩ = some (.slice A n c) := by rw [(bcell hW).1 _ _ (by have := HBB.out; omega)]; exact HCB.out
    have hRS : RdSps W B A l := (HSs.out.below (HW5.out.mono HB.out)).below (hW.mono (by have := HBB.out; have := HB.out; omega))
    obtain ⟨X, hX⟩ : ∃ X, l[x]? = some X := ⟨_, List.getElem?_eq_getElem (by omega)⟩
    obtain ⟨a, ha, _⟩ := hRS.at_ hX
    subst ha
    exact byst_cmp w.heap.size a n c B l W hcell hRS hn hsm x y hx hy)
  clear hrun hown hb5 hw15 hS hB hn hbb hcb hB1 hs1 hbp
  rw [hw1] at hrun'
  clear hw1
  go_enter Try.func40, Try.ntmps40
  go_upto_region 3 with fail
  clear hrun' hc5
  go_loopw [3, 10] (fun v i wq => ∃ (k g c' : Nat), i = .int .i64 (k : Int) ∧ k ≤ n ∧ v = .slice (some ⟨g, 0, none⟩) k c' ∧ Hid (wq.ownsRow bb 3 1 (.slice (some ⟨g, 0, none⟩) k c') k ((List.range k).map encN)) ∧ Hid (Below bb W5 wq)) (fun _ i _ => n - (intOf i).toNat)
  case atStart => exact ⟨0, bb, n, rfl, Nat.zero_le _, rfl, HOW, Lib.hid (Below.refl _ _)⟩
  case round =>
    obtain ⟨k, g, c', rfl, hk, rfl, HO, HBW⟩ := hrel
    by_cases hlt : k < n
    · have d0 : decide ((k : Int) < (n : Int)) = true := decide_eq_true (by omega)
      have d1 : decide (k < n) = true := decide_eq_true hlt
      have APP := Lib.hid (fun ty => appI1 (ty := ty) HO.out (k : Int) #[.int .i64 (k : Int)] rfl (by omega) (Nat.le_trans HS5.out HBW.out.size))
      have HLT := Lib.hid hlt
      have hk6 : (k : Int) < 1000000 := by omega
      clear hlt
      go_wp2_with (at_builtin; (refine wpList_app rfl (.tmp 13) (.tmp 15) _ _ rfl rfl rfl (APP.out _) ?_); rintro v5 w5 ⟨ho5, hg5⟩; have HB5 := Lib.hid (hg5.below HBW.out (Nat.le_trans HS5.out HBW.out.size) (own_block_ge HO.out)); obtain ⟨A5, c5, rfl, _, _⟩ := own_rd ho5; have HO5 := Lib.hid ho5; clear ho5 hg5)
      obtain ⟨g5, rfl, _, _⟩ := own_placeY HO5.out (Nat.succ_pos k)
      go_roundw
      case rel => exact ⟨k + 1, g5, c5, by go_num, HLT.out, rfl, Lib.hid (by rw [List.range_succ, List.map_append]; exact HO5.out), HB5⟩
      case measure => have := HLT.out; simp [intOf]; omega
    · obtain rfl : k = n := by omega
      have d0 : decide ((k : Int) < (k : Int)) = false := decide_eq_false (by omega)
      have d1 : decide (k < k) = false := decide_eq_false (by omega)
      have SC := Lib.hid (sortstable_any (ordSt (stS l)) (.pointer (some ⟨w.heap.size, 0, none⟩)) bb k W5 CK.out (List.range k) bb g k c' wr HO.out (fun x hx => List.mem_range.1 hx) HBW.out (Nat.le_refl _) (Nat.le_trans HS5.out HBW.out.size) hsm (fun q x _ hq => by
        obtain ⟨h1, h2⟩ := List.getElem?_eq_some_iff.1 hq
        rw [List.getElem_range] at h2
        exact h2.symm))
      clear hlt
      go_wp2_with (go_at_call 46; (with_reducible refine SC.out.mono ?_); rintro ex w6 ⟨rfl, M, hs6, hd6, ho6, hb6⟩; have HH6 := Lib.hid (And.intro hs6 (And.intro hd6 (And.intro ho6 hb6))); clear hs6 hd6 ho6 hb6)
      go_ret
      obtain ⟨hs6, hd6, ho6, hb6⟩ := HH6.out
      have hkl := HN.out
      have hll : (List.range k).length = k := List.length_range
      exact ⟨g, c', M, rfl, ⟨Sy.pair_of (O := ordSt (stS l)) (hs6.1.trans hll) hd6, fun x => by rw [Sy.mem_of hll hs6 x, List.mem_range, hkl], by rw [hs6.1, hll, hkl]⟩, own_mono ho6 (by have := HBB.out; omega), HW5.out.trans ((HBW.out.trans hb6).mono (by have := HBB.out; omega))⟩
end Go.Proofs.Ytgldjjmpjaegfaa
