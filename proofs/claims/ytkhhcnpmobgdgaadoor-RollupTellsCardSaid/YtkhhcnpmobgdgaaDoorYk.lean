/- rollup.Add; rows of spans, one by one; rollup.Find; chapter 10's example. -/
import Derived.Test.YtkhhcnpmobgdgaaDoorYh
namespace Go.Proofs.YtkhhcnpmobgdgaaDoor
open Go.RowKit
set_option linter.unusedVariables false
set_option linter.unusedSimpArgs false
set_option maxRecDepth 100000

theorem RdSps.one {W : World} {b B : Nat} {y : Ls} (h : W.heap[b]? = some (.cells y.cells.toArray 28 (0, 0))) (hy : RdL W B y) (hB : B ≤ W.heap.size) : RdSps W W.heap.size (some ⟨b, 0, none⟩) [y] := by
  refine ⟨fun _ => ⟨_, rfl, ?_, fun j u hu => ?_⟩, fun x hx => ?_⟩
  · rcases Nat.lt_or_ge b W.heap.size with h1 | h1
    · exact h1
    · rw [Array.getElem?_eq_none h1] at h; cases h
  · rw [Addr.add_lit, Nat.zero_add, cell_of_row W b j _ _ (0, 0) h]
    simpa using hu
  · rcases List.mem_singleton.1 hx with rfl
    exact hy.more hB
set_option maxHeartbeats 4000000 in
theorem radd_any (A : Option Addr) (l : List Rw) (n c B : Nat) (x0 x1 x2 x3 : Int) (x4 x5 : ByteArray) (x6 x7 : Int) (x8 : Bool) (ats : List (ByteArray × ByteArray)) (xA : Option Addr) (xc xn : Nat) (m : Int) (w : World) (hn : n = l.length) (hr : Rd w B A (l.flatMap Rw.cells)) (hok : okL l) (hs : SortR l) (hxn : xn = ats.length) (hy : RdL w B ⟨⟨x0, x1, x2, x3, x4, x5, x6, x7, x8, ats⟩, xA, xc⟩) (hB : B ≤ w.heap.size) (T : Bnds w) (TL : Lens w) (hm : m ≤ 9223372036854775807) (hsmall : n ≤ 90000) :
    Calls Tryd.prog 14 #[.slice A n c, .agg #[.int .u64 x0, .int .u64 x1, .int .u64 x2, .int .u64 x3, .string x4, .string x5, .int .i64 x6, .int .i64 x7, .bool x8, .slice xA xn xc], .int .i64 m] w fun e w' => ∃ v', e = .returned v' ∧ w'.ownsRow w.heap.size 48 14 v' (addS l ⟨x0, x1, x2, x3, x4, x5, x6, x7, x8, ats⟩ m).length ((addS l ⟨x0, x1, x2, x3, x4, x5, x6, x7, x8, ats⟩ m).flatMap Rw.cells) ∧ Below w.heap.size w w' := by
  obtain ⟨W1, hW1⟩ : ∃ W1, W1 = w.alloc (.cells #[.int .u64 x0, .int .u64 x1, .int .u64 x2, .int .u64 x3, .string x4, .string x5, .int .i64 x6, .int .i64 x7, .bool x8, .slice xA xn xc] 28) := ⟨_, rfl⟩
  obtain ⟨W2, hW2⟩ : ∃ W2, W2 = W1.alloc (.cells #[.int .u64 x0, .int .u64 x1, .int .u64 x2, .int .u64 x3, .string x4, .string x5, .int .i64 x6, .int .i64 x7, .bool x8, .slice xA xn xc] 28) := ⟨_, rfl⟩
  obtain ⟨b1, hb1⟩ : ∃ b1, b1 = W1.heap.size := ⟨_, rfl⟩
  have hB1 : Below w.heap.size w W1 := by rw [hW1]; exact (Below.refl _ _).alloc (Nat.le_refl _) _
  have hs1 := hB1.size
  have hB2 : Below w.heap.size w W2 := by rw [hW2]; exact hB1.alloc hs1 _
  have hq2 : W2.heap[b1]? = some (.cells #[.int .u64 x0, .int .u64 x1, .int .u64 x2, .int .u64 x3, .string x4, .string x5, .int .i64 x6, .int .i64 x7, .bool x8, .slice xA xn xc] 28) := by rw [hW2, hb1]; exact heap_alloc_new W1 _
  have hs2 := hB2.size
  have hl : Ls.cells ⟨⟨x0, x1, x2, x3, x4, x5, x6, x7, x8, ats⟩, xA, xc⟩ = [.int .u64 x0, .int .u64 x1, .int .u64 x2, .int .u64 x3, .string x4, .string x5, .int .i64 x6, .int .i64 x7, .bool x8, .slice xA xn xc] := by rw [hxn]; rfl
  have hone : RdSps W2 W2.heap.size (some ⟨b1, 0, none⟩) [⟨⟨x0, x1, x2, x3, x4, x5, x6, x7, x8, ats⟩, xA, xc⟩] := RdSps.one (B := B) (by rw [hl]; exact hq2) (hy.below (hB2.mono hB)) (by omega)
  have AC := Lib.hid (addall_any A l n c W2.heap.size (some ⟨b1, 0, none⟩) _ 1 1 m W2 hn (((hr.more hB).below hB2).more hs2) hok hs hone rfl (Nat.le_refl _) (T.below (B := w.heap.size) hB2 T.lt) (TL.below hB2 TL.lt) hm (by omega))
  have HB2 := Lib.hid hB2
  have HW1 := Lib.hid hW1
  have HW2 := Lib.hid hW2
  have HV1 := Lib.hid hb1
  clear hn hr hok hs hxn hy T TL hB1 hs1 hB2 hq2 hs2 hl hone hW1 hW2 hb1
  go_enter Tryd.func14, Tryd.ntmps14
  go_upto_region 1 with fail
  rw [← HW1.out]
  have e0 : W1.cell? ⟨w.heap.size, 0, none⟩ = some (.int .u64 x0) := by rw [HW1.out]; exact cell_of_row _ _ 0 _ _ (0, 0) (heap_alloc_new w _)
  have e1 : W1.cell? ⟨w.heap.size, 1, none⟩ = some (.int .u64 x1) := by rw [HW1.out]; exact cell_of_row _ _ 1 _ _ (0, 0) (heap_alloc_new w _)
  have e2 : W1.cell? ⟨w.heap.size, 2, none⟩ = some (.int .u64 x2) := by rw [HW1.out]; exact cell_of_row _ _ 2 _ _ (0, 0) (heap_alloc_new w _)
  have e3 : W1.cell? ⟨w.heap.size, 3, none⟩ = some (.int .u64 x3) := by rw [HW1.out]; exact cell_of_row _ _ 3 _ _ (0, 0) (heap_alloc_new w _)
  have e4 : W1.cell? ⟨w.heap.size, 4, none⟩ = some (.string x4) := by rw [HW1.out]; exact cell_of_row _ _ 4 _ _ (0, 0) (heap_alloc_new w _)
  have e5 : W1.cell? ⟨w.heap.size, 5, none⟩ = some (.string x5) := by rw [HW1.out]; exact cell_of_row _ _ 5 _ _ (0, 0) (heap_alloc_new w _)
  have e6 : W1.cell? ⟨w.heap.size, 6, none⟩ = some (.int .i64 x6) := by rw [HW1.out]; exact cell_of_row _ _ 6 _ _ (0, 0) (heap_alloc_new w _)
  have e7 : W1.cell? ⟨w.heap.size, 7, none⟩ = some (.int .i64 x7) := by rw [HW1.out]; exact cell_of_row _ _ 7 _ _ (0, 0) (heap_alloc_new w _)
  have e8 : W1.cell? ⟨w.heap.size, 8, none⟩ = some (.bool x8) := by rw [HW1.out]; exact cell_of_row _ _ 8 _ _ (0, 0) (heap_alloc_new w _)
  have e9 : W1.cell? ⟨w.heap.size, 9, none⟩ = some (.slice xA xn xc) := by rw [HW1.out]; exact cell_of_row _ _ 9 _ _ (0, 0) (heap_alloc_new w _)
  rw [HW2.out, HV1.out] at AC
  go_wp2_with (go_at_call 33; (with_reducible refine AC.out.mono ?_); rintro ex w3 ⟨v', rfl, ho3, hb3⟩; have HO3 := Lib.hid ho3; have HB3 := Lib.hid hb3; clear ho3 hb3)
  go_ret
  rw [← HW2.out] at HO3 HB3
  exact ⟨_, rfl, own_mono HO3.out HB2.out.size, HB2.out.trans (HB3.out.mono HB2.out.size)⟩
set_option maxHeartbeats 4000000 in
/-- The law's rows: of spans, one by one. -/
theorem rows_any (sA : Option Addr) (S : List Ls) (sn sc B : Nat) (m : Int) (w : World) (hS : RdSps w B sA S) (hsn : sn = S.length) (hB : B ≤ w.heap.size) (T : Bnds w) (TL : Lens w) (hm : m ≤ 9223372036854775807) (hsmall : sn ≤ 1000) :
    Calls Tryd.prog 21 #[.slice sA sn sc, .int .i64 m] w fun e w' => ∃ v', e = .returned v' ∧ w'.ownsRow w.heap.size 48 14 v' (rowsS (S.map Ls.s) m).length ((rowsS (S.map Ls.s) m).flatMap Rw.cells) ∧ Below w.heap.size w w' := by
  have HSs := Lib.hid hS
  have HSN := Lib.hid hsn
  have HT : Hid (Bnds w ∧ Lens w ∧ 4 < w.heap.size ∧ 1 < w.heap.size) := ⟨T, TL, T.lt, TL.lt⟩
  clear hS hsn T TL
  go_enter Tryd.func21, Tryd.ntmps21
  go_wp2_with fail
  go_loopw [5, 6] (fun v i wr => ∃ (k nn c' : Nat) (A' : Option Addr) (L : List Rw), i = .int .i64 k ∧ k ≤ sn ∧ v = .slice A' nn c' ∧ Hid (nn ≤ 3 * k) ∧ Hid (L = rowsS ((S.map Ls.s).take k) m) ∧ Hid (nn = L.length) ∧ Hid (wr.ownsRow w.heap.size 48 14 (.slice A' nn c') nn (L.flatMap Rw.cells)) ∧ Hid (okL L) ∧ Hid (Below w.heap.size w wr)) (fun _ i _ => sn - (intOf i).toNat)
  case atStart => exact ⟨0, 0, 0, none, [], rfl, Nat.zero_le _, rfl, Lib.hid (Nat.le_refl _), Lib.hid rfl, Lib.hid rfl, Lib.hid (World.ownsRow_nil _ _ _ _), Lib.hid (fun r hr => by cases hr), Lib.hid (Below.refl _ _)⟩
  case round =>
    obtain ⟨k, nn, c', A', L, rfl, hk, rfl, HNN, HL, HLN, HO, HOL, HB⟩ := hrel
    by_cases hlt : k < sn
    · obtain ⟨y, hy⟩ : ∃ y, S[k]? = some y := ⟨_, List.getElem?_eq_getElem (by rw [← HSN.out]; exact hlt)⟩
      have HYS := Lib.hid (show (S.map Ls.s).take (k + 1) = (S.map Ls.s).take k ++ [y.s] from by
        rw [List.take_add_one, List.getElem?_map, hy]; rfl)
      obtain ⟨a, ha, hab, hcc, hyd⟩ := (HSs.out.below (HB.out.mono hB)).at_ hy
      subst ha
      obtain ⟨⟨x0, x1, x2, x3, x4, x5, x6, x7, x8, ats⟩, xA, xc⟩ := y
      obtain ⟨xn, hxn⟩ : ∃ xn, xn = ats.length := ⟨_, rfl⟩
      have d0 : wr.cell? (a.add (k * 10)) = some (.int .u64 x0) := hcc 0 _ rfl
      have d1 : wr.cell? ⟨(a.add (k * 10)).block, (a.add (k * 10)).off + 1, none⟩ = some (.int .u64 x1) := cell_far (hcc 1 _ rfl) (by decide)
      have d2 : wr.cell? ⟨(a.add (k * 10)).block, (a.add (k * 10)).off + 2, none⟩ = some (.int .u64 x2) := cell_far (hcc 2 _ rfl) (by decide)
      have d3 : wr.cell? ⟨(a.add (k * 10)).block, (a.add (k * 10)).off + 3, none⟩ = some (.int .u64 x3) := cell_far (hcc 3 _ rfl) (by decide)
      have d4 : wr.cell? ⟨(a.add (k * 10)).block, (a.add (k * 10)).off + 4, none⟩ = some (.string x4) := cell_far (hcc 4 _ rfl) (by decide)
      have d5 : wr.cell? ⟨(a.add (k * 10)).block, (a.add (k * 10)).off + 5, none⟩ = some (.string x5) := cell_far (hcc 5 _ rfl) (by decide)
      have d6 : wr.cell? ⟨(a.add (k * 10)).block, (a.add (k * 10)).off + 6, none⟩ = some (.int .i64 x6) := cell_far (hcc 6 _ rfl) (by decide)
      have d7 : wr.cell? ⟨(a.add (k * 10)).block, (a.add (k * 10)).off + 7, none⟩ = some (.int .i64 x7) := cell_far (hcc 7 _ rfl) (by decide)
      have d8 : wr.cell? ⟨(a.add (k * 10)).block, (a.add (k * 10)).off + 8, none⟩ = some (.bool x8) := cell_far (hcc 8 _ rfl) (by decide)
      have d9 : wr.cell? ⟨(a.add (k * 10)).block, (a.add (k * 10)).off + 9, none⟩ = some (.slice xA xn xc) := by rw [hxn]; exact cell_far (hcc 9 _ rfl) (by decide)
      have hso : SortR L := by rw [HL.out]; exact rows_sort m _
      have AC := Lib.hid (radd_any A' L nn c' wr.heap.size x0 x1 x2 x3 x4 x5 x6 x7 x8 ats xA xc xn m wr HLN.out (Rd.of_own HO.out) HOL.out hso hxn (hyd.more (Nat.le_trans hB HB.out.size)) (Nat.le_refl _) (HT.out.1.below HB.out HT.out.2.2.1) (HT.out.2.1.below HB.out HT.out.2.2.2) hm (by have := HNN.out; omega))
      have HLT := Lib.hid hlt
      have kk0 : (0 : Int) ≤ (k : Int) := by omega
      have kk1 : (k : Int) < (sn : Int) := by omega
      have kk2 : (sn : Int) ≤ 1000 := by omega
      clear hcc hyd hy hxn hab hso
      obtain ⟨L', hL'⟩ : ∃ L', L' = addS L ⟨x0, x1, x2, x3, x4, x5, x6, x7, x8, ats⟩ m := ⟨_, rfl⟩
      rw [← hL'] at AC
      have HL' := Lib.hid hL'
      obtain ⟨n', hn'⟩ : ∃ n', n' = L'.length := ⟨_, rfl⟩
      rw [← hn'] at AC
      have HN' := Lib.hid hn'
      clear hL' hn'
      go_wp2_with (go_at_call 14; (with_reducible refine AC.out.mono ?_); rintro ex w3 ⟨v', rfl, ho3, hb3⟩; have HO3 := Lib.hid ho3; have HB3 := Lib.hid hb3; clear ho3 hb3)
      obtain ⟨A3, c3, rfl, _, _⟩ := own_rd HO3.out
      go_roundw
      case rel => exact ⟨k + 1, n', c3, A3, L', by go_num, HLT.out, rfl, Lib.hid (by have h1 := HNN.out; have h2 := HN'.out; have h3 := addS_len L ⟨x0, x1, x2, x3, x4, x5, x6, x7, x8, ats⟩ m; rw [← HL'.out] at h3; have h4 := HLN.out; omega), Lib.hid (by rw [HYS.out, rowsS_snoc, ← HL.out]; exact HL'.out), HN', Lib.hid (own_mono HO3.out HB.out.size), Lib.hid (by rw [HL'.out]; exact addS_ok _ m hm HOL.out), Lib.hid (HB.out.trans (HB3.out.mono HB.out.size))⟩
      case measure => have := HLT.out; simp [intOf]; omega
    · obtain rfl : k = sn := by omega
      have HLL := Lib.hid (show L = rowsS (S.map Ls.s) m from by rw [HL.out, HSN.out, List.take_of_length_le (by simp)])
      go_wp2_with fail
      go_ret
      refine ⟨_, rfl, ?_, HB.out⟩
      rw [← HLL.out, ← HLN.out]
      exact HO.out
end Go.Proofs.YtkhhcnpmobgdgaaDoor
