/- rollup.AddAll: the walk. -/
import Derived.Test.YtkhhcnpmobgdgaaDoorYg
namespace Go.Proofs.YtkhhcnpmobgdgaaDoor
open Go.RowKit
set_option linter.unusedVariables false
set_option linter.unusedSimpArgs false
set_option maxRecDepth 100000
def RgH (W : World) (base g n c p M : Nat) (oc ct jc : List Int) (m : Int) (xs : List Value) : Nat → Value → World → Prop
  | 0, v, _ => v = .slice (some ⟨g, 0, none⟩) n c
  | 1, v, _ => v = .int .i64 (p : Int)
  | 2, v, _ => v = .slice (some ⟨g, 0, none⟩) n c
  | 3, v, _ => v = .int .i64 (p : Int)
  | 4, v, _ => v = .pointer (some ⟨g, p * 14, none⟩)
  | 5, v, _ => v = .pointer (some ⟨g, p * 14 + 4, none⟩)
  | 6, v, _ => v = .agg (Cv oc)
  | 7, v, _ => v = .pointer (some ⟨M, 0, none⟩)
  | 8, v, _ => v = .agg (Cv ct)
  | 9, v, _ => v = .int .i64 m
  | 10, v, _ => v = .agg (Cv jc)
  | 11, v, _ => v = .pointer (some ⟨g, p * 14, none⟩)
  | 12, v, _ => v = .pointer (some ⟨g, p * 14 + 4, none⟩)
  | 13, _, w => w.ownsRow base 48 14 (.slice (some ⟨g, 0, none⟩) n c) n xs ∧ Grew W w (.slice (some ⟨g, 0, none⟩) n c) (.slice (some ⟨g, 0, none⟩) n c)
  | _, _, _ => True
theorem RgH.keep {W : World} {base g n c p M : Nat} {oc ct jc : List Int} {m : Int} {xs : List Value} {w w' : World} {i : Nat} {v : Value} (hi : i ≠ 13) (h : RgH W base g n c p M oc ct jc m xs i v w) : RgH W base g n c p M oc ct jc m xs i v w' := by
  match i, hi, h with
  | 0, _, h => exact h
  | 1, _, h => exact h
  | 2, _, h => exact h
  | 3, _, h => exact h
  | 4, _, h => exact h
  | 5, _, h => exact h
  | 6, _, h => exact h
  | 7, _, h => exact h
  | 8, _, h => exact h
  | 9, _, h => exact h
  | 10, _, h => exact h
  | 11, _, h => exact h
  | 12, _, h => exact h
  | 13, hi, h => exact absurd rfl hi
  | _ + 14, _, h => trivial
def RgM (W : World) (base g n c p M : Nat) (oc ct jc : List Int) (m : Int) (xs : List Value) : Nat → Value → World → Prop
  | 0, v, _ => v = .slice (some ⟨g, 0, none⟩) n c
  | 1, v, _ => v = .int .i64 (p : Int)
  | 2, v, _ => v = .slice (some ⟨g, 0, none⟩) n c
  | 3, v, _ => v = .int .i64 (p : Int)
  | 4, v, _ => v = .pointer (some ⟨g, p * 14, none⟩)
  | 5, v, _ => v = .pointer (some ⟨g, p * 14 + 4, none⟩)
  | 6, v, _ => v = .agg (Cv oc)
  | 7, v, _ => v = .pointer (some ⟨M, 0, none⟩)
  | 8, v, _ => v = .agg (Cv ct)
  | 9, v, _ => v = .int .i64 m
  | 10, v, _ => v = .agg (Cv jc)
  | 11, v, _ => v = .pointer (some ⟨g, p * 14, none⟩)
  | 12, v, _ => v = .pointer (some ⟨g, p * 14 + 4, none⟩)
  | 13, _, w => w.ownsRow base 48 14 (.slice (some ⟨g, 0, none⟩) n c) n xs ∧ Grew W w (.slice (some ⟨g, 0, none⟩) n c) (.slice (some ⟨g, 0, none⟩) n c)
  | _, _, _ => True
theorem RgM.keep {W : World} {base g n c p M : Nat} {oc ct jc : List Int} {m : Int} {xs : List Value} {w w' : World} {i : Nat} {v : Value} (hi : i ≠ 13) (h : RgM W base g n c p M oc ct jc m xs i v w) : RgM W base g n c p M oc ct jc m xs i v w' := by
  match i, hi, h with
  | 0, _, h => exact h
  | 1, _, h => exact h
  | 2, _, h => exact h
  | 3, _, h => exact h
  | 4, _, h => exact h
  | 5, _, h => exact h
  | 6, _, h => exact h
  | 7, _, h => exact h
  | 8, _, h => exact h
  | 9, _, h => exact h
  | 10, _, h => exact h
  | 11, _, h => exact h
  | 12, _, h => exact h
  | 13, hi, h => exact absurd rfl hi
  | _ + 14, _, h => trivial

set_option maxHeartbeats 8000000 in
theorem addall_any (A : Option Addr) (l : List Rw) (n c B : Nat) (sA : Option Addr) (S : List Ls) (sn sc : Nat) (m : Int) (w : World) (hn : n = l.length) (hr : Rd w B A (l.flatMap Rw.cells)) (hok : okL l) (hs : SortR l) (hS : RdSps w B sA S) (hsn : sn = S.length) (hB : B ≤ w.heap.size) (T : Bnds w) (TL : Lens w) (hm : m ≤ 9223372036854775807) (hsmall : n + 3 * sn ≤ 100000) :
    Calls Tryd.prog 33 #[.slice A n c, .slice sA sn sc, .int .i64 m] w fun e w' => ∃ v', e = .returned v' ∧ w'.ownsRow w.heap.size 48 14 v' (addAllS l (S.map Ls.s) m).length ((addAllS l (S.map Ls.s) m).flatMap Rw.cells) ∧ Below w.heap.size w w' := by
  obtain ⟨base, hbase⟩ : ∃ base, base = w.heap.size := ⟨_, rfl⟩
  have CC := Lib.hid (r_clone A l n c B w hn hr hB (by omega))
  rw [← hbase] at CC hB ⊢
  have HSs := Lib.hid hS
  have HSN := Lib.hid hsn
  have HN := Lib.hid hn
  have HT : Hid (Bnds w ∧ Lens w ∧ 4 < base ∧ 1 < base) := ⟨T, TL, by rw [hbase]; exact T.lt, by rw [hbase]; exact TL.lt⟩
  have HBASE := Lib.hid hbase
  have HOK := Lib.hid hok
  have HSO := Lib.hid hs
  have hsm1 : n ≤ 100000 := by omega
  have HSM := Lib.hid hsmall
  clear hn hr hok hs hS hsn T TL hbase hsmall
  go_enter Tryd.func33, Tryd.ntmps33
  go_upto_region 3 with (go_at_call 50; (with_reducible refine CC.out.mono ?_); rintro ex w1 ⟨v1, rfl, ho1, hb1⟩; have HO1 := Lib.hid ho1; have HB1 := Lib.hid hb1; clear ho1 hb1)
  obtain ⟨A1, c1, rfl, hnc1, hrd1⟩ := own_rd HO1.out
  have IS := Lib.hid (issorted_any A1 l n c1 w1.heap.size w1 HN.out hrd1 (Nat.le_refl _) HSO.out (by omega))
  clear hrd1 CC
  go_upto_region 6 with (go_at_call 52; (with_reducible refine IS.out.mono ?_); rintro ex w2 ⟨rfl, hb2⟩; have HO2 := Lib.hid (own_below HO1.out hb2); have HB2 := Lib.hid (HB1.out.trans (hb2.mono (by have := HB1.out.size; have := HBASE.out; omega))); clear hb2 HO1 HB1 IS)
  generalize hz2 : w2.heap.size = z2 at *
  clear hz2
  go_loopw [7, 22] (fun v i wr => ∃ (k nn c' : Nat) (A' : Option Addr) (L : List Rw), i = .int .i64 k ∧ k ≤ sn ∧ v = .slice A' nn c' ∧ Hid (nn ≤ n + 3 * k) ∧ Hid (L = addAllS l ((S.map Ls.s).take k) m) ∧ Hid (nn = L.length) ∧ Hid (wr.ownsRow base 48 14 (.slice A' nn c') nn (L.flatMap Rw.cells)) ∧ Hid (SortR L) ∧ Hid (okL L) ∧ Hid (Below base w wr)) (fun _ i _ => sn - (intOf i).toNat)
  case atStart => exact ⟨0, n, c1, A1, l, rfl, Nat.zero_le _, rfl, Lib.hid (by omega), Lib.hid rfl, HN, HO2, HSO, HOK, HB2⟩
  case round =>
    obtain ⟨k, nn, c', A', L, rfl, hk, rfl, HNN, HL, HLN, HO, HSR, HOL, HB⟩ := hrel
    by_cases hlt : k < sn
    · obtain ⟨y, hy⟩ : ∃ y, S[k]? = some y := ⟨_, List.getElem?_eq_getElem (by rw [← HSN.out]; exact hlt)⟩
      have HYS := Lib.hid (show (S.map Ls.s).take (k + 1) = (S.map Ls.s).take k ++ [y.s] from by
        rw [List.take_add_one, List.getElem?_map, hy]; rfl)
      obtain ⟨a, ha, hab, hcc, hyd⟩ := (HSs.out.below (HB.out.mono hB)).at_ hy
      subst ha
      obtain ⟨⟨x0, x1, x2, x3, x4, x5, x6, x7, x8, ats⟩, xA, xc⟩ := y
      obtain ⟨xn, hxn⟩ : ∃ xn, xn = ats.length := ⟨_, rfl⟩
      have d0 : wr.cell? (a.add (k * 10)) = some (.int .u64 x0) := hcc 0 _ rfl
      have d1 : wr.cell? ⟨(a.add (k * 10)).block, (a.add (k * 10)).off + 1, none⟩ = some (.int .u64 x1) := cell_far (hcc 1 _ rfl) (by decide)
      have d2 : wr.cell? ⟨(a.add (k * 10)).block, (a.add (k * 10)).off + 2, none⟩ = some (.int .u64 x2) := cell_far (hcc 2 _ rfl) (by decide)
      have d3 : wr.cell? ⟨(a.add (k * 10)).block, (a.add (k * 10)).off + 3, none⟩ = some (.int .u64 x3) := cell_far (hcc 3 _ rfl) (by decide)
      have d4 : wr.cell? ⟨(a.add (k * 10)).block, (a.add (k * 10)).off + 4, none⟩ = some (.string x4) := cell_far (hcc 4 _ rfl) (by decide)
      have d5 : wr.cell? ⟨(a.add (k * 10)).block, (a.add (k * 10)).off + 5, none⟩ = some (.string x5) := cell_far (hcc 5 _ rfl) (by decide)
      have d6 : wr.cell? ⟨(a.add (k * 10)).block, (a.add (k * 10)).off + 6, none⟩ = some (.int .i64 x6) := cell_far (hcc 6 _ rfl) (by decide)
      have d7 : wr.cell? ⟨(a.add (k * 10)).block, (a.add (k * 10)).off + 7, none⟩ = some (.int .i64 x7) := cell_far (hcc 7 _ rfl) (by decide)
      have d8 : wr.cell? ⟨(a.add (k * 10)).block, (a.add (k * 10)).off + 8, none⟩ = some (.bool x8) := cell_far (hcc 8 _ rfl) (by decide)
      have d9 : wr.cell? ⟨(a.add (k * 10)).block, (a.add (k * 10)).off + 9, none⟩ = some (.slice xA xn xc) := by rw [hxn]; exact cell_far (hcc 9 _ rfl) (by decide)
      have HBS := Lib.hid (show base ≤ wr.heap.size from Nat.le_trans (by rw [HBASE.out]; exact Nat.le_refl _) HB.out.size)
      obtain ⟨X, hX⟩ : ∃ X, X = wr.heap.size := ⟨_, rfl⟩
      obtain ⟨W8, hW8⟩ : ∃ W8, W8 = wr.alloc (.cells #[.int .u64 x0, .int .u64 x1, .int .u64 x2, .int .u64 x3, .string x4, .string x5, .int .i64 x6, .int .i64 x7, .bool x8, .slice xA xn xc] 28) := ⟨_, rfl⟩
      have hb8 : Below X wr W8 := by rw [hW8, hX]; exact (Below.refl wr.heap.size wr).alloc (Nat.le_refl _) _
      have HQ8 := Lib.hid (show W8.heap[X]? = some (.cells #[.int .u64 x0, .int .u64 x1, .int .u64 x2, .int .u64 x3, .string x4, .string x5, .int .i64 x6, .int .i64 x7, .bool x8, .slice xA xn xc] 28) from by rw [hW8, hX]; exact heap_alloc_new wr _)
      have HO8 := Lib.hid (own_below HO.out (by rw [← hX]; exact hb8))
      have HB8 := Lib.hid (show Below base w W8 from HB.out.trans (hb8.mono (by rw [hX]; exact HBS.out)))
      have HY8 := Lib.hid (show RdL W8 B ⟨⟨x0, x1, x2, x3, x4, x5, x6, x7, x8, ats⟩, xA, xc⟩ from hyd.below (hb8.mono (by have := HBS.out; omega)))
      have HBX := Lib.hid (show base ≤ X ∧ X < W8.heap.size from ⟨by rw [hX]; exact HBS.out, by rw [hW8, hX]; simp⟩)
      have RI := Lib.hid (right_lit x0 x1 x2 x3 x4 x5 x6 x7 x8 ats xA xc xn B W8 hxn HY8.out (by have := HBS.out; have := HBX.out; omega))
      have HXN := Lib.hid hxn
      have HXE := Lib.hid hX
      have HWE := Lib.hid hW8
      have HLT := Lib.hid hlt
      have kk0 : (0 : Int) ≤ (k : Int) := by omega
      have kk1 : (k : Int) < (sn : Int) := by omega
      have kk2 : (sn : Int) ≤ 100000 := by have := HSM.out; omega
      clear hcc hyd hy hxn hX hW8 hb8 hab
      have HYR := Lib.hid (show right ⟨x0, x1, x2, x3, x4, x5, x6, x7, x8, ats⟩ = right ⟨x0, x1, x2, x3, x4, x5, x6, x7, x8, ats⟩ from rfl)
      obtain ⟨rb, hrb⟩ : ∃ rb, rb = right ⟨x0, x1, x2, x3, x4, x5, x6, x7, x8, ats⟩ := ⟨_, rfl⟩
      rw [← hrb] at RI
      have HRB := Lib.hid hrb
      clear hrb HYR
      go_upto_region 8 with fail
      rw [← HWE.out, ← HXE.out]
      have e0 : W8.cell? ⟨X, 0, none⟩ = some (.int .u64 x0) := cell_of_row _ _ 0 _ _ (0, 0) HQ8.out
      have e1 : W8.cell? ⟨X, 1, none⟩ = some (.int .u64 x1) := cell_of_row _ _ 1 _ _ (0, 0) HQ8.out
      have e2 : W8.cell? ⟨X, 2, none⟩ = some (.int .u64 x2) := cell_of_row _ _ 2 _ _ (0, 0) HQ8.out
      have e3 : W8.cell? ⟨X, 3, none⟩ = some (.int .u64 x3) := cell_of_row _ _ 3 _ _ (0, 0) HQ8.out
      have e4 : W8.cell? ⟨X, 4, none⟩ = some (.string x4) := cell_of_row _ _ 4 _ _ (0, 0) HQ8.out
      have e5 : W8.cell? ⟨X, 5, none⟩ = some (.string x5) := cell_of_row _ _ 5 _ _ (0, 0) HQ8.out
      have e6 : W8.cell? ⟨X, 6, none⟩ = some (.int .i64 x6) := cell_of_row _ _ 6 _ _ (0, 0) HQ8.out
      have e7 : W8.cell? ⟨X, 7, none⟩ = some (.int .i64 x7) := cell_of_row _ _ 7 _ _ (0, 0) HQ8.out
      have e8 : W8.cell? ⟨X, 8, none⟩ = some (.bool x8) := cell_of_row _ _ 8 _ _ (0, 0) HQ8.out
      have e9 : W8.cell? ⟨X, 9, none⟩ = some (.slice xA xn xc) := cell_of_row _ _ 9 _ _ (0, 0) HQ8.out
      clear d0 d1 d2 d3 d4 d5 d6 d7 d8 d9
      cases rb
      · go_wp2_with (go_at_call 55; (with_reducible refine RI.out.mono ?_); rintro ex w9 ⟨rfl, hb9⟩; have HO9 := Lib.hid (own_below HO8.out hb9); have HB9 := Lib.hid (HB8.out.trans (hb9.mono (by have := HBX.out; omega))); clear hb9)
        go_roundw
        case rel => exact ⟨k + 1, nn, c', A', L, by go_num, HLT.out, rfl, Lib.hid (by have := HNN.out; omega), Lib.hid (by rw [HYS.out, addAllS_snoc, ← HL.out]; unfold addS; rw [← HRB.out]; rfl), HLN, HO9, HSR, HOL, HB9⟩
        case measure => have := HLT.out; simp [intOf]; omega
      · have HBL := Lib.hid (fun (W : World) (h : Below W8.heap.size W8 W) (j : Nat) (v : Value) (hc : W8.cell? ⟨X, j, none⟩ = some v) => show W.cell? ⟨X, j, none⟩ = some v from (h.cell (p := ⟨X, j, none⟩) HBX.out.2).trans hc)
        go_upto_region 9 with (go_at_call 55; (with_reducible refine RI.out.mono ?_); rintro ex w9 ⟨rfl, hb9⟩; have HW9 := Lib.hid hb9; clear hb9)
        have HO9 := Lib.hid (own_below HO8.out HW9.out)
        have HB9 := Lib.hid (HB8.out.trans (HW9.out.mono (by have := HBX.out; omega)))
        have HQ9 := Lib.hid ((HW9.out.block X HBX.out.2).trans HQ8.out)
        have HS9 := Lib.hid (show X < w9.heap.size ∧ base ≤ w9.heap.size from by have := HW9.out.size; have := HBX.out; omega)
        clear HO8 HB8 HQ8 HW9 HBL RI e0 e1 e2 e3 e4 e5 e6 e7 e8 e9 HWE HXE
        obtain ⟨M, hM⟩ : ∃ M, M = w9.heap.size := ⟨_, rfl⟩
        obtain ⟨W10, hW10⟩ : ∃ W10, W10 = w9.alloc (.cells #[.int .i64 0, .int .i64 0, .int .i64 0, .int .i64 0, .int .i64 0, .int .i64 0, .int .i64 0, .int .i64 0, .int .i64 0, .int .i64 0] 93) := ⟨_, rfl⟩
        have hb10 : Below M w9 W10 := by rw [hW10, hM]; exact (Below.refl w9.heap.size w9).alloc (Nat.le_refl _) _
        have hm10 : W10.heap[M]? = some (.cells (Cv []) 93) := by rw [hW10, hM]; exact heap_alloc_new w9 _
        have HO10 := Lib.hid (own_below HO9.out (by rw [← hM]; exact hb10))
        have HB10 := Lib.hid (HB9.out.trans (hb10.mono (by rw [hM]; exact HS9.out.2)))
        have hq10 := (hb10.block X (by rw [hM]; exact HS9.out.1)).trans HQ9.out
        have HM10 := Lib.hid (show base ≤ M ∧ X < M ∧ M < W10.heap.size from ⟨by rw [hM]; exact HS9.out.2, by rw [hM]; exact HS9.out.1, by rw [hW10, hM]; simp⟩)
        have TB10 : Bnds W10 := HT.out.1.below HB10.out HT.out.2.2.1
        have MA := Lib.hid (madd_any M x0 x1 x2 x3 x4 x5 x6 x7 x8 xA xn xc W10 TB10 hm10)
        have HMM := Lib.hid hm10
        have HME := Lib.hid hM
        have HWM := Lib.hid hW10
        go_upto_region 10 with fail
        rw [← HWM.out, ← HME.out]
        have g0 : W10.cell? ⟨X, 0, none⟩ = some (.int .u64 x0) := cell_of_row _ _ 0 _ _ (0, 0) hq10
        have g1 : W10.cell? ⟨X, 1, none⟩ = some (.int .u64 x1) := cell_of_row _ _ 1 _ _ (0, 0) hq10
        have g2 : W10.cell? ⟨X, 2, none⟩ = some (.int .u64 x2) := cell_of_row _ _ 2 _ _ (0, 0) hq10
        have g3 : W10.cell? ⟨X, 3, none⟩ = some (.int .u64 x3) := cell_of_row _ _ 3 _ _ (0, 0) hq10
        have g4 : W10.cell? ⟨X, 4, none⟩ = some (.string x4) := cell_of_row _ _ 4 _ _ (0, 0) hq10
        have g5 : W10.cell? ⟨X, 5, none⟩ = some (.string x5) := cell_of_row _ _ 5 _ _ (0, 0) hq10
        have g6 : W10.cell? ⟨X, 6, none⟩ = some (.int .i64 x6) := cell_of_row _ _ 6 _ _ (0, 0) hq10
        have g7 : W10.cell? ⟨X, 7, none⟩ = some (.int .i64 x7) := cell_of_row _ _ 7 _ _ (0, 0) hq10
        have g8 : W10.cell? ⟨X, 8, none⟩ = some (.bool x8) := cell_of_row _ _ 8 _ _ (0, 0) hq10
        have g9 : W10.cell? ⟨X, 9, none⟩ = some (.slice xA xn xc) := cell_of_row _ _ 9 _ _ (0, 0) hq10
        have HQ10 := Lib.hid hq10
        clear hm10 hq10 hb10 hM hW10 TB10 HO9 HB9 HQ9
        go_upto_region 12 with (go_at_call 56; (with_reducible refine MA.out.mono ?_); rintro ex w12 ⟨rfl, hm12, hb12⟩; have HM12 := Lib.hid hm12; have HB12 := Lib.hid hb12; clear hm12 hb12)
        clear g0 g1 g2 g3 g4 g5 g6 g7 g8 g9
        have HQ12 := Lib.hid ((HB12.out.block X (by have := HM10.out; omega) (by have := HM10.out; omega)).trans HQ10.out)
        have HBB12 := Lib.hid (HB10.out.trans (HB12.out.below HM10.out.1 (by have := HM10.out; omega)))
        have HO12 := Lib.hid (own_only HO10.out HMM.out (by decide) HB12.out)
        obtain ⟨ct, hct⟩ : ∃ ct, ct = oneC (Bm.of x7) x8 := ⟨_, rfl⟩
        rw [← hct] at HM12
        have HCT := Lib.hid hct
        have HX12 := Lib.hid (show base ≤ X ∧ X < w12.heap.size ∧ base ≤ w12.heap.size from by have := HB12.out.size; have := HM10.out; have := HBX.out; omega)
        clear hct HO10 HB10 HQ10 HMM HWM HME MA HB12
        go_loopw [7, 33] (fun v i wr => ∃ (u nv c' : Nat) (A' : Option Addr) (L' : List Rw), i = .int .i64 u ∧ u ≤ 3 ∧ v = .slice A' nv c' ∧ Hid (nv ≤ nn + u) ∧ Hid (L' = addV L ⟨x0, x1, x2, x3, x4, x5, x6, x7, x8, ats⟩ m u) ∧ Hid (nv = L'.length) ∧ Hid (wr.ownsRow base 48 14 (.slice A' nv c') nv (L'.flatMap Rw.cells)) ∧ Hid (Below base w wr) ∧ Hid (wr.heap[X]? = some (.cells #[.int .u64 x0, .int .u64 x1, .int .u64 x2, .int .u64 x3, .string x4, .string x5, .int .i64 x6, .int .i64 x7, .bool x8, .slice xA xn xc] 28)) ∧ Hid (wr.heap[M]? = some (.cells (Cv ct) 93)) ∧ Hid (w12.heap.size ≤ wr.heap.size)) (fun _ i _ => 3 - (intOf i).toNat)
        case atStart => exact ⟨0, nn, c', A', L, rfl, by omega, rfl, Lib.hid (Nat.le_refl _), Lib.hid rfl, HLN, HO12, HBB12, HQ12, HM12, Lib.hid (Nat.le_refl _)⟩
        case round =>
          obtain ⟨u, nv, c2, A2, L2, rfl, hu, rfl, VNN, VL, VLN, VO, VB, VQ, VM, VS⟩ := hrel
          by_cases hu3 : u < 3
          · have hlev : Wm.isLevel (u : Int) := by unfold Wm.isLevel; omega
            have HLEV := Lib.hid hlev
            have TLr : Lens wr := HT.out.2.1.below VB.out HT.out.2.2.2
            have TL1 : Hid (Lens wr.drew) := TLr.drewN 1
            have TL2 : Hid (Lens (wr.alloc (.cells #[.int .i64 0, .int .i64 0, .string ⟨#[]⟩, .string ⟨#[]⟩, .int .i64 0, .int .i64 0, .int .i64 0, .int .i64 0, .int .i64 0, .int .i64 0, .int .i64 0, .int .i64 0, .int .i64 0, .int .i64 0] 48)).drew) := (TLr.alloc _).drewN 1
            obtain ⟨wi, hwi⟩ : ∃ wi, wi = Wm.win (u : Int) x6 := ⟨_, rfl⟩
            have WO := Lib.hid (fun W (T : Lens W) => of_in (u : Int) x6 W hlev T)
            rw [← hwi] at WO
            have HWI := Lib.hid hwi
            have q4 : wr.cell? ⟨X, 4, none⟩ = some (.string x4) := cell_of_row _ _ 4 _ _ (0, 0) VQ.out
            have q5 : wr.cell? ⟨X, 5, none⟩ = some (.string x5) := cell_of_row _ _ 5 _ _ (0, 0) VQ.out
            have q6 : wr.cell? ⟨X, 6, none⟩ = some (.int .i64 x6) := cell_of_row _ _ 6 _ _ (0, 0) VQ.out
            have uu0 : (0 : Int) ≤ (u : Int) := by omega
            have uu3 : (u : Int) < 3 := by omega
            obtain ⟨Y, hY⟩ : ∃ Y, Y = wr.heap.size := ⟨_, rfl⟩
            have HYE := Lib.hid hY
            clear hlev TLr hwi hY
            go_upto_region 14 with fail
            go_cut [12, 13] (fun s12 s13 wx => s12 = .int .i64 (u : Int) ∧ s13 = .pointer (some ⟨Y, 0, none⟩) ∧ Hid (∃ q, wx = (wr.alloc (.cells #[.int .i64 (u : Int), .int .i64 wi, .string x4, .string x5, .int .i64 0, .int .i64 0, .int .i64 0, .int .i64 0, .int .i64 0, .int .i64 0, .int .i64 0, .int .i64 0, .int .i64 0, .int .i64 0] 48)).drewN q))
            case first =>
              all_goals
                go_region_held3 (fun W' => W'.cell? ⟨X, 4, none⟩ = some (.string x4) ∧ W'.cell? ⟨X, 5, none⟩ = some (.string x5) ∧ W'.cell? ⟨X, 6, none⟩ = some (.int .i64 x6))
                  (first | go_keep)
                  ((go_at_call 57; refine (WO.out _ (by first | exact TL1.out | exact TL2.out)).mono ?_; rintro e w1 ⟨rfl, hw⟩; subst hw))
              all_goals
                go_wp2_with fail
                go_meet
                exact ⟨rfl, by rw [HYE.out], ⟨1, rfl⟩⟩
            case rest =>
              obtain ⟨rfl, rfl, HW⟩ := hcut
              have hb14 : Below Y wr wc := by
                obtain ⟨q, rfl⟩ := HW.out
                have h := (Below.refl wr.heap.size wr).alloc (Nat.le_refl _) (.cells #[.int .i64 (u : Int), .int .i64 wi, .string x4, .string x5, .int .i64 0, .int .i64 0, .int .i64 0, .int .i64 0, .int .i64 0, .int .i64 0, .int .i64 0, .int .i64 0, .int .i64 0, .int .i64 0] 48)
                rw [HYE.out]
                exact ⟨h.os, h.tape, h.output, h.size, h.block⟩
              have hq14 : wc.heap[Y]? = some (.cells #[.int .i64 (u : Int), .int .i64 wi, .string x4, .string x5, .int .i64 0, .int .i64 0, .int .i64 0, .int .i64 0, .int .i64 0, .int .i64 0, .int .i64 0, .int .i64 0, .int .i64 0, .int .i64 0] 48) := by
                obtain ⟨q, rfl⟩ := HW.out
                rw [HYE.out]; exact heap_alloc_new wr _
              have HXY := Lib.hid (show X < Y ∧ M < Y ∧ base ≤ Y ∧ Y < wc.heap.size from by
                have h1 := HX12.out; have h2 := HM10.out; have h3 := VS.out; have h4 := HYE.out
                refine ⟨by omega, ?_, by omega, ?_⟩
                · rcases Nat.lt_or_ge M wr.heap.size with h | h
                  · omega
                  · have := VM.out; rw [Array.getElem?_eq_none h] at this; cases this
                · rcases Nat.lt_or_ge Y wc.heap.size with h | h
                  · exact h
                  · rw [Array.getElem?_eq_none h] at hq14; cases hq14)
              have VO14 := Lib.hid (own_below VO.out (by rw [← HYE.out]; exact hb14))
              have VB14 := Lib.hid (VB.out.trans (hb14.mono HXY.out.2.2.1))
              have VQ14 := Lib.hid ((hb14.block X HXY.out.1).trans VQ.out)
              have VM14 := Lib.hid ((hb14.block M HXY.out.2.1).trans VM.out)
              have VS14 := Lib.hid (show w12.heap.size ≤ wc.heap.size from by have := VS.out; have := HYE.out; have := HXY.out; omega)
              have y0 : wc.cell? ⟨Y, 0, none⟩ = some (.int .i64 (u : Int)) := cell_of_row _ _ 0 _ _ (0, 0) hq14
              have y1 : wc.cell? ⟨Y, 1, none⟩ = some (.int .i64 wi) := cell_of_row _ _ 1 _ _ (0, 0) hq14
              have y2 : wc.cell? ⟨Y, 2, none⟩ = some (.string x4) := cell_of_row _ _ 2 _ _ (0, 0) hq14
              have y3 : wc.cell? ⟨Y, 3, none⟩ = some (.string x5) := cell_of_row _ _ 3 _ _ (0, 0) hq14
              have y4 : wc.cell? ⟨Y, 4, none⟩ = some (.int .i64 0) := cell_of_row _ _ 4 _ _ (0, 0) hq14
              have y5 : wc.cell? ⟨Y, 5, none⟩ = some (.int .i64 0) := cell_of_row _ _ 5 _ _ (0, 0) hq14
              have y6 : wc.cell? ⟨Y, 6, none⟩ = some (.int .i64 0) := cell_of_row _ _ 6 _ _ (0, 0) hq14
              have y7 : wc.cell? ⟨Y, 7, none⟩ = some (.int .i64 0) := cell_of_row _ _ 7 _ _ (0, 0) hq14
              have y8 : wc.cell? ⟨Y, 8, none⟩ = some (.int .i64 0) := cell_of_row _ _ 8 _ _ (0, 0) hq14
              have y9 : wc.cell? ⟨Y, 9, none⟩ = some (.int .i64 0) := cell_of_row _ _ 9 _ _ (0, 0) hq14
              have y10 : wc.cell? ⟨Y, 10, none⟩ = some (.int .i64 0) := cell_of_row _ _ 10 _ _ (0, 0) hq14
              have y11 : wc.cell? ⟨Y, 11, none⟩ = some (.int .i64 0) := cell_of_row _ _ 11 _ _ (0, 0) hq14
              have y12 : wc.cell? ⟨Y, 12, none⟩ = some (.int .i64 0) := cell_of_row _ _ 12 _ _ (0, 0) hq14
              have y13 : wc.cell? ⟨Y, 13, none⟩ = some (.int .i64 0) := cell_of_row _ _ 13 _ _ (0, 0) hq14
              have HSL := Lib.hid (show SortR L2 ∧ okL L2 from by rw [VL.out]; exact ⟨addV_sort _ _ HSR.out u, addV_ok _ _ hm HOL.out u⟩)
              have PS := Lib.hid (placesorted_any A2 L2 nv c2 wc.heap.size (u : Int) wi x4 x5 0 0 0 0 0 0 0 0 0 0 wc VLN.out (Rd.of_own VO14.out) (Nat.le_refl _) HSL.out.1 (by have h1 := VNN.out; have h2 := HNN.out; have h3 := HSM.out; have h4 := HLT.out; omega))
              obtain ⟨K, hK⟩ : ∃ K : Ky, K = ⟨(u : Int), wi, x4, x5⟩ := ⟨_, rfl⟩
              have HKK := Lib.hid (show K = spK (u : Int) ⟨x0, x1, x2, x3, x4, x5, x6, x7, x8, ats⟩ from by rw [hK, HWI.out]; rfl)
              rw [← hK] at PS
              have HK := Lib.hid hK
              obtain ⟨p, hp⟩ : ∃ p, p = posR L2 K := ⟨_, rfl⟩
              obtain ⟨hit, hhit⟩ : ∃ h, h = hitR L2 K := ⟨_, rfl⟩
              rw [← hp, ← hhit] at PS
              have HP := Lib.hid hp
              have HH := Lib.hid hhit
              have HQ14 := Lib.hid hq14
              clear hb14 hq14 hK hp hhit HW VO VB VQ VM VS TL1 TL2 WO q4 q5 q6
              have HPL := Lib.hid (show p ≤ nv from by rw [HP.out, VLN.out]; exact posR_le _ _)
              go_upto_region 16 with (go_at_call 54; (with_reducible refine PS.out.mono ?_); rintro ex w16 ⟨rfl, hb16⟩; have HB16 := Lib.hid hb16; clear hb16)
              have VO16 := Lib.hid (own_below VO14.out HB16.out)
              have VB16 := Lib.hid (VB14.out.trans (HB16.out.mono (by have := HXY.out; omega)))
              have VQ16 := Lib.hid ((HB16.out.block X (by have := HXY.out; omega)).trans VQ14.out)
              have VM16 := Lib.hid ((HB16.out.block M (by have := HXY.out; omega)).trans VM14.out)
              have VS16 := Lib.hid (Nat.le_trans VS14.out HB16.out.size)
              have HQ16 := Lib.hid ((HB16.out.block Y (by have := HXY.out; omega)).trans HQ14.out)
              clear VO14 VB14 VQ14 VM14 VS14 HQ14 PS y0 y1 y2 y3 y4 y5 y6 y7 y8 y9 y10 y11 y12 y13
              cases hit
              · have hins := insR_miss K (fS ⟨x0, x1, x2, x3, x4, x5, x6, x7, x8, ats⟩ m) HSL.out.1 HH.out.symm
                rw [← HP.out] at hins
                obtain ⟨r, hr0⟩ : ∃ r : Rw, r = ⟨K, []⟩ := ⟨_, rfl⟩
                obtain ⟨L3, hL3⟩ : ∃ L3, L3 = L2.take p ++ r :: L2.drop p := ⟨_, rfl⟩
                obtain ⟨n3, hn3⟩ : ∃ n3, n3 = nv + 1 := ⟨_, rfl⟩
                have hpl2 := HPL.out
                have htl : (L2.take p).length = p := by rw [List.length_take, ← VLN.out]; omega
                have hr1 : L3[p]? = some r := by rw [hL3, List.getElem?_append_right (by omega), htl, Nat.sub_self]; rfl
                have HRL := Lib.hid hr1
                have HL3 := Lib.hid (show n3 = L3.length from by rw [hL3, hn3, List.length_append, List.length_cons, List.length_drop, htl, ← VLN.out]; omega)
                have HOK3 := Lib.hid (show okC r.ct from by rw [hr0]; exact okC_nil)
                have HNEW := Lib.hid (show L3.set p ⟨r.k, joinC r.ct ct m⟩ = addV L ⟨x0, x1, x2, x3, x4, x5, x6, x7, x8, ats⟩ m (u + 1) from by
                  show _ = insR (spK (u : Int) ⟨x0, x1, x2, x3, x4, x5, x6, x7, x8, ats⟩) (fS ⟨x0, x1, x2, x3, x4, x5, x6, x7, x8, ats⟩ m) (addV L ⟨x0, x1, x2, x3, x4, x5, x6, x7, x8, ats⟩ m u)
                  rw [← VL.out, ← HKK.out, hins, ← set_take hr1, hL3, List.take_append_of_le_length (by omega), List.take_of_length_le (by omega), List.drop_append, htl, List.drop_of_length_le (by omega), show p + 1 - p = 1 by omega, hr0, HCT.out]; rfl)
                have hpl : p < n3 := by omega
                have HN3 := Lib.hid hn3
                have y0' := HQ16.out
                have y0 : w16.cell? ⟨Y, 0, none⟩ = some (.int .i64 (u : Int)) := cell_of_row _ _ 0 _ _ (0, 0) HQ16.out
                have y1 : w16.cell? ⟨Y, 1, none⟩ = some (.int .i64 wi) := cell_of_row _ _ 1 _ _ (0, 0) HQ16.out
                have y2 : w16.cell? ⟨Y, 2, none⟩ = some (.string x4) := cell_of_row _ _ 2 _ _ (0, 0) HQ16.out
                have y3 : w16.cell? ⟨Y, 3, none⟩ = some (.string x5) := cell_of_row _ _ 3 _ _ (0, 0) HQ16.out
                have y4 : w16.cell? ⟨Y, 4, none⟩ = some (.int .i64 0) := cell_of_row _ _ 4 _ _ (0, 0) HQ16.out
                have y5 : w16.cell? ⟨Y, 5, none⟩ = some (.int .i64 0) := cell_of_row _ _ 5 _ _ (0, 0) HQ16.out
                have y6 : w16.cell? ⟨Y, 6, none⟩ = some (.int .i64 0) := cell_of_row _ _ 6 _ _ (0, 0) HQ16.out
                have y7 : w16.cell? ⟨Y, 7, none⟩ = some (.int .i64 0) := cell_of_row _ _ 7 _ _ (0, 0) HQ16.out
                have y8 : w16.cell? ⟨Y, 8, none⟩ = some (.int .i64 0) := cell_of_row _ _ 8 _ _ (0, 0) HQ16.out
                have y9 : w16.cell? ⟨Y, 9, none⟩ = some (.int .i64 0) := cell_of_row _ _ 9 _ _ (0, 0) HQ16.out
                have y10 : w16.cell? ⟨Y, 10, none⟩ = some (.int .i64 0) := cell_of_row _ _ 10 _ _ (0, 0) HQ16.out
                have y11 : w16.cell? ⟨Y, 11, none⟩ = some (.int .i64 0) := cell_of_row _ _ 11 _ _ (0, 0) HQ16.out
                have y12 : w16.cell? ⟨Y, 12, none⟩ = some (.int .i64 0) := cell_of_row _ _ 12 _ _ (0, 0) HQ16.out
                have y13 : w16.cell? ⟨Y, 13, none⟩ = some (.int .i64 0) := cell_of_row _ _ 13 _ _ (0, 0) HQ16.out
                obtain ⟨vb, hvb⟩ : ∃ vb, vb = w16.heap.size := ⟨_, rfl⟩
                have hbI := (Below.refl w16.heap.size w16).alloc (Nat.le_refl _) (.cells #[.int .i64 (u : Int), .int .i64 wi, .string x4, .string x5, .int .i64 0, .int .i64 0, .int .i64 0, .int .i64 0, .int .i64 0, .int .i64 0, .int .i64 0, .int .i64 0, .int .i64 0, .int .i64 0] 48)
                have IC : Hid (Calls Tryd.prog 58 #[.slice A2 nv c2, .int .i64 (p : Int), .slice (some ⟨vb, 0, none⟩) 1 1] (w16.alloc (.cells #[.int .i64 (u : Int), .int .i64 wi, .string x4, .string x5, .int .i64 0, .int .i64 0, .int .i64 0, .int .i64 0, .int .i64 0, .int .i64 0, .int .i64 0, .int .i64 0, .int .i64 0, .int .i64 0] 48)) fun ex w' => ∃ (A3 : Option Addr) (c3 : Nat), ex = .returned (.slice A3 n3 c3) ∧ w'.ownsRow base 48 14 (.slice A3 n3 c3) n3 (L3.flatMap Rw.cells) ∧ Grew w16 w' (.slice A2 nv c2) (.slice A3 n3 c3)) := Lib.hid ((by
                  refine (r_insert A2 nv c2 p vb L2 r base _ (own_below VO16.out hbI) VLN.out hpl2 (by have h1 := VNN.out; have h2 := HNN.out; have h3 := HSM.out; have h4 := HLT.out; omega) (by simp; have := HXY.out; have := HB16.out.size; omega) (by rw [hvb, hr0, HK.out]; exact heap_alloc_new w16 _) (fun a ha => by
                    subst ha
                    have hh := VO16.out.2
                    rcases hh with ⟨hh, _⟩ | ⟨gg, cap, cur, hh, _, hcur, _⟩
                    · cases hh
                    · injection hh with hh
                      injection hh with hh
                      rw [hh, hvb]
                      intro e
                      have e : w16.heap.size = gg := e
                      rw [← e, Array.getElem?_eq_none (Nat.le_refl _)] at hcur
                      cases hcur)).mono ?_
                  rintro ex w' ⟨A3, c3, e1, e2, e3⟩
                  exact ⟨A3, c3, by rw [e1, hn3], by rw [hn3, hL3]; exact e2, by rw [hn3]; exact Grew.alloc e3⟩))
                clear hins hr0 hL3 hn3 hr1 htl hbI y0'
                rw [hvb] at IC
                clear hvb
                go_upto_region 18 with (go_at_call 58; (with_reducible refine IC.out.mono ?_); rintro ex w17 ⟨A3, c3, rfl, ho17, hg17⟩; have VO17 := Lib.hid ho17; have VG17 := Lib.hid hg17; clear ho17 hg17)
                have hnM0 := own_not VO16.out VM16.out (by decide)
                have hnX0 := own_not VO16.out VQ16.out (by decide)
                have VM17 := Lib.hid ((VG17.out.grown.block M (by have := HXY.out; have := HB16.out.size; omega) (fun e => hnM0 e.symm)).trans VM16.out)
                have VQ17 := Lib.hid ((VG17.out.grown.block X (by have := HXY.out; have := HB16.out.size; omega) (fun e => hnX0 e.symm)).trans VQ16.out)
                have VS17 := Lib.hid (Nat.le_trans VS16.out VG17.out.grown.size)
                have VB17 := Lib.hid (VG17.out.below VB16.out (by have := HXY.out; have := HB16.out.size; omega) (fun k hk => by
                  rcases VO16.out.2 with ⟨hh, _⟩ | ⟨gg, cap, cur, hh, hbg0, _⟩
                  · rw [hh] at hk; cases hk
                  · rw [hh] at hk; injection hk with hk; rw [← hk]; exact hbg0))
                clear hnM0 hnX0 y0 y1 y2 y3 y4 y5 y6 y7 y8 y9 y10 y11 y12 y13
                obtain ⟨g, hgA, _, hbg, hgw, hnc3, hcm3, cur3, hcur3, hcs3⟩ := own_parts VO17.out (by omega)
                subst hgA
                obtain ⟨oc, hoc0⟩ : ∃ oc, oc = r.ct := ⟨_, rfl⟩
                obtain ⟨jc, hjc⟩ : ∃ jc, jc = joinC oc ct m := ⟨_, rfl⟩
                obtain ⟨W, hW⟩ : ∃ W, W = w17.drew := ⟨_, rfl⟩
                have z : Hid (∀ j, j < 10 → W.cell? ⟨g, p * 14 + 4 + j, none⟩ = some (.int .i64 (oc.getD j 0)) ∧ W.frozen? ⟨g, p * 14 + 4 + j, none⟩ = false) := Lib.hid (fun j hj => by
                  have h := own_cells VO17.out (p * 14 + 4 + j) (by omega)
                  rw [hW]
                  refine ⟨?_, h.1⟩
                  show w17.cell? _ = _
                  rw [h.2.1, Nat.add_assoc, flatMap_at _ 14 rcells_len L3 p (4 + j) (by omega), HRL.out, hoc0]
                  have : j = 0 ∨ j = 1 ∨ j = 2 ∨ j = 3 ∨ j = 4 ∨ j = 5 ∨ j = 6 ∨ j = 7 ∨ j = 8 ∨ j = 9 := by omega
                  rcases this with rfl | rfl | rfl | rfl | rfl | rfl | rfl | rfl | rfl | rfl <;> rfl)
                have hgs : g < W.heap.size := by rw [hW]; exact hgw
                have hmw : Hid (W.heap[M]? = some (.cells (Cv ct) 93)) := by rw [hW]; exact VM17
                have hms : M < W.heap.size := by
                  rcases Nat.lt_or_ge M W.heap.size with h | h
                  · exact h
                  · have := hmw.out; rw [Array.getElem?_eq_none h] at this; cases this
                have hbw : base ≤ W.heap.size := by omega
                have hoc : okC oc := by rw [hoc0]; exact HOK3.out
                have hcc : okC ct := by rw [HCT.out]; exact cS_ok ⟨x0, x1, x2, x3, x4, x5, x6, x7, x8, ats⟩
                have p0 : (p : Int) < (n3 : Int) := by omega
                have p1 : (0 : Int) ≤ (p : Int) := by omega
                obtain ⟨xs, hxs⟩ : ∃ xs, xs = (L3.set p ⟨r.k, jc⟩).flatMap Rw.cells := ⟨_, rfl⟩
                have WOWN : W.ownsRow base 48 14 (.slice (some ⟨g, 0, none⟩) n3 c3) n3 (L3.flatMap Rw.cells) := by rw [hW]; exact VO17.out
                have SET0 : ∀ w5, Below W.heap.size W w5 → (w5.setCells g (p * 14 + 4) [.int .i64 (jc.getD 0 0), .int .i64 (jc.getD 1 0), .int .i64 (jc.getD 2 0), .int .i64 (jc.getD 3 0), .int .i64 (jc.getD 4 0), .int .i64 (jc.getD 5 0), .int .i64 (jc.getD 6 0), .int .i64 (jc.getD 7 0), .int .i64 (jc.getD 8 0), .int .i64 (jc.getD 9 0)]).ownsRow base 48 14 (.slice (some ⟨g, 0, none⟩) n3 c3) n3 xs ∧ Grew w5 (w5.setCells g (p * 14 + 4) [.int .i64 (jc.getD 0 0), .int .i64 (jc.getD 1 0), .int .i64 (jc.getD 2 0), .int .i64 (jc.getD 3 0), .int .i64 (jc.getD 4 0), .int .i64 (jc.getD 5 0), .int .i64 (jc.getD 6 0), .int .i64 (jc.getD 7 0), .int .i64 (jc.getD 8 0), .int .i64 (jc.getD 9 0)]) (.slice (some ⟨g, 0, none⟩) n3 c3) (.slice (some ⟨g, 0, none⟩) n3 c3) := fun w5 hr => by
                  have h := own_setks' ((Rw.cells ⟨r.k, jc⟩).drop 4) (p * 14 + 4) (own_below WOWN hr) (by show p * 14 + 4 + 10 ≤ _; omega)
                  rw [set_cells jc HRL.out, ← hxs] at h
                  exact h
                have SETB := Lib.hid (fun w5 (hr : Below W.heap.size W w5) => (SET0 w5 hr).2.below (Below.refl base w5) (Nat.le_trans hbw hr.size) (fun k hk => by injection hk with hk; rw [← hk]; exact hbg))
                have SETP := Lib.hid (fun w5 (hr : Below W.heap.size W w5) => show (w5.setCells g (p * 14 + 4) [.int .i64 (jc.getD 0 0), .int .i64 (jc.getD 1 0), .int .i64 (jc.getD 2 0), .int .i64 (jc.getD 3 0), .int .i64 (jc.getD 4 0), .int .i64 (jc.getD 5 0), .int .i64 (jc.getD 6 0), .int .i64 (jc.getD 7 0), .int .i64 (jc.getD 8 0), .int .i64 (jc.getD 9 0)]).ownsRow base 48 14 (.slice (some ⟨g, 0, none⟩) n3 c3) n3 xs ∧ Grew W (w5.setCells g (p * 14 + 4) [.int .i64 (jc.getD 0 0), .int .i64 (jc.getD 1 0), .int .i64 (jc.getD 2 0), .int .i64 (jc.getD 3 0), .int .i64 (jc.getD 4 0), .int .i64 (jc.getD 5 0), .int .i64 (jc.getD 6 0), .int .i64 (jc.getD 7 0), .int .i64 (jc.getD 8 0), .int .i64 (jc.getD 9 0)]) (.slice (some ⟨g, 0, none⟩) n3 c3) (.slice (some ⟨g, 0, none⟩) n3 c3) from ⟨(SET0 w5 hr).1, (Grew.belowy _ hr).trans (SET0 w5 hr).2⟩)
                have HXS := Lib.hid hxs
                have HJC := Lib.hid hjc
                have HOC0 := Lib.hid hoc0
                have HWW := Lib.hid hW
                clear SET0 WOWN hxs hoc0 hjc hcur3 hcs3
                refine PI.wp_region_persG (R := fun w w' => Below base w w') (G := fun _ _ => True) (I := PI.LastI 13 W) [(4, 2), (4, 3), (5, 4), (6, 5), (8, 7), (10, 6), (10, 8), (10, 9), (11, 0), (11, 1), (12, 11), (13, 10), (13, 12)] [13] (by kernel_rfl) (PI.formed_of (by kernel_rfl)) ⟨fun w => Below.refl _ w, fun _ _ _ h k => h.trans k⟩ (fun _ => trivial) (RgM W base g n3 c3 p M oc ct jc m xs) (by rw [hW]; exact Or.inr (Below.refl _ _)) ?_ ?_
                · rw [← hW]
                  intro i o ho
                  rcases i with _ | _ | _ | _ | _ | _ | _ | _ | _ | _ | _ | _ | _ | _ | i
                  · obtain rfl := Option.some.inj (show some _ = some o from ho)
                    refine PI.shown_val rfl fun a w5 L0 hR5 T => ?_
                    have hr := PI.last_below T (by kernel_rfl) (by decide)
                    have hLn := PI.sink_false T (by kernel_rfl) (by decide)
                    have h1 : a.eval (.tmp 7) = .slice (some ⟨g, 0, none⟩) n3 c3 := T.was 7 (by kernel_rfl)
                    exact ⟨.slice (some ⟨g, 0, none⟩) n3 c3, w5, by simp only [execOp, h1]; simp [go_sem], PI.Post.pure ⟨fun w => Below.refl _ w, fun _ _ _ h k => h.trans k⟩ rfl (PI.LastI.go (a := a) (w := w5) hr)⟩
                  · obtain rfl := Option.some.inj (show some _ = some o from ho)
                    refine PI.shown_val rfl fun a w5 L0 hR5 T => ?_
                    have hr := PI.last_below T (by kernel_rfl) (by decide)
                    have hLn := PI.sink_false T (by kernel_rfl) (by decide)
                    have h1 : a.eval (.tmp 14) = .int .i64 (p : Int) := T.was 14 (by kernel_rfl)
                    exact ⟨.int .i64 (p : Int), w5, by simp only [execOp, h1]; simp [go_sem], PI.Post.pure ⟨fun w => Below.refl _ w, fun _ _ _ h k => h.trans k⟩ rfl (PI.LastI.go (a := a) (w := w5) hr)⟩
                  · obtain rfl := Option.some.inj (show some _ = some o from ho)
                    refine PI.shown_val rfl fun a w5 L0 hR5 T => ?_
                    have hr := PI.last_below T (by kernel_rfl) (by decide)
                    have hLn := PI.sink_false T (by kernel_rfl) (by decide)
                    have h1 : a.eval (.tmp 7) = .slice (some ⟨g, 0, none⟩) n3 c3 := T.was 7 (by kernel_rfl)
                    exact ⟨.slice (some ⟨g, 0, none⟩) n3 c3, w5, by simp only [execOp, h1]; simp [go_sem], PI.Post.pure ⟨fun w => Below.refl _ w, fun _ _ _ h k => h.trans k⟩ rfl (PI.LastI.go (a := a) (w := w5) hr)⟩
                  · obtain rfl := Option.some.inj (show some _ = some o from ho)
                    refine PI.shown_val rfl fun a w5 L0 hR5 T => ?_
                    have hr := PI.last_below T (by kernel_rfl) (by decide)
                    have hLn := PI.sink_false T (by kernel_rfl) (by decide)
                    have h1 : a.eval (.tmp 14) = .int .i64 (p : Int) := T.was 14 (by kernel_rfl)
                    exact ⟨.int .i64 (p : Int), w5, by simp only [execOp, h1]; simp [go_sem], PI.Post.pure ⟨fun w => Below.refl _ w, fun _ _ _ h k => h.trans k⟩ rfl (PI.LastI.go (a := a) (w := w5) hr)⟩
                  · obtain rfl := Option.some.inj (show some _ = some o from ho)
                    refine PI.shown_val rfl fun a w5 L0 hR5 T => ?_
                    have hr := PI.last_below T (by kernel_rfl) (by decide)
                    have hLn := PI.sink_false T (by kernel_rfl) (by decide)
                    have h1 : a.eval (.tmp 62) = .slice (some ⟨g, 0, none⟩) n3 c3 := T.at_ 2 62 (by kernel_rfl) (by kernel_rfl) (by kernel_rfl)
                    have h2 : a.eval (.tmp 63) = .int .i64 (p : Int) := T.at_ 3 63 (by kernel_rfl) (by kernel_rfl) (by kernel_rfl)
                    exact ⟨.pointer (some ⟨g, p * 14, none⟩), w5, by simp only [execOp, h1, h2]; simp [go_sem, Act.eval, p0, p1], PI.Post.pure ⟨fun w => Below.refl _ w, fun _ _ _ h k => h.trans k⟩ rfl (PI.LastI.go (a := a) (w := w5) hr)⟩
                  · obtain rfl := Option.some.inj (show some _ = some o from ho)
                    refine PI.shown_val rfl fun a w5 L0 hR5 T => ?_
                    have hr := PI.last_below T (by kernel_rfl) (by decide)
                    have hLn := PI.sink_false T (by kernel_rfl) (by decide)
                    have h1 : a.eval (.tmp 64) = .pointer (some ⟨g, p * 14, none⟩) := T.at_ 4 64 (by kernel_rfl) (by kernel_rfl) (by kernel_rfl)
                    exact ⟨.pointer (some ⟨g, p * 14 + 4, none⟩), w5, by simp only [execOp, h1]; simp [go_sem], PI.Post.pure ⟨fun w => Below.refl _ w, fun _ _ _ h k => h.trans k⟩ rfl (PI.LastI.go (a := a) (w := w5) hr)⟩
                  · obtain rfl := Option.some.inj (show some _ = some o from ho)
                    refine PI.shown_val rfl fun a w5 L0 hR5 T => ?_
                    have hr := PI.last_below T (by kernel_rfl) (by decide)
                    have hLn := PI.sink_false T (by kernel_rfl) (by decide)
                    have h1 : a.eval (.tmp 65) = .pointer (some ⟨g, p * 14 + 4, none⟩) := T.at_ 5 65 (by kernel_rfl) (by kernel_rfl) (by kernel_rfl)
                    have zz0 := (hr.cell (p := ⟨g, p * 14 + 4, none⟩) hgs).trans (z.out 0 (by decide)).1
                    have zz1 := (hr.cell (p := ⟨g, p * 14 + 4 + 1, none⟩) hgs).trans (z.out 1 (by decide)).1
                    have zz2 := (hr.cell (p := ⟨g, p * 14 + 4 + 2, none⟩) hgs).trans (z.out 2 (by decide)).1
                    have zz3 := (hr.cell (p := ⟨g, p * 14 + 4 + 3, none⟩) hgs).trans (z.out 3 (by decide)).1
                    have zz4 := (hr.cell (p := ⟨g, p * 14 + 4 + 4, none⟩) hgs).trans (z.out 4 (by decide)).1
                    have zz5 := (hr.cell (p := ⟨g, p * 14 + 4 + 5, none⟩) hgs).trans (z.out 5 (by decide)).1
                    have zz6 := (hr.cell (p := ⟨g, p * 14 + 4 + 6, none⟩) hgs).trans (z.out 6 (by decide)).1
                    have zz7 := (hr.cell (p := ⟨g, p * 14 + 4 + 7, none⟩) hgs).trans (z.out 7 (by decide)).1
                    have zz8 := (hr.cell (p := ⟨g, p * 14 + 4 + 8, none⟩) hgs).trans (z.out 8 (by decide)).1
                    have zz9 := (hr.cell (p := ⟨g, p * 14 + 4 + 9, none⟩) hgs).trans (z.out 9 (by decide)).1
                    exact ⟨.agg (Cv oc), w5, by simp only [execOp, h1]; simp [go_sem, Cv, zz0, zz1, zz2, zz3, zz4, zz5, zz6, zz7, zz8, zz9], PI.Post.pure ⟨fun w => Below.refl _ w, fun _ _ _ h k => h.trans k⟩ rfl (PI.LastI.go (a := a) (w := w5) hr)⟩
                  · obtain rfl := Option.some.inj (show some _ = some o from ho)
                    refine PI.shown_val rfl fun a w5 L0 hR5 T => ?_
                    have hr := PI.last_below T (by kernel_rfl) (by decide)
                    have hLn := PI.sink_false T (by kernel_rfl) (by decide)
                    have h1 : a.eval (.tmp 11) = .pointer (some ⟨M, 0, none⟩) := T.was 11 (by kernel_rfl)
                    exact ⟨.pointer (some ⟨M, 0, none⟩), w5, by simp only [execOp, h1]; simp [go_sem], PI.Post.pure ⟨fun w => Below.refl _ w, fun _ _ _ h k => h.trans k⟩ rfl (PI.LastI.go (a := a) (w := w5) hr)⟩
                  · obtain rfl := Option.some.inj (show some _ = some o from ho)
                    refine PI.shown_call rfl 60 fun a w5 L0 hR5 T => ?_
                    have hr := PI.last_below T (by kernel_rfl) (by decide)
                    have hLn := PI.sink_false T (by kernel_rfl) (by decide)
                    have h0 : a.eval (.tmp 67) = .pointer (some ⟨M, 0, none⟩) := T.at_ 7 67 (by kernel_rfl) (by kernel_rfl) (by kernel_rfl)
                    have hm5 := (hr.block M hms).trans hmw.out
                    refine ⟨#[.pointer (some ⟨M, 0, none⟩)], by simp only [execOp, resolve, List.map_toArray, List.map_cons, List.map_nil, h0]; simp [go_sem, Act.eval], ?_⟩
                    refine (mread_any M ct w5 hm5).mono fun e w6 hh => ?_
                    obtain ⟨rfl, hb6⟩ := hh
                    exact ⟨_, rfl, hb6.mono (Nat.le_trans hbw hr.size), rfl, fun _ _ h => h, fun j v _ hlj _ _ h => RgM.keep (by rintro rfl; rw [hLn] at hlj; cases hlj) h, PI.LastI.go (a := a) (w := w5) (hr.trans (hb6.mono hr.size))⟩
                  · obtain rfl := Option.some.inj (show some _ = some o from ho)
                    refine PI.shown_val rfl fun a w5 L0 hR5 T => ?_
                    have hr := PI.last_below T (by kernel_rfl) (by decide)
                    have hLn := PI.sink_false T (by kernel_rfl) (by decide)
                    have h1 : a.eval (.tmp 2) = .int .i64 m := T.was 2 (by kernel_rfl)
                    exact ⟨.int .i64 m, w5, by simp only [execOp, h1]; simp [go_sem], PI.Post.pure ⟨fun w => Below.refl _ w, fun _ _ _ h k => h.trans k⟩ rfl (PI.LastI.go (a := a) (w := w5) hr)⟩
                  · obtain rfl := Option.some.inj (show some _ = some o from ho)
                    refine PI.shown_call rfl 59 fun a w5 L0 hR5 T => ?_
                    have hr := PI.last_below T (by kernel_rfl) (by decide)
                    have hLn := PI.sink_false T (by kernel_rfl) (by decide)
                    have h0 : a.eval (.tmp 66) = .agg (Cv oc) := T.at_ 6 66 (by kernel_rfl) (by kernel_rfl) (by kernel_rfl)
                    have h1 : a.eval (.tmp 68) = .agg (Cv ct) := T.at_ 8 68 (by kernel_rfl) (by kernel_rfl) (by kernel_rfl)
                    have h2 : a.eval (.tmp 69) = .int .i64 m := T.at_ 9 69 (by kernel_rfl) (by kernel_rfl) (by kernel_rfl)
                    have hjn := join_all oc ct m w5 hoc hcc hm
                    rw [← HJC.out] at hjn
                    refine ⟨#[.agg (Cv oc), .agg (Cv ct), .int .i64 m], by simp only [execOp, resolve, List.map_toArray, List.map_cons, List.map_nil, h0, h1, h2]; simp [go_sem, Act.eval], ?_⟩
                    refine (hjn).mono fun e w6 hh => ?_
                    obtain ⟨rfl, hb6⟩ := hh
                    exact ⟨_, rfl, hb6.mono (Nat.le_trans hbw hr.size), rfl, fun _ _ h => h, fun j v _ hlj _ _ h => RgM.keep (by rintro rfl; rw [hLn] at hlj; cases hlj) h, PI.LastI.go (a := a) (w := w5) (hr.trans (hb6.mono hr.size))⟩
                  · obtain rfl := Option.some.inj (show some _ = some o from ho)
                    refine PI.shown_val rfl fun a w5 L0 hR5 T => ?_
                    have hr := PI.last_below T (by kernel_rfl) (by decide)
                    have hLn := PI.sink_false T (by kernel_rfl) (by decide)
                    have h1 : a.eval (.tmp 60) = .slice (some ⟨g, 0, none⟩) n3 c3 := T.at_ 0 60 (by kernel_rfl) (by kernel_rfl) (by kernel_rfl)
                    have h2 : a.eval (.tmp 61) = .int .i64 (p : Int) := T.at_ 1 61 (by kernel_rfl) (by kernel_rfl) (by kernel_rfl)
                    exact ⟨.pointer (some ⟨g, p * 14, none⟩), w5, by simp only [execOp, h1, h2]; simp [go_sem, Act.eval, p0, p1], PI.Post.pure ⟨fun w => Below.refl _ w, fun _ _ _ h k => h.trans k⟩ rfl (PI.LastI.go (a := a) (w := w5) hr)⟩
                  · obtain rfl := Option.some.inj (show some _ = some o from ho)
                    refine PI.shown_val rfl fun a w5 L0 hR5 T => ?_
                    have hr := PI.last_below T (by kernel_rfl) (by decide)
                    have hLn := PI.sink_false T (by kernel_rfl) (by decide)
                    have h1 : a.eval (.tmp 71) = .pointer (some ⟨g, p * 14, none⟩) := T.at_ 11 71 (by kernel_rfl) (by kernel_rfl) (by kernel_rfl)
                    exact ⟨.pointer (some ⟨g, p * 14 + 4, none⟩), w5, by simp only [execOp, h1]; simp [go_sem], PI.Post.pure ⟨fun w => Below.refl _ w, fun _ _ _ h k => h.trans k⟩ rfl (PI.LastI.go (a := a) (w := w5) hr)⟩
                  · obtain rfl := Option.some.inj (show some _ = some o from ho)
                    refine PI.shown_skip rfl fun a w5 L0 hR5 T => ?_
                    have hr := PI.last_at T
                    have h1 : a.eval (.tmp 72) = .pointer (some ⟨g, p * 14 + 4, none⟩) := T.at_ 12 72 (by kernel_rfl) (by kernel_rfl) (by kernel_rfl)
                    have h2 : a.eval (.tmp 70) = .agg (Cv jc) := T.at_ 10 70 (by kernel_rfl) (by kernel_rfl) (by kernel_rfl)
                    have zz0 := (hr.cell (p := ⟨g, p * 14 + 4 + 0, none⟩) hgs).trans (z.out 0 (by decide)).1
                    have ff0 := (hr.frozen (p := ⟨g, p * 14 + 4 + 0, none⟩) hgs).trans (z.out 0 (by decide)).2
                    have zz1 := (hr.cell (p := ⟨g, p * 14 + 4 + 1, none⟩) hgs).trans (z.out 1 (by decide)).1
                    have ff1 := (hr.frozen (p := ⟨g, p * 14 + 4 + 1, none⟩) hgs).trans (z.out 1 (by decide)).2
                    have zz2 := (hr.cell (p := ⟨g, p * 14 + 4 + 2, none⟩) hgs).trans (z.out 2 (by decide)).1
                    have ff2 := (hr.frozen (p := ⟨g, p * 14 + 4 + 2, none⟩) hgs).trans (z.out 2 (by decide)).2
                    have zz3 := (hr.cell (p := ⟨g, p * 14 + 4 + 3, none⟩) hgs).trans (z.out 3 (by decide)).1
                    have ff3 := (hr.frozen (p := ⟨g, p * 14 + 4 + 3, none⟩) hgs).trans (z.out 3 (by decide)).2
                    have zz4 := (hr.cell (p := ⟨g, p * 14 + 4 + 4, none⟩) hgs).trans (z.out 4 (by decide)).1
                    have ff4 := (hr.frozen (p := ⟨g, p * 14 + 4 + 4, none⟩) hgs).trans (z.out 4 (by decide)).2
                    have zz5 := (hr.cell (p := ⟨g, p * 14 + 4 + 5, none⟩) hgs).trans (z.out 5 (by decide)).1
                    have ff5 := (hr.frozen (p := ⟨g, p * 14 + 4 + 5, none⟩) hgs).trans (z.out 5 (by decide)).2
                    have zz6 := (hr.cell (p := ⟨g, p * 14 + 4 + 6, none⟩) hgs).trans (z.out 6 (by decide)).1
                    have ff6 := (hr.frozen (p := ⟨g, p * 14 + 4 + 6, none⟩) hgs).trans (z.out 6 (by decide)).2
                    have zz7 := (hr.cell (p := ⟨g, p * 14 + 4 + 7, none⟩) hgs).trans (z.out 7 (by decide)).1
                    have ff7 := (hr.frozen (p := ⟨g, p * 14 + 4 + 7, none⟩) hgs).trans (z.out 7 (by decide)).2
                    have zz8 := (hr.cell (p := ⟨g, p * 14 + 4 + 8, none⟩) hgs).trans (z.out 8 (by decide)).1
                    have ff8 := (hr.frozen (p := ⟨g, p * 14 + 4 + 8, none⟩) hgs).trans (z.out 8 (by decide)).2
                    have zz9 := (hr.cell (p := ⟨g, p * 14 + 4 + 9, none⟩) hgs).trans (z.out 9 (by decide)).1
                    have ff9 := (hr.frozen (p := ⟨g, p * 14 + 4 + 9, none⟩) hgs).trans (z.out 9 (by decide)).2
                    refine ⟨w5.setCells g (p * 14 + 4) [.int .i64 (jc.getD 0 0), .int .i64 (jc.getD 1 0), .int .i64 (jc.getD 2 0), .int .i64 (jc.getD 3 0), .int .i64 (jc.getD 4 0), .int .i64 (jc.getD 5 0), .int .i64 (jc.getD 6 0), .int .i64 (jc.getD 7 0), .int .i64 (jc.getD 8 0), .int .i64 (jc.getD 9 0)], by simp only [execOp, h1, h2]; simp [go_sem, Cv, World.setCells, zz0, zz1, zz2, zz3, zz4, zz5, zz6, zz7, zz8, zz9, ff0, ff1, ff2, ff3, ff4, ff5, ff6, ff7, ff8, ff9], ?_, ?_, fun _ _ h => h, fun j v hj hlj hnd hvj h => RgM.keep hj h, PI.LastI.done⟩
                    · exact SETB.out w5 hr
                    · exact SETP.out w5 hr
                  · cases ho
                · rw [← hW]
                  intro xx w9 hr hf he _
                  obtain ⟨_, h13⟩ := he 13 _ rfl rfl (by decide)
                  have H13 := Lib.hid (show w9.ownsRow base 48 14 (.slice (some ⟨g, 0, none⟩) n3 c3) n3 xs ∧ Grew W w9 (.slice (some ⟨g, 0, none⟩) n3 c3) (.slice (some ⟨g, 0, none⟩) n3 c3) from h13)
                  have HR9 := Lib.hid hr
                  clear hf he hr h13
                  simp only [PI.putAll, Act.put, List.setIfInBounds_toArray, List.set_cons_zero, List.set_cons_succ, Nat.zero_add, Nat.reduceAdd]
                  have hWs : W.heap.size = w17.heap.size := by rw [HWW.out]; rfl
                  have HB9 := Lib.hid (VB17.out.trans (show Below base w17 w9 from by have h := HR9.out; rw [HWW.out] at h; exact ⟨h.os, h.tape, h.output, h.size, h.block⟩))
                  have hnM := own_not VO17.out VM17.out (by decide)
                  have hnX := own_not VO17.out VQ17.out (by decide)
                  have HM9 := Lib.hid ((H13.out.2.grown.block M hms (fun e => hnM e.symm)).trans hmw.out)
                  have HX9 := Lib.hid ((H13.out.2.grown.block X (by rw [hWs]; have := HX12.out; have := VS17.out; omega) (fun e => hnX e.symm)).trans ((show W.heap[X]? = w17.heap[X]? from by rw [HWW.out]; rfl).trans VQ17.out))
                  have HS9 := Lib.hid (show w12.heap.size ≤ w9.heap.size from by have := H13.out.2.grown.size; have := VS17.out; omega)
                  clear hnM hnX hWs
                  go_wp2_with fail
                  go_roundw
                  case rel => exact ⟨u + 1, n3, c3, some ⟨g, 0, none⟩, L3.set p ⟨r.k, jc⟩, by go_num, by omega, rfl, Lib.hid (by have := VNN.out; have := HN3.out; omega), Lib.hid (by rw [HJC.out, HOC0.out]; exact HNEW.out), Lib.hid (by rw [List.length_set]; exact HL3.out), Lib.hid (by rw [← HXS.out]; exact H13.out.1), HB9, HX9, HM9, HS9⟩
                  case measure => simp [intOf]; omega
              · obtain ⟨r, hr1, hrk, hpl, hins⟩ := insR_hit K (fS ⟨x0, x1, x2, x3, x4, x5, x6, x7, x8, ats⟩ m) HSL.out.1 HH.out.symm
                rw [← HP.out] at hr1 hpl hins
                have HRL := Lib.hid hr1
                have HL3 := VLN
                have HOK3 := Lib.hid (HSL.out.2 r (List.mem_of_getElem? hr1))
                have HNEW := Lib.hid (show L2.set p ⟨r.k, joinC r.ct ct m⟩ = addV L ⟨x0, x1, x2, x3, x4, x5, x6, x7, x8, ats⟩ m (u + 1) from by
                  show _ = insR (spK (u : Int) ⟨x0, x1, x2, x3, x4, x5, x6, x7, x8, ats⟩) (fS ⟨x0, x1, x2, x3, x4, x5, x6, x7, x8, ats⟩ m) (addV L ⟨x0, x1, x2, x3, x4, x5, x6, x7, x8, ats⟩ m u)
                  rw [← VL.out, ← HKK.out, hins, ← set_take hr1, hrk, HCT.out]; rfl)
                have hpl : p < nv := by rw [VLN.out]; exact hpl
                clear hr1 hrk hins
                go_upto_region 18 with fail
                obtain ⟨g, hgA, _, hbg, hgw, hnc3, hcm3, cur3, hcur3, hcs3⟩ := own_parts VO16.out (by omega)
                subst hgA
                obtain ⟨oc, hoc0⟩ : ∃ oc, oc = r.ct := ⟨_, rfl⟩
                obtain ⟨jc, hjc⟩ : ∃ jc, jc = joinC oc ct m := ⟨_, rfl⟩
                obtain ⟨W, hW⟩ : ∃ W, W = w16.drew := ⟨_, rfl⟩
                have z : Hid (∀ j, j < 10 → W.cell? ⟨g, p * 14 + 4 + j, none⟩ = some (.int .i64 (oc.getD j 0)) ∧ W.frozen? ⟨g, p * 14 + 4 + j, none⟩ = false) := Lib.hid (fun j hj => by
                  have h := own_cells VO16.out (p * 14 + 4 + j) (by omega)
                  rw [hW]
                  refine ⟨?_, h.1⟩
                  show w16.cell? _ = _
                  rw [h.2.1, Nat.add_assoc, flatMap_at _ 14 rcells_len L2 p (4 + j) (by omega), HRL.out, hoc0]
                  have : j = 0 ∨ j = 1 ∨ j = 2 ∨ j = 3 ∨ j = 4 ∨ j = 5 ∨ j = 6 ∨ j = 7 ∨ j = 8 ∨ j = 9 := by omega
                  rcases this with rfl | rfl | rfl | rfl | rfl | rfl | rfl | rfl | rfl | rfl <;> rfl)
                have hgs : g < W.heap.size := by rw [hW]; exact hgw
                have hmw : Hid (W.heap[M]? = some (.cells (Cv ct) 93)) := by rw [hW]; exact VM16
                have hms : M < W.heap.size := by
                  rcases Nat.lt_or_ge M W.heap.size with h | h
                  · exact h
                  · have := hmw.out; rw [Array.getElem?_eq_none h] at this; cases this
                have hbw : base ≤ W.heap.size := by omega
                have hoc : okC oc := by rw [hoc0]; exact HOK3.out
                have hcc : okC ct := by rw [HCT.out]; exact cS_ok ⟨x0, x1, x2, x3, x4, x5, x6, x7, x8, ats⟩
                have p0 : (p : Int) < (nv : Int) := by omega
                have p1 : (0 : Int) ≤ (p : Int) := by omega
                obtain ⟨xs, hxs⟩ : ∃ xs, xs = (L2.set p ⟨r.k, jc⟩).flatMap Rw.cells := ⟨_, rfl⟩
                have WOWN : W.ownsRow base 48 14 (.slice (some ⟨g, 0, none⟩) nv c2) nv (L2.flatMap Rw.cells) := by rw [hW]; exact VO16.out
                have SET0 : ∀ w5, Below W.heap.size W w5 → (w5.setCells g (p * 14 + 4) [.int .i64 (jc.getD 0 0), .int .i64 (jc.getD 1 0), .int .i64 (jc.getD 2 0), .int .i64 (jc.getD 3 0), .int .i64 (jc.getD 4 0), .int .i64 (jc.getD 5 0), .int .i64 (jc.getD 6 0), .int .i64 (jc.getD 7 0), .int .i64 (jc.getD 8 0), .int .i64 (jc.getD 9 0)]).ownsRow base 48 14 (.slice (some ⟨g, 0, none⟩) nv c2) nv xs ∧ Grew w5 (w5.setCells g (p * 14 + 4) [.int .i64 (jc.getD 0 0), .int .i64 (jc.getD 1 0), .int .i64 (jc.getD 2 0), .int .i64 (jc.getD 3 0), .int .i64 (jc.getD 4 0), .int .i64 (jc.getD 5 0), .int .i64 (jc.getD 6 0), .int .i64 (jc.getD 7 0), .int .i64 (jc.getD 8 0), .int .i64 (jc.getD 9 0)]) (.slice (some ⟨g, 0, none⟩) nv c2) (.slice (some ⟨g, 0, none⟩) nv c2) := fun w5 hr => by
                  have h := own_setks' ((Rw.cells ⟨r.k, jc⟩).drop 4) (p * 14 + 4) (own_below WOWN hr) (by show p * 14 + 4 + 10 ≤ _; omega)
                  rw [set_cells jc HRL.out, ← hxs] at h
                  exact h
                have SETB := Lib.hid (fun w5 (hr : Below W.heap.size W w5) => (SET0 w5 hr).2.below (Below.refl base w5) (Nat.le_trans hbw hr.size) (fun k hk => by injection hk with hk; rw [← hk]; exact hbg))
                have SETP := Lib.hid (fun w5 (hr : Below W.heap.size W w5) => show (w5.setCells g (p * 14 + 4) [.int .i64 (jc.getD 0 0), .int .i64 (jc.getD 1 0), .int .i64 (jc.getD 2 0), .int .i64 (jc.getD 3 0), .int .i64 (jc.getD 4 0), .int .i64 (jc.getD 5 0), .int .i64 (jc.getD 6 0), .int .i64 (jc.getD 7 0), .int .i64 (jc.getD 8 0), .int .i64 (jc.getD 9 0)]).ownsRow base 48 14 (.slice (some ⟨g, 0, none⟩) nv c2) nv xs ∧ Grew W (w5.setCells g (p * 14 + 4) [.int .i64 (jc.getD 0 0), .int .i64 (jc.getD 1 0), .int .i64 (jc.getD 2 0), .int .i64 (jc.getD 3 0), .int .i64 (jc.getD 4 0), .int .i64 (jc.getD 5 0), .int .i64 (jc.getD 6 0), .int .i64 (jc.getD 7 0), .int .i64 (jc.getD 8 0), .int .i64 (jc.getD 9 0)]) (.slice (some ⟨g, 0, none⟩) nv c2) (.slice (some ⟨g, 0, none⟩) nv c2) from ⟨(SET0 w5 hr).1, (Grew.belowy _ hr).trans (SET0 w5 hr).2⟩)
                have HXS := Lib.hid hxs
                have HJC := Lib.hid hjc
                have HOC0 := Lib.hid hoc0
                have HWW := Lib.hid hW
                clear SET0 WOWN hxs hoc0 hjc hcur3 hcs3
                refine PI.wp_region_persG (R := fun w w' => Below base w w') (G := fun _ _ => True) (I := PI.LastI 13 W) [(4, 2), (4, 3), (5, 4), (6, 5), (8, 7), (10, 6), (10, 8), (10, 9), (11, 0), (11, 1), (12, 11), (13, 10), (13, 12)] [13] (by kernel_rfl) (PI.formed_of (by kernel_rfl)) ⟨fun w => Below.refl _ w, fun _ _ _ h k => h.trans k⟩ (fun _ => trivial) (RgH W base g nv c2 p M oc ct jc m xs) (by rw [hW]; exact Or.inr (Below.refl _ _)) ?_ ?_
                · rw [← hW]
                  intro i o ho
                  rcases i with _ | _ | _ | _ | _ | _ | _ | _ | _ | _ | _ | _ | _ | _ | i
                  · obtain rfl := Option.some.inj (show some _ = some o from ho)
                    refine PI.shown_val rfl fun a w5 L0 hR5 T => ?_
                    have hr := PI.last_below T (by kernel_rfl) (by decide)
                    have hLn := PI.sink_false T (by kernel_rfl) (by decide)
                    have h1 : a.eval (.tmp 7) = .slice (some ⟨g, 0, none⟩) nv c2 := T.was 7 (by kernel_rfl)
                    exact ⟨.slice (some ⟨g, 0, none⟩) nv c2, w5, by simp only [execOp, h1]; simp [go_sem], PI.Post.pure ⟨fun w => Below.refl _ w, fun _ _ _ h k => h.trans k⟩ rfl (PI.LastI.go (a := a) (w := w5) hr)⟩
                  · obtain rfl := Option.some.inj (show some _ = some o from ho)
                    refine PI.shown_val rfl fun a w5 L0 hR5 T => ?_
                    have hr := PI.last_below T (by kernel_rfl) (by decide)
                    have hLn := PI.sink_false T (by kernel_rfl) (by decide)
                    have h1 : a.eval (.tmp 14) = .int .i64 (p : Int) := T.was 14 (by kernel_rfl)
                    exact ⟨.int .i64 (p : Int), w5, by simp only [execOp, h1]; simp [go_sem], PI.Post.pure ⟨fun w => Below.refl _ w, fun _ _ _ h k => h.trans k⟩ rfl (PI.LastI.go (a := a) (w := w5) hr)⟩
                  · obtain rfl := Option.some.inj (show some _ = some o from ho)
                    refine PI.shown_val rfl fun a w5 L0 hR5 T => ?_
                    have hr := PI.last_below T (by kernel_rfl) (by decide)
                    have hLn := PI.sink_false T (by kernel_rfl) (by decide)
                    have h1 : a.eval (.tmp 7) = .slice (some ⟨g, 0, none⟩) nv c2 := T.was 7 (by kernel_rfl)
                    exact ⟨.slice (some ⟨g, 0, none⟩) nv c2, w5, by simp only [execOp, h1]; simp [go_sem], PI.Post.pure ⟨fun w => Below.refl _ w, fun _ _ _ h k => h.trans k⟩ rfl (PI.LastI.go (a := a) (w := w5) hr)⟩
                  · obtain rfl := Option.some.inj (show some _ = some o from ho)
                    refine PI.shown_val rfl fun a w5 L0 hR5 T => ?_
                    have hr := PI.last_below T (by kernel_rfl) (by decide)
                    have hLn := PI.sink_false T (by kernel_rfl) (by decide)
                    have h1 : a.eval (.tmp 14) = .int .i64 (p : Int) := T.was 14 (by kernel_rfl)
                    exact ⟨.int .i64 (p : Int), w5, by simp only [execOp, h1]; simp [go_sem], PI.Post.pure ⟨fun w => Below.refl _ w, fun _ _ _ h k => h.trans k⟩ rfl (PI.LastI.go (a := a) (w := w5) hr)⟩
                  · obtain rfl := Option.some.inj (show some _ = some o from ho)
                    refine PI.shown_val rfl fun a w5 L0 hR5 T => ?_
                    have hr := PI.last_below T (by kernel_rfl) (by decide)
                    have hLn := PI.sink_false T (by kernel_rfl) (by decide)
                    have h1 : a.eval (.tmp 62) = .slice (some ⟨g, 0, none⟩) nv c2 := T.at_ 2 62 (by kernel_rfl) (by kernel_rfl) (by kernel_rfl)
                    have h2 : a.eval (.tmp 63) = .int .i64 (p : Int) := T.at_ 3 63 (by kernel_rfl) (by kernel_rfl) (by kernel_rfl)
                    exact ⟨.pointer (some ⟨g, p * 14, none⟩), w5, by simp only [execOp, h1, h2]; simp [go_sem, Act.eval, p0, p1], PI.Post.pure ⟨fun w => Below.refl _ w, fun _ _ _ h k => h.trans k⟩ rfl (PI.LastI.go (a := a) (w := w5) hr)⟩
                  · obtain rfl := Option.some.inj (show some _ = some o from ho)
                    refine PI.shown_val rfl fun a w5 L0 hR5 T => ?_
                    have hr := PI.last_below T (by kernel_rfl) (by decide)
                    have hLn := PI.sink_false T (by kernel_rfl) (by decide)
                    have h1 : a.eval (.tmp 64) = .pointer (some ⟨g, p * 14, none⟩) := T.at_ 4 64 (by kernel_rfl) (by kernel_rfl) (by kernel_rfl)
                    exact ⟨.pointer (some ⟨g, p * 14 + 4, none⟩), w5, by simp only [execOp, h1]; simp [go_sem], PI.Post.pure ⟨fun w => Below.refl _ w, fun _ _ _ h k => h.trans k⟩ rfl (PI.LastI.go (a := a) (w := w5) hr)⟩
                  · obtain rfl := Option.some.inj (show some _ = some o from ho)
                    refine PI.shown_val rfl fun a w5 L0 hR5 T => ?_
                    have hr := PI.last_below T (by kernel_rfl) (by decide)
                    have hLn := PI.sink_false T (by kernel_rfl) (by decide)
                    have h1 : a.eval (.tmp 65) = .pointer (some ⟨g, p * 14 + 4, none⟩) := T.at_ 5 65 (by kernel_rfl) (by kernel_rfl) (by kernel_rfl)
                    have zz0 := (hr.cell (p := ⟨g, p * 14 + 4, none⟩) hgs).trans (z.out 0 (by decide)).1
                    have zz1 := (hr.cell (p := ⟨g, p * 14 + 4 + 1, none⟩) hgs).trans (z.out 1 (by decide)).1
                    have zz2 := (hr.cell (p := ⟨g, p * 14 + 4 + 2, none⟩) hgs).trans (z.out 2 (by decide)).1
                    have zz3 := (hr.cell (p := ⟨g, p * 14 + 4 + 3, none⟩) hgs).trans (z.out 3 (by decide)).1
                    have zz4 := (hr.cell (p := ⟨g, p * 14 + 4 + 4, none⟩) hgs).trans (z.out 4 (by decide)).1
                    have zz5 := (hr.cell (p := ⟨g, p * 14 + 4 + 5, none⟩) hgs).trans (z.out 5 (by decide)).1
                    have zz6 := (hr.cell (p := ⟨g, p * 14 + 4 + 6, none⟩) hgs).trans (z.out 6 (by decide)).1
                    have zz7 := (hr.cell (p := ⟨g, p * 14 + 4 + 7, none⟩) hgs).trans (z.out 7 (by decide)).1
                    have zz8 := (hr.cell (p := ⟨g, p * 14 + 4 + 8, none⟩) hgs).trans (z.out 8 (by decide)).1
                    have zz9 := (hr.cell (p := ⟨g, p * 14 + 4 + 9, none⟩) hgs).trans (z.out 9 (by decide)).1
                    exact ⟨.agg (Cv oc), w5, by simp only [execOp, h1]; simp [go_sem, Cv, zz0, zz1, zz2, zz3, zz4, zz5, zz6, zz7, zz8, zz9], PI.Post.pure ⟨fun w => Below.refl _ w, fun _ _ _ h k => h.trans k⟩ rfl (PI.LastI.go (a := a) (w := w5) hr)⟩
                  · obtain rfl := Option.some.inj (show some _ = some o from ho)
                    refine PI.shown_val rfl fun a w5 L0 hR5 T => ?_
                    have hr := PI.last_below T (by kernel_rfl) (by decide)
                    have hLn := PI.sink_false T (by kernel_rfl) (by decide)
                    have h1 : a.eval (.tmp 11) = .pointer (some ⟨M, 0, none⟩) := T.was 11 (by kernel_rfl)
                    exact ⟨.pointer (some ⟨M, 0, none⟩), w5, by simp only [execOp, h1]; simp [go_sem], PI.Post.pure ⟨fun w => Below.refl _ w, fun _ _ _ h k => h.trans k⟩ rfl (PI.LastI.go (a := a) (w := w5) hr)⟩
                  · obtain rfl := Option.some.inj (show some _ = some o from ho)
                    refine PI.shown_call rfl 60 fun a w5 L0 hR5 T => ?_
                    have hr := PI.last_below T (by kernel_rfl) (by decide)
                    have hLn := PI.sink_false T (by kernel_rfl) (by decide)
                    have h0 : a.eval (.tmp 67) = .pointer (some ⟨M, 0, none⟩) := T.at_ 7 67 (by kernel_rfl) (by kernel_rfl) (by kernel_rfl)
                    have hm5 := (hr.block M hms).trans hmw.out
                    refine ⟨#[.pointer (some ⟨M, 0, none⟩)], by simp only [execOp, resolve, List.map_toArray, List.map_cons, List.map_nil, h0]; simp [go_sem, Act.eval], ?_⟩
                    refine (mread_any M ct w5 hm5).mono fun e w6 hh => ?_
                    obtain ⟨rfl, hb6⟩ := hh
                    exact ⟨_, rfl, hb6.mono (Nat.le_trans hbw hr.size), rfl, fun _ _ h => h, fun j v _ hlj _ _ h => RgH.keep (by rintro rfl; rw [hLn] at hlj; cases hlj) h, PI.LastI.go (a := a) (w := w5) (hr.trans (hb6.mono hr.size))⟩
                  · obtain rfl := Option.some.inj (show some _ = some o from ho)
                    refine PI.shown_val rfl fun a w5 L0 hR5 T => ?_
                    have hr := PI.last_below T (by kernel_rfl) (by decide)
                    have hLn := PI.sink_false T (by kernel_rfl) (by decide)
                    have h1 : a.eval (.tmp 2) = .int .i64 m := T.was 2 (by kernel_rfl)
                    exact ⟨.int .i64 m, w5, by simp only [execOp, h1]; simp [go_sem], PI.Post.pure ⟨fun w => Below.refl _ w, fun _ _ _ h k => h.trans k⟩ rfl (PI.LastI.go (a := a) (w := w5) hr)⟩
                  · obtain rfl := Option.some.inj (show some _ = some o from ho)
                    refine PI.shown_call rfl 59 fun a w5 L0 hR5 T => ?_
                    have hr := PI.last_below T (by kernel_rfl) (by decide)
                    have hLn := PI.sink_false T (by kernel_rfl) (by decide)
                    have h0 : a.eval (.tmp 66) = .agg (Cv oc) := T.at_ 6 66 (by kernel_rfl) (by kernel_rfl) (by kernel_rfl)
                    have h1 : a.eval (.tmp 68) = .agg (Cv ct) := T.at_ 8 68 (by kernel_rfl) (by kernel_rfl) (by kernel_rfl)
                    have h2 : a.eval (.tmp 69) = .int .i64 m := T.at_ 9 69 (by kernel_rfl) (by kernel_rfl) (by kernel_rfl)
                    have hjn := join_all oc ct m w5 hoc hcc hm
                    rw [← HJC.out] at hjn
                    refine ⟨#[.agg (Cv oc), .agg (Cv ct), .int .i64 m], by simp only [execOp, resolve, List.map_toArray, List.map_cons, List.map_nil, h0, h1, h2]; simp [go_sem, Act.eval], ?_⟩
                    refine (hjn).mono fun e w6 hh => ?_
                    obtain ⟨rfl, hb6⟩ := hh
                    exact ⟨_, rfl, hb6.mono (Nat.le_trans hbw hr.size), rfl, fun _ _ h => h, fun j v _ hlj _ _ h => RgH.keep (by rintro rfl; rw [hLn] at hlj; cases hlj) h, PI.LastI.go (a := a) (w := w5) (hr.trans (hb6.mono hr.size))⟩
                  · obtain rfl := Option.some.inj (show some _ = some o from ho)
                    refine PI.shown_val rfl fun a w5 L0 hR5 T => ?_
                    have hr := PI.last_below T (by kernel_rfl) (by decide)
                    have hLn := PI.sink_false T (by kernel_rfl) (by decide)
                    have h1 : a.eval (.tmp 60) = .slice (some ⟨g, 0, none⟩) nv c2 := T.at_ 0 60 (by kernel_rfl) (by kernel_rfl) (by kernel_rfl)
                    have h2 : a.eval (.tmp 61) = .int .i64 (p : Int) := T.at_ 1 61 (by kernel_rfl) (by kernel_rfl) (by kernel_rfl)
                    exact ⟨.pointer (some ⟨g, p * 14, none⟩), w5, by simp only [execOp, h1, h2]; simp [go_sem, Act.eval, p0, p1], PI.Post.pure ⟨fun w => Below.refl _ w, fun _ _ _ h k => h.trans k⟩ rfl (PI.LastI.go (a := a) (w := w5) hr)⟩
                  · obtain rfl := Option.some.inj (show some _ = some o from ho)
                    refine PI.shown_val rfl fun a w5 L0 hR5 T => ?_
                    have hr := PI.last_below T (by kernel_rfl) (by decide)
                    have hLn := PI.sink_false T (by kernel_rfl) (by decide)
                    have h1 : a.eval (.tmp 71) = .pointer (some ⟨g, p * 14, none⟩) := T.at_ 11 71 (by kernel_rfl) (by kernel_rfl) (by kernel_rfl)
                    exact ⟨.pointer (some ⟨g, p * 14 + 4, none⟩), w5, by simp only [execOp, h1]; simp [go_sem], PI.Post.pure ⟨fun w => Below.refl _ w, fun _ _ _ h k => h.trans k⟩ rfl (PI.LastI.go (a := a) (w := w5) hr)⟩
                  · obtain rfl := Option.some.inj (show some _ = some o from ho)
                    refine PI.shown_skip rfl fun a w5 L0 hR5 T => ?_
                    have hr := PI.last_at T
                    have h1 : a.eval (.tmp 72) = .pointer (some ⟨g, p * 14 + 4, none⟩) := T.at_ 12 72 (by kernel_rfl) (by kernel_rfl) (by kernel_rfl)
                    have h2 : a.eval (.tmp 70) = .agg (Cv jc) := T.at_ 10 70 (by kernel_rfl) (by kernel_rfl) (by kernel_rfl)
                    have zz0 := (hr.cell (p := ⟨g, p * 14 + 4 + 0, none⟩) hgs).trans (z.out 0 (by decide)).1
                    have ff0 := (hr.frozen (p := ⟨g, p * 14 + 4 + 0, none⟩) hgs).trans (z.out 0 (by decide)).2
                    have zz1 := (hr.cell (p := ⟨g, p * 14 + 4 + 1, none⟩) hgs).trans (z.out 1 (by decide)).1
                    have ff1 := (hr.frozen (p := ⟨g, p * 14 + 4 + 1, none⟩) hgs).trans (z.out 1 (by decide)).2
                    have zz2 := (hr.cell (p := ⟨g, p * 14 + 4 + 2, none⟩) hgs).trans (z.out 2 (by decide)).1
                    have ff2 := (hr.frozen (p := ⟨g, p * 14 + 4 + 2, none⟩) hgs).trans (z.out 2 (by decide)).2
                    have zz3 := (hr.cell (p := ⟨g, p * 14 + 4 + 3, none⟩) hgs).trans (z.out 3 (by decide)).1
                    have ff3 := (hr.frozen (p := ⟨g, p * 14 + 4 + 3, none⟩) hgs).trans (z.out 3 (by decide)).2
                    have zz4 := (hr.cell (p := ⟨g, p * 14 + 4 + 4, none⟩) hgs).trans (z.out 4 (by decide)).1
                    have ff4 := (hr.frozen (p := ⟨g, p * 14 + 4 + 4, none⟩) hgs).trans (z.out 4 (by decide)).2
                    have zz5 := (hr.cell (p := ⟨g, p * 14 + 4 + 5, none⟩) hgs).trans (z.out 5 (by decide)).1
                    have ff5 := (hr.frozen (p := ⟨g, p * 14 + 4 + 5, none⟩) hgs).trans (z.out 5 (by decide)).2
                    have zz6 := (hr.cell (p := ⟨g, p * 14 + 4 + 6, none⟩) hgs).trans (z.out 6 (by decide)).1
                    have ff6 := (hr.frozen (p := ⟨g, p * 14 + 4 + 6, none⟩) hgs).trans (z.out 6 (by decide)).2
                    have zz7 := (hr.cell (p := ⟨g, p * 14 + 4 + 7, none⟩) hgs).trans (z.out 7 (by decide)).1
                    have ff7 := (hr.frozen (p := ⟨g, p * 14 + 4 + 7, none⟩) hgs).trans (z.out 7 (by decide)).2
                    have zz8 := (hr.cell (p := ⟨g, p * 14 + 4 + 8, none⟩) hgs).trans (z.out 8 (by decide)).1
                    have ff8 := (hr.frozen (p := ⟨g, p * 14 + 4 + 8, none⟩) hgs).trans (z.out 8 (by decide)).2
                    have zz9 := (hr.cell (p := ⟨g, p * 14 + 4 + 9, none⟩) hgs).trans (z.out 9 (by decide)).1
                    have ff9 := (hr.frozen (p := ⟨g, p * 14 + 4 + 9, none⟩) hgs).trans (z.out 9 (by decide)).2
                    refine ⟨w5.setCells g (p * 14 + 4) [.int .i64 (jc.getD 0 0), .int .i64 (jc.getD 1 0), .int .i64 (jc.getD 2 0), .int .i64 (jc.getD 3 0), .int .i64 (jc.getD 4 0), .int .i64 (jc.getD 5 0), .int .i64 (jc.getD 6 0), .int .i64 (jc.getD 7 0), .int .i64 (jc.getD 8 0), .int .i64 (jc.getD 9 0)], by simp only [execOp, h1, h2]; simp [go_sem, Cv, World.setCells, zz0, zz1, zz2, zz3, zz4, zz5, zz6, zz7, zz8, zz9, ff0, ff1, ff2, ff3, ff4, ff5, ff6, ff7, ff8, ff9], ?_, ?_, fun _ _ h => h, fun j v hj hlj hnd hvj h => RgH.keep hj h, PI.LastI.done⟩
                    · exact SETB.out w5 hr
                    · exact SETP.out w5 hr
                  · cases ho
                · rw [← hW]
                  intro xx w9 hr hf he _
                  obtain ⟨_, h13⟩ := he 13 _ rfl rfl (by decide)
                  have H13 := Lib.hid (show w9.ownsRow base 48 14 (.slice (some ⟨g, 0, none⟩) nv c2) nv xs ∧ Grew W w9 (.slice (some ⟨g, 0, none⟩) nv c2) (.slice (some ⟨g, 0, none⟩) nv c2) from h13)
                  have HR9 := Lib.hid hr
                  clear hf he hr h13
                  simp only [PI.putAll, Act.put, List.setIfInBounds_toArray, List.set_cons_zero, List.set_cons_succ, Nat.zero_add, Nat.reduceAdd]
                  have hWs : W.heap.size = w16.heap.size := by rw [HWW.out]; rfl
                  have HB9 := Lib.hid (VB16.out.trans (show Below base w16 w9 from by have h := HR9.out; rw [HWW.out] at h; exact ⟨h.os, h.tape, h.output, h.size, h.block⟩))
                  have hnM := own_not VO16.out VM16.out (by decide)
                  have hnX := own_not VO16.out VQ16.out (by decide)
                  have HM9 := Lib.hid ((H13.out.2.grown.block M hms (fun e => hnM e.symm)).trans hmw.out)
                  have HX9 := Lib.hid ((H13.out.2.grown.block X (by rw [hWs]; have := HX12.out; have := VS16.out; omega) (fun e => hnX e.symm)).trans ((show W.heap[X]? = w16.heap[X]? from by rw [HWW.out]; rfl).trans VQ16.out))
                  have HS9 := Lib.hid (show w12.heap.size ≤ w9.heap.size from by have := H13.out.2.grown.size; have := VS16.out; omega)
                  clear hnM hnX hWs
                  go_wp2_with fail
                  go_roundw
                  case rel => exact ⟨u + 1, nv, c2, some ⟨g, 0, none⟩, L2.set p ⟨r.k, jc⟩, by go_num, by omega, rfl, Lib.hid (by have := VNN.out; omega), Lib.hid (by rw [HJC.out, HOC0.out]; exact HNEW.out), Lib.hid (by rw [List.length_set]; exact HL3.out), Lib.hid (by rw [← HXS.out]; exact H13.out.1), HB9, HX9, HM9, HS9⟩
                  case measure => simp [intOf]; omega
          · obtain rfl : u = 3 := by omega
            go_wp2_with fail
            go_roundw
            case rel => exact ⟨k + 1, nv, c2, A2, L2, by go_num, HLT.out, rfl, Lib.hid (by have := HNN.out; have := VNN.out; omega), Lib.hid (by rw [HYS.out, addAllS_snoc, ← HL.out, VL.out, addV3]; unfold addS; rw [← HRB.out]; rfl), VLN, VO, Lib.hid (by rw [VL.out]; exact addV_sort _ _ HSR.out 3), Lib.hid (by rw [VL.out]; exact addV_ok _ _ hm HOL.out 3), VB⟩
            case measure => have := HLT.out; simp [intOf]; omega
    · obtain rfl : k = sn := by omega
      have HLL := Lib.hid (show L = addAllS l (S.map Ls.s) m from by rw [HL.out, HSN.out, List.take_of_length_le (by simp)])
      go_wp2_with fail
      go_ret
      refine ⟨_, rfl, ?_, HB.out⟩
      rw [← HLL.out, ← HLN.out]
      exact HO.out
end Go.Proofs.YtkhhcnpmobgdgaaDoor
