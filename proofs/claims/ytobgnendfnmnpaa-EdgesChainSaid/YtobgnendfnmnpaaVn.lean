/- edges.count: one call counted. -/
import Derived.Test.YtobgnendfnmnpaaVi
import Derived.Test.YtobgnendfnmnpaaVp
import Derived.Test.YtobgnendfnmnpaaJoin
namespace Go.Proofs.Ytobgnendfnmnpaa
open Go.RowKit
set_option linter.unusedVariables false
set_option linter.unusedSimpArgs false
set_option maxRecDepth 100000

theorem Rd.of_owng {w : World} {base n c size : Nat} {e : TypeId} {A : Option Addr} {xs : List Value} (h : w.ownsRow base e size (.slice A n c) n xs) : Rd w w.heap.size A xs := by
  obtain ⟨A', c', hv, _, hr⟩ := own_rd h
  injection hv with h1
  rw [h1]; exact hr
theorem Grew.belowg {w w' : World} (v : Value) (h : Below w.heap.size w w') : Grew w w' v v := ⟨⟨h.os, h.tape, h.output, h.size, fun i hi _ => h.block i hi⟩, .inl rfl⟩
/-- Two numbers of one edge of a row of one's own, stored. -/
theorem g_bump {w : World} {base g c n i : Nat} {L : List Eg} {y : Eg} (h : w.ownsRow base 36 4 (.slice (some ⟨g, 0, none⟩) n c) n (L.flatMap Eg.cells)) (hy : L[i]? = some y) (v1 v2 : Int) :
    ((w.setCell ⟨g, i * 4 + 2, none⟩ (.int .i64 v1)).setCell ⟨g, i * 4 + 3, none⟩ (.int .i64 v2)).ownsRow base 36 4 (.slice (some ⟨g, 0, none⟩) n c) n ((L.set i ⟨y.fr, y.to, v1, v2⟩).flatMap Eg.cells) ∧
      Grew w ((w.setCell ⟨g, i * 4 + 2, none⟩ (.int .i64 v1)).setCell ⟨g, i * 4 + 3, none⟩ (.int .i64 v2)) (.slice (some ⟨g, 0, none⟩) n c) (.slice (some ⟨g, 0, none⟩) n c) := by
  have hil := (List.getElem?_eq_some_iff.1 hy).1
  have hxl : (L.flatMap Eg.cells).length = n * 4 := h.1
  rw [flatMap_len _ 4 gcells_len] at hxl
  obtain ⟨_, _, a3, a4⟩ := own_setq h (i := i * 4 + 2) (by omega) (.int .i64 v1)
  obtain ⟨_, _, b3, b4⟩ := own_setq a3 (i := i * 4 + 3) (by omega) (.int .i64 v2)
  refine ⟨?_, a4.trans b4⟩
  have e : ((L.flatMap Eg.cells).set (i * 4 + 2) (.int .i64 v1)).set (i * 4 + 3) (.int .i64 v2) = (L.set i ⟨y.fr, y.to, v1, v2⟩).flatMap Eg.cells := by
    apply List.ext_getElem?
    intro q
    have hlen : (L.flatMap Eg.cells).length = L.length * 4 := flatMap_len _ 4 gcells_len L
    obtain ⟨p, r, hr, rfl⟩ : ∃ p r, r < 4 ∧ q = p * 4 + r := ⟨q / 4, q % 4, Nat.mod_lt _ (by omega), by omega⟩
    rw [flatMap_at _ 4 gcells_len (L.set i _) p r hr]
    simp only [List.getElem?_set, List.length_set, hlen]
    by_cases hp : p = i
    · subst hp
      rw [if_pos rfl, if_pos hil]
      rcases (show r = 0 ∨ r = 1 ∨ r = 2 ∨ r = 3 by omega) with rfl | rfl | rfl | rfl
      · rw [if_neg (by omega), if_neg (by omega), flatMap_at _ 4 gcells_len L p 0 (by omega), hy]; rfl
      · rw [if_neg (by omega), if_neg (by omega), flatMap_at _ 4 gcells_len L p 1 (by omega), hy]; rfl
      · rw [if_neg (by omega), if_pos (by omega), if_pos (by omega)]; rfl
      · rw [if_pos (by omega), if_pos (by omega)]; rfl
    · rw [if_neg (by omega), if_neg (by omega), if_neg (fun h => hp h.symm), flatMap_at _ 4 gcells_len L p r hr]
  rw [← e]
  exact b3
/-- The row that the call is counted in. -/
def rowG (l : List Eg) (fr tt : ByteArray) (i : Nat) (ok : Bool) : List Eg := if ok = true then l else l.take i ++ ⟨fr, tt, 0, 0⟩ :: l.drop i
/-- One call counted. -/
def bumpG (most : Int) (err : Bool) (y : Eg) : Eg := ⟨y.fr, y.to, min (Bm.plus y.cn 1) most, min (Bm.plus y.er (if err then 1 else 0)) most⟩
/-- What count leaves. -/
def Counted (l : List Eg) (fr tt : ByteArray) (most : Int) (err : Bool) (M : List Eg) : Prop :=
  ∃ (i : Nat) (ok : Bool) (y : Eg), i ≤ l.length ∧ Placed l fr tt i ok ∧ (rowG l fr tt i ok)[i]? = some y ∧ M = (rowG l fr tt i ok).set i (bumpG most err y)
set_option maxHeartbeats 16000000 in
theorem count_any (A : Option Addr) (n c : Nat) (l : List Eg) (fr : ByteArray) (x0 x1 x2 x3 : Int) (x4 x5 : ByteArray) (x6 x7 : Int) (x8 : Bool) (xA : Option Addr) (m xc : Nat) (most : Int) (base : Nat) (w : World) (h : w.ownsRow base 36 4 (.slice A n c) n (l.flatMap Eg.cells)) (hn : n = l.length) (hsm : n ≤ 90000) (hbase : base ≤ w.heap.size)
    (hbd : ∀ y ∈ l, (-9223372036854775808 ≤ y.cn ∧ y.cn ≤ 9223372036854775807 ∧ -9223372036854775808 ≤ y.er ∧ y.er ≤ 9223372036854775807)) :
    Calls Try.prog 12 #[.slice A n c, .string fr, .agg #[.int .u64 x0, .int .u64 x1, .int .u64 x2, .int .u64 x3, .string x4, .string x5, .int .i64 x6, .int .i64 x7, .bool x8, .slice xA m xc], .int .i64 most] w fun e w' => ∃ (A' : Option Addr) (n' c' : Nat) (M : List Eg), e = .returned (.slice A' n' c') ∧ n' = M.length ∧ Counted l fr x4 most x8 M ∧ w'.ownsRow base 36 4 (.slice A' n' c') n' (M.flatMap Eg.cells) ∧ Grew w w' (.slice A n c) (.slice A' n' c') := by
  have q0 := heap_alloc_new w (.cells #[.int .u64 x0, .int .u64 x1, .int .u64 x2, .int .u64 x3, .string x4, .string x5, .int .i64 x6, .int .i64 x7, .bool x8, .slice xA m xc] 33)
  have own0 := own_below h ((Below.refl w.heap.size w).alloc (Nat.le_refl _) (.cells #[.int .u64 x0, .int .u64 x1, .int .u64 x2, .int .u64 x3, .string x4, .string x5, .int .i64 x6, .int .i64 x7, .bool x8, .slice xA m xc] 33))
  have hz0 : (w.alloc (.cells #[.int .u64 x0, .int .u64 x1, .int .u64 x2, .int .u64 x3, .string x4, .string x5, .int .i64 x6, .int .i64 x7, .bool x8, .slice xA m xc] 33)).heap.size = w.heap.size + 1 := by simp
  have hlB : ∀ k, (Value.slice A n c).ownBlock = some k → k < w.heap.size := fun k hk => own_block_lt h k hk
  obtain ⟨w0, hw0⟩ : ∃ w0, w0 = w.alloc (.cells #[.int .u64 x0, .int .u64 x1, .int .u64 x2, .int .u64 x3, .string x4, .string x5, .int .i64 x6, .int .i64 x7, .bool x8, .slice xA m xc] 33) := ⟨_, rfl⟩
  have HW0 := Lib.hid hw0
  have HGW := Lib.hid (show Below w.heap.size w w0 from by rw [hw0]; exact (Below.refl _ _).alloc (Nat.le_refl _) _)
  rw [← hw0] at q0 own0 hz0
  obtain ⟨B, hB⟩ : ∃ B, B = w.heap.size := ⟨_, rfl⟩
  have HBB := Lib.hid hB
  rw [← hB] at q0 hz0 hlB
  have HO0 := Lib.hid own0
  have HBD0 := Lib.hid hbd
  have HN := Lib.hid hn
  have HQ0 := Lib.hid q0
  have PLC := Lib.hid (place_any A n c l fr x4 w0.heap.size w0 hn (Rd.of_owng own0) (Nat.le_refl _) (by omega))
  have s4 : w0.cell? ⟨B, 4, none⟩ = some (.string x4) := cell_of_row _ _ 4 _ _ (0, 0) q0
  clear h hn q0 own0 hw0 hbd hB
  go_enter Try.func12, Try.ntmps12
  go_upto_region 1 with fail
  rw [← HW0.out, ← HBB.out]
  go_upto_region 2 with (go_at_call 16; (with_reducible refine PLC.out.mono ?_); rintro ex w2 ⟨i, ok, rfl, hin, hpl, hb2⟩; have HPL := Lib.hid hpl; have HB2 := Lib.hid hb2; clear hpl hb2)
  have hz2 := HB2.out.size
  have hq2 := (HB2.out.block B (by omega)).trans HQ0.out
  clear s4
  cases ok
  · have s4 : w2.cell? ⟨B, 4, none⟩ = some (.string x4) := cell_of_row _ _ 4 _ _ (0, 0) hq2
    have ho2 := own_below HO0.out HB2.out
    have hoa := own_below ho2 ((Below.refl w2.heap.size w2).alloc (Nat.le_refl _) (.cells #[.string fr, .string x4, .int .i64 0, .int .i64 0] 36))
    have INS := Lib.hid (g_insert A n c i w2.heap.size l ⟨fr, x4, 0, 0⟩ base (w2.alloc (.cells #[.string fr, .string x4, .int .i64 0, .int .i64 0] 36)) hoa HN.out hin (by omega) (by have := HBB.out; simp; omega) (heap_alloc_new w2 _) (fun a ha => by
      have h1 := hlB a.block (by rw [ha]; rfl)
      omega))
    have hqa := (Below.heap_alloc w2 (.cells #[.string fr, .string x4, .int .i64 0, .int .i64 0] 36) B (by omega)).trans hq2
    clear hoa ho2
    go_upto_region 4 with (go_at_call 17; (with_reducible refine INS.out.mono ?_); rintro ex wX ⟨A4, c4, rfl, ho4, hg4⟩; have HO2 := Lib.hid ho4; have HG4 := Lib.hid hg4; clear ho4 hg4)
    have HBX : Hid (wX.heap[B]? = some (.cells #[.int .u64 x0, .int .u64 x1, .int .u64 x2, .int .u64 x3, .string x4, .string x5, .int .i64 x6, .int .i64 x7, .bool x8, .slice xA m xc] 33)) := Lib.hid ((HG4.out.grown.block B (by simp; omega) (fun h => by
      have h1 := hlB B h.symm
      omega)).trans hqa)
    have HGX := Lib.hid (show Grew w wX (.slice A n c) (.slice A4 (n + 1) c4) from ((Grew.belowg _ HGW.out).trans (Grew.belowg _ HB2.out)).trans ((Grew.belowg _ ((Below.refl w2.heap.size w2).alloc (Nat.le_refl _) (.cells #[.string fr, .string x4, .int .i64 0, .int .i64 0] 36))).trans HG4.out))
    have HN2 : Hid (n + 1 = (rowG l fr x4 i false).length) := Lib.hid (by simp [rowG, HN.out]; omega)
    have HBD : Hid (∀ y ∈ rowG l fr x4 i false, (-9223372036854775808 ≤ y.cn ∧ y.cn ≤ 9223372036854775807 ∧ -9223372036854775808 ≤ y.er ∧ y.er ≤ 9223372036854775807)) := Lib.hid (by
      intro y hy
      simp only [rowG, Bool.false_eq_true, if_false, List.mem_append, List.mem_cons] at hy
      rcases hy with hy | rfl | hy
      · exact HBD0.out y (List.mem_of_mem_take hy)
      · exact ⟨by simp, by simp, by simp, by simp⟩
      · exact HBD0.out y (List.mem_of_mem_drop hy))
    have HO2 : Hid (wX.ownsRow base 36 4 (.slice A4 (n + 1) c4) (n + 1) ((rowG l fr x4 i false).flatMap Eg.cells)) := Lib.hid HO2.out
    have hi2 : i < n + 1 := by omega
    obtain ⟨L2, hL2⟩ : ∃ L2, L2 = rowG l fr x4 i false := ⟨_, rfl⟩
    have HL2 := Lib.hid hL2.symm
    rw [← hL2] at HO2 HBD HN2
    clear hL2
    generalize n + 1 = n2 at HO2 HN2 hi2 HGX ⊢
    have HIN := Lib.hid hin
    have HPLL := HPL
    obtain ⟨g2, rfl, _, _, _, _, _, _⟩ := own_parts HO2.out (by omega)
    obtain ⟨y, hy⟩ : ∃ y, L2[i]? = some y := ⟨L2[i]'(by have := HN2.out; omega), List.getElem?_eq_getElem _⟩
    have hyb := HBD.out y (List.mem_of_getElem? hy)
    obtain ⟨f2, c2, j1, j2⟩ := own_setq HO2.out (i := i * 4 + 2) (by omega) (.bool true)
    clear j1 j2
    obtain ⟨f3, c3, j1, j2⟩ := own_setq HO2.out (i := i * 4 + 3) (by omega) (.bool true)
    clear j1 j2
    rw [flatMap_at _ 4 gcells_len _ i 2 (by omega), hy] at c2
    rw [flatMap_at _ 4 gcells_len _ i 3 (by omega), hy] at c3
    replace c2 : wX.cell? ⟨g2, i * 4 + 2, none⟩ = some (.int .i64 y.cn) := c2
    replace c3 : wX.cell? ⟨g2, i * 4 + 3, none⟩ = some (.int .i64 y.er) := c3
    have q8 : wX.cell? ⟨B, 8, none⟩ = some (.bool x8) := cell_of_row _ _ 8 _ _ (0, 0) HBX.out
    have p1 : (⟨g2, 0, none⟩ : Addr).add (i * 4) = ⟨g2, i * 4, none⟩ := by rw [Addr.add_lit, Nat.zero_add]
    have ii1 : (i : Int) < (n2 : Int) := by omega
    have ii0 : (0 : Int) ≤ (i : Int) := by omega
    have SET := Lib.hid (fun (v1 v2 : Int) => g_bump (w := wX) HO2.out hy v1 v2)
    have PL1 := Lib.hid (fun W => plus_any y.cn 1 W hyb.1 hyb.2.1 (by omega) (by omega))
    have PL2 := Lib.hid (fun (e : Int) (he : e = 0 ∨ e = 1) W => plus_any y.er e W hyb.2.2.1 hyb.2.2.2 (by omega) (by omega))
    have HYY := Lib.hid hy
    have FIN := Lib.hid (fun (v1 v2 : Int) (h1 : v1 = min (Bm.plus y.cn 1) most) (h2 : v2 = min (Bm.plus y.er (if x8 then 1 else 0)) most) => (show ∃ (M : List Eg), n2 = M.length ∧ Counted l fr x4 most x8 M ∧ ((wX.setCell ⟨g2, i * 4 + 2, none⟩ (.int .i64 v1)).setCell ⟨g2, i * 4 + 3, none⟩ (.int .i64 v2)).ownsRow base 36 4 (.slice (some ⟨g2, 0, none⟩) n2 c4) n2 (M.flatMap Eg.cells) ∧ Grew w ((wX.setCell ⟨g2, i * 4 + 2, none⟩ (.int .i64 v1)).setCell ⟨g2, i * 4 + 3, none⟩ (.int .i64 v2)) (.slice A n c) (.slice (some ⟨g2, 0, none⟩) n2 c4) from ⟨_, by rw [List.length_set]; exact HN2.out, ⟨i, false, y, by rw [← HN.out]; exact HIN.out, HPL.out, by rw [HL2.out]; exact HYY.out, by subst h1 h2; rw [HL2.out]; rfl⟩, (SET.out v1 v2).1, HGX.out.trans (SET.out v1 v2).2⟩))
    clear hy hyb
    generalize Bm.plus y.cn 1 = pc1 at PL1 FIN
    cases x8
    · replace PL2 := Lib.hid (PL2.out 0 (Or.inl rfl))
      simp only [Bool.false_eq_true, if_false] at FIN
      generalize Bm.plus y.er 0 = pe1 at PL2 FIN
      go_wp2_with (first
        | (go_at_call 18; (with_reducible refine (PL1.out _).mono ?_); rintro ex w9 ⟨rfl, hw9⟩; subst w9)
        | (go_at_call 18; (with_reducible refine (PL2.out _).mono ?_); rintro ex w9 ⟨rfl, hw9⟩; subst w9))
      all_goals (go_ret; refine ⟨_, _, _, rfl, ?_⟩; (with_reducible refine FIN.out _ _ ?_ ?_) <;> omega)
    · replace PL2 := Lib.hid (PL2.out 1 (Or.inr rfl))
      simp only [if_true] at FIN
      generalize Bm.plus y.er 1 = pe1 at PL2 FIN
      go_wp2_with (first
        | (go_at_call 18; (with_reducible refine (PL1.out _).mono ?_); rintro ex w9 ⟨rfl, hw9⟩; subst w9)
        | (go_at_call 18; (with_reducible refine (PL2.out _).mono ?_); rintro ex w9 ⟨rfl, hw9⟩; subst w9))
      all_goals (go_ret; refine ⟨_, _, _, rfl, ?_⟩; (with_reducible refine FIN.out _ _ ?_ ?_) <;> omega)
  · have hil : i < n := by
      obtain ⟨x, hx, _⟩ := HPL.out.1 rfl
      rw [HN.out]
      exact (List.getElem?_eq_some_iff.1 hx).1
    have hsm2 := hsm
    have HO2 := Lib.hid (own_below HO0.out HB2.out)
    obtain ⟨wX, hwX⟩ : ∃ wX, wX = w2 := ⟨_, rfl⟩
    have HGX := Lib.hid (show Grew w wX (.slice A n c) (.slice A n c) from by rw [hwX]; exact (Grew.belowg _ HGW.out).trans (Grew.belowg _ HB2.out))
    have HBX := Lib.hid hq2
    rw [← hwX] at HO2 HBX ⊢
    clear hwX hq2
    have HIN := Lib.hid hin
    obtain ⟨L2, hL2⟩ : ∃ L2, L2 = rowG l fr x4 i true := ⟨_, rfl⟩
    have HL2 := Lib.hid hL2.symm
    have hl2 : L2 = l := by rw [hL2]; rfl
    clear hL2
    have HN2 := HN
    have HBD := HBD0
    have hi2 := hil
    rw [← hl2] at HO2 HN2 HBD
    obtain ⟨g2, rfl, _, _, _, _, _, _⟩ := own_parts HO2.out (by omega)
    obtain ⟨y, hy⟩ : ∃ y, L2[i]? = some y := ⟨L2[i]'(by have := HN2.out; omega), List.getElem?_eq_getElem _⟩
    have hyb := HBD.out y (List.mem_of_getElem? hy)
    obtain ⟨f2, c2, j1, j2⟩ := own_setq HO2.out (i := i * 4 + 2) (by omega) (.bool true)
    clear j1 j2
    obtain ⟨f3, c3, j1, j2⟩ := own_setq HO2.out (i := i * 4 + 3) (by omega) (.bool true)
    clear j1 j2
    rw [flatMap_at _ 4 gcells_len _ i 2 (by omega), hy] at c2
    rw [flatMap_at _ 4 gcells_len _ i 3 (by omega), hy] at c3
    replace c2 : wX.cell? ⟨g2, i * 4 + 2, none⟩ = some (.int .i64 y.cn) := c2
    replace c3 : wX.cell? ⟨g2, i * 4 + 3, none⟩ = some (.int .i64 y.er) := c3
    have q8 : wX.cell? ⟨B, 8, none⟩ = some (.bool x8) := cell_of_row _ _ 8 _ _ (0, 0) HBX.out
    have p1 : (⟨g2, 0, none⟩ : Addr).add (i * 4) = ⟨g2, i * 4, none⟩ := by rw [Addr.add_lit, Nat.zero_add]
    have ii1 : (i : Int) < (n : Int) := by omega
    have ii0 : (0 : Int) ≤ (i : Int) := by omega
    have SET := Lib.hid (fun (v1 v2 : Int) => g_bump (w := wX) HO2.out hy v1 v2)
    have PL1 := Lib.hid (fun W => plus_any y.cn 1 W hyb.1 hyb.2.1 (by omega) (by omega))
    have PL2 := Lib.hid (fun (e : Int) (he : e = 0 ∨ e = 1) W => plus_any y.er e W hyb.2.2.1 hyb.2.2.2 (by omega) (by omega))
    have HYY := Lib.hid hy
    have FIN := Lib.hid (fun (v1 v2 : Int) (h1 : v1 = min (Bm.plus y.cn 1) most) (h2 : v2 = min (Bm.plus y.er (if x8 then 1 else 0)) most) => (show ∃ (M : List Eg), n = M.length ∧ Counted l fr x4 most x8 M ∧ ((wX.setCell ⟨g2, i * 4 + 2, none⟩ (.int .i64 v1)).setCell ⟨g2, i * 4 + 3, none⟩ (.int .i64 v2)).ownsRow base 36 4 (.slice (some ⟨g2, 0, none⟩) n c) n (M.flatMap Eg.cells) ∧ Grew w ((wX.setCell ⟨g2, i * 4 + 2, none⟩ (.int .i64 v1)).setCell ⟨g2, i * 4 + 3, none⟩ (.int .i64 v2)) (.slice (some ⟨g2, 0, none⟩) n c) (.slice (some ⟨g2, 0, none⟩) n c) from ⟨_, by rw [List.length_set]; exact HN2.out, ⟨i, true, y, by rw [← HN.out]; exact HIN.out, HPL.out, by rw [HL2.out]; exact HYY.out, by subst h1 h2; rw [HL2.out]; rfl⟩, (SET.out v1 v2).1, HGX.out.trans (SET.out v1 v2).2⟩))
    clear hy hyb
    generalize Bm.plus y.cn 1 = pc1 at PL1 FIN
    cases x8
    · replace PL2 := Lib.hid (PL2.out 0 (Or.inl rfl))
      simp only [Bool.false_eq_true, if_false] at FIN
      generalize Bm.plus y.er 0 = pe1 at PL2 FIN
      go_wp2_with (first
        | (go_at_call 18; (with_reducible refine (PL1.out _).mono ?_); rintro ex w9 ⟨rfl, hw9⟩; subst w9)
        | (go_at_call 18; (with_reducible refine (PL2.out _).mono ?_); rintro ex w9 ⟨rfl, hw9⟩; subst w9))
      all_goals (go_ret; refine ⟨_, _, _, rfl, ?_⟩; (with_reducible refine FIN.out _ _ ?_ ?_) <;> omega)
    · replace PL2 := Lib.hid (PL2.out 1 (Or.inr rfl))
      simp only [if_true] at FIN
      generalize Bm.plus y.er 1 = pe1 at PL2 FIN
      go_wp2_with (first
        | (go_at_call 18; (with_reducible refine (PL1.out _).mono ?_); rintro ex w9 ⟨rfl, hw9⟩; subst w9)
        | (go_at_call 18; (with_reducible refine (PL2.out _).mono ?_); rintro ex w9 ⟨rfl, hw9⟩; subst w9))
      all_goals (go_ret; refine ⟨_, _, _, rfl, ?_⟩; (with_reducible refine FIN.out _ _ ?_ ?_) <;> omega)
end Go.Proofs.Ytobgnendfnmnpaa
