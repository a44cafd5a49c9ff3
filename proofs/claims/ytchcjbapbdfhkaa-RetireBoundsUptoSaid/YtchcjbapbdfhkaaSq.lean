/- Two spans that say the same are the same to the document's SameSpan; so are rows of them to SameSpans. -/
import Derived.Test.YtchcjbapbdfhkaaSp
import Derived.Test.YtchcjbapbdfhkaaBs
import Derived.Deep.QuietTactic
import Derived.BigQuiet
import Derived.LoopTactic
import Derived.Laws.StructEq
import Derived.StillTailTactics
namespace Go.Proofs.Ytchcjbapbdfhkaa
open Go.RowKit
set_option linter.unusedVariables false
set_option maxRecDepth 100000

theorem two_cells (w : World) (A Z : Obj) : ((w.alloc A).alloc Z).heap[w.heap.size]? = some A ∧ ((w.alloc A).alloc Z).heap[w.heap.size + 1]? = some Z :=
  ⟨(heap_alloc_old (w.alloc A) Z (show w.heap.size < _ by simp)).trans (heap_alloc_new w A), by have := heap_alloc_new (w.alloc A) Z; simpa using this⟩
set_option maxHeartbeats 8000000 in
theorem samespan_eq (x0 x1 x2 x3 : Int) (x4 x5 : ByteArray) (x6 x7 : Int) (x8 : Bool) (ats : List (ByteArray × ByteArray)) (n : Nat) (xA yA : Option Addr) (xc yc B : Nat) (w : World) (hn : n = ats.length) (hx : Rd w B xA (ats.flatMap atC)) (hy : Rd w B yA (ats.flatMap atC)) (hB : B ≤ w.heap.size) (hl : n ≤ maxLen) :
    Calls Try.prog 99 #[.agg #[.int .u64 x0, .int .u64 x1, .int .u64 x2, .int .u64 x3, .string x4, .string x5, .int .i64 x6, .int .i64 x7, .bool x8, .slice xA n xc], .agg #[.int .u64 x0, .int .u64 x1, .int .u64 x2, .int .u64 x3, .string x4, .string x5, .int .i64 x6, .int .i64 x7, .bool x8, .slice yA n yc]] w
      fun e w' => e = .returned (.bool true) ∧ Below w.heap.size w w' := by
  simp only [maxLen] at hl
  have HN := Lib.hid hn
  have HX := Lib.hid (hx.keep (w' := (w.alloc (.cells #[.int .u64 x0, .int .u64 x1, .int .u64 x2, .int .u64 x3, .string x4, .string x5, .int .i64 x6, .int .i64 x7, .bool x8, .slice xA n xc] 75)).alloc (.cells #[.int .u64 x0, .int .u64 x1, .int .u64 x2, .int .u64 x3, .string x4, .string x5, .int .i64 x6, .int .i64 x7, .bool x8, .slice yA n yc] 75)) (fun p hp => (World.cell?_alloc_lt _ _ p (by simp; omega)).trans (World.cell?_alloc_lt _ _ p (by omega))))
  have HY := Lib.hid (hy.keep (w' := (w.alloc (.cells #[.int .u64 x0, .int .u64 x1, .int .u64 x2, .int .u64 x3, .string x4, .string x5, .int .i64 x6, .int .i64 x7, .bool x8, .slice xA n xc] 75)).alloc (.cells #[.int .u64 x0, .int .u64 x1, .int .u64 x2, .int .u64 x3, .string x4, .string x5, .int .i64 x6, .int .i64 x7, .bool x8, .slice yA n yc] 75)) (fun p hp => (World.cell?_alloc_lt _ _ p (by simp; omega)).trans (World.cell?_alloc_lt _ _ p (by omega))))
  have HBW := Lib.hid (((Below.refl w.heap.size w).alloc (Nat.le_refl _) (.cells #[.int .u64 x0, .int .u64 x1, .int .u64 x2, .int .u64 x3, .string x4, .string x5, .int .i64 x6, .int .i64 x7, .bool x8, .slice xA n xc] 75)).alloc (by simp) (.cells #[.int .u64 x0, .int .u64 x1, .int .u64 x2, .int .u64 x3, .string x4, .string x5, .int .i64 x6, .int .i64 x7, .bool x8, .slice yA n yc] 75))
  have HC := Lib.hid (two_cells w (.cells #[.int .u64 x0, .int .u64 x1, .int .u64 x2, .int .u64 x3, .string x4, .string x5, .int .i64 x6, .int .i64 x7, .bool x8, .slice xA n xc] 75) (.cells #[.int .u64 x0, .int .u64 x1, .int .u64 x2, .int .u64 x3, .string x4, .string x5, .int .i64 x6, .int .i64 x7, .bool x8, .slice yA n yc] 75))
  clear hn hx hy
  go_enter Try.func99, Try.ntmps99
  go_wp2_with fail
  generalize (w.alloc (.cells #[.int .u64 x0, .int .u64 x1, .int .u64 x2, .int .u64 x3, .string x4, .string x5, .int .i64 x6, .int .i64 x7, .bool x8, .slice xA n xc] 75)).alloc (.cells #[.int .u64 x0, .int .u64 x1, .int .u64 x2, .int .u64 x3, .string x4, .string x5, .int .i64 x6, .int .i64 x7, .bool x8, .slice yA n yc] 75) = W at *
  generalize hB0 : w.heap.size = B0 at *
  have HB0 := Lib.hid hB0
  clear hB0
  go_loopw [5] (fun i wr => ∃ k : Nat, i = .int .i64 k ∧ k ≤ n ∧ Hid (∀ p, wr.cell? p = W.cell? p) ∧ Hid (Below B0 w wr)) (fun i _ => n - (intOf i).toNat)
  case atStart => exact ⟨0, rfl, Nat.zero_le _, Lib.hid (fun _ => rfl), HBW⟩
  case round =>
    obtain ⟨k, rfl, hk, HD, HB⟩ := hrel
    have o9 : wr.cell? ⟨B0, 9, none⟩ = some (.slice xA n xc) := (HD.out _).trans <| cell_of_row W _ 9 _ _ (0, 0) HC.out.1
    have p9 : wr.cell? ⟨B0 + 1, 9, none⟩ = some (.slice yA n yc) := (HD.out _).trans <| cell_of_row W _ 9 _ _ (0, 0) HC.out.2
    by_cases hlt : k < n
    · obtain ⟨y, hy⟩ : ∃ y, ats[k]? = some y := ⟨_, List.getElem?_eq_getElem (by rw [← HN.out]; exact hlt)⟩
      obtain ⟨a, ha, hab, hc⟩ := HX.out (by rw [flatMap_len _ 2 atC_len, ← HN.out]; omega)
      obtain ⟨b, hb, hbb, hd⟩ := HY.out (by rw [flatMap_len _ 2 atC_len, ← HN.out]; omega)
      subst ha
      subst hb
      have g0 := flatMap_at atC 2 atC_len ats k 0 (by omega)
      have g1 := flatMap_at atC 2 atC_len ats k 1 (by omega)
      rw [hy] at g0 g1
      obtain ⟨y1, y2⟩ := y
      have c0 : wr.cell? (a.add (k * 2)) = some (.string y1) := (HD.out _).trans (hc (k * 2) _ g0)
      have c1 : wr.cell? ⟨(a.add (k * 2)).block, (a.add (k * 2)).off + 1, none⟩ = some (.string y2) := (HD.out _).trans (cell_far (hc (k * 2 + 1) _ g1) (by omega))
      have d0 : wr.cell? (b.add (k * 2)) = some (.string y1) := (HD.out _).trans (hd (k * 2) _ g0)
      have d1 : wr.cell? ⟨(b.add (k * 2)).block, (b.add (k * 2)).off + 1, none⟩ = some (.string y2) := (HD.out _).trans (cell_far (hd (k * 2 + 1) _ g1) (by omega))
      have i1 : (0 : Int) ≤ k := by omega
      have i2 : (k : Int) < n := by omega
      clear g0 g1 hc hd hy
      go_wp2_with fail
      go_quiet (fail)
      go_wp2_with fail
      go_roundw
      case rel => exact ⟨k + 1, by go_num, by omega, Lib.hid (fun p => HD.out p), Lib.hid (HB.out.trans ⟨rfl, rfl, rfl, Nat.le_refl _, fun _ _ => rfl⟩)⟩
      case measure => simp [intOf]; omega
    · obtain rfl : k = n := by omega
      go_wp2_with fail
      go_ret
      exact ⟨rfl, by rw [HB0.out]; exact HB.out⟩

set_option maxHeartbeats 8000000 in
theorem samespans_eq (A C : Option Addr) (l m : List Ls) (n c d B : Nat) (w : World) (hn : n = l.length) (hx : RdSps w B A l) (hy : RdSps w B C m) (h : l.map Ls.s = m.map Ls.s) (hB : B ≤ w.heap.size) (hl : n ≤ maxLen) :
    Calls Try.prog 70 #[.slice A n c, .slice C n d] w fun e w' => e = .returned (.bool true) ∧ Below w.heap.size w w' := by
  simp only [maxLen] at hl
  have HN := Lib.hid hn
  have HX := Lib.hid hx
  have HY := Lib.hid hy
  have HM := Lib.hid h
  clear hn hx hy h
  go_enter Try.func70, Try.ntmps70
  go_wp2_with fail
  go_loopw [5] (fun i wr => ∃ k : Nat, i = .int .i64 k ∧ k ≤ n ∧ Hid (Below w.heap.size w wr)) (fun i _ => n - (intOf i).toNat)
  case atStart => exact ⟨0, rfl, Nat.zero_le _, Lib.hid (Below.refl _ _)⟩
  case round =>
    obtain ⟨k, rfl, hk, HB⟩ := hrel
    by_cases hlt : k < n
    · obtain ⟨x, hx⟩ : ∃ x, l[k]? = some x := ⟨_, List.getElem?_eq_getElem (by rw [← HN.out]; exact hlt)⟩
      have hlm : n = m.length := by have := congrArg List.length HM.out; rw [List.length_map, List.length_map] at this; rw [HN.out]; exact this
      obtain ⟨y, hy⟩ : ∃ y, m[k]? = some y := ⟨_, List.getElem?_eq_getElem (by rw [← hlm]; exact hlt)⟩
      have hs : x.s = y.s := by
        have h1 : (l.map Ls.s)[k]? = some x.s := by rw [List.getElem?_map, hx]; rfl
        rw [HM.out, List.getElem?_map, hy] at h1
        injection h1 with h1
        exact h1.symm
      have HR : Hid (Below B w wr) := Lib.hid (HB.out.mono hB)
      obtain ⟨a, ha, hab, hc, hl2⟩ := (HX.out.below HR.out).at_ hx
      obtain ⟨b, hb, hbb, hd, hm2⟩ := (HY.out.below HR.out).at_ hy
      subst ha
      subst hb
      obtain ⟨⟨x0, x1, x2, x3, x4, x5, x6, x7, x8, ats⟩, xA, xc⟩ := x
      obtain ⟨ys, yA, yc⟩ := y
      simp only at hs
      subst hs
      obtain ⟨q, hq⟩ : ∃ q, q = ats.length := ⟨_, rfl⟩
      have c0 := hc 0 _ rfl
      have d0 := hd 0 _ rfl
      have c1 := cell_far (hc 1 _ rfl) (by omega)
      have d1 := cell_far (hd 1 _ rfl) (by omega)
      have c2 := cell_far (hc 2 _ rfl) (by omega)
      have d2 := cell_far (hd 2 _ rfl) (by omega)
      have c3 := cell_far (hc 3 _ rfl) (by omega)
      have d3 := cell_far (hd 3 _ rfl) (by omega)
      have c4 := cell_far (hc 4 _ rfl) (by omega)
      have d4 := cell_far (hd 4 _ rfl) (by omega)
      have c5 := cell_far (hc 5 _ rfl) (by omega)
      have d5 := cell_far (hd 5 _ rfl) (by omega)
      have c6 := cell_far (hc 6 _ rfl) (by omega)
      have d6 := cell_far (hd 6 _ rfl) (by omega)
      have c7 := cell_far (hc 7 _ rfl) (by omega)
      have d7 := cell_far (hd 7 _ rfl) (by omega)
      have c8 := cell_far (hc 8 _ rfl) (by omega)
      have d8 := cell_far (hd 8 _ rfl) (by omega)
      have c9 : wr.cell? ⟨(a.add (k * 10)).block, (a.add (k * 10)).off + 9, none⟩ = some (.slice xA q xc) := by rw [hq]; exact cell_far (hc 9 _ rfl) (by omega)
      have d9 : wr.cell? ⟨(b.add (k * 10)).block, (b.add (k * 10)).off + 9, none⟩ = some (.slice yA q yc) := by rw [hq]; exact cell_far (hd 9 _ rfl) (by omega)
      simp only [Nat.add_zero] at c0 d0
      simp only at c1 c2 c3 c4 c5 c6 c7 c8 d1 d2 d3 d4 d5 d6 d7 d8
      have hqm : q ≤ maxLen := by rw [hq]; exact Nat.le_trans hl2.cap.1 hl2.cap.2
      have i1 : (0 : Int) ≤ k := by omega
      have i2 : (k : Int) < n := by omega
      have SS := fun W (hW : Below B wr W) (hBW : B ≤ W.heap.size) => Lib.hid (samespan_eq x0 x1 x2 x3 x4 x5 x6 x7 x8 ats q xA yA xc yc B W hq (hl2.rd.below hW) (hm2.rd.below hW) hBW hqm)
      have HBr : Hid (B ≤ wr.heap.size) := Lib.hid (Nat.le_trans hB HB.out.size)
      clear hc hd hx hy hl2 hm2 hq hlm
      go_wp2_with fail
      go_still_tail 8, (by kernel_rfl)
      change wpList _ _ _ _ _ wr.drew
      have HD : Hid (Below wr.heap.size wr wr.drew) := Lib.hid ⟨rfl, rfl, rfl, Nat.le_refl _, fun _ _ => rfl⟩
      have HBD : Hid (Below w.heap.size w wr.drew) := Lib.hid (HB.out.trans (HD.out.mono HB.out.size))
      have HBB : Hid (B ≤ wr.drew.heap.size) := HBr
      have SS2 := SS wr.drew (HD.out.mono HBr.out) HBB.out
      clear SS
      generalize wr.drew = w2 at *
      go_wp2_with (go_at_call 99; (with_reducible refine (SS2.out).mono ?_); rintro e w3 ⟨rfl, hb3⟩; have HB3 := Lib.hid (HBD.out.trans (hb3.mono HBD.out.size)); clear hb3)
      go_roundw
      case rel => exact ⟨k + 1, by go_num, by omega, HB3⟩
      case measure => simp [intOf]; omega
    · obtain rfl : k = n := by omega
      go_wp2_with fail
      go_ret
      exact ⟨rfl, HB.out⟩
end Go.Proofs.Ytchcjbapbdfhkaa
