/- The document's Put, where no episode is of the span's trace. -/
import Derived.Test.YtenioeppmgmdiaaDx
import Derived.Test.YtenioeppmgmdiaaDa
namespace Go.Proofs.Ytenioeppmgmdiaa
open Go.RowKit
set_option linter.unusedVariables false
set_option linter.unusedSimpArgs false
set_option maxRecDepth 100000

def DPutOf (L : List Ep) (w : World) (e : Ending) (w' : World) : Prop := ∃ (A : Option Addr) (c : Nat) (l' : List Le), e = .returned (.slice A l'.length c) ∧ RdEps w' w'.heap.size A l' ∧ l'.map Le.ep = L ∧ Below w.heap.size w w'
set_option maxHeartbeats 16000000 in
theorem dput_none (A : Option Addr) (l : List Le) (n c : Nat) (x0 x1 x2 x3 : Int) (x4 x5 : ByteArray) (x6 x7 : Int) (x8 : Bool) (ats : List (ByteArray × ByteArray)) (xA : Option Addr) (m xc : Nat) (now : Int) (sure : Bool) (B : Nat) (w : World)
    (hn : n = l.length) (hy : RdEps w B A l) (hB : B ≤ w.heap.size) (hm : m = ats.length) (hx : RdL w B ⟨⟨x0, x1, x2, x3, x4, x5, x6, x7, x8, ats⟩, xA, xc⟩) (hl : n ≤ 100000) (hno : ∀ e ∈ l, ¬ (e.hi = x0 ∧ e.lo = x1)) :
    Calls Try.prog 28 #[.slice A n c, .agg #[.int .u64 x0, .int .u64 x1, .int .u64 x2, .int .u64 x3, .string x4, .string x5, .int .i64 x6, .int .i64 x7, .bool x8, .slice xA m xc], .int .i64 now, .bool sure] w (DPutOf (putE (l.map Le.ep) ⟨x0, x1, x2, x3, x4, x5, x6, x7, x8, ats⟩ now sure) w) := by
  have HN := Lib.hid hn
  have HM := Lib.hid hm
  have HX := Lib.hid hx
  have HNO := Lib.hid hno
  have HB0 : Hid (Below w.heap.size w (w.alloc (.cells #[.int .u64 x0, .int .u64 x1, .int .u64 x2, .int .u64 x3, .string x4, .string x5, .int .i64 x6, .int .i64 x7, .bool x8, .slice xA m xc] 42))) := Lib.hid ((Below.refl _ _).alloc (Nat.le_refl _) _)
  have HZ0 : Hid ((w.alloc (.cells #[.int .u64 x0, .int .u64 x1, .int .u64 x2, .int .u64 x3, .string x4, .string x5, .int .i64 x6, .int .i64 x7, .bool x8, .slice xA m xc] 42)).heap.size = w.heap.size + 1) := Lib.hid (by simp)
  have HS0 : Hid ((w.alloc (.cells #[.int .u64 x0, .int .u64 x1, .int .u64 x2, .int .u64 x3, .string x4, .string x5, .int .i64 x6, .int .i64 x7, .bool x8, .slice xA m xc] 42)).heap[w.heap.size]? = some (.cells #[.int .u64 x0, .int .u64 x1, .int .u64 x2, .int .u64 x3, .string x4, .string x5, .int .i64 x6, .int .i64 x7, .bool x8, .slice xA m xc] 42 (0, 0))) := Lib.hid (heap_alloc_new w _)
  have HYW : RdEps (w.alloc (.cells #[.int .u64 x0, .int .u64 x1, .int .u64 x2, .int .u64 x3, .string x4, .string x5, .int .i64 x6, .int .i64 x7, .bool x8, .slice xA m xc] 42)) B A l := hy.below (HB0.out.mono hB)
  have AP0 := Lib.hid (fun ty => appRow (ty := ty) (w := (w.alloc (.cells #[.int .u64 x0, .int .u64 x1, .int .u64 x2, .int .u64 x3, .string x4, .string x5, .int .i64 x6, .int .i64 x7, .bool x8, .slice xA m xc] 42))) (base := (w.alloc (.cells #[.int .u64 x0, .int .u64 x1, .int .u64 x2, .int .u64 x3, .string x4, .string x5, .int .i64 x6, .int .i64 x7, .bool x8, .slice xA m xc] 42)).heap.size) (B := B) (v := .slice none 0 0) (l := []) (xs := l) n c hn (RowEps.nil _ _ _) HYW.each HYW.rd (by simp) (by omega) (Nat.le_refl _) (by rw [HZ0.out]; omega))
  clear hn hm hx hno hy HYW
  go_enter Try.func28, Try.ntmps28
  go_wp2_with (at_builtin; (refine wpList_app rfl (.const (.slice none 0 0)) (.tmp 13) _ _ rfl rfl rfl (AP0.out _) ?_); rintro v1 w1 ⟨ho1, hg1⟩; have HO1 := Lib.hid ho1; have HG1 := Lib.hid hg1; clear ho1 hg1)
  have HB1 : Hid (Below (w.alloc (.cells #[.int .u64 x0, .int .u64 x1, .int .u64 x2, .int .u64 x3, .string x4, .string x5, .int .i64 x6, .int .i64 x7, .bool x8, .slice xA m xc] 42)).heap.size (w.alloc (.cells #[.int .u64 x0, .int .u64 x1, .int .u64 x2, .int .u64 x3, .string x4, .string x5, .int .i64 x6, .int .i64 x7, .bool x8, .slice xA m xc] 42)) w1) := Lib.hid HG1.out.new
  have HO2 : Hid (RowEps w1 (w.alloc (.cells #[.int .u64 x0, .int .u64 x1, .int .u64 x2, .int .u64 x3, .string x4, .string x5, .int .i64 x6, .int .i64 x7, .bool x8, .slice xA m xc] 42)).heap.size B v1 l) := Lib.hid (by have := HO1.out; rwa [List.nil_append] at this)
  obtain ⟨A1, c1, hv1, _, _⟩ := HO2.out.rd (Nat.le_trans (by rw [HZ0.out]; omega) HB1.out.size)
  rw [← HN.out] at hv1
  subst hv1
  clear HO1 AP0
  go_loopw [10] (fun i wr => ∃ k : Nat, i = .int .i64 k ∧ k ≤ n ∧ Hid (Below w1.heap.size w1 wr)) (fun i _ => n - (intOf i).toNat)
  case atStart => exact ⟨0, rfl, Nat.zero_le _, Lib.hid (Below.refl _ _)⟩
  case round =>
    obtain ⟨k, rfl, hk, HB⟩ := hrel
    have HBW : Hid (Below (w.alloc (.cells #[.int .u64 x0, .int .u64 x1, .int .u64 x2, .int .u64 x3, .string x4, .string x5, .int .i64 x6, .int .i64 x7, .bool x8, .slice xA m xc] 42)).heap.size (w.alloc (.cells #[.int .u64 x0, .int .u64 x1, .int .u64 x2, .int .u64 x3, .string x4, .string x5, .int .i64 x6, .int .i64 x7, .bool x8, .slice xA m xc] 42)) wr) := Lib.hid (HB1.out.trans (HB.out.mono HB1.out.size))
    have HBF : Hid (Below w.heap.size w wr) := Lib.hid (HB0.out.trans (HBW.out.mono (by rw [HZ0.out]; omega)))
    have hBr : B ≤ w1.heap.size := Nat.le_trans (by rw [HZ0.out]; omega) HB1.out.size
    have HOR := Lib.hid (HO2.out.below HB.out hBr)
    have HSR : Hid (wr.heap[w.heap.size]? = some (.cells #[.int .u64 x0, .int .u64 x1, .int .u64 x2, .int .u64 x3, .string x4, .string x5, .int .i64 x6, .int .i64 x7, .bool x8, .slice xA m xc] 42 (0, 0))) := Lib.hid ((HBW.out.block _ (by rw [HZ0.out]; omega)).trans HS0.out)
    have s0 : wr.cell? ⟨w.heap.size, 0, none⟩ = some (.int .u64 x0) := cell_of_row _ _ 0 _ _ (0, 0) HSR.out
    have s1 : wr.cell? ⟨w.heap.size, 1, none⟩ = some (.int .u64 x1) := cell_of_row _ _ 1 _ _ (0, 0) HSR.out
    have s2 : wr.cell? ⟨w.heap.size, 2, none⟩ = some (.int .u64 x2) := cell_of_row _ _ 2 _ _ (0, 0) HSR.out
    have s3 : wr.cell? ⟨w.heap.size, 3, none⟩ = some (.int .u64 x3) := cell_of_row _ _ 3 _ _ (0, 0) HSR.out
    have s4 : wr.cell? ⟨w.heap.size, 4, none⟩ = some (.string x4) := cell_of_row _ _ 4 _ _ (0, 0) HSR.out
    have s5 : wr.cell? ⟨w.heap.size, 5, none⟩ = some (.string x5) := cell_of_row _ _ 5 _ _ (0, 0) HSR.out
    have s6 : wr.cell? ⟨w.heap.size, 6, none⟩ = some (.int .i64 x6) := cell_of_row _ _ 6 _ _ (0, 0) HSR.out
    have s7 : wr.cell? ⟨w.heap.size, 7, none⟩ = some (.int .i64 x7) := cell_of_row _ _ 7 _ _ (0, 0) HSR.out
    have s8 : wr.cell? ⟨w.heap.size, 8, none⟩ = some (.bool x8) := cell_of_row _ _ 8 _ _ (0, 0) HSR.out
    have s9 : wr.cell? ⟨w.heap.size, 9, none⟩ = some (.slice xA m xc) := cell_of_row _ _ 9 _ _ (0, 0) HSR.out
    by_cases hlt : k < n
    · obtain ⟨e, he⟩ : ∃ e, l[k]? = some e := ⟨_, List.getElem?_eq_getElem (by rw [← HN.out]; exact hlt)⟩
      have ht := HNO.out e (List.mem_of_getElem? he)
      obtain ⟨A3, c3, hv3, _, hrd⟩ := HOR.out.rd (Nat.le_trans hBr HB.out.size)
      injection hv3 with hv3 hv4 hv5
      subst hv3
      clear hv4 hv5
      obtain ⟨th, tl, f, la, su, ls, eA, ec⟩ := e
      obtain ⟨a, ha, hab, c0, c1', _, _, _, _, _⟩ := epcells hrd he _ rfl
      subst ha
      have hcc : ((th == x0) = false) ∨ ((th == x0) = true ∧ (tl == x1) = false) := by
        by_cases h1 : th = x0
        · right; subst h1; simp at ht ⊢; exact ht
        · left; simpa using h1
      clear ht he hrd
      rcases hcc with h1 | ⟨h1, h2⟩
      all_goals
        go_wp2_with fail
        go_quiet (fail)
        go_wp2_with fail
        go_roundw
        case rel => exact ⟨k + 1, by go_num, by omega, Lib.hid (drewND HB.out _)⟩
        case measure => simp [intOf]; omega
    · obtain rfl : k = n := by omega
      have HPE : Hid (putE (l.map Le.ep) ⟨x0, x1, x2, x3, x4, x5, x6, x7, x8, ats⟩ now sure = l.map Le.ep ++ [⟨x0, x1, now, now, sure, [⟨x0, x1, x2, x3, x4, x5, x6, x7, x8, ats⟩]⟩]) := Lib.hid (putE_none _ _ now sure (fun e he => by
        obtain ⟨y, hy, rfl⟩ := List.mem_map.1 he
        exact HNO.out y hy))
      have hbz : Below wr.heap.size wr ((wr.alloc (.cells #[.int .u64 x0, .int .u64 x1, .int .u64 x2, .int .u64 x3, .string x4, .string x5, .int .i64 x6, .int .i64 x7, .bool x8, .slice xA m xc] 42)).alloc (.cells #[.int .u64 x0, .int .u64 x1, .int .i64 now, .int .i64 now, .bool sure, .slice (some ⟨wr.heap.size, 0, none⟩) 1 1] 30)) := ((Below.refl _ _).alloc (Nat.le_refl _) _).alloc (by simp) _
      have HOZ := Lib.hid (HOR.out.below hbz (Nat.le_trans hBr HB.out.size))
      have HBZ := Lib.hid (HBF.out.trans (hbz.mono HBF.out.size))
      have HSZ : Hid ((w.alloc (.cells #[.int .u64 x0, .int .u64 x1, .int .u64 x2, .int .u64 x3, .string x4, .string x5, .int .i64 x6, .int .i64 x7, .bool x8, .slice xA m xc] 42)).heap.size ≤ ((wr.alloc (.cells #[.int .u64 x0, .int .u64 x1, .int .u64 x2, .int .u64 x3, .string x4, .string x5, .int .i64 x6, .int .i64 x7, .bool x8, .slice xA m xc] 42)).alloc (.cells #[.int .u64 x0, .int .u64 x1, .int .i64 now, .int .i64 now, .bool sure, .slice (some ⟨wr.heap.size, 0, none⟩) 1 1] 30)).heap.size) := Lib.hid (Nat.le_trans HBW.out.size hbz.size)
      have HS9 : Hid (((wr.alloc (.cells #[.int .u64 x0, .int .u64 x1, .int .u64 x2, .int .u64 x3, .string x4, .string x5, .int .i64 x6, .int .i64 x7, .bool x8, .slice xA m xc] 42)).alloc (.cells #[.int .u64 x0, .int .u64 x1, .int .i64 now, .int .i64 now, .bool sure, .slice (some ⟨wr.heap.size, 0, none⟩) 1 1] 30)).heap[wr.heap.size]? = some (.cells #[.int .u64 x0, .int .u64 x1, .int .u64 x2, .int .u64 x3, .string x4, .string x5, .int .i64 x6, .int .i64 x7, .bool x8, .slice xA m xc] 42 (0, 0))) := Lib.hid (two0 wr _ _)
      have HE9 : Hid (Rd ((wr.alloc (.cells #[.int .u64 x0, .int .u64 x1, .int .u64 x2, .int .u64 x3, .string x4, .string x5, .int .i64 x6, .int .i64 x7, .bool x8, .slice xA m xc] 42)).alloc (.cells #[.int .u64 x0, .int .u64 x1, .int .i64 now, .int .i64 now, .bool sure, .slice (some ⟨wr.heap.size, 0, none⟩) 1 1] 30)) (wr.heap.size + 1 + 1) (some ⟨wr.heap.size + 1, 0, none⟩) [.int .u64 x0, .int .u64 x1, .int .i64 now, .int .i64 now, .bool sure, .slice (some ⟨wr.heap.size, 0, none⟩) 1 1]) := Lib.hid (by
        have h : ((wr.alloc (.cells #[.int .u64 x0, .int .u64 x1, .int .u64 x2, .int .u64 x3, .string x4, .string x5, .int .i64 x6, .int .i64 x7, .bool x8, .slice xA m xc] 42)).alloc (.cells #[.int .u64 x0, .int .u64 x1, .int .i64 now, .int .i64 now, .bool sure, .slice (some ⟨wr.heap.size, 0, none⟩) 1 1] 30)).heap[wr.heap.size + 1]? = some (.cells #[.int .u64 x0, .int .u64 x1, .int .i64 now, .int .i64 now, .bool sure, .slice (some ⟨wr.heap.size, 0, none⟩) 1 1] 30 (0, 0)) := two1 wr _ _
        exact fun _ => ⟨_, rfl, Nat.lt_succ_self _, fun j u hu => by
          rw [Addr.add_lit, Nat.zero_add, cell_of_row _ _ _ _ _ (0, 0) h]
          simpa using hu⟩)
      obtain ⟨i0, hi9, hz0, hz1, hz2⟩ := info_parts infoEp
      have APZ := Lib.hid (fun ty => run_append_rd (P := Try.prog) ((wr.alloc (.cells #[.int .u64 x0, .int .u64 x1, .int .u64 x2, .int .u64 x3, .string x4, .string x5, .int .i64 x6, .int .i64 x7, .bool x8, .slice xA m xc] 42)).alloc (.cells #[.int .u64 x0, .int .u64 x1, .int .i64 now, .int .i64 now, .bool sure, .slice (some ⟨wr.heap.size, 0, none⟩) 1 1] 30)) (w.alloc (.cells #[.int .u64 x0, .int .u64 x1, .int .u64 x2, .int .u64 x3, .string x4, .string x5, .int .i64 x6, .int .i64 x7, .bool x8, .slice xA m xc] 42)).heap.size 39 ty 30 i0 _ 6 64 Try.underlying39 hi9 hz0 hz1 hz2 rfl (.slice A1 k c1) l.length (l.flatMap Le.cells) HOZ.out.own (wr.heap.size + 1 + 1) (some ⟨wr.heap.size + 1, 0, none⟩) 1 1 [.int .u64 x0, .int .u64 x1, .int .i64 now, .int .i64 now, .bool sure, .slice (some ⟨wr.heap.size, 0, none⟩) 1 1] rfl HE9.out (by intro u hu; simp only [List.mem_cons, List.not_mem_nil, or_false] at hu; rcases hu with rfl | rfl | rfl | rfl | rfl | rfl <;> rfl) (by have := HN.out; unfold maxLen; omega) (by have := HN.out; omega) HSZ.out)
      clear hbz hi9 hz0 hz1 hz2
      go_wp2_with (at_builtin; (refine wpList_app rfl (.tmp 50) (.tmp 59) _ _ rfl rfl rfl (APZ.out _) ?_); rintro v5 w5 ⟨ho5, hg5⟩; have HO5 := Lib.hid ho5; have HG5 := Lib.hid hg5; clear ho5 hg5)
      go_ret
      have hlE : (Le.mk x0 x1 now now sure [⟨⟨x0, x1, x2, x3, x4, x5, x6, x7, x8, ats⟩, xA, xc⟩] (some ⟨wr.heap.size, 0, none⟩) 1).cells = [.int .u64 x0, .int .u64 x1, .int .i64 now, .int .i64 now, .bool sure, .slice (some ⟨wr.heap.size, 0, none⟩) 1 1] := rfl
      have ho5 : w5.ownsRow (w.alloc (.cells #[.int .u64 x0, .int .u64 x1, .int .u64 x2, .int .u64 x3, .string x4, .string x5, .int .i64 x6, .int .i64 x7, .bool x8, .slice xA m xc] 42)).heap.size 30 6 v5 (l ++ [Le.mk x0 x1 now now sure [⟨⟨x0, x1, x2, x3, x4, x5, x6, x7, x8, ats⟩, xA, xc⟩] (some ⟨wr.heap.size, 0, none⟩) 1]).length ((l ++ [Le.mk x0 x1 now now sure [⟨⟨x0, x1, x2, x3, x4, x5, x6, x7, x8, ats⟩, xA, xc⟩] (some ⟨wr.heap.size, 0, none⟩) 1]).flatMap Le.cells) := by
        have h := HO5.out
        rw [List.flatMap_append, List.flatMap_cons, List.flatMap_nil, List.append_nil, hlE, List.length_append]
        exact h
      obtain ⟨A5, c5, hv5, _, hrd5⟩ := own_rd ho5
      have hb5 : Below (w.alloc (.cells #[.int .u64 x0, .int .u64 x1, .int .u64 x2, .int .u64 x3, .string x4, .string x5, .int .i64 x6, .int .i64 x7, .bool x8, .slice xA m xc] 42)).heap.size ((wr.alloc (.cells #[.int .u64 x0, .int .u64 x1, .int .u64 x2, .int .u64 x3, .string x4, .string x5, .int .i64 x6, .int .i64 x7, .bool x8, .slice xA m xc] 42)).alloc (.cells #[.int .u64 x0, .int .u64 x1, .int .i64 now, .int .i64 now, .bool sure, .slice (some ⟨wr.heap.size, 0, none⟩) 1 1] 30)) w5 := HG5.out.below (Below.refl _ _) HSZ.out (own_block_ge HOZ.out.own)
      have hBZ : B ≤ (w.alloc (.cells #[.int .u64 x0, .int .u64 x1, .int .u64 x2, .int .u64 x3, .string x4, .string x5, .int .i64 x6, .int .i64 x7, .bool x8, .slice xA m xc] 42)).heap.size := by rw [HZ0.out]; omega
      have h5 : B ≤ w5.heap.size := Nat.le_trans hBZ (Nat.le_trans HSZ.out hb5.size)
      have hS5 : w5.heap[wr.heap.size]? = some (.cells #[.int .u64 x0, .int .u64 x1, .int .u64 x2, .int .u64 x3, .string x4, .string x5, .int .i64 x6, .int .i64 x7, .bool x8, .slice xA m xc] 42 (0, 0)) := (HG5.out.grown.block _ (in_heap HS9.out) (Ne.symm (own_not HOZ.out.own HS9.out (by decide)))).trans HS9.out
      have hBWZ : Below w.heap.size w w5 := HG5.out.below HBZ.out (Nat.le_trans (by rw [HZ0.out]; omega) HSZ.out) (fun k hk => Nat.le_trans (by rw [HZ0.out]; omega) (own_block_ge HOZ.out.own k hk))
      refine ⟨A5, c5, _, congrArg Ending.returned hv5, ⟨hrd5, fun e he => ?_⟩, ?_, hBWZ⟩
      · rcases List.mem_append.1 he with he | he
        · exact ((HOZ.out.each e he).below (hb5.mono hBZ)).more h5
        · rw [List.mem_singleton] at he
          subst he
          refine ⟨?_, fun y hy => ?_⟩
          · have h := rd_row (S := [.int .u64 x0, .int .u64 x1, .int .u64 x2, .int .u64 x3, .string x4, .string x5, .int .i64 x6, .int .i64 x7, .bool x8, .slice xA m xc]) hS5
            have hc : (Ls.mk ⟨x0, x1, x2, x3, x4, x5, x6, x7, x8, ats⟩ xA xc).cells = [.int .u64 x0, .int .u64 x1, .int .u64 x2, .int .u64 x3, .string x4, .string x5, .int .i64 x6, .int .i64 x7, .bool x8, .slice xA m xc] := by rw [HM.out]; rfl
            show Rd w5 w5.heap.size (some ⟨wr.heap.size, 0, none⟩) ([Ls.mk ⟨x0, x1, x2, x3, x4, x5, x6, x7, x8, ats⟩ xA xc].flatMap Ls.cells)
            rw [List.flatMap_cons, List.flatMap_nil, List.append_nil, hc]
            exact h.more (in_heap hS5)
          · rw [List.mem_singleton] at hy
            subst hy
            exact (HX.out.below (hBWZ.mono hB)).more h5
      · rw [HPE.out, List.map_append]
        rfl
end Go.Proofs.Ytenioeppmgmdiaa
