/- Whether a block is right: its order, its numbers, its episodes. -/
import Derived.Test.YtchcjbapbdfhkaaBqa
import Derived.Test.YtchcjbapbdfhkaaZo
import Derived.Test.YtchcjbapbdfhkaaEp
import Derived.Test.YtchcjbapbdfhkaaFew
import Derived.BigQuiet
import Derived.Deep.Cut
namespace Go.Proofs.Ytchcjbapbdfhkaa
open Go.RowKit Go.Maps
set_option linter.unusedVariables false
set_option linter.unusedSimpArgs false
set_option maxRecDepth 100000

def cmpI (x y : Int) : Int := if x < y then -1 else if y < x then 1 else 0
theorem cmpu_any (x y : Int) (w : World) : Calls Try.prog 94 #[.int .u64 x, .int .u64 y] w fun e w' => e = .returned (.int .i64 (cmpI x y)) ∧ w' = w := by
  unfold cmpI
  rcases Int.lt_trichotomy x y with h | h | h
  · have d1 : decide (x < y) = true := decide_eq_true h
    rw [if_pos h]
    go_enter Try.func94, Try.ntmps94
    go_wp2
    go_ret
    exact ⟨rfl, rfl⟩
  · subst h
    have d1 : decide (x < x) = false := decide_eq_false (by omega)
    rw [if_neg (by omega), if_neg (by omega)]
    go_enter Try.func94, Try.ntmps94
    go_wp2
    go_ret
    exact ⟨rfl, rfl⟩
  · have d1 : decide (x < y) = false := decide_eq_false (by omega)
    have d2 : decide (y < x) = true := decide_eq_true h
    rw [if_neg (by omega), if_pos h]
    go_enter Try.func94, Try.ntmps94
    go_wp2
    go_ret
    exact ⟨rfl, rfl⟩
def ordT (a b c d : Int) : Int := if cmpI a c = 0 then cmpI b d else cmpI a c
theorem ordT_lt (a b c d : Int) : (0 < ordT a b c d) ↔ (c < a ∨ (c = a ∧ d < b)) := by
  unfold ordT cmpI
  rcases Int.lt_trichotomy a c with h | h | h
  · simp [h, show ¬ c < a by omega, show ¬ c = a by omega]
  · subst h
    rcases Int.lt_trichotomy b d with h | h | h
    · simp [h, show ¬ d < b by omega]
    · subst h; simp
    · simp [h, show ¬ b < d by omega]
  · simp [h, show ¬ a < c by omega]
set_option maxHeartbeats 4000000 in
theorem blockorder_any (a b c d : Int) (w : World) : Calls Try.prog 62 #[.agg #[.int .u64 a, .int .u64 b], .agg #[.int .u64 c, .int .u64 d]] w fun e w' => e = .returned (.int .i64 (ordT a b c d)) ∧ Below w.heap.size w w' := by
  unfold ordT
  go_enter Try.func62, Try.ntmps62
  go_wp2_with fail
  have hB := ((Below.refl w.heap.size w).alloc (Nat.le_refl _) (.cells #[.int .u64 a, .int .u64 b] 28)).alloc (by simp) (.cells #[.int .u64 c, .int .u64 d] 28)
  have hz1 : (w.alloc (.cells #[.int .u64 a, .int .u64 b] 28)).heap.size = w.heap.size + 1 := by simp
  have hz2 : ((w.alloc (.cells #[.int .u64 a, .int .u64 b] 28)).alloc (.cells #[.int .u64 c, .int .u64 d] 28)).heap.size = w.heap.size + 2 := by simp
  have q0 := heap_alloc_new w (.cells #[.int .u64 a, .int .u64 b] 28)
  have q1 := heap_alloc_new (w.alloc (.cells #[.int .u64 a, .int .u64 b] 28)) (.cells #[.int .u64 c, .int .u64 d] 28)
  rw [hz1] at q1
  have a0 : ((w.alloc (.cells #[.int .u64 a, .int .u64 b] 28)).alloc (.cells #[.int .u64 c, .int .u64 d] 28)).cell? ⟨w.heap.size, 0, none⟩ = some (.int .u64 a) := (World.cell?_alloc_lt _ _ ⟨w.heap.size, 0, none⟩ (by simp)).trans (cell_of_row _ _ 0 _ _ (0, 0) q0)
  have a1 : ((w.alloc (.cells #[.int .u64 a, .int .u64 b] 28)).alloc (.cells #[.int .u64 c, .int .u64 d] 28)).cell? ⟨w.heap.size, 1, none⟩ = some (.int .u64 b) := (World.cell?_alloc_lt _ _ ⟨w.heap.size, 1, none⟩ (by simp)).trans (cell_of_row _ _ 1 _ _ (0, 0) q0)
  have b0 : ((w.alloc (.cells #[.int .u64 a, .int .u64 b] 28)).alloc (.cells #[.int .u64 c, .int .u64 d] 28)).cell? ⟨w.heap.size + 1, 0, none⟩ = some (.int .u64 c) := cell_of_row _ _ 0 _ _ (0, 0) q1
  have b1 : ((w.alloc (.cells #[.int .u64 a, .int .u64 b] 28)).alloc (.cells #[.int .u64 c, .int .u64 d] 28)).cell? ⟨w.heap.size + 1, 1, none⟩ = some (.int .u64 d) := cell_of_row _ _ 1 _ _ (0, 0) q1
  generalize ((w.alloc (.cells #[.int .u64 a, .int .u64 b] 28)).alloc (.cells #[.int .u64 c, .int .u64 d] 28)) = W at *
  have HB := Lib.hid hB
  have HZ := Lib.hid hz2
  clear hB hz1 hz2 q0 q1
  refine wp_region_still_tail 10 (by kernel_rfl) (by kernel_rfl) ?_
  simp only [List.take_succ_cons, List.take_zero, List.drop_succ_cons, List.drop_zero]
  still_step
  still_step
  still_step
  still_step
  still_call (cmpu_any _ _ _)
  still_step
  still_step
  still_step
  still_step
  still_call (cmpu_any _ _ _)
  try refine wpStill_nil ?_
  change wpList _ _ _ _ _ W.drew
  generalize hW2 : W.drew = W2
  have HB2 := Lib.hid (show Below w.heap.size w W2 ∧ w.heap.size ≤ W2.heap.size from by rw [← hW2]; exact ⟨⟨HB.out.os, HB.out.tape, HB.out.output, HB.out.size, HB.out.block⟩, by have := HB.out.size; exact this⟩)
  clear hW2 a0 a1 b0 b1
  go_wp2_with (go_at_call 93; refine (or_calls (cmpI a c) (cmpI b d) _ _ (cell_of_row _ _ 0 _ _ (0, 0) (heap_alloc_new W2 _)) (cell_of_row _ _ 1 _ _ (0, 0) (heap_alloc_new W2 _))).mono ?_; rintro e w9 ⟨rfl, rfl⟩)
  all_goals
    go_ret
    exact ⟨rfl, HB2.out.1.alloc HB2.out.2 _⟩
theorem epoch_any (n : Int) (w : World) : Calls Try.prog 95 #[.int .i64 n] w fun e w' => e = .returned (.bool (cntI n)) ∧ w' = w := by
  unfold cntI
  rcases Int.lt_or_le n 0 with h | h
  · have d1 : decide (0 ≤ n) = false := decide_eq_false (by omega)
    rw [d1]
    go_enter Try.func95, Try.ntmps95
    go_wp2_with fail
    go_ret
    exact ⟨rfl, rfl⟩
  · have d1 : decide (0 ≤ n) = true := decide_eq_true h
    rw [d1]
    go_enter Try.func95, Try.ntmps95
    go_wp2_with fail
    go_ret
    exact ⟨rfl, rfl⟩
set_option maxHeartbeats 4000000 in
theorem righthead_any (nu bo ti : Int) (A : Option Addr) (n c : Nat) (w : World) : Calls Try.prog 63 #[.agg #[.int .i64 nu, .int .i64 bo, .int .i64 ti, .slice A n c]] w fun e w' => e = .returned (.bool (cntI nu && (cntI bo && cntI ti))) ∧ Below w.heap.size w w' := by
  have E1 := Lib.hid (epoch_any nu)
  have E2 := Lib.hid (epoch_any bo)
  have E3 := Lib.hid (epoch_any ti)
  have HB0 := Lib.hid ((Below.refl w.heap.size w).alloc (Nat.le_refl _) (.cells #[.int .i64 nu, .int .i64 bo, .int .i64 ti, .slice A n c] 24))
  generalize cntI nu = b1 at *
  generalize cntI bo = b2 at *
  generalize cntI ti = b3 at *
  cases b1 <;> cases b2
  all_goals
    go_enter Try.func63, Try.ntmps63
    go_wp2_with (first
      | (go_at_call 95; (with_reducible refine (E1.out _).mono ?_); rintro e w1 ⟨rfl, hw⟩; subst hw)
      | (go_at_call 95; (with_reducible refine (E2.out _).mono ?_); rintro e w1 ⟨rfl, hw⟩; subst hw)
      | (go_at_call 95; (with_reducible refine (E3.out _).mono ?_); rintro e w1 ⟨rfl, hw⟩; subst hw))
    go_ret
    exact ⟨rfl, HB0.out⟩
set_option maxHeartbeats 16000000 in
theorem rightep_any (th tl f la : Int) (su : Bool) (A : Option Addr) (l : List Ls) (n c B : Nat) (w : World) (hn : n = l.length) (hy : RdSps w B A l) (hB : B ≤ w.heap.size) (hl : n ≤ 1000) :
    Calls Try.prog 64 #[.agg #[.int .u64 th, .int .u64 tl, .int .i64 f, .int .i64 la, .bool su, .slice A n c]] w fun e w' => e = .returned (.bool (okEp ⟨th, tl, f, la, su, l.map Ls.s⟩)) ∧ Below w.heap.size w w' := by
  have E1 := Lib.hid (epoch_any f)
  have E2 := Lib.hid (epoch_any la)
  have HB0 := Lib.hid ((Below.refl w.heap.size w).alloc (Nat.le_refl _) (.cells #[.int .u64 th, .int .u64 tl, .int .i64 f, .int .i64 la, .bool su, .slice A n c] 48))
  have HF : Hid (okEp ⟨th, tl, f, la, su, l.map Ls.s⟩ = (cntI f && (cntI la && (decide (n ≠ 0) && okSs th tl (l.map Ls.s))))) := Lib.hid (by
    unfold okEp
    simp only
    congr 2
    congr 1
    rw [hn]
    cases l <;> simp)
  generalize okEp ⟨th, tl, f, la, su, l.map Ls.s⟩ = fw at *
  have HN := Lib.hid hn
  have HY := Lib.hid hy
  clear hy hn
  generalize cntI f = b1 at *
  generalize cntI la = b2 at *
  cases b1
  · have HQ : Hid (fw = false) := Lib.hid (by rw [HF.out]; rfl)
    go_enter Try.func64, Try.ntmps64
    go_wp2_with (first
      | (go_at_call 95; (with_reducible refine (E1.out _).mono ?_); rintro e w1 ⟨rfl, hw⟩; subst hw)
      | (go_at_call 95; (with_reducible refine (E2.out _).mono ?_); rintro e w1 ⟨rfl, hw⟩; subst hw))
    go_ret
    exact ⟨by rw [HQ.out] <;> rfl, HB0.out⟩
  cases b2
  · have HQ : Hid (fw = false) := Lib.hid (by rw [HF.out]; rfl)
    go_enter Try.func64, Try.ntmps64
    go_wp2_with (first
      | (go_at_call 95; (with_reducible refine (E1.out _).mono ?_); rintro e w1 ⟨rfl, hw⟩; subst hw)
      | (go_at_call 95; (with_reducible refine (E2.out _).mono ?_); rintro e w1 ⟨rfl, hw⟩; subst hw))
    go_ret
    exact ⟨by rw [HQ.out] <;> rfl, HB0.out⟩
  rcases Nat.eq_zero_or_pos n with h0 | h0
  · subst h0
    have HQ : Hid (fw = false) := Lib.hid (by rw [HF.out]; rfl)
    go_enter Try.func64, Try.ntmps64
    go_wp2_with (first
      | (go_at_call 95; (with_reducible refine (E1.out _).mono ?_); rintro e w1 ⟨rfl, hw⟩; subst hw)
      | (go_at_call 95; (with_reducible refine (E2.out _).mono ?_); rintro e w1 ⟨rfl, hw⟩; subst hw))
    go_ret
    exact ⟨by rw [HQ.out] <;> rfl, HB0.out⟩
  have HQ : Hid (fw = okSs th tl (l.map Ls.s)) := Lib.hid (by rw [HF.out, decide_eq_true (by omega)]; rfl)
  have dn : ((n : Int) == 0) = false := by rw [beq_eq_false_iff_ne]; omega
  have hmm := @run_makeMap Try.prog
  have hW1 : (w.alloc (.cells #[.int .u64 th, .int .u64 tl, .int .i64 f, .int .i64 la, .bool su, .slice A n c] 48)).heap.size = w.heap.size + 1 := by simp
  have HM0 : Hid (MapCnt ((w.alloc (.cells #[.int .u64 th, .int .u64 tl, .int .i64 f, .int .i64 la, .bool su, .slice A n c] 48)).alloc (.map #[] 0)) (w.heap.size + 1) 0 []) := Lib.hid (by have := MapCnt.made (w.alloc (.cells #[.int .u64 th, .int .u64 tl, .int .i64 f, .int .i64 la, .bool su, .slice A n c] 48)); rwa [hW1] at this)
  have HB1 : Hid (Below (w.heap.size + 1) (w.alloc (.cells #[.int .u64 th, .int .u64 tl, .int .i64 f, .int .i64 la, .bool su, .slice A n c] 48)) ((w.alloc (.cells #[.int .u64 th, .int .u64 tl, .int .i64 f, .int .i64 la, .bool su, .slice A n c] 48)).alloc (.map #[] 0))) := Lib.hid ((Below.refl _ _).alloc (by rw [hW1]; exact Nat.le_refl _) _)
  have HBW : Hid (∀ w1, Below (w.heap.size + 1) (w.alloc (.cells #[.int .u64 th, .int .u64 tl, .int .i64 f, .int .i64 la, .bool su, .slice A n c] 48)) w1 → Below w.heap.size w w1) := Lib.hid (fun w1 hb => HB0.out.trans (hb.mono (by omega)))
  have HTB : Hid (∀ w1, Below (w.heap.size + 1) (w.alloc (.cells #[.int .u64 th, .int .u64 tl, .int .i64 f, .int .i64 la, .bool su, .slice A n c] 48)) w1 → w1.heap[w.heap.size]? = some (.cells #[.int .u64 th, .int .u64 tl, .int .i64 f, .int .i64 la, .bool su, .slice A n c] 48) ∧ w.heap.size + 1 ≤ w1.heap.size) := Lib.hid (fun w1 hb => ⟨(hb.block _ (by omega)).trans (heap_alloc_new w _), by have := hb.size; rw [hW1] at this; exact this⟩)
  clear HF
  go_enter Try.func64, Try.ntmps64
  go_wp2_with (first
      | (go_at_call 95; (with_reducible refine (E1.out _).mono ?_); rintro e w1 ⟨rfl, hw⟩; subst hw)
      | (go_at_call 95; (with_reducible refine (E2.out _).mono ?_); rintro e w1 ⟨rfl, hw⟩; subst hw))
  go_loopw [26] (fun iv wr => ∃ k : Nat, iv = .int .i64 (k : Int) ∧ k ≤ n ∧ Hid (okSs th tl ((l.map Ls.s).take k) = true) ∧ Hid (MapCnt wr (w.heap.size + 1) k (((l.map Ls.s).take k).map Sp.id)) ∧ Hid (Below (w.heap.size + 1) (w.alloc (.cells #[.int .u64 th, .int .u64 tl, .int .i64 f, .int .i64 la, .bool su, .slice A n c] 48)) wr)) (fun iv _ => n - (intOf iv).toNat)
  case atStart => exact ⟨0, rfl, Nat.zero_le _, Lib.hid (by simp [okSs]), HM0, HB1⟩
  case round =>
    obtain ⟨k, rfl, hk, HK, HM, HB⟩ := hrel
    by_cases hlt : k < n
    · obtain ⟨x, hx⟩ : ∃ x, l[k]? = some x := ⟨_, List.getElem?_eq_getElem (by rw [← HN.out]; exact hlt)⟩
      obtain ⟨hT, hsr⟩ := HTB.out _ HB.out
      have HT := Lib.hid hT
      have hBw := HBW.out _ HB.out
      have HR : Hid (RdSps wr B A l) := Lib.hid (HY.out.below (hBw.mono hB))
      obtain ⟨a, ha, hab, hc, hxl⟩ := HR.out.at_ hx
      subst ha
      have HXM : Hid ((l.map Ls.s)[k]? = some x.s) := Lib.hid (by rw [List.getElem?_map, hx]; rfl)
      have HID := Lib.hid hxl.ok.id
      have t0 : wr.cell? ⟨w.heap.size, 0, none⟩ = some (.int .u64 th) := cell_of_row _ _ 0 _ _ (0, 0) hT
      have t1 : wr.cell? ⟨w.heap.size, 1, none⟩ = some (.int .u64 tl) := cell_of_row _ _ 1 _ _ (0, 0) hT
      have hlen : (((l.map Ls.s).take k).map Sp.id).length ≤ 1000 := by rw [List.length_map, List.length_take]; omega
      generalize hids : ((l.map Ls.s).take k).map Sp.id = ids at *
      have HIDS := Lib.hid hids
      clear hids
      obtain ⟨⟨x0, x1, x2, x3, x4, x5, x6, x7, x8, ats⟩, xA, xc⟩ := x
      obtain ⟨m, hm⟩ : ∃ m, m = ats.length := ⟨_, rfl⟩
      simp only at HXM HID
      have d0 := hc 0 _ rfl
      have d1 := cell_far (hc 1 _ rfl) (by omega)
      have d2 := cell_far (hc 2 _ rfl) (by omega)
      have d3 := cell_far (hc 3 _ rfl) (by omega)
      have d4 := cell_far (hc 4 _ rfl) (by omega)
      have d5 := cell_far (hc 5 _ rfl) (by omega)
      have d6 := cell_far (hc 6 _ rfl) (by omega)
      have d7 := cell_far (hc 7 _ rfl) (by omega)
      have d8 := cell_far (hc 8 _ rfl) (by omega)
      have d9 : wr.cell? ⟨(a.add (k * 10)).block, (a.add (k * 10)).off + 9, none⟩ = some (.slice xA m xc) := by rw [hm]; exact cell_far (hc 9 _ rfl) (by omega)
      simp only [Nat.add_zero] at d0
      simp only at d1 d2 d3 d4 d5 d6 d7 d8
      have hab2 : (a.add (k * 10)).block < wr.heap.size := by rw [block_add]; have := hBw.size; omega
      have HXL := Lib.hid hxl
      have HMN := Lib.hid hm
      have HBA : Hid (Below wr.heap.size wr (wr.alloc (.cells #[.int .u64 x0, .int .u64 x1, .int .u64 x2, .int .u64 x3, .string x4, .string x5, .int .i64 x6, .int .i64 x7, .bool x8, .slice xA m xc] 75))) := Lib.hid ((Below.refl _ _).alloc (Nat.le_refl _) _)
      have HMA : Hid (MapCnt (wr.alloc (.cells #[.int .u64 x0, .int .u64 x1, .int .u64 x2, .int .u64 x3, .string x4, .string x5, .int .i64 x6, .int .i64 x7, .bool x8, .slice xA m xc] 75)) (w.heap.size + 1) k ids) := Lib.hid (HM.out.block (HBA.out.block _ HM.out.lt))
      have HG2 : Hid (∀ w2, World.grownBy (wr.alloc (.cells #[.int .u64 x0, .int .u64 x1, .int .u64 x2, .int .u64 x3, .string x4, .string x5, .int .i64 x6, .int .i64 x7, .bool x8, .slice xA m xc] 75)) w2 (some (w.heap.size + 1)) → Below (w.heap.size + 1) (w.alloc (.cells #[.int .u64 th, .int .u64 tl, .int .i64 f, .int .i64 la, .bool su, .slice (some a) n c] 48)) w2) := Lib.hid (fun w2 hg => (HB.out.alloc hsr (.cells #[.int .u64 x0, .int .u64 x1, .int .u64 x2, .int .u64 x3, .string x4, .string x5, .int .i64 x6, .int .i64 x7, .bool x8, .slice xA m xc] 75)).grown hg (Nat.le_trans hsr (by simp)) (fun q hq => by injection hq with hq; omega))
      have SRC : Hid (∀ w2, Below (w.heap.size + 1) (w.alloc (.cells #[.int .u64 th, .int .u64 tl, .int .i64 f, .int .i64 la, .bool su, .slice (some a) n c] 48)) w2 → Calls Try.prog 96 #[.agg #[.int .u64 x0, .int .u64 x1, .int .u64 x2, .int .u64 x3, .string x4, .string x5, .int .i64 x6, .int .i64 x7, .bool x8, .slice xA m xc]] w2 fun e w' => e = .returned (.bool (right ⟨x0, x1, x2, x3, x4, x5, x6, x7, x8, ats⟩)) ∧ Below w2.heap.size w2 w') := Lib.hid (fun w2 hb => right_lit x0 x1 x2 x3 x4 x5 x6 x7 x8 ats xA xc m B w2 HMN.out (((HY.out.below ((HBW.out _ hb).mono hB)).each _ (List.mem_of_getElem? hx))) (Nat.le_trans hB (HBW.out _ hb).size))
      obtain ⟨cn, hcn⟩ : ∃ cn, ids.count x2 = cn := ⟨_, rfl⟩
      have hcb : cn ≤ 2000000 := by rw [← hcn]; exact Nat.le_trans List.count_le_length (by omega)
      have hc2 : (ids ++ [x2]).count x2 = cn + 1 := by rw [List.count_append, hcn]; simp
      have HCN := Lib.hid hcn
      have hnb : k ≤ 2000000 := by omega
      have hlb : ids.length ≤ 2000000 := by omega
      obtain ⟨d, hd⟩ : ∃ d, d = cn + 1 := ⟨_, rfl⟩
      have HCD : Hid ((ids ++ [x2]).count x2 = d) := Lib.hid (hc2.trans hd.symm)
      have HNX : Hid (((l.map Ls.s).take (k + 1)).map Sp.id = ids ++ [x2]) := Lib.hid (by rw [List.take_add_one, HXM.out, List.map_append, HIDS.out]; rfl)
      clear hc hxl hx hm hT hBw hcn hc2
      rcases Nat.eq_zero_or_pos cn with hz | hz
      · have hdb : decide ((1 : Int) < (d : Int)) = false := decide_eq_false (by omega)
        have HNI : Hid (x2 ∉ ids) := Lib.hid (by rw [← List.count_eq_zero]; exact HCN.out.trans hz)
        clear hd hz
        have hcc : (((x0 == th) = false) ∨ ((x0 == th) = true ∧ (x1 == tl) = false)) ∨ ((x0 == th) = true ∧ (x1 == tl) = true) := by
          by_cases h1 : x0 = th <;> by_cases h2 : x1 = tl <;> simp_all
        rcases hcc with (h1 | ⟨h1, h2⟩) | ⟨h1, h2⟩
        · have HOF : Hid (okS th tl ⟨x0, x1, x2, x3, x4, x5, x6, x7, x8, ats⟩ = false) := Lib.hid (by unfold okS; simp only; rw [decide_eq_false (by simpa using h1)]; simp)
          go_wp2_with (first
            | (at_lookup; refine wpList_cntN cn HMA.out HID.out HCN.out rfl _ _ rfl rfl rfl ?_)
            | (at_lookup; refine wpList_cntN d HM3.out HID.out HCD.out rfl _ _ rfl rfl rfl ?_)
            | (at_mapUpdate; refine wpList_cntN_put cn HMA.out HID.out hnb hlb HCN.out rfl _ _ _ rfl rfl rfl rfl ?_; intro w2 hm2 hg2; have hs2 : wr.heap.size + 1 ≤ w2.heap.size := (by have := hg2.size; simpa using this); have hP : w2.heap[wr.heap.size]? = some (.cells #[.int .u64 x0, .int .u64 x1, .int .u64 x2, .int .u64 x3, .string x4, .string x5, .int .i64 x6, .int .i64 x7, .bool x8, .slice xA m xc] 75) := (hg2.block wr.heap.size (by simp) (by intro e; injection e with e; have := HM.out.lt; omega)).trans (heap_alloc_new wr _); have o0 : w2.cell? ⟨wr.heap.size, 0, none⟩ = some (.int .u64 x0) := cell_of_row _ _ 0 _ _ (0, 0) hP; have o1 : w2.cell? ⟨wr.heap.size, 1, none⟩ = some (.int .u64 x1) := cell_of_row _ _ 1 _ _ (0, 0) hP; have o2 : w2.cell? ⟨wr.heap.size, 2, none⟩ = some (.int .u64 x2) := cell_of_row _ _ 2 _ _ (0, 0) hP; have o3 : w2.cell? ⟨wr.heap.size, 3, none⟩ = some (.int .u64 x3) := cell_of_row _ _ 3 _ _ (0, 0) hP; have o4 : w2.cell? ⟨wr.heap.size, 4, none⟩ = some (.string x4) := cell_of_row _ _ 4 _ _ (0, 0) hP; have o5 : w2.cell? ⟨wr.heap.size, 5, none⟩ = some (.string x5) := cell_of_row _ _ 5 _ _ (0, 0) hP; have o6 : w2.cell? ⟨wr.heap.size, 6, none⟩ = some (.int .i64 x6) := cell_of_row _ _ 6 _ _ (0, 0) hP; have o7 : w2.cell? ⟨wr.heap.size, 7, none⟩ = some (.int .i64 x7) := cell_of_row _ _ 7 _ _ (0, 0) hP; have o8 : w2.cell? ⟨wr.heap.size, 8, none⟩ = some (.bool x8) := cell_of_row _ _ 8 _ _ (0, 0) hP; have o9 : w2.cell? ⟨wr.heap.size, 9, none⟩ = some (.slice xA m xc) := cell_of_row _ _ 9 _ _ (0, 0) hP; have hT2 : w2.heap[w.heap.size]? = some (.cells #[.int .u64 th, .int .u64 tl, .int .i64 f, .int .i64 la, .bool su, .slice (some a) n c] 48) := (hg2.block w.heap.size (by simp; omega) (by intro e; injection e with e; omega)).trans ((heap_alloc_old wr _ (by omega)).trans HT.out); have u0 : w2.cell? ⟨w.heap.size, 0, none⟩ = some (.int .u64 th) := cell_of_row _ _ 0 _ _ (0, 0) hT2; have u1 : w2.cell? ⟨w.heap.size, 1, none⟩ = some (.int .u64 tl) := cell_of_row _ _ 1 _ _ (0, 0) hT2; have HM3 := Lib.hid hm2; have HB2 : Hid (Below (w.heap.size + 1) (w.alloc (.cells #[.int .u64 th, .int .u64 tl, .int .i64 f, .int .i64 la, .bool su, .slice (some a) n c] 48)) w2) := Lib.hid (HG2.out w2 hg2); clear hP hT2 hm2 hg2))
          go_ret
          exact ⟨by rw [HQ.out, (okSs_bad HXM.out (.inl HOF.out))] <;> rfl, HBW.out _ HB2.out⟩
        · have HOF : Hid (okS th tl ⟨x0, x1, x2, x3, x4, x5, x6, x7, x8, ats⟩ = false) := Lib.hid (by unfold okS; simp only; rw [decide_eq_false (show ¬ x1 = tl by simpa using h2)]; simp)
          go_wp2_with (first
            | (at_lookup; refine wpList_cntN cn HMA.out HID.out HCN.out rfl _ _ rfl rfl rfl ?_)
            | (at_lookup; refine wpList_cntN d HM3.out HID.out HCD.out rfl _ _ rfl rfl rfl ?_)
            | (at_mapUpdate; refine wpList_cntN_put cn HMA.out HID.out hnb hlb HCN.out rfl _ _ _ rfl rfl rfl rfl ?_; intro w2 hm2 hg2; have hs2 : wr.heap.size + 1 ≤ w2.heap.size := (by have := hg2.size; simpa using this); have hP : w2.heap[wr.heap.size]? = some (.cells #[.int .u64 x0, .int .u64 x1, .int .u64 x2, .int .u64 x3, .string x4, .string x5, .int .i64 x6, .int .i64 x7, .bool x8, .slice xA m xc] 75) := (hg2.block wr.heap.size (by simp) (by intro e; injection e with e; have := HM.out.lt; omega)).trans (heap_alloc_new wr _); have o0 : w2.cell? ⟨wr.heap.size, 0, none⟩ = some (.int .u64 x0) := cell_of_row _ _ 0 _ _ (0, 0) hP; have o1 : w2.cell? ⟨wr.heap.size, 1, none⟩ = some (.int .u64 x1) := cell_of_row _ _ 1 _ _ (0, 0) hP; have o2 : w2.cell? ⟨wr.heap.size, 2, none⟩ = some (.int .u64 x2) := cell_of_row _ _ 2 _ _ (0, 0) hP; have o3 : w2.cell? ⟨wr.heap.size, 3, none⟩ = some (.int .u64 x3) := cell_of_row _ _ 3 _ _ (0, 0) hP; have o4 : w2.cell? ⟨wr.heap.size, 4, none⟩ = some (.string x4) := cell_of_row _ _ 4 _ _ (0, 0) hP; have o5 : w2.cell? ⟨wr.heap.size, 5, none⟩ = some (.string x5) := cell_of_row _ _ 5 _ _ (0, 0) hP; have o6 : w2.cell? ⟨wr.heap.size, 6, none⟩ = some (.int .i64 x6) := cell_of_row _ _ 6 _ _ (0, 0) hP; have o7 : w2.cell? ⟨wr.heap.size, 7, none⟩ = some (.int .i64 x7) := cell_of_row _ _ 7 _ _ (0, 0) hP; have o8 : w2.cell? ⟨wr.heap.size, 8, none⟩ = some (.bool x8) := cell_of_row _ _ 8 _ _ (0, 0) hP; have o9 : w2.cell? ⟨wr.heap.size, 9, none⟩ = some (.slice xA m xc) := cell_of_row _ _ 9 _ _ (0, 0) hP; have hT2 : w2.heap[w.heap.size]? = some (.cells #[.int .u64 th, .int .u64 tl, .int .i64 f, .int .i64 la, .bool su, .slice (some a) n c] 48) := (hg2.block w.heap.size (by simp; omega) (by intro e; injection e with e; omega)).trans ((heap_alloc_old wr _ (by omega)).trans HT.out); have u0 : w2.cell? ⟨w.heap.size, 0, none⟩ = some (.int .u64 th) := cell_of_row _ _ 0 _ _ (0, 0) hT2; have u1 : w2.cell? ⟨w.heap.size, 1, none⟩ = some (.int .u64 tl) := cell_of_row _ _ 1 _ _ (0, 0) hT2; have HM3 := Lib.hid hm2; have HB2 : Hid (Below (w.heap.size + 1) (w.alloc (.cells #[.int .u64 th, .int .u64 tl, .int .i64 f, .int .i64 la, .bool su, .slice (some a) n c] 48)) w2) := Lib.hid (HG2.out w2 hg2); clear hP hT2 hm2 hg2))
          go_ret
          exact ⟨by rw [HQ.out, (okSs_bad HXM.out (.inl HOF.out))] <;> rfl, HBW.out _ HB2.out⟩
        · have HTT : Hid (x0 = th ∧ x1 = tl) := Lib.hid ⟨by simpa using h1, by simpa using h2⟩
          cases hr : right ⟨x0, x1, x2, x3, x4, x5, x6, x7, x8, ats⟩
          · have HOF : Hid (okS th tl ⟨x0, x1, x2, x3, x4, x5, x6, x7, x8, ats⟩ = false) := Lib.hid (by unfold okS; rw [hr]; rfl)
            rw [hr] at SRC
            clear hr
            go_wp2_with (first
              | (at_lookup; refine wpList_cntN cn HMA.out HID.out HCN.out rfl _ _ rfl rfl rfl ?_)
              | (at_lookup; refine wpList_cntN d HM3.out HID.out HCD.out rfl _ _ rfl rfl rfl ?_)
              | (at_mapUpdate; refine wpList_cntN_put cn HMA.out HID.out hnb hlb HCN.out rfl _ _ _ rfl rfl rfl rfl ?_; intro w2 hm2 hg2; have hs2 : wr.heap.size + 1 ≤ w2.heap.size := (by have := hg2.size; simpa using this); have hP : w2.heap[wr.heap.size]? = some (.cells #[.int .u64 x0, .int .u64 x1, .int .u64 x2, .int .u64 x3, .string x4, .string x5, .int .i64 x6, .int .i64 x7, .bool x8, .slice xA m xc] 75) := (hg2.block wr.heap.size (by simp) (by intro e; injection e with e; have := HM.out.lt; omega)).trans (heap_alloc_new wr _); have o0 : w2.cell? ⟨wr.heap.size, 0, none⟩ = some (.int .u64 x0) := cell_of_row _ _ 0 _ _ (0, 0) hP; have o1 : w2.cell? ⟨wr.heap.size, 1, none⟩ = some (.int .u64 x1) := cell_of_row _ _ 1 _ _ (0, 0) hP; have o2 : w2.cell? ⟨wr.heap.size, 2, none⟩ = some (.int .u64 x2) := cell_of_row _ _ 2 _ _ (0, 0) hP; have o3 : w2.cell? ⟨wr.heap.size, 3, none⟩ = some (.int .u64 x3) := cell_of_row _ _ 3 _ _ (0, 0) hP; have o4 : w2.cell? ⟨wr.heap.size, 4, none⟩ = some (.string x4) := cell_of_row _ _ 4 _ _ (0, 0) hP; have o5 : w2.cell? ⟨wr.heap.size, 5, none⟩ = some (.string x5) := cell_of_row _ _ 5 _ _ (0, 0) hP; have o6 : w2.cell? ⟨wr.heap.size, 6, none⟩ = some (.int .i64 x6) := cell_of_row _ _ 6 _ _ (0, 0) hP; have o7 : w2.cell? ⟨wr.heap.size, 7, none⟩ = some (.int .i64 x7) := cell_of_row _ _ 7 _ _ (0, 0) hP; have o8 : w2.cell? ⟨wr.heap.size, 8, none⟩ = some (.bool x8) := cell_of_row _ _ 8 _ _ (0, 0) hP; have o9 : w2.cell? ⟨wr.heap.size, 9, none⟩ = some (.slice xA m xc) := cell_of_row _ _ 9 _ _ (0, 0) hP; have hT2 : w2.heap[w.heap.size]? = some (.cells #[.int .u64 th, .int .u64 tl, .int .i64 f, .int .i64 la, .bool su, .slice (some a) n c] 48) := (hg2.block w.heap.size (by simp; omega) (by intro e; injection e with e; omega)).trans ((heap_alloc_old wr _ (by omega)).trans HT.out); have u0 : w2.cell? ⟨w.heap.size, 0, none⟩ = some (.int .u64 th) := cell_of_row _ _ 0 _ _ (0, 0) hT2; have u1 : w2.cell? ⟨w.heap.size, 1, none⟩ = some (.int .u64 tl) := cell_of_row _ _ 1 _ _ (0, 0) hT2; have HM3 := Lib.hid hm2; have HB2 : Hid (Below (w.heap.size + 1) (w.alloc (.cells #[.int .u64 th, .int .u64 tl, .int .i64 f, .int .i64 la, .bool su, .slice (some a) n c] 48)) w2) := Lib.hid (HG2.out w2 hg2); clear hP hT2 hm2 hg2)
              | (go_at_call 96; (with_reducible refine (SRC.out w2 HB2.out).mono ?_); rintro e w3 ⟨rfl, hb3⟩; have HB3 := Lib.hid (HB2.out.trans (hb3.mono (Nat.le_trans (by rw [hW1]; exact Nat.le_refl _) HB2.out.size))); clear hb3))
            go_ret
            exact ⟨by rw [HQ.out, (okSs_bad HXM.out (.inl HOF.out))] <;> rfl, HBW.out _ HB3.out⟩
          · have HOT : Hid (okS th tl ⟨x0, x1, x2, x3, x4, x5, x6, x7, x8, ats⟩ = true) := Lib.hid (by unfold okS; rw [hr, decide_eq_true HTT.out.1, decide_eq_true HTT.out.2]; rfl)
            have HST : Hid (okSs th tl ((l.map Ls.s).take (k + 1)) = true) := Lib.hid (okSs_step HXM.out HK.out HOT.out (by rw [HIDS.out]; exact HNI.out))
            rw [hr] at SRC
            clear hr
            go_wp2_with (first
              | (at_lookup; refine wpList_cntN cn HMA.out HID.out HCN.out rfl _ _ rfl rfl rfl ?_)
              | (at_lookup; refine wpList_cntN d HM3.out HID.out HCD.out rfl _ _ rfl rfl rfl ?_)
              | (at_mapUpdate; refine wpList_cntN_put cn HMA.out HID.out hnb hlb HCN.out rfl _ _ _ rfl rfl rfl rfl ?_; intro w2 hm2 hg2; have hs2 : wr.heap.size + 1 ≤ w2.heap.size := (by have := hg2.size; simpa using this); have hP : w2.heap[wr.heap.size]? = some (.cells #[.int .u64 x0, .int .u64 x1, .int .u64 x2, .int .u64 x3, .string x4, .string x5, .int .i64 x6, .int .i64 x7, .bool x8, .slice xA m xc] 75) := (hg2.block wr.heap.size (by simp) (by intro e; injection e with e; have := HM.out.lt; omega)).trans (heap_alloc_new wr _); have o0 : w2.cell? ⟨wr.heap.size, 0, none⟩ = some (.int .u64 x0) := cell_of_row _ _ 0 _ _ (0, 0) hP; have o1 : w2.cell? ⟨wr.heap.size, 1, none⟩ = some (.int .u64 x1) := cell_of_row _ _ 1 _ _ (0, 0) hP; have o2 : w2.cell? ⟨wr.heap.size, 2, none⟩ = some (.int .u64 x2) := cell_of_row _ _ 2 _ _ (0, 0) hP; have o3 : w2.cell? ⟨wr.heap.size, 3, none⟩ = some (.int .u64 x3) := cell_of_row _ _ 3 _ _ (0, 0) hP; have o4 : w2.cell? ⟨wr.heap.size, 4, none⟩ = some (.string x4) := cell_of_row _ _ 4 _ _ (0, 0) hP; have o5 : w2.cell? ⟨wr.heap.size, 5, none⟩ = some (.string x5) := cell_of_row _ _ 5 _ _ (0, 0) hP; have o6 : w2.cell? ⟨wr.heap.size, 6, none⟩ = some (.int .i64 x6) := cell_of_row _ _ 6 _ _ (0, 0) hP; have o7 : w2.cell? ⟨wr.heap.size, 7, none⟩ = some (.int .i64 x7) := cell_of_row _ _ 7 _ _ (0, 0) hP; have o8 : w2.cell? ⟨wr.heap.size, 8, none⟩ = some (.bool x8) := cell_of_row _ _ 8 _ _ (0, 0) hP; have o9 : w2.cell? ⟨wr.heap.size, 9, none⟩ = some (.slice xA m xc) := cell_of_row _ _ 9 _ _ (0, 0) hP; have hT2 : w2.heap[w.heap.size]? = some (.cells #[.int .u64 th, .int .u64 tl, .int .i64 f, .int .i64 la, .bool su, .slice (some a) n c] 48) := (hg2.block w.heap.size (by simp; omega) (by intro e; injection e with e; omega)).trans ((heap_alloc_old wr _ (by omega)).trans HT.out); have u0 : w2.cell? ⟨w.heap.size, 0, none⟩ = some (.int .u64 th) := cell_of_row _ _ 0 _ _ (0, 0) hT2; have u1 : w2.cell? ⟨w.heap.size, 1, none⟩ = some (.int .u64 tl) := cell_of_row _ _ 1 _ _ (0, 0) hT2; have HM3 := Lib.hid hm2; have HB2 : Hid (Below (w.heap.size + 1) (w.alloc (.cells #[.int .u64 th, .int .u64 tl, .int .i64 f, .int .i64 la, .bool su, .slice (some a) n c] 48)) w2) := Lib.hid (HG2.out w2 hg2); clear hP hT2 hm2 hg2)
              | (go_at_call 96; (with_reducible refine (SRC.out w2 HB2.out).mono ?_); rintro e w3 ⟨rfl, hb3⟩; have HB3 := Lib.hid (HB2.out.trans (hb3.mono (Nat.le_trans (by rw [hW1]; exact Nat.le_refl _) HB2.out.size))); have HM4 := Lib.hid (HM3.out.block (hb3.block _ HM3.out.lt)); clear hb3))
            go_roundw
            case rel => exact ⟨k + 1, by go_num, by omega, HST, Lib.hid (by rw [HNX.out]; exact HM4.out), HB3⟩
            case measure => simp [intOf]; omega
      · have hdb : decide ((1 : Int) < (d : Int)) = true := decide_eq_true (by omega)
        have HIN : Hid (x2 ∈ ((l.map Ls.s).take k).map Sp.id) := Lib.hid (by rw [HIDS.out, ← List.count_pos_iff, HCN.out]; exact hz)
        clear hd hz
        go_wp2_with (first
          | (at_lookup; refine wpList_cntN cn HMA.out HID.out HCN.out rfl _ _ rfl rfl rfl ?_)
          | (at_lookup; refine wpList_cntN d HM3.out HID.out HCD.out rfl _ _ rfl rfl rfl ?_)
          | (at_mapUpdate; refine wpList_cntN_put cn HMA.out HID.out hnb hlb HCN.out rfl _ _ _ rfl rfl rfl rfl ?_; intro w2 hm2 hg2; have hs2 : wr.heap.size + 1 ≤ w2.heap.size := (by have := hg2.size; simpa using this); have hP : w2.heap[wr.heap.size]? = some (.cells #[.int .u64 x0, .int .u64 x1, .int .u64 x2, .int .u64 x3, .string x4, .string x5, .int .i64 x6, .int .i64 x7, .bool x8, .slice xA m xc] 75) := (hg2.block wr.heap.size (by simp) (by intro e; injection e with e; have := HM.out.lt; omega)).trans (heap_alloc_new wr _); have o0 : w2.cell? ⟨wr.heap.size, 0, none⟩ = some (.int .u64 x0) := cell_of_row _ _ 0 _ _ (0, 0) hP; have o1 : w2.cell? ⟨wr.heap.size, 1, none⟩ = some (.int .u64 x1) := cell_of_row _ _ 1 _ _ (0, 0) hP; have o2 : w2.cell? ⟨wr.heap.size, 2, none⟩ = some (.int .u64 x2) := cell_of_row _ _ 2 _ _ (0, 0) hP; have o3 : w2.cell? ⟨wr.heap.size, 3, none⟩ = some (.int .u64 x3) := cell_of_row _ _ 3 _ _ (0, 0) hP; have o4 : w2.cell? ⟨wr.heap.size, 4, none⟩ = some (.string x4) := cell_of_row _ _ 4 _ _ (0, 0) hP; have o5 : w2.cell? ⟨wr.heap.size, 5, none⟩ = some (.string x5) := cell_of_row _ _ 5 _ _ (0, 0) hP; have o6 : w2.cell? ⟨wr.heap.size, 6, none⟩ = some (.int .i64 x6) := cell_of_row _ _ 6 _ _ (0, 0) hP; have o7 : w2.cell? ⟨wr.heap.size, 7, none⟩ = some (.int .i64 x7) := cell_of_row _ _ 7 _ _ (0, 0) hP; have o8 : w2.cell? ⟨wr.heap.size, 8, none⟩ = some (.bool x8) := cell_of_row _ _ 8 _ _ (0, 0) hP; have o9 : w2.cell? ⟨wr.heap.size, 9, none⟩ = some (.slice xA m xc) := cell_of_row _ _ 9 _ _ (0, 0) hP; have hT2 : w2.heap[w.heap.size]? = some (.cells #[.int .u64 th, .int .u64 tl, .int .i64 f, .int .i64 la, .bool su, .slice (some a) n c] 48) := (hg2.block w.heap.size (by simp; omega) (by intro e; injection e with e; omega)).trans ((heap_alloc_old wr _ (by omega)).trans HT.out); have u0 : w2.cell? ⟨w.heap.size, 0, none⟩ = some (.int .u64 th) := cell_of_row _ _ 0 _ _ (0, 0) hT2; have u1 : w2.cell? ⟨w.heap.size, 1, none⟩ = some (.int .u64 tl) := cell_of_row _ _ 1 _ _ (0, 0) hT2; have HM3 := Lib.hid hm2; have HB2 : Hid (Below (w.heap.size + 1) (w.alloc (.cells #[.int .u64 th, .int .u64 tl, .int .i64 f, .int .i64 la, .bool su, .slice (some a) n c] 48)) w2) := Lib.hid (HG2.out w2 hg2); clear hP hT2 hm2 hg2))
        go_ret
        exact ⟨by rw [HQ.out, (okSs_bad HXM.out (.inr HIN.out))] <;> rfl, HBW.out _ HB2.out⟩
    · obtain rfl : k = n := by omega
      have HE : Hid (okSs th tl (l.map Ls.s) = true) := Lib.hid (by have h := HK.out; rwa [List.take_of_length_le (by rw [List.length_map, ← HN.out]; exact Nat.le_refl _)] at h)
      go_wp2_with fail
      go_ret
      exact ⟨by rw [HQ.out, HE.out] <;> rfl, HBW.out _ HB.out⟩
end Go.Proofs.Ytchcjbapbdfhkaa
