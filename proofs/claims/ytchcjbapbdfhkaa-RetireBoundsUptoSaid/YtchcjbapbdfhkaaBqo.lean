/- Whether an episode is right: the document's word. -/
import Derived.Test.YtchcjbapbdfhkaaBqc
import Derived.Test.YtchcjbapbdfhkaaRr
import Derived.BigQuiet
import Derived.Test.YtchcjbapbdfhkaaDq
import Derived.Test.YtchcjbapbdfhkaaBqe
import Derived.Test.YtchcjbapbdfhkaaBqh
namespace Go.Proofs.Ytchcjbapbdfhkaa
open Go.RowKit Go.Maps
set_option linter.unusedVariables false
set_option linter.unusedSimpArgs false
set_option maxRecDepth 100000

theorem dcnt_any (n : Int) (w : World) : Calls Try.prog 65 #[.int .i64 n] w fun e w' => e = .returned (.bool (cntI n)) ∧ w' = w := by
  unfold cntI
  rcases Int.lt_or_le n 0 with h | h
  · have d1 : decide (0 ≤ n) = false := decide_eq_false (by omega)
    rw [d1]
    go_enter Try.func65, Try.ntmps65
    go_wp2_with fail
    go_ret
    exact ⟨rfl, rfl⟩
  · have d1 : decide (0 ≤ n) = true := decide_eq_true h
    rw [d1]
    go_enter Try.func65, Try.ntmps65
    go_wp2_with fail
    go_ret
    exact ⟨rfl, rfl⟩
set_option maxHeartbeats 4000000 in
theorem dlesst_any (a b c d : Int) (w : World) : Calls Try.prog 32 #[.agg #[.int .u64 a, .int .u64 b], .agg #[.int .u64 c, .int .u64 d]] w fun e w' => e = .returned (.bool (decide (a < c) || (decide (a = c) && decide (b < d)))) ∧ Below w.heap.size w w' := by
  have HB := Lib.hid (((Below.refl w.heap.size w).alloc (Nat.le_refl _) (.cells #[.int .u64 a, .int .u64 b] 28)).alloc (by simp) (.cells #[.int .u64 c, .int .u64 d] 28))
  rcases Int.lt_trichotomy a c with h | h | h
  · have d1 : decide (a < c) = true := decide_eq_true h
    rw [d1]
    clear h
    go_enter Try.func32, Try.ntmps32
    go_wp2_with fail
    go_ret
    exact ⟨rfl, HB.out⟩
  · subst h
    have d1 : decide (a < a) = false := decide_eq_false (by omega)
    have d2 : decide (a = a) = true := decide_eq_true rfl
    rw [d1, d2]
    cases hb : decide (b < d)
    · go_enter Try.func32, Try.ntmps32
      go_wp2_with fail
      go_ret
      exact ⟨rfl, HB.out⟩
    · go_enter Try.func32, Try.ntmps32
      go_wp2_with fail
      go_ret
      exact ⟨rfl, HB.out⟩
  · have d1 : decide (a < c) = false := decide_eq_false (by omega)
    have d2 : decide (a = c) = false := decide_eq_false (by omega)
    have d3 : (a == c) = false := by rw [beq_eq_false_iff_ne]; omega
    rw [d1, d2]
    clear h
    go_enter Try.func32, Try.ntmps32
    go_wp2_with fail
    go_ret
    exact ⟨rfl, HB.out⟩
def DeB (aa : Addr) (n c bx k : Nat) (th tl : Int) (x0 x1 x2 x3 : Int) (x4 x5 : ByteArray) (x6 x7 : Int) (x8 : Bool) (xA : Option Addr) (m xc : Nat) : Nat → Value → World → Prop
  | 0, v, _ => v = .pointer (some ⟨bx, 5, none⟩)
  | 1, v, _ => v = .slice (some aa) n c
  | 2, v, _ => v = .int .i64 (k : Int)
  | 3, v, _ => v = .pointer (some (aa.add (k * 10)))
  | 4, v, _ => v = .agg #[.int .u64 x0, .int .u64 x1, .int .u64 x2, .int .u64 x3, .string x4, .string x5, .int .i64 x6, .int .i64 x7, .bool x8, .slice xA m xc]
  | 5, v, _ => v = .bool false
  | 6, v, _ => v = .bool true
  | 7, v, _ => v = .bool true
  | 8, v, _ => v = undef
  | 9, v, _ => v = undef
  | 10, v, _ => v = undef
  | 11, v, _ => v = undef
  | 12, v, _ => v = undef
  | 13, v, _ => v = undef
  | 14, v, _ => v = undef
  | 15, v, _ => v = undef
  | 16, v, _ => v = undef
  | 17, v, _ => v = .bool true
  | _, _, _ => True
theorem DeB.keep {aa : Addr} {n c bx k : Nat} {th tl : Int} {x0 x1 x2 x3 : Int} {x4 x5 : ByteArray} {x6 x7 : Int} {x8 : Bool} {xA : Option Addr} {m xc : Nat} {w w' : World} {i : Nat} {v : Value} (h : DeB aa n c bx k th tl x0 x1 x2 x3 x4 x5 x6 x7 x8 xA m xc i v w) : DeB aa n c bx k th tl x0 x1 x2 x3 x4 x5 x6 x7 x8 xA m xc i v w' := by
  match i, h with
  | 0, h => exact h
  | 1, h => exact h
  | 2, h => exact h
  | 3, h => exact h
  | 4, h => exact h
  | 5, h => exact h
  | 6, h => exact h
  | 7, h => exact h
  | 8, h => exact h
  | 9, h => exact h
  | 10, h => exact h
  | 11, h => exact h
  | 12, h => exact h
  | 13, h => exact h
  | 14, h => exact h
  | 15, h => exact h
  | 16, h => exact h
  | 17, h => exact h
  | _ + 18, h => trivial
def DeN (aa : Addr) (n c bx k : Nat) (th tl : Int) (x0 x1 x2 x3 : Int) (x4 x5 : ByteArray) (x6 x7 : Int) (x8 : Bool) (xA : Option Addr) (m xc : Nat) : Nat → Value → World → Prop
  | 0, v, _ => v = .pointer (some ⟨bx, 5, none⟩)
  | 1, v, _ => v = .slice (some aa) n c
  | 2, v, _ => v = .int .i64 (k : Int)
  | 3, v, _ => v = .pointer (some (aa.add (k * 10)))
  | 4, v, _ => v = .agg #[.int .u64 x0, .int .u64 x1, .int .u64 x2, .int .u64 x3, .string x4, .string x5, .int .i64 x6, .int .i64 x7, .bool x8, .slice xA m xc]
  | 5, v, _ => v = .bool true
  | 6, v, _ => v = .bool false
  | 7, v, _ => v = .bool false
  | 8, v, _ => v = .pointer (some ⟨bx, 5, none⟩)
  | 9, v, _ => v = .slice (some aa) n c
  | 10, v, _ => v = .int .i64 (k : Int)
  | 11, v, _ => v = .pointer (some (aa.add (k * 10)))
  | 12, v, _ => v = .pointer (some (aa.add (k * 10)))
  | 13, v, _ => v = .agg #[.int .u64 x0, .int .u64 x1]
  | 14, v, _ => v = .pointer (some ⟨bx, 0, none⟩)
  | 15, v, _ => v = .agg #[.int .u64 th, .int .u64 tl]
  | 16, v, _ => v = .bool true
  | 17, v, _ => v = .bool true
  | _, _, _ => True
theorem DeN.keep {aa : Addr} {n c bx k : Nat} {th tl : Int} {x0 x1 x2 x3 : Int} {x4 x5 : ByteArray} {x6 x7 : Int} {x8 : Bool} {xA : Option Addr} {m xc : Nat} {w w' : World} {i : Nat} {v : Value} (h : DeN aa n c bx k th tl x0 x1 x2 x3 x4 x5 x6 x7 x8 xA m xc i v w) : DeN aa n c bx k th tl x0 x1 x2 x3 x4 x5 x6 x7 x8 xA m xc i v w' := by
  match i, h with
  | 0, h => exact h
  | 1, h => exact h
  | 2, h => exact h
  | 3, h => exact h
  | 4, h => exact h
  | 5, h => exact h
  | 6, h => exact h
  | 7, h => exact h
  | 8, h => exact h
  | 9, h => exact h
  | 10, h => exact h
  | 11, h => exact h
  | 12, h => exact h
  | 13, h => exact h
  | 14, h => exact h
  | 15, h => exact h
  | 16, h => exact h
  | 17, h => exact h
  | _ + 18, h => trivial
def DeM (aa : Addr) (n c bx k : Nat) (th tl : Int) (x0 x1 x2 x3 : Int) (x4 x5 : ByteArray) (x6 x7 : Int) (x8 : Bool) (xA : Option Addr) (m xc : Nat) : Nat → Value → World → Prop
  | 0, v, _ => v = .pointer (some ⟨bx, 5, none⟩)
  | 1, v, _ => v = .slice (some aa) n c
  | 2, v, _ => v = .int .i64 (k : Int)
  | 3, v, _ => v = .pointer (some (aa.add (k * 10)))
  | 4, v, _ => v = .agg #[.int .u64 x0, .int .u64 x1, .int .u64 x2, .int .u64 x3, .string x4, .string x5, .int .i64 x6, .int .i64 x7, .bool x8, .slice xA m xc]
  | 5, v, _ => v = .bool true
  | 6, v, _ => v = .bool false
  | 7, v, _ => v = .bool false
  | 8, v, _ => v = .pointer (some ⟨bx, 5, none⟩)
  | 9, v, _ => v = .slice (some aa) n c
  | 10, v, _ => v = .int .i64 (k : Int)
  | 11, v, _ => v = .pointer (some (aa.add (k * 10)))
  | 12, v, _ => v = .pointer (some (aa.add (k * 10)))
  | 13, v, _ => v = .agg #[.int .u64 x0, .int .u64 x1]
  | 14, v, _ => v = .pointer (some ⟨bx, 0, none⟩)
  | 15, v, _ => v = .agg #[.int .u64 th, .int .u64 tl]
  | 16, v, _ => v = .bool true
  | 17, v, _ => v = .bool true
  | _, _, _ => True
theorem DeM.keep {aa : Addr} {n c bx k : Nat} {th tl : Int} {x0 x1 x2 x3 : Int} {x4 x5 : ByteArray} {x6 x7 : Int} {x8 : Bool} {xA : Option Addr} {m xc : Nat} {w w' : World} {i : Nat} {v : Value} (h : DeM aa n c bx k th tl x0 x1 x2 x3 x4 x5 x6 x7 x8 xA m xc i v w) : DeM aa n c bx k th tl x0 x1 x2 x3 x4 x5 x6 x7 x8 xA m xc i v w' := by
  match i, h with
  | 0, h => exact h
  | 1, h => exact h
  | 2, h => exact h
  | 3, h => exact h
  | 4, h => exact h
  | 5, h => exact h
  | 6, h => exact h
  | 7, h => exact h
  | 8, h => exact h
  | 9, h => exact h
  | 10, h => exact h
  | 11, h => exact h
  | 12, h => exact h
  | 13, h => exact h
  | 14, h => exact h
  | 15, h => exact h
  | 16, h => exact h
  | 17, h => exact h
  | _ + 18, h => trivial
def DeE (aa : Addr) (n c bx k : Nat) (th tl : Int) (x0 x1 x2 x3 : Int) (x4 x5 : ByteArray) (x6 x7 : Int) (x8 : Bool) (xA : Option Addr) (m xc : Nat) : Nat → Value → World → Prop
  | 0, v, _ => v = .pointer (some ⟨bx, 5, none⟩)
  | 1, v, _ => v = .slice (some aa) n c
  | 2, v, _ => v = .int .i64 (k : Int)
  | 3, v, _ => v = .pointer (some (aa.add (k * 10)))
  | 4, v, _ => v = .agg #[.int .u64 x0, .int .u64 x1, .int .u64 x2, .int .u64 x3, .string x4, .string x5, .int .i64 x6, .int .i64 x7, .bool x8, .slice xA m xc]
  | 5, v, _ => v = .bool true
  | 6, v, _ => v = .bool false
  | 7, v, _ => v = .bool false
  | 8, v, _ => v = .pointer (some ⟨bx, 5, none⟩)
  | 9, v, _ => v = .slice (some aa) n c
  | 10, v, _ => v = .int .i64 (k : Int)
  | 11, v, _ => v = .pointer (some (aa.add (k * 10)))
  | 12, v, _ => v = .pointer (some (aa.add (k * 10)))
  | 13, v, _ => v = .agg #[.int .u64 x0, .int .u64 x1]
  | 14, v, _ => v = .pointer (some ⟨bx, 0, none⟩)
  | 15, v, _ => v = .agg #[.int .u64 th, .int .u64 tl]
  | 16, v, _ => v = .bool false
  | 17, v, _ => v = .bool false
  | _, _, _ => True
theorem DeE.keep {aa : Addr} {n c bx k : Nat} {th tl : Int} {x0 x1 x2 x3 : Int} {x4 x5 : ByteArray} {x6 x7 : Int} {x8 : Bool} {xA : Option Addr} {m xc : Nat} {w w' : World} {i : Nat} {v : Value} (h : DeE aa n c bx k th tl x0 x1 x2 x3 x4 x5 x6 x7 x8 xA m xc i v w) : DeE aa n c bx k th tl x0 x1 x2 x3 x4 x5 x6 x7 x8 xA m xc i v w' := by
  match i, h with
  | 0, h => exact h
  | 1, h => exact h
  | 2, h => exact h
  | 3, h => exact h
  | 4, h => exact h
  | 5, h => exact h
  | 6, h => exact h
  | 7, h => exact h
  | 8, h => exact h
  | 9, h => exact h
  | 10, h => exact h
  | 11, h => exact h
  | 12, h => exact h
  | 13, h => exact h
  | 14, h => exact h
  | 15, h => exact h
  | 16, h => exact h
  | 17, h => exact h
  | _ + 18, h => trivial
set_option maxHeartbeats 32000000 in
theorem drightep_any (th tl f la : Int) (su : Bool) (A : Option Addr) (l : List Ls) (n c B : Nat) (w : World) (hn : n = l.length) (hy : RdSps w B A l) (hB : B ≤ w.heap.size) (hl : n ≤ 1000) :
    Calls Try.prog 31 #[.agg #[.int .u64 th, .int .u64 tl, .int .i64 f, .int .i64 la, .bool su, .slice A n c]] w fun e w' => e = .returned (.bool (okEp ⟨th, tl, f, la, su, l.map Ls.s⟩)) ∧ Below w.heap.size w w' := by
  have E1 := Lib.hid (dcnt_any f)
  have E2 := Lib.hid (dcnt_any la)
  have HB0 := Lib.hid ((Below.refl w.heap.size w).alloc (Nat.le_refl _) (.cells #[.int .u64 th, .int .u64 tl, .int .i64 f, .int .i64 la, .bool su, .slice A n c] 48))
  have HF : Hid (okEp ⟨th, tl, f, la, su, l.map Ls.s⟩ = (cntI f && (cntI la && (decide (n ≠ 0) && okSs th tl (l.map Ls.s))))) := Lib.hid (by
    unfold okEp
    simp only
    congr 2
    congr 1
    rw [hn]
    cases l <;> simp)
  generalize okEp ⟨th, tl, f, la, su, l.map Ls.s⟩ = fw at *
  have HN := Lib.hid hn
  have HY := Lib.hid hy
  clear hy hn
  generalize cntI f = b1 at *
  generalize cntI la = b2 at *
  cases b1
  · have HQ : Hid (fw = false) := Lib.hid (by rw [HF.out]; rfl)
    go_enter Try.func31, Try.ntmps31
    go_wp2_with (first
      | (go_at_call 65; (with_reducible refine (E1.out _).mono ?_); rintro e w1 ⟨rfl, hw⟩; subst hw)
      | (go_at_call 65; (with_reducible refine (E2.out _).mono ?_); rintro e w1 ⟨rfl, hw⟩; subst hw))
    go_ret
    exact ⟨by rw [HQ.out] <;> rfl, HB0.out⟩
  cases b2
  · have HQ : Hid (fw = false) := Lib.hid (by rw [HF.out]; rfl)
    go_enter Try.func31, Try.ntmps31
    go_wp2_with (first
      | (go_at_call 65; (with_reducible refine (E1.out _).mono ?_); rintro e w1 ⟨rfl, hw⟩; subst hw)
      | (go_at_call 65; (with_reducible refine (E2.out _).mono ?_); rintro e w1 ⟨rfl, hw⟩; subst hw))
    go_ret
    exact ⟨by rw [HQ.out] <;> rfl, HB0.out⟩
  rcases Nat.eq_zero_or_pos n with h0 | h0
  · subst h0
    have HQ : Hid (fw = false) := Lib.hid (by rw [HF.out]; rfl)
    go_enter Try.func31, Try.ntmps31
    go_wp2_with (first
      | (go_at_call 65; (with_reducible refine (E1.out _).mono ?_); rintro e w1 ⟨rfl, hw⟩; subst hw)
      | (go_at_call 65; (with_reducible refine (E2.out _).mono ?_); rintro e w1 ⟨rfl, hw⟩; subst hw))
    go_ret
    exact ⟨by rw [HQ.out] <;> rfl, HB0.out⟩
  have HQ : Hid (fw = okSs th tl (l.map Ls.s)) := Lib.hid (by rw [HF.out, decide_eq_true (by omega)]; rfl)
  have dn : ((n : Int) == 0) = false := by rw [beq_eq_false_iff_ne]; omega
  have hW1 : (w.alloc (.cells #[.int .u64 th, .int .u64 tl, .int .i64 f, .int .i64 la, .bool su, .slice A n c] 48)).heap.size = w.heap.size + 1 := by simp
  have HBW : Hid (∀ w1, Below (w.heap.size + 1) (w.alloc (.cells #[.int .u64 th, .int .u64 tl, .int .i64 f, .int .i64 la, .bool su, .slice A n c] 48)) w1 → Below w.heap.size w w1) := Lib.hid (fun w1 hb => HB0.out.trans (hb.mono (by omega)))
  have HTB : Hid (∀ w1, Below (w.heap.size + 1) (w.alloc (.cells #[.int .u64 th, .int .u64 tl, .int .i64 f, .int .i64 la, .bool su, .slice A n c] 48)) w1 → w1.heap[w.heap.size]? = some (.cells #[.int .u64 th, .int .u64 tl, .int .i64 f, .int .i64 la, .bool su, .slice A n c] 48) ∧ w.heap.size + 1 ≤ w1.heap.size) := Lib.hid (fun w1 hb => ⟨(hb.block _ (by omega)).trans (heap_alloc_new w _), by have := hb.size; rw [hW1] at this; exact this⟩)
  have HB1 : Hid (Below (w.heap.size + 1) (w.alloc (.cells #[.int .u64 th, .int .u64 tl, .int .i64 f, .int .i64 la, .bool su, .slice A n c] 48)) (w.alloc (.cells #[.int .u64 th, .int .u64 tl, .int .i64 f, .int .i64 la, .bool su, .slice A n c] 48))) := Lib.hid (Below.refl _ _)
  have hA : ∃ aa, A = some aa := by
    obtain ⟨x, hx⟩ : ∃ x, l[0]? = some x := ⟨_, List.getElem?_eq_getElem (by rw [← HN.out]; exact h0)⟩
    obtain ⟨aa, ha, _⟩ := HY.out.at_ hx
    exact ⟨aa, ha⟩
  obtain ⟨aa, hA⟩ := hA
  subst hA
  have hl5 := fun (W : World) (h : Below (w.heap.size + 1) (w.alloc (.cells #[.int .u64 th, .int .u64 tl, .int .i64 f, .int .i64 la, .bool su, .slice (some aa) n c] 48)) W) => cell_of_row W w.heap.size 5 _ _ (0, 0) (HTB.out W h).1
  have HL5 := Lib.hid hl5
  clear hl5 HF
  go_enter Try.func31, Try.ntmps31
  go_wp2_with (first
      | (go_at_call 65; (with_reducible refine (E1.out _).mono ?_); rintro e w1 ⟨rfl, hw⟩; subst hw)
      | (go_at_call 65; (with_reducible refine (E2.out _).mono ?_); rintro e w1 ⟨rfl, hw⟩; subst hw))
  go_loopw [3] (fun iv wr => ∃ k : Nat, iv = .int .i64 (k : Int) ∧ k ≤ n ∧ Hid (okSs th tl ((l.map Ls.s).take k) = true) ∧ Hid (Below (w.heap.size + 1) (w.alloc (.cells #[.int .u64 th, .int .u64 tl, .int .i64 f, .int .i64 la, .bool su, .slice (some aa) n c] 48)) wr)) (fun iv _ => n - (intOf iv).toNat)
  case atStart => exact ⟨0, rfl, Nat.zero_le _, Lib.hid (by simp [okSs]), HB1⟩
  case round =>
    obtain ⟨k, rfl, hk, HK, HB⟩ := hrel
    obtain ⟨hT, hsr⟩ := HTB.out _ HB.out
    have b5 : wr.cell? ⟨w.heap.size, 5, none⟩ = some (.slice (some aa) n c) := cell_of_row _ _ 5 _ _ (0, 0) hT
    by_cases hlt : k < n
    · obtain ⟨x, hx⟩ : ∃ x, l[k]? = some x := ⟨_, List.getElem?_eq_getElem (by rw [← HN.out]; exact hlt)⟩
      have hBw := HBW.out _ HB.out
      have HR : Hid (RdSps wr B (some aa) l) := Lib.hid (HY.out.below (hBw.mono hB))
      obtain ⟨a2, ha2, hab, hc, hxl⟩ := HR.out.at_ hx
      injection ha2 with ha2
      subst ha2
      have HXM : Hid ((l.map Ls.s)[k]? = some x.s) := Lib.hid (by rw [List.getElem?_map, hx]; rfl)
      obtain ⟨⟨x0, x1, x2, x3, x4, x5, x6, x7, x8, ats⟩, xA, xc⟩ := x
      obtain ⟨m, hm⟩ : ∃ m, m = ats.length := ⟨_, rfl⟩
      simp only at HXM
      have d0 := hc 0 _ rfl
      have d1 := cell_far (hc 1 _ rfl) (by omega)
      have d2 := cell_far (hc 2 _ rfl) (by omega)
      have d3 := cell_far (hc 3 _ rfl) (by omega)
      have d4 := cell_far (hc 4 _ rfl) (by omega)
      have d5 := cell_far (hc 5 _ rfl) (by omega)
      have d6 := cell_far (hc 6 _ rfl) (by omega)
      have d7 := cell_far (hc 7 _ rfl) (by omega)
      have d8 := cell_far (hc 8 _ rfl) (by omega)
      have d9 : wr.cell? ⟨(aa.add (k * 10)).block, (aa.add (k * 10)).off + 9, none⟩ = some (.slice xA m xc) := by rw [hm]; exact cell_far (hc 9 _ rfl) (by omega)
      simp only [Nat.add_zero] at d0
      simp only at d1 d2 d3 d4 d5 d6 d7 d8
      have HXL := Lib.hid hx
      have HMN := Lib.hid hm
      have p0 : (0 : Int) ≤ (k : Int) := by omega
      have p1 : (k : Int) < (n : Int) := by omega
      have hab2 : (aa.add (k * 10)).block < wr.heap.size := by rw [block_add]; have := hBw.size; omega
      clear hc hxl hx hm
      go_upto_region 6 with fail
      obtain ⟨W, hW⟩ : ∃ W, W = wr.drew := ⟨_, rfl⟩
      have hBA : Below wr.heap.size wr W := by rw [hW]; exact ⟨rfl, rfl, rfl, Nat.le_refl _, fun _ _ => rfl⟩
      have HBW2 := Lib.hid hBA
      have HBR : Hid (Below (w.heap.size + 1) (w.alloc (.cells #[.int .u64 th, .int .u64 tl, .int .i64 f, .int .i64 la, .bool su, .slice (some aa) n c] 48)) W) := Lib.hid (HB.out.trans (hBA.mono hsr))
      have HSV : Hid (∀ V, Below W.heap.size W V → Below wr.heap.size wr V) := Lib.hid (fun V hV => hBA.trans (hV.mono hBA.size))
      have HTT : Hid (wr.heap[w.heap.size]? = some (.cells #[.int .u64 th, .int .u64 tl, .int .i64 f, .int .i64 la, .bool su, .slice (some aa) n c] 48)) := Lib.hid hT
      have SS := Lib.hid (show ∀ V, Below W.heap.size W V → (V.cell? (aa.add (k * 10)) = some (.int .u64 x0) ∧ V.cell? ⟨(aa.add (k * 10)).block, (aa.add (k * 10)).off + 1, none⟩ = some (.int .u64 x1) ∧ V.cell? ⟨(aa.add (k * 10)).block, (aa.add (k * 10)).off + 2, none⟩ = some (.int .u64 x2) ∧ V.cell? ⟨(aa.add (k * 10)).block, (aa.add (k * 10)).off + 3, none⟩ = some (.int .u64 x3) ∧ V.cell? ⟨(aa.add (k * 10)).block, (aa.add (k * 10)).off + 4, none⟩ = some (.string x4) ∧ V.cell? ⟨(aa.add (k * 10)).block, (aa.add (k * 10)).off + 5, none⟩ = some (.string x5) ∧ V.cell? ⟨(aa.add (k * 10)).block, (aa.add (k * 10)).off + 6, none⟩ = some (.int .i64 x6) ∧ V.cell? ⟨(aa.add (k * 10)).block, (aa.add (k * 10)).off + 7, none⟩ = some (.int .i64 x7) ∧ V.cell? ⟨(aa.add (k * 10)).block, (aa.add (k * 10)).off + 8, none⟩ = some (.bool x8) ∧ V.cell? ⟨(aa.add (k * 10)).block, (aa.add (k * 10)).off + 9, none⟩ = some (.slice xA m xc)) ∧ V.cell? ⟨w.heap.size, 0, none⟩ = some (.int .u64 th) ∧ V.cell? ⟨w.heap.size, 1, none⟩ = some (.int .u64 tl) ∧ V.cell? ⟨w.heap.size, 5, none⟩ = some (.slice (some aa) n c) from fun V hV => by
        have hbx := ((HSV.out V hV).block _ (by omega)).trans HTT.out
        exact ⟨⟨((HSV.out V hV).cell (p := aa.add (k * 10)) hab2).trans d0, ((HSV.out V hV).cell (p := ⟨(aa.add (k * 10)).block, (aa.add (k * 10)).off + 1, none⟩) hab2).trans d1, ((HSV.out V hV).cell (p := ⟨(aa.add (k * 10)).block, (aa.add (k * 10)).off + 2, none⟩) hab2).trans d2, ((HSV.out V hV).cell (p := ⟨(aa.add (k * 10)).block, (aa.add (k * 10)).off + 3, none⟩) hab2).trans d3, ((HSV.out V hV).cell (p := ⟨(aa.add (k * 10)).block, (aa.add (k * 10)).off + 4, none⟩) hab2).trans d4, ((HSV.out V hV).cell (p := ⟨(aa.add (k * 10)).block, (aa.add (k * 10)).off + 5, none⟩) hab2).trans d5, ((HSV.out V hV).cell (p := ⟨(aa.add (k * 10)).block, (aa.add (k * 10)).off + 6, none⟩) hab2).trans d6, ((HSV.out V hV).cell (p := ⟨(aa.add (k * 10)).block, (aa.add (k * 10)).off + 7, none⟩) hab2).trans d7, ((HSV.out V hV).cell (p := ⟨(aa.add (k * 10)).block, (aa.add (k * 10)).off + 8, none⟩) hab2).trans d8, ((HSV.out V hV).cell (p := ⟨(aa.add (k * 10)).block, (aa.add (k * 10)).off + 9, none⟩) hab2).trans d9⟩, cell_of_row _ _ 0 _ _ (0, 0) hbx, cell_of_row _ _ 1 _ _ (0, 0) hbx, cell_of_row _ _ 5 _ _ (0, 0) hbx⟩)
      have RSC := Lib.hid (fun V (hV : Below W.heap.size W V) => rightspan_lit x0 x1 x2 x3 x4 x5 x6 x7 x8 ats xA xc m B V HMN.out ((HY.out.below ((HBW.out _ (HBR.out.trans (hV.mono (Nat.le_trans hsr hBA.size)))).mono hB)).each _ (List.mem_of_getElem? HXL.out)) (Nat.le_trans hB (HBW.out _ (HBR.out.trans (hV.mono (Nat.le_trans hsr hBA.size)))).size))
      clear d0 d1 d2 d3 d4 d5 d6 d7 d8 d9 hT hBw hBA b5
      cases hr0 : right ⟨x0, x1, x2, x3, x4, x5, x6, x7, x8, ats⟩
      · rw [hr0] at RSC
        have HOF : Hid (okS th tl ⟨x0, x1, x2, x3, x4, x5, x6, x7, x8, ats⟩ = false) := Lib.hid (by unfold okS; rw [hr0]; rfl)
        clear hr0
        refine PI.wp_region_persG (R := (fun w w' => Below w.heap.size w w')) (G := fun _ _ => True) (I := fun _ _ _ => True) [(1, 0), (3, 1), (3, 2), (4, 3), (5, 4), (6, 5), (7, 6), (8, 7), (9, 7), (10, 7), (11, 7), (12, 7), (13, 7), (14, 7), (15, 7), (16, 7), (17, 7)] [17] (by kernel_rfl) (PI.formed_of (by kernel_rfl)) ⟨fun w => Below.refl _ w, fun _ _ _ h k => h.trans (k.mono h.size)⟩ (fun _ => trivial) (DeB aa n c w.heap.size k th tl x0 x1 x2 x3 x4 x5 x6 x7 x8 xA m xc) trivial ?_ ?_
        · rw [← hW]
          intro i o ho
          rcases i with _ | _ | _ | _ | _ | _ | _ | _ | _ | _ | _ | _ | _ | _ | _ | _ | _ | _ | i
          · obtain rfl := Option.some.inj (show some _ = some o from ho)
            refine PI.shown_val rfl fun a w5 L0 hr T => ?_
            have h1 : a.eval (.tmp 1) = .pointer (some ⟨w.heap.size, 0, none⟩) := T.was 1 (by kernel_rfl)
            exact ⟨.pointer (some ⟨w.heap.size, 5, none⟩), w5, by simp only [execOp, h1]; simp [go_sem], PI.Post.pure ⟨fun w => Below.refl _ w, fun _ _ _ h k => h.trans (k.mono h.size)⟩ rfl trivial⟩
          · obtain rfl := Option.some.inj (show some _ = some o from ho)
            refine PI.shown_val rfl fun a w5 L0 hr T => ?_
            have h1 : a.eval (.tmp 28) = .pointer (some ⟨w.heap.size, 5, none⟩) := T.at_ 0 28 (by kernel_rfl) (by kernel_rfl) (by kernel_rfl)
            have gb := (SS.out w5 hr).2.2.2
            exact ⟨.slice (some aa) n c, w5, by simp only [execOp, h1]; simp [go_sem, gb], PI.Post.pure ⟨fun w => Below.refl _ w, fun _ _ _ h k => h.trans (k.mono h.size)⟩ rfl trivial⟩
          · obtain rfl := Option.some.inj (show some _ = some o from ho)
            refine PI.shown_val rfl fun a w5 L0 hr T => ?_
            have h1 : a.eval (.tmp 3) = .int .i64 (k : Int) := T.was 3 (by kernel_rfl)
            exact ⟨.int .i64 (k : Int), w5, by simp only [execOp, h1]; simp [go_sem], PI.Post.pure ⟨fun w => Below.refl _ w, fun _ _ _ h k => h.trans (k.mono h.size)⟩ rfl trivial⟩
          · obtain rfl := Option.some.inj (show some _ = some o from ho)
            refine PI.shown_val rfl fun a w5 L0 hr T => ?_
            have h1 : a.eval (.tmp 29) = .slice (some aa) n c := T.at_ 1 29 (by kernel_rfl) (by kernel_rfl) (by kernel_rfl)
            have h2 : a.eval (.tmp 30) = .int .i64 (k : Int) := T.at_ 2 30 (by kernel_rfl) (by kernel_rfl) (by kernel_rfl)
            exact ⟨.pointer (some (aa.add (k * 10))), w5, by simp only [execOp, h1, h2]; simp [go_sem, Act.eval, p0, p1], PI.Post.pure ⟨fun w => Below.refl _ w, fun _ _ _ h k => h.trans (k.mono h.size)⟩ rfl trivial⟩
          · obtain rfl := Option.some.inj (show some _ = some o from ho)
            refine PI.shown_val rfl fun a w5 L0 hr T => ?_
            have h1 : a.eval (.tmp 31) = .pointer (some (aa.add (k * 10))) := T.at_ 3 31 (by kernel_rfl) (by kernel_rfl) (by kernel_rfl)
            have g0 := (SS.out w5 hr).1.1
            have g1 := (SS.out w5 hr).1.2.1
            have g2 := (SS.out w5 hr).1.2.2.1
            have g3 := (SS.out w5 hr).1.2.2.2.1
            have g4 := (SS.out w5 hr).1.2.2.2.2.1
            have g5 := (SS.out w5 hr).1.2.2.2.2.2.1
            have g6 := (SS.out w5 hr).1.2.2.2.2.2.2.1
            have g7 := (SS.out w5 hr).1.2.2.2.2.2.2.2.1
            have g8 := (SS.out w5 hr).1.2.2.2.2.2.2.2.2.1
            have g9 := (SS.out w5 hr).1.2.2.2.2.2.2.2.2.2
            exact ⟨.agg #[.int .u64 x0, .int .u64 x1, .int .u64 x2, .int .u64 x3, .string x4, .string x5, .int .i64 x6, .int .i64 x7, .bool x8, .slice xA m xc], w5, by simp only [execOp, h1]; simp [go_sem, g0, g1, g2, g3, g4, g5, g6, g7, g8, g9], PI.Post.pure ⟨fun w => Below.refl _ w, fun _ _ _ h k => h.trans (k.mono h.size)⟩ rfl trivial⟩
          · obtain rfl := Option.some.inj (show some _ = some o from ho)
            refine PI.shown_call rfl 72 fun a w5 L0 hr T => ?_
            have h0 : a.eval (.tmp 32) = .agg #[.int .u64 x0, .int .u64 x1, .int .u64 x2, .int .u64 x3, .string x4, .string x5, .int .i64 x6, .int .i64 x7, .bool x8, .slice xA m xc] := T.at_ 4 32 (by kernel_rfl) (by kernel_rfl) (by kernel_rfl)
            refine ⟨#[.agg #[.int .u64 x0, .int .u64 x1, .int .u64 x2, .int .u64 x3, .string x4, .string x5, .int .i64 x6, .int .i64 x7, .bool x8, .slice xA m xc]], by simp only [execOp, resolve, List.map_toArray, List.map_cons, List.map_nil, h0]; simp [go_sem, Act.eval], ?_⟩
            refine (RSC.out w5 hr).mono fun e w6 hh => ?_
            obtain ⟨rfl, hb6⟩ := hh
            exact ⟨_, rfl, hb6, rfl, fun _ _ h => h, fun j v _ _ _ _ h => DeB.keep h, trivial⟩
          · obtain rfl := Option.some.inj (show some _ = some o from ho)
            refine PI.shown_val rfl fun a w5 L0 hr T => ?_
            have h1 : a.eval (.tmp 33) = .bool false := T.at_ 5 33 (by kernel_rfl) (by kernel_rfl) (by kernel_rfl)
            exact ⟨.bool true, w5, by simp only [execOp, h1]; simp [go_sem], PI.Post.pure ⟨fun w => Below.refl _ w, fun _ _ _ h k => h.trans (k.mono h.size)⟩ rfl trivial⟩
          · obtain rfl := Option.some.inj (show some _ = some o from ho)
            refine PI.shown_val rfl fun a w5 L0 hr T => ?_
            have h1 : a.eval (.tmp 34) = .bool true := T.at_ 6 34 (by kernel_rfl) (by kernel_rfl) (by kernel_rfl)
            exact ⟨.bool true, w5, by simp only [execOp, h1]; simp [go_sem], PI.Post.pure ⟨fun w => Below.refl _ w, fun _ _ _ h k => h.trans (k.mono h.size)⟩ rfl trivial⟩
          · obtain rfl := Option.some.inj (show some _ = some o from ho)
            exact PI.shown_not 7 35 false rfl (by kernel_rfl) (by kernel_rfl) (by kernel_rfl) (fun v w h => h) (fun w => rfl) (fun _ _ _ _ => trivial)
          · obtain rfl := Option.some.inj (show some _ = some o from ho)
            exact PI.shown_not 7 35 false rfl (by kernel_rfl) (by kernel_rfl) (by kernel_rfl) (fun v w h => h) (fun w => rfl) (fun _ _ _ _ => trivial)
          · obtain rfl := Option.some.inj (show some _ = some o from ho)
            exact PI.shown_not 7 35 false rfl (by kernel_rfl) (by kernel_rfl) (by kernel_rfl) (fun v w h => h) (fun w => rfl) (fun _ _ _ _ => trivial)
          · obtain rfl := Option.some.inj (show some _ = some o from ho)
            exact PI.shown_not 7 35 false rfl (by kernel_rfl) (by kernel_rfl) (by kernel_rfl) (fun v w h => h) (fun w => rfl) (fun _ _ _ _ => trivial)
          · obtain rfl := Option.some.inj (show some _ = some o from ho)
            exact PI.shown_not 7 35 false rfl (by kernel_rfl) (by kernel_rfl) (by kernel_rfl) (fun v w h => h) (fun w => rfl) (fun _ _ _ _ => trivial)
          · obtain rfl := Option.some.inj (show some _ = some o from ho)
            exact PI.shown_not 7 35 false rfl (by kernel_rfl) (by kernel_rfl) (by kernel_rfl) (fun v w h => h) (fun w => rfl) (fun _ _ _ _ => trivial)
          · obtain rfl := Option.some.inj (show some _ = some o from ho)
            exact PI.shown_not 7 35 false rfl (by kernel_rfl) (by kernel_rfl) (by kernel_rfl) (fun v w h => h) (fun w => rfl) (fun _ _ _ _ => trivial)
          · obtain rfl := Option.some.inj (show some _ = some o from ho)
            exact PI.shown_not 7 35 false rfl (by kernel_rfl) (by kernel_rfl) (by kernel_rfl) (fun v w h => h) (fun w => rfl) (fun _ _ _ _ => trivial)
          · obtain rfl := Option.some.inj (show some _ = some o from ho)
            exact PI.shown_not 7 35 false rfl (by kernel_rfl) (by kernel_rfl) (by kernel_rfl) (fun v w h => h) (fun w => rfl) (fun _ _ _ _ => trivial)
          · obtain rfl := Option.some.inj (show some _ = some o from ho)
            refine PI.shown_val rfl fun a w5 L0 hr T => ?_
            have h0 : a.eval (.tmp 35) = .bool true := T.at_ 7 35 (by kernel_rfl) (by kernel_rfl) (by kernel_rfl)
            exact ⟨.bool true, w5, by simp only [execOp, h0]; simp [go_sem, Act.eval], PI.Post.pure ⟨fun w => Below.refl _ w, fun _ _ _ h k => h.trans (k.mono h.size)⟩ rfl trivial⟩
          · cases ho
        · rw [← hW]
          intro xx w9 hr hf he _
          have h14 := hf 17 _ 45 rfl rfl (by decide)
          have hx14 : xx 17 = .bool true := h14
          have HB9 : Hid (Below (w.heap.size + 1) (w.alloc (.cells #[.int .u64 th, .int .u64 tl, .int .i64 f, .int .i64 la, .bool su, .slice (some aa) n c] 48)) w9) := Lib.hid (HBR.out.trans (hr.mono (Nat.le_trans hsr HBW2.out.size)))
          clear hf he hr h14
          simp only [PI.putAll, Act.put, List.setIfInBounds_toArray, List.set_cons_zero, List.set_cons_succ, Nat.zero_add, Nat.reduceAdd]
          rw [hx14]
          go_wp2_with fail
          go_ret
          exact ⟨by rw [HQ.out, (okSs_bad HXM.out (.inl HOF.out))] <;> rfl, HBW.out _ HB9.out⟩

      rw [hr0] at RSC
      have HR0 := Lib.hid hr0
      clear hr0
      have hcc : (((x0 == th) = false) ∨ ((x0 == th) = true ∧ (x1 == tl) = false)) ∨ ((x0 == th) = true ∧ (x1 == tl) = true) := by
        by_cases h1 : x0 = th <;> by_cases h2 : x1 = tl <;> simp_all
      rcases hcc with (h1 | ⟨h1, h2⟩) | ⟨h1, h2⟩
      · have HOF : Hid (okS th tl ⟨x0, x1, x2, x3, x4, x5, x6, x7, x8, ats⟩ = false) := Lib.hid (by unfold okS; simp only; rw [decide_eq_false (show ¬ x0 = th by simpa using h1)]; simp)
        have hz1 : ¬ x0 = th := by simpa using h1
        refine PI.wp_region_persG (R := (fun w w' => Below w.heap.size w w')) (G := fun _ _ => True) (I := fun _ _ _ => True) [(1, 0), (3, 1), (3, 2), (4, 3), (5, 4), (6, 5), (7, 6), (8, 7), (9, 7), (9, 8), (10, 7), (11, 7), (11, 9), (11, 10), (12, 7), (12, 11), (13, 7), (13, 12), (14, 7), (15, 7), (15, 14), (16, 7), (16, 13), (16, 15), (17, 7), (17, 16)] [17] (by kernel_rfl) (PI.formed_of (by kernel_rfl)) ⟨fun w => Below.refl _ w, fun _ _ _ h k => h.trans (k.mono h.size)⟩ (fun _ => trivial) (DeN aa n c w.heap.size k th tl x0 x1 x2 x3 x4 x5 x6 x7 x8 xA m xc) trivial ?_ ?_
        · rw [← hW]
          intro i o ho
          rcases i with _ | _ | _ | _ | _ | _ | _ | _ | _ | _ | _ | _ | _ | _ | _ | _ | _ | _ | i
          · obtain rfl := Option.some.inj (show some _ = some o from ho)
            refine PI.shown_val rfl fun a w5 L0 hr T => ?_
            have h1 : a.eval (.tmp 1) = .pointer (some ⟨w.heap.size, 0, none⟩) := T.was 1 (by kernel_rfl)
            exact ⟨.pointer (some ⟨w.heap.size, 5, none⟩), w5, by simp only [execOp, h1]; simp [go_sem], PI.Post.pure ⟨fun w => Below.refl _ w, fun _ _ _ h k => h.trans (k.mono h.size)⟩ rfl trivial⟩
          · obtain rfl := Option.some.inj (show some _ = some o from ho)
            refine PI.shown_val rfl fun a w5 L0 hr T => ?_
            have h1 : a.eval (.tmp 28) = .pointer (some ⟨w.heap.size, 5, none⟩) := T.at_ 0 28 (by kernel_rfl) (by kernel_rfl) (by kernel_rfl)
            have gb := (SS.out w5 hr).2.2.2
            exact ⟨.slice (some aa) n c, w5, by simp only [execOp, h1]; simp [go_sem, gb], PI.Post.pure ⟨fun w => Below.refl _ w, fun _ _ _ h k => h.trans (k.mono h.size)⟩ rfl trivial⟩
          · obtain rfl := Option.some.inj (show some _ = some o from ho)
            refine PI.shown_val rfl fun a w5 L0 hr T => ?_
            have h1 : a.eval (.tmp 3) = .int .i64 (k : Int) := T.was 3 (by kernel_rfl)
            exact ⟨.int .i64 (k : Int), w5, by simp only [execOp, h1]; simp [go_sem], PI.Post.pure ⟨fun w => Below.refl _ w, fun _ _ _ h k => h.trans (k.mono h.size)⟩ rfl trivial⟩
          · obtain rfl := Option.some.inj (show some _ = some o from ho)
            refine PI.shown_val rfl fun a w5 L0 hr T => ?_
            have h1 : a.eval (.tmp 29) = .slice (some aa) n c := T.at_ 1 29 (by kernel_rfl) (by kernel_rfl) (by kernel_rfl)
            have h2 : a.eval (.tmp 30) = .int .i64 (k : Int) := T.at_ 2 30 (by kernel_rfl) (by kernel_rfl) (by kernel_rfl)
            exact ⟨.pointer (some (aa.add (k * 10))), w5, by simp only [execOp, h1, h2]; simp [go_sem, Act.eval, p0, p1], PI.Post.pure ⟨fun w => Below.refl _ w, fun _ _ _ h k => h.trans (k.mono h.size)⟩ rfl trivial⟩
          · obtain rfl := Option.some.inj (show some _ = some o from ho)
            refine PI.shown_val rfl fun a w5 L0 hr T => ?_
            have h1 : a.eval (.tmp 31) = .pointer (some (aa.add (k * 10))) := T.at_ 3 31 (by kernel_rfl) (by kernel_rfl) (by kernel_rfl)
            have g0 := (SS.out w5 hr).1.1
            have g1 := (SS.out w5 hr).1.2.1
            have g2 := (SS.out w5 hr).1.2.2.1
            have g3 := (SS.out w5 hr).1.2.2.2.1
            have g4 := (SS.out w5 hr).1.2.2.2.2.1
            have g5 := (SS.out w5 hr).1.2.2.2.2.2.1
            have g6 := (SS.out w5 hr).1.2.2.2.2.2.2.1
            have g7 := (SS.out w5 hr).1.2.2.2.2.2.2.2.1
            have g8 := (SS.out w5 hr).1.2.2.2.2.2.2.2.2.1
            have g9 := (SS.out w5 hr).1.2.2.2.2.2.2.2.2.2
            exact ⟨.agg #[.int .u64 x0, .int .u64 x1, .int .u64 x2, .int .u64 x3, .string x4, .string x5, .int .i64 x6, .int .i64 x7, .bool x8, .slice xA m xc], w5, by simp only [execOp, h1]; simp [go_sem, g0, g1, g2, g3, g4, g5, g6, g7, g8, g9], PI.Post.pure ⟨fun w => Below.refl _ w, fun _ _ _ h k => h.trans (k.mono h.size)⟩ rfl trivial⟩
          · obtain rfl := Option.some.inj (show some _ = some o from ho)
            refine PI.shown_call rfl 72 fun a w5 L0 hr T => ?_
            have h0 : a.eval (.tmp 32) = .agg #[.int .u64 x0, .int .u64 x1, .int .u64 x2, .int .u64 x3, .string x4, .string x5, .int .i64 x6, .int .i64 x7, .bool x8, .slice xA m xc] := T.at_ 4 32 (by kernel_rfl) (by kernel_rfl) (by kernel_rfl)
            refine ⟨#[.agg #[.int .u64 x0, .int .u64 x1, .int .u64 x2, .int .u64 x3, .string x4, .string x5, .int .i64 x6, .int .i64 x7, .bool x8, .slice xA m xc]], by simp only [execOp, resolve, List.map_toArray, List.map_cons, List.map_nil, h0]; simp [go_sem, Act.eval], ?_⟩
            refine (RSC.out w5 hr).mono fun e w6 hh => ?_
            obtain ⟨rfl, hb6⟩ := hh
            exact ⟨_, rfl, hb6, rfl, fun _ _ h => h, fun j v _ _ _ _ h => DeN.keep h, trivial⟩
          · obtain rfl := Option.some.inj (show some _ = some o from ho)
            refine PI.shown_val rfl fun a w5 L0 hr T => ?_
            have h1 : a.eval (.tmp 33) = .bool true := T.at_ 5 33 (by kernel_rfl) (by kernel_rfl) (by kernel_rfl)
            exact ⟨.bool false, w5, by simp only [execOp, h1]; simp [go_sem], PI.Post.pure ⟨fun w => Below.refl _ w, fun _ _ _ h k => h.trans (k.mono h.size)⟩ rfl trivial⟩
          · obtain rfl := Option.some.inj (show some _ = some o from ho)
            refine PI.shown_val rfl fun a w5 L0 hr T => ?_
            have h1 : a.eval (.tmp 34) = .bool false := T.at_ 6 34 (by kernel_rfl) (by kernel_rfl) (by kernel_rfl)
            exact ⟨.bool false, w5, by simp only [execOp, h1]; simp [go_sem], PI.Post.pure ⟨fun w => Below.refl _ w, fun _ _ _ h k => h.trans (k.mono h.size)⟩ rfl trivial⟩
          · obtain rfl := Option.some.inj (show some _ = some o from ho)
            refine PI.shown_val_if 7 35 false rfl (by kernel_rfl) (by kernel_rfl) (by kernel_rfl) (fun v w h => h) fun a w5 L0 hr T => ?_
            have h1 : a.eval (.tmp 1) = .pointer (some ⟨w.heap.size, 0, none⟩) := T.was 1 (by kernel_rfl)
            exact ⟨.pointer (some ⟨w.heap.size, 5, none⟩), w5, by simp only [execOp, h1]; simp [go_sem], PI.Post.pure ⟨fun w => Below.refl _ w, fun _ _ _ h k => h.trans (k.mono h.size)⟩ rfl trivial⟩
          · obtain rfl := Option.some.inj (show some _ = some o from ho)
            refine PI.shown_val_if 7 35 false rfl (by kernel_rfl) (by kernel_rfl) (by kernel_rfl) (fun v w h => h) fun a w5 L0 hr T => ?_
            have h1 : a.eval (.tmp 36) = .pointer (some ⟨w.heap.size, 5, none⟩) := T.at_ 8 36 (by kernel_rfl) (by kernel_rfl) (by kernel_rfl)
            have gb := (SS.out w5 hr).2.2.2
            exact ⟨.slice (some aa) n c, w5, by simp only [execOp, h1]; simp [go_sem, gb], PI.Post.pure ⟨fun w => Below.refl _ w, fun _ _ _ h k => h.trans (k.mono h.size)⟩ rfl trivial⟩
          · obtain rfl := Option.some.inj (show some _ = some o from ho)
            refine PI.shown_val_if 7 35 false rfl (by kernel_rfl) (by kernel_rfl) (by kernel_rfl) (fun v w h => h) fun a w5 L0 hr T => ?_
            have h1 : a.eval (.tmp 3) = .int .i64 (k : Int) := T.was 3 (by kernel_rfl)
            exact ⟨.int .i64 (k : Int), w5, by simp only [execOp, h1]; simp [go_sem], PI.Post.pure ⟨fun w => Below.refl _ w, fun _ _ _ h k => h.trans (k.mono h.size)⟩ rfl trivial⟩
          · obtain rfl := Option.some.inj (show some _ = some o from ho)
            refine PI.shown_val_if 7 35 false rfl (by kernel_rfl) (by kernel_rfl) (by kernel_rfl) (fun v w h => h) fun a w5 L0 hr T => ?_
            have h1 : a.eval (.tmp 37) = .slice (some aa) n c := T.at_ 9 37 (by kernel_rfl) (by kernel_rfl) (by kernel_rfl)
            have h2 : a.eval (.tmp 38) = .int .i64 (k : Int) := T.at_ 10 38 (by kernel_rfl) (by kernel_rfl) (by kernel_rfl)
            exact ⟨.pointer (some (aa.add (k * 10))), w5, by simp only [execOp, h1, h2]; simp [go_sem, Act.eval, p0, p1], PI.Post.pure ⟨fun w => Below.refl _ w, fun _ _ _ h k => h.trans (k.mono h.size)⟩ rfl trivial⟩
          · obtain rfl := Option.some.inj (show some _ = some o from ho)
            refine PI.shown_val_if 7 35 false rfl (by kernel_rfl) (by kernel_rfl) (by kernel_rfl) (fun v w h => h) fun a w5 L0 hr T => ?_
            have h1 : a.eval (.tmp 39) = .pointer (some (aa.add (k * 10))) := T.at_ 11 39 (by kernel_rfl) (by kernel_rfl) (by kernel_rfl)
            exact ⟨.pointer (some (aa.add (k * 10))), w5, by simp only [execOp, h1]; simp [go_sem], PI.Post.pure ⟨fun w => Below.refl _ w, fun _ _ _ h k => h.trans (k.mono h.size)⟩ rfl trivial⟩
          · obtain rfl := Option.some.inj (show some _ = some o from ho)
            refine PI.shown_val_if 7 35 false rfl (by kernel_rfl) (by kernel_rfl) (by kernel_rfl) (fun v w h => h) fun a w5 L0 hr T => ?_
            have h1 : a.eval (.tmp 40) = .pointer (some (aa.add (k * 10))) := T.at_ 12 40 (by kernel_rfl) (by kernel_rfl) (by kernel_rfl)
            have g0 := (SS.out w5 hr).1.1
            have g1 := (SS.out w5 hr).1.2.1
            exact ⟨.agg #[.int .u64 x0, .int .u64 x1], w5, by simp only [execOp, h1]; simp [go_sem, g0, g1], PI.Post.pure ⟨fun w => Below.refl _ w, fun _ _ _ h k => h.trans (k.mono h.size)⟩ rfl trivial⟩
          · obtain rfl := Option.some.inj (show some _ = some o from ho)
            refine PI.shown_val_if 7 35 false rfl (by kernel_rfl) (by kernel_rfl) (by kernel_rfl) (fun v w h => h) fun a w5 L0 hr T => ?_
            have h1 : a.eval (.tmp 1) = .pointer (some ⟨w.heap.size, 0, none⟩) := T.was 1 (by kernel_rfl)
            exact ⟨.pointer (some ⟨w.heap.size, 0, none⟩), w5, by simp only [execOp, h1]; simp [go_sem], PI.Post.pure ⟨fun w => Below.refl _ w, fun _ _ _ h k => h.trans (k.mono h.size)⟩ rfl trivial⟩
          · obtain rfl := Option.some.inj (show some _ = some o from ho)
            refine PI.shown_val_if 7 35 false rfl (by kernel_rfl) (by kernel_rfl) (by kernel_rfl) (fun v w h => h) fun a w5 L0 hr T => ?_
            have h1 : a.eval (.tmp 42) = .pointer (some ⟨w.heap.size, 0, none⟩) := T.at_ 14 42 (by kernel_rfl) (by kernel_rfl) (by kernel_rfl)
            have q0 := (SS.out w5 hr).2.1
            have q1 := (SS.out w5 hr).2.2.1
            exact ⟨.agg #[.int .u64 th, .int .u64 tl], w5, by simp only [execOp, h1]; simp [go_sem, q0, q1], PI.Post.pure ⟨fun w => Below.refl _ w, fun _ _ _ h k => h.trans (k.mono h.size)⟩ rfl trivial⟩
          · obtain rfl := Option.some.inj (show some _ = some o from ho)
            refine PI.shown_val_if 7 35 false rfl (by kernel_rfl) (by kernel_rfl) (by kernel_rfl) (fun v w h => h) fun a w5 L0 hr T => ?_
            have h1 : a.eval (.tmp 41) = .agg #[.int .u64 x0, .int .u64 x1] := T.at_ 13 41 (by kernel_rfl) (by kernel_rfl) (by kernel_rfl)
            have h2 : a.eval (.tmp 43) = .agg #[.int .u64 th, .int .u64 tl] := T.at_ 15 43 (by kernel_rfl) (by kernel_rfl) (by kernel_rfl)
            exact ⟨.bool true, w5, by simp only [execOp, h1, h2]; simp [go_sem, Act.eval, hz1], PI.Post.pure ⟨fun w => Below.refl _ w, fun _ _ _ h k => h.trans (k.mono h.size)⟩ rfl trivial⟩
          · obtain rfl := Option.some.inj (show some _ = some o from ho)
            refine PI.shown_val rfl fun a w5 L0 hr T => ?_
            have h0 : a.eval (.tmp 35) = .bool false := T.at_ 7 35 (by kernel_rfl) (by kernel_rfl) (by kernel_rfl)
            have h2 : a.eval (.tmp 44) = .bool true := T.at_ 16 44 (by kernel_rfl) (by kernel_rfl) (by kernel_rfl)
            exact ⟨.bool true, w5, by simp only [execOp, h0, h2]; simp [go_sem, Act.eval], PI.Post.pure ⟨fun w => Below.refl _ w, fun _ _ _ h k => h.trans (k.mono h.size)⟩ rfl trivial⟩
          · cases ho
        · rw [← hW]
          intro xx w9 hr hf he _
          have h14 := hf 17 _ 45 rfl rfl (by decide)
          have hx14 : xx 17 = .bool true := h14
          have HB9 : Hid (Below (w.heap.size + 1) (w.alloc (.cells #[.int .u64 th, .int .u64 tl, .int .i64 f, .int .i64 la, .bool su, .slice (some aa) n c] 48)) w9) := Lib.hid (HBR.out.trans (hr.mono (Nat.le_trans hsr HBW2.out.size)))
          clear hf he hr h14
          simp only [PI.putAll, Act.put, List.setIfInBounds_toArray, List.set_cons_zero, List.set_cons_succ, Nat.zero_add, Nat.reduceAdd]
          rw [hx14]
          go_wp2_with fail
          go_ret
          exact ⟨by rw [HQ.out, (okSs_bad HXM.out (.inl HOF.out))] <;> rfl, HBW.out _ HB9.out⟩

      · have HOF : Hid (okS th tl ⟨x0, x1, x2, x3, x4, x5, x6, x7, x8, ats⟩ = false) := Lib.hid (by unfold okS; simp only; rw [decide_eq_false (show ¬ x1 = tl by simpa using h2)]; simp)
        have hz1 : x0 = th := by simpa using h1
        have hz2 : ¬ x1 = tl := by simpa using h2
        refine PI.wp_region_persG (R := (fun w w' => Below w.heap.size w w')) (G := fun _ _ => True) (I := fun _ _ _ => True) [(1, 0), (3, 1), (3, 2), (4, 3), (5, 4), (6, 5), (7, 6), (8, 7), (9, 7), (9, 8), (10, 7), (11, 7), (11, 9), (11, 10), (12, 7), (12, 11), (13, 7), (13, 12), (14, 7), (15, 7), (15, 14), (16, 7), (16, 13), (16, 15), (17, 7), (17, 16)] [17] (by kernel_rfl) (PI.formed_of (by kernel_rfl)) ⟨fun w => Below.refl _ w, fun _ _ _ h k => h.trans (k.mono h.size)⟩ (fun _ => trivial) (DeM aa n c w.heap.size k th tl x0 x1 x2 x3 x4 x5 x6 x7 x8 xA m xc) trivial ?_ ?_
        · rw [← hW]
          intro i o ho
          rcases i with _ | _ | _ | _ | _ | _ | _ | _ | _ | _ | _ | _ | _ | _ | _ | _ | _ | _ | i
          · obtain rfl := Option.some.inj (show some _ = some o from ho)
            refine PI.shown_val rfl fun a w5 L0 hr T => ?_
            have h1 : a.eval (.tmp 1) = .pointer (some ⟨w.heap.size, 0, none⟩) := T.was 1 (by kernel_rfl)
            exact ⟨.pointer (some ⟨w.heap.size, 5, none⟩), w5, by simp only [execOp, h1]; simp [go_sem], PI.Post.pure ⟨fun w => Below.refl _ w, fun _ _ _ h k => h.trans (k.mono h.size)⟩ rfl trivial⟩
          · obtain rfl := Option.some.inj (show some _ = some o from ho)
            refine PI.shown_val rfl fun a w5 L0 hr T => ?_
            have h1 : a.eval (.tmp 28) = .pointer (some ⟨w.heap.size, 5, none⟩) := T.at_ 0 28 (by kernel_rfl) (by kernel_rfl) (by kernel_rfl)
            have gb := (SS.out w5 hr).2.2.2
            exact ⟨.slice (some aa) n c, w5, by simp only [execOp, h1]; simp [go_sem, gb], PI.Post.pure ⟨fun w => Below.refl _ w, fun _ _ _ h k => h.trans (k.mono h.size)⟩ rfl trivial⟩
          · obtain rfl := Option.some.inj (show some _ = some o from ho)
            refine PI.shown_val rfl fun a w5 L0 hr T => ?_
            have h1 : a.eval (.tmp 3) = .int .i64 (k : Int) := T.was 3 (by kernel_rfl)
            exact ⟨.int .i64 (k : Int), w5, by simp only [execOp, h1]; simp [go_sem], PI.Post.pure ⟨fun w => Below.refl _ w, fun _ _ _ h k => h.trans (k.mono h.size)⟩ rfl trivial⟩
          · obtain rfl := Option.some.inj (show some _ = some o from ho)
            refine PI.shown_val rfl fun a w5 L0 hr T => ?_
            have h1 : a.eval (.tmp 29) = .slice (some aa) n c := T.at_ 1 29 (by kernel_rfl) (by kernel_rfl) (by kernel_rfl)
            have h2 : a.eval (.tmp 30) = .int .i64 (k : Int) := T.at_ 2 30 (by kernel_rfl) (by kernel_rfl) (by kernel_rfl)
            exact ⟨.pointer (some (aa.add (k * 10))), w5, by simp only [execOp, h1, h2]; simp [go_sem, Act.eval, p0, p1], PI.Post.pure ⟨fun w => Below.refl _ w, fun _ _ _ h k => h.trans (k.mono h.size)⟩ rfl trivial⟩
          · obtain rfl := Option.some.inj (show some _ = some o from ho)
            refine PI.shown_val rfl fun a w5 L0 hr T => ?_
            have h1 : a.eval (.tmp 31) = .pointer (some (aa.add (k * 10))) := T.at_ 3 31 (by kernel_rfl) (by kernel_rfl) (by kernel_rfl)
            have g0 := (SS.out w5 hr).1.1
            have g1 := (SS.out w5 hr).1.2.1
            have g2 := (SS.out w5 hr).1.2.2.1
            have g3 := (SS.out w5 hr).1.2.2.2.1
            have g4 := (SS.out w5 hr).1.2.2.2.2.1
            have g5 := (SS.out w5 hr).1.2.2.2.2.2.1
            have g6 := (SS.out w5 hr).1.2.2.2.2.2.2.1
            have g7 := (SS.out w5 hr).1.2.2.2.2.2.2.2.1
            have g8 := (SS.out w5 hr).1.2.2.2.2.2.2.2.2.1
            have g9 := (SS.out w5 hr).1.2.2.2.2.2.2.2.2.2
            exact ⟨.agg #[.int .u64 x0, .int .u64 x1, .int .u64 x2, .int .u64 x3, .string x4, .string x5, .int .i64 x6, .int .i64 x7, .bool x8, .slice xA m xc], w5, by simp only [execOp, h1]; simp [go_sem, g0, g1, g2, g3, g4, g5, g6, g7, g8, g9], PI.Post.pure ⟨fun w => Below.refl _ w, fun _ _ _ h k => h.trans (k.mono h.size)⟩ rfl trivial⟩
          · obtain rfl := Option.some.inj (show some _ = some o from ho)
            refine PI.shown_call rfl 72 fun a w5 L0 hr T => ?_
            have h0 : a.eval (.tmp 32) = .agg #[.int .u64 x0, .int .u64 x1, .int .u64 x2, .int .u64 x3, .string x4, .string x5, .int .i64 x6, .int .i64 x7, .bool x8, .slice xA m xc] := T.at_ 4 32 (by kernel_rfl) (by kernel_rfl) (by kernel_rfl)
            refine ⟨#[.agg #[.int .u64 x0, .int .u64 x1, .int .u64 x2, .int .u64 x3, .string x4, .string x5, .int .i64 x6, .int .i64 x7, .bool x8, .slice xA m xc]], by simp only [execOp, resolve, List.map_toArray, List.map_cons, List.map_nil, h0]; simp [go_sem, Act.eval], ?_⟩
            refine (RSC.out w5 hr).mono fun e w6 hh => ?_
            obtain ⟨rfl, hb6⟩ := hh
            exact ⟨_, rfl, hb6, rfl, fun _ _ h => h, fun j v _ _ _ _ h => DeM.keep h, trivial⟩
          · obtain rfl := Option.some.inj (show some _ = some o from ho)
            refine PI.shown_val rfl fun a w5 L0 hr T => ?_
            have h1 : a.eval (.tmp 33) = .bool true := T.at_ 5 33 (by kernel_rfl) (by kernel_rfl) (by kernel_rfl)
            exact ⟨.bool false, w5, by simp only [execOp, h1]; simp [go_sem], PI.Post.pure ⟨fun w => Below.refl _ w, fun _ _ _ h k => h.trans (k.mono h.size)⟩ rfl trivial⟩
          · obtain rfl := Option.some.inj (show some _ = some o from ho)
            refine PI.shown_val rfl fun a w5 L0 hr T => ?_
            have h1 : a.eval (.tmp 34) = .bool false := T.at_ 6 34 (by kernel_rfl) (by kernel_rfl) (by kernel_rfl)
            exact ⟨.bool false, w5, by simp only [execOp, h1]; simp [go_sem], PI.Post.pure ⟨fun w => Below.refl _ w, fun _ _ _ h k => h.trans (k.mono h.size)⟩ rfl trivial⟩
          · obtain rfl := Option.some.inj (show some _ = some o from ho)
            refine PI.shown_val_if 7 35 false rfl (by kernel_rfl) (by kernel_rfl) (by kernel_rfl) (fun v w h => h) fun a w5 L0 hr T => ?_
            have h1 : a.eval (.tmp 1) = .pointer (some ⟨w.heap.size, 0, none⟩) := T.was 1 (by kernel_rfl)
            exact ⟨.pointer (some ⟨w.heap.size, 5, none⟩), w5, by simp only [execOp, h1]; simp [go_sem], PI.Post.pure ⟨fun w => Below.refl _ w, fun _ _ _ h k => h.trans (k.mono h.size)⟩ rfl trivial⟩
          · obtain rfl := Option.some.inj (show some _ = some o from ho)
            refine PI.shown_val_if 7 35 false rfl (by kernel_rfl) (by kernel_rfl) (by kernel_rfl) (fun v w h => h) fun a w5 L0 hr T => ?_
            have h1 : a.eval (.tmp 36) = .pointer (some ⟨w.heap.size, 5, none⟩) := T.at_ 8 36 (by kernel_rfl) (by kernel_rfl) (by kernel_rfl)
            have gb := (SS.out w5 hr).2.2.2
            exact ⟨.slice (some aa) n c, w5, by simp only [execOp, h1]; simp [go_sem, gb], PI.Post.pure ⟨fun w => Below.refl _ w, fun _ _ _ h k => h.trans (k.mono h.size)⟩ rfl trivial⟩
          · obtain rfl := Option.some.inj (show some _ = some o from ho)
            refine PI.shown_val_if 7 35 false rfl (by kernel_rfl) (by kernel_rfl) (by kernel_rfl) (fun v w h => h) fun a w5 L0 hr T => ?_
            have h1 : a.eval (.tmp 3) = .int .i64 (k : Int) := T.was 3 (by kernel_rfl)
            exact ⟨.int .i64 (k : Int), w5, by simp only [execOp, h1]; simp [go_sem], PI.Post.pure ⟨fun w => Below.refl _ w, fun _ _ _ h k => h.trans (k.mono h.size)⟩ rfl trivial⟩
          · obtain rfl := Option.some.inj (show some _ = some o from ho)
            refine PI.shown_val_if 7 35 false rfl (by kernel_rfl) (by kernel_rfl) (by kernel_rfl) (fun v w h => h) fun a w5 L0 hr T => ?_
            have h1 : a.eval (.tmp 37) = .slice (some aa) n c := T.at_ 9 37 (by kernel_rfl) (by kernel_rfl) (by kernel_rfl)
            have h2 : a.eval (.tmp 38) = .int .i64 (k : Int) := T.at_ 10 38 (by kernel_rfl) (by kernel_rfl) (by kernel_rfl)
            exact ⟨.pointer (some (aa.add (k * 10))), w5, by simp only [execOp, h1, h2]; simp [go_sem, Act.eval, p0, p1], PI.Post.pure ⟨fun w => Below.refl _ w, fun _ _ _ h k => h.trans (k.mono h.size)⟩ rfl trivial⟩
          · obtain rfl := Option.some.inj (show some _ = some o from ho)
            refine PI.shown_val_if 7 35 false rfl (by kernel_rfl) (by kernel_rfl) (by kernel_rfl) (fun v w h => h) fun a w5 L0 hr T => ?_
            have h1 : a.eval (.tmp 39) = .pointer (some (aa.add (k * 10))) := T.at_ 11 39 (by kernel_rfl) (by kernel_rfl) (by kernel_rfl)
            exact ⟨.pointer (some (aa.add (k * 10))), w5, by simp only [execOp, h1]; simp [go_sem], PI.Post.pure ⟨fun w => Below.refl _ w, fun _ _ _ h k => h.trans (k.mono h.size)⟩ rfl trivial⟩
          · obtain rfl := Option.some.inj (show some _ = some o from ho)
            refine PI.shown_val_if 7 35 false rfl (by kernel_rfl) (by kernel_rfl) (by kernel_rfl) (fun v w h => h) fun a w5 L0 hr T => ?_
            have h1 : a.eval (.tmp 40) = .pointer (some (aa.add (k * 10))) := T.at_ 12 40 (by kernel_rfl) (by kernel_rfl) (by kernel_rfl)
            have g0 := (SS.out w5 hr).1.1
            have g1 := (SS.out w5 hr).1.2.1
            exact ⟨.agg #[.int .u64 x0, .int .u64 x1], w5, by simp only [execOp, h1]; simp [go_sem, g0, g1], PI.Post.pure ⟨fun w => Below.refl _ w, fun _ _ _ h k => h.trans (k.mono h.size)⟩ rfl trivial⟩
          · obtain rfl := Option.some.inj (show some _ = some o from ho)
            refine PI.shown_val_if 7 35 false rfl (by kernel_rfl) (by kernel_rfl) (by kernel_rfl) (fun v w h => h) fun a w5 L0 hr T => ?_
            have h1 : a.eval (.tmp 1) = .pointer (some ⟨w.heap.size, 0, none⟩) := T.was 1 (by kernel_rfl)
            exact ⟨.pointer (some ⟨w.heap.size, 0, none⟩), w5, by simp only [execOp, h1]; simp [go_sem], PI.Post.pure ⟨fun w => Below.refl _ w, fun _ _ _ h k => h.trans (k.mono h.size)⟩ rfl trivial⟩
          · obtain rfl := Option.some.inj (show some _ = some o from ho)
            refine PI.shown_val_if 7 35 false rfl (by kernel_rfl) (by kernel_rfl) (by kernel_rfl) (fun v w h => h) fun a w5 L0 hr T => ?_
            have h1 : a.eval (.tmp 42) = .pointer (some ⟨w.heap.size, 0, none⟩) := T.at_ 14 42 (by kernel_rfl) (by kernel_rfl) (by kernel_rfl)
            have q0 := (SS.out w5 hr).2.1
            have q1 := (SS.out w5 hr).2.2.1
            exact ⟨.agg #[.int .u64 th, .int .u64 tl], w5, by simp only [execOp, h1]; simp [go_sem, q0, q1], PI.Post.pure ⟨fun w => Below.refl _ w, fun _ _ _ h k => h.trans (k.mono h.size)⟩ rfl trivial⟩
          · obtain rfl := Option.some.inj (show some _ = some o from ho)
            refine PI.shown_val_if 7 35 false rfl (by kernel_rfl) (by kernel_rfl) (by kernel_rfl) (fun v w h => h) fun a w5 L0 hr T => ?_
            have h1 : a.eval (.tmp 41) = .agg #[.int .u64 x0, .int .u64 x1] := T.at_ 13 41 (by kernel_rfl) (by kernel_rfl) (by kernel_rfl)
            have h2 : a.eval (.tmp 43) = .agg #[.int .u64 th, .int .u64 tl] := T.at_ 15 43 (by kernel_rfl) (by kernel_rfl) (by kernel_rfl)
            exact ⟨.bool true, w5, by simp only [execOp, h1, h2]; simp [go_sem, Act.eval, hz1, hz2], PI.Post.pure ⟨fun w => Below.refl _ w, fun _ _ _ h k => h.trans (k.mono h.size)⟩ rfl trivial⟩
          · obtain rfl := Option.some.inj (show some _ = some o from ho)
            refine PI.shown_val rfl fun a w5 L0 hr T => ?_
            have h0 : a.eval (.tmp 35) = .bool false := T.at_ 7 35 (by kernel_rfl) (by kernel_rfl) (by kernel_rfl)
            have h2 : a.eval (.tmp 44) = .bool true := T.at_ 16 44 (by kernel_rfl) (by kernel_rfl) (by kernel_rfl)
            exact ⟨.bool true, w5, by simp only [execOp, h0, h2]; simp [go_sem, Act.eval], PI.Post.pure ⟨fun w => Below.refl _ w, fun _ _ _ h k => h.trans (k.mono h.size)⟩ rfl trivial⟩
          · cases ho
        · rw [← hW]
          intro xx w9 hr hf he _
          have h14 := hf 17 _ 45 rfl rfl (by decide)
          have hx14 : xx 17 = .bool true := h14
          have HB9 : Hid (Below (w.heap.size + 1) (w.alloc (.cells #[.int .u64 th, .int .u64 tl, .int .i64 f, .int .i64 la, .bool su, .slice (some aa) n c] 48)) w9) := Lib.hid (HBR.out.trans (hr.mono (Nat.le_trans hsr HBW2.out.size)))
          clear hf he hr h14
          simp only [PI.putAll, Act.put, List.setIfInBounds_toArray, List.set_cons_zero, List.set_cons_succ, Nat.zero_add, Nat.reduceAdd]
          rw [hx14]
          go_wp2_with fail
          go_ret
          exact ⟨by rw [HQ.out, (okSs_bad HXM.out (.inl HOF.out))] <;> rfl, HBW.out _ HB9.out⟩

      · have HOT : Hid (okS th tl ⟨x0, x1, x2, x3, x4, x5, x6, x7, x8, ats⟩ = true) := Lib.hid (by unfold okS; simp only; rw [HR0.out, decide_eq_true (show x0 = th by simpa using h1), decide_eq_true (show x1 = tl by simpa using h2)]; rfl)
        have hz1 : x0 = th := by simpa using h1
        have hz2 : x1 = tl := by simpa using h2
        refine PI.wp_region_persG (R := (fun w w' => Below w.heap.size w w')) (G := fun _ _ => True) (I := fun _ _ _ => True) [(1, 0), (3, 1), (3, 2), (4, 3), (5, 4), (6, 5), (7, 6), (8, 7), (9, 7), (9, 8), (10, 7), (11, 7), (11, 9), (11, 10), (12, 7), (12, 11), (13, 7), (13, 12), (14, 7), (15, 7), (15, 14), (16, 7), (16, 13), (16, 15), (17, 7), (17, 16)] [17] (by kernel_rfl) (PI.formed_of (by kernel_rfl)) ⟨fun w => Below.refl _ w, fun _ _ _ h k => h.trans (k.mono h.size)⟩ (fun _ => trivial) (DeE aa n c w.heap.size k th tl x0 x1 x2 x3 x4 x5 x6 x7 x8 xA m xc) trivial ?_ ?_
        · rw [← hW]
          intro i o ho
          rcases i with _ | _ | _ | _ | _ | _ | _ | _ | _ | _ | _ | _ | _ | _ | _ | _ | _ | _ | i
          · obtain rfl := Option.some.inj (show some _ = some o from ho)
            refine PI.shown_val rfl fun a w5 L0 hr T => ?_
            have h1 : a.eval (.tmp 1) = .pointer (some ⟨w.heap.size, 0, none⟩) := T.was 1 (by kernel_rfl)
            exact ⟨.pointer (some ⟨w.heap.size, 5, none⟩), w5, by simp only [execOp, h1]; simp [go_sem], PI.Post.pure ⟨fun w => Below.refl _ w, fun _ _ _ h k => h.trans (k.mono h.size)⟩ rfl trivial⟩
          · obtain rfl := Option.some.inj (show some _ = some o from ho)
            refine PI.shown_val rfl fun a w5 L0 hr T => ?_
            have h1 : a.eval (.tmp 28) = .pointer (some ⟨w.heap.size, 5, none⟩) := T.at_ 0 28 (by kernel_rfl) (by kernel_rfl) (by kernel_rfl)
            have gb := (SS.out w5 hr).2.2.2
            exact ⟨.slice (some aa) n c, w5, by simp only [execOp, h1]; simp [go_sem, gb], PI.Post.pure ⟨fun w => Below.refl _ w, fun _ _ _ h k => h.trans (k.mono h.size)⟩ rfl trivial⟩
          · obtain rfl := Option.some.inj (show some _ = some o from ho)
            refine PI.shown_val rfl fun a w5 L0 hr T => ?_
            have h1 : a.eval (.tmp 3) = .int .i64 (k : Int) := T.was 3 (by kernel_rfl)
            exact ⟨.int .i64 (k : Int), w5, by simp only [execOp, h1]; simp [go_sem], PI.Post.pure ⟨fun w => Below.refl _ w, fun _ _ _ h k => h.trans (k.mono h.size)⟩ rfl trivial⟩
          · obtain rfl := Option.some.inj (show some _ = some o from ho)
            refine PI.shown_val rfl fun a w5 L0 hr T => ?_
            have h1 : a.eval (.tmp 29) = .slice (some aa) n c := T.at_ 1 29 (by kernel_rfl) (by kernel_rfl) (by kernel_rfl)
            have h2 : a.eval (.tmp 30) = .int .i64 (k : Int) := T.at_ 2 30 (by kernel_rfl) (by kernel_rfl) (by kernel_rfl)
            exact ⟨.pointer (some (aa.add (k * 10))), w5, by simp only [execOp, h1, h2]; simp [go_sem, Act.eval, p0, p1], PI.Post.pure ⟨fun w => Below.refl _ w, fun _ _ _ h k => h.trans (k.mono h.size)⟩ rfl trivial⟩
          · obtain rfl := Option.some.inj (show some _ = some o from ho)
            refine PI.shown_val rfl fun a w5 L0 hr T => ?_
            have h1 : a.eval (.tmp 31) = .pointer (some (aa.add (k * 10))) := T.at_ 3 31 (by kernel_rfl) (by kernel_rfl) (by kernel_rfl)
            have g0 := (SS.out w5 hr).1.1
            have g1 := (SS.out w5 hr).1.2.1
            have g2 := (SS.out w5 hr).1.2.2.1
            have g3 := (SS.out w5 hr).1.2.2.2.1
            have g4 := (SS.out w5 hr).1.2.2.2.2.1
            have g5 := (SS.out w5 hr).1.2.2.2.2.2.1
            have g6 := (SS.out w5 hr).1.2.2.2.2.2.2.1
            have g7 := (SS.out w5 hr).1.2.2.2.2.2.2.2.1
            have g8 := (SS.out w5 hr).1.2.2.2.2.2.2.2.2.1
            have g9 := (SS.out w5 hr).1.2.2.2.2.2.2.2.2.2
            exact ⟨.agg #[.int .u64 x0, .int .u64 x1, .int .u64 x2, .int .u64 x3, .string x4, .string x5, .int .i64 x6, .int .i64 x7, .bool x8, .slice xA m xc], w5, by simp only [execOp, h1]; simp [go_sem, g0, g1, g2, g3, g4, g5, g6, g7, g8, g9], PI.Post.pure ⟨fun w => Below.refl _ w, fun _ _ _ h k => h.trans (k.mono h.size)⟩ rfl trivial⟩
          · obtain rfl := Option.some.inj (show some _ = some o from ho)
            refine PI.shown_call rfl 72 fun a w5 L0 hr T => ?_
            have h0 : a.eval (.tmp 32) = .agg #[.int .u64 x0, .int .u64 x1, .int .u64 x2, .int .u64 x3, .string x4, .string x5, .int .i64 x6, .int .i64 x7, .bool x8, .slice xA m xc] := T.at_ 4 32 (by kernel_rfl) (by kernel_rfl) (by kernel_rfl)
            refine ⟨#[.agg #[.int .u64 x0, .int .u64 x1, .int .u64 x2, .int .u64 x3, .string x4, .string x5, .int .i64 x6, .int .i64 x7, .bool x8, .slice xA m xc]], by simp only [execOp, resolve, List.map_toArray, List.map_cons, List.map_nil, h0]; simp [go_sem, Act.eval], ?_⟩
            refine (RSC.out w5 hr).mono fun e w6 hh => ?_
            obtain ⟨rfl, hb6⟩ := hh
            exact ⟨_, rfl, hb6, rfl, fun _ _ h => h, fun j v _ _ _ _ h => DeE.keep h, trivial⟩
          · obtain rfl := Option.some.inj (show some _ = some o from ho)
            refine PI.shown_val rfl fun a w5 L0 hr T => ?_
            have h1 : a.eval (.tmp 33) = .bool true := T.at_ 5 33 (by kernel_rfl) (by kernel_rfl) (by kernel_rfl)
            exact ⟨.bool false, w5, by simp only [execOp, h1]; simp [go_sem], PI.Post.pure ⟨fun w => Below.refl _ w, fun _ _ _ h k => h.trans (k.mono h.size)⟩ rfl trivial⟩
          · obtain rfl := Option.some.inj (show some _ = some o from ho)
            refine PI.shown_val rfl fun a w5 L0 hr T => ?_
            have h1 : a.eval (.tmp 34) = .bool false := T.at_ 6 34 (by kernel_rfl) (by kernel_rfl) (by kernel_rfl)
            exact ⟨.bool false, w5, by simp only [execOp, h1]; simp [go_sem], PI.Post.pure ⟨fun w => Below.refl _ w, fun _ _ _ h k => h.trans (k.mono h.size)⟩ rfl trivial⟩
          · obtain rfl := Option.some.inj (show some _ = some o from ho)
            refine PI.shown_val_if 7 35 false rfl (by kernel_rfl) (by kernel_rfl) (by kernel_rfl) (fun v w h => h) fun a w5 L0 hr T => ?_
            have h1 : a.eval (.tmp 1) = .pointer (some ⟨w.heap.size, 0, none⟩) := T.was 1 (by kernel_rfl)
            exact ⟨.pointer (some ⟨w.heap.size, 5, none⟩), w5, by simp only [execOp, h1]; simp [go_sem], PI.Post.pure ⟨fun w => Below.refl _ w, fun _ _ _ h k => h.trans (k.mono h.size)⟩ rfl trivial⟩
          · obtain rfl := Option.some.inj (show some _ = some o from ho)
            refine PI.shown_val_if 7 35 false rfl (by kernel_rfl) (by kernel_rfl) (by kernel_rfl) (fun v w h => h) fun a w5 L0 hr T => ?_
            have h1 : a.eval (.tmp 36) = .pointer (some ⟨w.heap.size, 5, none⟩) := T.at_ 8 36 (by kernel_rfl) (by kernel_rfl) (by kernel_rfl)
            have gb := (SS.out w5 hr).2.2.2
            exact ⟨.slice (some aa) n c, w5, by simp only [execOp, h1]; simp [go_sem, gb], PI.Post.pure ⟨fun w => Below.refl _ w, fun _ _ _ h k => h.trans (k.mono h.size)⟩ rfl trivial⟩
          · obtain rfl := Option.some.inj (show some _ = some o from ho)
            refine PI.shown_val_if 7 35 false rfl (by kernel_rfl) (by kernel_rfl) (by kernel_rfl) (fun v w h => h) fun a w5 L0 hr T => ?_
            have h1 : a.eval (.tmp 3) = .int .i64 (k : Int) := T.was 3 (by kernel_rfl)
            exact ⟨.int .i64 (k : Int), w5, by simp only [execOp, h1]; simp [go_sem], PI.Post.pure ⟨fun w => Below.refl _ w, fun _ _ _ h k => h.trans (k.mono h.size)⟩ rfl trivial⟩
          · obtain rfl := Option.some.inj (show some _ = some o from ho)
            refine PI.shown_val_if 7 35 false rfl (by kernel_rfl) (by kernel_rfl) (by kernel_rfl) (fun v w h => h) fun a w5 L0 hr T => ?_
            have h1 : a.eval (.tmp 37) = .slice (some aa) n c := T.at_ 9 37 (by kernel_rfl) (by kernel_rfl) (by kernel_rfl)
            have h2 : a.eval (.tmp 38) = .int .i64 (k : Int) := T.at_ 10 38 (by kernel_rfl) (by kernel_rfl) (by kernel_rfl)
            exact ⟨.pointer (some (aa.add (k * 10))), w5, by simp only [execOp, h1, h2]; simp [go_sem, Act.eval, p0, p1], PI.Post.pure ⟨fun w => Below.refl _ w, fun _ _ _ h k => h.trans (k.mono h.size)⟩ rfl trivial⟩
          · obtain rfl := Option.some.inj (show some _ = some o from ho)
            refine PI.shown_val_if 7 35 false rfl (by kernel_rfl) (by kernel_rfl) (by kernel_rfl) (fun v w h => h) fun a w5 L0 hr T => ?_
            have h1 : a.eval (.tmp 39) = .pointer (some (aa.add (k * 10))) := T.at_ 11 39 (by kernel_rfl) (by kernel_rfl) (by kernel_rfl)
            exact ⟨.pointer (some (aa.add (k * 10))), w5, by simp only [execOp, h1]; simp [go_sem], PI.Post.pure ⟨fun w => Below.refl _ w, fun _ _ _ h k => h.trans (k.mono h.size)⟩ rfl trivial⟩
          · obtain rfl := Option.some.inj (show some _ = some o from ho)
            refine PI.shown_val_if 7 35 false rfl (by kernel_rfl) (by kernel_rfl) (by kernel_rfl) (fun v w h => h) fun a w5 L0 hr T => ?_
            have h1 : a.eval (.tmp 40) = .pointer (some (aa.add (k * 10))) := T.at_ 12 40 (by kernel_rfl) (by kernel_rfl) (by kernel_rfl)
            have g0 := (SS.out w5 hr).1.1
            have g1 := (SS.out w5 hr).1.2.1
            exact ⟨.agg #[.int .u64 x0, .int .u64 x1], w5, by simp only [execOp, h1]; simp [go_sem, g0, g1], PI.Post.pure ⟨fun w => Below.refl _ w, fun _ _ _ h k => h.trans (k.mono h.size)⟩ rfl trivial⟩
          · obtain rfl := Option.some.inj (show some _ = some o from ho)
            refine PI.shown_val_if 7 35 false rfl (by kernel_rfl) (by kernel_rfl) (by kernel_rfl) (fun v w h => h) fun a w5 L0 hr T => ?_
            have h1 : a.eval (.tmp 1) = .pointer (some ⟨w.heap.size, 0, none⟩) := T.was 1 (by kernel_rfl)
            exact ⟨.pointer (some ⟨w.heap.size, 0, none⟩), w5, by simp only [execOp, h1]; simp [go_sem], PI.Post.pure ⟨fun w => Below.refl _ w, fun _ _ _ h k => h.trans (k.mono h.size)⟩ rfl trivial⟩
          · obtain rfl := Option.some.inj (show some _ = some o from ho)
            refine PI.shown_val_if 7 35 false rfl (by kernel_rfl) (by kernel_rfl) (by kernel_rfl) (fun v w h => h) fun a w5 L0 hr T => ?_
            have h1 : a.eval (.tmp 42) = .pointer (some ⟨w.heap.size, 0, none⟩) := T.at_ 14 42 (by kernel_rfl) (by kernel_rfl) (by kernel_rfl)
            have q0 := (SS.out w5 hr).2.1
            have q1 := (SS.out w5 hr).2.2.1
            exact ⟨.agg #[.int .u64 th, .int .u64 tl], w5, by simp only [execOp, h1]; simp [go_sem, q0, q1], PI.Post.pure ⟨fun w => Below.refl _ w, fun _ _ _ h k => h.trans (k.mono h.size)⟩ rfl trivial⟩
          · obtain rfl := Option.some.inj (show some _ = some o from ho)
            refine PI.shown_val_if 7 35 false rfl (by kernel_rfl) (by kernel_rfl) (by kernel_rfl) (fun v w h => h) fun a w5 L0 hr T => ?_
            have h1 : a.eval (.tmp 41) = .agg #[.int .u64 x0, .int .u64 x1] := T.at_ 13 41 (by kernel_rfl) (by kernel_rfl) (by kernel_rfl)
            have h2 : a.eval (.tmp 43) = .agg #[.int .u64 th, .int .u64 tl] := T.at_ 15 43 (by kernel_rfl) (by kernel_rfl) (by kernel_rfl)
            exact ⟨.bool false, w5, by simp only [execOp, h1, h2]; simp [go_sem, Act.eval, hz1, hz2], PI.Post.pure ⟨fun w => Below.refl _ w, fun _ _ _ h k => h.trans (k.mono h.size)⟩ rfl trivial⟩
          · obtain rfl := Option.some.inj (show some _ = some o from ho)
            refine PI.shown_val rfl fun a w5 L0 hr T => ?_
            have h0 : a.eval (.tmp 35) = .bool false := T.at_ 7 35 (by kernel_rfl) (by kernel_rfl) (by kernel_rfl)
            have h2 : a.eval (.tmp 44) = .bool false := T.at_ 16 44 (by kernel_rfl) (by kernel_rfl) (by kernel_rfl)
            exact ⟨.bool false, w5, by simp only [execOp, h0, h2]; simp [go_sem, Act.eval], PI.Post.pure ⟨fun w => Below.refl _ w, fun _ _ _ h k => h.trans (k.mono h.size)⟩ rfl trivial⟩
          · cases ho
        · rw [← hW]
          intro xx w9 hr hf he _
          have h14 := hf 17 _ 45 rfl rfl (by decide)
          have hx14 : xx 17 = .bool false := h14
          have HB9 : Hid (Below (w.heap.size + 1) (w.alloc (.cells #[.int .u64 th, .int .u64 tl, .int .i64 f, .int .i64 la, .bool su, .slice (some aa) n c] 48)) w9) := Lib.hid (HBR.out.trans (hr.mono (Nat.le_trans hsr HBW2.out.size)))
          clear hf he hr h14
          simp only [PI.putAll, Act.put, List.setIfInBounds_toArray, List.set_cons_zero, List.set_cons_succ, Nat.zero_add, Nat.reduceAdd]
          rw [hx14]
          clear h1 h2 hz1 hz2 SS RSC HSV
          go_wp2_with fail
          generalize w9 = wz at *
          go_loopw [4] (fun jv wr => ∃ j : Nat, jv = .int .i64 (j : Int) ∧ j ≤ k ∧ Hid (x2 ∉ ((l.map Ls.s).take j).map Sp.id) ∧ Hid (Below (w.heap.size + 1) (w.alloc (.cells #[.int .u64 th, .int .u64 tl, .int .i64 f, .int .i64 la, .bool su, .slice (some aa) n c] 48)) wr)) (fun jv _ => k - (intOf jv).toNat)
          case atStart => exact ⟨0, rfl, Nat.zero_le _, Lib.hid (by simp), HB9⟩
          case round =>
            clear HB9
            obtain ⟨j, rfl, hj, HJ, HB⟩ := hrel
            obtain ⟨hT, hsr⟩ := HTB.out _ HB.out
            by_cases hjk : j < k
            · obtain ⟨z, hz⟩ : ∃ z, l[j]? = some z := ⟨_, List.getElem?_eq_getElem (by rw [← HN.out]; omega)⟩
              have hR := HY.out.below ((HBW.out _ HB.out).mono hB)
              obtain ⟨a3, ha3, _, hc3, _⟩ := hR.at_ hz
              injection ha3 with ha3
              subst ha3
              obtain ⟨a4, ha4, _, hc4, _⟩ := hR.at_ HXL.out
              injection ha4 with ha4
              subst ha4
              have y2 := cell_far (hc3 2 _ rfl) (by omega)
              have x2c := cell_far (hc4 2 _ rfl) (by omega)
              have bx5 : wr.cell? ⟨w.heap.size, 5, none⟩ = some (.slice (some aa) n c) := cell_of_row _ _ 5 _ _ (0, 0) hT
              obtain ⟨zi, hzi⟩ : ∃ zi, zi = z.s.id := ⟨_, rfl⟩
              rw [← hzi] at y2
              try simp only at x2c
              have HZM : Hid ((l.map Ls.s)[j]? = some z.s) := Lib.hid (by rw [List.getElem?_map, hz]; rfl)
              have HZI := Lib.hid hzi
              have q0 : (0 : Int) ≤ (j : Int) := by omega
              have q1 : (j : Int) < (n : Int) := by omega
              clear hz hR hc3 hc4 hzi hT
              by_cases hzx : zi = x2
              · have d6 : (zi == x2) = true := by simpa using hzx
                have HIN : Hid (x2 ∈ ((l.map Ls.s).take k).map Sp.id) := Lib.hid (by
                  refine List.mem_map.2 ⟨z.s, ?_, by rw [← HZI.out]; exact hzx⟩
                  rw [List.mem_iff_getElem?]
                  exact ⟨j, by rw [List.getElem?_take, if_pos hjk]; exact HZM.out⟩)
                clear hzx
                go_upto_region 11 with fail
                go_quiet (fail)
                go_wp2_with fail
                go_ret
                exact ⟨by rw [HQ.out, (okSs_bad HXM.out (.inr HIN.out))] <;> rfl, HBW.out _ ⟨HB.out.os, HB.out.tape, HB.out.output, HB.out.size, HB.out.block⟩⟩
              · have d6 : (zi == x2) = false := by simpa using hzx
                have HJ2 : Hid (x2 ∉ ((l.map Ls.s).take (j + 1)).map Sp.id) := Lib.hid (by
                  rw [List.take_add_one, HZM.out, List.map_append]
                  intro h
                  rcases List.mem_append.1 h with h | h
                  · exact HJ.out h
                  · simp at h
                    exact hzx (HZI.out.trans h.symm))
                clear hzx
                go_upto_region 11 with fail
                go_quiet (fail)
                go_wp2_with fail
                go_roundw
                case rel => exact ⟨j + 1, by go_num, by omega, HJ2, Lib.hid ⟨HB.out.os, HB.out.tape, HB.out.output, HB.out.size, HB.out.block⟩⟩
                case measure => simp [intOf]; omega
            · obtain rfl : j = k := by omega
              have HST : Hid (okSs th tl ((l.map Ls.s).take (j + 1)) = true) := Lib.hid (okSs_step HXM.out HK.out HOT.out HJ.out)
              clear hT
              go_wp2_with fail
              go_roundw
              case rel => exact ⟨j + 1, by go_num, by omega, HST, HB⟩
              case measure => simp [intOf]; omega

    · obtain rfl : k = n := by omega
      have HE : Hid (okSs th tl (l.map Ls.s) = true) := Lib.hid (by have h := HK.out; rwa [List.take_of_length_le (by rw [List.length_map, ← HN.out]; exact Nat.le_refl _)] at h)
      clear hT
      go_wp2_with fail
      go_ret
      exact ⟨by rw [HQ.out, HE.out] <;> rfl, HBW.out _ HB.out⟩
end Go.Proofs.Ytchcjbapbdfhkaa

namespace Go.Proofs.Ytchcjbapbdfhkaa
open Go.RowKit Go.Maps
set_option linter.unusedVariables false
set_option linter.unusedSimpArgs false
set_option maxRecDepth 100000

def DbB (aa : Addr) (n c bx k j : Nat) (th tl f la : Int) (su : Bool) (eA : Option Addr) (m ec : Nat) (ph pl : Int) : Nat → Value → World → Prop
  | 0, v, _ => v = .pointer (some ⟨bx, 3, none⟩)
  | 1, v, _ => v = .slice (some aa) n c
  | 2, v, _ => v = .int .i64 (k : Int)
  | 3, v, _ => v = .pointer (some (aa.add (k * 6)))
  | 4, v, _ => v = .agg #[.int .u64 th, .int .u64 tl, .int .i64 f, .int .i64 la, .bool su, .slice eA m ec]
  | 5, v, _ => v = .bool false
  | 6, v, _ => v = .bool true
  | 7, v, _ => v = .bool true
  | 8, v, _ => v = undef
  | 9, v, _ => v = undef
  | 10, v, _ => v = undef
  | 11, v, _ => v = undef
  | 12, v, _ => v = undef
  | 13, v, _ => v = undef
  | 14, v, _ => v = undef
  | 15, v, _ => v = undef
  | 16, v, _ => v = undef
  | 17, v, _ => v = undef
  | 18, v, _ => v = undef
  | 19, v, _ => v = undef
  | 20, v, _ => v = undef
  | 21, v, _ => v = undef
  | 22, v, _ => v = undef
  | 23, v, _ => v = undef
  | 24, v, _ => v = undef
  | 25, v, _ => v = undef
  | 26, v, _ => v = .bool true
  | _, _, _ => True
theorem DbB.keep {aa : Addr} {n c bx k j : Nat} {th tl f la : Int} {su : Bool} {eA : Option Addr} {m ec : Nat} {ph pl : Int} {w w' : World} {i : Nat} {v : Value} (h : DbB aa n c bx k j th tl f la su eA m ec ph pl i v w) : DbB aa n c bx k j th tl f la su eA m ec ph pl i v w' := by
  match i, h with
  | 0, h => exact h
  | 1, h => exact h
  | 2, h => exact h
  | 3, h => exact h
  | 4, h => exact h
  | 5, h => exact h
  | 6, h => exact h
  | 7, h => exact h
  | 8, h => exact h
  | 9, h => exact h
  | 10, h => exact h
  | 11, h => exact h
  | 12, h => exact h
  | 13, h => exact h
  | 14, h => exact h
  | 15, h => exact h
  | 16, h => exact h
  | 17, h => exact h
  | 18, h => exact h
  | 19, h => exact h
  | 20, h => exact h
  | 21, h => exact h
  | 22, h => exact h
  | 23, h => exact h
  | 24, h => exact h
  | 25, h => exact h
  | 26, h => exact h
  | _ + 27, h => trivial
def DbF (aa : Addr) (n c bx k j : Nat) (th tl f la : Int) (su : Bool) (eA : Option Addr) (m ec : Nat) (ph pl : Int) : Nat → Value → World → Prop
  | 0, v, _ => v = .pointer (some ⟨bx, 3, none⟩)
  | 1, v, _ => v = .slice (some aa) n c
  | 2, v, _ => v = .int .i64 (k : Int)
  | 3, v, _ => v = .pointer (some (aa.add (k * 6)))
  | 4, v, _ => v = .agg #[.int .u64 th, .int .u64 tl, .int .i64 f, .int .i64 la, .bool su, .slice eA m ec]
  | 5, v, _ => v = .bool true
  | 6, v, _ => v = .bool false
  | 7, v, _ => v = .bool false
  | 8, v, _ => v = .int .i64 (k : Int)
  | 9, v, _ => v = .bool false
  | 10, v, _ => v = .bool false
  | 11, v, _ => v = undef
  | 12, v, _ => v = undef
  | 13, v, _ => v = undef
  | 14, v, _ => v = undef
  | 15, v, _ => v = undef
  | 16, v, _ => v = undef
  | 17, v, _ => v = undef
  | 18, v, _ => v = undef
  | 19, v, _ => v = undef
  | 20, v, _ => v = undef
  | 21, v, _ => v = undef
  | 22, v, _ => v = undef
  | 23, v, _ => v = undef
  | 24, v, _ => v = undef
  | 25, v, _ => v = .bool false
  | 26, v, _ => v = .bool false
  | _, _, _ => True
theorem DbF.keep {aa : Addr} {n c bx k j : Nat} {th tl f la : Int} {su : Bool} {eA : Option Addr} {m ec : Nat} {ph pl : Int} {w w' : World} {i : Nat} {v : Value} (h : DbF aa n c bx k j th tl f la su eA m ec ph pl i v w) : DbF aa n c bx k j th tl f la su eA m ec ph pl i v w' := by
  match i, h with
  | 0, h => exact h
  | 1, h => exact h
  | 2, h => exact h
  | 3, h => exact h
  | 4, h => exact h
  | 5, h => exact h
  | 6, h => exact h
  | 7, h => exact h
  | 8, h => exact h
  | 9, h => exact h
  | 10, h => exact h
  | 11, h => exact h
  | 12, h => exact h
  | 13, h => exact h
  | 14, h => exact h
  | 15, h => exact h
  | 16, h => exact h
  | 17, h => exact h
  | 18, h => exact h
  | 19, h => exact h
  | 20, h => exact h
  | 21, h => exact h
  | 22, h => exact h
  | 23, h => exact h
  | 24, h => exact h
  | 25, h => exact h
  | 26, h => exact h
  | _ + 27, h => trivial
def DbM (aa : Addr) (n c bx k j : Nat) (th tl f la : Int) (su : Bool) (eA : Option Addr) (m ec : Nat) (ph pl : Int) : Nat → Value → World → Prop
  | 0, v, _ => v = .pointer (some ⟨bx, 3, none⟩)
  | 1, v, _ => v = .slice (some aa) n c
  | 2, v, _ => v = .int .i64 (k : Int)
  | 3, v, _ => v = .pointer (some (aa.add (k * 6)))
  | 4, v, _ => v = .agg #[.int .u64 th, .int .u64 tl, .int .i64 f, .int .i64 la, .bool su, .slice eA m ec]
  | 5, v, _ => v = .bool true
  | 6, v, _ => v = .bool false
  | 7, v, _ => v = .bool false
  | 8, v, _ => v = .int .i64 (k : Int)
  | 9, v, _ => v = .bool true
  | 10, v, _ => v = .bool true
  | 11, v, _ => v = .pointer (some ⟨bx, 3, none⟩)
  | 12, v, _ => v = .slice (some aa) n c
  | 13, v, _ => v = .int .i64 (k : Int)
  | 14, v, _ => v = .pointer (some (aa.add (k * 6)))
  | 15, v, _ => v = .pointer (some (aa.add (k * 6)))
  | 16, v, _ => v = .agg #[.int .u64 th, .int .u64 tl]
  | 17, v, _ => v = .pointer (some ⟨bx, 3, none⟩)
  | 18, v, _ => v = .slice (some aa) n c
  | 19, v, _ => v = .int .i64 (k : Int)
  | 20, v, _ => v = .int .i64 (j : Int)
  | 21, v, _ => v = .pointer (some (aa.add (j * 6)))
  | 22, v, _ => v = .pointer (some (aa.add (j * 6)))
  | 23, v, _ => v = .agg #[.int .u64 ph, .int .u64 pl]
  | 24, v, _ => v = .bool false
  | 25, v, _ => v = .bool false
  | 26, v, _ => v = .bool false
  | _, _, _ => True
theorem DbM.keep {aa : Addr} {n c bx k j : Nat} {th tl f la : Int} {su : Bool} {eA : Option Addr} {m ec : Nat} {ph pl : Int} {w w' : World} {i : Nat} {v : Value} (h : DbM aa n c bx k j th tl f la su eA m ec ph pl i v w) : DbM aa n c bx k j th tl f la su eA m ec ph pl i v w' := by
  match i, h with
  | 0, h => exact h
  | 1, h => exact h
  | 2, h => exact h
  | 3, h => exact h
  | 4, h => exact h
  | 5, h => exact h
  | 6, h => exact h
  | 7, h => exact h
  | 8, h => exact h
  | 9, h => exact h
  | 10, h => exact h
  | 11, h => exact h
  | 12, h => exact h
  | 13, h => exact h
  | 14, h => exact h
  | 15, h => exact h
  | 16, h => exact h
  | 17, h => exact h
  | 18, h => exact h
  | 19, h => exact h
  | 20, h => exact h
  | 21, h => exact h
  | 22, h => exact h
  | 23, h => exact h
  | 24, h => exact h
  | 25, h => exact h
  | 26, h => exact h
  | _ + 27, h => trivial
def DbL (aa : Addr) (n c bx k j : Nat) (th tl f la : Int) (su : Bool) (eA : Option Addr) (m ec : Nat) (ph pl : Int) : Nat → Value → World → Prop
  | 0, v, _ => v = .pointer (some ⟨bx, 3, none⟩)
  | 1, v, _ => v = .slice (some aa) n c
  | 2, v, _ => v = .int .i64 (k : Int)
  | 3, v, _ => v = .pointer (some (aa.add (k * 6)))
  | 4, v, _ => v = .agg #[.int .u64 th, .int .u64 tl, .int .i64 f, .int .i64 la, .bool su, .slice eA m ec]
  | 5, v, _ => v = .bool true
  | 6, v, _ => v = .bool false
  | 7, v, _ => v = .bool false
  | 8, v, _ => v = .int .i64 (k : Int)
  | 9, v, _ => v = .bool true
  | 10, v, _ => v = .bool true
  | 11, v, _ => v = .pointer (some ⟨bx, 3, none⟩)
  | 12, v, _ => v = .slice (some aa) n c
  | 13, v, _ => v = .int .i64 (k : Int)
  | 14, v, _ => v = .pointer (some (aa.add (k * 6)))
  | 15, v, _ => v = .pointer (some (aa.add (k * 6)))
  | 16, v, _ => v = .agg #[.int .u64 th, .int .u64 tl]
  | 17, v, _ => v = .pointer (some ⟨bx, 3, none⟩)
  | 18, v, _ => v = .slice (some aa) n c
  | 19, v, _ => v = .int .i64 (k : Int)
  | 20, v, _ => v = .int .i64 (j : Int)
  | 21, v, _ => v = .pointer (some (aa.add (j * 6)))
  | 22, v, _ => v = .pointer (some (aa.add (j * 6)))
  | 23, v, _ => v = .agg #[.int .u64 ph, .int .u64 pl]
  | 24, v, _ => v = .bool true
  | 25, v, _ => v = .bool true
  | 26, v, _ => v = .bool true
  | _, _, _ => True
theorem DbL.keep {aa : Addr} {n c bx k j : Nat} {th tl f la : Int} {su : Bool} {eA : Option Addr} {m ec : Nat} {ph pl : Int} {w w' : World} {i : Nat} {v : Value} (h : DbL aa n c bx k j th tl f la su eA m ec ph pl i v w) : DbL aa n c bx k j th tl f la su eA m ec ph pl i v w' := by
  match i, h with
  | 0, h => exact h
  | 1, h => exact h
  | 2, h => exact h
  | 3, h => exact h
  | 4, h => exact h
  | 5, h => exact h
  | 6, h => exact h
  | 7, h => exact h
  | 8, h => exact h
  | 9, h => exact h
  | 10, h => exact h
  | 11, h => exact h
  | 12, h => exact h
  | 13, h => exact h
  | 14, h => exact h
  | 15, h => exact h
  | 16, h => exact h
  | 17, h => exact h
  | 18, h => exact h
  | 19, h => exact h
  | 20, h => exact h
  | 21, h => exact h
  | 22, h => exact h
  | 23, h => exact h
  | 24, h => exact h
  | 25, h => exact h
  | 26, h => exact h
  | _ + 27, h => trivial
set_option maxHeartbeats 32000000 in
theorem drightblk_any (nu bo ti : Int) (A : Option Addr) (l : List Le) (n c B : Nat) (w : World) (hn : n = l.length) (hy : RdEps w B A l) (hB : B ≤ w.heap.size) (hl : n ≤ 1000) (hs : ∀ e ∈ l, e.l.length ≤ 1000) :
    Calls Try.prog 24 #[.agg #[.int .i64 nu, .int .i64 bo, .int .i64 ti, .slice A n c]] w fun e w' => e = .returned (.bool (rightBk nu bo ti (l.map Le.ep))) ∧ Below w.heap.size w w' := by
  rw [rightBk_eq]
  have E1 := Lib.hid (dcnt_any nu)
  have E2 := Lib.hid (dcnt_any bo)
  have E3 := Lib.hid (dcnt_any ti)
  have HB0 := Lib.hid ((Below.refl w.heap.size w).alloc (Nat.le_refl _) (.cells #[.int .i64 nu, .int .i64 bo, .int .i64 ti, .slice A n c] 24))
  obtain ⟨L, hL⟩ : ∃ L, L = l.map Le.ep := ⟨_, rfl⟩
  have hLn : L.length = n := by rw [hL, List.length_map, hn]
  rw [← hL]
  have HLE := Lib.hid hL
  have HLN := Lib.hid hLn
  have HN := Lib.hid hn
  have HY := Lib.hid hy
  have HS := Lib.hid hs
  clear hL hLn hn hy hs
  have hW1 : (w.alloc (.cells #[.int .i64 nu, .int .i64 bo, .int .i64 ti, .slice A n c] 24)).heap.size = w.heap.size + 1 := by simp
  have HBW : Hid (∀ w1, Below (w.heap.size + 1) (w.alloc (.cells #[.int .i64 nu, .int .i64 bo, .int .i64 ti, .slice A n c] 24)) w1 → Below w.heap.size w w1) := Lib.hid (fun w1 hb => HB0.out.trans (hb.mono (by omega)))
  have HTB : Hid (∀ w1, Below (w.heap.size + 1) (w.alloc (.cells #[.int .i64 nu, .int .i64 bo, .int .i64 ti, .slice A n c] 24)) w1 → w1.heap[w.heap.size]? = some (.cells #[.int .i64 nu, .int .i64 bo, .int .i64 ti, .slice A n c] 24) ∧ w.heap.size + 1 ≤ w1.heap.size) := Lib.hid (fun w1 hb => ⟨(hb.block _ (by omega)).trans (heap_alloc_new w _), by have := hb.size; rw [hW1] at this; exact this⟩)
  have HB1 : Hid (Below (w.heap.size + 1) (w.alloc (.cells #[.int .i64 nu, .int .i64 bo, .int .i64 ti, .slice A n c] 24)) (w.alloc (.cells #[.int .i64 nu, .int .i64 bo, .int .i64 ti, .slice A n c] 24))) := Lib.hid (Below.refl _ _)
  obtain ⟨fw, hfw⟩ : ∃ fw, fw = ((cntI nu && (cntI bo && cntI ti)) && rightEs L) := ⟨_, rfl⟩
  rw [← hfw]
  have HF := Lib.hid hfw
  clear hfw
  go_enter Try.func24, Try.ntmps24
  go_wp2_with fail
  go_loopw [3] (fun iv wr => ∃ k : Nat, iv = .int .i64 (k : Int) ∧ k ≤ n ∧ Hid ((List.range k).all (okAtE L) = true) ∧ Hid (Below (w.heap.size + 1) (w.alloc (.cells #[.int .i64 nu, .int .i64 bo, .int .i64 ti, .slice A n c] 24)) wr)) (fun iv _ => n - (intOf iv).toNat)
  case atStart => exact ⟨0, rfl, Nat.zero_le _, Lib.hid (by simp), HB1⟩
  case round =>
    obtain ⟨k, rfl, hk, HK, HB⟩ := hrel
    obtain ⟨hT, hsr⟩ := HTB.out _ HB.out
    have b3 : wr.cell? ⟨w.heap.size, 3, none⟩ = some (.slice A n c) := cell_of_row _ _ 3 _ _ (0, 0) hT
    by_cases hlt : k < n
    · obtain ⟨e, hx⟩ : ∃ e, l[k]? = some e := ⟨_, List.getElem?_eq_getElem (by rw [← HN.out]; exact hlt)⟩
      have hBw := HBW.out _ HB.out
      have HR : Hid (RdEps wr B A l) := Lib.hid (HY.out.below (hBw.mono hB))
      obtain ⟨aa, ha, hab, hc, hxl⟩ := HR.out.at_ hx
      subst ha
      have hm1 := HS.out e (List.mem_of_getElem? hx)
      have HEE : Hid (L[k]? = some e.ep) := Lib.hid (by rw [HLE.out, List.getElem?_map, hx]; rfl)
      obtain ⟨th, tl, f, la, su, el, eA, ec⟩ := e
      obtain ⟨m, hm⟩ : ∃ m, m = el.length := ⟨_, rfl⟩
      simp only at hm1
      rw [← hm] at hm1
      have HXL := Lib.hid hx
      have HMN := Lib.hid hm
      have c0 := hc 0 _ rfl
      have c1 := cell_far (hc 1 _ rfl) (by omega)
      have c2 := cell_far (hc 2 _ rfl) (by omega)
      have c3 := cell_far (hc 3 _ rfl) (by omega)
      have c4 := cell_far (hc 4 _ rfl) (by omega)
      have c5 : wr.cell? ⟨(aa.add (k * 6)).block, (aa.add (k * 6)).off + 5, none⟩ = some (.slice eA m ec) := by rw [hm]; exact cell_far (hc 5 _ rfl) (by omega)
      simp only [Nat.add_zero] at c0
      simp only at c1 c2 c3 c4
      have hkL : k < L.length := by rw [HLN.out]; exact hlt
      have HKL := Lib.hid hkL
      have k0 : (0 : Int) ≤ (k : Int) := by omega
      have k1 : (k : Int) < (n : Int) := by omega
      clear hc hxl hx hm hkL
      have hab2 : (aa.add (k * 6)).block < wr.heap.size := by rw [block_add]; have := hBw.size; omega
      go_upto_region 4 with fail
      obtain ⟨W, hW⟩ : ∃ W, W = wr.drew := ⟨_, rfl⟩
      have hBA : Below wr.heap.size wr W := by rw [hW]; exact ⟨rfl, rfl, rfl, Nat.le_refl _, fun _ _ => rfl⟩
      have HBW2 := Lib.hid hBA
      have HBR : Hid (Below (w.heap.size + 1) (w.alloc (.cells #[.int .i64 nu, .int .i64 bo, .int .i64 ti, .slice (some aa) n c] 24)) W) := Lib.hid (HB.out.trans (hBA.mono hsr))
      have HSV : Hid (∀ V, Below W.heap.size W V → Below wr.heap.size wr V) := Lib.hid (fun V hV => hBA.trans (hV.mono hBA.size))
      have HTT : Hid (wr.heap[w.heap.size]? = some (.cells #[.int .i64 nu, .int .i64 bo, .int .i64 ti, .slice (some aa) n c] 24)) := Lib.hid hT
      have REC := Lib.hid (fun V (hV : Below W.heap.size W V) => drightep_any th tl f la su eA el m ec B V HMN.out ((HY.out.below ((HBW.out _ (HBR.out.trans (hV.mono (Nat.le_trans hsr hBA.size)))).mono hB)).each _ (List.mem_of_getElem? HXL.out)) (Nat.le_trans hB (HBW.out _ (HBR.out.trans (hV.mono (Nat.le_trans hsr hBA.size)))).size) hm1)
      have HEP : Hid ((Le.mk th tl f la su el eA ec).ep = ⟨th, tl, f, la, su, el.map Ls.s⟩) := Lib.hid rfl
      rw [HEP.out] at HEE
      obtain ⟨ox, hox⟩ : ∃ ox : Ep, ox = ⟨th, tl, f, la, su, el.map Ls.s⟩ := ⟨_, rfl⟩
      have hoh : ox.hi = th := by rw [hox]
      have hol : ox.lo = tl := by rw [hox]
      rw [← hox] at HEE REC
      clear hox HEP
      cases hok : okEp ox
      · rw [hok] at REC
        have HBD := Lib.hid (okAt_bad1 HEE.out hok)
        have SS := Lib.hid (show ∀ V, Below W.heap.size W V → (V.cell? (aa.add (k * 6)) = some (.int .u64 th) ∧ V.cell? ⟨(aa.add (k * 6)).block, (aa.add (k * 6)).off + 1, none⟩ = some (.int .u64 tl) ∧ V.cell? ⟨(aa.add (k * 6)).block, (aa.add (k * 6)).off + 2, none⟩ = some (.int .i64 f) ∧ V.cell? ⟨(aa.add (k * 6)).block, (aa.add (k * 6)).off + 3, none⟩ = some (.int .i64 la) ∧ V.cell? ⟨(aa.add (k * 6)).block, (aa.add (k * 6)).off + 4, none⟩ = some (.bool su) ∧ V.cell? ⟨(aa.add (k * 6)).block, (aa.add (k * 6)).off + 5, none⟩ = some (.slice eA m ec)) ∧ V.cell? ⟨w.heap.size, 3, none⟩ = some (.slice (some aa) n c) ∧ True from fun V hV => ⟨⟨((HSV.out V hV).cell (p := aa.add (k * 6)) hab2).trans c0, ((HSV.out V hV).cell (p := ⟨(aa.add (k * 6)).block, (aa.add (k * 6)).off + 1, none⟩) hab2).trans c1, ((HSV.out V hV).cell (p := ⟨(aa.add (k * 6)).block, (aa.add (k * 6)).off + 2, none⟩) hab2).trans c2, ((HSV.out V hV).cell (p := ⟨(aa.add (k * 6)).block, (aa.add (k * 6)).off + 3, none⟩) hab2).trans c3, ((HSV.out V hV).cell (p := ⟨(aa.add (k * 6)).block, (aa.add (k * 6)).off + 4, none⟩) hab2).trans c4, ((HSV.out V hV).cell (p := ⟨(aa.add (k * 6)).block, (aa.add (k * 6)).off + 5, none⟩) hab2).trans c5⟩, cell_of_row _ _ 3 _ _ (0, 0) (((HSV.out V hV).block _ (by omega)).trans HTT.out), trivial⟩)
        clear hok hT b3 hBw hBA c0 c1 c2 c3 c4 c5
        refine PI.wp_region_persG (R := (fun w w' => Below w.heap.size w w')) (G := fun _ _ => True) (I := fun _ _ _ => True) [(1, 0), (3, 1), (3, 2), (4, 3), (5, 4), (6, 5), (7, 6), (8, 7), (9, 7), (10, 7), (11, 10), (12, 10), (13, 10), (14, 10), (15, 10), (16, 10), (17, 10), (18, 10), (19, 10), (20, 10), (21, 10), (22, 10), (23, 10), (24, 10), (25, 7), (26, 7)] [26] (by kernel_rfl) (PI.formed_of (by kernel_rfl)) ⟨fun w => Below.refl _ w, fun _ _ _ h k => h.trans (k.mono h.size)⟩ (fun _ => trivial) (DbB aa n c w.heap.size k 0 th tl f la su eA m ec 0 0) trivial ?_ ?_
        · rw [← hW]
          intro i o ho
          rcases i with _ | _ | _ | _ | _ | _ | _ | _ | _ | _ | _ | _ | _ | _ | _ | _ | _ | _ | _ | _ | _ | _ | _ | _ | _ | _ | _ | i
          · obtain rfl := Option.some.inj (show some _ = some o from ho)
            refine PI.shown_val rfl fun a w5 L0 hr T => ?_
            have h1 : a.eval (.tmp 1) = .pointer (some ⟨w.heap.size, 0, none⟩) := T.was 1 (by kernel_rfl)
            exact ⟨.pointer (some ⟨w.heap.size, 3, none⟩), w5, by simp only [execOp, h1]; simp [go_sem], PI.Post.pure ⟨fun w => Below.refl _ w, fun _ _ _ h k => h.trans (k.mono h.size)⟩ rfl trivial⟩
          · obtain rfl := Option.some.inj (show some _ = some o from ho)
            refine PI.shown_val rfl fun a w5 L0 hr T => ?_
            have h1 : a.eval (.tmp 11) = .pointer (some ⟨w.heap.size, 3, none⟩) := T.at_ 0 11 (by kernel_rfl) (by kernel_rfl) (by kernel_rfl)
            have gb := (SS.out w5 hr).2.1
            exact ⟨.slice (some aa) n c, w5, by simp only [execOp, h1]; simp [go_sem, gb], PI.Post.pure ⟨fun w => Below.refl _ w, fun _ _ _ h k => h.trans (k.mono h.size)⟩ rfl trivial⟩
          · obtain rfl := Option.some.inj (show some _ = some o from ho)
            refine PI.shown_val rfl fun a w5 L0 hr T => ?_
            have h1 : a.eval (.tmp 3) = .int .i64 (k : Int) := T.was 3 (by kernel_rfl)
            exact ⟨.int .i64 (k : Int), w5, by simp only [execOp, h1]; simp [go_sem], PI.Post.pure ⟨fun w => Below.refl _ w, fun _ _ _ h k => h.trans (k.mono h.size)⟩ rfl trivial⟩
          · obtain rfl := Option.some.inj (show some _ = some o from ho)
            refine PI.shown_val rfl fun a w5 L0 hr T => ?_
            have h1 : a.eval (.tmp 12) = .slice (some aa) n c := T.at_ 1 12 (by kernel_rfl) (by kernel_rfl) (by kernel_rfl)
            have h2 : a.eval (.tmp 13) = .int .i64 (k : Int) := T.at_ 2 13 (by kernel_rfl) (by kernel_rfl) (by kernel_rfl)
            exact ⟨.pointer (some (aa.add (k * 6))), w5, by simp only [execOp, h1, h2]; simp [go_sem, Act.eval, k0, k1], PI.Post.pure ⟨fun w => Below.refl _ w, fun _ _ _ h k => h.trans (k.mono h.size)⟩ rfl trivial⟩
          · obtain rfl := Option.some.inj (show some _ = some o from ho)
            refine PI.shown_val rfl fun a w5 L0 hr T => ?_
            have h1 : a.eval (.tmp 14) = .pointer (some (aa.add (k * 6))) := T.at_ 3 14 (by kernel_rfl) (by kernel_rfl) (by kernel_rfl)
            have g0 := (SS.out w5 hr).1.1
            have g1 := (SS.out w5 hr).1.2.1
            have g2 := (SS.out w5 hr).1.2.2.1
            have g3 := (SS.out w5 hr).1.2.2.2.1
            have g4 := (SS.out w5 hr).1.2.2.2.2.1
            have g5 := (SS.out w5 hr).1.2.2.2.2.2
            exact ⟨.agg #[.int .u64 th, .int .u64 tl, .int .i64 f, .int .i64 la, .bool su, .slice eA m ec], w5, by simp only [execOp, h1]; simp [go_sem, g0, g1, g2, g3, g4, g5], PI.Post.pure ⟨fun w => Below.refl _ w, fun _ _ _ h k => h.trans (k.mono h.size)⟩ rfl trivial⟩
          · obtain rfl := Option.some.inj (show some _ = some o from ho)
            refine PI.shown_call rfl 31 fun a w5 L0 hr T => ?_
            have h0 : a.eval (.tmp 15) = .agg #[.int .u64 th, .int .u64 tl, .int .i64 f, .int .i64 la, .bool su, .slice eA m ec] := T.at_ 4 15 (by kernel_rfl) (by kernel_rfl) (by kernel_rfl)
            refine ⟨#[.agg #[.int .u64 th, .int .u64 tl, .int .i64 f, .int .i64 la, .bool su, .slice eA m ec]], by simp only [execOp, resolve, List.map_toArray, List.map_cons, List.map_nil, h0]; simp [go_sem, Act.eval], ?_⟩
            refine (REC.out w5 hr).mono fun e w6 hh => ?_
            obtain ⟨rfl, hb6⟩ := hh
            exact ⟨_, rfl, hb6, rfl, fun _ _ h => h, fun j v _ _ _ _ h => DbB.keep h, trivial⟩
          · obtain rfl := Option.some.inj (show some _ = some o from ho)
            refine PI.shown_val rfl fun a w5 L0 hr T => ?_
            have h1 : a.eval (.tmp 16) = .bool false := T.at_ 5 16 (by kernel_rfl) (by kernel_rfl) (by kernel_rfl)
            exact ⟨.bool true, w5, by simp only [execOp, h1]; simp [go_sem], PI.Post.pure ⟨fun w => Below.refl _ w, fun _ _ _ h k => h.trans (k.mono h.size)⟩ rfl trivial⟩
          · obtain rfl := Option.some.inj (show some _ = some o from ho)
            refine PI.shown_val rfl fun a w5 L0 hr T => ?_
            have h1 : a.eval (.tmp 17) = .bool true := T.at_ 6 17 (by kernel_rfl) (by kernel_rfl) (by kernel_rfl)
            exact ⟨.bool true, w5, by simp only [execOp, h1]; simp [go_sem], PI.Post.pure ⟨fun w => Below.refl _ w, fun _ _ _ h k => h.trans (k.mono h.size)⟩ rfl trivial⟩
          · obtain rfl := Option.some.inj (show some _ = some o from ho)
            exact PI.shown_not 7 18 false rfl (by kernel_rfl) (by kernel_rfl) (by kernel_rfl) (fun v w h => h) (fun w => rfl) (fun _ _ _ _ => trivial)
          · obtain rfl := Option.some.inj (show some _ = some o from ho)
            exact PI.shown_not 7 18 false rfl (by kernel_rfl) (by kernel_rfl) (by kernel_rfl) (fun v w h => h) (fun w => rfl) (fun _ _ _ _ => trivial)
          · obtain rfl := Option.some.inj (show some _ = some o from ho)
            exact PI.shown_not 7 18 false rfl (by kernel_rfl) (by kernel_rfl) (by kernel_rfl) (fun v w h => h) (fun w => rfl) (fun _ _ _ _ => trivial)
          · obtain rfl := Option.some.inj (show some _ = some o from ho)
            exact PI.shown_undef 10 21 true rfl (by kernel_rfl) (by kernel_rfl) (by kernel_rfl) (fun v w h => h) (fun w => rfl) (fun _ _ _ _ => trivial)
          · obtain rfl := Option.some.inj (show some _ = some o from ho)
            exact PI.shown_undef 10 21 true rfl (by kernel_rfl) (by kernel_rfl) (by kernel_rfl) (fun v w h => h) (fun w => rfl) (fun _ _ _ _ => trivial)
          · obtain rfl := Option.some.inj (show some _ = some o from ho)
            exact PI.shown_undef 10 21 true rfl (by kernel_rfl) (by kernel_rfl) (by kernel_rfl) (fun v w h => h) (fun w => rfl) (fun _ _ _ _ => trivial)
          · obtain rfl := Option.some.inj (show some _ = some o from ho)
            exact PI.shown_undef 10 21 true rfl (by kernel_rfl) (by kernel_rfl) (by kernel_rfl) (fun v w h => h) (fun w => rfl) (fun _ _ _ _ => trivial)
          · obtain rfl := Option.some.inj (show some _ = some o from ho)
            exact PI.shown_undef 10 21 true rfl (by kernel_rfl) (by kernel_rfl) (by kernel_rfl) (fun v w h => h) (fun w => rfl) (fun _ _ _ _ => trivial)
          · obtain rfl := Option.some.inj (show some _ = some o from ho)
            exact PI.shown_undef 10 21 true rfl (by kernel_rfl) (by kernel_rfl) (by kernel_rfl) (fun v w h => h) (fun w => rfl) (fun _ _ _ _ => trivial)
          · obtain rfl := Option.some.inj (show some _ = some o from ho)
            exact PI.shown_undef 10 21 true rfl (by kernel_rfl) (by kernel_rfl) (by kernel_rfl) (fun v w h => h) (fun w => rfl) (fun _ _ _ _ => trivial)
          · obtain rfl := Option.some.inj (show some _ = some o from ho)
            exact PI.shown_undef 10 21 true rfl (by kernel_rfl) (by kernel_rfl) (by kernel_rfl) (fun v w h => h) (fun w => rfl) (fun _ _ _ _ => trivial)
          · obtain rfl := Option.some.inj (show some _ = some o from ho)
            exact PI.shown_undef 10 21 true rfl (by kernel_rfl) (by kernel_rfl) (by kernel_rfl) (fun v w h => h) (fun w => rfl) (fun _ _ _ _ => trivial)
          · obtain rfl := Option.some.inj (show some _ = some o from ho)
            exact PI.shown_undef 10 21 true rfl (by kernel_rfl) (by kernel_rfl) (by kernel_rfl) (fun v w h => h) (fun w => rfl) (fun _ _ _ _ => trivial)
          · obtain rfl := Option.some.inj (show some _ = some o from ho)
            exact PI.shown_undef 10 21 true rfl (by kernel_rfl) (by kernel_rfl) (by kernel_rfl) (fun v w h => h) (fun w => rfl) (fun _ _ _ _ => trivial)
          · obtain rfl := Option.some.inj (show some _ = some o from ho)
            exact PI.shown_undef 10 21 true rfl (by kernel_rfl) (by kernel_rfl) (by kernel_rfl) (fun v w h => h) (fun w => rfl) (fun _ _ _ _ => trivial)
          · obtain rfl := Option.some.inj (show some _ = some o from ho)
            exact PI.shown_undef 10 21 true rfl (by kernel_rfl) (by kernel_rfl) (by kernel_rfl) (fun v w h => h) (fun w => rfl) (fun _ _ _ _ => trivial)
          · obtain rfl := Option.some.inj (show some _ = some o from ho)
            exact PI.shown_undef 10 21 true rfl (by kernel_rfl) (by kernel_rfl) (by kernel_rfl) (fun v w h => h) (fun w => rfl) (fun _ _ _ _ => trivial)
          · obtain rfl := Option.some.inj (show some _ = some o from ho)
            exact PI.shown_not 7 18 false rfl (by kernel_rfl) (by kernel_rfl) (by kernel_rfl) (fun v w h => h) (fun w => rfl) (fun _ _ _ _ => trivial)
          · obtain rfl := Option.some.inj (show some _ = some o from ho)
            refine PI.shown_val rfl fun a w5 L0 hr T => ?_
            have h0 : a.eval (.tmp 18) = .bool true := T.at_ 7 18 (by kernel_rfl) (by kernel_rfl) (by kernel_rfl)
            exact ⟨.bool true, w5, by simp only [execOp, h0]; simp [go_sem, Act.eval], PI.Post.pure ⟨fun w => Below.refl _ w, fun _ _ _ h k => h.trans (k.mono h.size)⟩ rfl trivial⟩
          · cases ho
        · rw [← hW]
          intro xx w9 hr hf he _
          have h14 := hf 26 _ 37 rfl rfl (by decide)
          have hx14 : xx 26 = .bool true := h14
          have HB9 : Hid (Below (w.heap.size + 1) (w.alloc (.cells #[.int .i64 nu, .int .i64 bo, .int .i64 ti, .slice (some aa) n c] 24)) w9) := Lib.hid (HBR.out.trans (hr.mono (Nat.le_trans hsr HBW2.out.size)))
          clear hf he hr h14
          simp only [PI.putAll, Act.put, List.setIfInBounds_toArray, List.set_cons_zero, List.set_cons_succ, Nat.zero_add, Nat.reduceAdd]
          rw [hx14]
          go_wp2_with fail
          go_ret
          exact ⟨by rw [HF.out, (rightEs_bad HKL.out HBD.out), Bool.and_false] <;> rfl, HBW.out _ HB9.out⟩

      · rw [hok] at REC
        have HOK := Lib.hid hok
        clear hok
        rcases Nat.eq_zero_or_pos k with h0 | h0
        · have hkb : decide ((0 : Int) < (k : Int)) = false := decide_eq_false (by omega)
          have hkb2 : decide (0 < k) = false := decide_eq_false (by omega)
          have HGD : Hid (okAtE L k = true) := Lib.hid (by subst h0; exact okAt_zero HEE.out HOK.out)
          have SS := Lib.hid (show ∀ V, Below W.heap.size W V → (V.cell? (aa.add (k * 6)) = some (.int .u64 th) ∧ V.cell? ⟨(aa.add (k * 6)).block, (aa.add (k * 6)).off + 1, none⟩ = some (.int .u64 tl) ∧ V.cell? ⟨(aa.add (k * 6)).block, (aa.add (k * 6)).off + 2, none⟩ = some (.int .i64 f) ∧ V.cell? ⟨(aa.add (k * 6)).block, (aa.add (k * 6)).off + 3, none⟩ = some (.int .i64 la) ∧ V.cell? ⟨(aa.add (k * 6)).block, (aa.add (k * 6)).off + 4, none⟩ = some (.bool su) ∧ V.cell? ⟨(aa.add (k * 6)).block, (aa.add (k * 6)).off + 5, none⟩ = some (.slice eA m ec)) ∧ V.cell? ⟨w.heap.size, 3, none⟩ = some (.slice (some aa) n c) ∧ True from fun V hV => ⟨⟨((HSV.out V hV).cell (p := aa.add (k * 6)) hab2).trans c0, ((HSV.out V hV).cell (p := ⟨(aa.add (k * 6)).block, (aa.add (k * 6)).off + 1, none⟩) hab2).trans c1, ((HSV.out V hV).cell (p := ⟨(aa.add (k * 6)).block, (aa.add (k * 6)).off + 2, none⟩) hab2).trans c2, ((HSV.out V hV).cell (p := ⟨(aa.add (k * 6)).block, (aa.add (k * 6)).off + 3, none⟩) hab2).trans c3, ((HSV.out V hV).cell (p := ⟨(aa.add (k * 6)).block, (aa.add (k * 6)).off + 4, none⟩) hab2).trans c4, ((HSV.out V hV).cell (p := ⟨(aa.add (k * 6)).block, (aa.add (k * 6)).off + 5, none⟩) hab2).trans c5⟩, cell_of_row _ _ 3 _ _ (0, 0) (((HSV.out V hV).block _ (by omega)).trans HTT.out), trivial⟩)
          clear hT b3 hBw hBA c0 c1 c2 c3 c4 c5 h0
          refine PI.wp_region_persG (R := (fun w w' => Below w.heap.size w w')) (G := fun _ _ => True) (I := fun _ _ _ => True) [(1, 0), (3, 1), (3, 2), (4, 3), (5, 4), (6, 5), (7, 6), (8, 7), (9, 7), (9, 8), (10, 7), (10, 9), (11, 10), (12, 10), (13, 10), (14, 10), (15, 10), (16, 10), (17, 10), (18, 10), (19, 10), (20, 10), (21, 10), (22, 10), (23, 10), (24, 10), (25, 7), (25, 10), (26, 7), (26, 25)] [26] (by kernel_rfl) (PI.formed_of (by kernel_rfl)) ⟨fun w => Below.refl _ w, fun _ _ _ h k => h.trans (k.mono h.size)⟩ (fun _ => trivial) (DbF aa n c w.heap.size k 0 th tl f la su eA m ec 0 0) trivial ?_ ?_
          · rw [← hW]
            intro i o ho
            rcases i with _ | _ | _ | _ | _ | _ | _ | _ | _ | _ | _ | _ | _ | _ | _ | _ | _ | _ | _ | _ | _ | _ | _ | _ | _ | _ | _ | i
            · obtain rfl := Option.some.inj (show some _ = some o from ho)
              refine PI.shown_val rfl fun a w5 L0 hr T => ?_
              have h1 : a.eval (.tmp 1) = .pointer (some ⟨w.heap.size, 0, none⟩) := T.was 1 (by kernel_rfl)
              exact ⟨.pointer (some ⟨w.heap.size, 3, none⟩), w5, by simp only [execOp, h1]; simp [go_sem], PI.Post.pure ⟨fun w => Below.refl _ w, fun _ _ _ h k => h.trans (k.mono h.size)⟩ rfl trivial⟩
            · obtain rfl := Option.some.inj (show some _ = some o from ho)
              refine PI.shown_val rfl fun a w5 L0 hr T => ?_
              have h1 : a.eval (.tmp 11) = .pointer (some ⟨w.heap.size, 3, none⟩) := T.at_ 0 11 (by kernel_rfl) (by kernel_rfl) (by kernel_rfl)
              have gb := (SS.out w5 hr).2.1
              exact ⟨.slice (some aa) n c, w5, by simp only [execOp, h1]; simp [go_sem, gb], PI.Post.pure ⟨fun w => Below.refl _ w, fun _ _ _ h k => h.trans (k.mono h.size)⟩ rfl trivial⟩
            · obtain rfl := Option.some.inj (show some _ = some o from ho)
              refine PI.shown_val rfl fun a w5 L0 hr T => ?_
              have h1 : a.eval (.tmp 3) = .int .i64 (k : Int) := T.was 3 (by kernel_rfl)
              exact ⟨.int .i64 (k : Int), w5, by simp only [execOp, h1]; simp [go_sem], PI.Post.pure ⟨fun w => Below.refl _ w, fun _ _ _ h k => h.trans (k.mono h.size)⟩ rfl trivial⟩
            · obtain rfl := Option.some.inj (show some _ = some o from ho)
              refine PI.shown_val rfl fun a w5 L0 hr T => ?_
              have h1 : a.eval (.tmp 12) = .slice (some aa) n c := T.at_ 1 12 (by kernel_rfl) (by kernel_rfl) (by kernel_rfl)
              have h2 : a.eval (.tmp 13) = .int .i64 (k : Int) := T.at_ 2 13 (by kernel_rfl) (by kernel_rfl) (by kernel_rfl)
              exact ⟨.pointer (some (aa.add (k * 6))), w5, by simp only [execOp, h1, h2]; simp [go_sem, Act.eval, k0, k1], PI.Post.pure ⟨fun w => Below.refl _ w, fun _ _ _ h k => h.trans (k.mono h.size)⟩ rfl trivial⟩
            · obtain rfl := Option.some.inj (show some _ = some o from ho)
              refine PI.shown_val rfl fun a w5 L0 hr T => ?_
              have h1 : a.eval (.tmp 14) = .pointer (some (aa.add (k * 6))) := T.at_ 3 14 (by kernel_rfl) (by kernel_rfl) (by kernel_rfl)
              have g0 := (SS.out w5 hr).1.1
              have g1 := (SS.out w5 hr).1.2.1
              have g2 := (SS.out w5 hr).1.2.2.1
              have g3 := (SS.out w5 hr).1.2.2.2.1
              have g4 := (SS.out w5 hr).1.2.2.2.2.1
              have g5 := (SS.out w5 hr).1.2.2.2.2.2
              exact ⟨.agg #[.int .u64 th, .int .u64 tl, .int .i64 f, .int .i64 la, .bool su, .slice eA m ec], w5, by simp only [execOp, h1]; simp [go_sem, g0, g1, g2, g3, g4, g5], PI.Post.pure ⟨fun w => Below.refl _ w, fun _ _ _ h k => h.trans (k.mono h.size)⟩ rfl trivial⟩
            · obtain rfl := Option.some.inj (show some _ = some o from ho)
              refine PI.shown_call rfl 31 fun a w5 L0 hr T => ?_
              have h0 : a.eval (.tmp 15) = .agg #[.int .u64 th, .int .u64 tl, .int .i64 f, .int .i64 la, .bool su, .slice eA m ec] := T.at_ 4 15 (by kernel_rfl) (by kernel_rfl) (by kernel_rfl)
              refine ⟨#[.agg #[.int .u64 th, .int .u64 tl, .int .i64 f, .int .i64 la, .bool su, .slice eA m ec]], by simp only [execOp, resolve, List.map_toArray, List.map_cons, List.map_nil, h0]; simp [go_sem, Act.eval], ?_⟩
              refine (REC.out w5 hr).mono fun e w6 hh => ?_
              obtain ⟨rfl, hb6⟩ := hh
              exact ⟨_, rfl, hb6, rfl, fun _ _ h => h, fun j v _ _ _ _ h => DbF.keep h, trivial⟩
            · obtain rfl := Option.some.inj (show some _ = some o from ho)
              refine PI.shown_val rfl fun a w5 L0 hr T => ?_
              have h1 : a.eval (.tmp 16) = .bool true := T.at_ 5 16 (by kernel_rfl) (by kernel_rfl) (by kernel_rfl)
              exact ⟨.bool false, w5, by simp only [execOp, h1]; simp [go_sem], PI.Post.pure ⟨fun w => Below.refl _ w, fun _ _ _ h k => h.trans (k.mono h.size)⟩ rfl trivial⟩
            · obtain rfl := Option.some.inj (show some _ = some o from ho)
              refine PI.shown_val rfl fun a w5 L0 hr T => ?_
              have h1 : a.eval (.tmp 17) = .bool false := T.at_ 6 17 (by kernel_rfl) (by kernel_rfl) (by kernel_rfl)
              exact ⟨.bool false, w5, by simp only [execOp, h1]; simp [go_sem], PI.Post.pure ⟨fun w => Below.refl _ w, fun _ _ _ h k => h.trans (k.mono h.size)⟩ rfl trivial⟩
            · obtain rfl := Option.some.inj (show some _ = some o from ho)
              refine PI.shown_val_if 7 18 false rfl (by kernel_rfl) (by kernel_rfl) (by kernel_rfl) (fun v w h => h) fun a w5 L0 hr T => ?_
              have h1 : a.eval (.tmp 3) = .int .i64 (k : Int) := T.was 3 (by kernel_rfl)
              exact ⟨.int .i64 (k : Int), w5, by simp only [execOp, h1]; simp [go_sem], PI.Post.pure ⟨fun w => Below.refl _ w, fun _ _ _ h k => h.trans (k.mono h.size)⟩ rfl trivial⟩
            · obtain rfl := Option.some.inj (show some _ = some o from ho)
              refine PI.shown_val_if 7 18 false rfl (by kernel_rfl) (by kernel_rfl) (by kernel_rfl) (fun v w h => h) fun a w5 L0 hr T => ?_
              have h1 : a.eval (.tmp 19) = .int .i64 (k : Int) := T.at_ 8 19 (by kernel_rfl) (by kernel_rfl) (by kernel_rfl)
              exact ⟨.bool false, w5, by simp only [execOp, h1]; simp [go_sem, Act.eval, hkb, hkb2], PI.Post.pure ⟨fun w => Below.refl _ w, fun _ _ _ h k => h.trans (k.mono h.size)⟩ rfl trivial⟩
            · obtain rfl := Option.some.inj (show some _ = some o from ho)
              refine PI.shown_val_if 7 18 false rfl (by kernel_rfl) (by kernel_rfl) (by kernel_rfl) (fun v w h => h) fun a w5 L0 hr T => ?_
              have h1 : a.eval (.tmp 20) = .bool false := T.at_ 9 20 (by kernel_rfl) (by kernel_rfl) (by kernel_rfl)
              exact ⟨.bool false, w5, by simp only [execOp, h1]; simp [go_sem], PI.Post.pure ⟨fun w => Below.refl _ w, fun _ _ _ h k => h.trans (k.mono h.size)⟩ rfl trivial⟩
            · obtain rfl := Option.some.inj (show some _ = some o from ho)
              exact PI.shown_not 10 21 true rfl (by kernel_rfl) (by kernel_rfl) (by kernel_rfl) (fun v w h => h) (fun w => rfl) (fun _ _ _ _ => trivial)
            · obtain rfl := Option.some.inj (show some _ = some o from ho)
              exact PI.shown_not 10 21 true rfl (by kernel_rfl) (by kernel_rfl) (by kernel_rfl) (fun v w h => h) (fun w => rfl) (fun _ _ _ _ => trivial)
            · obtain rfl := Option.some.inj (show some _ = some o from ho)
              exact PI.shown_not 10 21 true rfl (by kernel_rfl) (by kernel_rfl) (by kernel_rfl) (fun v w h => h) (fun w => rfl) (fun _ _ _ _ => trivial)
            · obtain rfl := Option.some.inj (show some _ = some o from ho)
              exact PI.shown_not 10 21 true rfl (by kernel_rfl) (by kernel_rfl) (by kernel_rfl) (fun v w h => h) (fun w => rfl) (fun _ _ _ _ => trivial)
            · obtain rfl := Option.some.inj (show some _ = some o from ho)
              exact PI.shown_not 10 21 true rfl (by kernel_rfl) (by kernel_rfl) (by kernel_rfl) (fun v w h => h) (fun w => rfl) (fun _ _ _ _ => trivial)
            · obtain rfl := Option.some.inj (show some _ = some o from ho)
              exact PI.shown_not 10 21 true rfl (by kernel_rfl) (by kernel_rfl) (by kernel_rfl) (fun v w h => h) (fun w => rfl) (fun _ _ _ _ => trivial)
            · obtain rfl := Option.some.inj (show some _ = some o from ho)
              exact PI.shown_not 10 21 true rfl (by kernel_rfl) (by kernel_rfl) (by kernel_rfl) (fun v w h => h) (fun w => rfl) (fun _ _ _ _ => trivial)
            · obtain rfl := Option.some.inj (show some _ = some o from ho)
              exact PI.shown_not 10 21 true rfl (by kernel_rfl) (by kernel_rfl) (by kernel_rfl) (fun v w h => h) (fun w => rfl) (fun _ _ _ _ => trivial)
            · obtain rfl := Option.some.inj (show some _ = some o from ho)
              exact PI.shown_not 10 21 true rfl (by kernel_rfl) (by kernel_rfl) (by kernel_rfl) (fun v w h => h) (fun w => rfl) (fun _ _ _ _ => trivial)
            · obtain rfl := Option.some.inj (show some _ = some o from ho)
              exact PI.shown_not 10 21 true rfl (by kernel_rfl) (by kernel_rfl) (by kernel_rfl) (fun v w h => h) (fun w => rfl) (fun _ _ _ _ => trivial)
            · obtain rfl := Option.some.inj (show some _ = some o from ho)
              exact PI.shown_not 10 21 true rfl (by kernel_rfl) (by kernel_rfl) (by kernel_rfl) (fun v w h => h) (fun w => rfl) (fun _ _ _ _ => trivial)
            · obtain rfl := Option.some.inj (show some _ = some o from ho)
              exact PI.shown_not 10 21 true rfl (by kernel_rfl) (by kernel_rfl) (by kernel_rfl) (fun v w h => h) (fun w => rfl) (fun _ _ _ _ => trivial)
            · obtain rfl := Option.some.inj (show some _ = some o from ho)
              exact PI.shown_not 10 21 true rfl (by kernel_rfl) (by kernel_rfl) (by kernel_rfl) (fun v w h => h) (fun w => rfl) (fun _ _ _ _ => trivial)
            · obtain rfl := Option.some.inj (show some _ = some o from ho)
              exact PI.shown_not 10 21 true rfl (by kernel_rfl) (by kernel_rfl) (by kernel_rfl) (fun v w h => h) (fun w => rfl) (fun _ _ _ _ => trivial)
            · obtain rfl := Option.some.inj (show some _ = some o from ho)
              refine PI.shown_val_if 7 18 false rfl (by kernel_rfl) (by kernel_rfl) (by kernel_rfl) (fun v w h => h) fun a w5 L0 hr T => ?_
              have h0 : a.eval (.tmp 21) = .bool false := T.at_ 10 21 (by kernel_rfl) (by kernel_rfl) (by kernel_rfl)
              exact ⟨.bool false, w5, by simp only [execOp, h0]; simp [go_sem, Act.eval], PI.Post.pure ⟨fun w => Below.refl _ w, fun _ _ _ h k => h.trans (k.mono h.size)⟩ rfl trivial⟩
            · obtain rfl := Option.some.inj (show some _ = some o from ho)
              refine PI.shown_val rfl fun a w5 L0 hr T => ?_
              have h0 : a.eval (.tmp 18) = .bool false := T.at_ 7 18 (by kernel_rfl) (by kernel_rfl) (by kernel_rfl)
              have h2 : a.eval (.tmp 36) = .bool false := T.at_ 25 36 (by kernel_rfl) (by kernel_rfl) (by kernel_rfl)
              exact ⟨.bool false, w5, by simp only [execOp, h0, h2]; simp [go_sem, Act.eval], PI.Post.pure ⟨fun w => Below.refl _ w, fun _ _ _ h k => h.trans (k.mono h.size)⟩ rfl trivial⟩
            · cases ho
          · rw [← hW]
            intro xx w9 hr hf he _
            have h14 := hf 26 _ 37 rfl rfl (by decide)
            have hx14 : xx 26 = .bool false := h14
            have HB9 : Hid (Below (w.heap.size + 1) (w.alloc (.cells #[.int .i64 nu, .int .i64 bo, .int .i64 ti, .slice (some aa) n c] 24)) w9) := Lib.hid (HBR.out.trans (hr.mono (Nat.le_trans hsr HBW2.out.size)))
            clear hf he hr h14
            simp only [PI.putAll, Act.put, List.setIfInBounds_toArray, List.set_cons_zero, List.set_cons_succ, Nat.zero_add, Nat.reduceAdd]
            rw [hx14]
            have HNK : Hid ((List.range (k + 1)).all (okAtE L) = true) := Lib.hid (range_all_succ HK.out HGD.out)
            go_wp2_with fail
            go_roundw
            case rel => exact ⟨k + 1, by go_num, by omega, HNK, HB9⟩
            case measure => simp [intOf] <;> omega

        · obtain ⟨j, hj⟩ : ∃ j, k = j + 1 := ⟨k - 1, by omega⟩
          obtain ⟨p, hp⟩ : ∃ p, l[j]? = some p := ⟨_, List.getElem?_eq_getElem (by rw [← HN.out]; omega)⟩
          obtain ⟨a2, ha2, _, hc2, _⟩ := HR.out.at_ hp
          injection ha2 with ha2
          subst ha2
          have HPE : Hid (L[j]? = some p.ep) := Lib.hid (by rw [HLE.out, List.getElem?_map, hp]; rfl)
          have z0 := hc2 0 _ rfl
          have z1 := cell_far (hc2 1 _ rfl) (by omega)
          simp only [Nat.add_zero] at z0
          obtain ⟨ph, hph⟩ : ∃ ph, ph = p.hi := ⟨_, rfl⟩
          obtain ⟨pl, hpl⟩ : ∃ pl, pl = p.lo := ⟨_, rfl⟩
          rw [← hph] at z0
          rw [← hpl] at z1
          have hkb : decide ((0 : Int) < (k : Int)) = true := decide_eq_true (by omega)
          have hkb2 : decide (0 < k) = true := decide_eq_true h0
          have hwj : IntKind.i64.wrap ((k : Int) - 1) = (j : Int) := by rw [IntKind.wrap_i64]; omega
          have hwj2 : (k : Int) - 1 = (j : Int) := by omega
          have hwj3 : IntKind.i64.wrap (j : Int) = (j : Int) := by rw [IntKind.wrap_i64]; omega
          have p0 : (0 : Int) ≤ (j : Int) := by omega
          have p1 : (j : Int) < (n : Int) := by omega
          have haj : (aa.add (j * 6)).block < wr.heap.size := by rw [block_add]; have := hBw.size; omega
          have SS := Lib.hid (show ∀ V, Below W.heap.size W V → (V.cell? (aa.add (k * 6)) = some (.int .u64 th) ∧ V.cell? ⟨(aa.add (k * 6)).block, (aa.add (k * 6)).off + 1, none⟩ = some (.int .u64 tl) ∧ V.cell? ⟨(aa.add (k * 6)).block, (aa.add (k * 6)).off + 2, none⟩ = some (.int .i64 f) ∧ V.cell? ⟨(aa.add (k * 6)).block, (aa.add (k * 6)).off + 3, none⟩ = some (.int .i64 la) ∧ V.cell? ⟨(aa.add (k * 6)).block, (aa.add (k * 6)).off + 4, none⟩ = some (.bool su) ∧ V.cell? ⟨(aa.add (k * 6)).block, (aa.add (k * 6)).off + 5, none⟩ = some (.slice eA m ec)) ∧ V.cell? ⟨w.heap.size, 3, none⟩ = some (.slice (some aa) n c) ∧ V.cell? (aa.add (j * 6)) = some (.int .u64 ph) ∧ V.cell? ⟨(aa.add (j * 6)).block, (aa.add (j * 6)).off + 1, none⟩ = some (.int .u64 pl) from fun V hV => ⟨⟨((HSV.out V hV).cell (p := aa.add (k * 6)) hab2).trans c0, ((HSV.out V hV).cell (p := ⟨(aa.add (k * 6)).block, (aa.add (k * 6)).off + 1, none⟩) hab2).trans c1, ((HSV.out V hV).cell (p := ⟨(aa.add (k * 6)).block, (aa.add (k * 6)).off + 2, none⟩) hab2).trans c2, ((HSV.out V hV).cell (p := ⟨(aa.add (k * 6)).block, (aa.add (k * 6)).off + 3, none⟩) hab2).trans c3, ((HSV.out V hV).cell (p := ⟨(aa.add (k * 6)).block, (aa.add (k * 6)).off + 4, none⟩) hab2).trans c4, ((HSV.out V hV).cell (p := ⟨(aa.add (k * 6)).block, (aa.add (k * 6)).off + 5, none⟩) hab2).trans c5⟩, cell_of_row _ _ 3 _ _ (0, 0) (((HSV.out V hV).block _ (by omega)).trans HTT.out), ((HSV.out V hV).cell (p := aa.add (j * 6)) haj).trans z0, ((HSV.out V hV).cell (p := ⟨(aa.add (j * 6)).block, (aa.add (j * 6)).off + 1, none⟩) haj).trans z1⟩)
          have LTC := Lib.hid (fun V (hV : Below W.heap.size W V) => dlesst_any th tl ph pl V)
          have hlt2 : ltE ox p.ep = (decide (th < ph) || (decide (th = ph) && decide (tl < pl))) := by
            unfold ltE
            rw [hoh, hol, hph, hpl]
            rfl
          have HL2 := Lib.hid hlt2
          have HJ := Lib.hid hj
          clear hp hc2 hph hpl z0 z1 hlt2 hT b3 hBw hBA c0 c1 c2 c3 c4 c5 hj h0
          cases hov : (decide (th < ph) || (decide (th = ph) && decide (tl < pl)))
          · rw [hov] at LTC
            have HGD : Hid (okAtE L k = true) := Lib.hid (by
              have h := HEE.out
              rw [HJ.out] at h ⊢
              exact okAt_succ h HPE.out (HL2.out.trans hov) HOK.out)
            clear hov
            refine PI.wp_region_persG (R := (fun w w' => Below w.heap.size w w')) (G := fun _ _ => True) (I := fun _ _ _ => True) [(1, 0), (3, 1), (3, 2), (4, 3), (5, 4), (6, 5), (7, 6), (8, 7), (9, 7), (9, 8), (10, 7), (10, 9), (11, 10), (12, 10), (12, 11), (13, 10), (14, 10), (14, 12), (14, 13), (15, 10), (15, 14), (16, 10), (16, 15), (17, 10), (18, 10), (18, 17), (19, 10), (20, 10), (20, 19), (21, 10), (21, 18), (21, 20), (22, 10), (22, 21), (23, 10), (23, 22), (24, 10), (24, 16), (24, 23), (25, 7), (25, 10), (25, 24), (26, 7), (26, 25)] [26] (by kernel_rfl) (PI.formed_of (by kernel_rfl)) ⟨fun w => Below.refl _ w, fun _ _ _ h k => h.trans (k.mono h.size)⟩ (fun _ => trivial) (DbM aa n c w.heap.size k j th tl f la su eA m ec ph pl) trivial ?_ ?_
            · rw [← hW]
              intro i o ho
              rcases i with _ | _ | _ | _ | _ | _ | _ | _ | _ | _ | _ | _ | _ | _ | _ | _ | _ | _ | _ | _ | _ | _ | _ | _ | _ | _ | _ | i
              · obtain rfl := Option.some.inj (show some _ = some o from ho)
                refine PI.shown_val rfl fun a w5 L0 hr T => ?_
                have h1 : a.eval (.tmp 1) = .pointer (some ⟨w.heap.size, 0, none⟩) := T.was 1 (by kernel_rfl)
                exact ⟨.pointer (some ⟨w.heap.size, 3, none⟩), w5, by simp only [execOp, h1]; simp [go_sem], PI.Post.pure ⟨fun w => Below.refl _ w, fun _ _ _ h k => h.trans (k.mono h.size)⟩ rfl trivial⟩
              · obtain rfl := Option.some.inj (show some _ = some o from ho)
                refine PI.shown_val rfl fun a w5 L0 hr T => ?_
                have h1 : a.eval (.tmp 11) = .pointer (some ⟨w.heap.size, 3, none⟩) := T.at_ 0 11 (by kernel_rfl) (by kernel_rfl) (by kernel_rfl)
                have gb := (SS.out w5 hr).2.1
                exact ⟨.slice (some aa) n c, w5, by simp only [execOp, h1]; simp [go_sem, gb], PI.Post.pure ⟨fun w => Below.refl _ w, fun _ _ _ h k => h.trans (k.mono h.size)⟩ rfl trivial⟩
              · obtain rfl := Option.some.inj (show some _ = some o from ho)
                refine PI.shown_val rfl fun a w5 L0 hr T => ?_
                have h1 : a.eval (.tmp 3) = .int .i64 (k : Int) := T.was 3 (by kernel_rfl)
                exact ⟨.int .i64 (k : Int), w5, by simp only [execOp, h1]; simp [go_sem], PI.Post.pure ⟨fun w => Below.refl _ w, fun _ _ _ h k => h.trans (k.mono h.size)⟩ rfl trivial⟩
              · obtain rfl := Option.some.inj (show some _ = some o from ho)
                refine PI.shown_val rfl fun a w5 L0 hr T => ?_
                have h1 : a.eval (.tmp 12) = .slice (some aa) n c := T.at_ 1 12 (by kernel_rfl) (by kernel_rfl) (by kernel_rfl)
                have h2 : a.eval (.tmp 13) = .int .i64 (k : Int) := T.at_ 2 13 (by kernel_rfl) (by kernel_rfl) (by kernel_rfl)
                exact ⟨.pointer (some (aa.add (k * 6))), w5, by simp only [execOp, h1, h2]; simp [go_sem, Act.eval, k0, k1], PI.Post.pure ⟨fun w => Below.refl _ w, fun _ _ _ h k => h.trans (k.mono h.size)⟩ rfl trivial⟩
              · obtain rfl := Option.some.inj (show some _ = some o from ho)
                refine PI.shown_val rfl fun a w5 L0 hr T => ?_
                have h1 : a.eval (.tmp 14) = .pointer (some (aa.add (k * 6))) := T.at_ 3 14 (by kernel_rfl) (by kernel_rfl) (by kernel_rfl)
                have g0 := (SS.out w5 hr).1.1
                have g1 := (SS.out w5 hr).1.2.1
                have g2 := (SS.out w5 hr).1.2.2.1
                have g3 := (SS.out w5 hr).1.2.2.2.1
                have g4 := (SS.out w5 hr).1.2.2.2.2.1
                have g5 := (SS.out w5 hr).1.2.2.2.2.2
                exact ⟨.agg #[.int .u64 th, .int .u64 tl, .int .i64 f, .int .i64 la, .bool su, .slice eA m ec], w5, by simp only [execOp, h1]; simp [go_sem, g0, g1, g2, g3, g4, g5], PI.Post.pure ⟨fun w => Below.refl _ w, fun _ _ _ h k => h.trans (k.mono h.size)⟩ rfl trivial⟩
              · obtain rfl := Option.some.inj (show some _ = some o from ho)
                refine PI.shown_call rfl 31 fun a w5 L0 hr T => ?_
                have h0 : a.eval (.tmp 15) = .agg #[.int .u64 th, .int .u64 tl, .int .i64 f, .int .i64 la, .bool su, .slice eA m ec] := T.at_ 4 15 (by kernel_rfl) (by kernel_rfl) (by kernel_rfl)
                refine ⟨#[.agg #[.int .u64 th, .int .u64 tl, .int .i64 f, .int .i64 la, .bool su, .slice eA m ec]], by simp only [execOp, resolve, List.map_toArray, List.map_cons, List.map_nil, h0]; simp [go_sem, Act.eval], ?_⟩
                refine (REC.out w5 hr).mono fun e w6 hh => ?_
                obtain ⟨rfl, hb6⟩ := hh
                exact ⟨_, rfl, hb6, rfl, fun _ _ h => h, fun j v _ _ _ _ h => DbM.keep h, trivial⟩
              · obtain rfl := Option.some.inj (show some _ = some o from ho)
                refine PI.shown_val rfl fun a w5 L0 hr T => ?_
                have h1 : a.eval (.tmp 16) = .bool true := T.at_ 5 16 (by kernel_rfl) (by kernel_rfl) (by kernel_rfl)
                exact ⟨.bool false, w5, by simp only [execOp, h1]; simp [go_sem], PI.Post.pure ⟨fun w => Below.refl _ w, fun _ _ _ h k => h.trans (k.mono h.size)⟩ rfl trivial⟩
              · obtain rfl := Option.some.inj (show some _ = some o from ho)
                refine PI.shown_val rfl fun a w5 L0 hr T => ?_
                have h1 : a.eval (.tmp 17) = .bool false := T.at_ 6 17 (by kernel_rfl) (by kernel_rfl) (by kernel_rfl)
                exact ⟨.bool false, w5, by simp only [execOp, h1]; simp [go_sem], PI.Post.pure ⟨fun w => Below.refl _ w, fun _ _ _ h k => h.trans (k.mono h.size)⟩ rfl trivial⟩
              · obtain rfl := Option.some.inj (show some _ = some o from ho)
                refine PI.shown_val_if 7 18 false rfl (by kernel_rfl) (by kernel_rfl) (by kernel_rfl) (fun v w h => h) fun a w5 L0 hr T => ?_
                have h1 : a.eval (.tmp 3) = .int .i64 (k : Int) := T.was 3 (by kernel_rfl)
                exact ⟨.int .i64 (k : Int), w5, by simp only [execOp, h1]; simp [go_sem], PI.Post.pure ⟨fun w => Below.refl _ w, fun _ _ _ h k => h.trans (k.mono h.size)⟩ rfl trivial⟩
              · obtain rfl := Option.some.inj (show some _ = some o from ho)
                refine PI.shown_val_if 7 18 false rfl (by kernel_rfl) (by kernel_rfl) (by kernel_rfl) (fun v w h => h) fun a w5 L0 hr T => ?_
                have h1 : a.eval (.tmp 19) = .int .i64 (k : Int) := T.at_ 8 19 (by kernel_rfl) (by kernel_rfl) (by kernel_rfl)
                exact ⟨.bool true, w5, by simp only [execOp, h1]; simp [go_sem, Act.eval, hkb, hkb2], PI.Post.pure ⟨fun w => Below.refl _ w, fun _ _ _ h k => h.trans (k.mono h.size)⟩ rfl trivial⟩
              · obtain rfl := Option.some.inj (show some _ = some o from ho)
                refine PI.shown_val_if 7 18 false rfl (by kernel_rfl) (by kernel_rfl) (by kernel_rfl) (fun v w h => h) fun a w5 L0 hr T => ?_
                have h1 : a.eval (.tmp 20) = .bool true := T.at_ 9 20 (by kernel_rfl) (by kernel_rfl) (by kernel_rfl)
                exact ⟨.bool true, w5, by simp only [execOp, h1]; simp [go_sem], PI.Post.pure ⟨fun w => Below.refl _ w, fun _ _ _ h k => h.trans (k.mono h.size)⟩ rfl trivial⟩
              · obtain rfl := Option.some.inj (show some _ = some o from ho)
                refine PI.shown_val_if 10 21 true rfl (by kernel_rfl) (by kernel_rfl) (by kernel_rfl) (fun v w h => h) fun a w5 L0 hr T => ?_
                have h1 : a.eval (.tmp 1) = .pointer (some ⟨w.heap.size, 0, none⟩) := T.was 1 (by kernel_rfl)
                exact ⟨.pointer (some ⟨w.heap.size, 3, none⟩), w5, by simp only [execOp, h1]; simp [go_sem], PI.Post.pure ⟨fun w => Below.refl _ w, fun _ _ _ h k => h.trans (k.mono h.size)⟩ rfl trivial⟩
              · obtain rfl := Option.some.inj (show some _ = some o from ho)
                refine PI.shown_val_if 10 21 true rfl (by kernel_rfl) (by kernel_rfl) (by kernel_rfl) (fun v w h => h) fun a w5 L0 hr T => ?_
                have h1 : a.eval (.tmp 22) = .pointer (some ⟨w.heap.size, 3, none⟩) := T.at_ 11 22 (by kernel_rfl) (by kernel_rfl) (by kernel_rfl)
                have gb := (SS.out w5 hr).2.1
                exact ⟨.slice (some aa) n c, w5, by simp only [execOp, h1]; simp [go_sem, gb], PI.Post.pure ⟨fun w => Below.refl _ w, fun _ _ _ h k => h.trans (k.mono h.size)⟩ rfl trivial⟩
              · obtain rfl := Option.some.inj (show some _ = some o from ho)
                refine PI.shown_val_if 10 21 true rfl (by kernel_rfl) (by kernel_rfl) (by kernel_rfl) (fun v w h => h) fun a w5 L0 hr T => ?_
                have h1 : a.eval (.tmp 3) = .int .i64 (k : Int) := T.was 3 (by kernel_rfl)
                exact ⟨.int .i64 (k : Int), w5, by simp only [execOp, h1]; simp [go_sem], PI.Post.pure ⟨fun w => Below.refl _ w, fun _ _ _ h k => h.trans (k.mono h.size)⟩ rfl trivial⟩
              · obtain rfl := Option.some.inj (show some _ = some o from ho)
                refine PI.shown_val_if 10 21 true rfl (by kernel_rfl) (by kernel_rfl) (by kernel_rfl) (fun v w h => h) fun a w5 L0 hr T => ?_
                have h1 : a.eval (.tmp 23) = .slice (some aa) n c := T.at_ 12 23 (by kernel_rfl) (by kernel_rfl) (by kernel_rfl)
                have h2 : a.eval (.tmp 24) = .int .i64 (k : Int) := T.at_ 13 24 (by kernel_rfl) (by kernel_rfl) (by kernel_rfl)
                exact ⟨.pointer (some (aa.add (k * 6))), w5, by simp only [execOp, h1, h2]; simp [go_sem, Act.eval, k0, k1], PI.Post.pure ⟨fun w => Below.refl _ w, fun _ _ _ h k => h.trans (k.mono h.size)⟩ rfl trivial⟩
              · obtain rfl := Option.some.inj (show some _ = some o from ho)
                refine PI.shown_val_if 10 21 true rfl (by kernel_rfl) (by kernel_rfl) (by kernel_rfl) (fun v w h => h) fun a w5 L0 hr T => ?_
                have h1 : a.eval (.tmp 25) = .pointer (some (aa.add (k * 6))) := T.at_ 14 25 (by kernel_rfl) (by kernel_rfl) (by kernel_rfl)
                exact ⟨.pointer (some (aa.add (k * 6))), w5, by simp only [execOp, h1]; simp [go_sem], PI.Post.pure ⟨fun w => Below.refl _ w, fun _ _ _ h k => h.trans (k.mono h.size)⟩ rfl trivial⟩
              · obtain rfl := Option.some.inj (show some _ = some o from ho)
                refine PI.shown_val_if 10 21 true rfl (by kernel_rfl) (by kernel_rfl) (by kernel_rfl) (fun v w h => h) fun a w5 L0 hr T => ?_
                have h1 : a.eval (.tmp 26) = .pointer (some (aa.add (k * 6))) := T.at_ 15 26 (by kernel_rfl) (by kernel_rfl) (by kernel_rfl)
                have g0 := (SS.out w5 hr).1.1
                have g1 := (SS.out w5 hr).1.2.1
                exact ⟨.agg #[.int .u64 th, .int .u64 tl], w5, by simp only [execOp, h1]; simp [go_sem, g0, g1], PI.Post.pure ⟨fun w => Below.refl _ w, fun _ _ _ h k => h.trans (k.mono h.size)⟩ rfl trivial⟩
              · obtain rfl := Option.some.inj (show some _ = some o from ho)
                refine PI.shown_val_if 10 21 true rfl (by kernel_rfl) (by kernel_rfl) (by kernel_rfl) (fun v w h => h) fun a w5 L0 hr T => ?_
                have h1 : a.eval (.tmp 1) = .pointer (some ⟨w.heap.size, 0, none⟩) := T.was 1 (by kernel_rfl)
                exact ⟨.pointer (some ⟨w.heap.size, 3, none⟩), w5, by simp only [execOp, h1]; simp [go_sem], PI.Post.pure ⟨fun w => Below.refl _ w, fun _ _ _ h k => h.trans (k.mono h.size)⟩ rfl trivial⟩
              · obtain rfl := Option.some.inj (show some _ = some o from ho)
                refine PI.shown_val_if 10 21 true rfl (by kernel_rfl) (by kernel_rfl) (by kernel_rfl) (fun v w h => h) fun a w5 L0 hr T => ?_
                have h1 : a.eval (.tmp 28) = .pointer (some ⟨w.heap.size, 3, none⟩) := T.at_ 17 28 (by kernel_rfl) (by kernel_rfl) (by kernel_rfl)
                have gb := (SS.out w5 hr).2.1
                exact ⟨.slice (some aa) n c, w5, by simp only [execOp, h1]; simp [go_sem, gb], PI.Post.pure ⟨fun w => Below.refl _ w, fun _ _ _ h k => h.trans (k.mono h.size)⟩ rfl trivial⟩
              · obtain rfl := Option.some.inj (show some _ = some o from ho)
                refine PI.shown_val_if 10 21 true rfl (by kernel_rfl) (by kernel_rfl) (by kernel_rfl) (fun v w h => h) fun a w5 L0 hr T => ?_
                have h1 : a.eval (.tmp 3) = .int .i64 (k : Int) := T.was 3 (by kernel_rfl)
                exact ⟨.int .i64 (k : Int), w5, by simp only [execOp, h1]; simp [go_sem], PI.Post.pure ⟨fun w => Below.refl _ w, fun _ _ _ h k => h.trans (k.mono h.size)⟩ rfl trivial⟩
              · obtain rfl := Option.some.inj (show some _ = some o from ho)
                refine PI.shown_val_if 10 21 true rfl (by kernel_rfl) (by kernel_rfl) (by kernel_rfl) (fun v w h => h) fun a w5 L0 hr T => ?_
                have h1 : a.eval (.tmp 30) = .int .i64 (k : Int) := T.at_ 19 30 (by kernel_rfl) (by kernel_rfl) (by kernel_rfl)
                exact ⟨.int .i64 (j : Int), w5, by simp only [execOp, h1]; simp [go_sem, Act.eval, hwj, hwj2, hwj3], PI.Post.pure ⟨fun w => Below.refl _ w, fun _ _ _ h k => h.trans (k.mono h.size)⟩ rfl trivial⟩
              · obtain rfl := Option.some.inj (show some _ = some o from ho)
                refine PI.shown_val_if 10 21 true rfl (by kernel_rfl) (by kernel_rfl) (by kernel_rfl) (fun v w h => h) fun a w5 L0 hr T => ?_
                have h1 : a.eval (.tmp 29) = .slice (some aa) n c := T.at_ 18 29 (by kernel_rfl) (by kernel_rfl) (by kernel_rfl)
                have h2 : a.eval (.tmp 31) = .int .i64 (j : Int) := T.at_ 20 31 (by kernel_rfl) (by kernel_rfl) (by kernel_rfl)
                exact ⟨.pointer (some (aa.add (j * 6))), w5, by simp only [execOp, h1, h2]; simp [go_sem, Act.eval, p0, p1], PI.Post.pure ⟨fun w => Below.refl _ w, fun _ _ _ h k => h.trans (k.mono h.size)⟩ rfl trivial⟩
              · obtain rfl := Option.some.inj (show some _ = some o from ho)
                refine PI.shown_val_if 10 21 true rfl (by kernel_rfl) (by kernel_rfl) (by kernel_rfl) (fun v w h => h) fun a w5 L0 hr T => ?_
                have h1 : a.eval (.tmp 32) = .pointer (some (aa.add (j * 6))) := T.at_ 21 32 (by kernel_rfl) (by kernel_rfl) (by kernel_rfl)
                exact ⟨.pointer (some (aa.add (j * 6))), w5, by simp only [execOp, h1]; simp [go_sem], PI.Post.pure ⟨fun w => Below.refl _ w, fun _ _ _ h k => h.trans (k.mono h.size)⟩ rfl trivial⟩
              · obtain rfl := Option.some.inj (show some _ = some o from ho)
                refine PI.shown_val_if 10 21 true rfl (by kernel_rfl) (by kernel_rfl) (by kernel_rfl) (fun v w h => h) fun a w5 L0 hr T => ?_
                have h1 : a.eval (.tmp 33) = .pointer (some (aa.add (j * 6))) := T.at_ 22 33 (by kernel_rfl) (by kernel_rfl) (by kernel_rfl)
                have q0 := (SS.out w5 hr).2.2.1
                have q1 := (SS.out w5 hr).2.2.2
                exact ⟨.agg #[.int .u64 ph, .int .u64 pl], w5, by simp only [execOp, h1]; simp [go_sem, q0, q1], PI.Post.pure ⟨fun w => Below.refl _ w, fun _ _ _ h k => h.trans (k.mono h.size)⟩ rfl trivial⟩
              · obtain rfl := Option.some.inj (show some _ = some o from ho)
                refine PI.shown_call_if 10 21 true rfl (by kernel_rfl) (by kernel_rfl) (by kernel_rfl) (fun v w h => h) 32 fun a w5 L0 hr T => ?_
                have h0 : a.eval (.tmp 27) = .agg #[.int .u64 th, .int .u64 tl] := T.at_ 16 27 (by kernel_rfl) (by kernel_rfl) (by kernel_rfl)
                have h1 : a.eval (.tmp 34) = .agg #[.int .u64 ph, .int .u64 pl] := T.at_ 23 34 (by kernel_rfl) (by kernel_rfl) (by kernel_rfl)
                refine ⟨#[.agg #[.int .u64 th, .int .u64 tl], .agg #[.int .u64 ph, .int .u64 pl]], by simp only [execOp, resolve, List.map_toArray, List.map_cons, List.map_nil, h0, h1]; simp [go_sem, Act.eval], ?_⟩
                refine (LTC.out w5 hr).mono fun e w6 hh => ?_
                obtain ⟨rfl, hb6⟩ := hh
                exact ⟨_, rfl, hb6, rfl, fun _ _ h => h, fun j v _ _ _ _ h => DbM.keep h, trivial⟩
              · obtain rfl := Option.some.inj (show some _ = some o from ho)
                refine PI.shown_val_if 7 18 false rfl (by kernel_rfl) (by kernel_rfl) (by kernel_rfl) (fun v w h => h) fun a w5 L0 hr T => ?_
                have h0 : a.eval (.tmp 21) = .bool true := T.at_ 10 21 (by kernel_rfl) (by kernel_rfl) (by kernel_rfl)
                have h1 : a.eval (.tmp 35) = .bool false := T.at_ 24 35 (by kernel_rfl) (by kernel_rfl) (by kernel_rfl)
                exact ⟨.bool false, w5, by simp only [execOp, h0, h1]; simp [go_sem, Act.eval], PI.Post.pure ⟨fun w => Below.refl _ w, fun _ _ _ h k => h.trans (k.mono h.size)⟩ rfl trivial⟩
              · obtain rfl := Option.some.inj (show some _ = some o from ho)
                refine PI.shown_val rfl fun a w5 L0 hr T => ?_
                have h0 : a.eval (.tmp 18) = .bool false := T.at_ 7 18 (by kernel_rfl) (by kernel_rfl) (by kernel_rfl)
                have h2 : a.eval (.tmp 36) = .bool false := T.at_ 25 36 (by kernel_rfl) (by kernel_rfl) (by kernel_rfl)
                exact ⟨.bool false, w5, by simp only [execOp, h0, h2]; simp [go_sem, Act.eval], PI.Post.pure ⟨fun w => Below.refl _ w, fun _ _ _ h k => h.trans (k.mono h.size)⟩ rfl trivial⟩
              · cases ho
            · rw [← hW]
              intro xx w9 hr hf he _
              have h14 := hf 26 _ 37 rfl rfl (by decide)
              have hx14 : xx 26 = .bool false := h14
              have HB9 : Hid (Below (w.heap.size + 1) (w.alloc (.cells #[.int .i64 nu, .int .i64 bo, .int .i64 ti, .slice (some aa) n c] 24)) w9) := Lib.hid (HBR.out.trans (hr.mono (Nat.le_trans hsr HBW2.out.size)))
              clear hf he hr h14
              simp only [PI.putAll, Act.put, List.setIfInBounds_toArray, List.set_cons_zero, List.set_cons_succ, Nat.zero_add, Nat.reduceAdd]
              rw [hx14]
              have HNK : Hid ((List.range (k + 1)).all (okAtE L) = true) := Lib.hid (range_all_succ HK.out HGD.out)
              go_wp2_with fail
              go_roundw
              case rel => exact ⟨k + 1, by go_num, by omega, HNK, HB9⟩
              case measure => simp [intOf] <;> omega

          · rw [hov] at LTC
            have HBD : Hid (okAtE L k = false) := Lib.hid (by
              have h := HEE.out
              rw [HJ.out] at h ⊢
              exact okAt_bad2 h HPE.out (HL2.out.trans hov))
            clear hov
            refine PI.wp_region_persG (R := (fun w w' => Below w.heap.size w w')) (G := fun _ _ => True) (I := fun _ _ _ => True) [(1, 0), (3, 1), (3, 2), (4, 3), (5, 4), (6, 5), (7, 6), (8, 7), (9, 7), (9, 8), (10, 7), (10, 9), (11, 10), (12, 10), (12, 11), (13, 10), (14, 10), (14, 12), (14, 13), (15, 10), (15, 14), (16, 10), (16, 15), (17, 10), (18, 10), (18, 17), (19, 10), (20, 10), (20, 19), (21, 10), (21, 18), (21, 20), (22, 10), (22, 21), (23, 10), (23, 22), (24, 10), (24, 16), (24, 23), (25, 7), (25, 10), (25, 24), (26, 7), (26, 25)] [26] (by kernel_rfl) (PI.formed_of (by kernel_rfl)) ⟨fun w => Below.refl _ w, fun _ _ _ h k => h.trans (k.mono h.size)⟩ (fun _ => trivial) (DbL aa n c w.heap.size k j th tl f la su eA m ec ph pl) trivial ?_ ?_
            · rw [← hW]
              intro i o ho
              rcases i with _ | _ | _ | _ | _ | _ | _ | _ | _ | _ | _ | _ | _ | _ | _ | _ | _ | _ | _ | _ | _ | _ | _ | _ | _ | _ | _ | i
              · obtain rfl := Option.some.inj (show some _ = some o from ho)
                refine PI.shown_val rfl fun a w5 L0 hr T => ?_
                have h1 : a.eval (.tmp 1) = .pointer (some ⟨w.heap.size, 0, none⟩) := T.was 1 (by kernel_rfl)
                exact ⟨.pointer (some ⟨w.heap.size, 3, none⟩), w5, by simp only [execOp, h1]; simp [go_sem], PI.Post.pure ⟨fun w => Below.refl _ w, fun _ _ _ h k => h.trans (k.mono h.size)⟩ rfl trivial⟩
              · obtain rfl := Option.some.inj (show some _ = some o from ho)
                refine PI.shown_val rfl fun a w5 L0 hr T => ?_
                have h1 : a.eval (.tmp 11) = .pointer (some ⟨w.heap.size, 3, none⟩) := T.at_ 0 11 (by kernel_rfl) (by kernel_rfl) (by kernel_rfl)
                have gb := (SS.out w5 hr).2.1
                exact ⟨.slice (some aa) n c, w5, by simp only [execOp, h1]; simp [go_sem, gb], PI.Post.pure ⟨fun w => Below.refl _ w, fun _ _ _ h k => h.trans (k.mono h.size)⟩ rfl trivial⟩
              · obtain rfl := Option.some.inj (show some _ = some o from ho)
                refine PI.shown_val rfl fun a w5 L0 hr T => ?_
                have h1 : a.eval (.tmp 3) = .int .i64 (k : Int) := T.was 3 (by kernel_rfl)
                exact ⟨.int .i64 (k : Int), w5, by simp only [execOp, h1]; simp [go_sem], PI.Post.pure ⟨fun w => Below.refl _ w, fun _ _ _ h k => h.trans (k.mono h.size)⟩ rfl trivial⟩
              · obtain rfl := Option.some.inj (show some _ = some o from ho)
                refine PI.shown_val rfl fun a w5 L0 hr T => ?_
                have h1 : a.eval (.tmp 12) = .slice (some aa) n c := T.at_ 1 12 (by kernel_rfl) (by kernel_rfl) (by kernel_rfl)
                have h2 : a.eval (.tmp 13) = .int .i64 (k : Int) := T.at_ 2 13 (by kernel_rfl) (by kernel_rfl) (by kernel_rfl)
                exact ⟨.pointer (some (aa.add (k * 6))), w5, by simp only [execOp, h1, h2]; simp [go_sem, Act.eval, k0, k1], PI.Post.pure ⟨fun w => Below.refl _ w, fun _ _ _ h k => h.trans (k.mono h.size)⟩ rfl trivial⟩
              · obtain rfl := Option.some.inj (show some _ = some o from ho)
                refine PI.shown_val rfl fun a w5 L0 hr T => ?_
                have h1 : a.eval (.tmp 14) = .pointer (some (aa.add (k * 6))) := T.at_ 3 14 (by kernel_rfl) (by kernel_rfl) (by kernel_rfl)
                have g0 := (SS.out w5 hr).1.1
                have g1 := (SS.out w5 hr).1.2.1
                have g2 := (SS.out w5 hr).1.2.2.1
                have g3 := (SS.out w5 hr).1.2.2.2.1
                have g4 := (SS.out w5 hr).1.2.2.2.2.1
                have g5 := (SS.out w5 hr).1.2.2.2.2.2
                exact ⟨.agg #[.int .u64 th, .int .u64 tl, .int .i64 f, .int .i64 la, .bool su, .slice eA m ec], w5, by simp only [execOp, h1]; simp [go_sem, g0, g1, g2, g3, g4, g5], PI.Post.pure ⟨fun w => Below.refl _ w, fun _ _ _ h k => h.trans (k.mono h.size)⟩ rfl trivial⟩
              · obtain rfl := Option.some.inj (show some _ = some o from ho)
                refine PI.shown_call rfl 31 fun a w5 L0 hr T => ?_
                have h0 : a.eval (.tmp 15) = .agg #[.int .u64 th, .int .u64 tl, .int .i64 f, .int .i64 la, .bool su, .slice eA m ec] := T.at_ 4 15 (by kernel_rfl) (by kernel_rfl) (by kernel_rfl)
                refine ⟨#[.agg #[.int .u64 th, .int .u64 tl, .int .i64 f, .int .i64 la, .bool su, .slice eA m ec]], by simp only [execOp, resolve, List.map_toArray, List.map_cons, List.map_nil, h0]; simp [go_sem, Act.eval], ?_⟩
                refine (REC.out w5 hr).mono fun e w6 hh => ?_
                obtain ⟨rfl, hb6⟩ := hh
                exact ⟨_, rfl, hb6, rfl, fun _ _ h => h, fun j v _ _ _ _ h => DbL.keep h, trivial⟩
              · obtain rfl := Option.some.inj (show some _ = some o from ho)
                refine PI.shown_val rfl fun a w5 L0 hr T => ?_
                have h1 : a.eval (.tmp 16) = .bool true := T.at_ 5 16 (by kernel_rfl) (by kernel_rfl) (by kernel_rfl)
                exact ⟨.bool false, w5, by simp only [execOp, h1]; simp [go_sem], PI.Post.pure ⟨fun w => Below.refl _ w, fun _ _ _ h k => h.trans (k.mono h.size)⟩ rfl trivial⟩
              · obtain rfl := Option.some.inj (show some _ = some o from ho)
                refine PI.shown_val rfl fun a w5 L0 hr T => ?_
                have h1 : a.eval (.tmp 17) = .bool false := T.at_ 6 17 (by kernel_rfl) (by kernel_rfl) (by kernel_rfl)
                exact ⟨.bool false, w5, by simp only [execOp, h1]; simp [go_sem], PI.Post.pure ⟨fun w => Below.refl _ w, fun _ _ _ h k => h.trans (k.mono h.size)⟩ rfl trivial⟩
              · obtain rfl := Option.some.inj (show some _ = some o from ho)
                refine PI.shown_val_if 7 18 false rfl (by kernel_rfl) (by kernel_rfl) (by kernel_rfl) (fun v w h => h) fun a w5 L0 hr T => ?_
                have h1 : a.eval (.tmp 3) = .int .i64 (k : Int) := T.was 3 (by kernel_rfl)
                exact ⟨.int .i64 (k : Int), w5, by simp only [execOp, h1]; simp [go_sem], PI.Post.pure ⟨fun w => Below.refl _ w, fun _ _ _ h k => h.trans (k.mono h.size)⟩ rfl trivial⟩
              · obtain rfl := Option.some.inj (show some _ = some o from ho)
                refine PI.shown_val_if 7 18 false rfl (by kernel_rfl) (by kernel_rfl) (by kernel_rfl) (fun v w h => h) fun a w5 L0 hr T => ?_
                have h1 : a.eval (.tmp 19) = .int .i64 (k : Int) := T.at_ 8 19 (by kernel_rfl) (by kernel_rfl) (by kernel_rfl)
                exact ⟨.bool true, w5, by simp only [execOp, h1]; simp [go_sem, Act.eval, hkb, hkb2], PI.Post.pure ⟨fun w => Below.refl _ w, fun _ _ _ h k => h.trans (k.mono h.size)⟩ rfl trivial⟩
              · obtain rfl := Option.some.inj (show some _ = some o from ho)
                refine PI.shown_val_if 7 18 false rfl (by kernel_rfl) (by kernel_rfl) (by kernel_rfl) (fun v w h => h) fun a w5 L0 hr T => ?_
                have h1 : a.eval (.tmp 20) = .bool true := T.at_ 9 20 (by kernel_rfl) (by kernel_rfl) (by kernel_rfl)
                exact ⟨.bool true, w5, by simp only [execOp, h1]; simp [go_sem], PI.Post.pure ⟨fun w => Below.refl _ w, fun _ _ _ h k => h.trans (k.mono h.size)⟩ rfl trivial⟩
              · obtain rfl := Option.some.inj (show some _ = some o from ho)
                refine PI.shown_val_if 10 21 true rfl (by kernel_rfl) (by kernel_rfl) (by kernel_rfl) (fun v w h => h) fun a w5 L0 hr T => ?_
                have h1 : a.eval (.tmp 1) = .pointer (some ⟨w.heap.size, 0, none⟩) := T.was 1 (by kernel_rfl)
                exact ⟨.pointer (some ⟨w.heap.size, 3, none⟩), w5, by simp only [execOp, h1]; simp [go_sem], PI.Post.pure ⟨fun w => Below.refl _ w, fun _ _ _ h k => h.trans (k.mono h.size)⟩ rfl trivial⟩
              · obtain rfl := Option.some.inj (show some _ = some o from ho)
                refine PI.shown_val_if 10 21 true rfl (by kernel_rfl) (by kernel_rfl) (by kernel_rfl) (fun v w h => h) fun a w5 L0 hr T => ?_
                have h1 : a.eval (.tmp 22) = .pointer (some ⟨w.heap.size, 3, none⟩) := T.at_ 11 22 (by kernel_rfl) (by kernel_rfl) (by kernel_rfl)
                have gb := (SS.out w5 hr).2.1
                exact ⟨.slice (some aa) n c, w5, by simp only [execOp, h1]; simp [go_sem, gb], PI.Post.pure ⟨fun w => Below.refl _ w, fun _ _ _ h k => h.trans (k.mono h.size)⟩ rfl trivial⟩
              · obtain rfl := Option.some.inj (show some _ = some o from ho)
                refine PI.shown_val_if 10 21 true rfl (by kernel_rfl) (by kernel_rfl) (by kernel_rfl) (fun v w h => h) fun a w5 L0 hr T => ?_
                have h1 : a.eval (.tmp 3) = .int .i64 (k : Int) := T.was 3 (by kernel_rfl)
                exact ⟨.int .i64 (k : Int), w5, by simp only [execOp, h1]; simp [go_sem], PI.Post.pure ⟨fun w => Below.refl _ w, fun _ _ _ h k => h.trans (k.mono h.size)⟩ rfl trivial⟩
              · obtain rfl := Option.some.inj (show some _ = some o from ho)
                refine PI.shown_val_if 10 21 true rfl (by kernel_rfl) (by kernel_rfl) (by kernel_rfl) (fun v w h => h) fun a w5 L0 hr T => ?_
                have h1 : a.eval (.tmp 23) = .slice (some aa) n c := T.at_ 12 23 (by kernel_rfl) (by kernel_rfl) (by kernel_rfl)
                have h2 : a.eval (.tmp 24) = .int .i64 (k : Int) := T.at_ 13 24 (by kernel_rfl) (by kernel_rfl) (by kernel_rfl)
                exact ⟨.pointer (some (aa.add (k * 6))), w5, by simp only [execOp, h1, h2]; simp [go_sem, Act.eval, k0, k1], PI.Post.pure ⟨fun w => Below.refl _ w, fun _ _ _ h k => h.trans (k.mono h.size)⟩ rfl trivial⟩
              · obtain rfl := Option.some.inj (show some _ = some o from ho)
                refine PI.shown_val_if 10 21 true rfl (by kernel_rfl) (by kernel_rfl) (by kernel_rfl) (fun v w h => h) fun a w5 L0 hr T => ?_
                have h1 : a.eval (.tmp 25) = .pointer (some (aa.add (k * 6))) := T.at_ 14 25 (by kernel_rfl) (by kernel_rfl) (by kernel_rfl)
                exact ⟨.pointer (some (aa.add (k * 6))), w5, by simp only [execOp, h1]; simp [go_sem], PI.Post.pure ⟨fun w => Below.refl _ w, fun _ _ _ h k => h.trans (k.mono h.size)⟩ rfl trivial⟩
              · obtain rfl := Option.some.inj (show some _ = some o from ho)
                refine PI.shown_val_if 10 21 true rfl (by kernel_rfl) (by kernel_rfl) (by kernel_rfl) (fun v w h => h) fun a w5 L0 hr T => ?_
                have h1 : a.eval (.tmp 26) = .pointer (some (aa.add (k * 6))) := T.at_ 15 26 (by kernel_rfl) (by kernel_rfl) (by kernel_rfl)
                have g0 := (SS.out w5 hr).1.1
                have g1 := (SS.out w5 hr).1.2.1
                exact ⟨.agg #[.int .u64 th, .int .u64 tl], w5, by simp only [execOp, h1]; simp [go_sem, g0, g1], PI.Post.pure ⟨fun w => Below.refl _ w, fun _ _ _ h k => h.trans (k.mono h.size)⟩ rfl trivial⟩
              · obtain rfl := Option.some.inj (show some _ = some o from ho)
                refine PI.shown_val_if 10 21 true rfl (by kernel_rfl) (by kernel_rfl) (by kernel_rfl) (fun v w h => h) fun a w5 L0 hr T => ?_
                have h1 : a.eval (.tmp 1) = .pointer (some ⟨w.heap.size, 0, none⟩) := T.was 1 (by kernel_rfl)
                exact ⟨.pointer (some ⟨w.heap.size, 3, none⟩), w5, by simp only [execOp, h1]; simp [go_sem], PI.Post.pure ⟨fun w => Below.refl _ w, fun _ _ _ h k => h.trans (k.mono h.size)⟩ rfl trivial⟩
              · obtain rfl := Option.some.inj (show some _ = some o from ho)
                refine PI.shown_val_if 10 21 true rfl (by kernel_rfl) (by kernel_rfl) (by kernel_rfl) (fun v w h => h) fun a w5 L0 hr T => ?_
                have h1 : a.eval (.tmp 28) = .pointer (some ⟨w.heap.size, 3, none⟩) := T.at_ 17 28 (by kernel_rfl) (by kernel_rfl) (by kernel_rfl)
                have gb := (SS.out w5 hr).2.1
                exact ⟨.slice (some aa) n c, w5, by simp only [execOp, h1]; simp [go_sem, gb], PI.Post.pure ⟨fun w => Below.refl _ w, fun _ _ _ h k => h.trans (k.mono h.size)⟩ rfl trivial⟩
              · obtain rfl := Option.some.inj (show some _ = some o from ho)
                refine PI.shown_val_if 10 21 true rfl (by kernel_rfl) (by kernel_rfl) (by kernel_rfl) (fun v w h => h) fun a w5 L0 hr T => ?_
                have h1 : a.eval (.tmp 3) = .int .i64 (k : Int) := T.was 3 (by kernel_rfl)
                exact ⟨.int .i64 (k : Int), w5, by simp only [execOp, h1]; simp [go_sem], PI.Post.pure ⟨fun w => Below.refl _ w, fun _ _ _ h k => h.trans (k.mono h.size)⟩ rfl trivial⟩
              · obtain rfl := Option.some.inj (show some _ = some o from ho)
                refine PI.shown_val_if 10 21 true rfl (by kernel_rfl) (by kernel_rfl) (by kernel_rfl) (fun v w h => h) fun a w5 L0 hr T => ?_
                have h1 : a.eval (.tmp 30) = .int .i64 (k : Int) := T.at_ 19 30 (by kernel_rfl) (by kernel_rfl) (by kernel_rfl)
                exact ⟨.int .i64 (j : Int), w5, by simp only [execOp, h1]; simp [go_sem, Act.eval, hwj, hwj2, hwj3], PI.Post.pure ⟨fun w => Below.refl _ w, fun _ _ _ h k => h.trans (k.mono h.size)⟩ rfl trivial⟩
              · obtain rfl := Option.some.inj (show some _ = some o from ho)
                refine PI.shown_val_if 10 21 true rfl (by kernel_rfl) (by kernel_rfl) (by kernel_rfl) (fun v w h => h) fun a w5 L0 hr T => ?_
                have h1 : a.eval (.tmp 29) = .slice (some aa) n c := T.at_ 18 29 (by kernel_rfl) (by kernel_rfl) (by kernel_rfl)
                have h2 : a.eval (.tmp 31) = .int .i64 (j : Int) := T.at_ 20 31 (by kernel_rfl) (by kernel_rfl) (by kernel_rfl)
                exact ⟨.pointer (some (aa.add (j * 6))), w5, by simp only [execOp, h1, h2]; simp [go_sem, Act.eval, p0, p1], PI.Post.pure ⟨fun w => Below.refl _ w, fun _ _ _ h k => h.trans (k.mono h.size)⟩ rfl trivial⟩
              · obtain rfl := Option.some.inj (show some _ = some o from ho)
                refine PI.shown_val_if 10 21 true rfl (by kernel_rfl) (by kernel_rfl) (by kernel_rfl) (fun v w h => h) fun a w5 L0 hr T => ?_
                have h1 : a.eval (.tmp 32) = .pointer (some (aa.add (j * 6))) := T.at_ 21 32 (by kernel_rfl) (by kernel_rfl) (by kernel_rfl)
                exact ⟨.pointer (some (aa.add (j * 6))), w5, by simp only [execOp, h1]; simp [go_sem], PI.Post.pure ⟨fun w => Below.refl _ w, fun _ _ _ h k => h.trans (k.mono h.size)⟩ rfl trivial⟩
              · obtain rfl := Option.some.inj (show some _ = some o from ho)
                refine PI.shown_val_if 10 21 true rfl (by kernel_rfl) (by kernel_rfl) (by kernel_rfl) (fun v w h => h) fun a w5 L0 hr T => ?_
                have h1 : a.eval (.tmp 33) = .pointer (some (aa.add (j * 6))) := T.at_ 22 33 (by kernel_rfl) (by kernel_rfl) (by kernel_rfl)
                have q0 := (SS.out w5 hr).2.2.1
                have q1 := (SS.out w5 hr).2.2.2
                exact ⟨.agg #[.int .u64 ph, .int .u64 pl], w5, by simp only [execOp, h1]; simp [go_sem, q0, q1], PI.Post.pure ⟨fun w => Below.refl _ w, fun _ _ _ h k => h.trans (k.mono h.size)⟩ rfl trivial⟩
              · obtain rfl := Option.some.inj (show some _ = some o from ho)
                refine PI.shown_call_if 10 21 true rfl (by kernel_rfl) (by kernel_rfl) (by kernel_rfl) (fun v w h => h) 32 fun a w5 L0 hr T => ?_
                have h0 : a.eval (.tmp 27) = .agg #[.int .u64 th, .int .u64 tl] := T.at_ 16 27 (by kernel_rfl) (by kernel_rfl) (by kernel_rfl)
                have h1 : a.eval (.tmp 34) = .agg #[.int .u64 ph, .int .u64 pl] := T.at_ 23 34 (by kernel_rfl) (by kernel_rfl) (by kernel_rfl)
                refine ⟨#[.agg #[.int .u64 th, .int .u64 tl], .agg #[.int .u64 ph, .int .u64 pl]], by simp only [execOp, resolve, List.map_toArray, List.map_cons, List.map_nil, h0, h1]; simp [go_sem, Act.eval], ?_⟩
                refine (LTC.out w5 hr).mono fun e w6 hh => ?_
                obtain ⟨rfl, hb6⟩ := hh
                exact ⟨_, rfl, hb6, rfl, fun _ _ h => h, fun j v _ _ _ _ h => DbL.keep h, trivial⟩
              · obtain rfl := Option.some.inj (show some _ = some o from ho)
                refine PI.shown_val_if 7 18 false rfl (by kernel_rfl) (by kernel_rfl) (by kernel_rfl) (fun v w h => h) fun a w5 L0 hr T => ?_
                have h0 : a.eval (.tmp 21) = .bool true := T.at_ 10 21 (by kernel_rfl) (by kernel_rfl) (by kernel_rfl)
                have h1 : a.eval (.tmp 35) = .bool true := T.at_ 24 35 (by kernel_rfl) (by kernel_rfl) (by kernel_rfl)
                exact ⟨.bool true, w5, by simp only [execOp, h0, h1]; simp [go_sem, Act.eval], PI.Post.pure ⟨fun w => Below.refl _ w, fun _ _ _ h k => h.trans (k.mono h.size)⟩ rfl trivial⟩
              · obtain rfl := Option.some.inj (show some _ = some o from ho)
                refine PI.shown_val rfl fun a w5 L0 hr T => ?_
                have h0 : a.eval (.tmp 18) = .bool false := T.at_ 7 18 (by kernel_rfl) (by kernel_rfl) (by kernel_rfl)
                have h2 : a.eval (.tmp 36) = .bool true := T.at_ 25 36 (by kernel_rfl) (by kernel_rfl) (by kernel_rfl)
                exact ⟨.bool true, w5, by simp only [execOp, h0, h2]; simp [go_sem, Act.eval], PI.Post.pure ⟨fun w => Below.refl _ w, fun _ _ _ h k => h.trans (k.mono h.size)⟩ rfl trivial⟩
              · cases ho
            · rw [← hW]
              intro xx w9 hr hf he _
              have h14 := hf 26 _ 37 rfl rfl (by decide)
              have hx14 : xx 26 = .bool true := h14
              have HB9 : Hid (Below (w.heap.size + 1) (w.alloc (.cells #[.int .i64 nu, .int .i64 bo, .int .i64 ti, .slice (some aa) n c] 24)) w9) := Lib.hid (HBR.out.trans (hr.mono (Nat.le_trans hsr HBW2.out.size)))
              clear hf he hr h14
              simp only [PI.putAll, Act.put, List.setIfInBounds_toArray, List.set_cons_zero, List.set_cons_succ, Nat.zero_add, Nat.reduceAdd]
              rw [hx14]
              go_wp2_with fail
              go_ret
              exact ⟨by rw [HF.out, (rightEs_bad HKL.out HBD.out), Bool.and_false] <;> rfl, HBW.out _ HB9.out⟩

    · obtain rfl : k = n := by omega
      have HE : Hid (rightEs L = true) := Lib.hid (by have h := HK.out; unfold rightEs; rw [HLN.out]; exact h)
      have b0 : wr.cell? ⟨w.heap.size, 0, none⟩ = some (.int .i64 nu) := cell_of_row _ _ 0 _ _ (0, 0) hT
      have b1 : wr.cell? ⟨w.heap.size, 1, none⟩ = some (.int .i64 bo) := cell_of_row _ _ 1 _ _ (0, 0) hT
      have b2 : wr.cell? ⟨w.heap.size, 2, none⟩ = some (.int .i64 ti) := cell_of_row _ _ 2 _ _ (0, 0) hT
      have HQ : Hid (fw = (cntI nu && (cntI bo && cntI ti))) := Lib.hid (by rw [HF.out, HE.out, Bool.and_true])
      clear hT
      generalize cntI nu = x1 at *
      generalize cntI bo = x2 at *
      generalize cntI ti = x3 at *
      cases x1 <;> cases x2
      all_goals
        go_wp2_with (first
      | (go_at_call 65; (with_reducible refine (E1.out _).mono ?_); rintro e w1 ⟨rfl, hw⟩; subst hw)
      | (go_at_call 65; (with_reducible refine (E2.out _).mono ?_); rintro e w1 ⟨rfl, hw⟩; subst hw)
      | (go_at_call 65; (with_reducible refine (E3.out _).mono ?_); rintro e w1 ⟨rfl, hw⟩; subst hw))
        go_ret
        exact ⟨by rw [HQ.out] <;> rfl, HBW.out _ HB.out⟩
end Go.Proofs.Ytchcjbapbdfhkaa

namespace Go.Proofs.Ytchcjbapbdfhkaa
open Go.RowKit Go.Maps
set_option linter.unusedVariables false
set_option linter.unusedSimpArgs false
set_option maxRecDepth 100000

structure RG (base k N : Nat) (g : Option Nat) (w w' : World) : Prop where
  bel : Below base w w'
  box : w'.heap[k]? = w.heap[k]?
  gb : ∀ i, i < N → some i ≠ g → w'.heap[i]? = w.heap[i]?
theorem RG.goes {base k N : Nat} {g : Option Nat} : PI.Goes (RG base k N g) := ⟨fun w => ⟨Below.refl _ w, rfl, fun _ _ _ => rfl⟩, fun _ _ _ h q => ⟨h.1.trans q.1, q.2.trans h.2, fun i hi hn => (q.3 i hi hn).trans (h.3 i hi hn)⟩⟩
def BlkOf (N : Nat) (g : Option Nat) (u : Value) : Prop := u.ownBlock = g ∨ ∃ q, u.ownBlock = some q ∧ N ≤ q
theorem BlkOf.ne {N : Nat} {g : Option Nat} {u : Value} (h : BlkOf N g u) {i : Nat} (hi : i < N) (hn : some i ≠ g) : some i ≠ u.ownBlock := by
  rcases h with h | ⟨q, h, hq⟩
  · rw [h]; exact hn
  · rw [h]; intro e; injection e with e; omega
theorem BlkOf.step {N : Nat} {g : Option Nat} {u u' : Value} {w : World} (h : BlkOf N g u) (hN : N ≤ w.heap.size) (hb : u'.ownBlock = u.ownBlock ∨ ∃ q, u'.ownBlock = some q ∧ w.heap.size ≤ q) : BlkOf N g u' := by
  rcases hb with e | ⟨q, e, hq⟩
  · unfold BlkOf; rw [e]; exact h
  · exact .inr ⟨q, e, Nat.le_trans hN hq⟩
def TrF (t0 t1 k base N : Nat) (v : Value) (L : List UInt8) : Nat → Value → World → Prop
  | 0, u, _ => u = v
  | 1, u, _ => u = .pointer (some ⟨k, 0, none⟩)
  | 2, u, _ => u = .int .u64 (t0 : Int)
  | 3, u, w => w.ownsRow base 5 1 u ((L ++ Mi.put t0)).length (((L ++ Mi.put t0)).map B8) ∧ BlkOf N v.ownBlock u
  | 4, u, _ => u = .pointer (some ⟨k, 1, none⟩)
  | 5, u, _ => u = .int .u64 (t1 : Int)
  | 6, u, w => w.ownsRow base 5 1 u (((L ++ Mi.put t0) ++ Mi.put t1)).length ((((L ++ Mi.put t0) ++ Mi.put t1)).map B8) ∧ BlkOf N v.ownBlock u
  | 7, u, w => w.ownsRow base 5 1 u (((L ++ Mi.put t0) ++ Mi.put t1)).length ((((L ++ Mi.put t0) ++ Mi.put t1)).map B8) ∧ BlkOf N v.ownBlock u
  | _, _, _ => True
theorem TrF.other {i : Nat} {u : Value} {t0 t1 k base N : Nat} {v : Value} {L : List UInt8} {w w' : World} (h : TrF t0 t1 k base N v L i u w) (hi : ¬ (i = 3 ∨ i = 6 ∨ i = 7)) : TrF t0 t1 k base N v L i u w' := by
  match i, h, hi with
  | 0, h, hi => exact h
  | 1, h, hi => exact h
  | 2, h, hi => exact h
  | 3, h, hi => exact absurd (by decide) hi
  | 4, h, hi => exact h
  | 5, h, hi => exact h
  | 6, h, hi => exact absurd (by decide) hi
  | 7, h, hi => exact absurd (by decide) hi
  | _ + 8, h, hi => trivial
set_option maxHeartbeats 8000000 in
theorem dtrace_any (t0 t1 : Nat) (base : Nat) (v : Value) (L : List UInt8) (w : World) (hown : w.ownsRow base 5 1 v (L).length ((L).map B8)) (hbase : base ≤ w.heap.size) (hl : L.length ≤ 100000000) (q0 : t0 < 18446744073709551616) (q1 : t1 < 18446744073709551616) :
    Calls Try.prog 68 #[v, .agg #[.int .u64 (t0 : Int), .int .u64 (t1 : Int)]] w fun e w' => ∃ v', e = .returned v' ∧ w'.ownsRow base 5 1 v' (((L ++ Mi.put t0) ++ Mi.put t1)).length ((((L ++ Mi.put t0) ++ Mi.put t1)).map B8) ∧ Grew w w' v v' := by
  have l0 := (Mi.put_len t0).2
  have l1 := (Mi.put_len t1).2
  obtain ⟨L2, hL2⟩ : ∃ L', L' = ((L ++ Mi.put t0) ++ Mi.put t1) := ⟨_, rfl⟩
  rw [← hL2]
  have HL2 := Lib.hid hL2
  clear hL2
  obtain ⟨k, hk⟩ : ∃ k, k = w.heap.size := ⟨_, rfl⟩
  obtain ⟨N, hNe⟩ : ∃ N, N = w.heap.size := ⟨_, rfl⟩
  have HX0 := Lib.hid (heap_alloc_new w (.cells #[.int .u64 (t0 : Int), .int .u64 (t1 : Int)] 28))
  have HB0 := Lib.hid ((Below.refl w.heap.size w).alloc (Nat.le_refl _) (.cells #[.int .u64 (t0 : Int), .int .u64 (t1 : Int)] 28))
  have HO0 := Lib.hid (own_below hown HB0.out)
  have hz0 : (w.alloc (.cells #[.int .u64 (t0 : Int), .int .u64 (t1 : Int)] 28)).heap.size = w.heap.size + 1 := by simp
  clear hown
  go_enter Try.func68, Try.ntmps68
  go_wp2_with fail
  generalize w.alloc (.cells #[.int .u64 (t0 : Int), .int .u64 (t1 : Int)] 28) = W0 at *
  try rw [← hk]
  have HO : Hid (W0.drew.ownsRow base 5 1 v (L).length ((L).map B8)) := Lib.hid HO0.out
  have HX : Hid (W0.drew.heap[k]? = some (.cells #[.int .u64 (t0 : Int), .int .u64 (t1 : Int)] 28)) := Lib.hid (by rw [hk]; exact HX0.out)
  have HB : Hid (Below w.heap.size w W0.drew) := Lib.hid ⟨HB0.out.os, HB0.out.tape, HB0.out.output, HB0.out.size, HB0.out.block⟩
  have hN : N ≤ W0.drew.heap.size := by show N ≤ W0.heap.size; omega
  replace hbase : base ≤ W0.drew.heap.size := by show base ≤ W0.heap.size; omega
  clear HX0 HB0 HO0
  refine PI.wp_region_persG (R := RG base k N v.ownBlock) (G := fun _ _ => True) (I := fun L0 _ w => L0 3 = false → w.ownsRow base 5 1 v L.length (L.map B8)) [(2, 1), (3, 0), (3, 2), (5, 4), (6, 3), (6, 5), (7, 6)] [7] (by kernel_rfl) (PI.formed_of (by kernel_rfl)) RG.goes (fun _ => trivial) (TrF t0 t1 k base N v L) (fun _ => HO.out) ?_ ?_
  · intro i o ho
    rcases i with _ | _ | _ | _ | _ | _ | _ | _ | i
    · obtain rfl := Option.some.inj (show some _ = some o from ho)
      refine PI.shown_val rfl fun a w3 L0 hr T => ?_
      have h0 : a.eval (.tmp 0) = v := T.was 0 (by kernel_rfl)
      exact ⟨v, w3, by simp only [execOp, h0]; simp [go_sem], PI.Post.pure RG.goes rfl (fun hl => T.inv hl)⟩
    · obtain rfl := Option.some.inj (show some _ = some o from ho)
      refine PI.shown_val rfl fun a w3 L0 hr T => ?_
      have h3 : a.eval (.tmp 3) = .pointer (some ⟨k, 0, none⟩) := T.was 3 (by kernel_rfl)
      exact ⟨.pointer (some ⟨k, 0, none⟩), w3, by simp only [execOp, h3]; simp [go_sem], PI.Post.pure RG.goes rfl (fun hl => T.inv hl)⟩
    · obtain rfl := Option.some.inj (show some _ = some o from ho)
      refine PI.shown_val rfl fun a w3 L0 hr T => ?_
      have h6 : a.eval (.tmp 6) = .pointer (some ⟨k, 0, none⟩) := T.at_ 1 6 (by kernel_rfl) (by kernel_rfl) (by kernel_rfl)
      have hc : w3.cell? ⟨k, 0, none⟩ = some (.int .u64 (t0 : Int)) := cell_of_row _ _ 0 _ _ (0, 0) (hr.2.trans HX.out)
      exact ⟨.int .u64 (t0 : Int), w3, by simp only [execOp, h6]; simp [go_sem, hc], PI.Post.pure RG.goes rfl (fun hl => T.inv hl)⟩
    · obtain rfl := Option.some.inj (show some _ = some o from ho)
      refine PI.shown_call rfl 34 fun a w3 L0 hr T => ?_
      have h5 : a.eval (.tmp 5) = v := T.at_ 0 5 (by kernel_rfl) (by kernel_rfl) (by kernel_rfl)
      have h1 : w3.ownsRow base 5 1 (a.eval (.tmp 5)) (L).length ((L).map B8) := by rw [h5]; exact T.inv T.yetNot
      have h1b : BlkOf N v.ownBlock (a.eval (.tmp 5)) := by rw [h5]; exact .inl rfl
      have h7 : a.eval (.tmp 7) = .int .u64 (t0 : Int) := T.at_ 2 7 (by kernel_rfl) (by kernel_rfl) (by kernel_rfl)
      refine ⟨#[a.eval (.tmp 5), .int .u64 (t0 : Int)], by simp only [execOp, resolve, List.map_toArray, List.map_cons, List.map_nil, h7]; simp [go_sem, Act.eval], ?_⟩
      refine (rput_calls base _ _ t0 w3 h1 (Nat.le_trans hbase hr.1.size) (by (try simp only [List.length_append]); omega) (by omega)).mono fun e w4 hh => ?_
      obtain ⟨u4, rfl, ho4, hg4⟩ := hh
      have hX3 := hr.2.trans HX.out
      refine ⟨_, rfl, ⟨hg4.below (Below.refl _ _) (Nat.le_trans hbase hr.1.size) (own_block_ge h1), hg4.grown.block k (in_heap hX3) (Ne.symm (own_not h1 hX3 (by decide))), fun i hi hne => hg4.grown.block i (Nat.lt_of_lt_of_le hi (Nat.le_trans hN hr.1.size)) (h1b.ne hi hne)⟩, ⟨ho4, h1b.step (Nat.le_trans hN hr.1.size) hg4.blk⟩, fun _ _ h => h, fun j u hj hLj hnd hw h => ?_, fun hl => by exfalso; simp [PI.upd] at hl⟩
      by_cases hjr : j = 3 ∨ j = 6 ∨ j = 7
      · rcases hjr with rfl | rfl | rfl
        · exact absurd rfl hj
        · exact absurd (T.shut_ 6 3 (by kernel_rfl) hLj) (by rw [T.yetNot]; decide)
        · exact absurd (T.shut_ 6 3 (by kernel_rfl) (T.shut_ 7 6 (by kernel_rfl) hLj)) (by rw [T.yetNot]; decide)
      · exact TrF.other h hjr
    · obtain rfl := Option.some.inj (show some _ = some o from ho)
      refine PI.shown_val rfl fun a w3 L0 hr T => ?_
      have h3 : a.eval (.tmp 3) = .pointer (some ⟨k, 0, none⟩) := T.was 3 (by kernel_rfl)
      exact ⟨.pointer (some ⟨k, 1, none⟩), w3, by simp only [execOp, h3]; simp [go_sem], PI.Post.pure RG.goes rfl (fun hl => T.inv hl)⟩
    · obtain rfl := Option.some.inj (show some _ = some o from ho)
      refine PI.shown_val rfl fun a w3 L0 hr T => ?_
      have h9 : a.eval (.tmp 9) = .pointer (some ⟨k, 1, none⟩) := T.at_ 4 9 (by kernel_rfl) (by kernel_rfl) (by kernel_rfl)
      have hc : w3.cell? ⟨k, 1, none⟩ = some (.int .u64 (t1 : Int)) := cell_of_row _ _ 1 _ _ (0, 0) (hr.2.trans HX.out)
      exact ⟨.int .u64 (t1 : Int), w3, by simp only [execOp, h9]; simp [go_sem, hc], PI.Post.pure RG.goes rfl (fun hl => T.inv hl)⟩
    · obtain rfl := Option.some.inj (show some _ = some o from ho)
      refine PI.shown_call rfl 34 fun a w3 L0 hr T => ?_
      have h1c : w3.ownsRow base 5 1 (a.eval (.tmp 8)) ((L ++ Mi.put t0)).length (((L ++ Mi.put t0)).map B8) ∧ BlkOf N v.ownBlock (a.eval (.tmp 8)) := T.at_ 3 8 (by kernel_rfl) (by kernel_rfl) (by kernel_rfl)
      have h1 := h1c.1
      have h1b := h1c.2
      have h10 : a.eval (.tmp 10) = .int .u64 (t1 : Int) := T.at_ 5 10 (by kernel_rfl) (by kernel_rfl) (by kernel_rfl)
      refine ⟨#[a.eval (.tmp 8), .int .u64 (t1 : Int)], by simp only [execOp, resolve, List.map_toArray, List.map_cons, List.map_nil, h10]; simp [go_sem, Act.eval], ?_⟩
      refine (rput_calls base _ _ t1 w3 h1 (Nat.le_trans hbase hr.1.size) (by (try simp only [List.length_append]); omega) (by omega)).mono fun e w4 hh => ?_
      obtain ⟨u4, rfl, ho4, hg4⟩ := hh
      have hX3 := hr.2.trans HX.out
      have hl3 : L0 3 = true := PI.ToldG.done_ T 3 (by kernel_rfl)
      refine ⟨_, rfl, ⟨hg4.below (Below.refl _ _) (Nat.le_trans hbase hr.1.size) (own_block_ge h1), hg4.grown.block k (in_heap hX3) (Ne.symm (own_not h1 hX3 (by decide))), fun i hi hne => hg4.grown.block i (Nat.lt_of_lt_of_le hi (Nat.le_trans hN hr.1.size)) (h1b.ne hi hne)⟩, ⟨ho4, h1b.step (Nat.le_trans hN hr.1.size) hg4.blk⟩, fun _ _ h => h, fun j u hj hLj hnd hw h => ?_, fun hl => by exfalso; simp [PI.upd, hl3] at hl⟩
      by_cases hjr : j = 3 ∨ j = 6 ∨ j = 7
      · rcases hjr with rfl | rfl | rfl
        · simp [PI.needB] at hnd
        · exact absurd rfl hj
        · exact absurd (T.shut_ 7 6 (by kernel_rfl) hLj) (by rw [T.yetNot]; decide)
      · exact TrF.other h hjr
    · obtain rfl := Option.some.inj (show some _ = some o from ho)
      refine PI.shown_val rfl fun a w3 L0 hr T => ?_
      have h1 : w3.ownsRow base 5 1 (a.eval (.tmp 11)) (((L ++ Mi.put t0) ++ Mi.put t1)).length ((((L ++ Mi.put t0) ++ Mi.put t1)).map B8) ∧ BlkOf N v.ownBlock (a.eval (.tmp 11)) := T.at_ 6 11 (by kernel_rfl) (by kernel_rfl) (by kernel_rfl)
      exact ⟨a.eval (.tmp 11), w3, by simp only [execOp]; simp [go_sem], PI.Post.pure RG.goes h1 (fun hl => T.inv hl)⟩
    · cases ho
  · intro x w5 hr hf he _
    have h1 := hf 7 _ 4 rfl rfl (by decide)
    change w5.ownsRow base 5 1 (x 7) (((L ++ Mi.put t0) ++ Mi.put t1)).length ((((L ++ Mi.put t0) ++ Mi.put t1)).map B8) ∧ BlkOf N v.ownBlock (x 7) at h1
    have H1 := Lib.hid h1
    have HR := Lib.hid hr
    simp only [PI.putAll, Act.put, List.setIfInBounds_toArray, List.set_cons_zero, List.set_cons_succ]
    clear hf he h1 hr
    go_wp2_with fail
    go_ret
    exact ⟨_, rfl, by rw [HL2.out]; exact H1.out.1, ⟨⟨HR.out.1.os.trans HB.out.os, HR.out.1.tape.trans HB.out.tape, HR.out.1.output.trans HB.out.output, Nat.le_trans HB.out.size HR.out.1.size, fun i hi hne => (HR.out.3 i (by rw [hNe]; exact hi) hne).trans (HB.out.block i hi)⟩, by rcases H1.out.2 with h | ⟨q, h, hq⟩; exact .inl h; exact .inr ⟨q, h, by rw [← hNe]; exact hq⟩⟩⟩
set_option maxHeartbeats 8000000 in
theorem dputs_any (a0 a1 a2 n g : Nat) (w : World) (hlit : w.heap[g]? = some (.cells #[.int .i64 (a0 : Int), .int .i64 (a1 : Int), .int .i64 (a2 : Int), .int .i64 (n : Int)] 3)) (h0 : a0 ≤ 1099511627776) (h1 : a1 ≤ 1099511627776) (h2 : a2 ≤ 1099511627776) (h3 : n ≤ 1099511627776) :
    Calls Try.prog 66 #[.slice none 0 0, .slice (some ⟨g, 0, none⟩) 4 4] w fun e w' => ∃ v', e = .returned v' ∧ w'.ownsRow w.heap.size 5 1 v' (headN a0 a1 a2 n 4).length ((headN a0 a1 a2 n 4).map B8) ∧ Below w.heap.size w w' := by
  have hadd : ∀ k : Nat, (⟨g, 0, none⟩ : Addr).add k = ⟨g, k, none⟩ := fun k => by rw [Addr.add_lit, Nat.zero_add]
  have HLIT := Lib.hid hlit
  have hgl := in_heap hlit
  clear hlit
  go_enter Try.func66, Try.ntmps66
  go_wp2_with fail
  go_loopw [5, 0] (fun iv v wr => ∃ k : Nat, iv = .int .i64 (k : Int) ∧ k ≤ 4 ∧ Hid (wr.ownsRow w.heap.size 5 1 v (headN a0 a1 a2 n k).length ((headN a0 a1 a2 n k).map B8)) ∧ Hid (Below w.heap.size w wr)) (fun iv _ _ => 4 - (intOf iv).toNat)
  case atStart => exact ⟨0, rfl, by omega, Lib.hid (World.ownsRow_nil _ _ _ _), Lib.hid (Below.refl _ _)⟩
  case round =>
    obtain ⟨k, rfl, hk, HO, HB⟩ := hrel
    by_cases hlt : k < 4
    · have hlit := (HB.out.block g hgl).trans HLIT.out
      obtain ⟨x, hxd⟩ : ∃ x, x = nth4 a0 a1 a2 n k := ⟨_, rfl⟩
      have cx : wr.cell? ⟨g, k, none⟩ = some (.int .i64 (x : Int)) := by
        rw [hxd]
        rcases k with _ | _ | _ | _ | k
        · exact cell_of_row _ _ 0 _ _ (0, 0) hlit
        · exact cell_of_row _ _ 1 _ _ (0, 0) hlit
        · exact cell_of_row _ _ 2 _ _ (0, 0) hlit
        · exact cell_of_row _ _ 3 _ _ (0, 0) hlit
        · omega
      have hx64 : x ≤ 1099511627776 := by
        rw [hxd]
        rcases k with _ | _ | _ | _ | k
        · exact h0
        · exact h1
        · exact h2
        · exact h3
        · omega
      have hxw : IntKind.u64.wrap (x : Int) = (x : Int) := by rw [IntKind.wrap_u64]; omega
      have C1 := Lib.hid (rput_calls w.heap.size _ (headN a0 a1 a2 n k) x wr HO.out HB.out.size (by have := headN_len a0 a1 a2 n k; omega) (by omega))
      have HSTP := Lib.hid (headN_step a0 a1 a2 n k hlt)
      rw [← hxd] at HSTP
      clear hlit hxd
      go_wp2_with (go_at_call 34; (with_reducible refine C1.out.mono ?_); rintro e w9 ⟨v9, rfl, ho9, hg9⟩; have HO9 := Lib.hid ho9; have HB9 := Lib.hid (hg9.below HB.out HB.out.size (own_block_ge HO.out)); clear ho9 hg9)
      go_roundw
      case rel => exact ⟨k + 1, by go_num, by omega, Lib.hid (by rw [HSTP.out]; exact HO9.out), HB9⟩
      case measure => simp [intOf]; omega
    · obtain rfl : k = 4 := by omega
      go_wp2_with fail
      go_ret
      exact ⟨_, rfl, HO.out, HB.out⟩
def BoG (th tl : Int) (fn ln : Nat) (su : Bool) (m ec bt : Nat) (eA : Option Addr) (k base N : Nat) (v : Value) (L : List UInt8) : Nat → Value → World → Prop
  | 0, u, _ => u = v
  | 1, u, _ => u = .pointer (some ⟨k, 4, none⟩)
  | 2, u, _ => u = .bool su
  | 3, u, _ => u = .int .u64 (bt : Int)
  | 4, u, w => w.ownsRow base 5 1 u ((L ++ Mi.put bt)).length (((L ++ Mi.put bt)).map B8) ∧ BlkOf N v.ownBlock u
  | 5, u, _ => u = .pointer (some ⟨k, 5, none⟩)
  | 6, u, _ => u = .slice eA m ec
  | 7, u, _ => u = .int .i64 (m : Int)
  | 8, u, _ => u = .int .u64 (m : Int)
  | 9, u, w => w.ownsRow base 5 1 u (((L ++ Mi.put bt) ++ Mi.put m)).length ((((L ++ Mi.put bt) ++ Mi.put m)).map B8) ∧ BlkOf N v.ownBlock u
  | 10, u, w => w.ownsRow base 5 1 u (((L ++ Mi.put bt) ++ Mi.put m)).length ((((L ++ Mi.put bt) ++ Mi.put m)).map B8) ∧ BlkOf N v.ownBlock u
  | _, _, _ => True
theorem BoG.other {i : Nat} {u : Value} {th tl : Int} {fn ln : Nat} {su : Bool} {m ec bt : Nat} {eA : Option Addr} {k base N : Nat} {v : Value} {L : List UInt8} {w w' : World} (h : BoG th tl fn ln su m ec bt eA k base N v L i u w) (hi : ¬ (i = 4 ∨ i = 9 ∨ i = 10)) : BoG th tl fn ln su m ec bt eA k base N v L i u w' := by
  match i, h, hi with
  | 0, h, hi => exact h
  | 1, h, hi => exact h
  | 2, h, hi => exact h
  | 3, h, hi => exact h
  | 4, h, hi => exact absurd (by decide) hi
  | 5, h, hi => exact h
  | 6, h, hi => exact h
  | 7, h, hi => exact h
  | 8, h, hi => exact h
  | 9, h, hi => exact absurd (by decide) hi
  | 10, h, hi => exact absurd (by decide) hi
  | _ + 11, h, hi => trivial
def BoF (th tl : Int) (fn ln : Nat) (su : Bool) (m ec bt : Nat) (eA : Option Addr) (k base N : Nat) (v : Value) (L : List UInt8) : Nat → Value → World → Prop
  | 0, u, _ => u = v
  | 1, u, _ => u = .pointer (some ⟨k, 2, none⟩)
  | 2, u, _ => u = .int .i64 (fn : Int)
  | 3, u, _ => u = .int .u64 (fn : Int)
  | 4, u, w => w.ownsRow base 5 1 u ((L ++ Mi.put fn)).length (((L ++ Mi.put fn)).map B8) ∧ BlkOf N v.ownBlock u
  | 5, u, _ => u = .pointer (some ⟨k, 3, none⟩)
  | 6, u, _ => u = .int .i64 (ln : Int)
  | 7, u, _ => u = .int .u64 (ln : Int)
  | 8, u, w => w.ownsRow base 5 1 u (((L ++ Mi.put fn) ++ Mi.put ln)).length ((((L ++ Mi.put fn) ++ Mi.put ln)).map B8) ∧ BlkOf N v.ownBlock u
  | 9, u, w => w.ownsRow base 5 1 u (((L ++ Mi.put fn) ++ Mi.put ln)).length ((((L ++ Mi.put fn) ++ Mi.put ln)).map B8) ∧ BlkOf N v.ownBlock u
  | _, _, _ => True
theorem BoF.other {i : Nat} {u : Value} {th tl : Int} {fn ln : Nat} {su : Bool} {m ec bt : Nat} {eA : Option Addr} {k base N : Nat} {v : Value} {L : List UInt8} {w w' : World} (h : BoF th tl fn ln su m ec bt eA k base N v L i u w) (hi : ¬ (i = 4 ∨ i = 8 ∨ i = 9)) : BoF th tl fn ln su m ec bt eA k base N v L i u w' := by
  match i, h, hi with
  | 0, h, hi => exact h
  | 1, h, hi => exact h
  | 2, h, hi => exact h
  | 3, h, hi => exact h
  | 4, h, hi => exact absurd (by decide) hi
  | 5, h, hi => exact h
  | 6, h, hi => exact h
  | 7, h, hi => exact h
  | 8, h, hi => exact absurd (by decide) hi
  | 9, h, hi => exact absurd (by decide) hi
  | _ + 10, h, hi => trivial
set_option maxHeartbeats 32000000 in
theorem dbody_nat (th tl : Int) (fn ln : Nat) (su : Bool) (eA : Option Addr) (el : List Ls) (m ec B : Nat) (w : World) (hm : m = el.length) (hy : RdSps w B eA el) (hB : B ≤ w.heap.size) (hf1 : fn ≤ 1099511627776) (hf2 : ln ≤ 1099511627776) (hm60 : m ≤ 60) (hr : ∀ s ∈ el.map Ls.s, right s = true) :
    Calls Try.prog 67 #[.slice none 0 0, .agg #[.int .u64 th, .int .u64 tl, .int .i64 (fn : Int), .int .i64 (ln : Int), .bool su, .slice eA m ec]] w fun e w' => ∃ v', e = .returned v' ∧ w'.ownsRow w.heap.size 5 1 v' (bodyE ⟨th, tl, (fn : Int), (ln : Int), su, el.map Ls.s⟩).length ((bodyE ⟨th, tl, (fn : Int), (ln : Int), su, el.map Ls.s⟩).map B8) ∧ Below w.heap.size w w' := by
  obtain ⟨k, hk⟩ : ∃ k, k = w.heap.size := ⟨_, rfl⟩
  obtain ⟨N, hNe⟩ : ∃ N, N = w.heap.size := ⟨_, rfl⟩
  obtain ⟨base, hbe⟩ : ∃ base, base = w.heap.size + 1 := ⟨_, rfl⟩
  obtain ⟨bt, hbt⟩ : ∃ bt : Nat, bt = (if su then 1 else 0) := ⟨_, rfl⟩
  have HBIT : Hid (∀ W, Calls Try.prog 97 #[.bool su] W fun e w' => e = .returned (.int .u64 (bt : Int)) ∧ W = w') := Lib.hid (fun W => by rw [hbt]; exact bit_any su W)
  have qb : bt ≤ 1 := by rw [hbt]; split <;> omega
  have HFIN : Hid (bodyE ⟨th, tl, (fn : Int), (ln : Int), su, el.map Ls.s⟩ = (((([] ++ Mi.put fn) ++ Mi.put ln) ++ Mi.put bt) ++ Mi.put m) ++ encS (el.map Ls.s)) := Lib.hid (by
    have hf : flag su = Mi.put bt := by rw [hbt]; cases su <;> decide
    unfold bodyE
    simp only [Int.toNat_natCast, List.length_map, ← hm, hf, List.nil_append, List.append_assoc])
  have l1 := (Mi.put_len fn).2
  have l2 := (Mi.put_len ln).2
  have l3 := (Mi.put_len bt).2
  have l4 := (Mi.put_len m).2
  have HMN := Lib.hid hm
  have HRR := Lib.hid hr
  have HX0 := Lib.hid (heap_alloc_new w (.cells #[.int .u64 th, .int .u64 tl, .int .i64 (fn : Int), .int .i64 (ln : Int), .bool su, .slice eA m ec] 48))
  have HB0 := Lib.hid ((Below.refl w.heap.size w).alloc (Nat.le_refl _) (.cells #[.int .u64 th, .int .u64 tl, .int .i64 (fn : Int), .int .i64 (ln : Int), .bool su, .slice eA m ec] 48))
  have HY0 : Hid (RdSps (w.alloc (.cells #[.int .u64 th, .int .u64 tl, .int .i64 (fn : Int), .int .i64 (ln : Int), .bool su, .slice eA m ec] 48)) B eA el) := Lib.hid (hy.below (HB0.out.mono hB))
  have hz0 : (w.alloc (.cells #[.int .u64 th, .int .u64 tl, .int .i64 (fn : Int), .int .i64 (ln : Int), .bool su, .slice eA m ec] 48)).heap.size = w.heap.size + 1 := by simp
  clear hm hy hr hbt
  go_enter Try.func67, Try.ntmps67
  go_wp2_with fail
  generalize w.alloc (.cells #[.int .u64 th, .int .u64 tl, .int .i64 (fn : Int), .int .i64 (ln : Int), .bool su, .slice eA m ec] 48) = W0 at *
  have hBb : B ≤ base := by omega
  have hbase0 : base ≤ W0.heap.size := by omega
  have hkb : k < base := by omega
  rw [← hk] at HX0
  (try rw [← hk])
  obtain ⟨v, hv⟩ : ∃ v, v = Value.slice none 0 0 := ⟨_, rfl⟩
  obtain ⟨L, hL⟩ : ∃ L : List UInt8, L = [] := ⟨_, rfl⟩
  have HO : Hid (W0.drew.ownsRow base 5 1 v (L).length ((L).map B8)) := Lib.hid (by rw [hv, hL]; exact World.ownsRow_nil _ _ _ _)
  have HX : Hid (W0.drew.heap[k]? = some (.cells #[.int .u64 th, .int .u64 tl, .int .i64 (fn : Int), .int .i64 (ln : Int), .bool su, .slice eA m ec] 48)) := Lib.hid HX0.out
  have HB : Hid (Below base W0 W0.drew) := Lib.hid ⟨rfl, rfl, rfl, Nat.le_refl _, fun _ _ => rfl⟩
  have hN : N ≤ W0.drew.heap.size := by show N ≤ W0.heap.size; omega
  have hbase : base ≤ W0.drew.heap.size := hbase0
  have hl : L.length ≤ 0 := by rw [hL]; simp
  have HLa := Lib.hid hL
  rw [← hv]
  clear hL hv
  refine PI.wp_region_persG (R := RG base k N v.ownBlock) (G := fun _ _ => True) (I := fun L0 _ w => L0 4 = false → w.ownsRow base 5 1 v L.length (L.map B8)) [(2, 1), (3, 2), (4, 0), (4, 3), (6, 5), (7, 6), (8, 4), (8, 7), (9, 8)] [9] (by kernel_rfl) (PI.formed_of (by kernel_rfl)) RG.goes (fun _ => trivial) (BoF th tl fn ln su m ec bt eA k base N v L) (fun _ => HO.out) ?_ ?_
  · intro i o ho
    rcases i with _ | _ | _ | _ | _ | _ | _ | _ | _ | _ | i
    · obtain rfl := Option.some.inj (show some _ = some o from ho)
      refine PI.shown_val rfl fun a w3 L0 hr T => ?_
      have h0 : a.eval (.tmp 0) = v := T.was 0 (by kernel_rfl)
      exact ⟨v, w3, by simp only [execOp, h0]; simp [go_sem], PI.Post.pure RG.goes rfl (fun hl => T.inv hl)⟩
    · obtain rfl := Option.some.inj (show some _ = some o from ho)
      refine PI.shown_val rfl fun a w3 L0 hr T => ?_
      have h3 : a.eval (.tmp 3) = .pointer (some ⟨k, 0, none⟩) := T.was 3 (by kernel_rfl)
      exact ⟨.pointer (some ⟨k, 2, none⟩), w3, by simp only [execOp, h3]; simp [go_sem], PI.Post.pure RG.goes rfl (fun hl => T.inv hl)⟩
    · obtain rfl := Option.some.inj (show some _ = some o from ho)
      refine PI.shown_val rfl fun a w3 L0 hr T => ?_
      have h7 : a.eval (.tmp 7) = .pointer (some ⟨k, 2, none⟩) := T.at_ 1 7 (by kernel_rfl) (by kernel_rfl) (by kernel_rfl)
      have hc : w3.cell? ⟨k, 2, none⟩ = some (.int .i64 (fn : Int)) := cell_of_row _ _ 2 _ _ (0, 0) (hr.2.trans HX.out)
      exact ⟨.int .i64 (fn : Int), w3, by simp only [execOp, h7]; simp [go_sem, hc], PI.Post.pure RG.goes rfl (fun hl => T.inv hl)⟩
    · obtain rfl := Option.some.inj (show some _ = some o from ho)
      refine PI.shown_val rfl fun a w3 L0 hr T => ?_
      have h8 : a.eval (.tmp 8) = .int .i64 (fn : Int) := T.at_ 2 8 (by kernel_rfl) (by kernel_rfl) (by kernel_rfl)
      exact ⟨.int .u64 (fn : Int), w3, by simp only [execOp, h8]; (simp [go_sem]; try (rw [IntKind.wrap_u64]; omega)), PI.Post.pure RG.goes rfl (fun hl => T.inv hl)⟩
    · obtain rfl := Option.some.inj (show some _ = some o from ho)
      refine PI.shown_call rfl 34 fun a w3 L0 hr T => ?_
      have h6 : a.eval (.tmp 6) = v := T.at_ 0 6 (by kernel_rfl) (by kernel_rfl) (by kernel_rfl)
      have h1 : w3.ownsRow base 5 1 (a.eval (.tmp 6)) (L).length ((L).map B8) := by rw [h6]; exact T.inv T.yetNot
      have h1b : BlkOf N v.ownBlock (a.eval (.tmp 6)) := by rw [h6]; exact .inl rfl
      have h9 : a.eval (.tmp 9) = .int .u64 (fn : Int) := T.at_ 3 9 (by kernel_rfl) (by kernel_rfl) (by kernel_rfl)
      refine ⟨#[a.eval (.tmp 6), .int .u64 (fn : Int)], by simp only [execOp, resolve, List.map_toArray, List.map_cons, List.map_nil, h9]; simp [go_sem, Act.eval], ?_⟩
      refine (rput_calls base _ _ fn w3 h1 (Nat.le_trans hbase hr.1.size) (by (try simp only [List.length_append]); omega) (by omega)).mono fun e w4 hh => ?_
      obtain ⟨u4, rfl, ho4, hg4⟩ := hh
      have hX3 := hr.2.trans HX.out
      refine ⟨_, rfl, ⟨hg4.below (Below.refl _ _) (Nat.le_trans hbase hr.1.size) (own_block_ge h1), hg4.grown.block k (in_heap hX3) (Ne.symm (own_not h1 hX3 (by decide))), fun i hi hne => hg4.grown.block i (Nat.lt_of_lt_of_le hi (Nat.le_trans hN hr.1.size)) (h1b.ne hi hne)⟩, ⟨ho4, h1b.step (Nat.le_trans hN hr.1.size) hg4.blk⟩, fun _ _ h => h, fun j u hj hLj hnd hw h => ?_, fun hl => by exfalso; simp [PI.upd] at hl⟩
      by_cases hjr : j = 4 ∨ j = 8 ∨ j = 9
      · rcases hjr with rfl | rfl | rfl
        · exact absurd rfl hj
        · exact absurd (T.shut_ 8 4 (by kernel_rfl) hLj) (by rw [T.yetNot]; decide)
        · exact absurd (T.shut_ 8 4 (by kernel_rfl) (T.shut_ 9 8 (by kernel_rfl) hLj)) (by rw [T.yetNot]; decide)
      · exact BoF.other h hjr
    · obtain rfl := Option.some.inj (show some _ = some o from ho)
      refine PI.shown_val rfl fun a w3 L0 hr T => ?_
      have h3 : a.eval (.tmp 3) = .pointer (some ⟨k, 0, none⟩) := T.was 3 (by kernel_rfl)
      exact ⟨.pointer (some ⟨k, 3, none⟩), w3, by simp only [execOp, h3]; simp [go_sem], PI.Post.pure RG.goes rfl (fun hl => T.inv hl)⟩
    · obtain rfl := Option.some.inj (show some _ = some o from ho)
      refine PI.shown_val rfl fun a w3 L0 hr T => ?_
      have h11 : a.eval (.tmp 11) = .pointer (some ⟨k, 3, none⟩) := T.at_ 5 11 (by kernel_rfl) (by kernel_rfl) (by kernel_rfl)
      have hc : w3.cell? ⟨k, 3, none⟩ = some (.int .i64 (ln : Int)) := cell_of_row _ _ 3 _ _ (0, 0) (hr.2.trans HX.out)
      exact ⟨.int .i64 (ln : Int), w3, by simp only [execOp, h11]; simp [go_sem, hc], PI.Post.pure RG.goes rfl (fun hl => T.inv hl)⟩
    · obtain rfl := Option.some.inj (show some _ = some o from ho)
      refine PI.shown_val rfl fun a w3 L0 hr T => ?_
      have h12 : a.eval (.tmp 12) = .int .i64 (ln : Int) := T.at_ 6 12 (by kernel_rfl) (by kernel_rfl) (by kernel_rfl)
      exact ⟨.int .u64 (ln : Int), w3, by simp only [execOp, h12]; (simp [go_sem]; try (rw [IntKind.wrap_u64]; omega)), PI.Post.pure RG.goes rfl (fun hl => T.inv hl)⟩
    · obtain rfl := Option.some.inj (show some _ = some o from ho)
      refine PI.shown_call rfl 34 fun a w3 L0 hr T => ?_
      have h1c : w3.ownsRow base 5 1 (a.eval (.tmp 10)) ((L ++ Mi.put fn)).length (((L ++ Mi.put fn)).map B8) ∧ BlkOf N v.ownBlock (a.eval (.tmp 10)) := T.at_ 4 10 (by kernel_rfl) (by kernel_rfl) (by kernel_rfl)
      have h1 := h1c.1
      have h1b := h1c.2
      have h13 : a.eval (.tmp 13) = .int .u64 (ln : Int) := T.at_ 7 13 (by kernel_rfl) (by kernel_rfl) (by kernel_rfl)
      refine ⟨#[a.eval (.tmp 10), .int .u64 (ln : Int)], by simp only [execOp, resolve, List.map_toArray, List.map_cons, List.map_nil, h13]; simp [go_sem, Act.eval], ?_⟩
      refine (rput_calls base _ _ ln w3 h1 (Nat.le_trans hbase hr.1.size) (by (try simp only [List.length_append]); omega) (by omega)).mono fun e w4 hh => ?_
      obtain ⟨u4, rfl, ho4, hg4⟩ := hh
      have hX3 := hr.2.trans HX.out
      have hl4 : L0 4 = true := PI.ToldG.done_ T 4 (by kernel_rfl)
      refine ⟨_, rfl, ⟨hg4.below (Below.refl _ _) (Nat.le_trans hbase hr.1.size) (own_block_ge h1), hg4.grown.block k (in_heap hX3) (Ne.symm (own_not h1 hX3 (by decide))), fun i hi hne => hg4.grown.block i (Nat.lt_of_lt_of_le hi (Nat.le_trans hN hr.1.size)) (h1b.ne hi hne)⟩, ⟨ho4, h1b.step (Nat.le_trans hN hr.1.size) hg4.blk⟩, fun _ _ h => h, fun j u hj hLj hnd hw h => ?_, fun hl => by exfalso; simp [PI.upd, hl4] at hl⟩
      by_cases hjr : j = 4 ∨ j = 8 ∨ j = 9
      · rcases hjr with rfl | rfl | rfl
        · simp [PI.needB] at hnd
        · exact absurd rfl hj
        · exact absurd (T.shut_ 9 8 (by kernel_rfl) hLj) (by rw [T.yetNot]; decide)
      · exact BoF.other h hjr
    · obtain rfl := Option.some.inj (show some _ = some o from ho)
      refine PI.shown_val rfl fun a w3 L0 hr T => ?_
      have h1 : w3.ownsRow base 5 1 (a.eval (.tmp 14)) (((L ++ Mi.put fn) ++ Mi.put ln)).length ((((L ++ Mi.put fn) ++ Mi.put ln)).map B8) ∧ BlkOf N v.ownBlock (a.eval (.tmp 14)) := T.at_ 8 14 (by kernel_rfl) (by kernel_rfl) (by kernel_rfl)
      exact ⟨a.eval (.tmp 14), w3, by simp only [execOp]; simp [go_sem], PI.Post.pure RG.goes h1 (fun hl => T.inv hl)⟩
    · cases ho
  · intro x w5 hr hf he _
    have h1 := hf 9 _ 0 rfl rfl (by decide)
    change w5.ownsRow base 5 1 (x 9) (((L ++ Mi.put fn) ++ Mi.put ln)).length ((((L ++ Mi.put fn) ++ Mi.put ln)).map B8) ∧ BlkOf N v.ownBlock (x 9) at h1
    have HX := Lib.hid (hr.2.trans HX.out)
    have HB := Lib.hid (HB.out.trans hr.1)
    have hN : N ≤ w5.heap.size := Nat.le_trans hN hr.1.size
    have hbase : base ≤ w5.heap.size := Nat.le_trans hbase hr.1.size
    have hlen : (((L ++ Mi.put fn) ++ Mi.put ln)).length ≤ L.length + 20 := by simp only [List.length_append]; omega
    obtain ⟨L, hL⟩ : ∃ L', L' = ((L ++ Mi.put fn) ++ Mi.put ln) := ⟨_, rfl⟩
    rw [← hL] at h1 hlen
    have HLb := Lib.hid hL
    have hl : L.length ≤ 100 := by omega
    obtain ⟨vA, vc, hv, _, _⟩ := own_rd h1.1
    have HO := Lib.hid h1.1
    rw [hv] at HO
    simp only [PI.putAll, Act.put, List.setIfInBounds_toArray, List.set_cons_zero, List.set_cons_succ]
    rw [hv]
    clear hf he h1 hr hlen hL hv
    go_wp2_with fail
    (try rw [← hk])
    generalize hv : Value.slice vA L.length vc = v at *
    clear hv
    have HX5 : Hid (w5.drew.heap[k]? = some (.cells #[.int .u64 th, .int .u64 tl, .int .i64 (fn : Int), .int .i64 (ln : Int), .bool su, .slice eA m ec] 48)) := Lib.hid HX.out
    have HB5 : Hid (Below base W0 w5.drew) := Lib.hid ⟨HB.out.os, HB.out.tape, HB.out.output, HB.out.size, HB.out.block⟩
    have HO5 : Hid (w5.drew.ownsRow base 5 1 v (L).length ((L).map B8)) := Lib.hid HO.out
    have hN5 : N ≤ w5.drew.heap.size := hN
    have hbase5 : base ≤ w5.drew.heap.size := hbase
    clear HX HB HO hN hbase
    have HX := HX5
    have HB := HB5
    have HO := HO5
    have hN := hN5
    have hbase := hbase5
    clear HX5 HB5 HO5 hN5 hbase5
    refine PI.wp_region_persG (R := RG base k N v.ownBlock) (G := fun _ _ => True) (I := fun L0 _ w => L0 4 = false → w.ownsRow base 5 1 v L.length (L.map B8)) [(2, 1), (3, 2), (4, 0), (4, 3), (6, 5), (7, 6), (8, 7), (9, 4), (9, 8), (10, 9)] [10] (by kernel_rfl) (PI.formed_of (by kernel_rfl)) RG.goes (fun _ => trivial) (BoG th tl fn ln su m ec bt eA k base N v L) (fun _ => HO.out) ?_ ?_
    · intro i o ho
      rcases i with _ | _ | _ | _ | _ | _ | _ | _ | _ | _ | _ | i
      · obtain rfl := Option.some.inj (show some _ = some o from ho)
        refine PI.shown_val rfl fun a w3 L0 hr T => ?_
        have h0 : a.eval (.tmp 0) = v := T.was 0 (by kernel_rfl)
        exact ⟨v, w3, by simp only [execOp, h0]; simp [go_sem], PI.Post.pure RG.goes rfl (fun hl => T.inv hl)⟩
      · obtain rfl := Option.some.inj (show some _ = some o from ho)
        refine PI.shown_val rfl fun a w3 L0 hr T => ?_
        have h3 : a.eval (.tmp 3) = .pointer (some ⟨k, 0, none⟩) := T.was 3 (by kernel_rfl)
        exact ⟨.pointer (some ⟨k, 4, none⟩), w3, by simp only [execOp, h3]; simp [go_sem], PI.Post.pure RG.goes rfl (fun hl => T.inv hl)⟩
      · obtain rfl := Option.some.inj (show some _ = some o from ho)
        refine PI.shown_val rfl fun a w3 L0 hr T => ?_
        have h16 : a.eval (.tmp 16) = .pointer (some ⟨k, 4, none⟩) := T.at_ 1 16 (by kernel_rfl) (by kernel_rfl) (by kernel_rfl)
        have hc : w3.cell? ⟨k, 4, none⟩ = some (.bool su) := cell_of_row _ _ 4 _ _ (0, 0) (hr.2.trans HX.out)
        exact ⟨.bool su, w3, by simp only [execOp, h16]; simp [go_sem, hc], PI.Post.pure RG.goes rfl (fun hl => T.inv hl)⟩
      · obtain rfl := Option.some.inj (show some _ = some o from ho)
        refine PI.shown_call rfl 97 fun a w3 L0 hr T => ?_
        have h17 : a.eval (.tmp 17) = .bool su := T.at_ 2 17 (by kernel_rfl) (by kernel_rfl) (by kernel_rfl)
        refine ⟨#[.bool su], by simp only [execOp, resolve, List.map_toArray, List.map_cons, List.map_nil, h17]; simp [go_sem, Act.eval], ?_⟩
        refine (HBIT.out w3).mono fun e w4 hh => ?_
        obtain ⟨rfl, rfl⟩ := hh
        exact ⟨_, rfl, PI.Post.pure RG.goes rfl (fun hl => T.inv hl)⟩
      · obtain rfl := Option.some.inj (show some _ = some o from ho)
        refine PI.shown_call rfl 34 fun a w3 L0 hr T => ?_
        have h15 : a.eval (.tmp 15) = v := T.at_ 0 15 (by kernel_rfl) (by kernel_rfl) (by kernel_rfl)
        have h1 : w3.ownsRow base 5 1 (a.eval (.tmp 15)) (L).length ((L).map B8) := by rw [h15]; exact T.inv T.yetNot
        have h1b : BlkOf N v.ownBlock (a.eval (.tmp 15)) := by rw [h15]; exact .inl rfl
        have h18 : a.eval (.tmp 18) = .int .u64 (bt : Int) := T.at_ 3 18 (by kernel_rfl) (by kernel_rfl) (by kernel_rfl)
        refine ⟨#[a.eval (.tmp 15), .int .u64 (bt : Int)], by simp only [execOp, resolve, List.map_toArray, List.map_cons, List.map_nil, h18]; simp [go_sem, Act.eval], ?_⟩
        refine (rput_calls base _ _ bt w3 h1 (Nat.le_trans hbase hr.1.size) (by (try simp only [List.length_append]); omega) (by omega)).mono fun e w4 hh => ?_
        obtain ⟨u4, rfl, ho4, hg4⟩ := hh
        have hX3 := hr.2.trans HX.out
        refine ⟨_, rfl, ⟨hg4.below (Below.refl _ _) (Nat.le_trans hbase hr.1.size) (own_block_ge h1), hg4.grown.block k (in_heap hX3) (Ne.symm (own_not h1 hX3 (by decide))), fun i hi hne => hg4.grown.block i (Nat.lt_of_lt_of_le hi (Nat.le_trans hN hr.1.size)) (h1b.ne hi hne)⟩, ⟨ho4, h1b.step (Nat.le_trans hN hr.1.size) hg4.blk⟩, fun _ _ h => h, fun j u hj hLj hnd hw h => ?_, fun hl => by exfalso; simp [PI.upd] at hl⟩
        by_cases hjr : j = 4 ∨ j = 9 ∨ j = 10
        · rcases hjr with rfl | rfl | rfl
          · exact absurd rfl hj
          · exact absurd (T.shut_ 9 4 (by kernel_rfl) hLj) (by rw [T.yetNot]; decide)
          · exact absurd (T.shut_ 9 4 (by kernel_rfl) (T.shut_ 10 9 (by kernel_rfl) hLj)) (by rw [T.yetNot]; decide)
        · exact BoG.other h hjr
      · obtain rfl := Option.some.inj (show some _ = some o from ho)
        refine PI.shown_val rfl fun a w3 L0 hr T => ?_
        have h3 : a.eval (.tmp 3) = .pointer (some ⟨k, 0, none⟩) := T.was 3 (by kernel_rfl)
        exact ⟨.pointer (some ⟨k, 5, none⟩), w3, by simp only [execOp, h3]; simp [go_sem], PI.Post.pure RG.goes rfl (fun hl => T.inv hl)⟩
      · obtain rfl := Option.some.inj (show some _ = some o from ho)
        refine PI.shown_val rfl fun a w3 L0 hr T => ?_
        have h20 : a.eval (.tmp 20) = .pointer (some ⟨k, 5, none⟩) := T.at_ 5 20 (by kernel_rfl) (by kernel_rfl) (by kernel_rfl)
        have hc : w3.cell? ⟨k, 5, none⟩ = some (.slice eA m ec) := cell_of_row _ _ 5 _ _ (0, 0) (hr.2.trans HX.out)
        exact ⟨.slice eA m ec, w3, by simp only [execOp, h20]; simp [go_sem, hc], PI.Post.pure RG.goes rfl (fun hl => T.inv hl)⟩
      · obtain rfl := Option.some.inj (show some _ = some o from ho)
        refine PI.shown_val rfl fun a w3 L0 hr T => ?_
        have h21 : a.eval (.tmp 21) = .slice eA m ec := T.at_ 6 21 (by kernel_rfl) (by kernel_rfl) (by kernel_rfl)
        exact ⟨.int .i64 (m : Int), w3, by simp only [execOp, resolve, invoke, builtin, Sem.run_bind, Sem.run_pure, Result.andThen_ok, List.map_toArray, List.map_cons, List.map_nil, h21]; simp [go_sem, Builtin.lenOf], PI.Post.pure RG.goes rfl (fun hl => T.inv hl)⟩
      · obtain rfl := Option.some.inj (show some _ = some o from ho)
        refine PI.shown_val rfl fun a w3 L0 hr T => ?_
        have h22 : a.eval (.tmp 22) = .int .i64 (m : Int) := T.at_ 7 22 (by kernel_rfl) (by kernel_rfl) (by kernel_rfl)
        exact ⟨.int .u64 (m : Int), w3, by simp only [execOp, h22]; (simp [go_sem]; try (rw [IntKind.wrap_u64]; omega)), PI.Post.pure RG.goes rfl (fun hl => T.inv hl)⟩
      · obtain rfl := Option.some.inj (show some _ = some o from ho)
        refine PI.shown_call rfl 34 fun a w3 L0 hr T => ?_
        have h1c : w3.ownsRow base 5 1 (a.eval (.tmp 19)) ((L ++ Mi.put bt)).length (((L ++ Mi.put bt)).map B8) ∧ BlkOf N v.ownBlock (a.eval (.tmp 19)) := T.at_ 4 19 (by kernel_rfl) (by kernel_rfl) (by kernel_rfl)
        have h1 := h1c.1
        have h1b := h1c.2
        have h23 : a.eval (.tmp 23) = .int .u64 (m : Int) := T.at_ 8 23 (by kernel_rfl) (by kernel_rfl) (by kernel_rfl)
        refine ⟨#[a.eval (.tmp 19), .int .u64 (m : Int)], by simp only [execOp, resolve, List.map_toArray, List.map_cons, List.map_nil, h23]; simp [go_sem, Act.eval], ?_⟩
        refine (rput_calls base _ _ m w3 h1 (Nat.le_trans hbase hr.1.size) (by (try simp only [List.length_append]); omega) (by omega)).mono fun e w4 hh => ?_
        obtain ⟨u4, rfl, ho4, hg4⟩ := hh
        have hX3 := hr.2.trans HX.out
        have hl4 : L0 4 = true := PI.ToldG.done_ T 4 (by kernel_rfl)
        refine ⟨_, rfl, ⟨hg4.below (Below.refl _ _) (Nat.le_trans hbase hr.1.size) (own_block_ge h1), hg4.grown.block k (in_heap hX3) (Ne.symm (own_not h1 hX3 (by decide))), fun i hi hne => hg4.grown.block i (Nat.lt_of_lt_of_le hi (Nat.le_trans hN hr.1.size)) (h1b.ne hi hne)⟩, ⟨ho4, h1b.step (Nat.le_trans hN hr.1.size) hg4.blk⟩, fun _ _ h => h, fun j u hj hLj hnd hw h => ?_, fun hl => by exfalso; simp [PI.upd, hl4] at hl⟩
        by_cases hjr : j = 4 ∨ j = 9 ∨ j = 10
        · rcases hjr with rfl | rfl | rfl
          · simp [PI.needB] at hnd
          · exact absurd rfl hj
          · exact absurd (T.shut_ 10 9 (by kernel_rfl) hLj) (by rw [T.yetNot]; decide)
        · exact BoG.other h hjr
      · obtain rfl := Option.some.inj (show some _ = some o from ho)
        refine PI.shown_val rfl fun a w3 L0 hr T => ?_
        have h1 : w3.ownsRow base 5 1 (a.eval (.tmp 24)) (((L ++ Mi.put bt) ++ Mi.put m)).length ((((L ++ Mi.put bt) ++ Mi.put m)).map B8) ∧ BlkOf N v.ownBlock (a.eval (.tmp 24)) := T.at_ 9 24 (by kernel_rfl) (by kernel_rfl) (by kernel_rfl)
        exact ⟨a.eval (.tmp 24), w3, by simp only [execOp]; simp [go_sem], PI.Post.pure RG.goes h1 (fun hl => T.inv hl)⟩
      · cases ho
    · intro x w5 hr hf he _
      have h1 := hf 10 _ 0 rfl rfl (by decide)
      change w5.ownsRow base 5 1 (x 10) (((L ++ Mi.put bt) ++ Mi.put m)).length ((((L ++ Mi.put bt) ++ Mi.put m)).map B8) ∧ BlkOf N v.ownBlock (x 10) at h1
      have HX := Lib.hid (hr.2.trans HX.out)
      have HB := Lib.hid (HB.out.trans hr.1)
      have hN : N ≤ w5.heap.size := Nat.le_trans hN hr.1.size
      have hbase : base ≤ w5.heap.size := Nat.le_trans hbase hr.1.size
      have hlen : (((L ++ Mi.put bt) ++ Mi.put m)).length ≤ L.length + 20 := by simp only [List.length_append]; omega
      obtain ⟨L, hL⟩ : ∃ L', L' = ((L ++ Mi.put bt) ++ Mi.put m) := ⟨_, rfl⟩
      rw [← hL] at h1 hlen
      have HLc := Lib.hid hL
      have hl : L.length ≤ 1000 := by omega
      obtain ⟨vA, vc, hv, _, _⟩ := own_rd h1.1
      have HO := Lib.hid h1.1
      rw [hv] at HO
      simp only [PI.putAll, Act.put, List.setIfInBounds_toArray, List.set_cons_zero, List.set_cons_succ]
      rw [hv]
      clear hf he h1 hr hlen hL hv
      have b5 : w5.cell? ⟨k, 5, none⟩ = some (.slice eA m ec) := cell_of_row _ _ 5 _ _ (0, 0) HX.out
      rw [hk] at b5
      go_wp2_with fail
      clear b5
      go_loopw [5, 0] (fun iv u wr => ∃ j : Nat, iv = .int .i64 (j : Int) ∧ j ≤ m ∧ Hid ((encS ((el.map Ls.s).take j)).length ≤ 400 * j) ∧ Hid (wr.ownsRow base 5 1 u (L ++ encS ((el.map Ls.s).take j)).length ((L ++ encS ((el.map Ls.s).take j)).map B8)) ∧ Hid (Below base W0 wr)) (fun iv _ _ => m - (intOf iv).toNat)
      case atStart => exact ⟨0, rfl, Nat.zero_le _, Lib.hid (by simp [encS]), Lib.hid (by simpa [encS] using HO.out), HB⟩
      case round =>
        clear HX HB HO hbase hN
        obtain ⟨j, rfl, hj, HJ, HO, HB⟩ := hrel
        have HXk := (HB.out.block k hkb).trans HX0.out
        have b5 : wr.cell? ⟨w.heap.size, 5, none⟩ = some (.slice eA m ec) := by rw [← hk]; exact cell_of_row _ _ 5 _ _ (0, 0) HXk
        have hzw : base ≤ wr.heap.size := Nat.le_trans hbase0 HB.out.size
        clear HXk
        by_cases hlt : j < m
        · obtain ⟨x, hx⟩ : ∃ x, el[j]? = some x := ⟨_, List.getElem?_eq_getElem (by rw [← HMN.out]; exact hlt)⟩
          have HR : Hid (RdSps wr B eA el) := Lib.hid (HY0.out.below (HB.out.mono hBb))
          obtain ⟨aa, ha, hab, hc, hxl⟩ := HR.out.at_ hx
          subst ha
          have hxm : (el.map Ls.s)[j]? = some x.s := by rw [List.getElem?_map, hx]; rfl
          have hrx := HRR.out x.s (List.mem_of_getElem? hxm)
          have HST := Lib.hid (encS_step _ j x.s hxm)
          have HEL := Lib.hid (enc_len hrx).2
          obtain ⟨⟨x0, x1, x2, x3, x4, x5, x6, x7, x8, ats⟩, xA, xc⟩ := x
          obtain ⟨p, hm⟩ : ∃ p, p = ats.length := ⟨_, rfl⟩
          simp only at hrx HST HEL
          have d0 := hc 0 _ rfl
          have d1 := cell_far (hc 1 _ rfl) (by omega)
          have d2 := cell_far (hc 2 _ rfl) (by omega)
          have d3 := cell_far (hc 3 _ rfl) (by omega)
          have d4 := cell_far (hc 4 _ rfl) (by omega)
          have d5 := cell_far (hc 5 _ rfl) (by omega)
          have d6 := cell_far (hc 6 _ rfl) (by omega)
          have d7 := cell_far (hc 7 _ rfl) (by omega)
          have d8 := cell_far (hc 8 _ rfl) (by omega)
          have d9 : wr.cell? ⟨(aa.add (j * 10)).block, (aa.add (j * 10)).off + 9, none⟩ = some (.slice xA p xc) := by rw [hm]; exact cell_far (hc 9 _ rfl) (by omega)
          simp only [Nat.add_zero] at d0
          simp only at d1 d2 d3 d4 d5 d6 d7 d8
          have p0 : (0 : Int) ≤ (j : Int) := by omega
          have p1 : (j : Int) < (m : Int) := by omega
          have F := Lib.hid (addspan_int x0 x1 x2 x3 x4 x5 x6 x7 x8 ats xA xc p B base _ (L ++ encS ((el.map Ls.s).take j)) wr hm hxl (by omega) hBb HO.out hzw (by have := HJ.out; (try simp only [List.length_append]); omega) hrx)
          clear hc hxl hx hm hrx hxm
          go_wp2_with (go_at_call 98; (with_reducible refine F.out.mono ?_); rintro e w9 ⟨v9, rfl, ho9, hb9⟩; have HO9 := Lib.hid ho9; have HB9 := Lib.hid (HB.out.trans hb9); clear ho9 hb9)
          go_roundw
          case rel => exact ⟨j + 1, by go_num, by omega, Lib.hid (by rw [HST.out, List.length_append]; have := HJ.out; have := HEL.out; omega), Lib.hid (by rw [HST.out, ← List.append_assoc]; exact HO9.out), HB9⟩
          case measure => simp [intOf]; omega
        · obtain rfl : j = m := by omega
          have HE : Hid ((el.map Ls.s).take j = el.map Ls.s) := Lib.hid (List.take_of_length_le (by rw [List.length_map, ← HMN.out]; exact Nat.le_refl _))
          rw [HE.out] at HO
          go_wp2_with fail
          go_ret
          exact ⟨_, rfl, by rw [HFIN.out]; have h := HO.out; rw [HLc.out, HLb.out, HLa.out] at h; exact own_mono h (by omega), HB0.out.trans (HB.out.mono (by omega))⟩
  
  
end Go.Proofs.Ytchcjbapbdfhkaa

namespace Go.Proofs.Ytchcjbapbdfhkaa
open Go.RowKit Go.Maps
set_option linter.unusedVariables false
set_option linter.unusedSimpArgs false
set_option maxRecDepth 100000

theorem dbody_any (th tl f la : Int) (su : Bool) (eA : Option Addr) (el : List Ls) (m ec B : Nat) (w : World) (hm : m = el.length) (hy : RdSps w B eA el) (hB : B ≤ w.heap.size) (hm60 : m ≤ 60) (ok : okEp ⟨th, tl, f, la, su, el.map Ls.s⟩ = true) :
    Calls Try.prog 67 #[.slice none 0 0, .agg #[.int .u64 th, .int .u64 tl, .int .i64 f, .int .i64 la, .bool su, .slice eA m ec]] w fun e w' => ∃ v', e = .returned v' ∧ w'.ownsRow w.heap.size 5 1 v' (bodyE ⟨th, tl, f, la, su, el.map Ls.s⟩).length ((bodyE ⟨th, tl, f, la, su, el.map Ls.s⟩).map B8) ∧ Below w.heap.size w w' := by
  obtain ⟨h1, h2, h3, h4⟩ := okEp_num ok
  have hr : ∀ s ∈ el.map Ls.s, right s = true := fun s hs => okS_right (okEp_each ok s hs)
  simp only at h1 h2 h3 h4
  obtain ⟨fn, rfl⟩ := Int.eq_ofNat_of_zero_le h1
  obtain ⟨ln, rfl⟩ := Int.eq_ofNat_of_zero_le h3
  exact dbody_nat th tl fn ln su eA el m ec B w hm hy hB (by omega) (by omega) hm60 hr
set_option maxHeartbeats 32000000 in
theorem dbytes_nat (a0 a1 a2 : Nat) (A : Option Addr) (l : List Le) (n c B : Nat) (w : World) (hn : n = l.length) (hy : RdEps w B A l) (hB : B ≤ w.heap.size) (hl : n ≤ 120) (hs : ∀ e ∈ l, e.l.length ≤ 60) (hok : ∀ e ∈ l, e.ok) (h0 : a0 ≤ 1099511627776) (h1 : a1 ≤ 1099511627776) (h2 : a2 ≤ 1099511627776) (hr : rightBk a0 a1 a2 (l.map Le.ep) = true) :
    Calls Try.prog 25 #[.agg #[.int .i64 (a0 : Int), .int .i64 (a1 : Int), .int .i64 (a2 : Int), .slice A n c]] w (BytesOf (encBk a0 a1 a2 (l.map Le.ep) ++ Cm.le4 (Cm.sum (encBk a0 a1 a2 (l.map Le.ep)))) w) := by
  obtain ⟨L, hL⟩ : ∃ L, L = l.map Le.ep := ⟨_, rfl⟩
  have hLn : L.length = n := by rw [hL, List.length_map, hn]
  have RB := Lib.hid (fun (W : World) (hW : Below w.heap.size w W) => drightblk_any a0 a1 a2 A l n c B W hn (hy.below (hW.mono hB)) (Nat.le_trans hB hW.size) (by omega) (fun e he => Nat.le_trans (hs e he) (by omega)))
  rw [← hL] at hr ⊢
  rw [← hL, hr] at RB
  have HENC : Hid (encBk a0 a1 a2 L = headN a0 a1 a2 n 4 ++ (L.flatMap idxE ++ L.flatMap bodyE)) := Lib.hid (by
    unfold encBk headN
    simp only [Int.toNat_natCast, hLn, List.append_assoc])
  have HENL := Lib.hid (encBk_len hr (by omega) (fun e he => by
    rw [hL] at he
    obtain ⟨x, hx, rfl⟩ := List.mem_map.1 he
    show (x.l.map Ls.s).length ≤ 60
    rw [List.length_map]
    exact hs x hx))
  have HRE := Lib.hid (rightBk_parts hr).2.2.2
  have HLE := Lib.hid hL
  have HLN := Lib.hid hLn
  have HN := Lib.hid hn
  have HY := Lib.hid hy
  have HS := Lib.hid hs
  have HOKS := Lib.hid hok
  clear hL hLn hn hy hs hr hok
  have HB0 := Lib.hid ((Below.refl w.heap.size w).alloc (Nat.le_refl _) (.cells #[.int .i64 (a0 : Int), .int .i64 (a1 : Int), .int .i64 (a2 : Int), .slice A n c] 24))
  have HRB := Lib.hid (RB.out _ HB0.out)
  have hbx := heap_alloc_new w (.cells #[.int .i64 (a0 : Int), .int .i64 (a1 : Int), .int .i64 (a2 : Int), .slice A n c] 24)
  have HBX := Lib.hid hbx
  have hW1 : (w.alloc (.cells #[.int .i64 (a0 : Int), .int .i64 (a1 : Int), .int .i64 (a2 : Int), .slice A n c] 24)).heap.size = w.heap.size + 1 := by simp
  clear hbx RB
  go_enter Try.func25, Try.ntmps25
  go_wp2_with (go_at_call 24; (with_reducible refine HRB.out.mono ?_); rintro e w1 ⟨rfl, hb1⟩; have hb3 := (hb1.block w.heap.size (by omega)).trans HBX.out; have b0 : w1.cell? ⟨w.heap.size, 0, none⟩ = some (.int .i64 (a0 : Int)) := cell_of_row _ _ 0 _ _ (0, 0) hb3; have b1 : w1.cell? ⟨w.heap.size, 1, none⟩ = some (.int .i64 (a1 : Int)) := cell_of_row _ _ 1 _ _ (0, 0) hb3; have b2 : w1.cell? ⟨w.heap.size, 2, none⟩ = some (.int .i64 (a2 : Int)) := cell_of_row _ _ 2 _ _ (0, 0) hb3; have b3 : w1.cell? ⟨w.heap.size, 3, none⟩ = some (.slice A n c) := cell_of_row _ _ 3 _ _ (0, 0) hb3; have HB1 := Lib.hid hb1; have HX1 := Lib.hid hb3; clear hb1 hb3; have hs1 : w.heap.size + 1 ≤ w1.heap.size := (by have := HB1.out.size; omega); have HLIT := Lib.hid (heap_alloc_new w1 (.cells #[.int .i64 (a0 : Int), .int .i64 (a1 : Int), .int .i64 (a2 : Int), .int .i64 (n : Int)] 3)); have HXL := Lib.hid ((heap_alloc_old w1 (.cells #[.int .i64 (a0 : Int), .int .i64 (a1 : Int), .int .i64 (a2 : Int), .int .i64 (n : Int)] 3) (show w.heap.size < w1.heap.size by omega)).trans HX1.out); have HBL := Lib.hid ((HB0.out.trans (HB1.out.mono (by omega))).alloc (show w.heap.size ≤ w1.heap.size by omega) (.cells #[.int .i64 (a0 : Int), .int .i64 (a1 : Int), .int .i64 (a2 : Int), .int .i64 (n : Int)] 3)); have hW2 : (w1.alloc (.cells #[.int .i64 (a0 : Int), .int .i64 (a1 : Int), .int .i64 (a2 : Int), .int .i64 (n : Int)] 3)).heap.size = w1.heap.size + 1 := (by simp))
  clear b0 b1 b2 b3
  have CPS := Lib.hid (dputs_any a0 a1 a2 n w1.heap.size (w1.alloc (.cells #[.int .i64 (a0 : Int), .int .i64 (a1 : Int), .int .i64 (a2 : Int), .int .i64 (n : Int)] 3)) HLIT.out h0 h1 h2 (by omega))
  generalize w1.alloc (.cells #[.int .i64 (a0 : Int), .int .i64 (a1 : Int), .int .i64 (a2 : Int), .int .i64 (n : Int)] 3) = W1 at *
  generalize w1.heap.size = gl at *
  go_wp2_with (go_at_call 66; (with_reducible refine CPS.out.mono ?_); rintro e w2 ⟨u3, rfl, ho2, hb2⟩; have HO2 := Lib.hid (own_mono ho2 (show gl + 1 ≤ _ by omega)); have HB2 := Lib.hid (hb2.mono (show gl + 1 ≤ _ by omega)); clear ho2 hb2)
  have HR2 : Hid (Rows2 W1 w2 (gl + 1) u3 (.slice none 0 0) (headN a0 a1 a2 n 4) []) := Lib.hid ⟨HO2.out, World.ownsRow_nil _ _ _ _, fun b _ h => by simp [Value.ownBlock] at h, HB2.out⟩
  clear HO2 HB2
  go_loopw [5, 3, 4] (fun iv u v wr => ∃ k : Nat, iv = .int .i64 (k : Int) ∧ k ≤ n ∧ Hid (((L.take k).flatMap bodyE).length ≤ 24031 * k ∧ ((L.take k).flatMap idxE).length ≤ 30 * k) ∧ Hid (Rows2 W1 wr (gl + 1) u v (headN a0 a1 a2 n 4 ++ (L.take k).flatMap idxE) ((L.take k).flatMap bodyE))) (fun iv _ _ _ => n - (intOf iv).toNat)
  case atStart => exact ⟨0, rfl, Nat.zero_le _, Lib.hid (by simp), Lib.hid (by simpa using HR2.out)⟩
  case round =>
    clear HR2
    obtain ⟨k, rfl, hk, HK, HR2⟩ := hrel
    have hzr : gl + 1 ≤ wr.heap.size := by have := HR2.out.below.size; omega
    have hT := (HR2.out.below.block w.heap.size (by omega)).trans HXL.out
    have b3 : wr.cell? ⟨w.heap.size, 3, none⟩ = some (.slice A n c) := cell_of_row _ _ 3 _ _ (0, 0) hT
    clear hT
    by_cases hlt : k < n
    · obtain ⟨e, hx⟩ : ∃ e, l[k]? = some e := ⟨_, List.getElem?_eq_getElem (by rw [← HN.out]; exact hlt)⟩
      have hBw : Below w.heap.size w wr := HBL.out.trans (HR2.out.below.mono (by omega))
      have HR : Hid (RdEps wr B A l) := Lib.hid (HY.out.below (hBw.mono hB))
      obtain ⟨aa, ha, hab, hc, hxl⟩ := HR.out.at_ hx
      subst ha
      have hm60 := HS.out e (List.mem_of_getElem? hx)
      have hee : L[k]? = some e.ep := by rw [HLE.out, List.getElem?_map, hx]; rfl
      have HOK := Lib.hid (rightEs_at HRE.out hee)
      have HSB := Lib.hid (flat_step bodyE L k e.ep hee)
      have HSI := Lib.hid (flat_step idxE L k e.ep hee)
      have HBL2 := Lib.hid (bodyE_len HOK.out (by show (e.l.map Ls.s).length ≤ 60; rw [List.length_map]; exact hm60))
      have HIL2 := Lib.hid (idxE_len e.ep)
      have HEP : Hid (e.ep = ⟨e.hi, e.lo, e.f, e.la, e.su, e.l.map Ls.s⟩) := Lib.hid rfl
      obtain ⟨ex, hex⟩ : ∃ ex, ex = e.ep := ⟨_, rfl⟩
      rw [← hex] at HOK HSB HSI HBL2 HIL2 HEP
      have hokn := HOKS.out e (List.mem_of_getElem? hx)
      obtain ⟨th, tl, f, la, su, el, eA, ec⟩ := e
      obtain ⟨m, hm⟩ : ∃ m, m = el.length := ⟨_, rfl⟩
      simp only at hm60 HEP hokn
      obtain ⟨t0, ht0⟩ := Int.eq_ofNat_of_zero_le hokn.hi.1
      obtain ⟨t1, ht1⟩ := Int.eq_ofNat_of_zero_le hokn.lo.1
      have ht0b := hokn.hi.2
      have ht1b := hokn.lo.2
      simp only at ht0 ht1 ht0b ht1b
      subst ht0
      subst ht1
      rw [← hm] at hm60
      have c0 := hc 0 _ rfl
      have c1 := cell_far (hc 1 _ rfl) (by omega)
      have c2 := cell_far (hc 2 _ rfl) (by omega)
      have c3 := cell_far (hc 3 _ rfl) (by omega)
      have c4 := cell_far (hc 4 _ rfl) (by omega)
      have c5 : wr.cell? ⟨(aa.add (k * 6)).block, (aa.add (k * 6)).off + 5, none⟩ = some (.slice eA m ec) := by rw [hm]; exact cell_far (hc 5 _ rfl) (by omega)
      simp only [Nat.add_zero] at c0
      simp only at c1 c2 c3 c4
      have habw : (aa.add (k * 6)).block < wr.heap.size := by rw [block_add]; have := hBw.size; omega
      have HC0 := Lib.hid c0
      have HC1 := Lib.hid c1
      have HC3 := Lib.hid b3
      have HIX : Hid (idxE ex = ((Mi.put t0 ++ Mi.put t1) ++ Mi.put (bodyE ex).length)) := Lib.hid (by
        unfold idxE
        rw [HEP.out]
        simp only [Int.toNat_natCast, List.append_assoc])
      obtain ⟨r, hrq⟩ : ∃ r, r = (bodyE ex).length := ⟨_, rfl⟩
      obtain ⟨q, hq⟩ : ∃ q, q = ((L.take k).flatMap bodyE).length := ⟨_, rfl⟩
      have hqb : q ≤ 24031 * k := by rw [hq]; exact HK.out.1
      have hrb : r ≤ 24031 := by rw [hrq]; exact HBL2.out
      have hkb : q ≤ 2883720 := by
        have : 24031 * k ≤ 24031 * 120 := Nat.mul_le_mul_left _ (by omega)
        omega
      have CBD := Lib.hid (dbody_any (t0 : Int) (t1 : Int) f la su eA el m ec B wr hm hxl (by have := hBw.size; omega) hm60 (by rw [← HEP.out]; exact HOK.out))
      rw [← HEP.out] at CBD
      have hol : (headN a0 a1 a2 n 4 ++ (L.take k).flatMap idxE).length ≤ 4000 := by
        rw [List.length_append]
        have h1 := headN_len a0 a1 a2 n 4
        have h2 := HK.out.2
        have h3 : 30 * k ≤ 30 * 120 := Nat.mul_le_mul_left _ (by omega)
        omega
      have HOL := Lib.hid hol
      have HQ := Lib.hid hq
      have HRQ := Lib.hid hrq
      have p0 : (0 : Int) ≤ (k : Int) := by omega
      have p1 : (k : Int) < (n : Int) := by omega
      have hru : IntKind.u64.wrap (r : Int) = (r : Int) := by rw [IntKind.wrap_u64]; omega
      clear hx hc hxl hm hq hrq hBw hol
      go_wp2_with (first
        | (go_at_call 67; (with_reducible refine CBD.out.mono ?_); rintro e w6 ⟨v6, rfl, ho, hb⟩; obtain ⟨yA, yc, hv6, _, _⟩ := own_rd ho; rw [← HRQ.out] at hv6; subst hv6; have HR6 := Lib.hid (HR2.out.keep hb (show gl + 1 ≤ W1.heap.size by omega)); have HY6 : Hid (Rows2 W1 w6 (gl + 1) u3 (.slice yA r yc) (headN a0 a1 a2 n 4 ++ (L.take k).flatMap idxE) (bodyE ex)) := Lib.hid ⟨HR6.out.ou, own_mono ho (by omega), fun b hbu hby => by (have h1 := own_lt HR2.out.ou hbu; have h2 := own_block_ge ho _ hby; omega), HR6.out.below⟩; have c0 := (hb.cell (p := (aa.add (k * 6))) habw).trans HC0.out; have c1 := (hb.cell (p := ⟨(aa.add (k * 6)).block, (aa.add (k * 6)).off + 1, none⟩) habw).trans HC1.out; have b3 := (hb.cell (p := ⟨w.heap.size, 3, none⟩) (show w.heap.size < wr.heap.size by omega)).trans HC3.out; have CTR := Lib.hid (dtrace_any t0 t1 (gl + 1) u3 _ w6 HR6.out.ou (by have := HR6.out.below.size; omega) (by have := HOL.out; omega) (by omega) (by omega)); clear ho hb)
        | (go_at_call 68; (with_reducible refine CTR.out.mono ?_); rintro e w7 ⟨v7, rfl, ho, hg⟩; have HR7 := Lib.hid (HR6.out.left ho hg (show gl + 1 ≤ W1.heap.size by omega)); have HY7 := Lib.hid (HY6.out.left ho hg (show gl + 1 ≤ W1.heap.size by omega)); have CPU := Lib.hid (rput_calls (gl + 1) v7 _ r w7 HR7.out.ou (by have := HR7.out.below.size; omega) (by have := HOL.out; have p0 := (Mi.put_len t0).2; have p1 := (Mi.put_len t1).2; simp only [List.length_append] at *; omega) (by omega)); clear ho hg)
        | (go_at_call 34; (with_reducible refine CPU.out.mono ?_); rintro e w8 ⟨v8, rfl, ho, hg⟩; have HR8 := Lib.hid (HR7.out.left ho hg (show gl + 1 ≤ W1.heap.size by omega)); have HY8 := Lib.hid (HY7.out.left ho hg (show gl + 1 ≤ W1.heap.size by omega)); obtain ⟨A9, c9, hv9, _, hrd9⟩ := own_rd HY8.out.ov; have hA9 := (Value.slice.inj hv9).1; have hc9 := (Value.slice.inj hv9).2.2; subst hA9; subst hc9; have A2 := Lib.hid (fun ty => appB (ty := ty) (c := yc) HR8.out.ov hrd9 (by rw [← HQ.out, ← HRQ.out]; omega) (show gl + 1 ≤ w8.heap.size by have := HR8.out.below.size; omega)); rw [← HRQ.out] at A2; clear ho hg hv9 hrd9)
        | (at_builtin; (refine wpList_app rfl (.tmp 46) (.tmp 47) _ _ rfl rfl rfl (A2.out _) ?_); rintro v9 w9 ⟨ho9, hg9⟩; have HR9 := Lib.hid (HR8.out.right ho9 hg9 (show gl + 1 ≤ W1.heap.size by omega)); clear ho9 hg9))
      go_roundw
      case rel => exact ⟨k + 1, by go_num, by omega, Lib.hid ⟨by rw [HSB.out, List.length_append, ← HQ.out, ← HRQ.out]; omega, by rw [HSI.out, List.length_append]; have := HK.out.2; have := HIL2.out; omega⟩, Lib.hid (by rw [HSB.out, HSI.out, HIX.out, ← HRQ.out]; have := HR9.out; simpa only [List.append_assoc] using this)⟩
      case measure => simp [intOf]; omega
    · obtain rfl : k = n := by omega
      have htk : L.take k = L := List.take_of_length_le (by rw [HLN.out]; exact Nat.le_refl _)
      rw [htk] at HR2
      obtain ⟨q, hq⟩ : ∃ q, q = (L.flatMap bodyE).length := ⟨_, rfl⟩
      have HENS : Hid ((headN a0 a1 a2 k 4 ++ L.flatMap idxE) ++ L.flatMap bodyE = encBk a0 a1 a2 L) := Lib.hid (by rw [HENC.out, List.append_assoc])
      have hlen : (headN a0 a1 a2 k 4 ++ L.flatMap idxE).length + q ≤ 3000000 := by
        have h1 := HENL.out
        rw [← HENS.out, List.length_append, ← hq] at h1
        exact h1
      obtain ⟨Av, cv, hv1, _, hrd⟩ := own_rd HR2.out.ov
      rw [← hq] at hv1
      subst hv1
      have A2 := Lib.hid (fun ty => appB (ty := ty) (c := cv) HR2.out.ou hrd (by rw [← hq]; omega) hzr)
      rw [← hq] at A2
      rw [HENS.out] at A2
      obtain ⟨q2, hq2⟩ : ∃ q2, q2 = (encBk a0 a1 a2 L).length := ⟨_, rfl⟩
      have HQ2 := Lib.hid hq2
      have hq2b : q2 ≤ 3000000 := by rw [hq2]; exact HENL.out
      clear hrd hq htk hq2
      go_wp2_with (first
        | (at_builtin; (refine wpList_app rfl (.tmp 49) (.tmp 50) _ _ rfl rfl rfl (A2.out _) ?_); rintro v4 w4 ⟨ho4, hg4⟩; have HB4 := Lib.hid (hg4.below HR2.out.below hzr (own_block_ge HR2.out.ou)); obtain ⟨A5, c5, hv5, hnc, hrd5⟩ := own_rd ho4; rw [← HQ2.out] at hv5 hnc; subst hv5; have CSE := Lib.hid (sealed_any A5 (encBk a0 a1 a2 L) q2 c5 w4.heap.size w4 HQ2.out hrd5 (Nat.le_refl _) hnc (by omega)); clear ho4 hg4 hrd5 hnc)
        | (go_at_call 69; (with_reducible refine CSE.out.mono ?_); rintro e w5 ⟨v5, rfl, ho, hb⟩; have HO5 := Lib.hid ho; have HB5 := Lib.hid (HB4.out.trans (hb.mono (show gl + 1 ≤ w4.heap.size by have := HB4.out.size; omega))); clear ho hb))
      go_ret
      exact ⟨_, rfl, own_mono HO5.out (by have := HBL.out.size; have := HB4.out.size; omega), HBL.out.trans (HB5.out.mono (by omega))⟩
theorem dbytes_blk (nu bo ti : Int) (A : Option Addr) (l : List Le) (n c B : Nat) (w : World) (hn : n = l.length) (hy : RdEps w B A l) (hB : B ≤ w.heap.size) (hl : n ≤ 120) (hs : ∀ e ∈ l, e.l.length ≤ 60) (hok : ∀ e ∈ l, e.ok) :
    Calls Try.prog 25 #[.agg #[.int .i64 nu, .int .i64 bo, .int .i64 ti, .slice A n c]] w (BytesOf (bkBytes nu bo ti (l.map Le.ep)) w) := by
  cases hr : rightBk nu bo ti (l.map Le.ep)
  · have HR := Lib.hid (drightblk_any nu bo ti A l n c B (w.alloc (.cells #[.int .i64 nu, .int .i64 bo, .int .i64 ti, .slice A n c] 24)) hn (hy.below (((Below.refl w.heap.size w).alloc (Nat.le_refl _) _).mono hB)) (by simp; omega) (by omega) (fun e he => Nat.le_trans (hs e he) (by omega)))
    rw [hr] at HR
    have HE : Hid (bkBytes nu bo ti (l.map Le.ep) = []) := Lib.hid (by unfold bkBytes; rw [hr]; rfl)
    have HB0 := Lib.hid ((Below.refl w.heap.size w).alloc (Nat.le_refl _) (.cells #[.int .i64 nu, .int .i64 bo, .int .i64 ti, .slice A n c] 24))
    clear hn hy hs hok hr
    go_enter Try.func25, Try.ntmps25
    go_wp2_with (go_at_call 24; (with_reducible refine HR.out.mono ?_); rintro e w1 ⟨rfl, hb1⟩; have HB1 := Lib.hid (HB0.out.trans (hb1.mono HB0.out.size)); clear hb1)
    go_ret
    exact ⟨_, rfl, by rw [HE.out]; exact World.ownsRow_nil _ _ _ _, HB1.out⟩
  · obtain ⟨⟨h1, h2⟩, ⟨h3, h4⟩, ⟨h5, h6⟩, _⟩ := rightBk_parts hr
    obtain ⟨a0, rfl⟩ := Int.eq_ofNat_of_zero_le h1
    obtain ⟨a1, rfl⟩ := Int.eq_ofNat_of_zero_le h3
    obtain ⟨a2, rfl⟩ := Int.eq_ofNat_of_zero_le h5
    have e : bkBytes a0 a1 a2 (l.map Le.ep) = encBk a0 a1 a2 (l.map Le.ep) ++ Cm.le4 (Cm.sum (encBk a0 a1 a2 (l.map Le.ep))) := by unfold bkBytes; rw [hr]; rfl
    rw [e]
    exact dbytes_nat a0 a1 a2 A l n c B w hn hy hB hl hs hok (by omega) (by omega) (by omega) hr
end Go.Proofs.Ytchcjbapbdfhkaa

namespace Go.Proofs.Ytchcjbapbdfhkaa
open Go.RowKit Go.Maps
set_option linter.unusedVariables false
set_option linter.unusedSimpArgs false
set_option maxRecDepth 100000

theorem bytesL (x : Bl) (h : x.l.length ≤ 120 ∧ ∀ e ∈ x.l, e.l.length ≤ 60) : x.bytes.length ≤ 3000004 := by
  unfold Bl.bytes
  refine bkBytes_len (by rw [List.length_map]; exact h.1) (fun e he => ?_)
  obtain ⟨y, hy, rfl⟩ := List.mem_map.1 he
  show (y.l.map Ls.s).length ≤ 60
  rw [List.length_map]
  exact h.2 y hy
set_option maxHeartbeats 8000000 in
theorem dtotal_any (A : Option Addr) (n c B : Nat) (l : List Bl) (w : World) (hn : n = l.length) (hy : RdBls w B A l) (hB : B ≤ w.heap.size) (hl : n ≤ 1000) (hs : ∀ x ∈ l, x.l.length ≤ 120 ∧ ∀ e ∈ x.l, e.l.length ≤ 60) (hok : ∀ x ∈ l, x.ok) :
    Calls Try.prog 45 #[.slice A n c] w fun e w' => e = .returned (.int .i64 (totH (l.map Bl.hd) : Nat)) ∧ Below w.heap.size w w' := by
  have HN := Lib.hid hn
  have HY := Lib.hid hy
  have HS := Lib.hid hs
  have HK := Lib.hid hok
  obtain ⟨R, hR⟩ : ∃ R, R = totH (l.map Bl.hd) := ⟨_, rfl⟩
  rw [← hR]
  have HRT := Lib.hid hR
  clear hn hy hs hok hR
  go_enter Try.func45, Try.ntmps45
  go_wp2_with fail
  go_loopw [4, 3] (fun iv tv wr => ∃ k t : Nat, iv = .int .i64 (k : Int) ∧ tv = .int .i64 (t : Int) ∧ k ≤ n ∧ Hid (t = totH ((l.take k).map Bl.hd)) ∧ Hid (t ≤ 3000004 * k) ∧ Hid (Below w.heap.size w wr)) (fun iv _ _ => n - (intOf iv).toNat)
  case atStart => exact ⟨0, 0, rfl, rfl, Nat.zero_le _, Lib.hid (by simp [totH]), Lib.hid (Nat.zero_le _), Lib.hid (Below.refl _ _)⟩
  case round =>
    obtain ⟨k, t, rfl, rfl, hk, HT, HTB, HB⟩ := hrel
    by_cases hlt : k < n
    · obtain ⟨x, hx⟩ : ∃ x, l[k]? = some x := ⟨_, List.getElem?_eq_getElem (by rw [← HN.out]; exact hlt)⟩
      have hR := HY.out.below (HB.out.mono hB)
      have hsx := HS.out x (List.mem_of_getElem? hx)
      have hkx := HK.out x (List.mem_of_getElem? hx)
      have hbl := bytesL x hsx
      have hst : totH ((l.take (k + 1)).map Bl.hd) = totH ((l.take k).map Bl.hd) + x.bytes.length := by
        rw [List.take_add_one, hx, List.map_append]
        exact totH_app _ _
      obtain ⟨nu, bo, ti, es, eA, ec⟩ := x
      obtain ⟨m, hm⟩ : ∃ m, m = es.length := ⟨_, rfl⟩
      obtain ⟨a, ha, hab, c0, c1, c2, c3, hre⟩ := blcells hR hx m hm
      subst ha
      have hws := HB.out.size
      simp only [Bl.bytes] at hbl hst
      obtain ⟨sz, hsz⟩ : ∃ sz, sz = (bkBytes nu bo ti (es.map Le.ep)).length := ⟨_, rfl⟩
      rw [← hsz] at hbl hst
      have HST := Lib.hid hst
      have tw1 : IntKind.i64.wrap ((t : Int) + (sz : Int)) = ((t + sz : Nat) : Int) := by have := HTB.out; rw [IntKind.wrap_i64]; omega
      have i0 : (0 : Int) ≤ (k : Int) := by omega
      have i1 : (k : Int) < (n : Int) := by omega
      have BYC := Lib.hid (dbytes_blk nu bo ti eA es m ec B wr hm hre (by omega) (by rw [hm]; exact hsx.1) hsx.2 hkx.eps)
      have HSZ := Lib.hid hsz
      clear hx hR hsx hkx hm hre hsz hst
      go_wp2_with (go_at_call 25; (with_reducible refine BYC.out.mono ?_); rintro e w5 ⟨v5, rfl, ho5, hb5⟩; obtain ⟨A5, c5, hv5, _, _⟩ := own_rd ho5; rw [← HSZ.out] at hv5; subst hv5; have HB5 := Lib.hid (HB.out.trans (hb5.mono hws)); clear ho5 hb5)
      go_roundw
      case rel => exact ⟨k + 1, t + sz, by go_num, by go_num, by omega, Lib.hid (by rw [HST.out, ← HT.out]), Lib.hid (by have := HTB.out; omega), HB5⟩
      case measure => simp [intOf]; omega
    · obtain rfl : k = n := by omega
      have htk : l.take k = l := List.take_of_length_le (by rw [← HN.out]; exact Nat.le_refl _)
      rw [htk] at HT
      have hRt : R = t := by rw [HRT.out, HT.out]
      subst hRt
      go_wp2_with fail
      go_ret
      exact ⟨rfl, HB.out⟩
set_option maxHeartbeats 8000000 in
theorem total_any (A : Option Addr) (n c B : Nat) (l : List Bl) (w : World) (hn : n = l.length) (hy : RdBls w B A l) (hB : B ≤ w.heap.size) (hl : n ≤ 1000) (hs : ∀ x ∈ l, x.l.length ≤ 120 ∧ ∀ e ∈ x.l, e.l.length ≤ 60) (hok : ∀ x ∈ l, x.ok) :
    Calls Try.prog 44 #[.slice A n c] w fun e w' => e = .returned (.int .i64 (totH (l.map Bl.hd) : Nat)) ∧ Below w.heap.size w w' := by
  have HN := Lib.hid hn
  have HY := Lib.hid hy
  have HS := Lib.hid hs
  have HK := Lib.hid hok
  obtain ⟨R, hR⟩ : ∃ R, R = totH (l.map Bl.hd) := ⟨_, rfl⟩
  rw [← hR]
  have HRT := Lib.hid hR
  clear hn hy hs hok hR
  go_enter Try.func44, Try.ntmps44
  go_wp2_with fail
  go_loopw [8, 3] (fun iv tv wr => ∃ k t : Nat, iv = .int .i64 (k : Int) ∧ tv = .int .i64 (t : Int) ∧ k ≤ n ∧ Hid (t = totH ((l.take k).map Bl.hd)) ∧ Hid (t ≤ 3000004 * k) ∧ Hid (Below w.heap.size w wr)) (fun iv _ _ => n - (intOf iv).toNat)
  case atStart => exact ⟨0, 0, rfl, rfl, Nat.zero_le _, Lib.hid (by simp [totH]), Lib.hid (Nat.zero_le _), Lib.hid (Below.refl _ _)⟩
  case round =>
    obtain ⟨k, t, rfl, rfl, hk, HT, HTB, HB⟩ := hrel
    by_cases hlt : k < n
    · obtain ⟨x, hx⟩ : ∃ x, l[k]? = some x := ⟨_, List.getElem?_eq_getElem (by rw [← HN.out]; exact hlt)⟩
      have hR := HY.out.below (HB.out.mono hB)
      have hsx := HS.out x (List.mem_of_getElem? hx)
      have hkx := HK.out x (List.mem_of_getElem? hx)
      have hbl := bytesL x hsx
      have hst : totH ((l.take (k + 1)).map Bl.hd) = totH ((l.take k).map Bl.hd) + x.bytes.length := by
        rw [List.take_add_one, hx, List.map_append]
        exact totH_app _ _
      obtain ⟨nu, bo, ti, es, eA, ec⟩ := x
      obtain ⟨m, hm⟩ : ∃ m, m = es.length := ⟨_, rfl⟩
      obtain ⟨a, ha, hab, c0, c1, c2, c3, hre⟩ := blcells hR hx m hm
      subst ha
      have hws := HB.out.size
      simp only [Bl.bytes] at hbl hst
      obtain ⟨sz, hsz⟩ : ∃ sz, sz = (bkBytes nu bo ti (es.map Le.ep)).length := ⟨_, rfl⟩
      rw [← hsz] at hbl hst
      have HST := Lib.hid hst
      have tw1 : IntKind.i64.wrap ((t : Int) + (sz : Int)) = ((t + sz : Nat) : Int) := by have := HTB.out; rw [IntKind.wrap_i64]; omega
      have i0 : (0 : Int) ≤ (k : Int) := by omega
      have i1 : (k : Int) < (n : Int) := by omega
      have HBA : Hid (Below wr.heap.size wr (wr.alloc (.cells #[.int .i64 nu, .int .i64 bo, .int .i64 ti, .slice eA m ec] 24))) := Lib.hid ((Below.refl _ _).alloc (Nat.le_refl _) _)
      have HB2 : Hid (Below w.heap.size w (wr.alloc (.cells #[.int .i64 nu, .int .i64 bo, .int .i64 ti, .slice eA m ec] 24))) := Lib.hid (HB.out.alloc hws _)
      have hz2 : (wr.alloc (.cells #[.int .i64 nu, .int .i64 bo, .int .i64 ti, .slice eA m ec] 24)).heap.size = wr.heap.size + 1 := by simp
      have SZC := Lib.hid (size_blk nu bo ti eA es m ec B (wr.alloc (.cells #[.int .i64 nu, .int .i64 bo, .int .i64 ti, .slice eA m ec] 24)) hm (hre.below (HBA.out.mono (by omega))) (by rw [hz2]; omega) (by rw [hm]; exact hsx.1) hsx.2 hkx.eps)
      rw [← hsz] at SZC
      clear hx hR hsx hkx hm hre hsz hst
      go_wp2_with (go_at_call 26; (with_reducible refine SZC.out.mono ?_); rintro e w5 ⟨rfl, hb5⟩; have HB5 := Lib.hid (HB2.out.trans (hb5.mono HB2.out.size)); clear hb5)
      go_roundw
      case rel => exact ⟨k + 1, t + sz, by go_num, by go_num, by omega, Lib.hid (by rw [HST.out, ← HT.out]), Lib.hid (by have := HTB.out; omega), HB5⟩
      case measure => simp [intOf]; omega
    · obtain rfl : k = n := by omega
      have htk : l.take k = l := List.take_of_length_le (by rw [← HN.out]; exact Nat.le_refl _)
      rw [htk] at HT
      have hRt : R = t := by rw [HRT.out, HT.out]
      subst hRt
      go_wp2_with fail
      go_ret
      exact ⟨rfl, HB.out⟩
end Go.Proofs.Ytchcjbapbdfhkaa
