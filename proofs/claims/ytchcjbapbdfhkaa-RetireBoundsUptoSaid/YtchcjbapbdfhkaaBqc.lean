/- Whether a block is right. -/
import Derived.Test.YtchcjbapbdfhkaaBqb
import Derived.Test.YtchcjbapbdfhkaaBs
namespace Go.Proofs.Ytchcjbapbdfhkaa
open Go.RowKit Go.Maps
set_option linter.unusedVariables false
set_option linter.unusedSimpArgs false
set_option maxRecDepth 100000

theorem okAt_zero {l : List Ep} {e : Ep} (h : l[0]? = some e) (ok : okEp e = true) : okAtE l 0 = true := by
  unfold okAtE
  rw [h]
  simpa using ok
theorem okAt_succ {l : List Ep} {j : Nat} {e p : Ep} (h : l[j + 1]? = some e) (hp : l[j]? = some p) (hlt : ltE e p = false) (ok : okEp e = true) : okAtE l (j + 1) = true := by
  show ((match l[j + 1]? with
    | some e => okEp e
    | none => true) && (match l[j]?, l[j + 1]? with
    | some a, some b => !ltE b a
    | _, _ => true)) = _
  rw [h, hp]
  simp only
  rw [ok, hlt]
  rfl
theorem okAt_bad1 {l : List Ep} {k : Nat} {e : Ep} (h : l[k]? = some e) (ok : okEp e = false) : okAtE l k = false := by
  unfold okAtE
  rw [h]
  simp only
  rw [ok]
  rfl
theorem okAt_bad2 {l : List Ep} {j : Nat} {e p : Ep} (h : l[j + 1]? = some e) (hp : l[j]? = some p) (hlt : ltE e p = true) : okAtE l (j + 1) = false := by
  show ((match l[j + 1]? with
    | some e => okEp e
    | none => true) && (match l[j]?, l[j + 1]? with
    | some a, some b => !ltE b a
    | _, _ => true)) = _
  rw [h, hp]
  simp only
  rw [hlt]
  simp
theorem rightEs_bad {l : List Ep} {k : Nat} (hk : k < l.length) (h : okAtE l k = false) : rightEs l = false := range_all_not hk h
theorem rightBk_eq (nu bo ti : Int) (l : List Ep) : rightBk nu bo ti l = ((cntI nu && (cntI bo && cntI ti)) && rightEs l) := by
  unfold rightBk
  simp only [Bool.and_assoc]
theorem ltE_ord (a b : Ep) : ltE a b = decide (0 < ordT b.hi b.lo a.hi a.lo) := by
  have h := ordT_lt b.hi b.lo a.hi a.lo
  unfold ltE
  by_cases h1 : 0 < ordT b.hi b.lo a.hi a.lo
  · rw [decide_eq_true h1]
    rcases h.1 h1 with h2 | ⟨h2, h3⟩
    · simp [h2]
    · simp [h2, h3]
  · rw [decide_eq_false h1]
    have h2 : ¬ (a.hi < b.hi ∨ (a.hi = b.hi ∧ a.lo < b.lo)) := fun hh => h1 (h.2 hh)
    simp only [not_or, not_and] at h2
    simp only [Bool.or_eq_false_iff, Bool.and_eq_false_imp, decide_eq_true_eq, decide_eq_false_iff_not]
    exact h2
def RbB (aa : Addr) (n c gx bx k j : Nat) (th tl f la : Int) (su : Bool) (eA : Option Addr) (m ec : Nat) (ph pl ov : Int) : Nat → Value → World → Prop
  | 0, v, _ => v = .agg #[.int .u64 th, .int .u64 tl, .int .i64 f, .int .i64 la, .bool su, .slice eA m ec]
  | 1, v, _ => v = .bool false
  | 2, v, _ => v = .bool true
  | 3, v, _ => v = .bool true
  | 4, v, _ => v = undef
  | 5, v, _ => v = undef
  | 6, v, _ => v = undef
  | 7, v, _ => v = undef
  | 8, v, _ => v = undef
  | 9, v, _ => v = undef
  | 10, v, _ => v = undef
  | 11, v, _ => v = undef
  | 12, v, _ => v = undef
  | 13, v, _ => v = undef
  | 14, v, _ => v = undef
  | 15, v, _ => v = undef
  | 16, v, _ => v = undef
  | 17, v, _ => v = undef
  | 18, v, _ => v = undef
  | 19, v, _ => v = .bool true
  | _, _, _ => True
theorem RbB.keep {aa : Addr} {n c gx bx k j : Nat} {th tl f la : Int} {su : Bool} {eA : Option Addr} {m ec : Nat} {ph pl ov : Int} {w w' : World} {i : Nat} {v : Value} (h : RbB aa n c gx bx k j th tl f la su eA m ec ph pl ov i v w) : RbB aa n c gx bx k j th tl f la su eA m ec ph pl ov i v w' := by
  match i, h with
  | 0, h => exact h
  | 1, h => exact h
  | 2, h => exact h
  | 3, h => exact h
  | 4, h => exact h
  | 5, h => exact h
  | 6, h => exact h
  | 7, h => exact h
  | 8, h => exact h
  | 9, h => exact h
  | 10, h => exact h
  | 11, h => exact h
  | 12, h => exact h
  | 13, h => exact h
  | 14, h => exact h
  | 15, h => exact h
  | 16, h => exact h
  | 17, h => exact h
  | 18, h => exact h
  | 19, h => exact h
  | _ + 20, h => trivial
def RbF (aa : Addr) (n c gx bx k j : Nat) (th tl f la : Int) (su : Bool) (eA : Option Addr) (m ec : Nat) (ph pl ov : Int) : Nat → Value → World → Prop
  | 0, v, _ => v = .agg #[.int .u64 th, .int .u64 tl, .int .i64 f, .int .i64 la, .bool su, .slice eA m ec]
  | 1, v, _ => v = .bool true
  | 2, v, _ => v = .bool false
  | 3, v, _ => v = .bool false
  | 4, v, _ => v = .int .i64 (0 : Int)
  | 5, v, _ => v = .bool false
  | 6, v, _ => v = .bool false
  | 7, v, _ => v = undef
  | 8, v, _ => v = undef
  | 9, v, _ => v = undef
  | 10, v, _ => v = undef
  | 11, v, _ => v = undef
  | 12, v, _ => v = undef
  | 13, v, _ => v = undef
  | 14, v, _ => v = undef
  | 15, v, _ => v = undef
  | 16, v, _ => v = undef
  | 17, v, _ => v = undef
  | 18, v, _ => v = .bool false
  | 19, v, _ => v = .bool false
  | _, _, _ => True
theorem RbF.keep {aa : Addr} {n c gx bx k j : Nat} {th tl f la : Int} {su : Bool} {eA : Option Addr} {m ec : Nat} {ph pl ov : Int} {w w' : World} {i : Nat} {v : Value} (h : RbF aa n c gx bx k j th tl f la su eA m ec ph pl ov i v w) : RbF aa n c gx bx k j th tl f la su eA m ec ph pl ov i v w' := by
  match i, h with
  | 0, h => exact h
  | 1, h => exact h
  | 2, h => exact h
  | 3, h => exact h
  | 4, h => exact h
  | 5, h => exact h
  | 6, h => exact h
  | 7, h => exact h
  | 8, h => exact h
  | 9, h => exact h
  | 10, h => exact h
  | 11, h => exact h
  | 12, h => exact h
  | 13, h => exact h
  | 14, h => exact h
  | 15, h => exact h
  | 16, h => exact h
  | 17, h => exact h
  | 18, h => exact h
  | 19, h => exact h
  | _ + 20, h => trivial
def RbM (aa : Addr) (n c gx bx k j : Nat) (th tl f la : Int) (su : Bool) (eA : Option Addr) (m ec : Nat) (ph pl ov : Int) : Nat → Value → World → Prop
  | 0, v, _ => v = .agg #[.int .u64 th, .int .u64 tl, .int .i64 f, .int .i64 la, .bool su, .slice eA m ec]
  | 1, v, _ => v = .bool true
  | 2, v, _ => v = .bool false
  | 3, v, _ => v = .bool false
  | 4, v, _ => v = .int .i64 ((j : Int) + 1)
  | 5, v, _ => v = .bool true
  | 6, v, _ => v = .bool true
  | 7, v, _ => v = .pointer (some ⟨bx, 3, none⟩)
  | 8, v, _ => v = .slice (some aa) n c
  | 9, v, _ => v = .int .i64 ((j : Int) + 1)
  | 10, v, _ => v = .int .i64 (j : Int)
  | 11, v, _ => v = .pointer (some (aa.add (j * 6)))
  | 12, v, _ => v = .pointer (some (aa.add (j * 6)))
  | 13, v, _ => v = .agg #[.int .u64 ph, .int .u64 pl]
  | 14, v, _ => v = .pointer (some ⟨gx, 0, none⟩)
  | 15, v, _ => v = .agg #[.int .u64 th, .int .u64 tl]
  | 16, v, _ => v = .int .i64 ov
  | 17, v, _ => v = .bool false
  | 18, v, _ => v = .bool false
  | 19, v, _ => v = .bool false
  | _, _, _ => True
theorem RbM.keep {aa : Addr} {n c gx bx k j : Nat} {th tl f la : Int} {su : Bool} {eA : Option Addr} {m ec : Nat} {ph pl ov : Int} {w w' : World} {i : Nat} {v : Value} (h : RbM aa n c gx bx k j th tl f la su eA m ec ph pl ov i v w) : RbM aa n c gx bx k j th tl f la su eA m ec ph pl ov i v w' := by
  match i, h with
  | 0, h => exact h
  | 1, h => exact h
  | 2, h => exact h
  | 3, h => exact h
  | 4, h => exact h
  | 5, h => exact h
  | 6, h => exact h
  | 7, h => exact h
  | 8, h => exact h
  | 9, h => exact h
  | 10, h => exact h
  | 11, h => exact h
  | 12, h => exact h
  | 13, h => exact h
  | 14, h => exact h
  | 15, h => exact h
  | 16, h => exact h
  | 17, h => exact h
  | 18, h => exact h
  | 19, h => exact h
  | _ + 20, h => trivial
def RbL (aa : Addr) (n c gx bx k j : Nat) (th tl f la : Int) (su : Bool) (eA : Option Addr) (m ec : Nat) (ph pl ov : Int) : Nat → Value → World → Prop
  | 0, v, _ => v = .agg #[.int .u64 th, .int .u64 tl, .int .i64 f, .int .i64 la, .bool su, .slice eA m ec]
  | 1, v, _ => v = .bool true
  | 2, v, _ => v = .bool false
  | 3, v, _ => v = .bool false
  | 4, v, _ => v = .int .i64 ((j : Int) + 1)
  | 5, v, _ => v = .bool true
  | 6, v, _ => v = .bool true
  | 7, v, _ => v = .pointer (some ⟨bx, 3, none⟩)
  | 8, v, _ => v = .slice (some aa) n c
  | 9, v, _ => v = .int .i64 ((j : Int) + 1)
  | 10, v, _ => v = .int .i64 (j : Int)
  | 11, v, _ => v = .pointer (some (aa.add (j * 6)))
  | 12, v, _ => v = .pointer (some (aa.add (j * 6)))
  | 13, v, _ => v = .agg #[.int .u64 ph, .int .u64 pl]
  | 14, v, _ => v = .pointer (some ⟨gx, 0, none⟩)
  | 15, v, _ => v = .agg #[.int .u64 th, .int .u64 tl]
  | 16, v, _ => v = .int .i64 ov
  | 17, v, _ => v = .bool true
  | 18, v, _ => v = .bool true
  | 19, v, _ => v = .bool true
  | _, _, _ => True
theorem RbL.keep {aa : Addr} {n c gx bx k j : Nat} {th tl f la : Int} {su : Bool} {eA : Option Addr} {m ec : Nat} {ph pl ov : Int} {w w' : World} {i : Nat} {v : Value} (h : RbL aa n c gx bx k j th tl f la su eA m ec ph pl ov i v w) : RbL aa n c gx bx k j th tl f la su eA m ec ph pl ov i v w' := by
  match i, h with
  | 0, h => exact h
  | 1, h => exact h
  | 2, h => exact h
  | 3, h => exact h
  | 4, h => exact h
  | 5, h => exact h
  | 6, h => exact h
  | 7, h => exact h
  | 8, h => exact h
  | 9, h => exact h
  | 10, h => exact h
  | 11, h => exact h
  | 12, h => exact h
  | 13, h => exact h
  | 14, h => exact h
  | 15, h => exact h
  | 16, h => exact h
  | 17, h => exact h
  | 18, h => exact h
  | 19, h => exact h
  | _ + 20, h => trivial
set_option maxHeartbeats 32000000 in
theorem right_blk (nu bo ti : Int) (A : Option Addr) (l : List Le) (n c B : Nat) (w : World) (hn : n = l.length) (hy : RdEps w B A l) (hB : B ≤ w.heap.size) (hl : n ≤ 1000) (hs : ∀ e ∈ l, e.l.length ≤ 1000) :
    Calls Try.prog 23 #[.agg #[.int .i64 nu, .int .i64 bo, .int .i64 ti, .slice A n c]] w fun e w' => e = .returned (.bool (rightBk nu bo ti (l.map Le.ep))) ∧ Below w.heap.size w w' := by
  rw [rightBk_eq]
  have RHC := Lib.hid (fun W => righthead_any nu bo ti A n c W)
  have HB0 := Lib.hid ((Below.refl w.heap.size w).alloc (Nat.le_refl _) (.cells #[.int .i64 nu, .int .i64 bo, .int .i64 ti, .slice A n c] 24))
  generalize (cntI nu && (cntI bo && cntI ti)) = hb at *
  obtain ⟨L, hL⟩ : ∃ L, L = l.map Le.ep := ⟨_, rfl⟩
  have hLn : L.length = n := by rw [hL, List.length_map, hn]
  rw [← hL]
  have HLE := Lib.hid hL
  have HLN := Lib.hid hLn
  have HN := Lib.hid hn
  have HY := Lib.hid hy
  have HS := Lib.hid hs
  clear hL hLn hn hy hs
  have hW1 : (w.alloc (.cells #[.int .i64 nu, .int .i64 bo, .int .i64 ti, .slice A n c] 24)).heap.size = w.heap.size + 1 := by simp
  have HBW : Hid (∀ w1, Below (w.heap.size + 1) (w.alloc (.cells #[.int .i64 nu, .int .i64 bo, .int .i64 ti, .slice A n c] 24)) w1 → Below w.heap.size w w1) := Lib.hid (fun w1 hb => HB0.out.trans (hb.mono (by omega)))
  have HTB : Hid (∀ w1, Below (w.heap.size + 1) (w.alloc (.cells #[.int .i64 nu, .int .i64 bo, .int .i64 ti, .slice A n c] 24)) w1 → w1.heap[w.heap.size]? = some (.cells #[.int .i64 nu, .int .i64 bo, .int .i64 ti, .slice A n c] 24) ∧ w.heap.size + 1 ≤ w1.heap.size) := Lib.hid (fun w1 hb => ⟨(hb.block _ (by omega)).trans (heap_alloc_new w _), by have := hb.size; rw [hW1] at this; exact this⟩)
  have HBI : Hid (∀ w1, Below (w.alloc (.cells #[.int .i64 nu, .int .i64 bo, .int .i64 ti, .slice A n c] 24)).heap.size (w.alloc (.cells #[.int .i64 nu, .int .i64 bo, .int .i64 ti, .slice A n c] 24)) w1 → Below (w.heap.size + 1) (w.alloc (.cells #[.int .i64 nu, .int .i64 bo, .int .i64 ti, .slice A n c] 24)) w1) := Lib.hid (fun w1 hb => hb.mono (by rw [hW1]; exact Nat.le_refl _))
  obtain ⟨fw, hfw⟩ : ∃ fw, fw = (hb && rightEs L) := ⟨_, rfl⟩
  rw [← hfw]
  have HF := Lib.hid hfw
  clear hfw
  cases hb
  · have HQ : Hid (fw = false) := Lib.hid (by rw [HF.out]; rfl)
    go_enter Try.func23, Try.ntmps23
    go_wp2_with (go_at_call 63; (with_reducible refine (RHC.out _).mono ?_); rintro e w1 ⟨rfl, hb1⟩; have HB1 := Lib.hid (HBI.out _ hb1); clear hb1)
    go_ret
    exact ⟨by rw [HQ.out] <;> rfl, HBW.out _ HB1.out⟩
  have HQ : Hid (fw = rightEs L) := Lib.hid (by rw [HF.out]; rfl)
  clear HF
  go_enter Try.func23, Try.ntmps23
  go_wp2_with (go_at_call 63; (with_reducible refine (RHC.out _).mono ?_); rintro e w1 ⟨rfl, hb1⟩; have HB1 := Lib.hid (HBI.out _ hb1); have hT1 := (HTB.out _ HB1.out).1; have b3 : w1.cell? ⟨w.heap.size, 3, none⟩ = some (.slice A n c) := cell_of_row _ _ 3 _ _ (0, 0) hT1; clear hb1 hT1)
  clear b3
  go_loopw [11] (fun iv wr => ∃ k : Nat, iv = .int .i64 (k : Int) ∧ k ≤ n ∧ Hid ((List.range k).all (okAtE L) = true) ∧ Hid (Below (w.heap.size + 1) (w.alloc (.cells #[.int .i64 nu, .int .i64 bo, .int .i64 ti, .slice A n c] 24)) wr)) (fun iv _ => n - (intOf iv).toNat)
  case atStart => exact ⟨0, rfl, Nat.zero_le _, Lib.hid (by simp), HB1⟩
  case round =>
    obtain ⟨k, rfl, hk, HK, HB⟩ := hrel
    by_cases hlt : k < n
    · obtain ⟨e, hx⟩ : ∃ e, l[k]? = some e := ⟨_, List.getElem?_eq_getElem (by rw [← HN.out]; exact hlt)⟩
      obtain ⟨hT, hsr⟩ := HTB.out _ HB.out
      have hBw := HBW.out _ HB.out
      have HR : Hid (RdEps wr B A l) := Lib.hid (HY.out.below (hBw.mono hB))
      obtain ⟨aa, ha, hab, hc, hxl⟩ := HR.out.at_ hx
      subst ha
      have hm1 := HS.out e (List.mem_of_getElem? hx)
      have HEE : Hid (L[k]? = some e.ep) := Lib.hid (by rw [HLE.out, List.getElem?_map, hx]; rfl)
      obtain ⟨th, tl, f, la, su, el, eA, ec⟩ := e
      obtain ⟨m, hm⟩ : ∃ m, m = el.length := ⟨_, rfl⟩
      simp only at hm1
      rw [← hm] at hm1
      have HXL := Lib.hid hx
      have HMN := Lib.hid hm
      have c0 := hc 0 _ rfl
      have c1 := cell_far (hc 1 _ rfl) (by omega)
      have c2 := cell_far (hc 2 _ rfl) (by omega)
      have c3 := cell_far (hc 3 _ rfl) (by omega)
      have c4 := cell_far (hc 4 _ rfl) (by omega)
      have c5 : wr.cell? ⟨(aa.add (k * 6)).block, (aa.add (k * 6)).off + 5, none⟩ = some (.slice eA m ec) := by rw [hm]; exact cell_far (hc 5 _ rfl) (by omega)
      simp only [Nat.add_zero] at c0
      simp only at c1 c2 c3 c4
      have hkL : k < L.length := by rw [HLN.out]; exact hlt
      have HKL := Lib.hid hkL
      clear hc hxl hx hm hkL
      have hab2 : (aa.add (k * 6)).block < wr.heap.size := by rw [block_add]; have := hBw.size; omega
      go_upto_region 6 with fail
      obtain ⟨W, hW⟩ : ∃ W, W = (wr.alloc (.cells #[.int .u64 th, .int .u64 tl, .int .i64 f, .int .i64 la, .bool su, .slice eA m ec] 48)).drew := ⟨_, rfl⟩
      have hBA : Below wr.heap.size wr W := by rw [hW]; have h := (Below.refl wr.heap.size wr).alloc (Nat.le_refl _) (.cells #[.int .u64 th, .int .u64 tl, .int .i64 f, .int .i64 la, .bool su, .slice eA m ec] 48); exact ⟨h.os, h.tape, h.output, h.size, h.block⟩
      have hq5 : W.heap[wr.heap.size]? = some (.cells #[.int .u64 th, .int .u64 tl, .int .i64 f, .int .i64 la, .bool su, .slice eA m ec] 48) := by rw [hW]; exact heap_alloc_new wr (.cells #[.int .u64 th, .int .u64 tl, .int .i64 f, .int .i64 la, .bool su, .slice eA m ec] 48)
      have hWs : wr.heap.size < W.heap.size := in_heap hq5
      have HBW2 := Lib.hid hBA
      have HBR : Hid (Below (w.heap.size + 1) (w.alloc (.cells #[.int .i64 nu, .int .i64 bo, .int .i64 ti, .slice (some aa) n c] 24)) W) := Lib.hid (HB.out.trans (hBA.mono hsr))
      have hbx : W.heap[w.heap.size]? = some (.cells #[.int .i64 nu, .int .i64 bo, .int .i64 ti, .slice (some aa) n c] 24) := (hBA.block _ (by omega)).trans hT
      have HSV : Hid (∀ V, Below W.heap.size W V → Below wr.heap.size wr V) := Lib.hid (fun V hV => hBA.trans (hV.mono (by omega)))
      have HEC : Hid (∀ V, Below W.heap.size W V → V.cell? ⟨wr.heap.size, 0, none⟩ = some (.int .u64 th) ∧ V.cell? ⟨wr.heap.size, 1, none⟩ = some (.int .u64 tl) ∧ V.cell? ⟨wr.heap.size, 2, none⟩ = some (.int .i64 f) ∧ V.cell? ⟨wr.heap.size, 3, none⟩ = some (.int .i64 la) ∧ V.cell? ⟨wr.heap.size, 4, none⟩ = some (.bool su) ∧ V.cell? ⟨wr.heap.size, 5, none⟩ = some (.slice eA m ec)) := Lib.hid (fun V hV => by
        have hq := (hV.block _ hWs).trans hq5
        exact ⟨cell_of_row _ _ 0 _ _ (0, 0) hq, cell_of_row _ _ 1 _ _ (0, 0) hq, cell_of_row _ _ 2 _ _ (0, 0) hq, cell_of_row _ _ 3 _ _ (0, 0) hq, cell_of_row _ _ 4 _ _ (0, 0) hq, cell_of_row _ _ 5 _ _ (0, 0) hq⟩)
      have REC := Lib.hid (fun V (hV : Below W.heap.size W V) => rightep_any th tl f la su eA el m ec B V HMN.out ((HY.out.below ((HBW.out _ (HBR.out.trans (hV.mono (by omega)))).mono hB)).each _ (List.mem_of_getElem? HXL.out)) (Nat.le_trans hB (HBW.out _ (HBR.out.trans (hV.mono (by omega)))).size) hm1)
      have HEP : Hid ((Le.mk th tl f la su el eA ec).ep = ⟨th, tl, f, la, su, el.map Ls.s⟩) := Lib.hid rfl
      rw [HEP.out] at HEE
      obtain ⟨ox, hox⟩ : ∃ ox : Ep, ox = ⟨th, tl, f, la, su, el.map Ls.s⟩ := ⟨_, rfl⟩
      have hoh : ox.hi = th := by rw [hox]
      have hol : ox.lo = tl := by rw [hox]
      rw [← hox] at HEE REC
      clear hox HEP
      cases hok : okEp ox
      · rw [hok] at REC
        have HBD := Lib.hid (okAt_bad1 HEE.out hok)
        clear hok hbx hT
        have SS := Lib.hid (show ∀ V, Below W.heap.size W V → (V.cell? ⟨wr.heap.size, 0, none⟩ = some (.int .u64 th) ∧ V.cell? ⟨wr.heap.size, 1, none⟩ = some (.int .u64 tl) ∧ V.cell? ⟨wr.heap.size, 2, none⟩ = some (.int .i64 f) ∧ V.cell? ⟨wr.heap.size, 3, none⟩ = some (.int .i64 la) ∧ V.cell? ⟨wr.heap.size, 4, none⟩ = some (.bool su) ∧ V.cell? ⟨wr.heap.size, 5, none⟩ = some (.slice eA m ec)) ∧ True from fun V hV => ⟨HEC.out V hV, trivial⟩)
        refine PI.wp_region_persG (R := (fun w w' => Below w.heap.size w w')) (G := fun _ _ => True) (I := fun _ _ _ => True) [(1, 0), (2, 1), (3, 2), (4, 3), (5, 3), (6, 3), (7, 6), (8, 6), (9, 6), (10, 6), (11, 6), (12, 6), (13, 6), (14, 6), (15, 6), (16, 6), (17, 6), (18, 3), (19, 3)] [19] (by kernel_rfl) (PI.formed_of (by kernel_rfl)) ⟨fun w => Below.refl _ w, fun _ _ _ h k => h.trans (k.mono h.size)⟩ (fun _ => trivial) (RbB aa n c wr.heap.size w.heap.size k 0 th tl f la su eA m ec 0 0 0) trivial ?_ ?_
        · rw [← hW]
          intro i o ho
          rcases i with _ | _ | _ | _ | _ | _ | _ | _ | _ | _ | _ | _ | _ | _ | _ | _ | _ | _ | _ | _ | i
          · obtain rfl := Option.some.inj (show some _ = some o from ho)
            refine PI.shown_val rfl fun a w5 L0 hr T => ?_
            have h1 : a.eval (.tmp 4) = .pointer (some ⟨wr.heap.size, 0, none⟩) := T.was 4 (by kernel_rfl)
            have g0 := (SS.out w5 hr).1.1
            have g1 := (SS.out w5 hr).1.2.1
            have g2 := (SS.out w5 hr).1.2.2.1
            have g3 := (SS.out w5 hr).1.2.2.2.1
            have g4 := (SS.out w5 hr).1.2.2.2.2.1
            have g5 := (SS.out w5 hr).1.2.2.2.2.2
            exact ⟨.agg #[.int .u64 th, .int .u64 tl, .int .i64 f, .int .i64 la, .bool su, .slice eA m ec], w5, by simp only [execOp, h1]; simp [go_sem, g0, g1, g2, g3, g4, g5], PI.Post.pure ⟨fun w => Below.refl _ w, fun _ _ _ h k => h.trans (k.mono h.size)⟩ rfl trivial⟩
          · obtain rfl := Option.some.inj (show some _ = some o from ho)
            refine PI.shown_call rfl 64 fun a w5 L0 hr T => ?_
            have h0 : a.eval (.tmp 16) = .agg #[.int .u64 th, .int .u64 tl, .int .i64 f, .int .i64 la, .bool su, .slice eA m ec] := T.at_ 0 16 (by kernel_rfl) (by kernel_rfl) (by kernel_rfl)
            refine ⟨#[.agg #[.int .u64 th, .int .u64 tl, .int .i64 f, .int .i64 la, .bool su, .slice eA m ec]], by simp only [execOp, resolve, List.map_toArray, List.map_cons, List.map_nil, h0]; simp [go_sem, Act.eval], ?_⟩
            refine (REC.out w5 hr).mono fun e w6 hh => ?_
            obtain ⟨rfl, hb6⟩ := hh
            exact ⟨_, rfl, hb6, rfl, fun _ _ h => h, fun j v _ _ _ _ h => RbB.keep h, trivial⟩
          · obtain rfl := Option.some.inj (show some _ = some o from ho)
            refine PI.shown_val rfl fun a w5 L0 hr T => ?_
            have h1 : a.eval (.tmp 17) = .bool false := T.at_ 1 17 (by kernel_rfl) (by kernel_rfl) (by kernel_rfl)
            exact ⟨.bool true, w5, by simp only [execOp, h1]; simp [go_sem], PI.Post.pure ⟨fun w => Below.refl _ w, fun _ _ _ h k => h.trans (k.mono h.size)⟩ rfl trivial⟩
          · obtain rfl := Option.some.inj (show some _ = some o from ho)
            refine PI.shown_val rfl fun a w5 L0 hr T => ?_
            have h1 : a.eval (.tmp 18) = .bool true := T.at_ 2 18 (by kernel_rfl) (by kernel_rfl) (by kernel_rfl)
            exact ⟨.bool true, w5, by simp only [execOp, h1]; simp [go_sem], PI.Post.pure ⟨fun w => Below.refl _ w, fun _ _ _ h k => h.trans (k.mono h.size)⟩ rfl trivial⟩
          · obtain rfl := Option.some.inj (show some _ = some o from ho)
            exact PI.shown_not 3 19 false rfl (by kernel_rfl) (by kernel_rfl) (by kernel_rfl) (fun v w h => h) (fun w => rfl) (fun _ _ _ _ => trivial)
          · obtain rfl := Option.some.inj (show some _ = some o from ho)
            exact PI.shown_not 3 19 false rfl (by kernel_rfl) (by kernel_rfl) (by kernel_rfl) (fun v w h => h) (fun w => rfl) (fun _ _ _ _ => trivial)
          · obtain rfl := Option.some.inj (show some _ = some o from ho)
            exact PI.shown_not 3 19 false rfl (by kernel_rfl) (by kernel_rfl) (by kernel_rfl) (fun v w h => h) (fun w => rfl) (fun _ _ _ _ => trivial)
          · obtain rfl := Option.some.inj (show some _ = some o from ho)
            exact PI.shown_undef 6 22 true rfl (by kernel_rfl) (by kernel_rfl) (by kernel_rfl) (fun v w h => h) (fun w => rfl) (fun _ _ _ _ => trivial)
          · obtain rfl := Option.some.inj (show some _ = some o from ho)
            exact PI.shown_undef 6 22 true rfl (by kernel_rfl) (by kernel_rfl) (by kernel_rfl) (fun v w h => h) (fun w => rfl) (fun _ _ _ _ => trivial)
          · obtain rfl := Option.some.inj (show some _ = some o from ho)
            exact PI.shown_undef 6 22 true rfl (by kernel_rfl) (by kernel_rfl) (by kernel_rfl) (fun v w h => h) (fun w => rfl) (fun _ _ _ _ => trivial)
          · obtain rfl := Option.some.inj (show some _ = some o from ho)
            exact PI.shown_undef 6 22 true rfl (by kernel_rfl) (by kernel_rfl) (by kernel_rfl) (fun v w h => h) (fun w => rfl) (fun _ _ _ _ => trivial)
          · obtain rfl := Option.some.inj (show some _ = some o from ho)
            exact PI.shown_undef 6 22 true rfl (by kernel_rfl) (by kernel_rfl) (by kernel_rfl) (fun v w h => h) (fun w => rfl) (fun _ _ _ _ => trivial)
          · obtain rfl := Option.some.inj (show some _ = some o from ho)
            exact PI.shown_undef 6 22 true rfl (by kernel_rfl) (by kernel_rfl) (by kernel_rfl) (fun v w h => h) (fun w => rfl) (fun _ _ _ _ => trivial)
          · obtain rfl := Option.some.inj (show some _ = some o from ho)
            exact PI.shown_undef 6 22 true rfl (by kernel_rfl) (by kernel_rfl) (by kernel_rfl) (fun v w h => h) (fun w => rfl) (fun _ _ _ _ => trivial)
          · obtain rfl := Option.some.inj (show some _ = some o from ho)
            exact PI.shown_undef 6 22 true rfl (by kernel_rfl) (by kernel_rfl) (by kernel_rfl) (fun v w h => h) (fun w => rfl) (fun _ _ _ _ => trivial)
          · obtain rfl := Option.some.inj (show some _ = some o from ho)
            exact PI.shown_undef 6 22 true rfl (by kernel_rfl) (by kernel_rfl) (by kernel_rfl) (fun v w h => h) (fun w => rfl) (fun _ _ _ _ => trivial)
          · obtain rfl := Option.some.inj (show some _ = some o from ho)
            exact PI.shown_undef 6 22 true rfl (by kernel_rfl) (by kernel_rfl) (by kernel_rfl) (fun v w h => h) (fun w => rfl) (fun _ _ _ _ => trivial)
          · obtain rfl := Option.some.inj (show some _ = some o from ho)
            exact PI.shown_undef 6 22 true rfl (by kernel_rfl) (by kernel_rfl) (by kernel_rfl) (fun v w h => h) (fun w => rfl) (fun _ _ _ _ => trivial)
          · obtain rfl := Option.some.inj (show some _ = some o from ho)
            exact PI.shown_not 3 19 false rfl (by kernel_rfl) (by kernel_rfl) (by kernel_rfl) (fun v w h => h) (fun w => rfl) (fun _ _ _ _ => trivial)
          · obtain rfl := Option.some.inj (show some _ = some o from ho)
            refine PI.shown_val rfl fun a w5 L0 hr T => ?_
            have h0 : a.eval (.tmp 19) = .bool true := T.at_ 3 19 (by kernel_rfl) (by kernel_rfl) (by kernel_rfl)
            exact ⟨.bool true, w5, by simp only [execOp, h0]; simp [go_sem, Act.eval], PI.Post.pure ⟨fun w => Below.refl _ w, fun _ _ _ h k => h.trans (k.mono h.size)⟩ rfl trivial⟩
          · cases ho
        · rw [← hW]
          intro xx w9 hr hf he _
          have h14 := hf 19 _ 35 rfl rfl (by decide)
          have hx14 : xx 19 = .bool true := h14
          have HB9 : Hid (Below (w.heap.size + 1) (w.alloc (.cells #[.int .i64 nu, .int .i64 bo, .int .i64 ti, .slice (some aa) n c] 24)) w9) := Lib.hid (HBR.out.trans (hr.mono (Nat.le_trans hsr HBW2.out.size)))
          clear hf he hr h14
          simp only [PI.putAll, Act.put, List.setIfInBounds_toArray, List.set_cons_zero, List.set_cons_succ, Nat.zero_add, Nat.reduceAdd]
          rw [hx14]
          go_wp2_with fail
          go_ret
          exact ⟨by rw [HQ.out, (rightEs_bad HKL.out HBD.out)] <;> rfl, HBW.out _ HB9.out⟩

      · rw [hok] at REC
        have HOK := Lib.hid hok
        clear hok
        rcases Nat.eq_zero_or_pos k with h0 | h0
        · subst h0
          have hkb : decide ((0 : Int) < 0) = false := by decide
          have HGD := Lib.hid (okAt_zero HEE.out HOK.out)
          clear hbx hT
          have SS := Lib.hid (show ∀ V, Below W.heap.size W V → (V.cell? ⟨wr.heap.size, 0, none⟩ = some (.int .u64 th) ∧ V.cell? ⟨wr.heap.size, 1, none⟩ = some (.int .u64 tl) ∧ V.cell? ⟨wr.heap.size, 2, none⟩ = some (.int .i64 f) ∧ V.cell? ⟨wr.heap.size, 3, none⟩ = some (.int .i64 la) ∧ V.cell? ⟨wr.heap.size, 4, none⟩ = some (.bool su) ∧ V.cell? ⟨wr.heap.size, 5, none⟩ = some (.slice eA m ec)) ∧ True from fun V hV => ⟨HEC.out V hV, trivial⟩)
          (try simp only [Int.cast_ofNat_Int])
          refine PI.wp_region_persG (R := (fun w w' => Below w.heap.size w w')) (G := fun _ _ => True) (I := fun _ _ _ => True) [(1, 0), (2, 1), (3, 2), (4, 3), (5, 3), (5, 4), (6, 3), (6, 5), (7, 6), (8, 6), (9, 6), (10, 6), (11, 6), (12, 6), (13, 6), (14, 6), (15, 6), (16, 6), (17, 6), (18, 3), (18, 6), (19, 3), (19, 18)] [19] (by kernel_rfl) (PI.formed_of (by kernel_rfl)) ⟨fun w => Below.refl _ w, fun _ _ _ h k => h.trans (k.mono h.size)⟩ (fun _ => trivial) (RbF aa n c wr.heap.size w.heap.size 0 0 th tl f la su eA m ec 0 0 0) trivial ?_ ?_
          · rw [← hW]
            intro i o ho
            rcases i with _ | _ | _ | _ | _ | _ | _ | _ | _ | _ | _ | _ | _ | _ | _ | _ | _ | _ | _ | _ | i
            · obtain rfl := Option.some.inj (show some _ = some o from ho)
              refine PI.shown_val rfl fun a w5 L0 hr T => ?_
              have h1 : a.eval (.tmp 4) = .pointer (some ⟨wr.heap.size, 0, none⟩) := T.was 4 (by kernel_rfl)
              have g0 := (SS.out w5 hr).1.1
              have g1 := (SS.out w5 hr).1.2.1
              have g2 := (SS.out w5 hr).1.2.2.1
              have g3 := (SS.out w5 hr).1.2.2.2.1
              have g4 := (SS.out w5 hr).1.2.2.2.2.1
              have g5 := (SS.out w5 hr).1.2.2.2.2.2
              exact ⟨.agg #[.int .u64 th, .int .u64 tl, .int .i64 f, .int .i64 la, .bool su, .slice eA m ec], w5, by simp only [execOp, h1]; simp [go_sem, g0, g1, g2, g3, g4, g5], PI.Post.pure ⟨fun w => Below.refl _ w, fun _ _ _ h k => h.trans (k.mono h.size)⟩ rfl trivial⟩
            · obtain rfl := Option.some.inj (show some _ = some o from ho)
              refine PI.shown_call rfl 64 fun a w5 L0 hr T => ?_
              have h0 : a.eval (.tmp 16) = .agg #[.int .u64 th, .int .u64 tl, .int .i64 f, .int .i64 la, .bool su, .slice eA m ec] := T.at_ 0 16 (by kernel_rfl) (by kernel_rfl) (by kernel_rfl)
              refine ⟨#[.agg #[.int .u64 th, .int .u64 tl, .int .i64 f, .int .i64 la, .bool su, .slice eA m ec]], by simp only [execOp, resolve, List.map_toArray, List.map_cons, List.map_nil, h0]; simp [go_sem, Act.eval], ?_⟩
              refine (REC.out w5 hr).mono fun e w6 hh => ?_
              obtain ⟨rfl, hb6⟩ := hh
              exact ⟨_, rfl, hb6, rfl, fun _ _ h => h, fun j v _ _ _ _ h => RbF.keep h, trivial⟩
            · obtain rfl := Option.some.inj (show some _ = some o from ho)
              refine PI.shown_val rfl fun a w5 L0 hr T => ?_
              have h1 : a.eval (.tmp 17) = .bool true := T.at_ 1 17 (by kernel_rfl) (by kernel_rfl) (by kernel_rfl)
              exact ⟨.bool false, w5, by simp only [execOp, h1]; simp [go_sem], PI.Post.pure ⟨fun w => Below.refl _ w, fun _ _ _ h k => h.trans (k.mono h.size)⟩ rfl trivial⟩
            · obtain rfl := Option.some.inj (show some _ = some o from ho)
              refine PI.shown_val rfl fun a w5 L0 hr T => ?_
              have h1 : a.eval (.tmp 18) = .bool false := T.at_ 2 18 (by kernel_rfl) (by kernel_rfl) (by kernel_rfl)
              exact ⟨.bool false, w5, by simp only [execOp, h1]; simp [go_sem], PI.Post.pure ⟨fun w => Below.refl _ w, fun _ _ _ h k => h.trans (k.mono h.size)⟩ rfl trivial⟩
            · obtain rfl := Option.some.inj (show some _ = some o from ho)
              refine PI.shown_val_if 3 19 false rfl (by kernel_rfl) (by kernel_rfl) (by kernel_rfl) (fun v w h => h) fun a w5 L0 hr T => ?_
              have h1 : a.eval (.tmp 3) = .int .i64 (0 : Int) := T.was 3 (by kernel_rfl)
              exact ⟨.int .i64 (0 : Int), w5, by simp only [execOp, h1]; simp [go_sem], PI.Post.pure ⟨fun w => Below.refl _ w, fun _ _ _ h k => h.trans (k.mono h.size)⟩ rfl trivial⟩
            · obtain rfl := Option.some.inj (show some _ = some o from ho)
              refine PI.shown_val_if 3 19 false rfl (by kernel_rfl) (by kernel_rfl) (by kernel_rfl) (fun v w h => h) fun a w5 L0 hr T => ?_
              have h1 : a.eval (.tmp 20) = .int .i64 (0 : Int) := T.at_ 4 20 (by kernel_rfl) (by kernel_rfl) (by kernel_rfl)
              exact ⟨.bool false, w5, by simp only [execOp, h1]; simp [go_sem, Act.eval, hkb], PI.Post.pure ⟨fun w => Below.refl _ w, fun _ _ _ h k => h.trans (k.mono h.size)⟩ rfl trivial⟩
            · obtain rfl := Option.some.inj (show some _ = some o from ho)
              refine PI.shown_val_if 3 19 false rfl (by kernel_rfl) (by kernel_rfl) (by kernel_rfl) (fun v w h => h) fun a w5 L0 hr T => ?_
              have h1 : a.eval (.tmp 21) = .bool false := T.at_ 5 21 (by kernel_rfl) (by kernel_rfl) (by kernel_rfl)
              exact ⟨.bool false, w5, by simp only [execOp, h1]; simp [go_sem], PI.Post.pure ⟨fun w => Below.refl _ w, fun _ _ _ h k => h.trans (k.mono h.size)⟩ rfl trivial⟩
            · obtain rfl := Option.some.inj (show some _ = some o from ho)
              exact PI.shown_not 6 22 true rfl (by kernel_rfl) (by kernel_rfl) (by kernel_rfl) (fun v w h => h) (fun w => rfl) (fun _ _ _ _ => trivial)
            · obtain rfl := Option.some.inj (show some _ = some o from ho)
              exact PI.shown_not 6 22 true rfl (by kernel_rfl) (by kernel_rfl) (by kernel_rfl) (fun v w h => h) (fun w => rfl) (fun _ _ _ _ => trivial)
            · obtain rfl := Option.some.inj (show some _ = some o from ho)
              exact PI.shown_not 6 22 true rfl (by kernel_rfl) (by kernel_rfl) (by kernel_rfl) (fun v w h => h) (fun w => rfl) (fun _ _ _ _ => trivial)
            · obtain rfl := Option.some.inj (show some _ = some o from ho)
              exact PI.shown_not 6 22 true rfl (by kernel_rfl) (by kernel_rfl) (by kernel_rfl) (fun v w h => h) (fun w => rfl) (fun _ _ _ _ => trivial)
            · obtain rfl := Option.some.inj (show some _ = some o from ho)
              exact PI.shown_not 6 22 true rfl (by kernel_rfl) (by kernel_rfl) (by kernel_rfl) (fun v w h => h) (fun w => rfl) (fun _ _ _ _ => trivial)
            · obtain rfl := Option.some.inj (show some _ = some o from ho)
              exact PI.shown_not 6 22 true rfl (by kernel_rfl) (by kernel_rfl) (by kernel_rfl) (fun v w h => h) (fun w => rfl) (fun _ _ _ _ => trivial)
            · obtain rfl := Option.some.inj (show some _ = some o from ho)
              exact PI.shown_not 6 22 true rfl (by kernel_rfl) (by kernel_rfl) (by kernel_rfl) (fun v w h => h) (fun w => rfl) (fun _ _ _ _ => trivial)
            · obtain rfl := Option.some.inj (show some _ = some o from ho)
              exact PI.shown_not 6 22 true rfl (by kernel_rfl) (by kernel_rfl) (by kernel_rfl) (fun v w h => h) (fun w => rfl) (fun _ _ _ _ => trivial)
            · obtain rfl := Option.some.inj (show some _ = some o from ho)
              exact PI.shown_not 6 22 true rfl (by kernel_rfl) (by kernel_rfl) (by kernel_rfl) (fun v w h => h) (fun w => rfl) (fun _ _ _ _ => trivial)
            · obtain rfl := Option.some.inj (show some _ = some o from ho)
              exact PI.shown_not 6 22 true rfl (by kernel_rfl) (by kernel_rfl) (by kernel_rfl) (fun v w h => h) (fun w => rfl) (fun _ _ _ _ => trivial)
            · obtain rfl := Option.some.inj (show some _ = some o from ho)
              exact PI.shown_not 6 22 true rfl (by kernel_rfl) (by kernel_rfl) (by kernel_rfl) (fun v w h => h) (fun w => rfl) (fun _ _ _ _ => trivial)
            · obtain rfl := Option.some.inj (show some _ = some o from ho)
              refine PI.shown_val_if 3 19 false rfl (by kernel_rfl) (by kernel_rfl) (by kernel_rfl) (fun v w h => h) fun a w5 L0 hr T => ?_
              have h0 : a.eval (.tmp 22) = .bool false := T.at_ 6 22 (by kernel_rfl) (by kernel_rfl) (by kernel_rfl)
              exact ⟨.bool false, w5, by simp only [execOp, h0]; simp [go_sem, Act.eval], PI.Post.pure ⟨fun w => Below.refl _ w, fun _ _ _ h k => h.trans (k.mono h.size)⟩ rfl trivial⟩
            · obtain rfl := Option.some.inj (show some _ = some o from ho)
              refine PI.shown_val rfl fun a w5 L0 hr T => ?_
              have h0 : a.eval (.tmp 19) = .bool false := T.at_ 3 19 (by kernel_rfl) (by kernel_rfl) (by kernel_rfl)
              have h2 : a.eval (.tmp 34) = .bool false := T.at_ 18 34 (by kernel_rfl) (by kernel_rfl) (by kernel_rfl)
              exact ⟨.bool false, w5, by simp only [execOp, h0, h2]; simp [go_sem, Act.eval], PI.Post.pure ⟨fun w => Below.refl _ w, fun _ _ _ h k => h.trans (k.mono h.size)⟩ rfl trivial⟩
            · cases ho
          · rw [← hW]
            intro xx w9 hr hf he _
            have h14 := hf 19 _ 35 rfl rfl (by decide)
            have hx14 : xx 19 = .bool false := h14
            have HB9 : Hid (Below (w.heap.size + 1) (w.alloc (.cells #[.int .i64 nu, .int .i64 bo, .int .i64 ti, .slice (some aa) n c] 24)) w9) := Lib.hid (HBR.out.trans (hr.mono (Nat.le_trans hsr HBW2.out.size)))
            clear hf he hr h14
            simp only [PI.putAll, Act.put, List.setIfInBounds_toArray, List.set_cons_zero, List.set_cons_succ, Nat.zero_add, Nat.reduceAdd]
            rw [hx14]
            have HNK : Hid ((List.range (0 + 1)).all (okAtE L) = true) := Lib.hid (range_all_succ HK.out HGD.out)
            go_wp2_with fail
            go_roundw
            case rel => exact ⟨0 + 1, by go_num, by omega, HNK, HB9⟩
            case measure => simp [intOf] <;> omega

        · obtain ⟨j, rfl⟩ : ∃ j, k = j + 1 := ⟨k - 1, by omega⟩
          obtain ⟨p, hp⟩ : ∃ p, l[j]? = some p := ⟨_, List.getElem?_eq_getElem (by rw [← HN.out]; omega)⟩
          obtain ⟨a2, ha2, _, hc2, _⟩ := HR.out.at_ hp
          injection ha2 with ha2
          subst ha2
          have HPE : Hid (L[j]? = some p.ep) := Lib.hid (by rw [HLE.out, List.getElem?_map, hp]; rfl)
          have z0 := hc2 0 _ rfl
          have z1 := cell_far (hc2 1 _ rfl) (by omega)
          simp only [Nat.add_zero] at z0
          obtain ⟨ph, hph⟩ : ∃ ph, ph = p.hi := ⟨_, rfl⟩
          obtain ⟨pl, hpl⟩ : ∃ pl, pl = p.lo := ⟨_, rfl⟩
          rw [← hph] at z0
          rw [← hpl] at z1
          have hkb : decide ((0 : Int) < (j : Int) + 1) = true := decide_eq_true (by omega)
          have hwj : IntKind.i64.wrap ((j : Int) + 1 - 1) = (j : Int) := by rw [Int.add_sub_cancel]; rw [IntKind.wrap_i64]; omega
          have hwj2 : IntKind.i64.wrap (j : Int) = (j : Int) := by rw [IntKind.wrap_i64]; omega
          have p0 : (0 : Int) ≤ (j : Int) := by omega
          have p1 : (j : Int) < (n : Int) := by omega
          have haj : (aa.add (j * 6)).block < wr.heap.size := by rw [block_add]; have := hBw.size; omega
          have SS := Lib.hid (show ∀ V, Below W.heap.size W V → (V.cell? ⟨wr.heap.size, 0, none⟩ = some (.int .u64 th) ∧ V.cell? ⟨wr.heap.size, 1, none⟩ = some (.int .u64 tl) ∧ V.cell? ⟨wr.heap.size, 2, none⟩ = some (.int .i64 f) ∧ V.cell? ⟨wr.heap.size, 3, none⟩ = some (.int .i64 la) ∧ V.cell? ⟨wr.heap.size, 4, none⟩ = some (.bool su) ∧ V.cell? ⟨wr.heap.size, 5, none⟩ = some (.slice eA m ec)) ∧ V.cell? ⟨w.heap.size, 3, none⟩ = some (.slice (some aa) n c) ∧ V.cell? (aa.add (j * 6)) = some (.int .u64 ph) ∧ V.cell? ⟨(aa.add (j * 6)).block, (aa.add (j * 6)).off + 1, none⟩ = some (.int .u64 pl) from fun V hV => ⟨HEC.out V hV, cell_of_row _ _ 3 _ _ (0, 0) ((hV.block _ (by omega)).trans hbx), ((HSV.out V hV).cell (p := aa.add (j * 6)) haj).trans z0, ((HSV.out V hV).cell (p := ⟨(aa.add (j * 6)).block, (aa.add (j * 6)).off + 1, none⟩) haj).trans z1⟩)
          have BOC := Lib.hid (fun V (hV : Below W.heap.size W V) => blockorder_any ph pl th tl V)
          obtain ⟨ov, hovd⟩ : ∃ ov, ov = ordT ph pl th tl := ⟨_, rfl⟩
          rw [← hovd] at BOC
          have hlt2 : ltE ox p.ep = decide (0 < ov) := by
            rw [ltE_ord, hoh, hol, hovd, hph, hpl]
            rfl
          have HL2 := Lib.hid hlt2
          clear hp hc2 hph hpl z0 z1 hovd hlt2 hbx hT HEC HSV
          by_cases hov0 : 0 < ov
          · have hov : decide (0 < ov) = true := decide_eq_true hov0
            have HBD := Lib.hid (okAt_bad2 HEE.out HPE.out (HL2.out.trans hov))
            refine PI.wp_region_persG (R := (fun w w' => Below w.heap.size w w')) (G := fun _ _ => True) (I := fun _ _ _ => True) [(1, 0), (2, 1), (3, 2), (4, 3), (5, 3), (5, 4), (6, 3), (6, 5), (7, 6), (8, 6), (8, 7), (9, 6), (10, 6), (10, 9), (11, 6), (11, 8), (11, 10), (12, 6), (12, 11), (13, 6), (13, 12), (14, 6), (15, 6), (15, 14), (16, 6), (16, 13), (16, 15), (17, 6), (17, 16), (18, 3), (18, 6), (18, 17), (19, 3), (19, 18)] [19] (by kernel_rfl) (PI.formed_of (by kernel_rfl)) ⟨fun w => Below.refl _ w, fun _ _ _ h k => h.trans (k.mono h.size)⟩ (fun _ => trivial) (RbL aa n c wr.heap.size w.heap.size (j + 1) j th tl f la su eA m ec ph pl ov) trivial ?_ ?_
            · rw [← hW]
              intro i o ho
              rcases i with _ | _ | _ | _ | _ | _ | _ | _ | _ | _ | _ | _ | _ | _ | _ | _ | _ | _ | _ | _ | i
              · obtain rfl := Option.some.inj (show some _ = some o from ho)
                refine PI.shown_val rfl fun a w5 L0 hr T => ?_
                have h1 : a.eval (.tmp 4) = .pointer (some ⟨wr.heap.size, 0, none⟩) := T.was 4 (by kernel_rfl)
                have g0 := (SS.out w5 hr).1.1
                have g1 := (SS.out w5 hr).1.2.1
                have g2 := (SS.out w5 hr).1.2.2.1
                have g3 := (SS.out w5 hr).1.2.2.2.1
                have g4 := (SS.out w5 hr).1.2.2.2.2.1
                have g5 := (SS.out w5 hr).1.2.2.2.2.2
                exact ⟨.agg #[.int .u64 th, .int .u64 tl, .int .i64 f, .int .i64 la, .bool su, .slice eA m ec], w5, by simp only [execOp, h1]; simp [go_sem, g0, g1, g2, g3, g4, g5], PI.Post.pure ⟨fun w => Below.refl _ w, fun _ _ _ h k => h.trans (k.mono h.size)⟩ rfl trivial⟩
              · obtain rfl := Option.some.inj (show some _ = some o from ho)
                refine PI.shown_call rfl 64 fun a w5 L0 hr T => ?_
                have h0 : a.eval (.tmp 16) = .agg #[.int .u64 th, .int .u64 tl, .int .i64 f, .int .i64 la, .bool su, .slice eA m ec] := T.at_ 0 16 (by kernel_rfl) (by kernel_rfl) (by kernel_rfl)
                refine ⟨#[.agg #[.int .u64 th, .int .u64 tl, .int .i64 f, .int .i64 la, .bool su, .slice eA m ec]], by simp only [execOp, resolve, List.map_toArray, List.map_cons, List.map_nil, h0]; simp [go_sem, Act.eval], ?_⟩
                refine (REC.out w5 hr).mono fun e w6 hh => ?_
                obtain ⟨rfl, hb6⟩ := hh
                exact ⟨_, rfl, hb6, rfl, fun _ _ h => h, fun j v _ _ _ _ h => RbL.keep h, trivial⟩
              · obtain rfl := Option.some.inj (show some _ = some o from ho)
                refine PI.shown_val rfl fun a w5 L0 hr T => ?_
                have h1 : a.eval (.tmp 17) = .bool true := T.at_ 1 17 (by kernel_rfl) (by kernel_rfl) (by kernel_rfl)
                exact ⟨.bool false, w5, by simp only [execOp, h1]; simp [go_sem], PI.Post.pure ⟨fun w => Below.refl _ w, fun _ _ _ h k => h.trans (k.mono h.size)⟩ rfl trivial⟩
              · obtain rfl := Option.some.inj (show some _ = some o from ho)
                refine PI.shown_val rfl fun a w5 L0 hr T => ?_
                have h1 : a.eval (.tmp 18) = .bool false := T.at_ 2 18 (by kernel_rfl) (by kernel_rfl) (by kernel_rfl)
                exact ⟨.bool false, w5, by simp only [execOp, h1]; simp [go_sem], PI.Post.pure ⟨fun w => Below.refl _ w, fun _ _ _ h k => h.trans (k.mono h.size)⟩ rfl trivial⟩
              · obtain rfl := Option.some.inj (show some _ = some o from ho)
                refine PI.shown_val_if 3 19 false rfl (by kernel_rfl) (by kernel_rfl) (by kernel_rfl) (fun v w h => h) fun a w5 L0 hr T => ?_
                have h1 : a.eval (.tmp 3) = .int .i64 ((j : Int) + 1) := T.was 3 (by kernel_rfl)
                exact ⟨.int .i64 ((j : Int) + 1), w5, by simp only [execOp, h1]; simp [go_sem], PI.Post.pure ⟨fun w => Below.refl _ w, fun _ _ _ h k => h.trans (k.mono h.size)⟩ rfl trivial⟩
              · obtain rfl := Option.some.inj (show some _ = some o from ho)
                refine PI.shown_val_if 3 19 false rfl (by kernel_rfl) (by kernel_rfl) (by kernel_rfl) (fun v w h => h) fun a w5 L0 hr T => ?_
                have h1 : a.eval (.tmp 20) = .int .i64 ((j : Int) + 1) := T.at_ 4 20 (by kernel_rfl) (by kernel_rfl) (by kernel_rfl)
                exact ⟨.bool true, w5, by simp only [execOp, h1]; simp [go_sem, Act.eval, hkb], PI.Post.pure ⟨fun w => Below.refl _ w, fun _ _ _ h k => h.trans (k.mono h.size)⟩ rfl trivial⟩
              · obtain rfl := Option.some.inj (show some _ = some o from ho)
                refine PI.shown_val_if 3 19 false rfl (by kernel_rfl) (by kernel_rfl) (by kernel_rfl) (fun v w h => h) fun a w5 L0 hr T => ?_
                have h1 : a.eval (.tmp 21) = .bool true := T.at_ 5 21 (by kernel_rfl) (by kernel_rfl) (by kernel_rfl)
                exact ⟨.bool true, w5, by simp only [execOp, h1]; simp [go_sem], PI.Post.pure ⟨fun w => Below.refl _ w, fun _ _ _ h k => h.trans (k.mono h.size)⟩ rfl trivial⟩
              · obtain rfl := Option.some.inj (show some _ = some o from ho)
                refine PI.shown_val_if 6 22 true rfl (by kernel_rfl) (by kernel_rfl) (by kernel_rfl) (fun v w h => h) fun a w5 L0 hr T => ?_
                have h1 : a.eval (.tmp 1) = .pointer (some ⟨w.heap.size, 0, none⟩) := T.was 1 (by kernel_rfl)
                exact ⟨.pointer (some ⟨w.heap.size, 3, none⟩), w5, by simp only [execOp, h1]; simp [go_sem], PI.Post.pure ⟨fun w => Below.refl _ w, fun _ _ _ h k => h.trans (k.mono h.size)⟩ rfl trivial⟩
              · obtain rfl := Option.some.inj (show some _ = some o from ho)
                refine PI.shown_val_if 6 22 true rfl (by kernel_rfl) (by kernel_rfl) (by kernel_rfl) (fun v w h => h) fun a w5 L0 hr T => ?_
                have h1 : a.eval (.tmp 23) = .pointer (some ⟨w.heap.size, 3, none⟩) := T.at_ 7 23 (by kernel_rfl) (by kernel_rfl) (by kernel_rfl)
                have gb := (SS.out w5 hr).2.1
                exact ⟨.slice (some aa) n c, w5, by simp only [execOp, h1]; simp [go_sem, gb], PI.Post.pure ⟨fun w => Below.refl _ w, fun _ _ _ h k => h.trans (k.mono h.size)⟩ rfl trivial⟩
              · obtain rfl := Option.some.inj (show some _ = some o from ho)
                refine PI.shown_val_if 6 22 true rfl (by kernel_rfl) (by kernel_rfl) (by kernel_rfl) (fun v w h => h) fun a w5 L0 hr T => ?_
                have h1 : a.eval (.tmp 3) = .int .i64 ((j : Int) + 1) := T.was 3 (by kernel_rfl)
                exact ⟨.int .i64 ((j : Int) + 1), w5, by simp only [execOp, h1]; simp [go_sem], PI.Post.pure ⟨fun w => Below.refl _ w, fun _ _ _ h k => h.trans (k.mono h.size)⟩ rfl trivial⟩
              · obtain rfl := Option.some.inj (show some _ = some o from ho)
                refine PI.shown_val_if 6 22 true rfl (by kernel_rfl) (by kernel_rfl) (by kernel_rfl) (fun v w h => h) fun a w5 L0 hr T => ?_
                have h1 : a.eval (.tmp 25) = .int .i64 ((j : Int) + 1) := T.at_ 9 25 (by kernel_rfl) (by kernel_rfl) (by kernel_rfl)
                exact ⟨.int .i64 (j : Int), w5, by simp only [execOp, h1]; simp [go_sem, Act.eval, hwj, hwj2], PI.Post.pure ⟨fun w => Below.refl _ w, fun _ _ _ h k => h.trans (k.mono h.size)⟩ rfl trivial⟩
              · obtain rfl := Option.some.inj (show some _ = some o from ho)
                refine PI.shown_val_if 6 22 true rfl (by kernel_rfl) (by kernel_rfl) (by kernel_rfl) (fun v w h => h) fun a w5 L0 hr T => ?_
                have h1 : a.eval (.tmp 24) = .slice (some aa) n c := T.at_ 8 24 (by kernel_rfl) (by kernel_rfl) (by kernel_rfl)
                have h2 : a.eval (.tmp 26) = .int .i64 (j : Int) := T.at_ 10 26 (by kernel_rfl) (by kernel_rfl) (by kernel_rfl)
                exact ⟨.pointer (some (aa.add (j * 6))), w5, by simp only [execOp, h1, h2]; simp [go_sem, Act.eval, p0, p1], PI.Post.pure ⟨fun w => Below.refl _ w, fun _ _ _ h k => h.trans (k.mono h.size)⟩ rfl trivial⟩
              · obtain rfl := Option.some.inj (show some _ = some o from ho)
                refine PI.shown_val_if 6 22 true rfl (by kernel_rfl) (by kernel_rfl) (by kernel_rfl) (fun v w h => h) fun a w5 L0 hr T => ?_
                have h1 : a.eval (.tmp 27) = .pointer (some (aa.add (j * 6))) := T.at_ 11 27 (by kernel_rfl) (by kernel_rfl) (by kernel_rfl)
                exact ⟨.pointer (some (aa.add (j * 6))), w5, by simp only [execOp, h1]; simp [go_sem], PI.Post.pure ⟨fun w => Below.refl _ w, fun _ _ _ h k => h.trans (k.mono h.size)⟩ rfl trivial⟩
              · obtain rfl := Option.some.inj (show some _ = some o from ho)
                refine PI.shown_val_if 6 22 true rfl (by kernel_rfl) (by kernel_rfl) (by kernel_rfl) (fun v w h => h) fun a w5 L0 hr T => ?_
                have h1 : a.eval (.tmp 28) = .pointer (some (aa.add (j * 6))) := T.at_ 12 28 (by kernel_rfl) (by kernel_rfl) (by kernel_rfl)
                have q0 := (SS.out w5 hr).2.2.1
                have q1 := (SS.out w5 hr).2.2.2
                exact ⟨.agg #[.int .u64 ph, .int .u64 pl], w5, by simp only [execOp, h1]; simp [go_sem, q0, q1], PI.Post.pure ⟨fun w => Below.refl _ w, fun _ _ _ h k => h.trans (k.mono h.size)⟩ rfl trivial⟩
              · obtain rfl := Option.some.inj (show some _ = some o from ho)
                refine PI.shown_val_if 6 22 true rfl (by kernel_rfl) (by kernel_rfl) (by kernel_rfl) (fun v w h => h) fun a w5 L0 hr T => ?_
                have h1 : a.eval (.tmp 4) = .pointer (some ⟨wr.heap.size, 0, none⟩) := T.was 4 (by kernel_rfl)
                exact ⟨.pointer (some ⟨wr.heap.size, 0, none⟩), w5, by simp only [execOp, h1]; simp [go_sem], PI.Post.pure ⟨fun w => Below.refl _ w, fun _ _ _ h k => h.trans (k.mono h.size)⟩ rfl trivial⟩
              · obtain rfl := Option.some.inj (show some _ = some o from ho)
                refine PI.shown_val_if 6 22 true rfl (by kernel_rfl) (by kernel_rfl) (by kernel_rfl) (fun v w h => h) fun a w5 L0 hr T => ?_
                have h1 : a.eval (.tmp 30) = .pointer (some ⟨wr.heap.size, 0, none⟩) := T.at_ 14 30 (by kernel_rfl) (by kernel_rfl) (by kernel_rfl)
                have g0 := (SS.out w5 hr).1.1
                have g1 := (SS.out w5 hr).1.2.1
                exact ⟨.agg #[.int .u64 th, .int .u64 tl], w5, by simp only [execOp, h1]; simp [go_sem, g0, g1], PI.Post.pure ⟨fun w => Below.refl _ w, fun _ _ _ h k => h.trans (k.mono h.size)⟩ rfl trivial⟩
              · obtain rfl := Option.some.inj (show some _ = some o from ho)
                refine PI.shown_call_if 6 22 true rfl (by kernel_rfl) (by kernel_rfl) (by kernel_rfl) (fun v w h => h) 62 fun a w5 L0 hr T => ?_
                have h0 : a.eval (.tmp 29) = .agg #[.int .u64 ph, .int .u64 pl] := T.at_ 13 29 (by kernel_rfl) (by kernel_rfl) (by kernel_rfl)
                have h1 : a.eval (.tmp 31) = .agg #[.int .u64 th, .int .u64 tl] := T.at_ 15 31 (by kernel_rfl) (by kernel_rfl) (by kernel_rfl)
                refine ⟨#[.agg #[.int .u64 ph, .int .u64 pl], .agg #[.int .u64 th, .int .u64 tl]], by simp only [execOp, resolve, List.map_toArray, List.map_cons, List.map_nil, h0, h1]; simp [go_sem, Act.eval], ?_⟩
                refine (BOC.out w5 hr).mono fun e w6 hh => ?_
                obtain ⟨rfl, hb6⟩ := hh
                exact ⟨_, rfl, hb6, rfl, fun _ _ h => h, fun j v _ _ _ _ h => RbL.keep h, trivial⟩
              · obtain rfl := Option.some.inj (show some _ = some o from ho)
                refine PI.shown_val_if 6 22 true rfl (by kernel_rfl) (by kernel_rfl) (by kernel_rfl) (fun v w h => h) fun a w5 L0 hr T => ?_
                have h1 : a.eval (.tmp 32) = .int .i64 ov := T.at_ 16 32 (by kernel_rfl) (by kernel_rfl) (by kernel_rfl)
                exact ⟨.bool true, w5, by simp only [execOp, h1]; simp [go_sem, Act.eval, hov], PI.Post.pure ⟨fun w => Below.refl _ w, fun _ _ _ h k => h.trans (k.mono h.size)⟩ rfl trivial⟩
              · obtain rfl := Option.some.inj (show some _ = some o from ho)
                refine PI.shown_val_if 3 19 false rfl (by kernel_rfl) (by kernel_rfl) (by kernel_rfl) (fun v w h => h) fun a w5 L0 hr T => ?_
                have h0 : a.eval (.tmp 22) = .bool true := T.at_ 6 22 (by kernel_rfl) (by kernel_rfl) (by kernel_rfl)
                have h1 : a.eval (.tmp 33) = .bool true := T.at_ 17 33 (by kernel_rfl) (by kernel_rfl) (by kernel_rfl)
                exact ⟨.bool true, w5, by simp only [execOp, h0, h1]; simp [go_sem, Act.eval], PI.Post.pure ⟨fun w => Below.refl _ w, fun _ _ _ h k => h.trans (k.mono h.size)⟩ rfl trivial⟩
              · obtain rfl := Option.some.inj (show some _ = some o from ho)
                refine PI.shown_val rfl fun a w5 L0 hr T => ?_
                have h0 : a.eval (.tmp 19) = .bool false := T.at_ 3 19 (by kernel_rfl) (by kernel_rfl) (by kernel_rfl)
                have h2 : a.eval (.tmp 34) = .bool true := T.at_ 18 34 (by kernel_rfl) (by kernel_rfl) (by kernel_rfl)
                exact ⟨.bool true, w5, by simp only [execOp, h0, h2]; simp [go_sem, Act.eval], PI.Post.pure ⟨fun w => Below.refl _ w, fun _ _ _ h k => h.trans (k.mono h.size)⟩ rfl trivial⟩
              · cases ho
            · rw [← hW]
              intro xx w9 hr hf he _
              have h14 := hf 19 _ 35 rfl rfl (by decide)
              have hx14 : xx 19 = .bool true := h14
              have HB9 : Hid (Below (w.heap.size + 1) (w.alloc (.cells #[.int .i64 nu, .int .i64 bo, .int .i64 ti, .slice (some aa) n c] 24)) w9) := Lib.hid (HBR.out.trans (hr.mono (Nat.le_trans hsr HBW2.out.size)))
              clear hf he hr h14
              simp only [PI.putAll, Act.put, List.setIfInBounds_toArray, List.set_cons_zero, List.set_cons_succ, Nat.zero_add, Nat.reduceAdd]
              rw [hx14]
              go_wp2_with fail
              go_ret
              exact ⟨by rw [HQ.out, (rightEs_bad HKL.out HBD.out)] <;> rfl, HBW.out _ HB9.out⟩

          · have hov : decide (0 < ov) = false := decide_eq_false hov0
            have HGD := Lib.hid (okAt_succ HEE.out HPE.out (HL2.out.trans hov) HOK.out)
            refine PI.wp_region_persG (R := (fun w w' => Below w.heap.size w w')) (G := fun _ _ => True) (I := fun _ _ _ => True) [(1, 0), (2, 1), (3, 2), (4, 3), (5, 3), (5, 4), (6, 3), (6, 5), (7, 6), (8, 6), (8, 7), (9, 6), (10, 6), (10, 9), (11, 6), (11, 8), (11, 10), (12, 6), (12, 11), (13, 6), (13, 12), (14, 6), (15, 6), (15, 14), (16, 6), (16, 13), (16, 15), (17, 6), (17, 16), (18, 3), (18, 6), (18, 17), (19, 3), (19, 18)] [19] (by kernel_rfl) (PI.formed_of (by kernel_rfl)) ⟨fun w => Below.refl _ w, fun _ _ _ h k => h.trans (k.mono h.size)⟩ (fun _ => trivial) (RbM aa n c wr.heap.size w.heap.size (j + 1) j th tl f la su eA m ec ph pl ov) trivial ?_ ?_
            · rw [← hW]
              intro i o ho
              rcases i with _ | _ | _ | _ | _ | _ | _ | _ | _ | _ | _ | _ | _ | _ | _ | _ | _ | _ | _ | _ | i
              · obtain rfl := Option.some.inj (show some _ = some o from ho)
                refine PI.shown_val rfl fun a w5 L0 hr T => ?_
                have h1 : a.eval (.tmp 4) = .pointer (some ⟨wr.heap.size, 0, none⟩) := T.was 4 (by kernel_rfl)
                have g0 := (SS.out w5 hr).1.1
                have g1 := (SS.out w5 hr).1.2.1
                have g2 := (SS.out w5 hr).1.2.2.1
                have g3 := (SS.out w5 hr).1.2.2.2.1
                have g4 := (SS.out w5 hr).1.2.2.2.2.1
                have g5 := (SS.out w5 hr).1.2.2.2.2.2
                exact ⟨.agg #[.int .u64 th, .int .u64 tl, .int .i64 f, .int .i64 la, .bool su, .slice eA m ec], w5, by simp only [execOp, h1]; simp [go_sem, g0, g1, g2, g3, g4, g5], PI.Post.pure ⟨fun w => Below.refl _ w, fun _ _ _ h k => h.trans (k.mono h.size)⟩ rfl trivial⟩
              · obtain rfl := Option.some.inj (show some _ = some o from ho)
                refine PI.shown_call rfl 64 fun a w5 L0 hr T => ?_
                have h0 : a.eval (.tmp 16) = .agg #[.int .u64 th, .int .u64 tl, .int .i64 f, .int .i64 la, .bool su, .slice eA m ec] := T.at_ 0 16 (by kernel_rfl) (by kernel_rfl) (by kernel_rfl)
                refine ⟨#[.agg #[.int .u64 th, .int .u64 tl, .int .i64 f, .int .i64 la, .bool su, .slice eA m ec]], by simp only [execOp, resolve, List.map_toArray, List.map_cons, List.map_nil, h0]; simp [go_sem, Act.eval], ?_⟩
                refine (REC.out w5 hr).mono fun e w6 hh => ?_
                obtain ⟨rfl, hb6⟩ := hh
                exact ⟨_, rfl, hb6, rfl, fun _ _ h => h, fun j v _ _ _ _ h => RbM.keep h, trivial⟩
              · obtain rfl := Option.some.inj (show some _ = some o from ho)
                refine PI.shown_val rfl fun a w5 L0 hr T => ?_
                have h1 : a.eval (.tmp 17) = .bool true := T.at_ 1 17 (by kernel_rfl) (by kernel_rfl) (by kernel_rfl)
                exact ⟨.bool false, w5, by simp only [execOp, h1]; simp [go_sem], PI.Post.pure ⟨fun w => Below.refl _ w, fun _ _ _ h k => h.trans (k.mono h.size)⟩ rfl trivial⟩
              · obtain rfl := Option.some.inj (show some _ = some o from ho)
                refine PI.shown_val rfl fun a w5 L0 hr T => ?_
                have h1 : a.eval (.tmp 18) = .bool false := T.at_ 2 18 (by kernel_rfl) (by kernel_rfl) (by kernel_rfl)
                exact ⟨.bool false, w5, by simp only [execOp, h1]; simp [go_sem], PI.Post.pure ⟨fun w => Below.refl _ w, fun _ _ _ h k => h.trans (k.mono h.size)⟩ rfl trivial⟩
              · obtain rfl := Option.some.inj (show some _ = some o from ho)
                refine PI.shown_val_if 3 19 false rfl (by kernel_rfl) (by kernel_rfl) (by kernel_rfl) (fun v w h => h) fun a w5 L0 hr T => ?_
                have h1 : a.eval (.tmp 3) = .int .i64 ((j : Int) + 1) := T.was 3 (by kernel_rfl)
                exact ⟨.int .i64 ((j : Int) + 1), w5, by simp only [execOp, h1]; simp [go_sem], PI.Post.pure ⟨fun w => Below.refl _ w, fun _ _ _ h k => h.trans (k.mono h.size)⟩ rfl trivial⟩
              · obtain rfl := Option.some.inj (show some _ = some o from ho)
                refine PI.shown_val_if 3 19 false rfl (by kernel_rfl) (by kernel_rfl) (by kernel_rfl) (fun v w h => h) fun a w5 L0 hr T => ?_
                have h1 : a.eval (.tmp 20) = .int .i64 ((j : Int) + 1) := T.at_ 4 20 (by kernel_rfl) (by kernel_rfl) (by kernel_rfl)
                exact ⟨.bool true, w5, by simp only [execOp, h1]; simp [go_sem, Act.eval, hkb], PI.Post.pure ⟨fun w => Below.refl _ w, fun _ _ _ h k => h.trans (k.mono h.size)⟩ rfl trivial⟩
              · obtain rfl := Option.some.inj (show some _ = some o from ho)
                refine PI.shown_val_if 3 19 false rfl (by kernel_rfl) (by kernel_rfl) (by kernel_rfl) (fun v w h => h) fun a w5 L0 hr T => ?_
                have h1 : a.eval (.tmp 21) = .bool true := T.at_ 5 21 (by kernel_rfl) (by kernel_rfl) (by kernel_rfl)
                exact ⟨.bool true, w5, by simp only [execOp, h1]; simp [go_sem], PI.Post.pure ⟨fun w => Below.refl _ w, fun _ _ _ h k => h.trans (k.mono h.size)⟩ rfl trivial⟩
              · obtain rfl := Option.some.inj (show some _ = some o from ho)
                refine PI.shown_val_if 6 22 true rfl (by kernel_rfl) (by kernel_rfl) (by kernel_rfl) (fun v w h => h) fun a w5 L0 hr T => ?_
                have h1 : a.eval (.tmp 1) = .pointer (some ⟨w.heap.size, 0, none⟩) := T.was 1 (by kernel_rfl)
                exact ⟨.pointer (some ⟨w.heap.size, 3, none⟩), w5, by simp only [execOp, h1]; simp [go_sem], PI.Post.pure ⟨fun w => Below.refl _ w, fun _ _ _ h k => h.trans (k.mono h.size)⟩ rfl trivial⟩
              · obtain rfl := Option.some.inj (show some _ = some o from ho)
                refine PI.shown_val_if 6 22 true rfl (by kernel_rfl) (by kernel_rfl) (by kernel_rfl) (fun v w h => h) fun a w5 L0 hr T => ?_
                have h1 : a.eval (.tmp 23) = .pointer (some ⟨w.heap.size, 3, none⟩) := T.at_ 7 23 (by kernel_rfl) (by kernel_rfl) (by kernel_rfl)
                have gb := (SS.out w5 hr).2.1
                exact ⟨.slice (some aa) n c, w5, by simp only [execOp, h1]; simp [go_sem, gb], PI.Post.pure ⟨fun w => Below.refl _ w, fun _ _ _ h k => h.trans (k.mono h.size)⟩ rfl trivial⟩
              · obtain rfl := Option.some.inj (show some _ = some o from ho)
                refine PI.shown_val_if 6 22 true rfl (by kernel_rfl) (by kernel_rfl) (by kernel_rfl) (fun v w h => h) fun a w5 L0 hr T => ?_
                have h1 : a.eval (.tmp 3) = .int .i64 ((j : Int) + 1) := T.was 3 (by kernel_rfl)
                exact ⟨.int .i64 ((j : Int) + 1), w5, by simp only [execOp, h1]; simp [go_sem], PI.Post.pure ⟨fun w => Below.refl _ w, fun _ _ _ h k => h.trans (k.mono h.size)⟩ rfl trivial⟩
              · obtain rfl := Option.some.inj (show some _ = some o from ho)
                refine PI.shown_val_if 6 22 true rfl (by kernel_rfl) (by kernel_rfl) (by kernel_rfl) (fun v w h => h) fun a w5 L0 hr T => ?_
                have h1 : a.eval (.tmp 25) = .int .i64 ((j : Int) + 1) := T.at_ 9 25 (by kernel_rfl) (by kernel_rfl) (by kernel_rfl)
                exact ⟨.int .i64 (j : Int), w5, by simp only [execOp, h1]; simp [go_sem, Act.eval, hwj, hwj2], PI.Post.pure ⟨fun w => Below.refl _ w, fun _ _ _ h k => h.trans (k.mono h.size)⟩ rfl trivial⟩
              · obtain rfl := Option.some.inj (show some _ = some o from ho)
                refine PI.shown_val_if 6 22 true rfl (by kernel_rfl) (by kernel_rfl) (by kernel_rfl) (fun v w h => h) fun a w5 L0 hr T => ?_
                have h1 : a.eval (.tmp 24) = .slice (some aa) n c := T.at_ 8 24 (by kernel_rfl) (by kernel_rfl) (by kernel_rfl)
                have h2 : a.eval (.tmp 26) = .int .i64 (j : Int) := T.at_ 10 26 (by kernel_rfl) (by kernel_rfl) (by kernel_rfl)
                exact ⟨.pointer (some (aa.add (j * 6))), w5, by simp only [execOp, h1, h2]; simp [go_sem, Act.eval, p0, p1], PI.Post.pure ⟨fun w => Below.refl _ w, fun _ _ _ h k => h.trans (k.mono h.size)⟩ rfl trivial⟩
              · obtain rfl := Option.some.inj (show some _ = some o from ho)
                refine PI.shown_val_if 6 22 true rfl (by kernel_rfl) (by kernel_rfl) (by kernel_rfl) (fun v w h => h) fun a w5 L0 hr T => ?_
                have h1 : a.eval (.tmp 27) = .pointer (some (aa.add (j * 6))) := T.at_ 11 27 (by kernel_rfl) (by kernel_rfl) (by kernel_rfl)
                exact ⟨.pointer (some (aa.add (j * 6))), w5, by simp only [execOp, h1]; simp [go_sem], PI.Post.pure ⟨fun w => Below.refl _ w, fun _ _ _ h k => h.trans (k.mono h.size)⟩ rfl trivial⟩
              · obtain rfl := Option.some.inj (show some _ = some o from ho)
                refine PI.shown_val_if 6 22 true rfl (by kernel_rfl) (by kernel_rfl) (by kernel_rfl) (fun v w h => h) fun a w5 L0 hr T => ?_
                have h1 : a.eval (.tmp 28) = .pointer (some (aa.add (j * 6))) := T.at_ 12 28 (by kernel_rfl) (by kernel_rfl) (by kernel_rfl)
                have q0 := (SS.out w5 hr).2.2.1
                have q1 := (SS.out w5 hr).2.2.2
                exact ⟨.agg #[.int .u64 ph, .int .u64 pl], w5, by simp only [execOp, h1]; simp [go_sem, q0, q1], PI.Post.pure ⟨fun w => Below.refl _ w, fun _ _ _ h k => h.trans (k.mono h.size)⟩ rfl trivial⟩
              · obtain rfl := Option.some.inj (show some _ = some o from ho)
                refine PI.shown_val_if 6 22 true rfl (by kernel_rfl) (by kernel_rfl) (by kernel_rfl) (fun v w h => h) fun a w5 L0 hr T => ?_
                have h1 : a.eval (.tmp 4) = .pointer (some ⟨wr.heap.size, 0, none⟩) := T.was 4 (by kernel_rfl)
                exact ⟨.pointer (some ⟨wr.heap.size, 0, none⟩), w5, by simp only [execOp, h1]; simp [go_sem], PI.Post.pure ⟨fun w => Below.refl _ w, fun _ _ _ h k => h.trans (k.mono h.size)⟩ rfl trivial⟩
              · obtain rfl := Option.some.inj (show some _ = some o from ho)
                refine PI.shown_val_if 6 22 true rfl (by kernel_rfl) (by kernel_rfl) (by kernel_rfl) (fun v w h => h) fun a w5 L0 hr T => ?_
                have h1 : a.eval (.tmp 30) = .pointer (some ⟨wr.heap.size, 0, none⟩) := T.at_ 14 30 (by kernel_rfl) (by kernel_rfl) (by kernel_rfl)
                have g0 := (SS.out w5 hr).1.1
                have g1 := (SS.out w5 hr).1.2.1
                exact ⟨.agg #[.int .u64 th, .int .u64 tl], w5, by simp only [execOp, h1]; simp [go_sem, g0, g1], PI.Post.pure ⟨fun w => Below.refl _ w, fun _ _ _ h k => h.trans (k.mono h.size)⟩ rfl trivial⟩
              · obtain rfl := Option.some.inj (show some _ = some o from ho)
                refine PI.shown_call_if 6 22 true rfl (by kernel_rfl) (by kernel_rfl) (by kernel_rfl) (fun v w h => h) 62 fun a w5 L0 hr T => ?_
                have h0 : a.eval (.tmp 29) = .agg #[.int .u64 ph, .int .u64 pl] := T.at_ 13 29 (by kernel_rfl) (by kernel_rfl) (by kernel_rfl)
                have h1 : a.eval (.tmp 31) = .agg #[.int .u64 th, .int .u64 tl] := T.at_ 15 31 (by kernel_rfl) (by kernel_rfl) (by kernel_rfl)
                refine ⟨#[.agg #[.int .u64 ph, .int .u64 pl], .agg #[.int .u64 th, .int .u64 tl]], by simp only [execOp, resolve, List.map_toArray, List.map_cons, List.map_nil, h0, h1]; simp [go_sem, Act.eval], ?_⟩
                refine (BOC.out w5 hr).mono fun e w6 hh => ?_
                obtain ⟨rfl, hb6⟩ := hh
                exact ⟨_, rfl, hb6, rfl, fun _ _ h => h, fun j v _ _ _ _ h => RbM.keep h, trivial⟩
              · obtain rfl := Option.some.inj (show some _ = some o from ho)
                refine PI.shown_val_if 6 22 true rfl (by kernel_rfl) (by kernel_rfl) (by kernel_rfl) (fun v w h => h) fun a w5 L0 hr T => ?_
                have h1 : a.eval (.tmp 32) = .int .i64 ov := T.at_ 16 32 (by kernel_rfl) (by kernel_rfl) (by kernel_rfl)
                exact ⟨.bool false, w5, by simp only [execOp, h1]; simp [go_sem, Act.eval, hov], PI.Post.pure ⟨fun w => Below.refl _ w, fun _ _ _ h k => h.trans (k.mono h.size)⟩ rfl trivial⟩
              · obtain rfl := Option.some.inj (show some _ = some o from ho)
                refine PI.shown_val_if 3 19 false rfl (by kernel_rfl) (by kernel_rfl) (by kernel_rfl) (fun v w h => h) fun a w5 L0 hr T => ?_
                have h0 : a.eval (.tmp 22) = .bool true := T.at_ 6 22 (by kernel_rfl) (by kernel_rfl) (by kernel_rfl)
                have h1 : a.eval (.tmp 33) = .bool false := T.at_ 17 33 (by kernel_rfl) (by kernel_rfl) (by kernel_rfl)
                exact ⟨.bool false, w5, by simp only [execOp, h0, h1]; simp [go_sem, Act.eval], PI.Post.pure ⟨fun w => Below.refl _ w, fun _ _ _ h k => h.trans (k.mono h.size)⟩ rfl trivial⟩
              · obtain rfl := Option.some.inj (show some _ = some o from ho)
                refine PI.shown_val rfl fun a w5 L0 hr T => ?_
                have h0 : a.eval (.tmp 19) = .bool false := T.at_ 3 19 (by kernel_rfl) (by kernel_rfl) (by kernel_rfl)
                have h2 : a.eval (.tmp 34) = .bool false := T.at_ 18 34 (by kernel_rfl) (by kernel_rfl) (by kernel_rfl)
                exact ⟨.bool false, w5, by simp only [execOp, h0, h2]; simp [go_sem, Act.eval], PI.Post.pure ⟨fun w => Below.refl _ w, fun _ _ _ h k => h.trans (k.mono h.size)⟩ rfl trivial⟩
              · cases ho
            · rw [← hW]
              intro xx w9 hr hf he _
              have h14 := hf 19 _ 35 rfl rfl (by decide)
              have hx14 : xx 19 = .bool false := h14
              have HB9 : Hid (Below (w.heap.size + 1) (w.alloc (.cells #[.int .i64 nu, .int .i64 bo, .int .i64 ti, .slice (some aa) n c] 24)) w9) := Lib.hid (HBR.out.trans (hr.mono (Nat.le_trans hsr HBW2.out.size)))
              clear hf he hr h14
              simp only [PI.putAll, Act.put, List.setIfInBounds_toArray, List.set_cons_zero, List.set_cons_succ, Nat.zero_add, Nat.reduceAdd]
              rw [hx14]
              have HNK : Hid ((List.range (j + 1 + 1)).all (okAtE L) = true) := Lib.hid (range_all_succ HK.out HGD.out)
              go_wp2_with fail
              go_roundw
              case rel => exact ⟨j + 1 + 1, by go_num, by omega, HNK, HB9⟩
              case measure => simp [intOf] <;> omega

    · obtain rfl : k = n := by omega
      have HE : Hid (rightEs L = true) := Lib.hid (by have h := HK.out; unfold rightEs; rw [HLN.out]; exact h)
      go_wp2_with fail
      go_ret
      exact ⟨by rw [HQ.out, HE.out] <;> rfl, HBW.out _ HB.out⟩
end Go.Proofs.Ytchcjbapbdfhkaa
