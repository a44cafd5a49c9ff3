/- Keep by the policies that a law makes; chapter 14's example. -/
import Derived.Test.YtenioeppmgmdiaaJk
namespace Go.Proofs.Ytenioeppmgmdiaa
open Go.RowKit
set_option linter.unusedVariables false

/-- A slow span's ten cells lie there. -/
def Lie1 (w : World) (a : Addr) (d : Int) : Prop := a.block < w.heap.size ∧ ∀ j u, (#[.int .u64 0, .int .u64 0, .int .u64 0, .int .u64 0, .string ⟨#[]⟩, .string ⟨#[]⟩, .int .i64 0, .int .i64 d, .bool false, .slice none 0 0] : Array Value)[j]? = some u → w.cell? (a.add j) = some u
theorem Lie1.below {w w' : World} {a : Addr} {d : Int} (h : Lie1 w a d) {B : Nat} (hb : Below B w w') (hB : a.block < B) : Lie1 w' a d := ⟨Nat.lt_of_lt_of_le h.1 hb.size, fun j u hu => (hb.cell (by rw [block_add]; exact hB)).trans (h.2 j u hu)⟩
set_option maxHeartbeats 4000000 in
set_option maxRecDepth 100000 in
theorem keep_slow (a : Addr) (sc : Nat) (d n q : Int) (w : World) (h : Lie1 w a d) :
    Calls Try.prog 34 #[.agg (R1 4 n), .agg (Ev 0 0 0 0 false (some a) 1 sc), .int .i64 q] w fun e w' => e = .returned (.bool (decide (n ≤ d))) ∧ Below w.heap.size w w' := by
  have SO := fun W (h : Lie1 W a d) => Lib.hid (some_one a sc 0 0 0 0 ⟨#[]⟩ ⟨#[]⟩ 0 d false none 0 0 n W h.1 h.2)
  have HL := Lib.hid (h.below (((Below.refl w.heap.size w).alloc (Nat.le_refl _) (.cells #[.int .i64 4, .int .i64 n, .string ⟨#[]⟩, .string ⟨#[]⟩, .slice none 0 0] 24)).alloc (by simp) (.cells #[.int .u64 0, .int .u64 0, .int .i64 0, .int .i64 0, .bool false, .slice (some a) 1 sc] 30)) h.1)
  unfold R1 at SO ⊢
  unfold Ev
  clear h
  go_enter Try.func34, Try.ntmps34
  go_wp2_with (go_at_call 49; (with_reducible refine (SO _ HL.out).out.mono ?_); rintro e w1 ⟨rfl, hb1⟩)
  go_ret
  exact ⟨rfl, (((Below.refl _ _).alloc (Nat.le_refl _) _).alloc (by simp) _).trans (hb1.mono (by simp; omega))⟩

set_option maxHeartbeats 4000000 in
set_option maxRecDepth 100000 in
theorem Keep_of (k n : Int) (hk : Made k n) (hi lo f la : Int) (su : Bool) (sA : Option Addr) (sn sc : Nat) (q : Int) (b : Bool) (w : World)
    (HK : ∀ W, Below w.heap.size w W → Calls Try.prog 34 #[.agg (R1 k n), .agg (Ev hi lo f la su sA sn sc), .int .i64 q] W fun e w' => e = .returned (.bool b) ∧ Below W.heap.size W w') :
    Calls Try.prog 13 #[.agg (R1 k n), .agg (Ev hi lo f la su sA sn sc), .int .i64 q] w fun e w' => e = .returned (.bool b) ∧ Below w.heap.size w w' := by
  have RI := fun W => Lib.hid (right_any k n W hk)
  have KE := fun W h => Lib.hid (HK W h)
  have HB2 := Lib.hid (((Below.refl w.heap.size w).alloc (Nat.le_refl _) (.cells #[.int .i64 k, .int .i64 n, .string ⟨#[]⟩, .string ⟨#[]⟩, .slice none 0 0] 24)).alloc (by simp) (.cells #[.int .u64 hi, .int .u64 lo, .int .i64 f, .int .i64 la, .bool su, .slice sA sn sc] 30))
  clear HK hk
  unfold R1 Ev at *
  go_enter Try.func13, Try.ntmps13
  go_wp2_with (first
    | (go_at_call 33; (with_reducible refine (RI _).out.mono ?_); rintro e w1 ⟨rfl, hb1⟩; obtain ⟨hc, hf⟩ := bcell hb1; have HB3 := Lib.hid (HB2.out.trans (hb1.mono (by simp; omega))); clear hb1)
    | (go_at_call 34; (with_reducible refine (KE _ HB3.out).out.mono ?_); rintro e w2 ⟨rfl, hb2⟩; have HB4 := Lib.hid (HB3.out.trans (hb2.mono HB3.out.size)); clear hb2))
  go_ret
  exact ⟨by simp, HB4.out⟩

theorem Keep_all (q : Int) (w : World) : Calls Try.prog 13 #[.agg (R1 1 0), .agg (Ev 0 0 0 0 false none 0 0), .int .i64 q] w fun e w' => e = .returned (.bool true) ∧ Below w.heap.size w w' :=
  Keep_of 1 0 (Or.inl ⟨rfl, rfl⟩) 0 0 0 0 false none 0 0 q true w (fun W _ => keep_all 0 0 0 0 false none 0 0 q W)
theorem Keep_hash (hi lo : Nat) (sA : Option Addr) (sn sc : Nat) (q n : Int) (w : World) (h1 : hi < 18446744073709551616) (h2 : lo < 18446744073709551616) (hn : 0 ≤ n ∧ n ≤ 1000) :
    Calls Try.prog 13 #[.agg (R1 8 n), .agg (Ev hi lo 0 0 false sA sn sc), .int .i64 q] w fun e w' => e = .returned (.bool (decide ((hsh hi lo : Int) < n))) ∧ Below w.heap.size w w' :=
  Keep_of 8 n (Or.inr (Or.inr ⟨rfl, hn⟩)) hi lo 0 0 false sA sn sc q _ w (fun W _ => keep_hash hi lo 0 0 false sA sn sc q n W h1 h2)
theorem Keep_slow (a : Addr) (sc : Nat) (d n q : Int) (w : World) (h : Lie1 w a d) (hn : 0 ≤ n ∧ n ≤ 1073741824) :
    Calls Try.prog 13 #[.agg (R1 4 n), .agg (Ev 0 0 0 0 false (some a) 1 sc), .int .i64 q] w fun e w' => e = .returned (.bool (decide (n ≤ d))) ∧ Below w.heap.size w w' :=
  Keep_of 4 n (Or.inr (Or.inl ⟨rfl, hn⟩)) 0 0 0 0 false (some a) 1 sc q _ w (fun W hb => keep_slow a sc d n q W (h.below hb h.1))

set_option maxHeartbeats 4000000 in
set_option maxRecDepth 100000 in
theorem alive14_calls (w : World) : Calls Try.prog 8 #[] w fun e w' => e = .returned (.bool true) ∧ Below w.heap.size w w' := by
  have K1 := fun W => Lib.hid (Keep_all 0 W)
  have K2 := fun a sc W (h : Lie1 W a 9) => Lib.hid (show Calls Try.prog 13 #[.agg (R1 4 9), .agg (Ev 0 0 0 0 false (some a) 1 sc), .int .i64 0] W fun e w' => e = .returned (.bool true) ∧ Below W.heap.size W w' from (Keep_slow a sc 9 9 0 W h (by omega)).mono fun e w' h => ⟨h.1.trans (by simp), h.2⟩)
  have K3 := fun a sc W (h : Lie1 W a 9) => Lib.hid (show Calls Try.prog 13 #[.agg (R1 4 10), .agg (Ev 0 0 0 0 false (some a) 1 sc), .int .i64 0] W fun e w' => e = .returned (.bool false) ∧ Below W.heap.size W w' from (Keep_slow a sc 9 10 0 W h (by omega)).mono fun e w' h => ⟨h.1.trans (by simp), h.2⟩)
  unfold R1 Ev at *
  go_enter Try.func8, Try.ntmps8
  go_wp2_with fail
  have L0 : Lie1 ((w.alloc (.cells #[.int .u64 0, .int .u64 0, .int .u64 0, .int .u64 0, .string ⟨#[]⟩, .string ⟨#[]⟩, .int .i64 0, .int .i64 9, .bool false, .slice none 0 0] 42)).alloc (.cells #[.int .u64 0, .int .u64 0, .int .i64 0, .int .i64 0, .bool false, .slice (some ⟨w.heap.size, 0, none⟩) 1 1] 30)) ⟨w.heap.size, 0, none⟩ 9 := by
    have h0 : Lie1 (w.alloc (.cells #[.int .u64 0, .int .u64 0, .int .u64 0, .int .u64 0, .string ⟨#[]⟩, .string ⟨#[]⟩, .int .i64 0, .int .i64 9, .bool false, .slice none 0 0] 42)) ⟨w.heap.size, 0, none⟩ 9 := by
      refine ⟨by simp, fun j u hu => ?_⟩
      have e : (⟨w.heap.size, 0, none⟩ : Addr).add j = ⟨w.heap.size, j, none⟩ := by unfold Addr.add; split <;> simp_all
      rw [e, cell_of_row _ _ j _ _ (0, 0) (heap_alloc_new w _)]
      exact hu
    exact h0.below ((Below.refl (w.heap.size + 1) _).alloc (by simp) _) (Nat.lt_succ_self _)
  have hB0 : Below w.heap.size w ((w.alloc (.cells #[.int .u64 0, .int .u64 0, .int .u64 0, .int .u64 0, .string ⟨#[]⟩, .string ⟨#[]⟩, .int .i64 0, .int .i64 9, .bool false, .slice none 0 0] 42)).alloc (.cells #[.int .u64 0, .int .u64 0, .int .i64 0, .int .i64 0, .bool false, .slice (some ⟨w.heap.size, 0, none⟩) 1 1] 30)) := ((Below.refl _ _).alloc (Nat.le_refl _) _).alloc (by simp) _
  have hz0 : ((w.alloc (.cells #[.int .u64 0, .int .u64 0, .int .u64 0, .int .u64 0, .string ⟨#[]⟩, .string ⟨#[]⟩, .int .i64 0, .int .i64 9, .bool false, .slice none 0 0] 42)).alloc (.cells #[.int .u64 0, .int .u64 0, .int .i64 0, .int .i64 0, .bool false, .slice (some ⟨w.heap.size, 0, none⟩) 1 1] 30)).heap.size = w.heap.size + 2 := by simp
  have hE : ((w.alloc (.cells #[.int .u64 0, .int .u64 0, .int .u64 0, .int .u64 0, .string ⟨#[]⟩, .string ⟨#[]⟩, .int .i64 0, .int .i64 9, .bool false, .slice none 0 0] 42)).alloc (.cells #[.int .u64 0, .int .u64 0, .int .i64 0, .int .i64 0, .bool false, .slice (some ⟨w.heap.size, 0, none⟩) 1 1] 30)).heap[w.heap.size + 1]? = some (.cells #[.int .u64 0, .int .u64 0, .int .i64 0, .int .i64 0, .bool false, .slice (some ⟨w.heap.size, 0, none⟩) 1 1] 30) := by
    have h := heap_alloc_new (w.alloc (.cells #[.int .u64 0, .int .u64 0, .int .u64 0, .int .u64 0, .string ⟨#[]⟩, .string ⟨#[]⟩, .int .i64 0, .int .i64 9, .bool false, .slice none 0 0] 42)) (.cells #[.int .u64 0, .int .u64 0, .int .i64 0, .int .i64 0, .bool false, .slice (some ⟨w.heap.size, 0, none⟩) 1 1] 30)
    simpa using h
  generalize (w.alloc (.cells #[.int .u64 0, .int .u64 0, .int .u64 0, .int .u64 0, .string ⟨#[]⟩, .string ⟨#[]⟩, .int .i64 0, .int .i64 9, .bool false, .slice none 0 0] 42)).alloc (.cells #[.int .u64 0, .int .u64 0, .int .i64 0, .int .i64 0, .bool false, .slice (some ⟨w.heap.size, 0, none⟩) 1 1] 30) = W at *
  have e0 : W.cell? ⟨w.heap.size + 1, 0, none⟩ = some (.int .u64 0) := cell_of_row _ _ 0 _ _ (0, 0) hE
  have e1 : W.cell? ⟨w.heap.size + 1, 1, none⟩ = some (.int .u64 0) := cell_of_row _ _ 1 _ _ (0, 0) hE
  have e2 : W.cell? ⟨w.heap.size + 1, 2, none⟩ = some (.int .i64 0) := cell_of_row _ _ 2 _ _ (0, 0) hE
  have e3 : W.cell? ⟨w.heap.size + 1, 3, none⟩ = some (.int .i64 0) := cell_of_row _ _ 3 _ _ (0, 0) hE
  have e4 : W.cell? ⟨w.heap.size + 1, 4, none⟩ = some (.bool false) := cell_of_row _ _ 4 _ _ (0, 0) hE
  have e5 : W.cell? ⟨w.heap.size + 1, 5, none⟩ = some (.slice (some ⟨w.heap.size, 0, none⟩) 1 1) := cell_of_row _ _ 5 _ _ (0, 0) hE
  have HL0 := Lib.hid L0
  have HBB := Lib.hid hB0
  have HZ0 := Lib.hid hz0
  clear hE L0 hB0 hz0
  go_wp2_with (first
    | (have hd := done2; go_at_call 13; (with_reducible refine (K3 _ _ _ HL2.out).out.mono ?_); rintro e w3 ⟨rfl, hb3⟩; have HB3 := Lib.hid (HB2.out.1.trans (hb3.mono HB2.out.2)); clear hb3)
    | (have hd := done1; go_at_call 13; (with_reducible refine (K2 _ _ _ HL1.out).out.mono ?_); rintro e w2 ⟨rfl, hb2⟩; have HL2 := Lib.hid (HL1.out.below hb2 HL1.out.1); have HB2 : Hid (Below w.heap.size w w2 ∧ w.heap.size ≤ w2.heap.size) := Lib.hid ⟨HB1.out.1.trans (hb2.mono HB1.out.2.1), Nat.le_trans HB1.out.2.1 hb2.size⟩; have g0 := (hb2.cell (p := ⟨w.heap.size + 1, 0, none⟩) HB1.out.2.2).trans f0; have g1 := (hb2.cell (p := ⟨w.heap.size + 1, 1, none⟩) HB1.out.2.2).trans f1; have g2 := (hb2.cell (p := ⟨w.heap.size + 1, 2, none⟩) HB1.out.2.2).trans f2; have g3 := (hb2.cell (p := ⟨w.heap.size + 1, 3, none⟩) HB1.out.2.2).trans f3; have g4 := (hb2.cell (p := ⟨w.heap.size + 1, 4, none⟩) HB1.out.2.2).trans f4; have g5 := (hb2.cell (p := ⟨w.heap.size + 1, 5, none⟩) HB1.out.2.2).trans f5; clear hb2; have done2 := trivial)
    | (go_at_call 13; (with_reducible refine (K1 _).out.mono ?_); rintro e w1 ⟨rfl, hb1⟩; have HL1 := Lib.hid (HL0.out.below hb1 HL0.out.1); have HB1 : Hid (Below w.heap.size w w1 ∧ w.heap.size ≤ w1.heap.size ∧ w.heap.size + 1 < w1.heap.size) := Lib.hid ⟨HBB.out.trans (hb1.mono (by rw [HZ0.out]; omega)), by have := hb1.size; rw [HZ0.out] at this; omega, by have := hb1.size; rw [HZ0.out] at this; omega⟩; have hlt : w.heap.size + 1 < W.heap.size := (by rw [HZ0.out]; omega); have f0 := (hb1.cell (p := ⟨w.heap.size + 1, 0, none⟩) hlt).trans e0; have f1 := (hb1.cell (p := ⟨w.heap.size + 1, 1, none⟩) hlt).trans e1; have f2 := (hb1.cell (p := ⟨w.heap.size + 1, 2, none⟩) hlt).trans e2; have f3 := (hb1.cell (p := ⟨w.heap.size + 1, 3, none⟩) hlt).trans e3; have f4 := (hb1.cell (p := ⟨w.heap.size + 1, 4, none⟩) hlt).trans e4; have f5 := (hb1.cell (p := ⟨w.heap.size + 1, 5, none⟩) hlt).trans e5; clear hb1 hlt; have done1 := trivial))
  go_ret
  exact ⟨rfl, HB3.out⟩
end Go.Proofs.Ytenioeppmgmdiaa
