/- Keep by the policies that a law makes; chapter 14's example. -/
import Derived.Test.YthkclgkbidhmbaaJk
namespace Go.Proofs.Ythkclgkbidhmbaa
open Go.RowKit
set_option linter.unusedVariables false

/-- A slow span's ten cells lie there. -/
def Lie1 (w : World) (a : Addr) (d : Int) : Prop := a.block < w.heap.size ∧ ∀ j u, (#[.int .u64 0, .int .u64 0, .int .u64 0, .int .u64 0, .string ⟨#[]⟩, .string ⟨#[]⟩, .int .i64 0, .int .i64 d, .bool false, .slice none 0 0] : Array Value)[j]? = some u → w.cell? (a.add j) = some u
theorem Lie1.below {w w' : World} {a : Addr} {d : Int} (h : Lie1 w a d) {B : Nat} (hb : Below B w w') (hB : a.block < B) : Lie1 w' a d := ⟨Nat.lt_of_lt_of_le h.1 hb.size, fun j u hu => (hb.cell (by rw [block_add]; exact hB)).trans (h.2 j u hu)⟩
set_option maxHeartbeats 4000000 in
set_option maxRecDepth 100000 in
theorem keep_slow (a : Addr) (sc : Nat) (d n q : Int) (w : World) (h : Lie1 w a d) :
    Calls Try.prog 68 #[.agg (R1 4 n), .agg (Ev 0 0 0 0 false (some a) 1 sc), .int .i64 q] w fun e w' => e = .returned (.bool (decide (n ≤ d))) ∧ Below w.heap.size w w' := by
  have SO := fun W (h : Lie1 W a d) => Lib.hid (some_one a sc 0 0 0 0 ⟨#[]⟩ ⟨#[]⟩ 0 d false none 0 0 n W h.1 h.2)
  have HL := Lib.hid (h.below (((Below.refl w.heap.size w).alloc (Nat.le_refl _) (.cells #[.int .i64 4, .int .i64 n, .string ⟨#[]⟩, .string ⟨#[]⟩, .slice none 0 0] 57)).alloc (by simp) (.cells #[.int .u64 0, .int .u64 0, .int .i64 0, .int .i64 0, .bool false, .slice (some a) 1 sc] 59)) h.1)
  unfold R1 at SO ⊢
  unfold Ev
  clear h
  go_enter Try.func68, Try.ntmps68
  go_wp2_with (go_at_call 94; (with_reducible refine (SO _ HL.out).out.mono ?_); rintro e w1 ⟨rfl, hb1⟩)
  go_ret
  exact ⟨rfl, (((Below.refl _ _).alloc (Nat.le_refl _) _).alloc (by simp) _).trans (hb1.mono (by simp; omega))⟩

set_option maxHeartbeats 4000000 in
set_option maxRecDepth 100000 in
theorem Keep_of (k n : Int) (hk : Made k n) (hi lo f la : Int) (su : Bool) (sA : Option Addr) (sn sc : Nat) (q : Int) (b : Bool) (w : World)
    (HK : ∀ W, Below w.heap.size w W → Calls Try.prog 68 #[.agg (R1 k n), .agg (Ev hi lo f la su sA sn sc), .int .i64 q] W fun e w' => e = .returned (.bool b) ∧ Below W.heap.size W w') :
    Calls Try.prog 38 #[.agg (R1 k n), .agg (Ev hi lo f la su sA sn sc), .int .i64 q] w fun e w' => e = .returned (.bool b) ∧ Below w.heap.size w w' := by
  have RI := fun W => Lib.hid (right_any k n W hk)
  have KE := fun W h => Lib.hid (HK W h)
  have HB2 := Lib.hid (((Below.refl w.heap.size w).alloc (Nat.le_refl _) (.cells #[.int .i64 k, .int .i64 n, .string ⟨#[]⟩, .string ⟨#[]⟩, .slice none 0 0] 57)).alloc (by simp) (.cells #[.int .u64 hi, .int .u64 lo, .int .i64 f, .int .i64 la, .bool su, .slice sA sn sc] 59))
  clear HK hk
  unfold R1 Ev at *
  go_enter Try.func38, Try.ntmps38
  go_wp2_with (first
    | (go_at_call 67; (with_reducible refine (RI _).out.mono ?_); rintro e w1 ⟨rfl, hb1⟩; obtain ⟨hc, hf⟩ := bcell hb1; have HB3 := Lib.hid (HB2.out.trans (hb1.mono (by simp; omega))); clear hb1)
    | (go_at_call 68; (with_reducible refine (KE _ HB3.out).out.mono ?_); rintro e w2 ⟨rfl, hb2⟩; have HB4 := Lib.hid (HB3.out.trans (hb2.mono HB3.out.size)); clear hb2))
  go_ret
  exact ⟨by simp, HB4.out⟩

theorem Keep_all (q : Int) (w : World) : Calls Try.prog 38 #[.agg (R1 1 0), .agg (Ev 0 0 0 0 false none 0 0), .int .i64 q] w fun e w' => e = .returned (.bool true) ∧ Below w.heap.size w w' :=
  Keep_of 1 0 (Or.inl ⟨rfl, rfl⟩) 0 0 0 0 false none 0 0 q true w (fun W _ => keep_all 0 0 0 0 false none 0 0 q W)
theorem Keep_hash (hi lo : Nat) (sA : Option Addr) (sn sc : Nat) (q n : Int) (w : World) (h1 : hi < 18446744073709551616) (h2 : lo < 18446744073709551616) (hn : 0 ≤ n ∧ n ≤ 1000) :
    Calls Try.prog 38 #[.agg (R1 8 n), .agg (Ev hi lo 0 0 false sA sn sc), .int .i64 q] w fun e w' => e = .returned (.bool (decide ((hsh hi lo : Int) < n))) ∧ Below w.heap.size w w' :=
  Keep_of 8 n (Or.inr (Or.inr ⟨rfl, hn⟩)) hi lo 0 0 false sA sn sc q _ w (fun W _ => keep_hash hi lo 0 0 false sA sn sc q n W h1 h2)
theorem Keep_slow (a : Addr) (sc : Nat) (d n q : Int) (w : World) (h : Lie1 w a d) (hn : 0 ≤ n ∧ n ≤ 1073741824) :
    Calls Try.prog 38 #[.agg (R1 4 n), .agg (Ev 0 0 0 0 false (some a) 1 sc), .int .i64 q] w fun e w' => e = .returned (.bool (decide (n ≤ d))) ∧ Below w.heap.size w w' :=
  Keep_of 4 n (Or.inr (Or.inl ⟨rfl, hn⟩)) 0 0 0 0 false (some a) 1 sc q _ w (fun W hb => keep_slow a sc d n q W (h.below hb h.1))

set_option maxHeartbeats 4000000 in
set_option maxRecDepth 100000 in
theorem alive14_calls (w : World) : Calls Try.prog 35 #[] w fun e w' => e = .returned (.bool true) ∧ Below w.heap.size w w' := by
  have K1 := fun W => Lib.hid (Keep_all 0 W)
  have K2 := fun a sc W (h : Lie1 W a 9) => Lib.hid (show Calls Try.prog 38 #[.agg (R1 4 9), .agg (Ev 0 0 0 0 false (some a) 1 sc), .int .i64 0] W fun e w' => e = .returned (.bool true) ∧ Below W.heap.size W w' from (Keep_slow a sc 9 9 0 W h (by omega)).mono fun e w' h => ⟨h.1.trans (by simp), h.2⟩)
  have K3 := fun a sc W (h : Lie1 W a 9) => Lib.hid (show Calls Try.prog 38 #[.agg (R1 4 10), .agg (Ev 0 0 0 0 false (some a) 1 sc), .int .i64 0] W fun e w' => e = .returned (.bool false) ∧ Below W.heap.size W w' from (Keep_slow a sc 9 10 0 W h (by omega)).mono fun e w' h => ⟨h.1.trans (by simp), h.2⟩)
  unfold R1 Ev at *
  go_enter Try.func35, Try.ntmps35
  go_wp2_with fail
  have L0 : Lie1 ((w.alloc (.cells #[.int .u64 0, .int .u64 0, .int .u64 0, .int .u64 0, .string ⟨#[]⟩, .string ⟨#[]⟩, .int .i64 0, .int .i64 9, .bool false, .slice none 0 0] 36)).alloc (.cells #[.int .u64 0, .int .u64 0, .int .i64 0, .int .i64 0, .bool false, .slice (some ⟨w.heap.size, 0, none⟩) 1 1] 59)) ⟨w.heap.size, 0, none⟩ 9 := by
    have h0 : Lie1 (w.alloc (.cells #[.int .u64 0, .int .u64 0, .int .u64 0, .int .u64 0, .string ⟨#[]⟩, .string ⟨#[]⟩, .int .i64 0, .int .i64 9, .bool false, .slice none 0 0] 36)) ⟨w.heap.size, 0, none⟩ 9 := by
      refine ⟨by simp, fun j u hu => ?_⟩
      have e : (⟨w.heap.size, 0, none⟩ : Addr).add j = ⟨w.heap.size, j, none⟩ := by unfold Addr.add; split <;> simp_all
      rw [e, cell_of_row _ _ j _ _ (0, 0) (heap_alloc_new w _)]
      exact hu
    exact h0.below ((Below.refl (w.heap.size + 1) _).alloc (by simp) _) (Nat.lt_succ_self _)
  have hB0 : Below w.heap.size w ((w.alloc (.cells #[.int .u64 0, .int .u64 0, .int .u64 0, .int .u64 0, .string ⟨#[]⟩, .string ⟨#[]⟩, .int .i64 0, .int .i64 9, .bool false, .slice none 0 0] 36)).alloc (.cells #[.int .u64 0, .int .u64 0, .int .i64 0, .int .i64 0, .bool false, .slice (some ⟨w.heap.size, 0, none⟩) 1 1] 59)) := ((Below.refl _ _).alloc (Nat.le_refl _) _).alloc (by simp) _
  have hz0 : ((w.alloc (.cells #[.int .u64 0, .int .u64 0, .int .u64 0, .int .u64 0, .string ⟨#[]⟩, .string ⟨#[]⟩, .int .i64 0, .int .i64 9, .bool false, .slice none 0 0] 36)).alloc (.cells #[.int .u64 0, .int .u64 0, .int .i64 0, .int .i64 0, .bool false, .slice (some ⟨w.heap.size, 0, none⟩) 1 1] 59)).heap.size = w.heap.size + 2 := by simp
  have hE : ((w.alloc (.cells #[.int .u64 0, .int .u64 0, .int .u64 0, .int .u64 0, .string ⟨#[]⟩, .string ⟨#[]⟩, .int .i64 0, .int .i64 9, .bool false, .slice none 0 0] 36)).alloc (.cells #[.int .u64 0, .int .u64 0, .int .i64 0, .int .i64 0, .bool false, .slice (some ⟨w.heap.size, 0, none⟩) 1 1] 59)).heap[w.heap.size + 1]? = some (.cells #[.int .u64 0, .int .u64 0, .int .i64 0, .int .i64 0, .bool false, .slice (some ⟨w.heap.size, 0, none⟩) 1 1] 59) := by
    have h := heap_alloc_new (w.alloc (.cells #[.int .u64 0, .int .u64 0, .int .u64 0, .int .u64 0, .string ⟨#[]⟩, .string ⟨#[]⟩, .int .i64 0, .int .i64 9, .bool false, .slice none 0 0] 36)) (.cells #[.int .u64 0, .int .u64 0, .int .i64 0, .int .i64 0, .bool false, .slice (some ⟨w.heap.size, 0, none⟩) 1 1] 59)
    simpa using h
  generalize (w.alloc (.cells #[.int .u64 0, .int .u64 0, .int .u64 0, .int .u64 0, .string ⟨#[]⟩, .string ⟨#[]⟩, .int .i64 0, .int .i64 9, .bool false, .slice none 0 0] 36)).alloc (.cells #[.int .u64 0, .int .u64 0, .int .i64 0, .int .i64 0, .bool false, .slice (some ⟨w.heap.size, 0, none⟩) 1 1] 59) = W at *
  have e0 : W.cell? ⟨w.heap.size + 1, 0, none⟩ = some (.int .u64 0) := cell_of_row _ _ 0 _ _ (0, 0) hE
  have e1 : W.cell? ⟨w.heap.size + 1, 1, none⟩ = some (.int .u64 0) := cell_of_row _ _ 1 _ _ (0, 0) hE
  have e2 : W.cell? ⟨w.heap.size + 1, 2, none⟩ = some (.int .i64 0) := cell_of_row _ _ 2 _ _ (0, 0) hE
  have e3 : W.cell? ⟨w.heap.size + 1, 3, none⟩ = some (.int .i64 0) := cell_of_row _ _ 3 _ _ (0, 0) hE
  have e4 : W.cell? ⟨w.heap.size + 1, 4, none⟩ = some (.bool false) := cell_of_row _ _ 4 _ _ (0, 0) hE
  have e5 : W.cell? ⟨w.heap.size + 1, 5, none⟩ = some (.slice (some ⟨w.heap.size, 0, none⟩) 1 1) := cell_of_row _ _ 5 _ _ (0, 0) hE
  have HL0 := Lib.hid L0
  have HBB := Lib.hid hB0
  have HZ0 := Lib.hid hz0
  clear hE L0 hB0 hz0
  go_wp2_with (first
    | (have hd := done2; go_at_call 38; (with_reducible refine (K3 _ _ _ HL2.out).out.mono ?_); rintro e w3 ⟨rfl, hb3⟩; have HB3 := Lib.hid (HB2.out.1.trans (hb3.mono HB2.out.2)); clear hb3)
    | (have hd := done1; go_at_call 38; (with_reducible refine (K2 _ _ _ HL1.out).out.mono ?_); rintro e w2 ⟨rfl, hb2⟩; have HL2 := Lib.hid (HL1.out.below hb2 HL1.out.1); have HB2 : Hid (Below w.heap.size w w2 ∧ w.heap.size ≤ w2.heap.size) := Lib.hid ⟨HB1.out.1.trans (hb2.mono HB1.out.2.1), Nat.le_trans HB1.out.2.1 hb2.size⟩; have g0 := (hb2.cell (p := ⟨w.heap.size + 1, 0, none⟩) HB1.out.2.2).trans f0; have g1 := (hb2.cell (p := ⟨w.heap.size + 1, 1, none⟩) HB1.out.2.2).trans f1; have g2 := (hb2.cell (p := ⟨w.heap.size + 1, 2, none⟩) HB1.out.2.2).trans f2; have g3 := (hb2.cell (p := ⟨w.heap.size + 1, 3, none⟩) HB1.out.2.2).trans f3; have g4 := (hb2.cell (p := ⟨w.heap.size + 1, 4, none⟩) HB1.out.2.2).trans f4; have g5 := (hb2.cell (p := ⟨w.heap.size + 1, 5, none⟩) HB1.out.2.2).trans f5; clear hb2; have done2 := trivial)
    | (go_at_call 38; (with_reducible refine (K1 _).out.mono ?_); rintro e w1 ⟨rfl, hb1⟩; have HL1 := Lib.hid (HL0.out.below hb1 HL0.out.1); have HB1 : Hid (Below w.heap.size w w1 ∧ w.heap.size ≤ w1.heap.size ∧ w.heap.size + 1 < w1.heap.size) := Lib.hid ⟨HBB.out.trans (hb1.mono (by rw [HZ0.out]; omega)), by have := hb1.size; rw [HZ0.out] at this; omega, by have := hb1.size; rw [HZ0.out] at this; omega⟩; have hlt : w.heap.size + 1 < W.heap.size := (by rw [HZ0.out]; omega); have f0 := (hb1.cell (p := ⟨w.heap.size + 1, 0, none⟩) hlt).trans e0; have f1 := (hb1.cell (p := ⟨w.heap.size + 1, 1, none⟩) hlt).trans e1; have f2 := (hb1.cell (p := ⟨w.heap.size + 1, 2, none⟩) hlt).trans e2; have f3 := (hb1.cell (p := ⟨w.heap.size + 1, 3, none⟩) hlt).trans e3; have f4 := (hb1.cell (p := ⟨w.heap.size + 1, 4, none⟩) hlt).trans e4; have f5 := (hb1.cell (p := ⟨w.heap.size + 1, 5, none⟩) hlt).trans e5; clear hb1 hlt; have done1 := trivial))
  go_ret
  exact ⟨rfl, HB3.out⟩

set_option maxHeartbeats 8000000 in
set_option maxRecDepth 100000 in
theorem judge_hash (hi lo : Nat) (n m : Int) (sA : Option Addr) (l : List Ls) (sn sc : Nat) (w : World) (h1 : hi < 18446744073709551616) (h2 : lo < 18446744073709551616) (hn : sn = l.length) (hy : RdSps w w.heap.size sA l) (hl : sn ≤ maxLen) :
    Calls Try.prog 8 #[.agg #[.int .u64 hi, .int .u64 lo], .int .i64 n, .int .i64 m, .slice sA sn sc] w fun e w' => e = .returned (.bool true) ∧ Below w.heap.size w w' := by
  have AL := fun W => Lib.hid (alive14_calls W)
  have HA := fun W => Lib.hid (hash_any hi lo W h1 h2)
  have KH := fun (sA : Option Addr) (sn sc : Nat) (q k : Int) (hk : 0 ≤ k ∧ k ≤ 1000) (W : World) => Lib.hid (Keep_hash hi lo sA sn sc q k W h1 h2 hk)
  have FA := fun W (hb : Below w.heap.size w W) => Lib.hid (fewall_any sA l sn sc w.heap.size W hn (hy.below hb) hb.size hl)
  have hh0 : hsh hi lo < 1000 := Nat.mod_lt _ (by omega)
  generalize fewAll l = fw at *
  generalize hsh hi lo = hh at *
  have hB : Below w.heap.size w (w.alloc (.cells #[.int .u64 hi, .int .u64 lo] 33)) := (Below.refl _ _).alloc (Nat.le_refl _) _
  have hz : (w.alloc (.cells #[.int .u64 hi, .int .u64 lo] 33)).heap.size = w.heap.size + 1 := by simp
  have T0 : Hid (Below w.heap.size w (w.alloc (.cells #[.int .u64 hi, .int .u64 lo] 33)) ∧ w.heap.size < (w.alloc (.cells #[.int .u64 hi, .int .u64 lo] 33)).heap.size ∧ (w.alloc (.cells #[.int .u64 hi, .int .u64 lo] 33)).cell? ⟨w.heap.size, 0, none⟩ = some (.int .u64 (hi : Int)) ∧ (w.alloc (.cells #[.int .u64 hi, .int .u64 lo] 33)).cell? ⟨w.heap.size, 1, none⟩ = some (.int .u64 (lo : Int))) :=
    Lib.hid ⟨hB, by omega, cell_of_row _ _ 0 _ _ (0, 0) (heap_alloc_new w _), cell_of_row _ _ 1 _ _ (0, 0) (heap_alloc_new w _)⟩
  have TS : Hid (∀ w1 w2, (Below w.heap.size w w1 ∧ w.heap.size < w1.heap.size ∧ w1.cell? ⟨w.heap.size, 0, none⟩ = some (.int .u64 (hi : Int)) ∧ w1.cell? ⟨w.heap.size, 1, none⟩ = some (.int .u64 (lo : Int))) → Below w1.heap.size w1 w2 → (Below w.heap.size w w2 ∧ w.heap.size < w2.heap.size ∧ w2.cell? ⟨w.heap.size, 0, none⟩ = some (.int .u64 (hi : Int)) ∧ w2.cell? ⟨w.heap.size, 1, none⟩ = some (.int .u64 (lo : Int)))) :=
    Lib.hid (fun w1 w2 h hb => ⟨h.1.trans (hb.mono (Nat.le_of_lt h.2.1)), Nat.lt_of_lt_of_le h.2.1 hb.size, (hb.cell (p := ⟨w.heap.size, 0, none⟩) h.2.1).trans h.2.2.1, (hb.cell (p := ⟨w.heap.size, 1, none⟩) h.2.1).trans h.2.2.2⟩)
  unfold R1 Ev at KH
  clear hy hn hl h1 h2 hB hz
  by_cases hout : n < 0 ∨ m < n ∨ 1000 < m
  · have hc : n < 0 ∨ (0 ≤ n ∧ m < n) ∨ (0 ≤ n ∧ n ≤ m ∧ 1000 < m) := by omega
    clear hout
    rcases hc with g1 | ⟨g1, g2⟩ | ⟨g1, g2, g3⟩
    all_goals
      go_enter Try.func8, Try.ntmps8
      go_wp2_with (go_at_call 35; (with_reducible refine (AL _).out.mono ?_); rintro e w1 ⟨rfl, hb1⟩; have T1 := Lib.hid (TS.out _ _ T0.out hb1); clear hb1)
      go_ret
      exact ⟨rfl, T1.out.1⟩
  · have g1 : 0 ≤ n := by omega
    have g2 : n ≤ m := by omega
    have g3 : m ≤ 1000 := by omega
    have g4 : n ≤ 1000 := by omega
    have g5 : 0 ≤ m := by omega
    clear hout
    cases fw
    · go_enter Try.func8, Try.ntmps8
      go_wp2_with (first
        | (go_at_call 35; (with_reducible refine (AL _).out.mono ?_); rintro e w1 ⟨rfl, hb1⟩; have T1 := Lib.hid (TS.out _ _ T0.out hb1); clear hb1)
        | (go_at_call 36; (with_reducible refine (FA _ T1.out.1).out.mono ?_); rintro e w2 ⟨rfl, hb2⟩; have T2 := Lib.hid (TS.out _ _ T1.out hb2); clear hb2))
      go_ret
      exact ⟨rfl, T2.out.1⟩
    · have KN := fun (sA : Option Addr) (sn sc : Nat) (q : Int) (W : World) => KH sA sn sc q n ⟨g1, g4⟩ W
      have KM := fun (sA : Option Addr) (sn sc : Nat) (q : Int) (W : World) => KH sA sn sc q m ⟨g5, g3⟩ W
      have KT := fun (sA : Option Addr) (sn sc : Nat) (q : Int) (W : World) => KH sA sn sc q 1000 ⟨by omega, by omega⟩ W
      have KZ := fun (sA : Option Addr) (sn sc : Nat) (q : Int) (W : World) => KH sA sn sc q 0 ⟨by omega, by omega⟩ W
      have eT : decide ((hh : Int) < 1000) = true := by simp; omega
      have eZ : decide ((hh : Int) < 0) = false := by simp
      rw [eT] at KT
      rw [eZ] at KZ
      clear KH eT eZ
      have hh1 : (0 : Int) ≤ (hh : Int) := by omega
      have hh2 : (hh : Int) < 1000 := by omega
      have hc : (hh : Int) < n ∨ (n ≤ (hh : Int) ∧ (hh : Int) < m) ∨ m ≤ (hh : Int) := by omega
      rcases hc with c1 | ⟨c1, c2⟩ | c1
      · have eN : decide ((hh : Int) < n) = true := by simpa using c1
        have eM : decide ((hh : Int) < m) = true := by simp; omega
        rw [eN] at KN
        rw [eM] at KM
        clear eM eN
        go_enter Try.func8, Try.ntmps8
        go_wp2_with (first
          | (go_at_call 35; (with_reducible refine (AL _).out.mono ?_); rintro e w1 ⟨rfl, hb1⟩; have T1 := Lib.hid (TS.out _ _ T0.out hb1); clear hb1)
          | (go_at_call 36; (with_reducible refine (FA _ T1.out.1).out.mono ?_); rintro e w2 ⟨rfl, hb2⟩; have T2 := Lib.hid (TS.out _ _ T1.out hb2); have t20 := T2.out.2.2.1; have t21 := T2.out.2.2.2; clear hb2)
          | (go_at_call 37; (with_reducible refine (HA _).out.mono ?_); rintro e w3 ⟨rfl, hb3⟩; have T3 := Lib.hid (TS.out _ _ T2.out hb3); have t30 := T3.out.2.2.1; have t31 := T3.out.2.2.2; clear hb3)
          | (have hd := done6; go_at_call 38; (with_reducible refine (KZ _ _ _ _ _).out.mono ?_); rintro e w7 ⟨rfl, hb7⟩; have T7 := Lib.hid (TS.out _ _ T6.out hb7); clear hb7)
          | (have hd := done5; go_at_call 38; (with_reducible refine (KT _ _ _ _ _).out.mono ?_); rintro e w6 ⟨rfl, hb6⟩; have T6 := Lib.hid (TS.out _ _ T5.out hb6); have t60 := T6.out.2.2.1; have t61 := T6.out.2.2.2; clear hb6; have done6 := trivial)
          | (have hd := done4; go_at_call 38; (with_reducible refine (KM _ _ _ _ _).out.mono ?_); rintro e w5 ⟨rfl, hb5⟩; have T5 := Lib.hid (TS.out _ _ T4.out hb5); have t50 := T5.out.2.2.1; have t51 := T5.out.2.2.2; clear hb5; have done5 := trivial)
          | (go_at_call 38; (with_reducible refine (KN _ _ _ _ _).out.mono ?_); rintro e w4 ⟨rfl, hb4⟩; have T4 := Lib.hid (TS.out _ _ T3.out hb4); have t40 := T4.out.2.2.1; have t41 := T4.out.2.2.2; clear hb4; have done4 := trivial))
        go_ret
        exact ⟨by first | (simp; done) | (simp; omega) | (simp only [Int.not_lt.2 c1]; simp), T7.out.1⟩
      · have eN : decide ((hh : Int) < n) = false := by simpa using c1
        have eM : decide ((hh : Int) < m) = true := by simpa using c2
        rw [eN] at KN
        rw [eM] at KM
        clear eM eN
        go_enter Try.func8, Try.ntmps8
        go_wp2_with (first
          | (go_at_call 35; (with_reducible refine (AL _).out.mono ?_); rintro e w1 ⟨rfl, hb1⟩; have T1 := Lib.hid (TS.out _ _ T0.out hb1); clear hb1)
          | (go_at_call 36; (with_reducible refine (FA _ T1.out.1).out.mono ?_); rintro e w2 ⟨rfl, hb2⟩; have T2 := Lib.hid (TS.out _ _ T1.out hb2); have t20 := T2.out.2.2.1; have t21 := T2.out.2.2.2; clear hb2)
          | (go_at_call 37; (with_reducible refine (HA _).out.mono ?_); rintro e w3 ⟨rfl, hb3⟩; have T3 := Lib.hid (TS.out _ _ T2.out hb3); have t30 := T3.out.2.2.1; have t31 := T3.out.2.2.2; clear hb3)
          | (have hd := done6; go_at_call 38; (with_reducible refine (KZ _ _ _ _ _).out.mono ?_); rintro e w7 ⟨rfl, hb7⟩; have T7 := Lib.hid (TS.out _ _ T6.out hb7); clear hb7)
          | (have hd := done5; go_at_call 38; (with_reducible refine (KT _ _ _ _ _).out.mono ?_); rintro e w6 ⟨rfl, hb6⟩; have T6 := Lib.hid (TS.out _ _ T5.out hb6); have t60 := T6.out.2.2.1; have t61 := T6.out.2.2.2; clear hb6; have done6 := trivial)
          | (have hd := done4; go_at_call 38; (with_reducible refine (KM _ _ _ _ _).out.mono ?_); rintro e w5 ⟨rfl, hb5⟩; have T5 := Lib.hid (TS.out _ _ T4.out hb5); have t50 := T5.out.2.2.1; have t51 := T5.out.2.2.2; clear hb5; have done5 := trivial)
          | (go_at_call 38; (with_reducible refine (KN _ _ _ _ _).out.mono ?_); rintro e w4 ⟨rfl, hb4⟩; have T4 := Lib.hid (TS.out _ _ T3.out hb4); have t40 := T4.out.2.2.1; have t41 := T4.out.2.2.2; clear hb4; have done4 := trivial))
        go_ret
        exact ⟨by first | (simp; done) | (simp; omega) | (simp only [Int.not_lt.2 c1]; simp), T7.out.1⟩
      · have eN : decide ((hh : Int) < n) = false := by simp; omega
        have eM : decide ((hh : Int) < m) = false := by simpa using c1
        rw [eN] at KN
        rw [eM] at KM
        clear eM eN
        go_enter Try.func8, Try.ntmps8
        go_wp2_with (first
          | (go_at_call 35; (with_reducible refine (AL _).out.mono ?_); rintro e w1 ⟨rfl, hb1⟩; have T1 := Lib.hid (TS.out _ _ T0.out hb1); clear hb1)
          | (go_at_call 36; (with_reducible refine (FA _ T1.out.1).out.mono ?_); rintro e w2 ⟨rfl, hb2⟩; have T2 := Lib.hid (TS.out _ _ T1.out hb2); have t20 := T2.out.2.2.1; have t21 := T2.out.2.2.2; clear hb2)
          | (go_at_call 37; (with_reducible refine (HA _).out.mono ?_); rintro e w3 ⟨rfl, hb3⟩; have T3 := Lib.hid (TS.out _ _ T2.out hb3); have t30 := T3.out.2.2.1; have t31 := T3.out.2.2.2; clear hb3)
          | (have hd := done6; go_at_call 38; (with_reducible refine (KZ _ _ _ _ _).out.mono ?_); rintro e w7 ⟨rfl, hb7⟩; have T7 := Lib.hid (TS.out _ _ T6.out hb7); clear hb7)
          | (have hd := done5; go_at_call 38; (with_reducible refine (KT _ _ _ _ _).out.mono ?_); rintro e w6 ⟨rfl, hb6⟩; have T6 := Lib.hid (TS.out _ _ T5.out hb6); have t60 := T6.out.2.2.1; have t61 := T6.out.2.2.2; clear hb6; have done6 := trivial)
          | (have hd := done4; go_at_call 38; (with_reducible refine (KM _ _ _ _ _).out.mono ?_); rintro e w5 ⟨rfl, hb5⟩; have T5 := Lib.hid (TS.out _ _ T4.out hb5); have t50 := T5.out.2.2.1; have t51 := T5.out.2.2.2; clear hb5; have done5 := trivial)
          | (go_at_call 38; (with_reducible refine (KN _ _ _ _ _).out.mono ?_); rintro e w4 ⟨rfl, hb4⟩; have T4 := Lib.hid (TS.out _ _ T3.out hb4); have t40 := T4.out.2.2.1; have t41 := T4.out.2.2.2; clear hb4; have done4 := trivial))
        go_ret
        exact ⟨by first | (simp; done) | (simp; omega) | (simp only [Int.not_lt.2 c1]; simp), T7.out.1⟩
end Go.Proofs.Ythkclgkbidhmbaa
