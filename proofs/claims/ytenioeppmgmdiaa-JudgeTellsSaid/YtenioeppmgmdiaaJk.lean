/- Whether a policy of one node keeps an episode. -/
import Derived.Test.YtenioeppmgmdiaaJr
import Derived.Test.YtenioeppmgmdiaaJh
import Derived.Test.YtenioeppmgmdiaaFew
import Derived.Deep.RegionHeld3
namespace Go.Proofs.Ytenioeppmgmdiaa
open Go.RowKit
set_option linter.unusedVariables false

/-- An episode's six cells. -/
def Ev (hi lo f la : Int) (su : Bool) (sA : Option Addr) (sn sc : Nat) : Array Value := #[.int .u64 hi, .int .u64 lo, .int .i64 f, .int .i64 la, .bool su, .slice sA sn sc]

set_option maxHeartbeats 4000000 in
set_option maxRecDepth 100000 in
theorem keep_all (hi lo f la : Int) (su : Bool) (sA : Option Addr) (sn sc : Nat) (q : Int) (w : World) : Calls Try.prog 34 #[.agg (R1 1 0), .agg (Ev hi lo f la su sA sn sc), .int .i64 q] w fun e w' => e = .returned (.bool true) ∧ Below w.heap.size w w' := by
  unfold R1 Ev
  go_enter Try.func34, Try.ntmps34
  go_wp2_with fail
  go_loop [18] (fun i => i = .int .i64 0) (fun _ => 0)
  case atStart => rfl
  case round =>
    subst hrel
    go_wp2_with fail
    go_ret
    exact ⟨rfl, ((Below.refl _ _).alloc (Nat.le_refl _) _).alloc (by simp) _⟩

set_option maxHeartbeats 4000000 in
set_option maxRecDepth 100000 in
theorem keep_hash (hi lo : Nat) (f la : Int) (su : Bool) (sA : Option Addr) (sn sc : Nat) (q n : Int) (w : World) (h1 : hi < 18446744073709551616) (h2 : lo < 18446744073709551616) :
    Calls Try.prog 34 #[.agg (R1 8 n), .agg (Ev hi lo f la su sA sn sc), .int .i64 q] w fun e w' => e = .returned (.bool (decide ((hsh hi lo : Int) < n))) ∧ Below w.heap.size w w' := by
  have HA := fun W => Lib.hid (hash_any hi lo W h1 h2)
  generalize hsh hi lo = hh at *
  unfold R1 Ev
  go_enter Try.func34, Try.ntmps34
  go_wp2_with fail
  have r1 : ((w.alloc (.cells #[.int .i64 8, .int .i64 n, .string ⟨#[]⟩, .string ⟨#[]⟩, .slice none 0 0] 24)).alloc (.cells #[.int .u64 hi, .int .u64 lo, .int .i64 f, .int .i64 la, .bool su, .slice sA sn sc] 30)).cell? ⟨w.heap.size, 1, none⟩ = some (.int .i64 n) := (World.cell?_alloc_lt _ _ ⟨_, 1, none⟩ (by simp)).trans (cell_of_row _ _ 1 _ _ (0, 0) (heap_alloc_new w _))
  have e0 : ((w.alloc (.cells #[.int .i64 8, .int .i64 n, .string ⟨#[]⟩, .string ⟨#[]⟩, .slice none 0 0] 24)).alloc (.cells #[.int .u64 hi, .int .u64 lo, .int .i64 f, .int .i64 la, .bool su, .slice sA sn sc] 30)).cell? ⟨w.heap.size + 1, 0, none⟩ = some (.int .u64 hi) := by simp
  have e1 : ((w.alloc (.cells #[.int .i64 8, .int .i64 n, .string ⟨#[]⟩, .string ⟨#[]⟩, .slice none 0 0] 24)).alloc (.cells #[.int .u64 hi, .int .u64 lo, .int .i64 f, .int .i64 la, .bool su, .slice sA sn sc] 30)).cell? ⟨w.heap.size + 1, 1, none⟩ = some (.int .u64 lo) := by simp
  have hB : Below w.heap.size w ((w.alloc (.cells #[.int .i64 8, .int .i64 n, .string ⟨#[]⟩, .string ⟨#[]⟩, .slice none 0 0] 24)).alloc (.cells #[.int .u64 hi, .int .u64 lo, .int .i64 f, .int .i64 la, .bool su, .slice sA sn sc] 30)) := ((Below.refl _ _).alloc (Nat.le_refl _) _).alloc (by simp) _
  have hz : w.heap.size + 1 < ((w.alloc (.cells #[.int .i64 8, .int .i64 n, .string ⟨#[]⟩, .string ⟨#[]⟩, .slice none 0 0] 24)).alloc (.cells #[.int .u64 hi, .int .u64 lo, .int .i64 f, .int .i64 la, .bool su, .slice sA sn sc] 30)).heap.size := by simp
  generalize (w.alloc (.cells #[.int .i64 8, .int .i64 n, .string ⟨#[]⟩, .string ⟨#[]⟩, .slice none 0 0] 24)).alloc (.cells #[.int .u64 hi, .int .u64 lo, .int .i64 f, .int .i64 la, .bool su, .slice sA sn sc] 30) = W at *
  generalize hB0 : w.heap.size = B at *
  have HB0 := Lib.hid hB0
  clear hB0
  generalize hB1 : B + 1 = B1 at *
  have hS : Hid (Below B w W.drew ∧ B1 < W.drew.heap.size ∧ B < W.drew.heap.size ∧ B ≤ W.drew.heap.size) ∧ W.drew.cell? ⟨B, 1, none⟩ = some (.int .i64 n) ∧ W.drew.cell? ⟨B1, 0, none⟩ = some (.int .u64 (hi : Int)) ∧ W.drew.cell? ⟨B1, 1, none⟩ = some (.int .u64 (lo : Int)) := ⟨Lib.hid ⟨hB.trans ⟨rfl, rfl, rfl, Nat.le_refl _, fun _ _ => rfl⟩, hz, by show B < W.heap.size; omega, by show B ≤ W.heap.size; omega⟩, r1, e0, e1⟩
  have KS : Hid (∀ w1 w2, (Hid (Below B w w1 ∧ B1 < w1.heap.size ∧ B < w1.heap.size ∧ B ≤ w1.heap.size) ∧ w1.cell? ⟨B, 1, none⟩ = some (.int .i64 n) ∧ w1.cell? ⟨B1, 0, none⟩ = some (.int .u64 (hi : Int)) ∧ w1.cell? ⟨B1, 1, none⟩ = some (.int .u64 (lo : Int))) → Below w1.heap.size w1 w2 → (Hid (Below B w w2 ∧ B1 < w2.heap.size ∧ B < w2.heap.size ∧ B ≤ w2.heap.size) ∧ w2.cell? ⟨B, 1, none⟩ = some (.int .i64 n) ∧ w2.cell? ⟨B1, 0, none⟩ = some (.int .u64 (hi : Int)) ∧ w2.cell? ⟨B1, 1, none⟩ = some (.int .u64 (lo : Int)))) :=
    Lib.hid (fun w1 w2 h hb => by
      have hz2 := hb.size
      have h1 := h.1.out
      exact ⟨Lib.hid ⟨h1.1.trans (hb.mono h1.2.2.2), by omega, by omega, by omega⟩, (hb.cell (p := ⟨B, 1, none⟩) h1.2.2.1).trans h.2.1, (hb.cell (p := ⟨B1, 0, none⟩) h1.2.1).trans h.2.2.1, (hb.cell (p := ⟨B1, 1, none⟩) h1.2.1).trans h.2.2.2⟩)
  clear r1 e0 e1 hB hz hB1
  go_region_held3 (fun w' => (Hid (Below B w w' ∧ B1 < w'.heap.size ∧ B < w'.heap.size ∧ B ≤ w'.heap.size) ∧ w'.cell? ⟨B, 1, none⟩ = some (.int .i64 n) ∧ w'.cell? ⟨B1, 0, none⟩ = some (.int .u64 (hi : Int)) ∧ w'.cell? ⟨B1, 1, none⟩ = some (.int .u64 (lo : Int))))
    (first | (with_reducible assumption) | (with_reducible exact hS) | (with_reducible exact hs1))
    ((go_at_call 11; (with_reducible refine (HA _).out.mono ?_); rintro e w1 ⟨rfl, hb1⟩; have hs1 := KS.out _ _ ‹Hid (Below B w _ ∧ _) ∧ _› hb1; clear hb1))
  all_goals
    go_wp2_with fail
    go_ret
    obtain ⟨hf, _⟩ := ‹Hid (Below B w _ ∧ _) ∧ _›
    exact ⟨by simp, by rw [HB0.out]; exact hf.out.1⟩

set_option maxHeartbeats 4000000 in
set_option maxRecDepth 100000 in
theorem is_slow (x0 x1 x2 x3 : Int) (x4 x5 : ByteArray) (x6 x7 : Int) (x8 : Bool) (xA : Option Addr) (xn xc : Nat) (n : Int) (w : World) :
    Calls Try.prog 60 #[.agg #[.int .u64 x0, .int .u64 x1, .int .u64 x2, .int .u64 x3, .string x4, .string x5, .int .i64 x6, .int .i64 x7, .bool x8, .slice xA xn xc], .agg (R1 4 n)] w fun e w' => e = .returned (.bool (decide (n ≤ x7))) ∧ Below w.heap.size w w' := by
  unfold R1
  go_enter Try.func60, Try.ntmps60
  go_wp2_with fail
  go_ret
  exact ⟨rfl, ((Below.refl _ _).alloc (Nat.le_refl _) _).alloc (by simp) _⟩

set_option maxHeartbeats 4000000 in
set_option maxRecDepth 100000 in
theorem some_one (a : Addr) (c : Nat) (x0 x1 x2 x3 : Int) (x4 x5 : ByteArray) (x6 x7 : Int) (x8 : Bool) (xA : Option Addr) (xn xc : Nat) (n : Int) (w : World) (hb : a.block < w.heap.size)
    (hc : ∀ j u, (#[.int .u64 x0, .int .u64 x1, .int .u64 x2, .int .u64 x3, .string x4, .string x5, .int .i64 x6, .int .i64 x7, .bool x8, .slice xA xn xc] : Array Value)[j]? = some u → w.cell? (a.add j) = some u) :
    Calls Try.prog 49 #[.slice (some a) 1 c, .agg (R1 4 n)] w fun e w' => e = .returned (.bool (decide (n ≤ x7))) ∧ Below w.heap.size w w' := by
  have IS := fun W => is_slow x0 x1 x2 x3 x4 x5 x6 x7 x8 xA xn xc n W
  have c0 : (w.alloc (.cells #[.int .i64 4, .int .i64 n, .string ⟨#[]⟩, .string ⟨#[]⟩, .slice none 0 0] 24)).cell? a = some (.int .u64 x0) := (World.cell?_alloc_lt _ _ a hb).trans (hc 0 _ rfl)
  have c1 : (w.alloc (.cells #[.int .i64 4, .int .i64 n, .string ⟨#[]⟩, .string ⟨#[]⟩, .slice none 0 0] 24)).cell? ⟨a.block, a.off + 1, none⟩ = some (.int .u64 x1) := (World.cell?_alloc_lt _ _ ⟨a.block, a.off + 1, none⟩ hb).trans (by have h := hc 1 _ rfl; unfold Addr.add at h; rw [if_neg (by omega)] at h; exact h)
  have c2 : (w.alloc (.cells #[.int .i64 4, .int .i64 n, .string ⟨#[]⟩, .string ⟨#[]⟩, .slice none 0 0] 24)).cell? ⟨a.block, a.off + 2, none⟩ = some (.int .u64 x2) := (World.cell?_alloc_lt _ _ ⟨a.block, a.off + 2, none⟩ hb).trans (by have h := hc 2 _ rfl; unfold Addr.add at h; rw [if_neg (by omega)] at h; exact h)
  have c3 : (w.alloc (.cells #[.int .i64 4, .int .i64 n, .string ⟨#[]⟩, .string ⟨#[]⟩, .slice none 0 0] 24)).cell? ⟨a.block, a.off + 3, none⟩ = some (.int .u64 x3) := (World.cell?_alloc_lt _ _ ⟨a.block, a.off + 3, none⟩ hb).trans (by have h := hc 3 _ rfl; unfold Addr.add at h; rw [if_neg (by omega)] at h; exact h)
  have c4 : (w.alloc (.cells #[.int .i64 4, .int .i64 n, .string ⟨#[]⟩, .string ⟨#[]⟩, .slice none 0 0] 24)).cell? ⟨a.block, a.off + 4, none⟩ = some (.string x4) := (World.cell?_alloc_lt _ _ ⟨a.block, a.off + 4, none⟩ hb).trans (by have h := hc 4 _ rfl; unfold Addr.add at h; rw [if_neg (by omega)] at h; exact h)
  have c5 : (w.alloc (.cells #[.int .i64 4, .int .i64 n, .string ⟨#[]⟩, .string ⟨#[]⟩, .slice none 0 0] 24)).cell? ⟨a.block, a.off + 5, none⟩ = some (.string x5) := (World.cell?_alloc_lt _ _ ⟨a.block, a.off + 5, none⟩ hb).trans (by have h := hc 5 _ rfl; unfold Addr.add at h; rw [if_neg (by omega)] at h; exact h)
  have c6 : (w.alloc (.cells #[.int .i64 4, .int .i64 n, .string ⟨#[]⟩, .string ⟨#[]⟩, .slice none 0 0] 24)).cell? ⟨a.block, a.off + 6, none⟩ = some (.int .i64 x6) := (World.cell?_alloc_lt _ _ ⟨a.block, a.off + 6, none⟩ hb).trans (by have h := hc 6 _ rfl; unfold Addr.add at h; rw [if_neg (by omega)] at h; exact h)
  have c7 : (w.alloc (.cells #[.int .i64 4, .int .i64 n, .string ⟨#[]⟩, .string ⟨#[]⟩, .slice none 0 0] 24)).cell? ⟨a.block, a.off + 7, none⟩ = some (.int .i64 x7) := (World.cell?_alloc_lt _ _ ⟨a.block, a.off + 7, none⟩ hb).trans (by have h := hc 7 _ rfl; unfold Addr.add at h; rw [if_neg (by omega)] at h; exact h)
  have c8 : (w.alloc (.cells #[.int .i64 4, .int .i64 n, .string ⟨#[]⟩, .string ⟨#[]⟩, .slice none 0 0] 24)).cell? ⟨a.block, a.off + 8, none⟩ = some (.bool x8) := (World.cell?_alloc_lt _ _ ⟨a.block, a.off + 8, none⟩ hb).trans (by have h := hc 8 _ rfl; unfold Addr.add at h; rw [if_neg (by omega)] at h; exact h)
  have c9 : (w.alloc (.cells #[.int .i64 4, .int .i64 n, .string ⟨#[]⟩, .string ⟨#[]⟩, .slice none 0 0] 24)).cell? ⟨a.block, a.off + 9, none⟩ = some (.slice xA xn xc) := (World.cell?_alloc_lt _ _ ⟨a.block, a.off + 9, none⟩ hb).trans (by have h := hc 9 _ rfl; unfold Addr.add at h; rw [if_neg (by omega)] at h; exact h)
  have r0 : (w.alloc (.cells #[.int .i64 4, .int .i64 n, .string ⟨#[]⟩, .string ⟨#[]⟩, .slice none 0 0] 24)).heap[w.heap.size]? = some (.cells #[.int .i64 4, .int .i64 n, .string ⟨#[]⟩, .string ⟨#[]⟩, .slice none 0 0] 24) := heap_alloc_new _ _
  have hz : (w.alloc (.cells #[.int .i64 4, .int .i64 n, .string ⟨#[]⟩, .string ⟨#[]⟩, .slice none 0 0] 24)).heap.size = w.heap.size + 1 := by simp
  have hB : Below w.heap.size w (w.alloc (.cells #[.int .i64 4, .int .i64 n, .string ⟨#[]⟩, .string ⟨#[]⟩, .slice none 0 0] 24)) := (Below.refl _ _).alloc (Nat.le_refl _) _
  have HB := Lib.hid hB
  have hab : a.block < w.heap.size + 1 := by omega
  clear hc hB
  unfold R1 at IS ⊢
  have hcc : n ≤ x7 ∨ x7 < n := by omega
  go_enter Try.func49, Try.ntmps49
  go_wp2_with fail
  generalize w.alloc (.cells #[.int .i64 4, .int .i64 n, .string ⟨#[]⟩, .string ⟨#[]⟩, .slice none 0 0] 24) = W at *
  generalize hB0 : w.heap.size = B at *
  have HB0 := Lib.hid hB0
  have HZ := Lib.hid hz
  have s0 : W.cell? ⟨B, 0, none⟩ = some (.int .i64 4) := cell_of_row _ _ 0 _ _ (0, 0) r0
  have s1 : W.cell? ⟨B, 1, none⟩ = some (.int .i64 n) := cell_of_row _ _ 1 _ _ (0, 0) r0
  have s2 : W.cell? ⟨B, 2, none⟩ = some (.string ⟨#[]⟩) := cell_of_row _ _ 2 _ _ (0, 0) r0
  have s3 : W.cell? ⟨B, 3, none⟩ = some (.string ⟨#[]⟩) := cell_of_row _ _ 3 _ _ (0, 0) r0
  have s4 : W.cell? ⟨B, 4, none⟩ = some (.slice none 0 0) := cell_of_row _ _ 4 _ _ (0, 0) r0
  have hbz : B < W.heap.size := by omega
  have haz : a.block < W.heap.size := by omega
  have haz2 : a.block ≠ W.heap.size := by omega
  have hbz2 : B ≠ W.heap.size := by omega
  clear hB0 hz r0 hb hab
  go_loopw [9] (fun i wr => (i = .int .i64 0 ∧ wr = W) ∨ (i = .int .i64 1 ∧ Hid (x7 < n ∧ Below B W wr))) (fun i _ => (1 - intOf i).toNat)
  case atStart => exact Or.inl ⟨rfl, rfl⟩
  case round =>
    rcases hrel with ⟨rfl, rfl⟩ | ⟨rfl, HH⟩
    · rcases hcc with hcc | hcc
      · have I1 := fun W => Lib.hid (IS W)
        have e1 : decide (n ≤ x7) = true := by simpa using hcc
        rw [e1] at I1
        have E1 := Lib.hid e1
        clear e1 IS hcc
        go_wp2_with (go_at_call 60; (with_reducible refine (I1 _).out.mono ?_); rintro e w2 ⟨rfl, hb2⟩; have HB2 := Lib.hid hb2; clear hb2)
        go_ret
        refine ⟨by rw [E1.out] <;> rfl, ?_⟩
        rw [HB0.out]
        refine HB.out.trans (Below.trans ?_ (HB2.out.mono ?_))
        · exact (Below.refl _ _).alloc (Nat.le_of_lt hbz) _
        · simp; omega
      · have I1 := fun W => Lib.hid (IS W)
        have e1 : decide (n ≤ x7) = false := by simp; omega
        rw [e1] at I1
        have HC := Lib.hid hcc
        clear e1 IS hcc
        go_wp2_with (go_at_call 60; (with_reducible refine (I1 _).out.mono ?_); rintro e w2 ⟨rfl, hb2⟩; have HB2 := Lib.hid hb2; clear hb2)
        go_roundw
        case rel =>
          refine Or.inr ⟨rfl, Lib.hid ⟨HC.out, Below.trans ?_ (HB2.out.mono ?_)⟩⟩
          · exact (Below.refl _ _).alloc (Nat.le_of_lt hbz) _
          · simp; omega
        case measure => simp [intOf]
    · have e1 : decide (n ≤ x7) = false := by simp; exact HH.out.1
      have E1 := Lib.hid e1
      clear e1 IS hcc
      go_wp2_with fail
      go_ret
      exact ⟨by rw [E1.out] <;> rfl, by rw [HB0.out]; exact HB.out.trans HH.out.2⟩
end Go.Proofs.Ytenioeppmgmdiaa
