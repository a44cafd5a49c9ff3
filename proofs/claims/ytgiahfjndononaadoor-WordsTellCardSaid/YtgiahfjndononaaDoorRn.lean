/- Whether a node of a policy has what its kind names: the code's answer and the document's are one. -/
import Derived.Test.YtgiahfjndononaaDoorRu
import Derived.Test.YtgiahfjndononaaDoorBs
import Derived.BigQuiet
import Derived.LoopTactic
namespace Go.Proofs.YtgiahfjndononaaDoor
open Go.RowKit
set_option linter.unusedVariables false
set_option linter.unusedSimpArgs false
set_option maxRecDepth 100000

theorem ba_len (s : ByteArray) : s.toList.length = s.size := by
  obtain ⟨⟨l⟩⟩ := s
  simp
  rfl
def gok (k : Int) : Bool := k == 4 || k == 7 || k == 8 || k == 9
def gmost (k : Int) : Int := if (k == 4) = true then 1073741824 else if (k == 7) = true then 1000 else if (k == 8) = true then 1000 else if (k == 9) = true then 1000000 else 0
/-- Has a node what its kind names? -/
def oneR (k n : Int) (key val : ByteArray) (m : Nat) : Bool :=
  if (k == 6) = true then n == 0 && (!key.toList.isEmpty && (decide ((key.size : Int) ≤ 16) && (decide ((val.size : Int) ≤ 16) && (m : Int) == 0)))
  else key.toList.isEmpty && (val.toList.isEmpty && (
    if (k == 1) = true then n == 0 else if (k == 2) = true then n == 0
    else if (k == 3) = true then n == 0 && (m : Int) == 1
    else if (k == 5) = true then n == 0 && (m : Int) == 0
    else gok k && (decide (0 ≤ n) && (decide (n ≤ gmost k) && (m : Int) == 0))))
theorem greatest_any (k : Int) (w : World) : Calls Tryd.prog 51 #[.int .i64 k] w fun e w' => e = .returned (.tuple #[.int .i64 (gmost k), .bool (gok k)]) ∧ w = w' := by
  go_enter Tryd.func51, Tryd.ntmps51
  go_wp2_with fail
  all_goals
    go_ret2
    exact ⟨by simp_all [gmost, gok], rfl⟩
theorem within_any (n a b : Int) (w : World) : Calls Tryd.prog 50 #[.int .i64 n, .int .i64 a, .int .i64 b] w fun e w' => e = .returned (.bool (decide (a ≤ n) && decide (n ≤ b))) ∧ w = w' := by
  go_enter Tryd.func50, Tryd.ntmps50
  go_wp2_with fail
  all_goals
    go_ret
    exact ⟨by first | (simp_all; done) | (simp_all; omega), rfl⟩
set_option maxHeartbeats 8000000 in
theorem rnode_all (k n : Int) (key val : ByteArray) (kA : Option Addr) (m kc : Nat) (w : World) (hk : key.size ≤ maxLen) (hv : val.size ≤ maxLen) (hm : m ≤ kc) (hm2 : kc ≤ maxLen) :
    Calls Tryd.prog 48 #[.agg (rcs k n key val kA m kc).toArray] w fun e w' => e = .returned (.bool (oneR k n key val m)) ∧ Below w.heap.size w w' := by
  simp only [rcs, maxLen] at *
  have G := Lib.hid (fun W => greatest_any k W)
  obtain ⟨gk, hgk⟩ : ∃ gk, gok k = gk := ⟨_, rfl⟩
  obtain ⟨gm, hgm⟩ : ∃ gm, gmost k = gm := ⟨_, rfl⟩
  rw [hgk, hgm] at G
  have HO : Hid (oneR k n key val m = if (k == 6) = true then n == 0 && (!key.toList.isEmpty && (decide ((key.size : Int) ≤ 16) && (decide ((val.size : Int) ≤ 16) && (m : Int) == 0)))
  else key.toList.isEmpty && (val.toList.isEmpty && (
    if (k == 1) = true then n == 0 else if (k == 2) = true then n == 0
    else if (k == 3) = true then n == 0 && (m : Int) == 1
    else if (k == 5) = true then n == 0 && (m : Int) == 0
    else gk && (decide (0 ≤ n) && (decide (n ≤ gm) && (m : Int) == 0))))) := Lib.hid (by rw [← hgk, ← hgm]; rfl)
  clear hgk hgm
  generalize oneR k n key val m = oo at *
  go_enter Tryd.func48, Tryd.ntmps48
  go_wp2_with (go_at_call 51; (with_reducible refine (G.out _).mono ?_); rintro e w1 ⟨rfl, rfl⟩)
  all_goals
    go_ret
    refine ⟨?_, (Below.refl _ _).alloc (Nat.le_refl _) _⟩
    have ho := HO.out
    clear HO G
    rw [ho]
    first
      | (simp_all; done)
      | (simp_all; omega)
set_option maxHeartbeats 8000000 in
theorem one_all (k n : Int) (key val : ByteArray) (kA : Option Addr) (m kc : Nat) (w : World) (hk : key.size ≤ maxLen) (hv : val.size ≤ maxLen) (hm : m ≤ kc) (hm2 : kc ≤ maxLen) :
    Calls Tryd.prog 46 #[.agg (rcs k n key val kA m kc).toArray] w fun e w' => e = .returned (.bool (oneR k n key val m)) ∧ Below w.heap.size w w' := by
  simp only [rcs, maxLen] at *
  have G := Lib.hid (fun n a b W => within_any n a b W)
  generalize ho : oneR k n key val m = oo at *
  have HO := Lib.hid ho
  have HK3 : Hid (¬ key.toList = [] → 1 ≤ (key.size : Int)) := Lib.hid (fun h => by
    rw [← List.length_eq_zero_iff, ba_len] at h
    omega)
  have HK : Hid (key.toList = [] ↔ key.size = 0) := Lib.hid (by rw [← List.length_eq_zero_iff, ba_len])
  clear ho
  go_enter Tryd.func46, Tryd.ntmps46
  go_wp2_with (go_at_call 50; (with_reducible refine (G.out _ _ _ _).mono ?_); rintro e w1 ⟨rfl, rfl⟩)
  all_goals
    go_ret
    refine ⟨?_, (Below.refl _ _).alloc (Nat.le_refl _) _⟩
    have ho := HO.out
    have hk2 := HK.out
    have hk3 := HK3.out
    clear HO G HK HK3
    subst ho
    first
      | (simp_all [oneR, gok, gmost]; done)
      | (simp_all [oneR, gok, gmost]; omega)
end Go.Proofs.YtgiahfjndononaaDoor
