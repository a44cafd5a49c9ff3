/- Policies of one node, of the kinds that a law makes: they are right. -/
import Derived.Test.YtenioeppmgmdiaaBs
import Derived.Test.YtenioeppmgmdiaaProg
import Derived.BigQuiet
import Derived.Deep.QuietTactic
namespace Go.Proofs.Ytenioeppmgmdiaa
open Go.RowKit
set_option linter.unusedVariables false

/-- A rule of one node: its kind, its number. -/
def R1 (k n : Int) : Array Value := #[.int .i64 k, .int .i64 n, .string ⟨#[]⟩, .string ⟨#[]⟩, .slice none 0 0]

theorem greatest4 (w : World) : Calls Try.prog 63 #[.int .i64 4] w fun e w' => e = .returned (.tuple #[.int .i64 1073741824, .bool true]) ∧ w = w' := by
  go_enter Try.func63, Try.ntmps63
  go_wp2
  go_ret2
  exact ⟨rfl, rfl⟩
theorem greatest8 (w : World) : Calls Try.prog 63 #[.int .i64 8] w fun e w' => e = .returned (.tuple #[.int .i64 1000, .bool true]) ∧ w = w' := by
  go_enter Try.func63, Try.ntmps63
  go_wp2
  go_ret2
  exact ⟨rfl, rfl⟩
/-- Which of them a law makes. -/
def Made (k n : Int) : Prop := (k = 1 ∧ n = 0) ∨ (k = 4 ∧ 0 ≤ n ∧ n ≤ 1073741824) ∨ (k = 8 ∧ 0 ≤ n ∧ n ≤ 1000)

set_option maxHeartbeats 1000000 in
set_option maxRecDepth 100000 in
theorem rnode_any (k n : Int) (w : World) (h : Made k n) : Calls Try.prog 59 #[.agg (R1 k n)] w fun e w' => e = .returned (.bool true) ∧ Below w.heap.size w w' := by
  unfold R1
  rcases h with ⟨rfl, rfl⟩ | ⟨rfl, h1, h2⟩ | ⟨rfl, h1, h2⟩
  · go_enter Try.func59, Try.ntmps59
    go_wp2_with fail
    go_ret
    exact ⟨rfl, (Below.refl _ _).alloc (Nat.le_refl _) _⟩
  · go_enter Try.func59, Try.ntmps59
    go_wp2_with (go_at_call 63; refine (greatest4 _).mono ?_; rintro e w1 ⟨rfl, rfl⟩)
    go_ret
    exact ⟨rfl, (Below.refl _ _).alloc (Nat.le_refl _) _⟩
  · go_enter Try.func59, Try.ntmps59
    go_wp2_with (go_at_call 63; refine (greatest8 _).mono ?_; rintro e w1 ⟨rfl, rfl⟩)
    go_ret
    exact ⟨rfl, (Below.refl _ _).alloc (Nat.le_refl _) _⟩

set_option maxHeartbeats 1000000 in
set_option maxRecDepth 100000 in
theorem nodes_any (k n : Int) (w : World) (h : Made k n) : Calls Try.prog 48 #[.agg (R1 k n), .int .i64 1, .int .i64 20] w fun e w' => e = .returned (.tuple #[.int .i64 1, .bool true]) ∧ Below w.heap.size w w' := by
  have N := fun W => Lib.hid (rnode_any k n W h)
  clear h
  unfold R1 at N ⊢
  go_enter Try.func48, Try.ntmps48
  go_wp2_with (go_at_call 59; (with_reducible refine (N _).out.mono ?_); rintro e w1 ⟨rfl, hb1⟩; obtain ⟨hc, hf⟩ := bcell hb1)
  go_loop [8, 27] (fun x i => x = .int .i64 1 ∧ i = .int .i64 0) (fun _ _ => 0)
  case atStart => exact ⟨rfl, rfl⟩
  case round =>
    obtain ⟨rfl, rfl⟩ := hrel
    go_wp2_with fail
    go_ret2
    exact ⟨rfl, ((Below.refl _ _).alloc (Nat.le_refl _) _).trans (hb1.mono (by simp))⟩

set_option maxHeartbeats 1000000 in
theorem right_any (k n : Int) (w : World) (h : Made k n) : Calls Try.prog 33 #[.agg (R1 k n)] w fun e w' => e = .returned (.bool true) ∧ Below w.heap.size w w' := by
  have N := fun W => Lib.hid (nodes_any k n W h)
  clear h
  unfold R1 at N ⊢
  go_enter Try.func33, Try.ntmps33
  go_wp2_with (go_at_call 48; (with_reducible refine (N _).out.mono ?_); rintro e w1 ⟨rfl, hb1⟩)
  go_ret
  exact ⟨rfl, ((Below.refl _ _).alloc (Nat.le_refl _) _).trans (hb1.mono (by simp))⟩
end Go.Proofs.Ytenioeppmgmdiaa
