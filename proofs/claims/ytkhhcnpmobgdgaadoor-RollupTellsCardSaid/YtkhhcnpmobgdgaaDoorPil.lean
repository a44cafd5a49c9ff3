/- A region that draws its order, whose last operation waits for all others, which only read or make memory: what holds ahead of the last one. -/
import Derived.Test.YtkhhcnpmobgdgaaDoorBs
namespace Go.Proofs.YtkhhcnpmobgdgaaDoor.PI
open Go.RowKit
set_option linter.unusedVariables false
variable {P : Program} {ops : Array Oper} {a0 : Act} {R : World → World → Prop} {G : Nat → World → Prop} {F : Nat → Value → World → Prop} {nd : List (Nat × Nat)} {L : Nat → Bool} {i : Nat} {o : Oper} {a : Act} {w : World}

/-- All that was there stays, until operation n is carried out. -/
def LastI (n : Nat) (W : World) (L : Nat → Bool) (_ : Act) (w : World) : Prop := L n = true ∨ Below W.heap.size W w
def sinkB (ops : Array Oper) (n : Nat) : Bool :=
  (List.range n).all fun i => (List.range (n + 1)).any fun j => decide (i < j) && (((ops[j]?).map fun oj => oj.after.any fun e => Region.binds .any e && e.on == i) == some true)
theorem sink_false {W : World} {n : Nat} (T : ToldG ops a0 R G F nd (LastI n W) L i o a w) (hs : sinkB ops n = true) (hi : i < n) : L n = false := by
  cases hL : L n with
  | false => rfl
  | true =>
    exfalso
    have key : ∀ d k, n - k = d → k ≤ n → L k = true := by
      intro d
      induction d using Nat.strongRecOn with
      | _ d ih =>
        intro k hd hk
        rcases Nat.lt_or_ge k n with h | h
        · have h1 := List.all_eq_true.1 hs k (List.mem_range.2 h)
          obtain ⟨j, hj, h2⟩ := List.any_eq_true.1 h1
          rw [Bool.and_eq_true] at h2
          have h3 := of_decide_eq_true h2.1
          have hj := List.mem_range.1 hj
          exact T.shut_ j k h2.2 (ih (n - j) (by omega) j rfl (by omega))
        · obtain rfl : k = n := by omega
          exact hL
    have := key (n - i) i rfl (by omega)
    rw [T.yetNot] at this
    cases this
theorem last_below {W : World} {n : Nat} (T : ToldG ops a0 R G F nd (LastI n W) L i o a w) (hs : sinkB ops n = true) (hi : i < n) : Below W.heap.size W w := by
  rcases T.inv with h | h
  · rw [sink_false T hs hi] at h; cases h
  · exact h
theorem last_at {W : World} {n : Nat} (T : ToldG ops a0 R G F nd (LastI n W) L n o a w) : Below W.heap.size W w := by
  rcases T.inv with h | h
  · rw [T.yetNot] at h; cases h
  · exact h
theorem LastI.go {W : World} {n k : Nat} {a a' : Act} {w w' : World} (h : Below W.heap.size W w') : LastI n W (upd L k) a' w' := Or.inr h
theorem LastI.done {W : World} {n : Nat} {a' : Act} {w' : World} : LastI n W (upd L n) a' w' := Or.inl (by unfold upd; rw [if_pos rfl])
end Go.Proofs.YtkhhcnpmobgdgaaDoor.PI
