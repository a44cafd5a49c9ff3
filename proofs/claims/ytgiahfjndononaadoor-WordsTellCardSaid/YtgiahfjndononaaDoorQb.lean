/- A region that draws its order, whose operations only read, and whose callees may lay memory of their own: walked once. -/
import Derived.Test.YtgiahfjndononaaDoorBs
import Derived.Deep.QuietTactic
import Derived.BigQuiet
namespace Go.Proofs.YtgiahfjndononaaDoor
open Go.RowKit
set_option linter.unusedVariables false

/-- A world in which all that lay in w lies unturned. -/
structure NowB (w : World) where
  W : World
  h : Below w.heap.size w W
instance (w : World) : Inhabited (NowB w) := ⟨⟨w, Below.refl _ _⟩⟩
theorem NowB.cell {w : World} (p : NowB w) {a : Addr} {v : Value} (h : w.cell? a = some v) : p.W.cell? a = some v := by
  have hl : a.block < w.heap.size := by
    unfold World.cell? at h
    rcases Nat.lt_or_ge a.block w.heap.size with h1 | h1
    · exact h1
    · rw [Array.getElem?_eq_none h1] at h; cases h
  exact (p.h.cell hl).trans h
theorem NowB.rd {w : World} (p : NowB w) {B : Nat} {A : Option Addr} {xs : List Value} (hB : B ≤ w.heap.size) (h : Rd w B A xs) : Rd p.W B A xs := h.below (p.h.mono hB)
theorem wp_region_quiet_below {P : Program} {id : Nat} {Q : Exit → Act → World → Prop} {a : Act} {w : World} {l : List Oper} (hm : P.follows .mixedOrders = true) (hB : Region.lexB .any l.toArray = true)
    (h : wpQuiet P l.toArray (fun w' => ∃ p : NowB w, w' = p.W) (fun a' => ∀ w', (∃ p : NowB w, w' = p.W) → Q .normal a' w') l a) : (Code.region id l.toArray true).wp P Q a w :=
  wp_region_quiet (C := fun w' => ∃ p : NowB w, w' = p.W) hm hB ⟨⟨w.drew, ⟨rfl, rfl, rfl, Nat.le_refl _, fun _ _ => rfl⟩⟩, rfl⟩ (by simpa using h)
/-- A callee's contract, met in such a world. -/
theorem Calls.now_of {P : Program} {f : FuncId} {args : Array Value} {w : World} {p : NowB w} {v : Value}
    (h : Calls P f args p.W fun e w' => e = .returned v ∧ Below p.W.heap.size p.W w') : Calls P f args p.W fun e w'' => e = .returned v ∧ ∃ q : NowB w, w'' = q.W :=
  h.mono fun _ w1 ⟨he, hb⟩ => ⟨he, ⟨⟨w1, p.h.trans (hb.mono p.h.size)⟩, rfl⟩⟩
theorem Calls.now_same {P : Program} {f : FuncId} {args : Array Value} {w : World} {p : NowB w} {v : Value}
    (h : Calls P f args p.W fun e w' => e = .returned v ∧ w' = p.W) : Calls P f args p.W fun e w'' => e = .returned v ∧ ∃ q : NowB w, w'' = q.W :=
  h.mono fun _ w1 ⟨he, hb⟩ => ⟨he, p, hb⟩
theorem Calls.now_same' {P : Program} {f : FuncId} {args : Array Value} {w : World} {p : NowB w} {v : Value}
    (h : Calls P f args p.W fun e w' => e = .returned v ∧ p.W = w') : Calls P f args p.W fun e w'' => e = .returned v ∧ ∃ q : NowB w, w'' = q.W :=
  h.mono fun _ w1 ⟨he, hb⟩ => ⟨he, p, hb.symm⟩
end Go.Proofs.YtgiahfjndononaaDoor
