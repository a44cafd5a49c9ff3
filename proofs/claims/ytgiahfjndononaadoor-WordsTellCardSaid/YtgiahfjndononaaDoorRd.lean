/- A reader of bytes: its methods. -/
import Derived.Test.YtgiahfjndononaaDoorGtx
import Derived.Test.YtgiahfjndononaaDoorPut
import Derived.Test.YtgiahfjndononaaDoorOt
import Derived.LoopTactic
import Derived.BigQuiet
namespace Go.Proofs.YtgiahfjndononaaDoor
open Go.RowKit
set_option linter.unusedVariables false
set_option maxRecDepth 100000

namespace Rm
/-- What a reader has left, and whether it is bad. -/
abbrev R := List UInt8 × Bool
def fail : R := ([], true)
def wide (r : R) : Nat × R := if (Mi.get r.1).2.2 then ((Mi.get r.1).1, (r.1.drop (Mi.get r.1).2.1, r.2)) else (0, fail)
def text (r : R) : List UInt8 × R := if (Mi.gettext r.1).2.2 then ((Mi.gettext r.1).1, (r.1.drop (Mi.gettext r.1).2.1, r.2)) else ([], fail)
def num (r : R) : Nat × R := if 9223372036854775807 < (wide r).1 then (0, fail) else wide r
def flag (r : R) : Bool × R := (decide ((num r).1 = 1), if 1 < (num r).1 then fail else (num r).2)
end Rm

theorem grown_set (w : World) (g i : Nat) (v : Value) : w.grownBy (w.setCell ⟨g, i, none⟩ v) (some g) := ⟨rfl, rfl, rfl, by simp, fun k _ hk => Below.heap_setCell w ⟨g, i, none⟩ v k (fun e => hk (by rw [e]))⟩
theorem grown_trans {w w1 w2 : World} {r : Option Nat} (h : w.grownBy w1 r) (k : w1.grownBy w2 r) : w.grownBy w2 r := ⟨k.os.trans h.os, k.tape.trans h.tape, k.output.trans h.output, Nat.le_trans h.size k.size, fun i hi hne => (k.block i (Nat.lt_of_lt_of_le hi h.size) hne).trans (h.block i hi hne)⟩
theorem grown_refl (w : World) (r : Option Nat) : w.grownBy w r := ⟨rfl, rfl, rfl, Nat.le_refl _, fun _ _ _ => rfl⟩
theorem Rd.grown {w w' : World} {B g : Nat} {A : Option Addr} {xs : List Value} (h : Rd w B A xs) (hg : w.grownBy w' (some g)) (hB : B ≤ g) (hz : B ≤ w.heap.size) : Rd w' B A xs :=
  h.keep fun p hp => World.cell?_of_block (hg.block p.block (by omega) (fun e => by injection e with e; omega))
theorem gettext_len (l : List UInt8) : (Mi.gettext l).2.1 ≤ l.length := by
  unfold Mi.gettext
  have := Mi.get_len l
  (try simp only)
  split
  · rename_i h
    (try simp only)
    omega
  · exact Nat.zero_le _

theorem wide_lt (r : Rm.R) : (Rm.wide r).1 < 18446744073709551616 := by
  unfold Rm.wide
  have := Mi.get_lt r.1
  split
  · exact this
  · omega
theorem num_lt (r : Rm.R) : (Rm.num r).1 ≤ 9223372036854775807 := by
  unfold Rm.num
  split
  · exact Nat.zero_le _
  · omega
end Go.Proofs.YtgiahfjndononaaDoor
