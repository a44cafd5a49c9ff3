/- An array of three numbers that came in as an argument, opened. -/
import Derived.Test.YtkhhcnpmobgdgaaDoorSp
import Derived.Test.YtkhhcnpmobgdgaaDoorBs
import Derived.Lib.SmallJoins
import Derived.Deep.Slices
namespace Go.Proofs.YtkhhcnpmobgdgaaDoor
open Go.ChangeShapes Go.WideShapes Go.RowKit Go.Joins Go.Deep
set_option maxRecDepth 100000
set_option linter.unusedVariables false
section
variable {P : Program} {w : World} {base : Nat} {sp : Nat → Bool} {held : Bool} {n : Nat} {cs : List Value} {H : Type} {enc : TypeId × Value → H} {x : DataW H × List MemPlace} {t : TypeId}
theorem trod_itemsy {k : Nat} {e : TypeId} (ht : P.underlying t = some (.array k e)) (h : DataW.trod enc P w base sp held n t cs = some x) :
    cs.length = P.cellsOf t ∧ ∃ m, ∀ i, i < k → ∃ y, DataW.trod enc P w base sp held m e ((cs.drop (i * P.cellsOf e)).take (P.cellsOf e)) = some y := by
  cases n with
  | zero => simp [DataW.trod] at h
  | succ m =>
    rw [DataW.trod_step] at h
    unfold DataW.trodStep at h
    simp only [ht] at h
    split at h
    · rename_i hl
      simp only [Option.map_eq_some_iff] at h
      obtain ⟨ys, hy, _⟩ := h
      exact ⟨hl, m, fun i hi => mapM_each hy i (List.mem_range.mpr hi)⟩
    · cases h
end
section
variable {w : World} {base : Nat} {sp : Nat → Bool} {held : Bool} {n : Nat} {cs : List Value} {H : Type} {enc : TypeId × Value → H} {x : DataW H × List MemPlace}
theorem cellsA3 : Tryd.prog.cellsOf 29 = 3 := by kernel_rfl
theorem okWide_array3 {W : World} {v : Value} {r : Reach} {b0 : Nat} (h : Value.okWide Tryd.prog W r b0 29 v) : ∃ cs : Array Value, v = .agg cs := by
  unfold Value.okWide at h
  rw [Tryd.underlying29] at h
  obtain ⟨cs, rfl, _⟩ := h
  exact ⟨cs, rfl⟩
theorem open_arr3 {W : World} {v : Value} {d : DataW H} {p : List MemPlace} {r : Reach} {b0 : Nat}
    (hv : Value.okWide Tryd.prog W r b0 29 v) (h : DataW.Trod enc Tryd.prog W base (fun _ => true) true 29 v d p) : ∃ a b c : Int, v = .agg #[.int .i64 a, .int .i64 b, .int .i64 c] ∧ (-9223372036854775808 ≤ a ∧ a ≤ 9223372036854775807) ∧ (-9223372036854775808 ≤ b ∧ b ≤ 9223372036854775807) ∧ (-9223372036854775808 ≤ c ∧ c ≤ 9223372036854775807) := by
  obtain ⟨cs, rfl⟩ := okWide_array3 hv
  obtain ⟨fuel, hf⟩ := h
  obtain ⟨hl, m, hg⟩ := trod_itemsy (cs := cs.toList) Tryd.underlying29 (by simpa [Value.cells] using hf)
  rw [cellsA3] at hl
  rw [cellsI] at hg
  obtain ⟨l⟩ := cs
  match l, hl with
  | [c0, c1, c2], _ =>
    obtain ⟨_, g0⟩ := hg 0 (by decide)
    obtain ⟨_, g1⟩ := hg 1 (by decide)
    obtain ⟨_, g2⟩ := hg 2 (by decide)
    simp at g0 g1 g2
    obtain ⟨a0, rfl, b0⟩ := read_i c0 g0
    obtain ⟨a1, rfl, b1⟩ := read_i c1 g1
    obtain ⟨a2, rfl, b2⟩ := read_i c2 g2
    exact ⟨a0, a1, a2, rfl, b0, b1, b2⟩
end
end Go.Proofs.YtkhhcnpmobgdgaaDoor
