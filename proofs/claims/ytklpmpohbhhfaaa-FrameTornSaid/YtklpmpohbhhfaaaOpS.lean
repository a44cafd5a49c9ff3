/- Slices of slices of bytes that came in as arguments: opened. -/
import Derived.Test.YtklpmpohbhhfaaaRow
import Derived.Test.YtklpmpohbhhfaaaSm
import Derived.Lib.SmallJoins
import Derived.Deep.Slices
namespace Go.Proofs.Ytklpmpohbhhfaaa
open Go.ChangeShapes Go.WideShapes Go.RowKit Go.Joins Go.Deep
set_option linter.unusedVariables false
section
variable {H : Type} {enc : TypeId × Value → H}

/-- One of them, as cells. -/
theorem cells_bytes {W : World} {base n : Nat} {cs : List Value} {d : DataW H} {p : List MemPlace} {held : Bool}
    (hf : DataW.trod enc Try.prog W base (fun _ => true) held n 22 cs = some (d, p)) (hlt : ∀ x ∈ p, x.block < W.heap.size) :
    ∃ (A : Option Addr) (l : List UInt8) (c : Nat), cs = [.slice A l.length c] ∧ Rd W W.heap.size A (l.map B8) ∧ l.length ≤ c ∧ c ≤ maxLen := by
  rcases open_ints Try.underlying22 Try.underlying5 (by kernel_rfl) hf with ⟨hcs, _⟩ | ⟨x, len0, cap0, zs, hcs, _, hl, hm, hz, hx, hcell, hwz⟩
  · exact ⟨none, [], 0, hcs, Rd.nil, Nat.le_refl _, by simp [maxLen]⟩
  · simp only [if_true] at hz
    have hlen : (zs.take len0).length = len0 := by rw [List.length_take]; omega
    obtain ⟨l, e1, e2⟩ := bytes_of_ints (zs.take len0) (fun n hn => hwz n (List.mem_of_mem_take hn))
    refine ⟨some x, l, cap0, by rw [hcs, e1, hlen], ?_, by omega, hm⟩
    rw [← e2]
    intro hn
    have hp : x.block < W.heap.size := by
      have : MemPlace.cell x.block x.off ∈ p := by
        simp only [Prod.mk.injEq] at hx
        rw [hx.2]
        have h0 : 0 < zs.length := by simp at hn; omega
        simp only [MemPlace.row, List.mem_map, List.mem_range]
        exact ⟨0, h0, by simp⟩
      exact hlt _ this
    refine ⟨x, rfl, hp, fun j u hu => ?_⟩
    have hj : j < (zs.take len0).length := by
      rcases Nat.lt_or_ge j (zs.take len0).length with h1 | h1
      · exact h1
      · rw [List.getElem?_eq_none (by simpa using h1)] at hu; cases hu
    rw [hlen] at hj
    rw [hcell j (by omega)]
    have hjz : j < zs.length := by omega
    rw [List.getElem?_map, List.getElem?_take, if_pos hj, List.getElem?_eq_getElem hjz] at hu
    simp at hu
    subst hu
    simp [List.getD, hjz]

theorem cellsS : Try.prog.cellsOf 22 = 1 := by kernel_rfl
theorem open_lists {W : World} {base : Nat} {v : Value} {d : DataW H} {p : List MemPlace} {r : Reach} {b0 : Nat}
    (hv : Value.okWide Try.prog W r b0 24 v) (h : DataW.Trod enc Try.prog W base (fun _ => true) true 24 v d p) (hlt : ∀ x ∈ p, x.block < W.heap.size) :
    ∃ (A : Option Addr) (ls : List (List UInt8)) (n c : Nat), v = .slice A n c ∧ n = ls.length ∧ Rds W W.heap.size A ls ∧ n ≤ c ∧ c ≤ maxLen := by
  obtain ⟨a0, len0, cap0, rfl⟩ := okWide_slice Try.underlying24 hv
  obtain ⟨fuel, hf⟩ := h
  rcases open_slice Try.underlying24 hf with ⟨hcs, _⟩ | ⟨x, len, cap, m, n, D, Pl, hcs, _, hl, hm, hmm, hx, hi⟩
  · simp [Value.cells] at hcs
    obtain ⟨rfl, rfl, rfl⟩ := hcs
    exact ⟨none, [], 0, 0, rfl, rfl, ⟨[], Rd.nil, rfl, by simp⟩, Nat.le_refl _, by simp [maxLen]⟩
  · simp [Value.cells] at hcs
    obtain ⟨rfl, rfl, rfl⟩ := hcs
    simp only [if_true] at hmm
    have hpl : ∀ i, i < m → ∀ y ∈ Pl i, y.block < W.heap.size := fun i him y hy => by
      apply hlt
      simp only [Prod.mk.injEq] at hx
      rw [hx.2]
      apply List.mem_append_right
      rw [List.mem_flatMap]
      exact ⟨i, List.mem_range.2 him, hy⟩
    have hex : ∀ i : Nat, ∃ z : Option Addr × List UInt8 × Nat, i < m → W.cell? (x.add i) = some (.slice z.1 z.2.1.length z.2.2) ∧ Rd W W.heap.size z.1 (z.2.1.map B8) ∧ z.2.1.length ≤ z.2.2 ∧ z.2.2 ≤ maxLen := fun i => by
      by_cases him : i < m
      · obtain ⟨cs', hc, ht⟩ := hi i him
        rw [cellsS, Nat.mul_one] at hc
        obtain ⟨A', l, c', rfl, h1, h2, h3⟩ := cells_bytes ht (hpl i him)
        obtain ⟨_, _, hat⟩ := World.cells?_some hc
        have := hat 0 (by omega)
        rw [Go.Deep.add_add, Nat.add_zero] at this
        exact ⟨(A', l, c'), fun _ => ⟨this, h1, h2, h3⟩⟩
      · exact ⟨(none, [], 0), fun h => absurd h him⟩
    obtain ⟨f, hf2⟩ := Classical.axiomOfChoice hex
    refine ⟨some x, (List.range len0).map (fun i => (f i).2.1), len0, cap0, rfl, by simp, ⟨(List.range len0).map (fun i => .slice (f i).1 (f i).2.1.length (f i).2.2), fun hn => ?_, by simp, fun i l hl => ?_⟩, hl, hm⟩
    · have hp : x.block < W.heap.size := by
        have : MemPlace.cell x.block x.off ∈ p := by
          simp only [Prod.mk.injEq] at hx
          rw [hx.2, cellsS]
          apply List.mem_append_left
          simp only [MemPlace.row, List.mem_map, List.mem_range]
          exact ⟨0, by simp at hn; omega, by simp⟩
        exact hlt _ this
      refine ⟨x, rfl, hp, fun j u hu => ?_⟩
      rw [List.getElem?_map] at hu
      have hj : j < len0 := by
        rcases Nat.lt_or_ge j len0 with h | h
        · exact h
        · rw [List.getElem?_eq_none (by simpa using h)] at hu; cases hu
      rw [List.getElem?_range hj] at hu
      simp at hu
      subst hu
      exact (hf2 j (by omega)).1
    · have hi2 : i < len0 := by
        rcases Nat.lt_or_ge i len0 with h | h
        · exact h
        · rw [List.getElem?_eq_none (by simpa using h)] at hl; cases hl
      rw [List.getElem?_map, List.getElem?_range hi2] at hl
      simp at hl
      subst hl
      obtain ⟨_, b, c, d⟩ := hf2 i (by omega)
      exact ⟨(f i).1, (f i).2.2, by rw [List.getElem?_map, List.getElem?_range hi2]; rfl, c, d, b⟩
end
end Go.Proofs.Ytklpmpohbhhfaaa
