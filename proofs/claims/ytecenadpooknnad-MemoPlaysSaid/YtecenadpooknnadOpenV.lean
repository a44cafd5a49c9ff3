/- Verdicts and traces that came in as arguments: opened. -/
import Derived.Test.YtecenadpooknnadFind
import Derived.Lib.SmallJoins
import Derived.Deep.Slices
namespace Go.Proofs.Ytecenadpooknnad
open Go.ChangeShapes Go.WideShapes Go.RowKit Go.Joins Go.Deep
section
variable {H : Type} {enc : TypeId × Value → H}
theorem cellsT : Try.prog.cellsOf 27 = 2 := by kernel_rfl
theorem cellsV : Try.prog.cellsOf 46 = 3 := by kernel_rfl
theorem cellsU : Try.prog.cellsOf 25 = 1 := by kernel_rfl
theorem cellsB : Try.prog.cellsOf 4 = 1 := by kernel_rfl
theorem read_u64 {w : World} {base : Nat} {sp : Nat → Bool} {held : Bool} {n : Nat} {cs : List Value} {x : DataW H × List MemPlace} (h : DataW.trod enc Try.prog w base sp held n 25 cs = some x) : ∃ a : Nat, cs = [.int .u64 a] := by
  obtain ⟨a, rfl, _, hw⟩ := DataW.trod_int Try.underlying25 h
  obtain ⟨b, rfl⟩ := Int.eq_ofNat_of_zero_le (bounds_u64 hw).1
  exact ⟨b, rfl⟩
theorem read_trace {w : World} {base : Nat} {sp : Nat → Bool} {held : Bool} {n : Nat} {cs : List Value} {x : DataW H × List MemPlace} (h : DataW.trod enc Try.prog w base sp held n 27 cs = some x) : ∃ a b : Nat, cs = [.int .u64 a, .int .u64 b] := by
  obtain ⟨y0, y1, m, _, hl, h0, h1⟩ := trod_struct2 Try.underlying27 h
  rw [cellsT] at hl
  match cs, hl with
  | [c0, c1], _ =>
    simp only [cellsU] at h0 h1
    obtain ⟨a, ha⟩ := read_u64 h0
    obtain ⟨b, hb⟩ := read_u64 h1
    simp at ha hb
    exact ⟨a, b, by rw [ha, hb]⟩
theorem read_verdict {w : World} {base : Nat} {sp : Nat → Bool} {held : Bool} {n : Nat} {cs : List Value} {x : DataW H × List MemPlace} (h : DataW.trod enc Try.prog w base sp held n 46 cs = some x) : ∃ o : Vm.V, cs = Vm.enc o := by
  obtain ⟨y0, y1, m, _, hl, h0, h1⟩ := trod_struct2 Try.underlying46 h
  rw [cellsV] at hl
  match cs, hl with
  | [c0, c1, c2], _ =>
    simp only [cellsT, cellsB] at h0 h1
    obtain ⟨a, b, ha⟩ := read_trace h0
    obtain ⟨k, hk, _⟩ := DataW.trod_bool Try.underlying4 h1
    simp at ha hk
    exact ⟨(a, b, k), by rw [ha.1, ha.2, hk]; rfl⟩
theorem open_trace {W : World} {base : Nat} {v : Value} {d : DataW H} {p : List MemPlace} {r : Reach} {b0 : Nat}
    (hv : Value.okWide Try.prog W r b0 27 v) (h : DataW.Trod enc Try.prog W base (fun _ => true) true 27 v d p) : ∃ a b : Nat, v = .agg #[.int .u64 a, .int .u64 b] := by
  obtain ⟨v0, v1, y0, y1, n, rfl, _, _, h0, h1⟩ := open_agg2 Try.underlying27 (by kernel_rfl) cellsT hv h
  obtain ⟨a, ha⟩ := read_u64 h0
  obtain ⟨b, hb⟩ := read_u64 h1
  simp at ha hb
  exact ⟨a, b, by rw [ha, hb]⟩
theorem Vm.encs_get (l : List Vm.V) (j : Nat) (u : Value) (h : (Vm.encs l)[j]? = some u) : ∃ hk : j / 3 < l.length, (Vm.enc l[j / 3])[j % 3]? = some u := by
  have hj : j < (Vm.encs l).length := by
    rcases Nat.lt_or_ge j (Vm.encs l).length with h1 | h1
    · exact h1
    · rw [List.getElem?_eq_none h1] at h; cases h
  rw [Vm.encs_len] at hj
  have hk : j / 3 < l.length := by omega
  refine ⟨hk, ?_⟩
  obtain ⟨e0, e1, e2⟩ := Vm.encs_at l (j / 3) hk
  have hm : j % 3 = 0 ∨ j % 3 = 1 ∨ j % 3 = 2 := by omega
  rcases hm with m | m | m
  · rw [show j / 3 * 3 = j from by omega, h] at e0; rw [m, e0]; rfl
  · rw [show j / 3 * 3 + 1 = j from by omega, h] at e1; rw [m, e1]; rfl
  · rw [show j / 3 * 3 + 2 = j from by omega, h] at e2; rw [m, e2]; rfl
theorem open_verdicts {W : World} {base : Nat} {v : Value} {d : DataW H} {p : List MemPlace} {r : Reach} {b0 : Nat}
    (hv : Value.okWide Try.prog W r b0 43 v) (h : DataW.Trod enc Try.prog W base (fun _ => true) true 43 v d p) (hlt : ∀ x ∈ p, x.block < W.heap.size) :
    ∃ (A : Option Addr) (l : List Vm.V) (n c : Nat), v = .slice A n c ∧ n = l.length ∧ Rd W W.heap.size A (Vm.encs l) ∧ n ≤ c ∧ c ≤ maxLen := by
  obtain ⟨a0, len0, cap0, rfl⟩ := okWide_slice Try.underlying43 hv
  obtain ⟨fuel, hf⟩ := h
  rcases open_slice Try.underlying43 hf with ⟨hcs, _⟩ | ⟨x, len, cap, m, n, D, Pl, hcs, _, hl, hm, hmm, hx, hi⟩
  · simp [Value.cells] at hcs
    obtain ⟨rfl, rfl, rfl⟩ := hcs
    exact ⟨none, [], 0, 0, rfl, rfl, Rd.nil, Nat.le_refl _, by simp [maxLen]⟩
  · simp [Value.cells] at hcs
    obtain ⟨rfl, rfl, rfl⟩ := hcs
    simp only [if_true] at hmm
    have hex : ∀ i : Nat, ∃ o : Vm.V, i < m → W.cells? base (x.add (i * 3)) 3 = some (Vm.enc o) := fun i => by
      by_cases him : i < m
      · obtain ⟨cs', hc, ht⟩ := hi i him
        rw [cellsV] at hc
        obtain ⟨o, rfl⟩ := read_verdict ht
        exact ⟨o, fun _ => hc⟩
      · exact ⟨(0, 0, false), fun h => absurd h him⟩
    obtain ⟨f, hf2⟩ := Classical.axiomOfChoice hex
    refine ⟨some x, (List.range len0).map f, len0, cap0, rfl, by simp, fun hn => ?_, hl, hm⟩
    have hlen : 0 < len0 := by rw [Vm.encs_len] at hn; simp at hn; exact hn
    have hp : x.block < W.heap.size := by
      have : MemPlace.cell x.block x.off ∈ p := by
        simp only [Prod.mk.injEq] at hx
        rw [hx.2, cellsV]
        apply List.mem_append_left
        simp only [MemPlace.row, List.mem_map, List.mem_range]
        exact ⟨0, by omega, by simp⟩
      exact hlt _ this
    refine ⟨x, rfl, hp, fun j u hu => ?_⟩
    obtain ⟨hk, hg⟩ := Vm.encs_get _ _ _ hu
    have hk2 : j / 3 < len0 := by simpa using hk
    rw [List.getElem_map, List.getElem_range] at hg
    obtain ⟨_, _, hat⟩ := World.cells?_some (hf2 (j / 3) (by omega))
    have := hat (j % 3) (by omega)
    rw [hg] at this
    rw [← this, Go.Deep.add_add, show j / 3 * 3 + j % 3 = j from by omega]
end
end Go.Proofs.Ytecenadpooknnad
