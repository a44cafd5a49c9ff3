/- Structs that came in as arguments: counters and spans, opened. -/
import Derived.Test.YtkmcdeejkcncpaaDoorAdd8
import Derived.Test.YtkmcdeejkcncpaaDoorRow
import Derived.Lib.SmallJoins
import Derived.Deep.Slices
namespace Go.Proofs.YtkmcdeejkcncpaaDoor
open Go.ChangeShapes Go.WideShapes Go.RowKit Go.Joins Go.Deep
set_option linter.unusedVariables false
section
variable {H : Type} {enc : TypeId × Value → H}
theorem mapM_each {α β : Type} {f : α → Option β} : ∀ {l : List α} {r : List β}, l.mapM f = some r → ∀ x ∈ l, ∃ y, f x = some y
  | [], _, _, x, hx => by cases hx
  | a :: l, r, h, x, hx => by
    rw [List.mapM_cons] at h
    simp only [bind, Option.bind_eq_some_iff, pure, Option.some.injEq] at h
    obtain ⟨y, hy, ys, hys, _⟩ := h
    rcases List.mem_cons.mp hx with rfl | hx
    · exact ⟨y, hy⟩
    · exact mapM_each hys x hx
section
variable {P : Program} {w : World} {base : Nat} {sp : Nat → Bool} {held : Bool} {n : Nat} {cs : List Value} {x : DataW H × List MemPlace} {t : TypeId}
theorem trod_fields {fs : Array Field} (ht : P.underlying t = some (.struct fs)) (h : DataW.trod enc P w base sp held n t cs = some x) :
    cs.length = P.cellsOf t ∧ ∃ m, ∀ f ∈ fs.toList, ∃ y, DataW.trod enc P w base sp held m f.type ((cs.drop f.offset).take (P.cellsOf f.type)) = some y := by
  cases n with
  | zero => simp [DataW.trod] at h
  | succ m =>
    rw [DataW.trod_step] at h
    unfold DataW.trodStep at h
    simp only [ht] at h
    split at h
    · rename_i hl
      simp only [Option.map_eq_some_iff] at h
      obtain ⟨ys, hy, _⟩ := h
      exact ⟨hl, m, mapM_each hy⟩
    · cases h
theorem trod_items {k : Nat} {e : TypeId} (ht : P.underlying t = some (.array k e)) (h : DataW.trod enc P w base sp held n t cs = some x) :
    cs.length = P.cellsOf t ∧ ∃ m, ∀ i, i < k → ∃ y, DataW.trod enc P w base sp held m e ((cs.drop (i * P.cellsOf e)).take (P.cellsOf e)) = some y := by
  cases n with
  | zero => simp [DataW.trod] at h
  | succ m =>
    rw [DataW.trod_step] at h
    unfold DataW.trodStep at h
    simp only [ht] at h
    split at h
    · rename_i hl
      simp only [Option.map_eq_some_iff] at h
      obtain ⟨ys, hy, _⟩ := h
      exact ⟨hl, m, fun i hi => mapM_each hy i (List.mem_range.mpr hi)⟩
    · cases h
end
section
variable {w : World} {base : Nat} {sp : Nat → Bool} {held : Bool} {n : Nat} {cs : List Value} {x : DataW H × List MemPlace}
theorem cellsC : Tryd.prog.cellsOf 24 = 10 := by kernel_rfl
theorem cellsA8 : Tryd.prog.cellsOf 22 = 8 := by kernel_rfl
theorem cellsI : Tryd.prog.cellsOf 3 = 1 := by kernel_rfl
theorem cellsS : Tryd.prog.cellsOf 30 = 10 := by kernel_rfl
theorem cellsTr : Tryd.prog.cellsOf 27 = 2 := by kernel_rfl
theorem cellsU : Tryd.prog.cellsOf 25 = 1 := by kernel_rfl
theorem cellsB : Tryd.prog.cellsOf 4 = 1 := by kernel_rfl
theorem cellsSt : Tryd.prog.cellsOf 9 = 1 := by kernel_rfl
theorem cellsAt : Tryd.prog.cellsOf 28 = 1 := by kernel_rfl
theorem read_i (c : Value) (h : DataW.trod enc Tryd.prog w base sp held n 3 [c] = some x) : ∃ a : Int, c = .int .i64 a ∧ -9223372036854775808 ≤ a ∧ a ≤ 9223372036854775807 := by
  obtain ⟨a, ha, _, hw⟩ := DataW.trod_int Tryd.underlying3 h
  simp at ha
  have := bounds_i64 hw
  exact ⟨a, ha, this.1, this.2⟩
theorem read_array8 (h : DataW.trod enc Tryd.prog w base sp held n 22 cs = some x) : ∃ l : List Int, l.length = 8 ∧ cs = l.map (Value.int .i64) ∧ ∀ a ∈ l, -9223372036854775808 ≤ a ∧ a ≤ 9223372036854775807 := by
  obtain ⟨hl, m, hi⟩ := trod_items Tryd.underlying22 h
  rw [cellsA8] at hl
  simp only [cellsI] at hi
  match cs, hl with
  | [c0, c1, c2, c3, c4, c5, c6, c7], _ =>
    obtain ⟨_, g0⟩ := hi 0 (by decide)
    obtain ⟨_, g1⟩ := hi 1 (by decide)
    obtain ⟨_, g2⟩ := hi 2 (by decide)
    obtain ⟨_, g3⟩ := hi 3 (by decide)
    obtain ⟨_, g4⟩ := hi 4 (by decide)
    obtain ⟨_, g5⟩ := hi 5 (by decide)
    obtain ⟨_, g6⟩ := hi 6 (by decide)
    obtain ⟨_, g7⟩ := hi 7 (by decide)
    obtain ⟨a0, rfl, b0⟩ := read_i c0 g0
    obtain ⟨a1, rfl, b1⟩ := read_i c1 g1
    obtain ⟨a2, rfl, b2⟩ := read_i c2 g2
    obtain ⟨a3, rfl, b3⟩ := read_i c3 g3
    obtain ⟨a4, rfl, b4⟩ := read_i c4 g4
    obtain ⟨a5, rfl, b5⟩ := read_i c5 g5
    obtain ⟨a6, rfl, b6⟩ := read_i c6 g6
    obtain ⟨a7, rfl, b7⟩ := read_i c7 g7
    refine ⟨[a0, a1, a2, a3, a4, a5, a6, a7], rfl, rfl, fun a ha => ?_⟩
    simp only [List.mem_cons, List.not_mem_nil, or_false] at ha
    rcases ha with rfl | rfl | rfl | rfl | rfl | rfl | rfl | rfl <;> assumption
theorem read_counter (h : DataW.trod enc Tryd.prog w base sp held n 24 cs = some x) : ∃ l : List Int, okC l ∧ cs = (Cv l).toList := by
  obtain ⟨hl, m, hf⟩ := trod_fields Tryd.underlying24 h
  rw [cellsC] at hl
  match cs, hl with
  | [c0, c1, c2, c3, c4, c5, c6, c7, c8, c9], _ =>
    obtain ⟨_, g0⟩ := hf _ (List.Mem.head _)
    obtain ⟨_, g1⟩ := hf _ (List.Mem.tail _ (List.Mem.head _))
    obtain ⟨_, g2⟩ := hf _ (List.Mem.tail _ (List.Mem.tail _ (List.Mem.head _)))
    simp only [cellsI, cellsA8] at g0 g1 g2
    obtain ⟨a0, rfl, b0⟩ := read_i c0 g0
    obtain ⟨a1, rfl, b1⟩ := read_i c1 g1
    obtain ⟨l, hl8, he, hb⟩ := read_array8 g2
    match l, hl8 with
    | [a2, a3, a4, a5, a6, a7, a8, a9], _ =>
      simp at he
      obtain ⟨rfl, rfl, rfl, rfl, rfl, rfl, rfl, rfl⟩ := he
      refine ⟨[a0, a1, a2, a3, a4, a5, a6, a7, a8, a9], fun i => ?_, rfl⟩
      rcases Nat.lt_or_ge i 10 with hi | hi
      · have hm : ([a0, a1, a2, a3, a4, a5, a6, a7, a8, a9] : List Int).getD i 0 ∈ ([a0, a1, a2, a3, a4, a5, a6, a7, a8, a9] : List Int) := by
          rw [List.getD_eq_getElem?_getD, List.getElem?_eq_getElem (by simpa using hi)]
          exact List.getElem_mem _
        generalize ([a0, a1, a2, a3, a4, a5, a6, a7, a8, a9] : List Int).getD i 0 = v at *
        simp only [List.mem_cons, List.not_mem_nil, or_false] at hm hb
        rcases hm with rfl | rfl | hm
        · exact b0
        · exact b1
        · exact hb v hm
      · rw [List.getD_eq_getElem?_getD, List.getElem?_eq_none (by simpa using hi)]
        simp
theorem open_counter {W : World} {v : Value} {d : DataW H} {p : List MemPlace} {r : Reach} {b0 : Nat}
    (hv : Value.okWide Tryd.prog W r b0 24 v) (h : DataW.Trod enc Tryd.prog W base (fun _ => true) true 24 v d p) : ∃ l : List Int, okC l ∧ v = .agg (Cv l) := by
  obtain ⟨cs, rfl, hsz⟩ := okWide_struct Tryd.underlying24 hv
  obtain ⟨fuel, hf⟩ := h
  obtain ⟨l, hl, he⟩ := read_counter (cs := cs.toList) (by simpa [Value.cells] using hf)
  exact ⟨l, hl, by congr 1; exact Array.toList_inj.mp he⟩
theorem read_u (c : Value) (h : DataW.trod enc Tryd.prog w base sp held n 25 [c] = some x) : ∃ a : Int, c = .int .u64 a ∧ 0 ≤ a ∧ a ≤ 18446744073709551615 := by
  obtain ⟨a, ha, _, hw⟩ := DataW.trod_int Tryd.underlying25 h
  simp at ha
  have := bounds_u64 hw
  exact ⟨a, ha, this.1, by have := this.2; omega⟩
/-- A span's ten cells. -/
def Sv (th tl id pa : Int) (sv op : ByteArray) (st d : Int) (e : Bool) (aA : Option Addr) (an ac : Nat) : Array Value := #[.int .u64 th, .int .u64 tl, .int .u64 id, .int .u64 pa, .string sv, .string op, .int .i64 st, .int .i64 d, .bool e, .slice aA an ac]
theorem read_span (h : DataW.trod enc Tryd.prog w base sp held n 30 cs = some x) : ∃ th tl id pa sv op st d e aA an ac, cs = (Sv th tl id pa sv op st d e aA an ac).toList ∧ (-9223372036854775808 ≤ d ∧ d ≤ 9223372036854775807) := by
  obtain ⟨hl, m, hf⟩ := trod_fields Tryd.underlying30 h
  rw [cellsS] at hl
  match cs, hl with
  | [c0, c1, c2, c3, c4, c5, c6, c7, c8, c9], _ =>
    obtain ⟨_, g0⟩ := hf _ (List.Mem.head _)
    obtain ⟨_, g1⟩ := hf _ (List.Mem.tail _ (List.Mem.head _))
    obtain ⟨_, g2⟩ := hf _ (List.Mem.tail _ (List.Mem.tail _ (List.Mem.head _)))
    obtain ⟨_, g3⟩ := hf _ (List.Mem.tail _ (List.Mem.tail _ (List.Mem.tail _ (List.Mem.head _))))
    obtain ⟨_, g4⟩ := hf _ (List.Mem.tail _ (List.Mem.tail _ (List.Mem.tail _ (List.Mem.tail _ (List.Mem.head _)))))
    obtain ⟨_, g5⟩ := hf _ (List.Mem.tail _ (List.Mem.tail _ (List.Mem.tail _ (List.Mem.tail _ (List.Mem.tail _ (List.Mem.head _))))))
    obtain ⟨_, g6⟩ := hf _ (List.Mem.tail _ (List.Mem.tail _ (List.Mem.tail _ (List.Mem.tail _ (List.Mem.tail _ (List.Mem.tail _ (List.Mem.head _)))))))
    obtain ⟨_, g7⟩ := hf _ (List.Mem.tail _ (List.Mem.tail _ (List.Mem.tail _ (List.Mem.tail _ (List.Mem.tail _ (List.Mem.tail _ (List.Mem.tail _ (List.Mem.head _))))))))
    obtain ⟨_, g8⟩ := hf _ (List.Mem.tail _ (List.Mem.tail _ (List.Mem.tail _ (List.Mem.tail _ (List.Mem.tail _ (List.Mem.tail _ (List.Mem.tail _ (List.Mem.tail _ (List.Mem.head _)))))))))
    simp only [cellsI, cellsU, cellsTr, cellsB, cellsSt, cellsAt] at g0 g1 g2 g3 g4 g5 g6 g7 g8
    obtain ⟨_, m2, hf2⟩ := trod_fields Tryd.underlying27 g0
    obtain ⟨_, k0⟩ := hf2 _ (List.Mem.head _)
    obtain ⟨_, k1⟩ := hf2 _ (List.Mem.tail _ (List.Mem.head _))
    simp only [cellsU] at k0 k1
    obtain ⟨a0, rfl, _⟩ := read_u c0 k0
    obtain ⟨a1, rfl, _⟩ := read_u c1 k1
    obtain ⟨a2, rfl, _⟩ := read_u c2 g1
    obtain ⟨a3, rfl, _⟩ := read_u c3 g2
    obtain ⟨a4, e4, _⟩ := DataW.trod_string Tryd.underlying9 g3
    obtain ⟨a5, e5, _⟩ := DataW.trod_string Tryd.underlying9 g4
    obtain ⟨a6, rfl, _⟩ := read_i c6 g5
    obtain ⟨a7, rfl, b7⟩ := read_i c7 g6
    obtain ⟨a8, e8, _⟩ := DataW.trod_bool Tryd.underlying4 g7
    have e9 : ∃ aA an ac, c9 = Value.slice aA an ac := by
      rcases open_slice Tryd.underlying28 g8 with ⟨hcs, _⟩ | ⟨x, len, cap, m, n, D, Pl, hcs, _⟩
      · simp at hcs; exact ⟨_, _, _, hcs⟩
      · simp at hcs; exact ⟨_, _, _, hcs⟩
    obtain ⟨aA, an, ac, rfl⟩ := e9
    simp at e4 e5 e8
    subst e4 e5 e8
    exact ⟨a0, a1, a2, a3, a4, a5, a6, a7, a8, aA, an, ac, rfl, b7⟩
theorem open_span {W : World} {v : Value} {d : DataW H} {p : List MemPlace} {r : Reach} {b0 : Nat}
    (hv : Value.okWide Tryd.prog W r b0 30 v) (h : DataW.Trod enc Tryd.prog W base (fun _ => true) true 30 v d p) : ∃ th tl id pa sv op st d e aA an ac, v = .agg (Sv th tl id pa sv op st d e aA an ac) ∧ (-9223372036854775808 ≤ d ∧ d ≤ 9223372036854775807) := by
  obtain ⟨cs, rfl, hsz⟩ := okWide_struct Tryd.underlying30 hv
  obtain ⟨fuel, hf⟩ := h
  obtain ⟨th, tl, id, pa, sv, op, st, d, e, aA, an, ac, he, hd⟩ := read_span (cs := cs.toList) (by simpa [Value.cells] using hf)
  exact ⟨th, tl, id, pa, sv, op, st, d, e, aA, an, ac, by congr 1; exact Array.toList_inj.mp he, hd⟩
end
end
end Go.Proofs.YtkmcdeejkcncpaaDoor
