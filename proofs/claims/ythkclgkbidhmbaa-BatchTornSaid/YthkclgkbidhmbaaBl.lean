/- BatchLimits: how many spans a batch has, and that one that can't be spoils all. -/
import Derived.Test.YthkclgkbidhmbaaTp
import Derived.Test.YthkclgkbidhmbaaRr
import Derived.Laws.MakeOwn
namespace Go.Proofs.Ythkclgkbidhmbaa
open Go.RowKit
set_option linter.unusedVariables false
set_option maxRecDepth 100000

/-- A row of n spans, of which the first j were stored. -/
def SRow (w : World) (g n j : Nat) (x : Ls) : Prop := ∃ cs : Array Value, w.heap[g]? = some (.cells cs 36) ∧ cs.size = n * 10 ∧ ∀ i, i < j → ∀ q u, x.cells[q]? = some u → cs[i * 10 + q]? = some u
theorem SRow.at_ {w : World} {g n j i : Nat} {x : Ls} (h : SRow w g n j x) (hi : i < n * 10) : (∃ v, w.cell? ⟨g, i, none⟩ = some v) ∧ w.frozen? ⟨g, i, none⟩ = false := by
  obtain ⟨cs, h1, h2, _⟩ := h
  refine ⟨⟨cs[i]'(by omega), ?_⟩, by simp [World.frozen?, h1]⟩
  rw [cell_of_row _ _ i _ _ (0, 0) h1]
  exact Array.getElem?_eq_getElem (by omega)
theorem SRow.keep {w w' : World} {g n j : Nat} {x : Ls} (h : SRow w g n j x) (hb : w'.heap[g]? = w.heap[g]?) : SRow w' g n j x := by
  obtain ⟨cs, h1, h2, h3⟩ := h
  exact ⟨cs, hb.trans h1, h2, h3⟩
theorem set_ne (a : Array Value) (p r : Nat) (v : Value) (h : p ≠ r) : (a.setIfInBounds p v)[r]? = a[r]? := Array.getElem?_setIfInBounds_ne h
theorem set_eq (a : Array Value) (p : Nat) (v : Value) (h : p < a.size) : (a.setIfInBounds p v)[p]? = some v := by
  rw [Array.getElem?_setIfInBounds]
  simp [h]
theorem SRow.store {w : World} {g n j : Nat} {x : Ls} (h : SRow w g n j x) (hj : j < n) (v0 v1 v2 v3 v4 v5 v6 v7 v8 v9 : Value) (hx : x.cells = [v0, v1, v2, v3, v4, v5, v6, v7, v8, v9]) : SRow ((((((((((w.setCell ⟨g, j * 10, none⟩ v0).setCell ⟨g, j * 10 + 1, none⟩ v1).setCell ⟨g, j * 10 + 2, none⟩ v2).setCell ⟨g, j * 10 + 3, none⟩ v3).setCell ⟨g, j * 10 + 4, none⟩ v4).setCell ⟨g, j * 10 + 5, none⟩ v5).setCell ⟨g, j * 10 + 6, none⟩ v6).setCell ⟨g, j * 10 + 7, none⟩ v7).setCell ⟨g, j * 10 + 8, none⟩ v8).setCell ⟨g, j * 10 + 9, none⟩ v9) g n (j + 1) x := by
  obtain ⟨cs, h1, h2, h3⟩ := h
  have e0 := heap_setCell_same w g (j * 10) _ _ v0 h1
  have e1 := heap_setCell_same _ g (j * 10 + 1) _ _ v1 e0
  have e2 := heap_setCell_same _ g (j * 10 + 2) _ _ v2 e1
  have e3 := heap_setCell_same _ g (j * 10 + 3) _ _ v3 e2
  have e4 := heap_setCell_same _ g (j * 10 + 4) _ _ v4 e3
  have e5 := heap_setCell_same _ g (j * 10 + 5) _ _ v5 e4
  have e6 := heap_setCell_same _ g (j * 10 + 6) _ _ v6 e5
  have e7 := heap_setCell_same _ g (j * 10 + 7) _ _ v7 e6
  have e8 := heap_setCell_same _ g (j * 10 + 8) _ _ v8 e7
  have e9 := heap_setCell_same _ g (j * 10 + 9) _ _ v9 e8
  refine ⟨_, e9, by simp [h2], fun i hi q u hu => ?_⟩
  have hu2 := hu
  rw [hx] at hu
  have hq : q < 10 := by
    rcases Nat.lt_or_ge q 10 with h | h
    · exact h
    · rw [List.getElem?_eq_none (by simpa using h)] at hu; cases hu
  rcases Nat.lt_or_ge i j with hij | hij
  · rw [set_ne _ _ _ _ (by omega), set_ne _ _ _ _ (by omega), set_ne _ _ _ _ (by omega), set_ne _ _ _ _ (by omega), set_ne _ _ _ _ (by omega), set_ne _ _ _ _ (by omega), set_ne _ _ _ _ (by omega), set_ne _ _ _ _ (by omega), set_ne _ _ _ _ (by omega), set_ne _ _ _ _ (by omega)]
    exact h3 i hij q u hu2
  · obtain rfl : i = j := by omega
    rcases q with _ | _ | _ | _ | _ | _ | _ | _ | _ | _ | q
    · rw [set_ne _ _ _ _ (by omega), set_ne _ _ _ _ (by omega), set_ne _ _ _ _ (by omega), set_ne _ _ _ _ (by omega), set_ne _ _ _ _ (by omega), set_ne _ _ _ _ (by omega), set_ne _ _ _ _ (by omega), set_ne _ _ _ _ (by omega), set_ne _ _ _ _ (by omega), show i * 10 + 0 = i * 10 from rfl, set_eq _ _ _ (by simp [h2]; omega)]
      simpa using hu
    · rw [set_ne _ _ _ _ (by omega), set_ne _ _ _ _ (by omega), set_ne _ _ _ _ (by omega), set_ne _ _ _ _ (by omega), set_ne _ _ _ _ (by omega), set_ne _ _ _ _ (by omega), set_ne _ _ _ _ (by omega), set_ne _ _ _ _ (by omega), show i * 10 + (0 + 1) = i * 10 + 1 from rfl, set_eq _ _ _ (by simp [h2]; omega)]
      simpa using hu
    · rw [set_ne _ _ _ _ (by omega), set_ne _ _ _ _ (by omega), set_ne _ _ _ _ (by omega), set_ne _ _ _ _ (by omega), set_ne _ _ _ _ (by omega), set_ne _ _ _ _ (by omega), set_ne _ _ _ _ (by omega), show i * 10 + (0 + 1 + 1) = i * 10 + 2 from rfl, set_eq _ _ _ (by simp [h2]; omega)]
      simpa using hu
    · rw [set_ne _ _ _ _ (by omega), set_ne _ _ _ _ (by omega), set_ne _ _ _ _ (by omega), set_ne _ _ _ _ (by omega), set_ne _ _ _ _ (by omega), set_ne _ _ _ _ (by omega), show i * 10 + (0 + 1 + 1 + 1) = i * 10 + 3 from rfl, set_eq _ _ _ (by simp [h2]; omega)]
      simpa using hu
    · rw [set_ne _ _ _ _ (by omega), set_ne _ _ _ _ (by omega), set_ne _ _ _ _ (by omega), set_ne _ _ _ _ (by omega), set_ne _ _ _ _ (by omega), show i * 10 + (0 + 1 + 1 + 1 + 1) = i * 10 + 4 from rfl, set_eq _ _ _ (by simp [h2]; omega)]
      simpa using hu
    · rw [set_ne _ _ _ _ (by omega), set_ne _ _ _ _ (by omega), set_ne _ _ _ _ (by omega), set_ne _ _ _ _ (by omega), show i * 10 + (0 + 1 + 1 + 1 + 1 + 1) = i * 10 + 5 from rfl, set_eq _ _ _ (by simp [h2]; omega)]
      simpa using hu
    · rw [set_ne _ _ _ _ (by omega), set_ne _ _ _ _ (by omega), set_ne _ _ _ _ (by omega), show i * 10 + (0 + 1 + 1 + 1 + 1 + 1 + 1) = i * 10 + 6 from rfl, set_eq _ _ _ (by simp [h2]; omega)]
      simpa using hu
    · rw [set_ne _ _ _ _ (by omega), set_ne _ _ _ _ (by omega), show i * 10 + (0 + 1 + 1 + 1 + 1 + 1 + 1 + 1) = i * 10 + 7 from rfl, set_eq _ _ _ (by simp [h2]; omega)]
      simpa using hu
    · rw [set_ne _ _ _ _ (by omega), show i * 10 + (0 + 1 + 1 + 1 + 1 + 1 + 1 + 1 + 1) = i * 10 + 8 from rfl, set_eq _ _ _ (by simp [h2]; omega)]
      simpa using hu
    · rw [show i * 10 + (0 + 1 + 1 + 1 + 1 + 1 + 1 + 1 + 1 + 1) = i * 10 + 9 from rfl, set_eq _ _ _ (by simp [h2]; omega)]
      simpa using hu
    · omega
theorem add_zero (g m : Nat) : (⟨g, 0, none⟩ : Addr).add m = ⟨g, m, none⟩ := by unfold Addr.add; split <;> simp_all
theorem SRow.rds {w : World} {g n B : Nat} {x : Ls} (h : SRow w g n n x) (hx : RdL w B x) (hB : B ≤ w.heap.size) : RdSps w w.heap.size (some ⟨g, 0, none⟩) (List.replicate n x) := by
  obtain ⟨cs, h1, h2, h3⟩ := h
  refine ⟨rd_rows cells_len (fun i y hy j u hu => ?_), fun y hy => ?_⟩
  · have hin : i < n := by
      rcases Nat.lt_or_ge i n with h | h
      · exact h
      · rw [List.getElem?_eq_none (by simpa using h)] at hy; cases hy
    have hyx : y = x := List.eq_of_mem_replicate (List.mem_of_getElem? hy)
    subst hyx
    rw [add_zero, cell_of_row _ _ _ _ _ (0, 0) h1]
    exact h3 i hin j u hu
  · rw [List.eq_of_mem_replicate hy]
    exact hx.more hB
/-- One of them is spoiled. -/
def spoil (x : Ls) : Ls := ⟨{ x.s with sv := ⟨#[]⟩ }, x.aA, x.ac⟩
def spoiled (n r : Nat) (x : Ls) : List Ls := (List.range n).map fun i => if i = r then spoil x else x
theorem spoil_right (x : Ls) : right (spoil x).s = false := by
  unfold right spoil
  have : nameB ⟨#[]⟩ = false := by decide
  simp only [this, Bool.false_and]
theorem spoiled_right (n r : Nat) (x : Ls) (h : r < n) : rightL (spoiled n r x) = false := by
  unfold rightL
  have : (spoiled n r x).all (fun x => right x.s) = false := by
    rw [List.all_eq_false]
    refine ⟨spoil x, List.mem_map.2 ⟨r, List.mem_range.2 h, by simp⟩, by rw [spoil_right]; simp⟩
  rw [this]
  simp
theorem SRow.spoiled {w : World} {g n B r : Nat} {x : Ls} (h : SRow w g n n x) (hx : RdL w B x) (hB : B ≤ g) (hg : g < w.heap.size) (hr : r < n) : RdSps (w.setCell ⟨g, r * 10 + 4, none⟩ (.string ⟨#[]⟩)) (w.setCell ⟨g, r * 10 + 4, none⟩ (.string ⟨#[]⟩)).heap.size (some ⟨g, 0, none⟩) (Go.Proofs.Ythkclgkbidhmbaa.spoiled n r x) := by
  obtain ⟨cs, h1, h2, h3⟩ := h
  have e0 := heap_setCell_same w g (r * 10 + 4) _ _ (.string ⟨#[]⟩) h1
  have hxk : RdL (w.setCell ⟨g, r * 10 + 4, none⟩ (.string ⟨#[]⟩)) B x := hx.keep (fun p hp => World.cell?_of_block (Below.heap_setCell w _ _ _ (by simp; omega)))
  refine ⟨rd_rows cells_len (fun i y hy j u hu => ?_), fun y hy => ?_⟩
  · unfold Go.Proofs.Ythkclgkbidhmbaa.spoiled at hy
    rw [List.getElem?_map] at hy
    simp only [Option.map_eq_some_iff] at hy
    obtain ⟨i', hi', rfl⟩ := hy
    have hin : i < n := by
      rcases Nat.lt_or_ge i n with h | h
      · exact h
      · rw [List.getElem?_eq_none (by simpa using h)] at hi'; cases hi'
    rw [List.getElem?_range hin] at hi'
    injection hi' with hi'
    subst hi'
    rw [add_zero, cell_of_row _ _ _ _ _ (0, 0) e0]
    have hj : j < 10 := by
      rcases Nat.lt_or_ge j 10 with h | h
      · exact h
      · rw [List.getElem?_eq_none (by rw [cells_len]; exact h)] at hu; cases hu
    by_cases hir : i = r
    · subst hir
      rw [if_pos rfl] at hu
      by_cases hj4 : j = 4
      · subst hj4
        rw [set_eq _ _ _ (by omega)]
        exact hu
      · rw [set_ne _ _ _ _ (by omega)]
        refine h3 i hin j u ?_
        rcases j with _ | _ | _ | _ | _ | _ | _ | _ | _ | _ | j
        all_goals first | exact hu | exact absurd rfl hj4 | omega
    · rw [if_neg hir] at hu
      rw [set_ne _ _ _ _ (by omega)]
      exact h3 i hin j u hu
  · unfold Go.Proofs.Ythkclgkbidhmbaa.spoiled at hy
    obtain ⟨i, hi, rfl⟩ := List.mem_map.1 hy
    by_cases hir : i = r
    · rw [if_pos hir]
      have h := hxk.more (B' := (w.setCell ⟨g, r * 10 + 4, none⟩ (.string ⟨#[]⟩)).heap.size) (by simp; omega)
      exact ⟨h.rd, h.cap, ⟨h.ok.hi, h.ok.lo, h.ok.id, h.ok.pa, Nat.zero_le _, h.ok.op, h.ok.st, h.ok.du, h.ok.ats⟩⟩
    · rw [if_neg hir]
      exact hxk.more (by simp; omega)
set_option maxHeartbeats 16000000 in
theorem limits4_out (x0 x1 x2 x3 : Int) (x4 x5 : ByteArray) (x6 x7 : Int) (x8 : Bool) (ats : List (ByteArray × ByteArray)) (xA : Option Addr) (xc k : Nat) (n at_ : Int) (w : World) (hk : k = ats.length) (hy : RdL w w.heap.size ⟨⟨x0, x1, x2, x3, x4, x5, x6, x7, x8, ats⟩, xA, xc⟩) (h : n < 0 ∨ 60 < n ∨ right ⟨x0, x1, x2, x3, x4, x5, x6, x7, x8, ats⟩ = false ∨ at_ < 0) :
    Calls Try.prog 14 #[.int .i64 n, .agg #[.int .u64 x0, .int .u64 x1, .int .u64 x2, .int .u64 x3, .string x4, .string x5, .int .i64 x6, .int .i64 x7, .bool x8, .slice xA k xc], .int .i64 at_] w fun e w' => e = .returned (.bool true) ∧ Below w.heap.size w w' := by
  have HX0 := Lib.hid (heap_alloc_new w (.cells #[.int .u64 x0, .int .u64 x1, .int .u64 x2, .int .u64 x3, .string x4, .string x5, .int .i64 x6, .int .i64 x7, .bool x8, .slice xA k xc] 36))
  have HB0 := Lib.hid ((Below.refl w.heap.size w).alloc (Nat.le_refl _) (.cells #[.int .u64 x0, .int .u64 x1, .int .u64 x2, .int .u64 x3, .string x4, .string x5, .int .i64 x6, .int .i64 x7, .bool x8, .slice xA k xc] 36))
  have HRI : Hid (∀ W, Below w.heap.size w W → Calls Try.prog 29 #[.agg #[.int .u64 x0, .int .u64 x1, .int .u64 x2, .int .u64 x3, .string x4, .string x5, .int .i64 x6, .int .i64 x7, .bool x8, .slice xA k xc]] W fun e w' => e = .returned (.bool (right ⟨x0, x1, x2, x3, x4, x5, x6, x7, x8, ats⟩)) ∧ Below W.heap.size W w') := Lib.hid (fun W hW => rightspan_lit x0 x1 x2 x3 x4 x5 x6 x7 x8 ats xA xc k w.heap.size W hk (hy.below hW) hW.size)
  have hh : n < 0 ∨ (¬ n < 0 ∧ 60 < n) ∨ ((¬ n < 0 ∧ ¬ 60 < n) ∧ right ⟨x0, x1, x2, x3, x4, x5, x6, x7, x8, ats⟩ = false) ∨ ((¬ n < 0 ∧ ¬ 60 < n) ∧ right ⟨x0, x1, x2, x3, x4, x5, x6, x7, x8, ats⟩ = true ∧ at_ < 0) := by
    by_cases h1 : n < 0
    · exact .inl h1
    · by_cases h2 : 60 < n
      · exact .inr (.inl ⟨h1, h2⟩)
      · cases hr : right ⟨x0, x1, x2, x3, x4, x5, x6, x7, x8, ats⟩ with
        | false => exact .inr (.inr (.inl ⟨⟨h1, h2⟩, rfl⟩))
        | true =>
          rcases h with h | h | h | h
          · exact absurd h h1
          · exact absurd h h2
          · rw [hr] at h; cases h
          · exact .inr (.inr (.inr ⟨⟨h1, h2⟩, rfl, h⟩))
  clear h hy hk
  rcases hh with h1 | ⟨h1, h2⟩ | ⟨⟨h1, h2⟩, hr⟩ | ⟨⟨h1, h2⟩, hr, h3⟩
  · go_enter Try.func14, Try.ntmps14
    go_wp2_with fail
    refine (alive4_calls _).mono ?_
    rintro e w1 ⟨rfl, hb1⟩
    have HX1 := Lib.hid ((hb1.block w.heap.size (in_heap HX0.out)).trans HX0.out)
    have HB1 := Lib.hid (HB0.out.trans (hb1.mono HB0.out.size))
    have b0 : w1.cell? ⟨w.heap.size, 0, none⟩ = some (.int .u64 x0) := cell_of_row _ _ 0 _ _ (0, 0) HX1.out
    have b1 : w1.cell? ⟨w.heap.size, 1, none⟩ = some (.int .u64 x1) := cell_of_row _ _ 1 _ _ (0, 0) HX1.out
    have b2 : w1.cell? ⟨w.heap.size, 2, none⟩ = some (.int .u64 x2) := cell_of_row _ _ 2 _ _ (0, 0) HX1.out
    have b3 : w1.cell? ⟨w.heap.size, 3, none⟩ = some (.int .u64 x3) := cell_of_row _ _ 3 _ _ (0, 0) HX1.out
    have b4 : w1.cell? ⟨w.heap.size, 4, none⟩ = some (.string x4) := cell_of_row _ _ 4 _ _ (0, 0) HX1.out
    have b5 : w1.cell? ⟨w.heap.size, 5, none⟩ = some (.string x5) := cell_of_row _ _ 5 _ _ (0, 0) HX1.out
    have b6 : w1.cell? ⟨w.heap.size, 6, none⟩ = some (.int .i64 x6) := cell_of_row _ _ 6 _ _ (0, 0) HX1.out
    have b7 : w1.cell? ⟨w.heap.size, 7, none⟩ = some (.int .i64 x7) := cell_of_row _ _ 7 _ _ (0, 0) HX1.out
    have b8 : w1.cell? ⟨w.heap.size, 8, none⟩ = some (.bool x8) := cell_of_row _ _ 8 _ _ (0, 0) HX1.out
    have b9 : w1.cell? ⟨w.heap.size, 9, none⟩ = some (.slice xA k xc) := cell_of_row _ _ 9 _ _ (0, 0) HX1.out
    clear hb1
    go_wp2_with fail
    go_ret
    exact ⟨rfl, HB1.out⟩
  · go_enter Try.func14, Try.ntmps14
    go_wp2_with fail
    refine (alive4_calls _).mono ?_
    rintro e w1 ⟨rfl, hb1⟩
    have HX1 := Lib.hid ((hb1.block w.heap.size (in_heap HX0.out)).trans HX0.out)
    have HB1 := Lib.hid (HB0.out.trans (hb1.mono HB0.out.size))
    have b0 : w1.cell? ⟨w.heap.size, 0, none⟩ = some (.int .u64 x0) := cell_of_row _ _ 0 _ _ (0, 0) HX1.out
    have b1 : w1.cell? ⟨w.heap.size, 1, none⟩ = some (.int .u64 x1) := cell_of_row _ _ 1 _ _ (0, 0) HX1.out
    have b2 : w1.cell? ⟨w.heap.size, 2, none⟩ = some (.int .u64 x2) := cell_of_row _ _ 2 _ _ (0, 0) HX1.out
    have b3 : w1.cell? ⟨w.heap.size, 3, none⟩ = some (.int .u64 x3) := cell_of_row _ _ 3 _ _ (0, 0) HX1.out
    have b4 : w1.cell? ⟨w.heap.size, 4, none⟩ = some (.string x4) := cell_of_row _ _ 4 _ _ (0, 0) HX1.out
    have b5 : w1.cell? ⟨w.heap.size, 5, none⟩ = some (.string x5) := cell_of_row _ _ 5 _ _ (0, 0) HX1.out
    have b6 : w1.cell? ⟨w.heap.size, 6, none⟩ = some (.int .i64 x6) := cell_of_row _ _ 6 _ _ (0, 0) HX1.out
    have b7 : w1.cell? ⟨w.heap.size, 7, none⟩ = some (.int .i64 x7) := cell_of_row _ _ 7 _ _ (0, 0) HX1.out
    have b8 : w1.cell? ⟨w.heap.size, 8, none⟩ = some (.bool x8) := cell_of_row _ _ 8 _ _ (0, 0) HX1.out
    have b9 : w1.cell? ⟨w.heap.size, 9, none⟩ = some (.slice xA k xc) := cell_of_row _ _ 9 _ _ (0, 0) HX1.out
    clear hb1
    go_wp2_with fail
    go_ret
    exact ⟨rfl, HB1.out⟩
  · rw [hr] at HRI
    have d1 : decide (n < 0) = false := decide_eq_false h1
    have d2 : decide (60 < n) = false := decide_eq_false h2
    clear hr
    go_enter Try.func14, Try.ntmps14
    go_wp2_with fail
    refine (alive4_calls _).mono ?_
    rintro e w1 ⟨rfl, hb1⟩
    have HX1 := Lib.hid ((hb1.block w.heap.size (in_heap HX0.out)).trans HX0.out)
    have HB1 := Lib.hid (HB0.out.trans (hb1.mono HB0.out.size))
    have b0 : w1.cell? ⟨w.heap.size, 0, none⟩ = some (.int .u64 x0) := cell_of_row _ _ 0 _ _ (0, 0) HX1.out
    have b1 : w1.cell? ⟨w.heap.size, 1, none⟩ = some (.int .u64 x1) := cell_of_row _ _ 1 _ _ (0, 0) HX1.out
    have b2 : w1.cell? ⟨w.heap.size, 2, none⟩ = some (.int .u64 x2) := cell_of_row _ _ 2 _ _ (0, 0) HX1.out
    have b3 : w1.cell? ⟨w.heap.size, 3, none⟩ = some (.int .u64 x3) := cell_of_row _ _ 3 _ _ (0, 0) HX1.out
    have b4 : w1.cell? ⟨w.heap.size, 4, none⟩ = some (.string x4) := cell_of_row _ _ 4 _ _ (0, 0) HX1.out
    have b5 : w1.cell? ⟨w.heap.size, 5, none⟩ = some (.string x5) := cell_of_row _ _ 5 _ _ (0, 0) HX1.out
    have b6 : w1.cell? ⟨w.heap.size, 6, none⟩ = some (.int .i64 x6) := cell_of_row _ _ 6 _ _ (0, 0) HX1.out
    have b7 : w1.cell? ⟨w.heap.size, 7, none⟩ = some (.int .i64 x7) := cell_of_row _ _ 7 _ _ (0, 0) HX1.out
    have b8 : w1.cell? ⟨w.heap.size, 8, none⟩ = some (.bool x8) := cell_of_row _ _ 8 _ _ (0, 0) HX1.out
    have b9 : w1.cell? ⟨w.heap.size, 9, none⟩ = some (.slice xA k xc) := cell_of_row _ _ 9 _ _ (0, 0) HX1.out
    clear hb1
    go_wp2_with fail
    refine (HRI.out w1 HB1.out).mono ?_
    rintro e w2 ⟨rfl, hb2⟩
    have HX2 := Lib.hid ((hb2.block w.heap.size (in_heap HX1.out)).trans HX1.out)
    have HB2 := Lib.hid (HB1.out.trans (hb2.mono HB1.out.size))
    clear hb2 b0 b1 b2 b3 b4 b5 b6 b7 b8 b9
    go_wp2_with fail
    go_ret
    exact ⟨rfl, HB2.out⟩
  · rw [hr] at HRI
    have d1 : decide (n < 0) = false := decide_eq_false h1
    have d2 : decide (60 < n) = false := decide_eq_false h2
    have d3 : decide (at_ < 0) = true := decide_eq_true h3
    clear hr
    go_enter Try.func14, Try.ntmps14
    go_wp2_with fail
    refine (alive4_calls _).mono ?_
    rintro e w1 ⟨rfl, hb1⟩
    have HX1 := Lib.hid ((hb1.block w.heap.size (in_heap HX0.out)).trans HX0.out)
    have HB1 := Lib.hid (HB0.out.trans (hb1.mono HB0.out.size))
    have b0 : w1.cell? ⟨w.heap.size, 0, none⟩ = some (.int .u64 x0) := cell_of_row _ _ 0 _ _ (0, 0) HX1.out
    have b1 : w1.cell? ⟨w.heap.size, 1, none⟩ = some (.int .u64 x1) := cell_of_row _ _ 1 _ _ (0, 0) HX1.out
    have b2 : w1.cell? ⟨w.heap.size, 2, none⟩ = some (.int .u64 x2) := cell_of_row _ _ 2 _ _ (0, 0) HX1.out
    have b3 : w1.cell? ⟨w.heap.size, 3, none⟩ = some (.int .u64 x3) := cell_of_row _ _ 3 _ _ (0, 0) HX1.out
    have b4 : w1.cell? ⟨w.heap.size, 4, none⟩ = some (.string x4) := cell_of_row _ _ 4 _ _ (0, 0) HX1.out
    have b5 : w1.cell? ⟨w.heap.size, 5, none⟩ = some (.string x5) := cell_of_row _ _ 5 _ _ (0, 0) HX1.out
    have b6 : w1.cell? ⟨w.heap.size, 6, none⟩ = some (.int .i64 x6) := cell_of_row _ _ 6 _ _ (0, 0) HX1.out
    have b7 : w1.cell? ⟨w.heap.size, 7, none⟩ = some (.int .i64 x7) := cell_of_row _ _ 7 _ _ (0, 0) HX1.out
    have b8 : w1.cell? ⟨w.heap.size, 8, none⟩ = some (.bool x8) := cell_of_row _ _ 8 _ _ (0, 0) HX1.out
    have b9 : w1.cell? ⟨w.heap.size, 9, none⟩ = some (.slice xA k xc) := cell_of_row _ _ 9 _ _ (0, 0) HX1.out
    clear hb1
    go_wp2_with fail
    refine (HRI.out w1 HB1.out).mono ?_
    rintro e w2 ⟨rfl, hb2⟩
    have HX2 := Lib.hid ((hb2.block w.heap.size (in_heap HX1.out)).trans HX1.out)
    have HB2 := Lib.hid (HB1.out.trans (hb2.mono HB1.out.size))
    clear hb2 b0 b1 b2 b3 b4 b5 b6 b7 b8 b9
    go_wp2_with fail
    go_ret
    exact ⟨rfl, HB2.out⟩
set_option maxHeartbeats 16000000 in
theorem limits4_in (x0 x1 x2 x3 : Int) (x4 x5 : ByteArray) (x6 x7 : Int) (x8 : Bool) (ats : List (ByteArray × ByteArray)) (xA : Option Addr) (xc k : Nat) (n at_ : Nat) (w : World) (hk : k = ats.length) (hy : RdL w w.heap.size ⟨⟨x0, x1, x2, x3, x4, x5, x6, x7, x8, ats⟩, xA, xc⟩) (hn : n ≤ 60) (hri : right ⟨x0, x1, x2, x3, x4, x5, x6, x7, x8, ats⟩ = true) :
    Calls Try.prog 14 #[.int .i64 n, .agg #[.int .u64 x0, .int .u64 x1, .int .u64 x2, .int .u64 x3, .string x4, .string x5, .int .i64 x6, .int .i64 x7, .bool x8, .slice xA k xc], .int .i64 at_] w fun e w' => e = .returned (.bool true) ∧ Below w.heap.size w w' := by
  have HX0 := Lib.hid (heap_alloc_new w (.cells #[.int .u64 x0, .int .u64 x1, .int .u64 x2, .int .u64 x3, .string x4, .string x5, .int .i64 x6, .int .i64 x7, .bool x8, .slice xA k xc] 36))
  have HB0 := Lib.hid ((Below.refl w.heap.size w).alloc (Nat.le_refl _) (.cells #[.int .u64 x0, .int .u64 x1, .int .u64 x2, .int .u64 x3, .string x4, .string x5, .int .i64 x6, .int .i64 x7, .bool x8, .slice xA k xc] 36))
  have HRI : Hid (∀ W, Below w.heap.size w W → Calls Try.prog 29 #[.agg #[.int .u64 x0, .int .u64 x1, .int .u64 x2, .int .u64 x3, .string x4, .string x5, .int .i64 x6, .int .i64 x7, .bool x8, .slice xA k xc]] W fun e w' => e = .returned (.bool (right ⟨x0, x1, x2, x3, x4, x5, x6, x7, x8, ats⟩)) ∧ Below W.heap.size W w') := Lib.hid (fun W hW => rightspan_lit x0 x1 x2 x3 x4 x5 x6 x7 x8 ats xA xc k w.heap.size W hk (hy.below hW) hW.size)
  rw [hri] at HRI
  have HY := Lib.hid hy
  have HK := Lib.hid hk
  have HRR := Lib.hid hri
  have d1 : decide ((n : Int) < 0) = false := decide_eq_false (by omega)
  have d2 : decide ((60 : Int) < (n : Int)) = false := decide_eq_false (by omega)
  have d3 : decide (60 < n) = false := decide_eq_false (by omega)
  have d4 : decide ((at_ : Int) < 0) = false := decide_eq_false (by omega)
  obtain ⟨i0, hi, hz0, hz1, hz2⟩ := info_parts infoSp
  have HMK : Hid (∀ W : World, (Instr.makeSlice 51 (.int .i64 (n : Int)) (.int .i64 (n : Int))).run Try.prog W = .ok (.slice (some ⟨W.heap.size, 0, none⟩) n n) (W.alloc (.cells (madeCells #[.int .u64 0, .int .u64 0, .int .u64 0, .int .u64 0, .string ⟨#[]⟩, .string ⟨#[]⟩, .int .i64 0, .int .i64 0, .bool false, .slice none 0 0] (n * 10)) 36))) := Lib.hid (fun W => by
    have h := run_makeSlice (P := Try.prog) (w := W) 51 36 i0 _ Try.underlying51 hi hz0 .i64 .i64 (n : Int) (n : Int) (by omega) (Int.le_refl _) (by rw [hz1]; simp only [Int.toNat_natCast]; omega) (by rw [hz2]; omega) (by omega)
    rw [hz1] at h
    simp only [Int.toNat_natCast] at h
    exact h)
  have HNN := Lib.hid hn
  clear hy hk hri hi hz0 hz1 hz2 hn
  go_enter Try.func14, Try.ntmps14
  go_wp2_with fail
  refine (alive4_calls _).mono ?_
  rintro e w1 ⟨rfl, hb1⟩
  have HX1 := Lib.hid ((hb1.block w.heap.size (in_heap HX0.out)).trans HX0.out)
  have HB1 := Lib.hid (HB0.out.trans (hb1.mono HB0.out.size))
  have b0 : w1.cell? ⟨w.heap.size, 0, none⟩ = some (.int .u64 x0) := cell_of_row _ _ 0 _ _ (0, 0) HX1.out
  have b1 : w1.cell? ⟨w.heap.size, 1, none⟩ = some (.int .u64 x1) := cell_of_row _ _ 1 _ _ (0, 0) HX1.out
  have b2 : w1.cell? ⟨w.heap.size, 2, none⟩ = some (.int .u64 x2) := cell_of_row _ _ 2 _ _ (0, 0) HX1.out
  have b3 : w1.cell? ⟨w.heap.size, 3, none⟩ = some (.int .u64 x3) := cell_of_row _ _ 3 _ _ (0, 0) HX1.out
  have b4 : w1.cell? ⟨w.heap.size, 4, none⟩ = some (.string x4) := cell_of_row _ _ 4 _ _ (0, 0) HX1.out
  have b5 : w1.cell? ⟨w.heap.size, 5, none⟩ = some (.string x5) := cell_of_row _ _ 5 _ _ (0, 0) HX1.out
  have b6 : w1.cell? ⟨w.heap.size, 6, none⟩ = some (.int .i64 x6) := cell_of_row _ _ 6 _ _ (0, 0) HX1.out
  have b7 : w1.cell? ⟨w.heap.size, 7, none⟩ = some (.int .i64 x7) := cell_of_row _ _ 7 _ _ (0, 0) HX1.out
  have b8 : w1.cell? ⟨w.heap.size, 8, none⟩ = some (.bool x8) := cell_of_row _ _ 8 _ _ (0, 0) HX1.out
  have b9 : w1.cell? ⟨w.heap.size, 9, none⟩ = some (.slice xA k xc) := cell_of_row _ _ 9 _ _ (0, 0) HX1.out
  clear hb1
  go_wp2_with fail
  refine (HRI.out w1 HB1.out).mono ?_
  rintro e w2 ⟨rfl, hb2⟩
  have HX2 := Lib.hid ((hb2.block w.heap.size (in_heap HX1.out)).trans HX1.out)
  have HB2 := Lib.hid (HB1.out.trans (hb2.mono HB1.out.size))
  clear hb2 b0 b1 b2 b3 b4 b5 b6 b7 b8 b9
  have hmk := HMK.out w2
  have HS0 : Hid (SRow (w2.alloc (.cells (madeCells #[.int .u64 0, .int .u64 0, .int .u64 0, .int .u64 0, .string ⟨#[]⟩, .string ⟨#[]⟩, .int .i64 0, .int .i64 0, .bool false, .slice none 0 0] (n * 10)) 36)) w2.heap.size n 0 ⟨⟨x0, x1, x2, x3, x4, x5, x6, x7, x8, ats⟩, xA, xc⟩) := Lib.hid ⟨_, heap_alloc_new w2 _, size_madeCells _ _, fun i hi => by omega⟩
  have HX3 := Lib.hid ((heap_alloc_old w2 (.cells (madeCells #[.int .u64 0, .int .u64 0, .int .u64 0, .int .u64 0, .string ⟨#[]⟩, .string ⟨#[]⟩, .int .i64 0, .int .i64 0, .bool false, .slice none 0 0] (n * 10)) 36) (in_heap HX2.out)).trans HX2.out)
  have HB3 := Lib.hid (HB2.out.alloc HB2.out.size (.cells (madeCells #[.int .u64 0, .int .u64 0, .int .u64 0, .int .u64 0, .string ⟨#[]⟩, .string ⟨#[]⟩, .int .i64 0, .int .i64 0, .bool false, .slice none 0 0] (n * 10)) 36))
  have hg : w.heap.size < w2.heap.size := in_heap HX2.out
  clear HRI HX0 HX1 HB0 HB1
  go_wp2_with fail
  clear hmk
  generalize w2.alloc (.cells (madeCells #[.int .u64 0, .int .u64 0, .int .u64 0, .int .u64 0, .string ⟨#[]⟩, .string ⟨#[]⟩, .int .i64 0, .int .i64 0, .bool false, .slice none 0 0] (n * 10)) 36) = W3 at *
  generalize w2.heap.size = g at *
  clear d1 d2 d3 d4
  go_loopw [9] (fun i wr => ∃ j : Nat, i = .int .i64 j ∧ j ≤ n ∧ Hid (SRow wr g n j ⟨⟨x0, x1, x2, x3, x4, x5, x6, x7, x8, ats⟩, xA, xc⟩) ∧ Hid (wr.heap[w.heap.size]? = some (.cells #[.int .u64 x0, .int .u64 x1, .int .u64 x2, .int .u64 x3, .string x4, .string x5, .int .i64 x6, .int .i64 x7, .bool x8, .slice xA k xc] 36)) ∧ Hid (Below w.heap.size w wr)) (fun i _ => n - (intOf i).toNat)
  case atStart => exact ⟨0, rfl, Nat.zero_le _, HS0, HX3, HB3⟩
  case round =>
    obtain ⟨j, rfl, hj, HS, HX, HB⟩ := hrel
    clear HS0 HX3 HB3
    by_cases hlt : j < n
    · have b0 : wr.cell? ⟨w.heap.size, 0, none⟩ = some (.int .u64 x0) := cell_of_row _ _ 0 _ _ (0, 0) HX.out
      have b1 : wr.cell? ⟨w.heap.size, 1, none⟩ = some (.int .u64 x1) := cell_of_row _ _ 1 _ _ (0, 0) HX.out
      have b2 : wr.cell? ⟨w.heap.size, 2, none⟩ = some (.int .u64 x2) := cell_of_row _ _ 2 _ _ (0, 0) HX.out
      have b3 : wr.cell? ⟨w.heap.size, 3, none⟩ = some (.int .u64 x3) := cell_of_row _ _ 3 _ _ (0, 0) HX.out
      have b4 : wr.cell? ⟨w.heap.size, 4, none⟩ = some (.string x4) := cell_of_row _ _ 4 _ _ (0, 0) HX.out
      have b5 : wr.cell? ⟨w.heap.size, 5, none⟩ = some (.string x5) := cell_of_row _ _ 5 _ _ (0, 0) HX.out
      have b6 : wr.cell? ⟨w.heap.size, 6, none⟩ = some (.int .i64 x6) := cell_of_row _ _ 6 _ _ (0, 0) HX.out
      have b7 : wr.cell? ⟨w.heap.size, 7, none⟩ = some (.int .i64 x7) := cell_of_row _ _ 7 _ _ (0, 0) HX.out
      have b8 : wr.cell? ⟨w.heap.size, 8, none⟩ = some (.bool x8) := cell_of_row _ _ 8 _ _ (0, 0) HX.out
      have b9 : wr.cell? ⟨w.heap.size, 9, none⟩ = some (.slice xA k xc) := cell_of_row _ _ 9 _ _ (0, 0) HX.out
      have i1 : (0 : Int) ≤ j := by omega
      have i2 : (j : Int) < n := by omega
      have hlt10 : j * 10 + 10 ≤ n * 10 := by omega
      have hj60 : j < 60 := by have := HNN.out; omega
      obtain ⟨⟨v0, t0⟩, f0⟩ := HS.out.at_ (i := j * 10) (by omega)
      obtain ⟨⟨v1, t1⟩, f1⟩ := HS.out.at_ (i := j * 10 + 1) (by omega)
      obtain ⟨⟨v2, t2⟩, f2⟩ := HS.out.at_ (i := j * 10 + 2) (by omega)
      obtain ⟨⟨v3, t3⟩, f3⟩ := HS.out.at_ (i := j * 10 + 3) (by omega)
      obtain ⟨⟨v4, t4⟩, f4⟩ := HS.out.at_ (i := j * 10 + 4) (by omega)
      obtain ⟨⟨v5, t5⟩, f5⟩ := HS.out.at_ (i := j * 10 + 5) (by omega)
      obtain ⟨⟨v6, t6⟩, f6⟩ := HS.out.at_ (i := j * 10 + 6) (by omega)
      obtain ⟨⟨v7, t7⟩, f7⟩ := HS.out.at_ (i := j * 10 + 7) (by omega)
      obtain ⟨⟨v8, t8⟩, f8⟩ := HS.out.at_ (i := j * 10 + 8) (by omega)
      obtain ⟨⟨v9, t9⟩, f9⟩ := HS.out.at_ (i := j * 10 + 9) (by omega)
      have HS1 : Hid (SRow ((((((((((wr.setCell ⟨g, j * 10, none⟩ (.int .u64 x0)).setCell ⟨g, j * 10 + 1, none⟩ (.int .u64 x1)).setCell ⟨g, j * 10 + 2, none⟩ (.int .u64 x2)).setCell ⟨g, j * 10 + 3, none⟩ (.int .u64 x3)).setCell ⟨g, j * 10 + 4, none⟩ (.string x4)).setCell ⟨g, j * 10 + 5, none⟩ (.string x5)).setCell ⟨g, j * 10 + 6, none⟩ (.int .i64 x6)).setCell ⟨g, j * 10 + 7, none⟩ (.int .i64 x7)).setCell ⟨g, j * 10 + 8, none⟩ (.bool x8)).setCell ⟨g, j * 10 + 9, none⟩ (.slice xA k xc)) g n (j + 1) ⟨⟨x0, x1, x2, x3, x4, x5, x6, x7, x8, ats⟩, xA, xc⟩) := Lib.hid (HS.out.store hlt _ _ _ _ _ _ _ _ _ _ (by rw [HK.out]; rfl))
      have HXn : Hid (((((((((((wr.setCell ⟨g, j * 10, none⟩ (.int .u64 x0)).setCell ⟨g, j * 10 + 1, none⟩ (.int .u64 x1)).setCell ⟨g, j * 10 + 2, none⟩ (.int .u64 x2)).setCell ⟨g, j * 10 + 3, none⟩ (.int .u64 x3)).setCell ⟨g, j * 10 + 4, none⟩ (.string x4)).setCell ⟨g, j * 10 + 5, none⟩ (.string x5)).setCell ⟨g, j * 10 + 6, none⟩ (.int .i64 x6)).setCell ⟨g, j * 10 + 7, none⟩ (.int .i64 x7)).setCell ⟨g, j * 10 + 8, none⟩ (.bool x8)).setCell ⟨g, j * 10 + 9, none⟩ (.slice xA k xc)).heap[w.heap.size]? = some (.cells #[.int .u64 x0, .int .u64 x1, .int .u64 x2, .int .u64 x3, .string x4, .string x5, .int .i64 x6, .int .i64 x7, .bool x8, .slice xA k xc] 36)) := Lib.hid (by repeat' (first | (with_reducible exact HX.out) | (refine (Below.heap_setCell _ _ _ _ (by simp; omega)).trans ?_)))
      have HBn : Hid (Below w.heap.size w ((((((((((wr.setCell ⟨g, j * 10, none⟩ (.int .u64 x0)).setCell ⟨g, j * 10 + 1, none⟩ (.int .u64 x1)).setCell ⟨g, j * 10 + 2, none⟩ (.int .u64 x2)).setCell ⟨g, j * 10 + 3, none⟩ (.int .u64 x3)).setCell ⟨g, j * 10 + 4, none⟩ (.string x4)).setCell ⟨g, j * 10 + 5, none⟩ (.string x5)).setCell ⟨g, j * 10 + 6, none⟩ (.int .i64 x6)).setCell ⟨g, j * 10 + 7, none⟩ (.int .i64 x7)).setCell ⟨g, j * 10 + 8, none⟩ (.bool x8)).setCell ⟨g, j * 10 + 9, none⟩ (.slice xA k xc))) := Lib.hid (by (repeat' (first | (with_reducible exact HB.out) | (with_reducible refine Below.setCell ?_ ?_ _))) <;> (simp; omega))
      go_wp2_with fail
      go_roundw
      case rel => exact ⟨j + 1, by go_num, by omega, HS1, HXn, HBn⟩
      case measure => simp [intOf]; omega
    · obtain rfl : n = j := by omega
      have hgr : g < wr.heap.size := by obtain ⟨cs, h1, _⟩ := HS.out; exact in_heap h1
      have HRDX : Hid (RdL wr w.heap.size ⟨⟨x0, x1, x2, x3, x4, x5, x6, x7, x8, ats⟩, xA, xc⟩) := Lib.hid (HY.out.below HB.out)
      have HRS := Lib.hid (HS.out.rds HRDX.out HB.out.size)
      have HBY := Lib.hid (batchbytes_any (some ⟨g, 0, none⟩) (List.replicate n ⟨⟨x0, x1, x2, x3, x4, x5, x6, x7, x8, ats⟩, xA, xc⟩) n n wr.heap.size wr (by simp) HRS.out (Nat.le_refl _) (by have := HNN.out; unfold maxLen; omega))
      have HOKS : Hid (∀ y ∈ List.replicate n (Ls.mk ⟨x0, x1, x2, x3, x4, x5, x6, x7, x8, ats⟩ xA xc), y.s.ok) := Lib.hid (fun y hy => by rw [List.eq_of_mem_replicate hy]; exact HY.out.ok)
      have HRL : Hid (rightL (List.replicate n (Ls.mk ⟨x0, x1, x2, x3, x4, x5, x6, x7, x8, ats⟩ xA xc)) = (decide (1 ≤ n) && decide (n ≤ 50))) := Lib.hid (by
        unfold rightL
        rw [List.length_replicate]
        have : (List.replicate n (Ls.mk ⟨x0, x1, x2, x3, x4, x5, x6, x7, x8, ats⟩ xA xc)).all (fun x => right x.s) = true := by
          rw [List.all_eq_true]
          intro y hy
          rw [List.eq_of_mem_replicate hy]
          exact HRR.out
        rw [this]
        simp)
      have HNL : Hid ((List.replicate n (Ls.mk ⟨x0, x1, x2, x3, x4, x5, x6, x7, x8, ats⟩ xA xc)).length = n) := Lib.hid (by simp)
      have HML : Hid (((List.replicate n (Ls.mk ⟨x0, x1, x2, x3, x4, x5, x6, x7, x8, ats⟩ xA xc)).map Ls.s).length = n) := Lib.hid (by simp)
      clear HRS HX HX2 HB2
      generalize List.replicate n (Ls.mk ⟨x0, x1, x2, x3, x4, x5, x6, x7, x8, ats⟩ xA xc) = l at *
      have hcc : (1 ≤ n ∧ n ≤ 50) ∨ n = 0 ∨ (50 < n ∧ n ≤ 60) := by have := HNN.out; omega
      rcases hcc with ⟨n1, n2⟩ | rfl | ⟨n1, n2⟩
      · have HT : Hid (rightL l = true) := Lib.hid (by rw [HRL.out]; simp [n1, n2])
        obtain ⟨q1, q2⟩ := batch_len l HT.out
        obtain ⟨p1, p2⟩ := read_back l HOKS.out HT.out
        rw [if_pos HT.out] at HBY
        generalize batchBytes l = L at *
        obtain ⟨q, hq⟩ : ∃ q, q = L.length := ⟨_, rfl⟩
        have HQ := Lib.hid hq
        rw [← hq] at q1 q2
        have HP1 := Lib.hid p1
        have HP2 := Lib.hid p2
        clear p1 p2 hq
        go_wp2_with fail
        refine HBY.out.mono ?_
        rintro e w3 ⟨v3, rfl, ho3, hb3⟩
        rw [← HQ.out] at ho3
        obtain ⟨A3, c3, rfl, hc3, hr3⟩ := own_rd ho3
        have HRB := Lib.hid ((readbatch_any A3 L q c3 w3.heap.size w3 HQ.out hr3 (Nat.le_refl _) ⟨hc3, (own_cap ho3).2⟩ (by omega)).2 HP1.out)
        rw [HP2.out] at HRB
        have HC3 := Lib.hid hb3
        clear ho3 hb3 hr3 hc3 HBY
        go_wp2_with fail
        refine HRB.out.mono ?_
        rintro e w4 ⟨v4, l4, rfl, ho4, hm4, hb4⟩
        obtain ⟨A4, c4, hv4, _, _⟩ := ho4.rd
        have hl4 : l4.length = n := by have h := congrArg List.length hm4; rw [List.length_map] at h; rw [h]; exact HML.out
        rw [hl4] at hv4
        subst hv4
        have HC4 := Lib.hid (HC3.out.trans (hb4.mono HC3.out.size))
        clear ho4 hm4 hb4 hl4 HRB
        have k1 : decide (0 < q) = true := decide_eq_true q1
        have k2 : decide ((0 : Int) < (q : Int)) = true := decide_eq_true (by omega)
        have k3 : decide (1 ≤ n) = true := decide_eq_true n1
        have k4 : decide ((1 : Int) ≤ (n : Int)) = true := decide_eq_true (by omega)
        have k5 : decide (n ≤ 50) = true := decide_eq_true n2
        have k6 : decide ((n : Int) ≤ 50) = true := decide_eq_true (by omega)
        have hrn : at_ % n < n := Nat.mod_lt _ (by omega)
        have hS4 : SRow w4 g n n ⟨⟨x0, x1, x2, x3, x4, x5, x6, x7, x8, ats⟩, xA, xc⟩ := HS.out.keep (HC4.out.block g hgr)
        obtain ⟨⟨u4, s4⟩, p4⟩ := hS4.at_ (i := at_ % n * 10 + 4) (by omega)
        have hg4 : g < w4.heap.size := Nat.lt_of_lt_of_le hgr HC4.out.size
        have HR5 := Lib.hid (hS4.spoiled (HRDX.out.below (HC4.out.mono HB.out.size)) (Nat.le_of_lt hg) hg4 hrn)
        have HL5 := Lib.hid (spoiled_right n (at_ % n) ⟨⟨x0, x1, x2, x3, x4, x5, x6, x7, x8, ats⟩, xA, xc⟩ hrn)
        have HN5 : Hid (n = (spoiled n (at_ % n) ⟨⟨x0, x1, x2, x3, x4, x5, x6, x7, x8, ats⟩, xA, xc⟩).length) := Lib.hid (by simp [spoiled])
        have HB5 : Hid (Below w.heap.size w (w4.setCell ⟨g, at_ % n * 10 + 4, none⟩ (.string ⟨#[]⟩))) := Lib.hid (Below.setCell (HB.out.trans (HC4.out.mono HB.out.size)) (by simp; omega) _)
        have q0 : ((n : Int) == 0) = false := by rw [beq_eq_false_iff_ne]; omega
        have m0 : (0 : Int) ≤ (at_ : Int) % (n : Int) := Int.emod_nonneg _ (by omega)
        have m1 : (at_ : Int) % (n : Int) < (n : Int) := Int.emod_lt_of_pos _ (by omega)
        have m2 : ((at_ : Int) % (n : Int)).toNat = at_ % n := rfl
        go_wp2_with (go_at_call 52; (with_reducible refine (num4_any _ _).mono ?_); rintro e w5 ⟨rfl, rfl⟩)
        generalize w4.setCell ⟨g, at_ % n * 10 + 4, none⟩ (.string ⟨#[]⟩) = W5 at *
        have HY5 := Lib.hid (batchbytes_any (some ⟨g, 0, none⟩) (spoiled n (at_ % n) ⟨⟨x0, x1, x2, x3, x4, x5, x6, x7, x8, ats⟩, xA, xc⟩) n n W5.heap.size W5 HN5.out HR5.out (Nat.le_refl _) (by have := HNN.out; unfold maxLen; omega))
        rw [HL5.out] at HY5
        have HY6 : Hid (Calls Try.prog 48 #[.slice (some ⟨g, 0, none⟩) n n] W5 (BytesOf [] W5)) := HY5
        refine HY6.out.mono ?_
        rintro e w6 ⟨v6, rfl, ho6, hb6⟩
        obtain ⟨A6, c6, hv6, _, _⟩ := own_rd ho6
        have hv6' : v6 = .slice A6 0 c6 := hv6
        subst hv6'
        have HB6 := Lib.hid (HB5.out.trans (hb6.mono HB5.out.size))
        clear hv6 ho6 hb6
        go_wp2_with fail
        go_ret
        exact ⟨rfl, HB6.out⟩
      · have HT : Hid (rightL l = false) := Lib.hid (by rw [HRL.out]; rfl)
        have HBN : Hid (Calls Try.prog 48 #[.slice (some ⟨g, 0, none⟩) 0 0] wr (BytesOf [] wr)) := Lib.hid (by have h := HBY.out; rw [HT.out] at h; exact h)
        clear HBY
        go_wp2_with fail
        refine HBN.out.mono ?_
        rintro e w3 ⟨v3, rfl, ho3, hb3⟩
        obtain ⟨A3, c3, hv3, _, hr3⟩ := own_rd ho3
        have hv3' : v3 = .slice A3 0 c3 := hv3
        subst hv3'
        have hcap : c3 ≤ maxLen := (own_cap (n := 0) (xs := []) ho3).2
        have HRB := Lib.hid ((readbatch_any A3 [] 0 c3 w3.heap.size w3 rfl hr3 (Nat.le_refl _) ⟨Nat.zero_le _, hcap⟩ (by omega)).1 okB_nil)
        have HC3 := Lib.hid hb3
        clear hv3 ho3 hb3 hr3 hcap HBN
        go_wp2_with fail
        refine HRB.out.mono ?_
        rintro e w4 ⟨rfl, hb4⟩
        have HC4 := Lib.hid (HC3.out.trans (hb4.mono HC3.out.size))
        clear hb4 HRB
        have HB4 := Lib.hid (HB.out.trans (HC4.out.mono HB.out.size))
        go_wp2_with (go_at_call 52; (with_reducible refine (num4_any _ _).mono ?_); rintro e w5 ⟨rfl, rfl⟩)
        go_ret
        exact ⟨rfl, HB4.out⟩
      · have HT : Hid (rightL l = false) := Lib.hid (by rw [HRL.out, decide_eq_false (show ¬ n ≤ 50 by omega), Bool.and_false])
        have HBN : Hid (Calls Try.prog 48 #[.slice (some ⟨g, 0, none⟩) n n] wr (BytesOf [] wr)) := Lib.hid (by have h := HBY.out; rw [HT.out] at h; exact h)
        clear HBY
        go_wp2_with fail
        refine HBN.out.mono ?_
        rintro e w3 ⟨v3, rfl, ho3, hb3⟩
        obtain ⟨A3, c3, hv3, _, hr3⟩ := own_rd ho3
        have hv3' : v3 = .slice A3 0 c3 := hv3
        subst hv3'
        have hcap : c3 ≤ maxLen := (own_cap (n := 0) (xs := []) ho3).2
        have HRB := Lib.hid ((readbatch_any A3 [] 0 c3 w3.heap.size w3 rfl hr3 (Nat.le_refl _) ⟨Nat.zero_le _, hcap⟩ (by omega)).1 okB_nil)
        have HC3 := Lib.hid hb3
        clear hv3 ho3 hb3 hr3 hcap HBN
        go_wp2_with fail
        refine HRB.out.mono ?_
        rintro e w4 ⟨rfl, hb4⟩
        have HC4 := Lib.hid (HC3.out.trans (hb4.mono HC3.out.size))
        clear hb4 HRB
        have k3 : decide (1 ≤ n) = true := decide_eq_true (by omega)
        have k4 : decide ((1 : Int) ≤ (n : Int)) = true := decide_eq_true (by omega)
        have k5 : decide (n ≤ 50) = false := decide_eq_false (by omega)
        have k6 : decide ((n : Int) ≤ 50) = false := decide_eq_false (by omega)
        have hrn : at_ % n < n := Nat.mod_lt _ (by omega)
        have hS4 : SRow w4 g n n ⟨⟨x0, x1, x2, x3, x4, x5, x6, x7, x8, ats⟩, xA, xc⟩ := HS.out.keep (HC4.out.block g hgr)
        obtain ⟨⟨u4, s4⟩, p4⟩ := hS4.at_ (i := at_ % n * 10 + 4) (by omega)
        have hg4 : g < w4.heap.size := Nat.lt_of_lt_of_le hgr HC4.out.size
        have HR5 := Lib.hid (hS4.spoiled (HRDX.out.below (HC4.out.mono HB.out.size)) (Nat.le_of_lt hg) hg4 hrn)
        have HL5 := Lib.hid (spoiled_right n (at_ % n) ⟨⟨x0, x1, x2, x3, x4, x5, x6, x7, x8, ats⟩, xA, xc⟩ hrn)
        have HN5 : Hid (n = (spoiled n (at_ % n) ⟨⟨x0, x1, x2, x3, x4, x5, x6, x7, x8, ats⟩, xA, xc⟩).length) := Lib.hid (by simp [spoiled])
        have HB5 : Hid (Below w.heap.size w (w4.setCell ⟨g, at_ % n * 10 + 4, none⟩ (.string ⟨#[]⟩))) := Lib.hid (Below.setCell (HB.out.trans (HC4.out.mono HB.out.size)) (by simp; omega) _)
        have q0 : ((n : Int) == 0) = false := by rw [beq_eq_false_iff_ne]; omega
        have m0 : (0 : Int) ≤ (at_ : Int) % (n : Int) := Int.emod_nonneg _ (by omega)
        have m1 : (at_ : Int) % (n : Int) < (n : Int) := Int.emod_lt_of_pos _ (by omega)
        have m2 : ((at_ : Int) % (n : Int)).toNat = at_ % n := rfl
        go_wp2_with (go_at_call 52; (with_reducible refine (num4_any _ _).mono ?_); rintro e w5 ⟨rfl, rfl⟩)
        generalize w4.setCell ⟨g, at_ % n * 10 + 4, none⟩ (.string ⟨#[]⟩) = W5 at *
        have HY5 := Lib.hid (batchbytes_any (some ⟨g, 0, none⟩) (spoiled n (at_ % n) ⟨⟨x0, x1, x2, x3, x4, x5, x6, x7, x8, ats⟩, xA, xc⟩) n n W5.heap.size W5 HN5.out HR5.out (Nat.le_refl _) (by have := HNN.out; unfold maxLen; omega))
        rw [HL5.out] at HY5
        have HY6 : Hid (Calls Try.prog 48 #[.slice (some ⟨g, 0, none⟩) n n] W5 (BytesOf [] W5)) := HY5
        refine HY6.out.mono ?_
        rintro e w6 ⟨v6, rfl, ho6, hb6⟩
        obtain ⟨A6, c6, hv6, _, _⟩ := own_rd ho6
        have hv6' : v6 = .slice A6 0 c6 := hv6
        subst hv6'
        have HB6 := Lib.hid (HB5.out.trans (hb6.mono HB5.out.size))
        clear hv6 ho6 hb6
        go_wp2_with fail
        go_ret
        exact ⟨rfl, HB6.out⟩
end Go.Proofs.Ythkclgkbidhmbaa
