/- Append, with what the elder value still owns; rows of spans whose attributes lie below. -/
import Derived.Test.YthkclgkbidhmbaaFe
import Derived.Test.YthkclgkbidhmbaaJm
namespace Go.Proofs.Ythkclgkbidhmbaa
open Go.RowKit
set_option linter.unusedVariables false

section
variable {P : Program}
/-- append onto a row of one's own: the source is any value whose length and cells can be told. -/
theorem run_append_gen2 (w : World) (base : Nat) (t t2 ty e : TypeId) (d2 : TypeDesc) (i : TypeInfo) (z : Value) (size bytes : Nat) (ht : P.underlying t = some (.slice e))
    (ht2 : P.underlying t2 = some d2) (hd2 : ∀ k, d2 ≠ .int k) (hi : P.info? e = some i) (hz : i.zero = some z)
    (hsize : i.size = size) (hby : i.bytes = bytes) (hzs : z.cells.size = size)
    (v : Value) (n : Nat) (xs : List Value) (hown : w.ownsRow base e size v n xs)
    (x : Value) (m : Nat) (news : List Value) (hl : news.length = m * size) (hlen : ∀ W, (Builtin.lenOf x).run P W = .ok m W)
    (hf : ∀ W : World, W.heap = w.heap → (Builtin.firstCells size m x).run P W = .ok news.toArray W) (h1 : ∀ u ∈ news, u.oneCell' = true)
    (h63 : n + m ≤ maxLen) (hbytes : (n + m) * bytes ≤ 140737488355328) (hbase : base ≤ w.heap.size) :
    ∃ v' w', (Builtin.append_ #[t, t2] ty #[v, x]).run P w = .ok v' w' ∧ w'.ownsRow base e size v' (n + m) (xs ++ news) ∧ Grew w w' v v' ∧ w'.ownsRow base e size v n xs := by
  subst hsize
  subst hby
  have hlenl : (xs ++ news).length = (n + m) * i.size := by rw [List.length_append, hown.1, hl, Nat.add_mul]
  have hgr : ∀ (old : Nat) (row : Option Nat),
      (w.drew.alloc (.cells (xs.toArray ++ news.toArray ++ Builtin.zeroCells z.cells (grownCap w (n + m) old e - (n + m))) e)).ownsRow base e i.size
        (.slice (some ⟨w.heap.size, 0, none⟩) (n + m) (grownCap w (n + m) old e)) (n + m) (xs ++ news) ∧
      w.grownBy (w.drew.alloc (.cells (xs.toArray ++ news.toArray ++ Builtin.zeroCells z.cells (grownCap w (n + m) old e - (n + m))) e)) row := by
    intro old row
    have hge := grownCap_ge w (n + m) old e
    have hcm : grownCap w (n + m) old e ≤ maxLen := grownCap_le_maxLen w (n + m) old e h63
    refine ⟨⟨hlenl, .inr ⟨w.heap.size, _, _, rfl, hbase, heap_alloc_new w.drew _, hge, hcm, ?_, ?_⟩⟩, ⟨rfl, rfl, rfl, by simp, fun k hk _ => Below.heap_alloc w.drew _ k hk⟩⟩
    · simp only [Array.size_append, List.size_toArray, size_zeroCells, hzs, hown.1, hl, ← Nat.add_mul]
      congr 1
      omega
    · simp only [Array.toList_append, List.append_assoc]
      rw [← List.append_assoc, ← hlenl]
      exact List.take_left
  have hfw := hf w rfl
  have hfd := hf w.drew rfl
  rcases hown.2 with ⟨rfl, rfl⟩ | ⟨g, cap, cur, rfl, hbg, hg, hnc, hcm, hcs, htake⟩
  · have hx : xs = [] := List.eq_nil_of_length_eq_zero (by simpa using hown.1)
    subst hx
    by_cases hm : m = 0
    · subst hm
      have hn : news = [] := List.eq_nil_of_length_eq_zero (by simpa using hl)
      subst hn
      refine ⟨.slice none 0 0, w, ?_, World.ownsRow_nil w base e i.size, Grew.refl _ _, World.ownsRow_nil w base e i.size⟩
      simp [Builtin.append_, run_underlying ht, run_underlying ht2, sizeOf, typeInfo, hi, hlen, hfw]
    · have h63' : ¬ (9223372036854775807 < (m : Int)) := by simp only [maxLen] at h63; omega
      have h48' : ¬ (281474976710656 < Builtin.nextslicecap m 0 * i.bytes) := by
        rw [nextslicecap_zero (by omega)]
        simp only [Nat.zero_add] at hbytes
        omega
      have hgr0 := hgr 0 (Value.ownBlock (.slice none 0 0))
      simp only [Nat.zero_add, List.nil_append, Array.empty_append] at hgr0 ⊢
      refine ⟨_, _, ?_, hgr0.1, ⟨hgr0.2, .inr ⟨_, rfl, Nat.le_refl _⟩⟩, World.ownsRow_nil _ _ _ _⟩
      simp [Builtin.append_, run_underlying ht, run_underlying ht2, sizeOf, typeInfo, zeroValue, hi, hz, hlen, hm, h63', h48', Question.forced, run_firstCells_none, hfd, newRow, grownCap]
  · by_cases hroom : n + m ≤ cap
    · have hfit : n * i.size + news.length ≤ cur.size := by rw [hl, hcs, ← Nat.add_mul]; exact Nat.mul_le_mul_right _ hroom
      have hst := run_storeCells_at P g (n * i.size) e news 0 cur w hg (by simpa using hfit) h1
      simp only [Nat.add_zero] at hst
      refine ⟨.slice (some ⟨g, 0, none⟩) (n + m) cap, w.setRow g (cur.toList.take (n * i.size) ++ news ++ cur.toList.drop (n * i.size + news.length)).toArray, ?_,
        ⟨hlenl, .inr ⟨g, cap, _, rfl, hbg, setRow_heap w g cur _ e _ hg, hroom, hcm, ?_, ?_⟩⟩, ⟨⟨rfl, rfl, rfl, by simp, fun k _ hk => setRow_other w g k _ (fun e => hk (by simp [Value.ownBlock, e]))⟩, .inl rfl⟩, ⟨hown.1, .inr ⟨g, cap, _, rfl, hbg, setRow_heap w g cur _ e _ hg, hnc, hcm, ?_, ?_⟩⟩⟩
      · simp [Builtin.append_, run_underlying ht, run_underlying ht2, sizeOf, typeInfo, hi, hlen, hroom, hfw, Addr.add_lit, hst]
      · simp only [List.size_toArray, List.length_append, List.length_take, List.length_drop, Array.length_toList]
        omega
      · rw [htake, ← hlenl]
        exact List.take_left
      · simp only [List.size_toArray, List.length_append, List.length_take, List.length_drop, Array.length_toList]
        omega
      · have hnl : (cur.toList.take (n * i.size)).length = n * i.size := by rw [htake, hown.1]
        rw [List.append_assoc, List.take_append_of_le_length (by rw [hnl]; exact Nat.le_refl _), List.take_of_length_le (by rw [hnl]; exact Nat.le_refl _)]
        exact htake
    · have holds : ∀ j u, xs[j]? = some u → w.cell? ((⟨g, 0, none⟩ : Addr).add j) = some u := hown.cells (g := g) rfl
      have h63' : ¬ (9223372036854775807 < ((n : Int) + (m : Int))) := by simp only [maxLen] at h63; omega
      have h48' : ¬ (281474976710656 < Builtin.nextslicecap (n + m) cap * i.bytes) := by have := growslice_fits (need := n + m) (old := cap) (bytes := i.bytes) (by omega) hbytes; omega
      have hfo := run_firstCells_some (P := P) w.drew i.size n ⟨g, 0, none⟩ n cap xs hown.1 (by simpa using holds)
      have hgr0 := hgr cap (Value.ownBlock (.slice (some ⟨g, 0, none⟩) n cap))
      refine ⟨_, _, ?_, hgr0.1, ⟨hgr0.2, .inr ⟨_, rfl, Nat.le_refl _⟩⟩, hown.kept (hgr cap none).2 (by simp [Value.ownBlock])⟩
      simp [Builtin.append_, run_underlying ht, run_underlying ht2, sizeOf, typeInfo, zeroValue, hi, hz, hlen, hroom, h63', h48', Question.forced, hfd, hfo, newRow, grownCap]
      congr 2
      apply Array.ext'
      simp [List.append_assoc]

/-- The source is a slice that reads as cells (nil too). -/
theorem run_append_rd2 (w : World) (base : Nat) (t ty e : TypeId) (i : TypeInfo) (z : Value) (size bytes : Nat) (ht : P.underlying t = some (.slice e)) (hi : P.info? e = some i) (hz : i.zero = some z)
    (hsize : i.size = size) (hby : i.bytes = bytes) (hzs : z.cells.size = size)
    (v : Value) (n : Nat) (xs : List Value) (hown : w.ownsRow base e size v n xs)
    (B : Nat) (A : Option Addr) (m c : Nat) (news : List Value) (hl : news.length = m * size) (hr : Rd w B A news) (h1 : ∀ u ∈ news, u.oneCell' = true)
    (h63 : n + m ≤ maxLen) (hbytes : (n + m) * bytes ≤ 140737488355328) (hbase : base ≤ w.heap.size) :
    ∃ v' w', (Builtin.append_ #[t, t] ty #[v, .slice A m c]).run P w = .ok v' w' ∧ w'.ownsRow base e size v' (n + m) (xs ++ news) ∧ Grew w w' v v' ∧ w'.ownsRow base e size v n xs :=
  run_append_gen2 w base t t ty e _ i z size bytes ht ht (by intro k; simp) hi hz hsize hby hzs v n xs hown _ m news hl (fun W => by simp [Builtin.lenOf]) (firstCells_rd hl hr) h1 h63 hbytes hbase
end

/-- Spans in a row of one's own; their attributes lie below it. -/
structure RowSps (w : World) (base : Nat) (v : Value) (l : List Ls) : Prop where
  own : w.ownsRow base 36 10 v l.length (l.flatMap Ls.cells)
  each : ∀ x ∈ l, RdL w base x
section
variable {w w' : World} {base : Nat} {v v' : Value} {l xs : List Ls}
theorem RowSps.nil : RowSps w base (.slice none 0 0) [] := ⟨World.ownsRow_nil _ _ _ _, fun _ h => by cases h⟩
theorem RowSps.below (hB : base ≤ w.heap.size) (h : RowSps w base v l) (hb : Below w.heap.size w w') : RowSps w' base v l := ⟨own_below h.own hb, fun x hx => (h.each x hx).below (hb.mono hB)⟩
theorem RowSps.rd (hB : base ≤ w.heap.size) (h : RowSps w base v l) : ∃ A c, v = .slice A l.length c ∧ l.length ≤ c ∧ RdSps w w.heap.size A l := by
  obtain ⟨A, c, hv, hc, hr⟩ := own_rd h.own
  exact ⟨A, c, hv, hc, hr, fun x hx => (h.each x hx).more hB⟩
theorem RowSps.app {ty : TypeId} (h : RowSps w base v l) (hx : ∀ x ∈ xs, RdL w base x) {B : Nat} {A : Option Addr} {m c : Nat} (hm : m = xs.length) (hr : Rd w B A (xs.flatMap Ls.cells)) (hl : l.length ≤ 1000000) (hml : m ≤ 1000000) (hbase : base ≤ w.heap.size) :
    ∃ v' w', (Builtin.append_ #[51, 51] ty #[v, .slice A m c]).run Try.prog w = .ok v' w' ∧ (RowSps w' base v' (l ++ xs) ∧ Below base w w') := by
  obtain ⟨i0, hi, hz0, hz1, hz2⟩ := info_parts infoSp
  obtain ⟨v', w', r1, r2, r3⟩ := run_append_rd (P := Try.prog) w base 51 ty 36 i0 _ 10 112 Try.underlying51 hi hz0 hz1 hz2 rfl v l.length (l.flatMap Ls.cells) h.own B A m c (xs.flatMap Ls.cells) (by rw [flatMap_len _ 10 cells_len, hm]) hr (fun u hu => by obtain ⟨x, _, hu⟩ := List.mem_flatMap.1 hu; exact cells_one x u hu) (by unfold maxLen; omega) (by omega) hbase
  have hb : Below base w w' := r3.below (Below.refl _ _) hbase (own_block_ge h.own)
  refine ⟨v', w', r1, ⟨by rw [List.length_append, List.flatMap_append, ← hm]; exact r2, fun y hy => ?_⟩, hb⟩
  rcases List.mem_append.1 hy with hy | hy
  · exact (h.each y hy).below hb
  · exact (hx y hy).below hb
/-- Episodes' cells, appended; the elder value owns what it owned. -/
theorem appE2 {ty : TypeId} {l xs : List Le} (h : w.ownsRow base 59 6 v l.length (l.flatMap Le.cells)) {B : Nat} {A : Option Addr} {m c : Nat} (hm : m = xs.length) (hr : Rd w B A (xs.flatMap Le.cells)) (hl : l.length ≤ 1000000) (hml : m ≤ 1000000) (hbase : base ≤ w.heap.size) :
    ∃ v' w', (Builtin.append_ #[62, 62] ty #[v, .slice A m c]).run Try.prog w = .ok v' w' ∧ w'.ownsRow base 59 6 v' (l ++ xs).length ((l ++ xs).flatMap Le.cells) ∧ Grew w w' v v' ∧ w'.ownsRow base 59 6 v l.length (l.flatMap Le.cells) ∧ Below base w w' := by
  obtain ⟨i0, hi, hz0, hz1, hz2⟩ := info_parts infoEp
  obtain ⟨v', w', r1, r2, r3, r4⟩ := run_append_rd2 (P := Try.prog) w base 62 ty 59 i0 _ 6 64 Try.underlying62 hi hz0 hz1 hz2 rfl v l.length (l.flatMap Le.cells) h B A m c (xs.flatMap Le.cells) (by rw [flatMap_len _ 6 ecells_len, hm]) hr (ecells_one xs) (by unfold maxLen; omega) (by omega) hbase
  exact ⟨v', w', r1, by rw [List.length_append, List.flatMap_append, ← hm]; exact r2, r3, r4, r3.below (Below.refl _ _) hbase (own_block_ge h)⟩
end
end Go.Proofs.Ythkclgkbidhmbaa
