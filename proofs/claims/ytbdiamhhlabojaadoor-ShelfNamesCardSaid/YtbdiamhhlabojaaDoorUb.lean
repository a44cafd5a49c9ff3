/- A device, as it lies: what stores into it leave. -/
import Derived.Test.YtbdiamhhlabojaaDoorUi
import Derived.Test.YtbdiamhhlabojaaDoorOt
import Derived.Test.YtbdiamhhlabojaaDoorBs
namespace Go.Proofs.YtbdiamhhlabojaaDoor
open Go.RowKit
set_option linter.unusedVariables false
set_option linter.unusedSimpArgs false
set_option maxRecDepth 100000

structure Dv where
  D : Nat
  room : Int
  us : Int
  A : Option Addr
  c : Nat
  fs : List Lf
  fu : Bool
  lf : Int
def Dv.has (d : Dv) (k : Nat) : Prop := k = d.D ∨ (∃ a, d.A = some a ∧ a.block = k) ∨ ∃ f ∈ d.fs, ∃ a, f.A = some a ∧ a.block = k
def apartF (f g : Lf) : Prop := ∀ a b, f.A = some a → g.A = some b → a.block ≠ b.block
theorem apartF.symm {f g : Lf} (h : apartF f g) : apartF g f := fun a b ha hb e => h b a hb ha e.symm
def Lf.val (f : Lf) : Value := .slice f.A f.da.length f.c
def OwnD (w : World) (base : Nat) (f : Lf) : Prop := w.ownsRow base 5 1 f.val f.da.length (f.da.map B8)
structure DvAt (w : World) (base : Nat) (d : Dv) : Prop where
  row : w.heap[d.D]? = some (.cells #[.int .i64 d.room, .int .i64 d.us, .slice d.A d.fs.length d.c, .bool d.fu, .int .i64 d.lf] 70)
  lo : base ≤ d.D
  own : w.ownsRow base 78 3 (.slice d.A d.fs.length d.c) d.fs.length (d.fs.flatMap Lf.cells)
  each : ∀ f ∈ d.fs, OwnD w base f
  two : d.fs.Pairwise apartF
structure Kept (w w' : World) (S S' : Nat → Prop) : Prop where
  os : w'.os = w.os
  tape : w'.tape = w.tape
  output : w'.output = w.output
  size : w.heap.size ≤ w'.heap.size
  block : ∀ k, k < w.heap.size → ¬ S k → w'.heap[k]? = w.heap[k]?
  sub : ∀ k, k < w.heap.size → S' k → S k
theorem Kept.refl (w : World) (S : Nat → Prop) : Kept w w S S := ⟨rfl, rfl, rfl, Nat.le_refl _, fun _ _ _ => rfl, fun _ _ h => h⟩
theorem Kept.trans {a b c : World} {S T U : Nat → Prop} (h : Kept a b S T) (k : Kept b c T U) : Kept a c S U :=
  ⟨k.os.trans h.os, k.tape.trans h.tape, k.output.trans h.output, Nat.le_trans h.size k.size, fun i hi hn => (k.block i (Nat.lt_of_lt_of_le hi h.size) (fun ht => hn (h.sub i hi ht))).trans (h.block i hi hn), fun i hi hu => h.sub i hi (k.sub i (Nat.lt_of_lt_of_le hi h.size) hu)⟩
theorem Kept.of {w w' : World} (h : Below w.heap.size w w') (S : Nat → Prop) : Kept w w' S S := ⟨h.os, h.tape, h.output, h.size, fun k hk _ => h.block k hk, fun _ _ h => h⟩
theorem Kept.below {w w' : World} {S S' : Nat → Prop} {B : Nat} (h : Kept w w' S S') (hS : ∀ k, S k → B ≤ k) (hB : B ≤ w.heap.size) : Below B w w' :=
  ⟨h.os, h.tape, h.output, h.size, fun k hk => h.block k (by omega) (fun hs => by have := hS k hs; omega)⟩
theorem Kept.rd {w w' : World} {S S' : Nat → Prop} {B : Nat} {A : Option Addr} {xs : List Value} (h : Kept w w' S S') (hr : Rd w B A xs) (hB : B ≤ w.heap.size) (hA : xs ≠ [] → ∀ a, A = some a → ¬ S a.block) : Rd w' B A xs := fun hp => by
  obtain ⟨a, ha, hb, hc⟩ := hr hp
  refine ⟨a, ha, hb, fun j x hx => ?_⟩
  rw [← hc j x hx]
  have e : (a.add j).block = a.block := block_add _ _
  exact World.cell?_of_block (by rw [e]; exact h.block _ (by omega) (hA (fun e0 => by rw [e0] at hp; exact absurd hp (by simp)) a ha))
/-- A row of one's own stays where a cell of another block is stored. -/
theorem grew_set (w : World) (D j : Nat) (u : Value) : Grew w (w.setCell ⟨D, j, none⟩ u) (.slice (some ⟨D, 0, none⟩) 0 0) (.slice (some ⟨D, 0, none⟩) 0 0) := by
  have hb : Below 0 w (w.setCell ⟨D, j, none⟩ u) := (Below.refl 0 w).setCell (Nat.zero_le _) u
  refine ⟨⟨hb.os, hb.tape, hb.output, hb.size, fun i hi hne => ?_⟩, .inl rfl⟩
  exact heap_setCell_other w ⟨D, j, none⟩ i u (fun e => hne (by simp only [Value.ownBlock]; rw [e]))
theorem own_ne {w : World} {base size n D : Nat} {e t : TypeId} {v : Value} {xs : List Value} {cs : Array Value} {fr : Nat × Nat} (h : w.ownsRow base e size v n xs) (hD : w.heap[D]? = some (.cells cs t fr)) (hne : t ≠ e) : v.ownBlock ≠ some D := by
  rcases h.2 with ⟨rfl, _⟩ | ⟨g, cap, cur, rfl, _, hg, _⟩
  · simp [Value.ownBlock]
  · simp only [Value.ownBlock]
    intro e'
    injection e' with e'
    subst e'
    rw [hD] at hg
    injection hg with hg
    injection hg with _ h2 _
    exact hne h2
theorem own_aside {w : World} {base size n : Nat} {e : TypeId} {v : Value} {xs : List Value} (h : w.ownsRow base e size v n xs) {D : Nat} (hD : v.ownBlock ≠ some D) (j : Nat) (u : Value) : (w.setCell ⟨D, j, none⟩ u).ownsRow base e size v n xs :=
  own_grew h (grew_set w D j u) (.inr (by simpa [Value.ownBlock] using hD))
section
variable {w w' : World} {base : Nat} {d : Dv}
theorem DvAt.ltD (h : DvAt w base d) : d.D < w.heap.size := by
  rcases Nat.lt_or_ge d.D w.heap.size with h1 | h1
  · exact h1
  · have := h.row; rw [Array.getElem?_eq_none h1] at this; cases this
theorem DvAt.ge (h : DvAt w base d) : ∀ k, d.has k → base ≤ k := by
  rintro k (rfl | ⟨a, ha, rfl⟩ | ⟨f, hf, a, ha, rfl⟩)
  · exact h.lo
  · exact own_block_ge h.own a.block (by simp [Value.ownBlock, ha])
  · exact own_block_ge (h.each f hf) a.block (by simp [Lf.val, Value.ownBlock, ha])
theorem DvAt.lt (h : DvAt w base d) : ∀ k, d.has k → k < w.heap.size := by
  rintro k (rfl | ⟨a, ha, rfl⟩ | ⟨f, hf, a, ha, rfl⟩)
  · exact h.ltD
  · exact own_block_lt h.own a.block (by simp [Value.ownBlock, ha])
  · exact own_block_lt (h.each f hf) a.block (by simp [Lf.val, Value.ownBlock, ha])
theorem DvAt.below (h : DvAt w base d) (hb : Below w.heap.size w w') : DvAt w' base d :=
  ⟨(hb.block _ h.ltD).trans h.row, h.lo, own_below h.own hb, fun f hf => own_below (h.each f hf) hb, h.two⟩
theorem DvAt.neA (h : DvAt w base d) : ∀ a, d.A = some a → a.block ≠ d.D := fun a ha e => own_ne h.own h.row (by decide) (by simp [Value.ownBlock, ha, e])
theorem DvAt.neF (h : DvAt w base d) {f : Lf} (hf : f ∈ d.fs) : f.val.ownBlock ≠ some d.D := own_ne (h.each f hf) h.row (by decide)
theorem DvAt.neAF (h : DvAt w base d) {f : Lf} (hf : f ∈ d.fs) {a : Addr} (ha : d.A = some a) : f.val.ownBlock ≠ some a.block := by
  rcases own_apart (h.each f hf) h.own (by decide) with e | e
  · simp [Value.ownBlock, ha] at e
  · simpa [Value.ownBlock, ha] using e
theorem heap_set_lt (w : World) (p : Addr) (u : Value) : (w.setCell p u).heap.size = w.heap.size := by simp
theorem keptD (w : World) (d d' : Dv) (j : Nat) (u : Value) (hs : ∀ k, d'.has k → d.has k) : Kept w (w.setCell ⟨d.D, j, none⟩ u) d.has d'.has := by
  have hb : Below 0 w (w.setCell ⟨d.D, j, none⟩ u) := (Below.refl 0 w).setCell (Nat.zero_le _) u
  exact ⟨hb.os, hb.tape, hb.output, hb.size, fun k hk hn => heap_setCell_other w ⟨d.D, j, none⟩ k u (fun e => hn (.inl e)), fun k _ h => hs k h⟩
theorem DvAt.setUs (h : DvAt w base d) (u : Int) : DvAt (w.setCell ⟨d.D, 1, none⟩ (.int .i64 u)) base { d with us := u } ∧ Kept w (w.setCell ⟨d.D, 1, none⟩ (.int .i64 u)) d.has ({ d with us := u } : Dv).has :=
  ⟨⟨heap_setCell_same w d.D 1 _ _ _ h.row, h.lo, own_aside h.own (own_ne h.own h.row (by decide)) _ _, fun f hf => own_aside (h.each f hf) (h.neF hf) _ _, h.two⟩, keptD w d _ 1 _ (fun _ h => h)⟩
theorem DvAt.setFu (h : DvAt w base d) (u : Bool) : DvAt (w.setCell ⟨d.D, 3, none⟩ (.bool u)) base { d with fu := u } ∧ Kept w (w.setCell ⟨d.D, 3, none⟩ (.bool u)) d.has ({ d with fu := u } : Dv).has :=
  ⟨⟨heap_setCell_same w d.D 3 _ _ _ h.row, h.lo, own_aside h.own (own_ne h.own h.row (by decide)) _ _, fun f hf => own_aside (h.each f hf) (h.neF hf) _ _, h.two⟩, keptD w d _ 3 _ (fun _ h => h)⟩
theorem DvAt.setLf (h : DvAt w base d) (u : Int) : DvAt (w.setCell ⟨d.D, 4, none⟩ (.int .i64 u)) base { d with lf := u } ∧ Kept w (w.setCell ⟨d.D, 4, none⟩ (.int .i64 u)) d.has ({ d with lf := u } : Dv).has :=
  ⟨⟨heap_setCell_same w d.D 4 _ _ _ h.row, h.lo, own_aside h.own (own_ne h.own h.row (by decide)) _ _, fun f hf => own_aside (h.each f hf) (h.neF hf) _ _, h.two⟩, keptD w d _ 4 _ (fun _ h => h)⟩
/-- The row of files is another one. -/
theorem DvAt.rerow (h : DvAt w base d) {w2 : World} {A' : Option Addr} {n' c' : Nat} {L : List Lf} {S : Nat → Prop} (hS : ∀ k, d.has k → S k) (hg : Grew w w2 (.slice d.A d.fs.length d.c) (.slice A' n' c')) (ho : w2.ownsRow base 78 3 (.slice A' n' c') n' (L.flatMap Lf.cells)) (hn : n' = L.length)
    (hE : ∀ f ∈ L, OwnD w base f) (hL : ∀ f ∈ L, ∀ a, f.A = some a → S a.block) (hp : L.Pairwise apartF) :
    DvAt (w2.setCell ⟨d.D, 2, none⟩ (.slice A' n' c')) base { d with A := A', c := c', fs := L } ∧ Kept w (w2.setCell ⟨d.D, 2, none⟩ (.slice A' n' c')) S ({ d with A := A', c := c', fs := L } : Dv).has := by
  have hD2 : w2.heap[d.D]? = some (.cells #[.int .i64 d.room, .int .i64 d.us, .slice d.A d.fs.length d.c, .bool d.fu, .int .i64 d.lf] 70) :=
    (hg.grown.block d.D h.ltD (fun e => own_ne h.own h.row (by decide) e.symm)).trans h.row
  subst hn
  have hb0 : Below 0 w2 (w2.setCell ⟨d.D, 2, none⟩ (.slice A' L.length c')) := (Below.refl 0 w2).setCell (Nat.zero_le _) _
  refine ⟨⟨heap_setCell_same w2 d.D 2 _ _ _ hD2, h.lo, own_aside ho (own_ne ho hD2 (by decide)) _ _, fun f hf => ?_, hp⟩, ⟨hb0.os.trans hg.grown.os, hb0.tape.trans hg.grown.tape, hb0.output.trans hg.grown.output, Nat.le_trans hg.grown.size hb0.size, fun k hk hn => ?_, ?_⟩⟩
  · have h1 : OwnD w2 base f := own_grew (hE f hf) hg (own_apart (hE f hf) h.own (by decide))
    exact own_aside h1 (own_ne h1 hD2 (by decide)) _ _
  · refine (heap_setCell_other w2 ⟨d.D, 2, none⟩ k _ (fun e => hn (hS k (.inl e)))).trans (hg.grown.block k hk (fun e => hn (hS k (.inr (.inl ?_)))))
    cases hA : d.A with
    | none => rw [hA] at e; simp [Value.ownBlock] at e
    | some a => rw [hA] at e; simp [Value.ownBlock] at e; exact ⟨a, rfl, e.symm⟩
  · rintro k hk (rfl | ⟨a, ha, rfl⟩ | ⟨f, hf, a, ha, rfl⟩)
    · exact hS _ (.inl rfl)
    · have ha' : A' = some a := ha
      rcases hg.blk with e | ⟨g, e, hge⟩
      · rw [ha'] at e
        cases hA : d.A with
        | none => rw [hA] at e; simp [Value.ownBlock] at e
        | some b => rw [hA] at e; simp [Value.ownBlock] at e; exact hS _ (.inr (.inl ⟨b, hA, e.symm⟩))
      · rw [ha'] at e; simp [Value.ownBlock] at e; omega
    · exact hL f hf a ha
theorem pair_set {P : Lf → Lf → Prop} (hs : ∀ f g, P f g → P g f) : ∀ {l : List Lf} {i : Nat} {x y : Lf}, l.Pairwise P → l[i]? = some x → (∀ z ∈ l.eraseIdx i, P y z) → (l.set i y).Pairwise P
  | [], i, x, y, h, hi, hz => by simp at hi
  | a :: r, 0, x, y, h, hi, hz => by
    rw [List.set_cons_zero]
    rw [List.eraseIdx_cons_zero] at hz
    exact List.pairwise_cons.2 ⟨hz, (List.pairwise_cons.1 h).2⟩
  | a :: r, i + 1, x, y, h, hi, hz => by
    rw [List.set_cons_succ]
    rw [List.eraseIdx_cons_succ] at hz
    obtain ⟨h1, h2⟩ := List.pairwise_cons.1 h
    refine List.pairwise_cons.2 ⟨fun z hm => ?_, pair_set hs h2 (by simpa using hi) (fun z hm => hz z (List.mem_cons_of_mem _ hm))⟩
    rcases List.mem_or_eq_of_mem_set hm with h3 | h3
    · exact h1 z h3
    · rw [h3]; exact hs _ _ (hz a (List.mem_cons_self ..))
theorem erase_apart {l : List Lf} {i : Nat} {x : Lf} (h : l.Pairwise apartF) (hi : l[i]? = some x) : ∀ z ∈ l.eraseIdx i, apartF x z := by
  intro z hz
  obtain ⟨hil, hx⟩ := List.getElem?_eq_some_iff.1 hi
  rw [List.eraseIdx_eq_take_drop_succ] at hz
  rcases List.mem_append.1 hz with hz | hz
  · obtain ⟨j, hj, rfl⟩ := List.mem_take_iff_getElem.1 hz
    have := (List.pairwise_iff_getElem.1 h) j i (by omega) hil (by omega)
    rw [hx] at this
    exact this.symm
  · obtain ⟨j, hj, rfl⟩ := List.mem_drop_iff_getElem.1 hz
    have := (List.pairwise_iff_getElem.1 h) i (i + 1 + j) hil (by omega) (by omega)
    rw [hx] at this
    exact this
theorem mem_set_else {l : List Lf} {i : Nat} {y z : Lf} (h : z ∈ l.set i y) : z = y ∨ z ∈ l.eraseIdx i := by
  obtain ⟨j, hj, rfl⟩ := List.mem_iff_getElem.1 h
  rw [List.length_set] at hj
  rw [List.getElem_set]
  by_cases e : i = j
  · left; rw [if_pos e]
  · right
    rw [if_neg e, List.eraseIdx_eq_take_drop_succ]
    rcases Nat.lt_or_ge j i with h1 | h1
    · exact List.mem_append.2 (.inl (List.mem_take_iff_getElem.2 ⟨j, by omega, rfl⟩))
    · exact List.mem_append.2 (.inr (List.mem_drop_iff_getElem.2 ⟨j - (i + 1), by omega, by congr 1; omega⟩))
theorem flat_set (l : List Lf) (i : Nat) (x y : Lf) (hi : l[i]? = some x) (j : Nat) (u : Value) (hy : y.cells = x.cells.set j u) (hj : j < 3) : (l.flatMap Lf.cells).set (i * 3 + j) u = (l.set i y).flatMap Lf.cells := by
  induction l generalizing i with
  | nil => simp at hi
  | cons a r ih =>
    cases i with
    | zero =>
      simp at hi
      subst hi
      rw [List.set_cons_zero, List.flatMap_cons, List.flatMap_cons, hy, List.set_append_left _ _ (by rw [lcells_len]; omega), Nat.zero_mul, Nat.zero_add]
    | succ i =>
      rw [List.set_cons_succ, List.flatMap_cons, List.flatMap_cons, List.set_append_right _ _ (by rw [lcells_len]; omega), lcells_len, show (i + 1) * 3 + j - 3 = i * 3 + j by omega, ih i (by simpa using hi)]
/-- A file's bytes are others. -/
theorem DvAt.redata (h : DvAt w base d) {w2 : World} {g i : Nat} {f y : Lf} (hA : d.A = some ⟨g, 0, none⟩) (hi : d.fs[i]? = some f) (hy : y = { f with da := y.da, A := y.A, c := y.c }) (hg : Grew w w2 f.val y.val) (ho : OwnD w2 base y) :
    DvAt (w2.setCell ⟨g, i * 3 + 1, none⟩ y.val) base { d with fs := d.fs.set i y } ∧ Kept w (w2.setCell ⟨g, i * 3 + 1, none⟩ y.val) d.has ({ d with fs := d.fs.set i y } : Dv).has ∧ w2.frozen? ⟨g, i * 3 + 1, none⟩ = false := by
  obtain ⟨hil, hfi⟩ := List.getElem?_eq_some_iff.1 hi
  have hfm : f ∈ d.fs := List.mem_of_getElem? hi
  have hD2 : w2.heap[d.D]? = some (.cells #[.int .i64 d.room, .int .i64 d.us, .slice d.A d.fs.length d.c, .bool d.fu, .int .i64 d.lf] 70) :=
    (hg.grown.block d.D h.ltD (fun e => h.neF hfm e.symm)).trans h.row
  have hneA : f.val.ownBlock ≠ some g := h.neAF hfm hA
  have hown2 : w2.ownsRow base 78 3 (.slice d.A d.fs.length d.c) d.fs.length (d.fs.flatMap Lf.cells) := own_grew h.own hg (by
    cases e : f.val.ownBlock with
    | none => exact .inl rfl
    | some b => right; rw [hA]; simp only [Value.ownBlock]; rw [e] at hneA; exact fun e2 => hneA e2.symm)
  rw [hA] at hown2
  obtain ⟨q1, q2, q3, q4⟩ := own_setq hown2 (i := i * 3 + 1) (by omega) y.val
  have hfl : (d.fs.flatMap Lf.cells).set (i * 3 + 1) y.val = (d.fs.set i y).flatMap Lf.cells := flat_set d.fs i f y hi 1 y.val (by rw [hy]; rfl) (by omega)
  rw [hfl] at q3
  have hDg : d.D ≠ g := fun e => h.neA _ hA e.symm
  have hlg : g < w.heap.size := h.lt g (.inr (.inl ⟨_, hA, rfl⟩))
  have hyB : ∀ a, y.A = some a → (∃ b, f.A = some b ∧ b.block = a.block) ∨ w.heap.size ≤ a.block := fun a ha => by
    rcases hg.blk with e | ⟨g', e, hge⟩
    · simp only [Lf.val, ha, Value.ownBlock] at e
      cases hf : f.A with
      | none => rw [hf] at e; simp at e
      | some b => rw [hf] at e; simp at e; exact .inl ⟨b, rfl, e.symm⟩
    · simp only [Lf.val, ha, Value.ownBlock] at e
      injection e with e
      exact .inr (by omega)
  have hbS : Below 0 w2 (w2.setCell ⟨g, i * 3 + 1, none⟩ y.val) := (Below.refl 0 w2).setCell (Nat.zero_le _) _
  have hne2 : ∀ z ∈ d.fs.eraseIdx i, OwnD w2 base z := fun z hz => by
    have hzm : z ∈ d.fs := List.mem_of_mem_eraseIdx hz
    refine own_grew (h.each z hzm) hg ?_
    cases e : f.val.ownBlock with
    | none => exact .inl rfl
    | some b =>
      right
      intro e2
      have hap := erase_apart h.two hi z hz
      simp only [Lf.val] at e e2
      cases hfA : f.A with
      | none => rw [hfA] at e; simp [Value.ownBlock] at e
      | some p =>
        cases hzA : z.A with
        | none => rw [hzA] at e2; simp [Value.ownBlock] at e2
        | some q =>
          rw [hfA] at e; rw [hzA] at e2
          simp [Value.ownBlock] at e e2
          exact hap p q hfA hzA (by rw [e, e2])
  refine ⟨⟨?_, h.lo, ?_, fun z hz => ?_, ?_⟩, ⟨hbS.os.trans hg.grown.os, hbS.tape.trans hg.grown.tape, hbS.output.trans hg.grown.output, Nat.le_trans hg.grown.size hbS.size, fun k hk hn => ?_, ?_⟩, q1⟩
  · rw [heap_setCell_other w2 ⟨g, i * 3 + 1, none⟩ d.D _ hDg, hD2]
    simp
  · show World.ownsRow _ base _ 3 (.slice d.A (d.fs.set i y).length d.c) (d.fs.set i y).length _
    rw [List.length_set, hA]; exact q3
  · have hz2 : OwnD w2 base z := by
      rcases mem_set_else hz with rfl | hz
      · exact ho
      · exact hne2 z hz
    exact own_aside hz2 (by
      rcases own_apart hz2 hown2 (by decide) with e | e
      · simp [Value.ownBlock] at e
      · simpa [Value.ownBlock] using e) _ _
  · refine pair_set (fun _ _ => apartF.symm) h.two hi (fun z hz a b ha hb => ?_)
    rcases hyB a ha with ⟨p, hp, e⟩ | e
    · rw [← e]; exact erase_apart h.two hi z hz p b hp hb
    · have := h.lt b.block (.inr (.inr ⟨z, List.mem_of_mem_eraseIdx hz, b, hb, rfl⟩))
      omega
  · refine (heap_setCell_other w2 ⟨g, i * 3 + 1, none⟩ k _ (fun e => hn (.inr (.inl ⟨_, hA, e.symm⟩)))).trans (hg.grown.block k hk (fun e => hn (.inr (.inr ⟨f, hfm, ?_⟩))))
    cases hfA : f.A with
    | none => simp [Lf.val, hfA, Value.ownBlock] at e
    | some p => simp [Lf.val, hfA, Value.ownBlock] at e; exact ⟨p, rfl, e.symm⟩
  · rintro k hk (rfl | ⟨a, ha, rfl⟩ | ⟨z, hz, a, ha, rfl⟩)
    · exact .inl rfl
    · exact .inr (.inl ⟨a, ha, rfl⟩)
    · rcases mem_set_else hz with rfl | hz
      · rcases hyB a ha with ⟨p, hp, e⟩ | e
        · exact .inr (.inr ⟨f, hfm, p, hp, e⟩)
        · omega
      · exact .inr (.inr ⟨z, List.mem_of_mem_eraseIdx hz, a, ha, rfl⟩)
/-- More of a file, or less, is sure. -/
theorem DvAt.resure (h : DvAt w base d) {g i : Nat} {f : Lf} (hA : d.A = some ⟨g, 0, none⟩) (hi : d.fs[i]? = some f) (s : Int) :
    DvAt (w.setCell ⟨g, i * 3 + 2, none⟩ (.int .i64 s)) base { d with fs := d.fs.set i { f with su := s } } ∧ Kept w (w.setCell ⟨g, i * 3 + 2, none⟩ (.int .i64 s)) d.has ({ d with fs := d.fs.set i { f with su := s } } : Dv).has ∧ w.frozen? ⟨g, i * 3 + 2, none⟩ = false := by
  obtain ⟨hil, hfi⟩ := List.getElem?_eq_some_iff.1 hi
  have hfm : f ∈ d.fs := List.mem_of_getElem? hi
  have hown := h.own
  rw [hA] at hown
  obtain ⟨q1, q2, q3, q4⟩ := own_setq hown (i := i * 3 + 2) (by omega) (.int .i64 s)
  rw [flat_set d.fs i f { f with su := s } hi 2 _ rfl (by omega)] at q3
  have hDg : d.D ≠ g := fun e => h.neA _ hA e.symm
  have hbS : Below 0 w (w.setCell ⟨g, i * 3 + 2, none⟩ (.int .i64 s)) := (Below.refl 0 w).setCell (Nat.zero_le _) _
  have hmem : ∀ z ∈ d.fs.set i { f with su := s }, ∃ y ∈ d.fs, z.A = y.A ∧ z.da = y.da ∧ z.c = y.c := fun z hz => by
    rcases mem_set_else hz with rfl | hz
    · exact ⟨f, hfm, rfl, rfl, rfl⟩
    · exact ⟨z, List.mem_of_mem_eraseIdx hz, rfl, rfl, rfl⟩
  refine ⟨⟨?_, h.lo, ?_, fun z hz => ?_, ?_⟩, ⟨hbS.os, hbS.tape, hbS.output, hbS.size, fun k hk hn => ?_, ?_⟩, q1⟩
  · rw [heap_setCell_other w ⟨g, i * 3 + 2, none⟩ d.D _ hDg, h.row]
    simp
  · show World.ownsRow _ base _ 3 (.slice d.A (d.fs.set i { f with su := s }).length d.c) (d.fs.set i { f with su := s }).length _
    rw [List.length_set, hA]; exact q3
  · obtain ⟨y, hy, e1, e2, e3⟩ := hmem z hz
    have h1 := own_aside (h.each y hy) (h.neAF hy hA) (i * 3 + 2) (.int .i64 s)
    unfold OwnD Lf.val
    rw [e1, e2, e3]
    exact h1
  · exact pair_set (fun _ _ => apartF.symm) h.two hi (fun z hz a b ha hb => erase_apart h.two hi z hz a b ha hb)
  · exact heap_setCell_other w ⟨g, i * 3 + 2, none⟩ k _ (fun e => hn (.inr (.inl ⟨_, hA, e.symm⟩)))
  · rintro k hk (rfl | ⟨a, ha, rfl⟩ | ⟨z, hz, a, ha, rfl⟩)
    · exact .inl rfl
    · exact .inr (.inl ⟨a, ha, rfl⟩)
    · obtain ⟨y, hy, e1, e2, e3⟩ := hmem z hz
      exact .inr (.inr ⟨y, hy, a, by rw [← e1]; exact ha, rfl⟩)
end
end Go.Proofs.YtbdiamhhlabojaaDoor
