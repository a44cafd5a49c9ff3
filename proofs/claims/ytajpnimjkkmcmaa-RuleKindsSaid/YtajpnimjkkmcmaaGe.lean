/- The code's get: a policy read from a reader, of any depth. -/
import Derived.Test.YtajpnimjkkmcmaaGp
import Derived.Test.YtajpnimjkkmcmaaBs
namespace Go.Proofs.Ytajpnimjkkmcmaa
open Go.RowKit
set_option linter.unusedVariables false
set_option linter.unusedSimpArgs false
set_option maxRecDepth 100000

theorem frz {w : World} {b i : Nat} {cs : Array Value} {ty : TypeId} (h : w.heap[b]? = some (.cells cs ty)) : w.frozen? ⟨b, i, none⟩ = false := by
  unfold World.frozen?
  rw [h]
  simp
theorem reader_wide (w : World) (B g C : Nat) (r : Rm.R) (h : RSt w B g r) (v : Value) {b i : Nat} (hb : b ≠ g) (hB : B ≤ b) : RSt (w.setCell ⟨b, i, none⟩ v) B g r :=
  h.stay (Below.heap_setCell w _ _ g (fun e => hb e.symm)) fun p hp => World.cell?_setCell_other _ _ _ _ (by intro e; rw [← e] at hp; simp at hp; omega)
theorem grown_bx (w W : World) (g b i : Nat) (v : Value) (h : W.grownBy w (some g)) (hb : W.heap.size ≤ b) : W.grownBy (w.setCell ⟨b, i, none⟩ v) (some g) :=
  ⟨h.os, h.tape, h.output, by simpa using h.size, fun k hk hne => (Below.heap_setCell w _ _ k (by simp; omega)).trans (h.block k hk hne)⟩
theorem grown_alloc (W : World) (g : Nat) (o : Obj) : W.grownBy (W.alloc o) (some g) := ⟨rfl, rfl, rfl, by simp, fun k hk hne => heap_alloc_old W o hk⟩

theorem text_ln (r : Rm.R) : (Rm.text r).1.length ≤ r.1.length ∧ (Rm.text r).2.1.length ≤ r.1.length := by
  unfold Rm.text
  have h := gettext_len r.1
  split
  · refine ⟨?_, by simp⟩
    unfold Mi.gettext at *
    (try simp only at *)
    split
    · simp only [List.length_take, List.length_drop]; omega
    · simp
  · simp [Rm.fail]
theorem S8_sz (l : List UInt8) : (S8 l).size = l.length := by simp [S8, ByteArray.size]
theorem byte_ln (r : Rm.R) : (Rm.byte r).2.1.length ≤ r.1.length := by
  unfold Rm.byte
  split <;> simp_all [Rm.fail]
theorem rst_ln {w : World} {B g : Nat} {r : Rm.R} (h : RSt w B g r) : r.1.length ≤ 140737488351232 := by
  obtain ⟨⟨A, n, c, h1, h2, h3, h4, h5, h6⟩, _⟩ := h
  omega
theorem byte_lt (r : Rm.R) : (Rm.byte r).1.toNat < 256 := UInt8.toNat_lt _
/-- What a step of the reader leaves: the result's box, the node's box. -/
structure GeSt (W w : World) (B g b : Nat) (r : Rm.R) (cs : Array Value) : Prop where
  z : w.heap[W.heap.size]? = some (.cells #[.int .i64 0, .int .i64 0, .string ⟨#[]⟩, .string ⟨#[]⟩, .slice none 0 0] 43)
  x : w.heap[b]? = some (.cells cs 43)
  lt : W.heap.size < b
  r : RSt w B g r
  gr : W.grownBy w (some g)
section
variable {W w w' : World} {B g b : Nat} {r r' : Rm.R} {cs : Array Value}
theorem GeSt.call (h : GeSt W w B g b r cs) (hg : w.grownBy w' (some g)) (hr : RSt w' B g r') (hgW : g < W.heap.size) : GeSt W w' B g b r' cs :=
  ⟨(hg.block _ (in_heap h.z) (by intro e; injection e with e; omega)).trans h.z, (hg.block _ (in_heap h.x) (by intro e; injection e with e; have := h.lt; omega)).trans h.x, h.lt, hr, grown_trans h.gr hg⟩
theorem GeSt.set (h : GeSt W w B g b r cs) (hgW : g < W.heap.size) (hB : B ≤ W.heap.size) (i : Nat) (v : Value) : GeSt W (w.setCell ⟨b, i, none⟩ v) B g b r (cs.setIfInBounds i v) :=
  ⟨(Below.heap_setCell w _ _ _ (by have := h.lt; simp; omega)).trans h.z, heap_setCell_same _ _ _ _ _ _ h.x, h.lt, reader_wide w B g 0 r h.r v (by have := h.lt; omega) (by have := h.lt; omega), grown_bx w W g _ i v h.gr (by have := h.lt; omega)⟩
theorem GeSt.start (hr : RSt w B g r) (hz : w.heap[W.heap.size]? = some (.cells #[.int .i64 0, .int .i64 0, .string ⟨#[]⟩, .string ⟨#[]⟩, .slice none 0 0] 43)) (hg : W.grownBy w (some g)) (hgW : g < W.heap.size) (cs : Array Value) : GeSt W (w.alloc (.cells cs 43)) B g w.heap.size r cs :=
  ⟨(heap_alloc_old w _ (in_heap hz)).trans hz, heap_alloc_new w _, in_heap hz, hr.below ((Below.refl _ _).alloc (Nat.le_refl _) _) (Nat.lt_of_lt_of_le hgW hg.size), grown_trans hg (grown_alloc _ _ _)⟩
end
/-- The result is stored. -/
theorem fin5 {W w : World} {B g : Nat} {r : Rm.R} (hr : RSt w B g r) (hg : W.grownBy w (some g)) (hgW : g < W.heap.size) (hB : B ≤ W.heap.size) (hz : w.heap[W.heap.size]? = some (.cells #[.int .i64 0, .int .i64 0, .string ⟨#[]⟩, .string ⟨#[]⟩, .slice none 0 0] 43)) (v0 v1 v2 v3 v4 : Value) :
    RSt (((((w.setCell ⟨W.heap.size, 0, none⟩ (v0)).setCell ⟨W.heap.size, 1, none⟩ (v1)).setCell ⟨W.heap.size, 2, none⟩ (v2)).setCell ⟨W.heap.size, 3, none⟩ (v3)).setCell ⟨W.heap.size, 4, none⟩ (v4)) B g r ∧ W.grownBy (((((w.setCell ⟨W.heap.size, 0, none⟩ (v0)).setCell ⟨W.heap.size, 1, none⟩ (v1)).setCell ⟨W.heap.size, 2, none⟩ (v2)).setCell ⟨W.heap.size, 3, none⟩ (v3)).setCell ⟨W.heap.size, 4, none⟩ (v4)) (some g) ∧ (∀ q, q ≠ W.heap.size → (((((w.setCell ⟨W.heap.size, 0, none⟩ (v0)).setCell ⟨W.heap.size, 1, none⟩ (v1)).setCell ⟨W.heap.size, 2, none⟩ (v2)).setCell ⟨W.heap.size, 3, none⟩ (v3)).setCell ⟨W.heap.size, 4, none⟩ (v4)).heap[q]? = w.heap[q]?) ∧ (((((w.setCell ⟨W.heap.size, 0, none⟩ (v0)).setCell ⟨W.heap.size, 1, none⟩ (v1)).setCell ⟨W.heap.size, 2, none⟩ (v2)).setCell ⟨W.heap.size, 3, none⟩ (v3)).setCell ⟨W.heap.size, 4, none⟩ (v4)).heap.size = w.heap.size ∧ (((((w.setCell ⟨W.heap.size, 0, none⟩ (v0)).setCell ⟨W.heap.size, 1, none⟩ (v1)).setCell ⟨W.heap.size, 2, none⟩ (v2)).setCell ⟨W.heap.size, 3, none⟩ (v3)).setCell ⟨W.heap.size, 4, none⟩ (v4)).heap[W.heap.size]? = some (.cells #[v0, v1, v2, v3, v4] 43) := by
  have hne : W.heap.size ≠ g := by omega
  refine ⟨?_, ?_, fun q hq => ?_, by simp, heap_setCell_same _ _ 4 _ _ v4 (heap_setCell_same _ _ 3 _ _ v3 (heap_setCell_same _ _ 2 _ _ v2 (heap_setCell_same _ _ 1 _ _ v1 (heap_setCell_same _ _ 0 _ _ v0 hz))))⟩
  · exact reader_wide _ B g 0 r (reader_wide _ B g 0 r (reader_wide _ B g 0 r (reader_wide _ B g 0 r (reader_wide _ B g 0 r hr v0 hne hB) v1 hne hB) v2 hne hB) v3 hne hB) v4 hne hB
  · exact grown_bx _ W g _ 4 v4 (grown_bx _ W g _ 3 v3 (grown_bx _ W g _ 2 v2 (grown_bx _ W g _ 1 v1 (grown_bx _ W g _ 0 v0 hg (Nat.le_refl _)) (Nat.le_refl _)) (Nat.le_refl _)) (Nat.le_refl _)) (Nat.le_refl _)
  · exact (Below.heap_setCell _ _ _ _ (by simpa using hq)).trans ((Below.heap_setCell _ _ _ _ (by simpa using hq)).trans ((Below.heap_setCell _ _ _ _ (by simpa using hq)).trans ((Below.heap_setCell _ _ _ _ (by simpa using hq)).trans (Below.heap_setCell _ _ _ _ (by simpa using hq)))))
theorem wide_ln (r : Rm.R) : (Rm.wide r).2.1.length ≤ r.1.length := by
  unfold Rm.wide
  split <;> simp [Rm.fail]
theorem num_ln (r : Rm.R) : (Rm.num r).2.1.length ≤ r.1.length := by
  unfold Rm.num
  split
  · simp [Rm.fail]
  · exact wide_ln r
theorem num_bad (r : Rm.R) (h : r.1 = []) : (Rm.num r).2.2 = true := by
  obtain ⟨l, b⟩ := r
  simp only at h
  subst h
  have hg : Mi.get [] = (0, 0, false) := rfl
  unfold Rm.num Rm.wide
  simp only [hg]
  simp [Rm.fail]
theorem rulL_ln (f : Rm.R → Rt × Rm.R) (hf : ∀ r, (f r).2.1.length ≤ r.1.length) : ∀ (n : Nat) (r : Rm.R) (acc : List Rt), (Rm.rulL f n r acc).2.1.length ≤ r.1.length
  | 0, r, acc => by rw [Rm.rulL]; exact Nat.le_refl _
  | n + 1, r, acc => by
    rw [Rm.rulL]
    split
    · exact Nat.le_refl _
    · exact Nat.le_trans (rulL_ln f hf n _ _) (hf r)
theorem rul_ln : ∀ (D : Nat) (r : Rm.R), (Rm.rul D r).2.1.length ≤ r.1.length ∧ ((Rm.rul D r).2.2 = false → (Rm.rul D r).2.1.length < r.1.length)
  | 0, r => by rw [Rm.rul]; simp [Rm.fail]
  | D + 1, r => by
    have ih := fun x => (rul_ln D x).1
    rw [Rm.rul]
    rcases r with ⟨_ | ⟨c, l⟩, b⟩
    · have hb : Rm.byte ([], b) = (0, Rm.fail) := rfl
      rw [hb]
      simp only [UInt8.toNat_zero]
      have h1 := num_ln Rm.fail
      have h2 := num_bad Rm.fail rfl
      simp [Rm.fail] at h1 h2 ⊢
      simp [h2, h1]
    · have hb : Rm.byte (c :: l, b) = (c, (l, b)) := rfl
      rw [hb]
      simp only
      have t1 := (text_ln (l, b)).2
      have t2 := (text_ln (Rm.text (l, b)).2).2
      have n1 := num_ln (l, b)
      have n2 := rulL_ln (Rm.rul D) ih (Rm.num (l, b)).1 (Rm.num (l, b)).2 []
      simp only [List.length_cons] at t1 t2 n1 n2 ⊢
      split
      · simp
      · split
        · simp only; omega
        · split
          · simp only; omega
          · simp only; omega
/-- What a region leaves: old blocks but the reader's and the node's box. -/
structure Out (g b base : Nat) (w w' : World) : Prop where
  os : w'.os = w.os
  tape : w'.tape = w.tape
  output : w'.output = w.output
  size : w.heap.size ≤ w'.heap.size
  block : ∀ k, k < base → k ≠ g → k ≠ b → w'.heap[k]? = w.heap[k]?
theorem out_goes (g b base : Nat) : PG.Goes (Out g b base) := ⟨fun w => ⟨rfl, rfl, rfl, Nat.le_refl _, fun _ _ _ _ => rfl⟩, fun _ _ _ h k => ⟨k.os.trans h.os, k.tape.trans h.tape, k.output.trans h.output, Nat.le_trans h.size k.size, fun q h1 h2 h3 => (k.block q h1 h2 h3).trans (h.block q h1 h2 h3)⟩⟩
theorem out_grown {g b base : Nat} {w w' : World} (h : w.grownBy w' (some g)) (hb : base ≤ w.heap.size) : Out g b base w w' := ⟨h.os, h.tape, h.output, h.size, fun k h1 h2 _ => h.block k (Nat.lt_of_lt_of_le h1 hb) (by intro e; injection e with e; exact h2 e)⟩
theorem out_below {g b base : Nat} {w w' : World} (h : Below w.heap.size w w') (hb : base ≤ w.heap.size) : Out g b base w w' := ⟨h.os, h.tape, h.output, h.size, fun k h1 _ _ => h.block k (Nat.lt_of_lt_of_le h1 hb)⟩
theorem KrOk.app {w w' : World} {base : Nat} {V V' : Value} {x : Kr} (h : KrOk w base V x) (hg : Grew w w' V V') : KrOk w' base V x :=
  (RdP.heap h fun b hb => hg.grown.block b hb.2.1 (Ne.symm hb.2.2)).imp fun b hb => ⟨hb.1, Nat.lt_of_lt_of_le hb.2.1 hg.grown.size, hb.2.2⟩
theorem KrOk.set {w : World} {base b i : Nat} {V u : Value} {x : Kr} (h : KrOk w base V x) (hb : b < base) : KrOk (w.setCell ⟨b, i, none⟩ u) base V x :=
  (RdP.heap h fun q hq => Below.heap_setCell w _ _ q (by simp; omega)).imp fun q hq => ⟨hq.1, by simpa using hq.2.1, hq.2.2⟩
theorem OwnKids.set {w : World} {base b i : Nat} {V u : Value} {L : List Kr} (h : OwnKids w base V L) (hb : b < base) : OwnKids (w.setCell ⟨b, i, none⟩ u) base V L :=
  ⟨own_far h.own hb u, fun x hx => (h.each x hx).set hb⟩
theorem RSt.grew {w w' : World} {B g base : Nat} {V V' : Value} {L : List Kr} {r : Rm.R} (h : RSt w B g r) (ho : OwnKids w base V L) (hg : Grew w w' V V') (hb : g < base) : RSt w' B g r := by
  have hne : ∀ k, k < base → V.ownBlock ≠ some k := fun k hk e => by have := own_block_ge ho.own k e; omega
  have hgl := h.at_
  exact h.stay (hg.grown.block g hgl (Ne.symm (hne g hb))) fun p hp => World.cell?_of_block (hg.grown.block p.block (Nat.lt_trans (Nat.lt_of_lt_of_le hp h.lt) hgl) (Ne.symm (hne _ (by have := h.lt; omega))))
theorem Rd.block9 {w w' : World} {g : Nat} {xs : List Value} (h : Rd w (g + 1) (some ⟨g, 0, none⟩) xs) (he : w'.heap[g]? = w.heap[g]?) : Rd w' (g + 1) (some ⟨g, 0, none⟩) xs := fun hn => by
  obtain ⟨a, ha, hb, hc⟩ := h hn
  injection ha with ha
  subst ha
  exact ⟨_, rfl, hb, fun j u hu => (World.cell?_of_block (by rw [block_add]; exact he)).trans (hc j u hu)⟩
def GF (g b base B : Nat) (dep : Int) (V : Value) (L : List Kr) (t' : Rt) (r' : Rm.R) (K : Int) : Nat → Value → World → Prop
  | 0, v, _ => v = .pointer (some ⟨b, 4, none⟩)
  | 1, v, _ => v = V
  | 2, v, _ => v = .pointer (some ⟨g, 0, none⟩)
  | 3, v, _ => v = .int .i64 dep
  | 4, v, _ => v = .int .i64 (dep + 1)
  | 5, v, w => ∃ x : Kr, v = .agg x.cells.toArray ∧ x.t = t' ∧ KrOk w base V x ∧ RSt w B g r'
  | 6, v, w => ∃ (x : Kr) (q : Nat), v = .slice (some ⟨q, 0, none⟩) 1 1 ∧ x.t = t' ∧ KrOk w base V x ∧ Rd w (q + 1) (some ⟨q, 0, none⟩) x.cells ∧ base ≤ q ∧ q < w.heap.size ∧ V.ownBlock ≠ some q
  | 7, v, w => ∃ x : Kr, x.t = t' ∧ OwnKids w base v (L ++ [x])
  | 8, v, _ => v = .pointer (some ⟨b, 4, none⟩)
  | 9, _, w => ∃ (x : Kr) (v : Value), x.t = t' ∧ OwnKids w base v (L ++ [x]) ∧ w.heap[b]? = some (.cells #[.int .i64 K, .int .i64 0, .string ⟨#[]⟩, .string ⟨#[]⟩, v] 43)
  | _, _, _ => True
def GG (g b base B : Nat) (V : Value) (L : List Kr) (r : Rm.R) (K : Int) : Nat → World → Prop
  | 5, w => RSt w B g r
  | 7, w => OwnKids w base V L
  | 9, w => w.heap[b]? = some (.cells #[.int .i64 K, .int .i64 0, .string ⟨#[]⟩, .string ⟨#[]⟩, V] 43)
  | _, _ => True
section
variable {g b base B : Nat} {dep K : Int} {V : Value} {L : List Kr} {t' : Rt} {r r' : Rm.R} {w w' : World}
theorem GF.below {i : Nat} {v : Value} (h : GF g b base B dep V L t' r' K i v w) (hb : Below w.heap.size w w') : GF g b base B dep V L t' r' K i v w' := by
  match i, h with
  | 0, h => exact h
  | 1, h => exact h
  | 2, h => exact h
  | 3, h => exact h
  | 4, h => exact h
  | 5, h => obtain ⟨x, h1, h2, h3, h4⟩ := h; exact ⟨x, h1, h2, h3.below hb, h4.below hb h4.at_⟩
  | 6, h => obtain ⟨x, q, h1, h2, h3, h4, h5, h6, h7⟩ := h; exact ⟨x, q, h1, h2, h3.below hb, h4.below (hb.mono h6), h5, Nat.lt_of_lt_of_le h6 hb.size, h7⟩
  | 7, h => obtain ⟨x, h1, h2⟩ := h; exact ⟨x, h1, h2.below hb⟩
  | 8, h => exact h
  | 9, h => obtain ⟨x, v, h1, h2, h3⟩ := h; exact ⟨x, v, h1, h2.below hb, (hb.block b (in_heap h3)).trans h3⟩
  | _ + 10, h => trivial
theorem GG.below {i : Nat} (h : GG g b base B V L r K i w) (hb : Below w.heap.size w w') : GG g b base B V L r K i w' := by
  unfold GG at *
  split
  · exact RSt.below h hb (RSt.at_ h)
  · exact OwnKids.below h hb
  · exact (hb.block b (in_heap h)).trans h
  · trivial
end
set_option maxHeartbeats 16000000 in
theorem get_rec (g B : Nat) : ∀ (D : Nat) (r : Rm.R) (W : World), D ≤ 5 → RSt W B g r → B ≤ W.heap.size → r.1.length ≤ 1000 →
    Calls Try.prog 43 #[.pointer (some ⟨g, 0, none⟩), .int .i64 (6 - (D : Int))] W (GetOf (Rm.rul D r).1 (Rm.rul D r).2 B g W) := by
  intro D
  induction D with
  | zero =>
    intro r W hD hr hBW _
    have hgW := hr.at_
    have HF := Lib.hid (fail_any g B r (W.alloc (.cells #[.int .i64 0, .int .i64 0, .string ⟨#[]⟩, .string ⟨#[]⟩, .slice none 0 0] 43)) (hr.below ((Below.refl _ _).alloc (Nat.le_refl _) _) hgW))
    have HZ := Lib.hid (heap_alloc_new W (.cells #[.int .i64 0, .int .i64 0, .string ⟨#[]⟩, .string ⟨#[]⟩, .slice none 0 0] 43))
    have HG0 := Lib.hid (grown_alloc W g (.cells #[.int .i64 0, .int .i64 0, .string ⟨#[]⟩, .string ⟨#[]⟩, .slice none 0 0] 43))
    change Calls _ _ #[_, .int .i64 6] W (GetOf (.mk 0 0 ⟨#[]⟩ ⟨#[]⟩ []) Rm.fail B g W)
    go_enter Try.func43, Try.ntmps43
    go_wp2_with (go_at_call 60; (with_reducible refine (HF.out).mono ?_); rintro e w2 ⟨rfl, hr2, hg2⟩; have HR2 := Lib.hid hr2; have HG2 := Lib.hid (grown_trans HG0.out hg2); have HZ2 := Lib.hid ((hg2.block _ (by simp) (by intro e; injection e with e; omega)).trans HZ.out); have c0 : w2.cell? ⟨W.heap.size, 0, none⟩ = some (.int .i64 0) := cell_of_row _ _ 0 _ _ (0, 0) HZ2.out; have c1 : w2.cell? ⟨W.heap.size, 1, none⟩ = some (.int .i64 0) := cell_of_row _ _ 1 _ _ (0, 0) HZ2.out; have c2 : w2.cell? ⟨W.heap.size, 2, none⟩ = some (.string ⟨#[]⟩) := cell_of_row _ _ 2 _ _ (0, 0) HZ2.out; have c3 : w2.cell? ⟨W.heap.size, 3, none⟩ = some (.string ⟨#[]⟩) := cell_of_row _ _ 3 _ _ (0, 0) HZ2.out; have c4 : w2.cell? ⟨W.heap.size, 4, none⟩ = some (.slice none 0 0) := cell_of_row _ _ 4 _ _ (0, 0) HZ2.out; have cf0 : w2.frozen? ⟨W.heap.size, 0, none⟩ = false := frz HZ2.out; have cf1 : w2.frozen? ⟨W.heap.size, 1, none⟩ = false := frz HZ2.out; have cf2 : w2.frozen? ⟨W.heap.size, 2, none⟩ = false := frz HZ2.out; have cf3 : w2.frozen? ⟨W.heap.size, 3, none⟩ = false := frz HZ2.out; have cf4 : w2.frozen? ⟨W.heap.size, 4, none⟩ = false := frz HZ2.out; clear hr2 hg2)
    refine bodyPost_ret (v := .agg #[.int .i64 0, .int .i64 0, .string ⟨#[]⟩, .string ⟨#[]⟩, .slice none 0 0]) (by simp [results, Try.results43, go_sem, c0, c1, c2, c3, c4]) rfl ?_
    have HFIN := fin5 HR2.out HG2.out hgW hBW HZ2.out (.int .i64 0) (.int .i64 0) (.string ⟨#[]⟩) (.string ⟨#[]⟩) (.slice none 0 0)
    exact ⟨rcs 0 0 ⟨#[]⟩ ⟨#[]⟩ none 0 0, rfl, RdP.leaf _ _ 0 0 ⟨#[]⟩ ⟨#[]⟩ (by omega) (by omega) (Nat.zero_le _) (Nat.zero_le _), HFIN.1, HFIN.2.1⟩
  | succ D ih =>
    intro r W hD hr hBW hrl0
    have HRL := Lib.hid (Nat.le_trans (byte_ln r) hrl0)
    clear hrl0
    have hgW := hr.at_
    have HDD := Lib.hid hD
    have HIH := Lib.hid ih
    clear ih
    have hd1 : (6 : Int) - ((D + 1 : Nat) : Int) = 5 - (D : Int) := by omega
    rw [hd1]
    clear hd1
    have HMD : Hid (Rm.rul (D + 1) r = if ((((Rm.byte r).1.toNat : Nat) : Int) == 5) = true then (.mk ((Rm.byte r).1.toNat : Nat) 0 ⟨#[]⟩ ⟨#[]⟩ [], (Rm.byte r).2)
    else if ((((Rm.byte r).1.toNat : Nat) : Int) == 6) = true then (.mk ((Rm.byte r).1.toNat : Nat) 0 (S8 (Rm.text (Rm.byte r).2).1) (S8 (Rm.text (Rm.text (Rm.byte r).2).2).1) [], (Rm.text (Rm.text (Rm.byte r).2).2).2)
    else if ((((Rm.byte r).1.toNat : Nat) : Int) == 1 || (((Rm.byte r).1.toNat : Nat) : Int) == 2 || (((Rm.byte r).1.toNat : Nat) : Int) == 3) = true then (.mk ((Rm.byte r).1.toNat : Nat) 0 ⟨#[]⟩ ⟨#[]⟩ (Rm.rulL (Rm.rul D) (Rm.num (Rm.byte r).2).1 (Rm.num (Rm.byte r).2).2 []).1, (Rm.rulL (Rm.rul D) (Rm.num (Rm.byte r).2).1 (Rm.num (Rm.byte r).2).2 []).2)
    else (.mk ((Rm.byte r).1.toNat : Nat) (Rm.num (Rm.byte r).2).1 ⟨#[]⟩ ⟨#[]⟩ [], (Rm.num (Rm.byte r).2).2)) := Lib.hid (by rw [Rm.rul])
    generalize Rm.rul (D + 1) r = RR at *
    have HBY := Lib.hid (byte_any g B r (W.alloc (.cells #[.int .i64 0, .int .i64 0, .string ⟨#[]⟩, .string ⟨#[]⟩, .slice none 0 0] 43)) (hr.below ((Below.refl _ _).alloc (Nat.le_refl _) _) hgW))
    have hkb := byte_lt r
    have HBL := Lib.hid (Nat.le_trans (byte_ln r) (rst_ln hr))
    have HZ := Lib.hid (heap_alloc_new W (.cells #[.int .i64 0, .int .i64 0, .string ⟨#[]⟩, .string ⟨#[]⟩, .slice none 0 0] 43))
    have HG0 := Lib.hid (grown_alloc W g (.cells #[.int .i64 0, .int .i64 0, .string ⟨#[]⟩, .string ⟨#[]⟩, .slice none 0 0] 43))
    generalize (Rm.byte r).1.toNat = kb at *
    generalize (Rm.byte r).2 = r1 at *
    have hd5 : (0 : Int) ≤ (D : Int) := by omega
    have hd6 : (D : Int) ≤ 4 := by omega
    clear hr hD
    have hkc : kb = 5 ∨ kb = 6 ∨ kb = 1 ∨ kb = 2 ∨ kb = 3 ∨ (kb ≠ 5 ∧ kb ≠ 6 ∧ kb ≠ 1 ∧ kb ≠ 2 ∧ kb ≠ 3) := by omega
    rcases hkc with rfl | rfl | rfl | rfl | rfl | ⟨k5, k6, k1, k2, k3⟩
    · have HRR : Hid (RR = (.mk 5 0 ⟨#[]⟩ ⟨#[]⟩ [], r1)) := Lib.hid (by rw [HMD.out]; rfl)
      rw [HRR.out]
      clear HMD
      go_enter Try.func43, Try.ntmps43
      go_wp2_with (go_at_call 61; (with_reducible refine (HBY.out).mono ?_); rintro e w1 ⟨rfl, hr1, hg1⟩; have HZ1 := Lib.hid ((hg1.block _ (by simp) (by intro e; injection e with e; omega)).trans HZ.out); have GS := Lib.hid (GeSt.start hr1 HZ1.out (grown_trans HG0.out hg1) hgW #[.int .i64 5, .int .i64 0, .string ⟨#[]⟩, .string ⟨#[]⟩, .slice none 0 0]); have HX1 := Lib.hid (GS.out.x); have hlt := GS.out.lt; have d0 : (w1.alloc (.cells #[.int .i64 5, .int .i64 0, .string ⟨#[]⟩, .string ⟨#[]⟩, .slice none 0 0] 43)).cell? ⟨w1.heap.size, 0, none⟩ = some (.int .i64 5) := cell_of_row _ _ 0 _ _ (0, 0) HX1.out; have d1 : (w1.alloc (.cells #[.int .i64 5, .int .i64 0, .string ⟨#[]⟩, .string ⟨#[]⟩, .slice none 0 0] 43)).cell? ⟨w1.heap.size, 1, none⟩ = some (.int .i64 0) := cell_of_row _ _ 1 _ _ (0, 0) HX1.out; have d2 : (w1.alloc (.cells #[.int .i64 5, .int .i64 0, .string ⟨#[]⟩, .string ⟨#[]⟩, .slice none 0 0] 43)).cell? ⟨w1.heap.size, 2, none⟩ = some (.string ⟨#[]⟩) := cell_of_row _ _ 2 _ _ (0, 0) HX1.out; have d3 : (w1.alloc (.cells #[.int .i64 5, .int .i64 0, .string ⟨#[]⟩, .string ⟨#[]⟩, .slice none 0 0] 43)).cell? ⟨w1.heap.size, 3, none⟩ = some (.string ⟨#[]⟩) := cell_of_row _ _ 3 _ _ (0, 0) HX1.out; have d4 : (w1.alloc (.cells #[.int .i64 5, .int .i64 0, .string ⟨#[]⟩, .string ⟨#[]⟩, .slice none 0 0] 43)).cell? ⟨w1.heap.size, 4, none⟩ = some (.slice none 0 0) := cell_of_row _ _ 4 _ _ (0, 0) HX1.out; have df0 : (w1.alloc (.cells #[.int .i64 5, .int .i64 0, .string ⟨#[]⟩, .string ⟨#[]⟩, .slice none 0 0] 43)).frozen? ⟨w1.heap.size, 0, none⟩ = false := frz HX1.out; have df1 : (w1.alloc (.cells #[.int .i64 5, .int .i64 0, .string ⟨#[]⟩, .string ⟨#[]⟩, .slice none 0 0] 43)).frozen? ⟨w1.heap.size, 1, none⟩ = false := frz HX1.out; have df2 : (w1.alloc (.cells #[.int .i64 5, .int .i64 0, .string ⟨#[]⟩, .string ⟨#[]⟩, .slice none 0 0] 43)).frozen? ⟨w1.heap.size, 2, none⟩ = false := frz HX1.out; have df3 : (w1.alloc (.cells #[.int .i64 5, .int .i64 0, .string ⟨#[]⟩, .string ⟨#[]⟩, .slice none 0 0] 43)).frozen? ⟨w1.heap.size, 3, none⟩ = false := frz HX1.out; have df4 : (w1.alloc (.cells #[.int .i64 5, .int .i64 0, .string ⟨#[]⟩, .string ⟨#[]⟩, .slice none 0 0] 43)).frozen? ⟨w1.heap.size, 4, none⟩ = false := frz HX1.out; have c0 : w1.cell? ⟨W.heap.size, 0, none⟩ = some (.int .i64 0) := cell_of_row _ _ 0 _ _ (0, 0) HZ1.out; have c1 : w1.cell? ⟨W.heap.size, 1, none⟩ = some (.int .i64 0) := cell_of_row _ _ 1 _ _ (0, 0) HZ1.out; have c2 : w1.cell? ⟨W.heap.size, 2, none⟩ = some (.string ⟨#[]⟩) := cell_of_row _ _ 2 _ _ (0, 0) HZ1.out; have c3 : w1.cell? ⟨W.heap.size, 3, none⟩ = some (.string ⟨#[]⟩) := cell_of_row _ _ 3 _ _ (0, 0) HZ1.out; have c4 : w1.cell? ⟨W.heap.size, 4, none⟩ = some (.slice none 0 0) := cell_of_row _ _ 4 _ _ (0, 0) HZ1.out; have cf0 : w1.frozen? ⟨W.heap.size, 0, none⟩ = false := frz HZ1.out; have cf1 : w1.frozen? ⟨W.heap.size, 1, none⟩ = false := frz HZ1.out; have cf2 : w1.frozen? ⟨W.heap.size, 2, none⟩ = false := frz HZ1.out; have cf3 : w1.frozen? ⟨W.heap.size, 3, none⟩ = false := frz HZ1.out; have cf4 : w1.frozen? ⟨W.heap.size, 4, none⟩ = false := frz HZ1.out; have HRW := Lib.hid hr1; have HGW := Lib.hid (grown_trans HG0.out hg1); clear hr1 hg1; have done1 := trivial)
      have HFIN := fin5 HRW.out HGW.out hgW hBW HZ1.out (.int .i64 5) (.int .i64 0) (.string ⟨#[]⟩) (.string ⟨#[]⟩) (.slice none 0 0)
      have hrw := (heap_alloc_old _ (.cells #[.int .i64 5, .int .i64 0, .string ⟨#[]⟩, .string ⟨#[]⟩, .slice none 0 0] 43) (in_heap HFIN.2.2.2.2)).trans HFIN.2.2.2.2
      have q0 : ((((((w1.setCell ⟨W.heap.size, 0, none⟩ (.int .i64 5)).setCell ⟨W.heap.size, 1, none⟩ (.int .i64 0)).setCell ⟨W.heap.size, 2, none⟩ (.string ⟨#[]⟩)).setCell ⟨W.heap.size, 3, none⟩ (.string ⟨#[]⟩)).setCell ⟨W.heap.size, 4, none⟩ (.slice none 0 0)).alloc (.cells #[.int .i64 5, .int .i64 0, .string ⟨#[]⟩, .string ⟨#[]⟩, .slice none 0 0] 43)).cell? ⟨W.heap.size, 0, none⟩ = some (.int .i64 5) := cell_of_row _ _ 0 _ _ (0, 0) hrw
      have q1 : ((((((w1.setCell ⟨W.heap.size, 0, none⟩ (.int .i64 5)).setCell ⟨W.heap.size, 1, none⟩ (.int .i64 0)).setCell ⟨W.heap.size, 2, none⟩ (.string ⟨#[]⟩)).setCell ⟨W.heap.size, 3, none⟩ (.string ⟨#[]⟩)).setCell ⟨W.heap.size, 4, none⟩ (.slice none 0 0)).alloc (.cells #[.int .i64 5, .int .i64 0, .string ⟨#[]⟩, .string ⟨#[]⟩, .slice none 0 0] 43)).cell? ⟨W.heap.size, 1, none⟩ = some (.int .i64 0) := cell_of_row _ _ 1 _ _ (0, 0) hrw
      have q2 : ((((((w1.setCell ⟨W.heap.size, 0, none⟩ (.int .i64 5)).setCell ⟨W.heap.size, 1, none⟩ (.int .i64 0)).setCell ⟨W.heap.size, 2, none⟩ (.string ⟨#[]⟩)).setCell ⟨W.heap.size, 3, none⟩ (.string ⟨#[]⟩)).setCell ⟨W.heap.size, 4, none⟩ (.slice none 0 0)).alloc (.cells #[.int .i64 5, .int .i64 0, .string ⟨#[]⟩, .string ⟨#[]⟩, .slice none 0 0] 43)).cell? ⟨W.heap.size, 2, none⟩ = some (.string ⟨#[]⟩) := cell_of_row _ _ 2 _ _ (0, 0) hrw
      have q3 : ((((((w1.setCell ⟨W.heap.size, 0, none⟩ (.int .i64 5)).setCell ⟨W.heap.size, 1, none⟩ (.int .i64 0)).setCell ⟨W.heap.size, 2, none⟩ (.string ⟨#[]⟩)).setCell ⟨W.heap.size, 3, none⟩ (.string ⟨#[]⟩)).setCell ⟨W.heap.size, 4, none⟩ (.slice none 0 0)).alloc (.cells #[.int .i64 5, .int .i64 0, .string ⟨#[]⟩, .string ⟨#[]⟩, .slice none 0 0] 43)).cell? ⟨W.heap.size, 3, none⟩ = some (.string ⟨#[]⟩) := cell_of_row _ _ 3 _ _ (0, 0) hrw
      have q4 : ((((((w1.setCell ⟨W.heap.size, 0, none⟩ (.int .i64 5)).setCell ⟨W.heap.size, 1, none⟩ (.int .i64 0)).setCell ⟨W.heap.size, 2, none⟩ (.string ⟨#[]⟩)).setCell ⟨W.heap.size, 3, none⟩ (.string ⟨#[]⟩)).setCell ⟨W.heap.size, 4, none⟩ (.slice none 0 0)).alloc (.cells #[.int .i64 5, .int .i64 0, .string ⟨#[]⟩, .string ⟨#[]⟩, .slice none 0 0] 43)).cell? ⟨W.heap.size, 4, none⟩ = some (.slice none 0 0) := cell_of_row _ _ 4 _ _ (0, 0) hrw
      refine bodyPost_ret (v := .agg #[.int .i64 5, .int .i64 0, .string ⟨#[]⟩, .string ⟨#[]⟩, .slice none 0 0]) (by simp [results, Try.results43, go_sem, q0, q1, q2, q3, q4]) rfl ?_
      exact ⟨rcs 5 0 ⟨#[]⟩ ⟨#[]⟩ none 0 0, rfl, RdP.leaf _ _ 5 0 ⟨#[]⟩ ⟨#[]⟩ (by omega) (by omega) (Nat.zero_le _) (Nat.zero_le _), HFIN.1.below ((Below.refl _ _).alloc (Nat.le_refl _) _) (Nat.lt_of_lt_of_le hgW HFIN.2.1.size), grown_trans HFIN.2.1 (grown_alloc _ _ _)⟩
    · have HRR : Hid (RR = (.mk 6 0 (S8 (Rm.text r1).1) (S8 (Rm.text (Rm.text r1).2).1) [], (Rm.text (Rm.text r1).2).2)) := Lib.hid (by rw [HMD.out]; rfl)
      rw [HRR.out]
      have hrl := HBL.out
      clear HMD
      go_enter Try.func43, Try.ntmps43
      go_wp2_with (first
        | (have hd := done2; clear done2; go_at_call 62; (with_reducible refine (text_any g B _ _ GS4.out.r).mono ?_); rintro e w4 ⟨rfl, hr4, hg4⟩; have GS5 := Lib.hid (GS4.out.call hg4 hr4 hgW); clear hr4 hg4 d0 d1 d2 d3 d4 df0 df1 df2 df3 df4 c0 c1 c2 c3 c4 cf0 cf1 cf2 cf3 cf4; have HX5 : Hid (w4.heap[w1.heap.size]? = some (.cells #[.int .i64 6, .int .i64 0, .string (S8 (Rm.text r1).1), .string ⟨#[]⟩, .slice none 0 0] 43)) := Lib.hid GS5.out.x; have d0 : w4.cell? ⟨w1.heap.size, 0, none⟩ = some (.int .i64 6) := cell_of_row _ _ 0 _ _ (0, 0) HX5.out; have d1 : w4.cell? ⟨w1.heap.size, 1, none⟩ = some (.int .i64 0) := cell_of_row _ _ 1 _ _ (0, 0) HX5.out; have d2 : w4.cell? ⟨w1.heap.size, 2, none⟩ = some (.string (S8 (Rm.text r1).1)) := cell_of_row _ _ 2 _ _ (0, 0) HX5.out; have d3 : w4.cell? ⟨w1.heap.size, 3, none⟩ = some (.string ⟨#[]⟩) := cell_of_row _ _ 3 _ _ (0, 0) HX5.out; have d4 : w4.cell? ⟨w1.heap.size, 4, none⟩ = some (.slice none 0 0) := cell_of_row _ _ 4 _ _ (0, 0) HX5.out; have df0 : w4.frozen? ⟨w1.heap.size, 0, none⟩ = false := frz HX5.out; have df1 : w4.frozen? ⟨w1.heap.size, 1, none⟩ = false := frz HX5.out; have df2 : w4.frozen? ⟨w1.heap.size, 2, none⟩ = false := frz HX5.out; have df3 : w4.frozen? ⟨w1.heap.size, 3, none⟩ = false := frz HX5.out; have df4 : w4.frozen? ⟨w1.heap.size, 4, none⟩ = false := frz HX5.out; have GS6 := Lib.hid (GS5.out.set hgW hBW 3 (.string (S8 (Rm.text (Rm.text r1).2).1))); have HX6 : Hid ((w4.setCell ⟨w1.heap.size, 3, none⟩ (.string (S8 (Rm.text (Rm.text r1).2).1))).heap[w1.heap.size]? = some (.cells #[.int .i64 6, .int .i64 0, .string (S8 (Rm.text r1).1), .string (S8 (Rm.text (Rm.text r1).2).1), .slice none 0 0] 43)) := Lib.hid GS6.out.x; have x0 : (w4.setCell ⟨w1.heap.size, 3, none⟩ (.string (S8 (Rm.text (Rm.text r1).2).1))).cell? ⟨w1.heap.size, 0, none⟩ = some (.int .i64 6) := cell_of_row _ _ 0 _ _ (0, 0) HX6.out; have x1 : (w4.setCell ⟨w1.heap.size, 3, none⟩ (.string (S8 (Rm.text (Rm.text r1).2).1))).cell? ⟨w1.heap.size, 1, none⟩ = some (.int .i64 0) := cell_of_row _ _ 1 _ _ (0, 0) HX6.out; have x2 : (w4.setCell ⟨w1.heap.size, 3, none⟩ (.string (S8 (Rm.text (Rm.text r1).2).1))).cell? ⟨w1.heap.size, 2, none⟩ = some (.string (S8 (Rm.text r1).1)) := cell_of_row _ _ 2 _ _ (0, 0) HX6.out; have x3 : (w4.setCell ⟨w1.heap.size, 3, none⟩ (.string (S8 (Rm.text (Rm.text r1).2).1))).cell? ⟨w1.heap.size, 3, none⟩ = some (.string (S8 (Rm.text (Rm.text r1).2).1)) := cell_of_row _ _ 3 _ _ (0, 0) HX6.out; have x4 : (w4.setCell ⟨w1.heap.size, 3, none⟩ (.string (S8 (Rm.text (Rm.text r1).2).1))).cell? ⟨w1.heap.size, 4, none⟩ = some (.slice none 0 0) := cell_of_row _ _ 4 _ _ (0, 0) HX6.out; have xf0 : (w4.setCell ⟨w1.heap.size, 3, none⟩ (.string (S8 (Rm.text (Rm.text r1).2).1))).frozen? ⟨w1.heap.size, 0, none⟩ = false := frz HX6.out; have xf1 : (w4.setCell ⟨w1.heap.size, 3, none⟩ (.string (S8 (Rm.text (Rm.text r1).2).1))).frozen? ⟨w1.heap.size, 1, none⟩ = false := frz HX6.out; have xf2 : (w4.setCell ⟨w1.heap.size, 3, none⟩ (.string (S8 (Rm.text (Rm.text r1).2).1))).frozen? ⟨w1.heap.size, 2, none⟩ = false := frz HX6.out; have xf3 : (w4.setCell ⟨w1.heap.size, 3, none⟩ (.string (S8 (Rm.text (Rm.text r1).2).1))).frozen? ⟨w1.heap.size, 3, none⟩ = false := frz HX6.out; have xf4 : (w4.setCell ⟨w1.heap.size, 3, none⟩ (.string (S8 (Rm.text (Rm.text r1).2).1))).frozen? ⟨w1.heap.size, 4, none⟩ = false := frz HX6.out; have HZ6 := Lib.hid GS6.out.z; have c0 : (w4.setCell ⟨w1.heap.size, 3, none⟩ (.string (S8 (Rm.text (Rm.text r1).2).1))).cell? ⟨W.heap.size, 0, none⟩ = some (.int .i64 0) := cell_of_row _ _ 0 _ _ (0, 0) HZ6.out; have c1 : (w4.setCell ⟨w1.heap.size, 3, none⟩ (.string (S8 (Rm.text (Rm.text r1).2).1))).cell? ⟨W.heap.size, 1, none⟩ = some (.int .i64 0) := cell_of_row _ _ 1 _ _ (0, 0) HZ6.out; have c2 : (w4.setCell ⟨w1.heap.size, 3, none⟩ (.string (S8 (Rm.text (Rm.text r1).2).1))).cell? ⟨W.heap.size, 2, none⟩ = some (.string ⟨#[]⟩) := cell_of_row _ _ 2 _ _ (0, 0) HZ6.out; have c3 : (w4.setCell ⟨w1.heap.size, 3, none⟩ (.string (S8 (Rm.text (Rm.text r1).2).1))).cell? ⟨W.heap.size, 3, none⟩ = some (.string ⟨#[]⟩) := cell_of_row _ _ 3 _ _ (0, 0) HZ6.out; have c4 : (w4.setCell ⟨w1.heap.size, 3, none⟩ (.string (S8 (Rm.text (Rm.text r1).2).1))).cell? ⟨W.heap.size, 4, none⟩ = some (.slice none 0 0) := cell_of_row _ _ 4 _ _ (0, 0) HZ6.out; have cf0 : (w4.setCell ⟨w1.heap.size, 3, none⟩ (.string (S8 (Rm.text (Rm.text r1).2).1))).frozen? ⟨W.heap.size, 0, none⟩ = false := frz HZ6.out; have cf1 : (w4.setCell ⟨w1.heap.size, 3, none⟩ (.string (S8 (Rm.text (Rm.text r1).2).1))).frozen? ⟨W.heap.size, 1, none⟩ = false := frz HZ6.out; have cf2 : (w4.setCell ⟨w1.heap.size, 3, none⟩ (.string (S8 (Rm.text (Rm.text r1).2).1))).frozen? ⟨W.heap.size, 2, none⟩ = false := frz HZ6.out; have cf3 : (w4.setCell ⟨w1.heap.size, 3, none⟩ (.string (S8 (Rm.text (Rm.text r1).2).1))).frozen? ⟨W.heap.size, 3, none⟩ = false := frz HZ6.out; have cf4 : (w4.setCell ⟨w1.heap.size, 3, none⟩ (.string (S8 (Rm.text (Rm.text r1).2).1))).frozen? ⟨W.heap.size, 4, none⟩ = false := frz HZ6.out; have done3 := trivial)
        | (have hd := done1; clear done1; go_at_call 62; (with_reducible refine (text_any g B r1 _ GS.out.r).mono ?_); rintro e w3 ⟨rfl, hr3, hg3⟩; have GS3 := Lib.hid (GS.out.call hg3 hr3 hgW); clear hr3 hg3 d0 d1 d2 d3 d4 df0 df1 df2 df3 df4; have HX3 := Lib.hid GS3.out.x; have d0 : w3.cell? ⟨w1.heap.size, 0, none⟩ = some (.int .i64 6) := cell_of_row _ _ 0 _ _ (0, 0) HX3.out; have d1 : w3.cell? ⟨w1.heap.size, 1, none⟩ = some (.int .i64 0) := cell_of_row _ _ 1 _ _ (0, 0) HX3.out; have d2 : w3.cell? ⟨w1.heap.size, 2, none⟩ = some (.string ⟨#[]⟩) := cell_of_row _ _ 2 _ _ (0, 0) HX3.out; have d3 : w3.cell? ⟨w1.heap.size, 3, none⟩ = some (.string ⟨#[]⟩) := cell_of_row _ _ 3 _ _ (0, 0) HX3.out; have d4 : w3.cell? ⟨w1.heap.size, 4, none⟩ = some (.slice none 0 0) := cell_of_row _ _ 4 _ _ (0, 0) HX3.out; have df0 : w3.frozen? ⟨w1.heap.size, 0, none⟩ = false := frz HX3.out; have df1 : w3.frozen? ⟨w1.heap.size, 1, none⟩ = false := frz HX3.out; have df2 : w3.frozen? ⟨w1.heap.size, 2, none⟩ = false := frz HX3.out; have df3 : w3.frozen? ⟨w1.heap.size, 3, none⟩ = false := frz HX3.out; have df4 : w3.frozen? ⟨w1.heap.size, 4, none⟩ = false := frz HX3.out; have GS4 := Lib.hid (GS3.out.set hgW hBW 2 (.string (S8 (Rm.text r1).1))); have done2 := trivial)
        | (go_at_call 61; (with_reducible refine (HBY.out).mono ?_); rintro e w1 ⟨rfl, hr1, hg1⟩; have HZ1 := Lib.hid ((hg1.block _ (by simp) (by intro e; injection e with e; omega)).trans HZ.out); have GS := Lib.hid (GeSt.start hr1 HZ1.out (grown_trans HG0.out hg1) hgW #[.int .i64 6, .int .i64 0, .string ⟨#[]⟩, .string ⟨#[]⟩, .slice none 0 0]); have HX1 := Lib.hid (GS.out.x); have hlt := GS.out.lt; have d0 : (w1.alloc (.cells #[.int .i64 6, .int .i64 0, .string ⟨#[]⟩, .string ⟨#[]⟩, .slice none 0 0] 43)).cell? ⟨w1.heap.size, 0, none⟩ = some (.int .i64 6) := cell_of_row _ _ 0 _ _ (0, 0) HX1.out; have d1 : (w1.alloc (.cells #[.int .i64 6, .int .i64 0, .string ⟨#[]⟩, .string ⟨#[]⟩, .slice none 0 0] 43)).cell? ⟨w1.heap.size, 1, none⟩ = some (.int .i64 0) := cell_of_row _ _ 1 _ _ (0, 0) HX1.out; have d2 : (w1.alloc (.cells #[.int .i64 6, .int .i64 0, .string ⟨#[]⟩, .string ⟨#[]⟩, .slice none 0 0] 43)).cell? ⟨w1.heap.size, 2, none⟩ = some (.string ⟨#[]⟩) := cell_of_row _ _ 2 _ _ (0, 0) HX1.out; have d3 : (w1.alloc (.cells #[.int .i64 6, .int .i64 0, .string ⟨#[]⟩, .string ⟨#[]⟩, .slice none 0 0] 43)).cell? ⟨w1.heap.size, 3, none⟩ = some (.string ⟨#[]⟩) := cell_of_row _ _ 3 _ _ (0, 0) HX1.out; have d4 : (w1.alloc (.cells #[.int .i64 6, .int .i64 0, .string ⟨#[]⟩, .string ⟨#[]⟩, .slice none 0 0] 43)).cell? ⟨w1.heap.size, 4, none⟩ = some (.slice none 0 0) := cell_of_row _ _ 4 _ _ (0, 0) HX1.out; have df0 : (w1.alloc (.cells #[.int .i64 6, .int .i64 0, .string ⟨#[]⟩, .string ⟨#[]⟩, .slice none 0 0] 43)).frozen? ⟨w1.heap.size, 0, none⟩ = false := frz HX1.out; have df1 : (w1.alloc (.cells #[.int .i64 6, .int .i64 0, .string ⟨#[]⟩, .string ⟨#[]⟩, .slice none 0 0] 43)).frozen? ⟨w1.heap.size, 1, none⟩ = false := frz HX1.out; have df2 : (w1.alloc (.cells #[.int .i64 6, .int .i64 0, .string ⟨#[]⟩, .string ⟨#[]⟩, .slice none 0 0] 43)).frozen? ⟨w1.heap.size, 2, none⟩ = false := frz HX1.out; have df3 : (w1.alloc (.cells #[.int .i64 6, .int .i64 0, .string ⟨#[]⟩, .string ⟨#[]⟩, .slice none 0 0] 43)).frozen? ⟨w1.heap.size, 3, none⟩ = false := frz HX1.out; have df4 : (w1.alloc (.cells #[.int .i64 6, .int .i64 0, .string ⟨#[]⟩, .string ⟨#[]⟩, .slice none 0 0] 43)).frozen? ⟨w1.heap.size, 4, none⟩ = false := frz HX1.out; have c0 : w1.cell? ⟨W.heap.size, 0, none⟩ = some (.int .i64 0) := cell_of_row _ _ 0 _ _ (0, 0) HZ1.out; have c1 : w1.cell? ⟨W.heap.size, 1, none⟩ = some (.int .i64 0) := cell_of_row _ _ 1 _ _ (0, 0) HZ1.out; have c2 : w1.cell? ⟨W.heap.size, 2, none⟩ = some (.string ⟨#[]⟩) := cell_of_row _ _ 2 _ _ (0, 0) HZ1.out; have c3 : w1.cell? ⟨W.heap.size, 3, none⟩ = some (.string ⟨#[]⟩) := cell_of_row _ _ 3 _ _ (0, 0) HZ1.out; have c4 : w1.cell? ⟨W.heap.size, 4, none⟩ = some (.slice none 0 0) := cell_of_row _ _ 4 _ _ (0, 0) HZ1.out; have cf0 : w1.frozen? ⟨W.heap.size, 0, none⟩ = false := frz HZ1.out; have cf1 : w1.frozen? ⟨W.heap.size, 1, none⟩ = false := frz HZ1.out; have cf2 : w1.frozen? ⟨W.heap.size, 2, none⟩ = false := frz HZ1.out; have cf3 : w1.frozen? ⟨W.heap.size, 3, none⟩ = false := frz HZ1.out; have cf4 : w1.frozen? ⟨W.heap.size, 4, none⟩ = false := frz HZ1.out; have HRW := Lib.hid hr1; have HGW := Lib.hid (grown_trans HG0.out hg1); clear hr1 hg1; have done1 := trivial))
      have HFIN := fin5 GS6.out.r GS6.out.gr hgW hBW GS6.out.z (.int .i64 6) (.int .i64 0) (.string (S8 (Rm.text r1).1)) (.string (S8 (Rm.text (Rm.text r1).2).1)) (.slice none 0 0)
      have hrw := HFIN.2.2.2.2
      have q0 : ((((((w4.setCell ⟨w1.heap.size, 3, none⟩ (.string (S8 (Rm.text (Rm.text r1).2).1))).setCell ⟨W.heap.size, 0, none⟩ (.int .i64 6)).setCell ⟨W.heap.size, 1, none⟩ (.int .i64 0)).setCell ⟨W.heap.size, 2, none⟩ (.string (S8 (Rm.text r1).1))).setCell ⟨W.heap.size, 3, none⟩ (.string (S8 (Rm.text (Rm.text r1).2).1))).setCell ⟨W.heap.size, 4, none⟩ (.slice none 0 0)).cell? ⟨W.heap.size, 0, none⟩ = some (.int .i64 6) := cell_of_row _ _ 0 _ _ (0, 0) hrw
      have q1 : ((((((w4.setCell ⟨w1.heap.size, 3, none⟩ (.string (S8 (Rm.text (Rm.text r1).2).1))).setCell ⟨W.heap.size, 0, none⟩ (.int .i64 6)).setCell ⟨W.heap.size, 1, none⟩ (.int .i64 0)).setCell ⟨W.heap.size, 2, none⟩ (.string (S8 (Rm.text r1).1))).setCell ⟨W.heap.size, 3, none⟩ (.string (S8 (Rm.text (Rm.text r1).2).1))).setCell ⟨W.heap.size, 4, none⟩ (.slice none 0 0)).cell? ⟨W.heap.size, 1, none⟩ = some (.int .i64 0) := cell_of_row _ _ 1 _ _ (0, 0) hrw
      have q2 : ((((((w4.setCell ⟨w1.heap.size, 3, none⟩ (.string (S8 (Rm.text (Rm.text r1).2).1))).setCell ⟨W.heap.size, 0, none⟩ (.int .i64 6)).setCell ⟨W.heap.size, 1, none⟩ (.int .i64 0)).setCell ⟨W.heap.size, 2, none⟩ (.string (S8 (Rm.text r1).1))).setCell ⟨W.heap.size, 3, none⟩ (.string (S8 (Rm.text (Rm.text r1).2).1))).setCell ⟨W.heap.size, 4, none⟩ (.slice none 0 0)).cell? ⟨W.heap.size, 2, none⟩ = some (.string (S8 (Rm.text r1).1)) := cell_of_row _ _ 2 _ _ (0, 0) hrw
      have q3 : ((((((w4.setCell ⟨w1.heap.size, 3, none⟩ (.string (S8 (Rm.text (Rm.text r1).2).1))).setCell ⟨W.heap.size, 0, none⟩ (.int .i64 6)).setCell ⟨W.heap.size, 1, none⟩ (.int .i64 0)).setCell ⟨W.heap.size, 2, none⟩ (.string (S8 (Rm.text r1).1))).setCell ⟨W.heap.size, 3, none⟩ (.string (S8 (Rm.text (Rm.text r1).2).1))).setCell ⟨W.heap.size, 4, none⟩ (.slice none 0 0)).cell? ⟨W.heap.size, 3, none⟩ = some (.string (S8 (Rm.text (Rm.text r1).2).1)) := cell_of_row _ _ 3 _ _ (0, 0) hrw
      have q4 : ((((((w4.setCell ⟨w1.heap.size, 3, none⟩ (.string (S8 (Rm.text (Rm.text r1).2).1))).setCell ⟨W.heap.size, 0, none⟩ (.int .i64 6)).setCell ⟨W.heap.size, 1, none⟩ (.int .i64 0)).setCell ⟨W.heap.size, 2, none⟩ (.string (S8 (Rm.text r1).1))).setCell ⟨W.heap.size, 3, none⟩ (.string (S8 (Rm.text (Rm.text r1).2).1))).setCell ⟨W.heap.size, 4, none⟩ (.slice none 0 0)).cell? ⟨W.heap.size, 4, none⟩ = some (.slice none 0 0) := cell_of_row _ _ 4 _ _ (0, 0) hrw
      refine bodyPost_ret (v := .agg #[.int .i64 6, .int .i64 0, .string (S8 (Rm.text r1).1), .string (S8 (Rm.text (Rm.text r1).2).1), .slice none 0 0]) (by simp [results, Try.results43, go_sem, q0, q1, q2, q3, q4]) rfl ?_
      exact ⟨rcs 6 0 (S8 (Rm.text r1).1) (S8 (Rm.text (Rm.text r1).2).1) none 0 0, rfl, RdP.leaf _ _ 6 0 (S8 (Rm.text r1).1) (S8 (Rm.text (Rm.text r1).2).1) (by omega) (by omega) (by rw [S8_sz]; have h := (text_ln r1).1; have h2 := hrl; unfold maxLen; omega) (by rw [S8_sz]; have h := (text_ln (Rm.text r1).2).1; have h3 := (text_ln r1).2; have h2 := hrl; unfold maxLen; omega), HFIN.1, HFIN.2.1⟩
    · have HRR : Hid (RR = (.mk 1 0 ⟨#[]⟩ ⟨#[]⟩ (Rm.rulL (Rm.rul D) (Rm.num r1).1 (Rm.num r1).2 []).1, (Rm.rulL (Rm.rul D) (Rm.num r1).1 (Rm.num r1).2 []).2)) := Lib.hid (by rw [HMD.out]; rfl)
      obtain ⟨LL, hLL⟩ : ∃ LL, Rm.rulL (Rm.rul D) (Rm.num r1).1 (Rm.num r1).2 [] = LL := ⟨_, rfl⟩
      have HLL0 := Lib.hid hLL
      rw [hLL] at HRR
      rw [HRR.out]
      have HNB := Lib.hid (num_lt r1)
      have HRL2 := Lib.hid (Nat.le_trans (num_ln r1) HRL.out)
      clear HMD HRR hLL
      go_enter Try.func43, Try.ntmps43
      go_wp2_with (first
        | (have hd := done1; clear done1; go_at_call 63; (with_reducible refine (num_any g B r1 _ GS.out.r).mono ?_); rintro e w3 ⟨rfl, hr3, hg3⟩; have GS3 := Lib.hid (GS.out.call hg3 hr3 hgW); have hlt3 := Nat.lt_of_lt_of_le (show w1.heap.size < (w1.alloc (.cells #[.int .i64 1, .int .i64 0, .string ⟨#[]⟩, .string ⟨#[]⟩, .slice none 0 0] 43)).heap.size from (by simp)) hg3.size; clear hr3 hg3 d0 d1 d2 d3 d4 df0 df1 df2 df3 df4 c0 c1 c2 c3 c4 cf0 cf1 cf2 cf3 cf4 HX1)
        | (go_at_call 61; (with_reducible refine (HBY.out).mono ?_); rintro e w1 ⟨rfl, hr1, hg1⟩; have HZ1 := Lib.hid ((hg1.block _ (by simp) (by intro e; injection e with e; omega)).trans HZ.out); have GS := Lib.hid (GeSt.start hr1 HZ1.out (grown_trans HG0.out hg1) hgW #[.int .i64 1, .int .i64 0, .string ⟨#[]⟩, .string ⟨#[]⟩, .slice none 0 0]); have HX1 := Lib.hid (GS.out.x); have hlt := GS.out.lt; have d0 : (w1.alloc (.cells #[.int .i64 1, .int .i64 0, .string ⟨#[]⟩, .string ⟨#[]⟩, .slice none 0 0] 43)).cell? ⟨w1.heap.size, 0, none⟩ = some (.int .i64 1) := cell_of_row _ _ 0 _ _ (0, 0) HX1.out; have d1 : (w1.alloc (.cells #[.int .i64 1, .int .i64 0, .string ⟨#[]⟩, .string ⟨#[]⟩, .slice none 0 0] 43)).cell? ⟨w1.heap.size, 1, none⟩ = some (.int .i64 0) := cell_of_row _ _ 1 _ _ (0, 0) HX1.out; have d2 : (w1.alloc (.cells #[.int .i64 1, .int .i64 0, .string ⟨#[]⟩, .string ⟨#[]⟩, .slice none 0 0] 43)).cell? ⟨w1.heap.size, 2, none⟩ = some (.string ⟨#[]⟩) := cell_of_row _ _ 2 _ _ (0, 0) HX1.out; have d3 : (w1.alloc (.cells #[.int .i64 1, .int .i64 0, .string ⟨#[]⟩, .string ⟨#[]⟩, .slice none 0 0] 43)).cell? ⟨w1.heap.size, 3, none⟩ = some (.string ⟨#[]⟩) := cell_of_row _ _ 3 _ _ (0, 0) HX1.out; have d4 : (w1.alloc (.cells #[.int .i64 1, .int .i64 0, .string ⟨#[]⟩, .string ⟨#[]⟩, .slice none 0 0] 43)).cell? ⟨w1.heap.size, 4, none⟩ = some (.slice none 0 0) := cell_of_row _ _ 4 _ _ (0, 0) HX1.out; have df0 : (w1.alloc (.cells #[.int .i64 1, .int .i64 0, .string ⟨#[]⟩, .string ⟨#[]⟩, .slice none 0 0] 43)).frozen? ⟨w1.heap.size, 0, none⟩ = false := frz HX1.out; have df1 : (w1.alloc (.cells #[.int .i64 1, .int .i64 0, .string ⟨#[]⟩, .string ⟨#[]⟩, .slice none 0 0] 43)).frozen? ⟨w1.heap.size, 1, none⟩ = false := frz HX1.out; have df2 : (w1.alloc (.cells #[.int .i64 1, .int .i64 0, .string ⟨#[]⟩, .string ⟨#[]⟩, .slice none 0 0] 43)).frozen? ⟨w1.heap.size, 2, none⟩ = false := frz HX1.out; have df3 : (w1.alloc (.cells #[.int .i64 1, .int .i64 0, .string ⟨#[]⟩, .string ⟨#[]⟩, .slice none 0 0] 43)).frozen? ⟨w1.heap.size, 3, none⟩ = false := frz HX1.out; have df4 : (w1.alloc (.cells #[.int .i64 1, .int .i64 0, .string ⟨#[]⟩, .string ⟨#[]⟩, .slice none 0 0] 43)).frozen? ⟨w1.heap.size, 4, none⟩ = false := frz HX1.out; have c0 : w1.cell? ⟨W.heap.size, 0, none⟩ = some (.int .i64 0) := cell_of_row _ _ 0 _ _ (0, 0) HZ1.out; have c1 : w1.cell? ⟨W.heap.size, 1, none⟩ = some (.int .i64 0) := cell_of_row _ _ 1 _ _ (0, 0) HZ1.out; have c2 : w1.cell? ⟨W.heap.size, 2, none⟩ = some (.string ⟨#[]⟩) := cell_of_row _ _ 2 _ _ (0, 0) HZ1.out; have c3 : w1.cell? ⟨W.heap.size, 3, none⟩ = some (.string ⟨#[]⟩) := cell_of_row _ _ 3 _ _ (0, 0) HZ1.out; have c4 : w1.cell? ⟨W.heap.size, 4, none⟩ = some (.slice none 0 0) := cell_of_row _ _ 4 _ _ (0, 0) HZ1.out; have cf0 : w1.frozen? ⟨W.heap.size, 0, none⟩ = false := frz HZ1.out; have cf1 : w1.frozen? ⟨W.heap.size, 1, none⟩ = false := frz HZ1.out; have cf2 : w1.frozen? ⟨W.heap.size, 2, none⟩ = false := frz HZ1.out; have cf3 : w1.frozen? ⟨W.heap.size, 3, none⟩ = false := frz HZ1.out; have cf4 : w1.frozen? ⟨W.heap.size, 4, none⟩ = false := frz HZ1.out; have HRW := Lib.hid hr1; have HGW := Lib.hid (grown_trans HG0.out hg1); clear hr1 hg1; have done1 := trivial))
      have hlb : W.heap.size < w1.heap.size := hlt
      have hn63 : (Rm.num r1).1 ≤ 9223372036854775807 := HNB.out
      generalize hn0 : (Rm.num r1).1 = n0 at *
      generalize hr2 : (Rm.num r1).2 = r2 at *
      clear hn0 hr2
      go_loopw [6] (fun x wr => ∃ (nn : Nat) (rr : Rm.R) (L : List Kr) (V : Value), x = .int .i64 (nn : Int) ∧ nn ≤ n0 ∧ Hid (Rm.rulL (Rm.rul D) nn rr (L.map Kr.t) = LL) ∧ Hid (GeSt W wr B g w1.heap.size rr #[.int .i64 1, .int .i64 0, .string ⟨#[]⟩, .string ⟨#[]⟩, V]) ∧ Hid (OwnKids wr (w1.heap.size + 1) V L) ∧ Hid (rr.1.length ≤ 1000 ∧ L.length ≤ 1001 ∧ (rr.2 = false → L.length + rr.1.length ≤ 1000)) ∧ w1.heap.size + 1 ≤ wr.heap.size) (fun x _ => (intOf x).toNat)
      case atStart => exact ⟨n0, r2, [], .slice none 0 0, rfl, Nat.le_refl _, HLL0, GS3, Lib.hid (OwnKids.nil _ _), Lib.hid ⟨HRL2.out, by simp, fun _ => by simpa using HRL2.out⟩, hlt3⟩
      case round =>
        obtain ⟨nn, rr, L, V, rfl, hnn, HEQ, GJ, HOK, HLN, hwb⟩ := hrel
        have hcs : nn = 0 ∨ (0 < nn ∧ rr.2 = true) ∨ (0 < nn ∧ rr.2 = false) := by
          cases rr.2 <;> simp <;> omega
        obtain ⟨rest, bad⟩ := rr
        obtain ⟨⟨Ag, ng, cg, hgx, _⟩, _⟩ := GJ.out.r
        have gb : wr.cell? ⟨g, 1, none⟩ = some (.bool bad) := cell_of_row _ _ 1 _ _ (0, 0) hgx
        clear hgx
        rcases hcs with rfl | ⟨hpos, hbad⟩ | ⟨hpos, hbad⟩
        · have HEND : Hid (LL = (L.map Kr.t, (rest, bad))) := Lib.hid (by rw [← HEQ.out, Rm.rulL])
          obtain ⟨A, c, hV, hT⟩ := HOK.out.tree 1 0 ⟨#[]⟩ ⟨#[]⟩ (by omega) (by omega) (Nat.zero_le _) (Nat.zero_le _)
          subst hV
          have HT := Lib.hid hT
          have HXJ := Lib.hid GJ.out.x
          have HZJ := Lib.hid GJ.out.z
          have d0 : wr.cell? ⟨w1.heap.size, 0, none⟩ = some (.int .i64 1) := cell_of_row _ _ 0 _ _ (0, 0) HXJ.out
          have d1 : wr.cell? ⟨w1.heap.size, 1, none⟩ = some (.int .i64 0) := cell_of_row _ _ 1 _ _ (0, 0) HXJ.out
          have d2 : wr.cell? ⟨w1.heap.size, 2, none⟩ = some (.string ⟨#[]⟩) := cell_of_row _ _ 2 _ _ (0, 0) HXJ.out
          have d3 : wr.cell? ⟨w1.heap.size, 3, none⟩ = some (.string ⟨#[]⟩) := cell_of_row _ _ 3 _ _ (0, 0) HXJ.out
          have d4 : wr.cell? ⟨w1.heap.size, 4, none⟩ = some (.slice A L.length c) := cell_of_row _ _ 4 _ _ (0, 0) HXJ.out
          have c0 : wr.cell? ⟨W.heap.size, 0, none⟩ = some (.int .i64 0) := cell_of_row _ _ 0 _ _ (0, 0) HZJ.out
          have c1 : wr.cell? ⟨W.heap.size, 1, none⟩ = some (.int .i64 0) := cell_of_row _ _ 1 _ _ (0, 0) HZJ.out
          have c2 : wr.cell? ⟨W.heap.size, 2, none⟩ = some (.string ⟨#[]⟩) := cell_of_row _ _ 2 _ _ (0, 0) HZJ.out
          have c3 : wr.cell? ⟨W.heap.size, 3, none⟩ = some (.string ⟨#[]⟩) := cell_of_row _ _ 3 _ _ (0, 0) HZJ.out
          have c4 : wr.cell? ⟨W.heap.size, 4, none⟩ = some (.slice none 0 0) := cell_of_row _ _ 4 _ _ (0, 0) HZJ.out
          have cf0 : wr.frozen? ⟨W.heap.size, 0, none⟩ = false := frz HZJ.out
          have cf1 : wr.frozen? ⟨W.heap.size, 1, none⟩ = false := frz HZJ.out
          have cf2 : wr.frozen? ⟨W.heap.size, 2, none⟩ = false := frz HZJ.out
          have cf3 : wr.frozen? ⟨W.heap.size, 3, none⟩ = false := frz HZJ.out
          have cf4 : wr.frozen? ⟨W.heap.size, 4, none⟩ = false := frz HZJ.out
          have HFIN := Lib.hid (fin5 GJ.out.r GJ.out.gr hgW hBW GJ.out.z (.int .i64 1) (.int .i64 0) (.string ⟨#[]⟩) (.string ⟨#[]⟩) (.slice A L.length c))
          clear hT
          go_wp2_with fail
          have hrw := HFIN.out.2.2.2.2
          have q0 : (((((wr.setCell ⟨W.heap.size, 0, none⟩ (.int .i64 1)).setCell ⟨W.heap.size, 1, none⟩ (.int .i64 0)).setCell ⟨W.heap.size, 2, none⟩ (.string ⟨#[]⟩)).setCell ⟨W.heap.size, 3, none⟩ (.string ⟨#[]⟩)).setCell ⟨W.heap.size, 4, none⟩ (.slice A L.length c)).cell? ⟨W.heap.size, 0, none⟩ = some (.int .i64 1) := cell_of_row _ _ 0 _ _ (0, 0) hrw
          have q1 : (((((wr.setCell ⟨W.heap.size, 0, none⟩ (.int .i64 1)).setCell ⟨W.heap.size, 1, none⟩ (.int .i64 0)).setCell ⟨W.heap.size, 2, none⟩ (.string ⟨#[]⟩)).setCell ⟨W.heap.size, 3, none⟩ (.string ⟨#[]⟩)).setCell ⟨W.heap.size, 4, none⟩ (.slice A L.length c)).cell? ⟨W.heap.size, 1, none⟩ = some (.int .i64 0) := cell_of_row _ _ 1 _ _ (0, 0) hrw
          have q2 : (((((wr.setCell ⟨W.heap.size, 0, none⟩ (.int .i64 1)).setCell ⟨W.heap.size, 1, none⟩ (.int .i64 0)).setCell ⟨W.heap.size, 2, none⟩ (.string ⟨#[]⟩)).setCell ⟨W.heap.size, 3, none⟩ (.string ⟨#[]⟩)).setCell ⟨W.heap.size, 4, none⟩ (.slice A L.length c)).cell? ⟨W.heap.size, 2, none⟩ = some (.string ⟨#[]⟩) := cell_of_row _ _ 2 _ _ (0, 0) hrw
          have q3 : (((((wr.setCell ⟨W.heap.size, 0, none⟩ (.int .i64 1)).setCell ⟨W.heap.size, 1, none⟩ (.int .i64 0)).setCell ⟨W.heap.size, 2, none⟩ (.string ⟨#[]⟩)).setCell ⟨W.heap.size, 3, none⟩ (.string ⟨#[]⟩)).setCell ⟨W.heap.size, 4, none⟩ (.slice A L.length c)).cell? ⟨W.heap.size, 3, none⟩ = some (.string ⟨#[]⟩) := cell_of_row _ _ 3 _ _ (0, 0) hrw
          have q4 : (((((wr.setCell ⟨W.heap.size, 0, none⟩ (.int .i64 1)).setCell ⟨W.heap.size, 1, none⟩ (.int .i64 0)).setCell ⟨W.heap.size, 2, none⟩ (.string ⟨#[]⟩)).setCell ⟨W.heap.size, 3, none⟩ (.string ⟨#[]⟩)).setCell ⟨W.heap.size, 4, none⟩ (.slice A L.length c)).cell? ⟨W.heap.size, 4, none⟩ = some (.slice A L.length c) := cell_of_row _ _ 4 _ _ (0, 0) hrw
          refine bodyPost_ret (v := .agg #[.int .i64 1, .int .i64 0, .string ⟨#[]⟩, .string ⟨#[]⟩, .slice A L.length c]) (by simp [results, Try.results43, go_sem, q0, q1, q2, q3, q4]) rfl ?_
          rw [HEND.out]
          exact ⟨rcs 1 0 ⟨#[]⟩ ⟨#[]⟩ A L.length c, rfl, (HT.out.heap fun q hq => HFIN.out.2.2.1 q (by have := hlb; omega)).imp (fun q hq => ⟨by omega, by rw [HFIN.out.2.2.2.1]; exact hq.2⟩), HFIN.out.1, HFIN.out.2.1⟩
        · simp only at hbad
          subst hbad
          have HEND : Hid (LL = (L.map Kr.t, (rest, true))) := Lib.hid (by
            obtain ⟨n1, rfl⟩ : ∃ n1, nn = n1 + 1 := ⟨nn - 1, by omega⟩
            rw [← HEQ.out, Rm.rulL, if_pos rfl])
          obtain ⟨A, c, hV, hT⟩ := HOK.out.tree 1 0 ⟨#[]⟩ ⟨#[]⟩ (by omega) (by omega) (Nat.zero_le _) (Nat.zero_le _)
          subst hV
          have HT := Lib.hid hT
          have HXJ := Lib.hid GJ.out.x
          have HZJ := Lib.hid GJ.out.z
          have d0 : wr.cell? ⟨w1.heap.size, 0, none⟩ = some (.int .i64 1) := cell_of_row _ _ 0 _ _ (0, 0) HXJ.out
          have d1 : wr.cell? ⟨w1.heap.size, 1, none⟩ = some (.int .i64 0) := cell_of_row _ _ 1 _ _ (0, 0) HXJ.out
          have d2 : wr.cell? ⟨w1.heap.size, 2, none⟩ = some (.string ⟨#[]⟩) := cell_of_row _ _ 2 _ _ (0, 0) HXJ.out
          have d3 : wr.cell? ⟨w1.heap.size, 3, none⟩ = some (.string ⟨#[]⟩) := cell_of_row _ _ 3 _ _ (0, 0) HXJ.out
          have d4 : wr.cell? ⟨w1.heap.size, 4, none⟩ = some (.slice A L.length c) := cell_of_row _ _ 4 _ _ (0, 0) HXJ.out
          have c0 : wr.cell? ⟨W.heap.size, 0, none⟩ = some (.int .i64 0) := cell_of_row _ _ 0 _ _ (0, 0) HZJ.out
          have c1 : wr.cell? ⟨W.heap.size, 1, none⟩ = some (.int .i64 0) := cell_of_row _ _ 1 _ _ (0, 0) HZJ.out
          have c2 : wr.cell? ⟨W.heap.size, 2, none⟩ = some (.string ⟨#[]⟩) := cell_of_row _ _ 2 _ _ (0, 0) HZJ.out
          have c3 : wr.cell? ⟨W.heap.size, 3, none⟩ = some (.string ⟨#[]⟩) := cell_of_row _ _ 3 _ _ (0, 0) HZJ.out
          have c4 : wr.cell? ⟨W.heap.size, 4, none⟩ = some (.slice none 0 0) := cell_of_row _ _ 4 _ _ (0, 0) HZJ.out
          have cf0 : wr.frozen? ⟨W.heap.size, 0, none⟩ = false := frz HZJ.out
          have cf1 : wr.frozen? ⟨W.heap.size, 1, none⟩ = false := frz HZJ.out
          have cf2 : wr.frozen? ⟨W.heap.size, 2, none⟩ = false := frz HZJ.out
          have cf3 : wr.frozen? ⟨W.heap.size, 3, none⟩ = false := frz HZJ.out
          have cf4 : wr.frozen? ⟨W.heap.size, 4, none⟩ = false := frz HZJ.out
          have HFIN := Lib.hid (fin5 GJ.out.r GJ.out.gr hgW hBW GJ.out.z (.int .i64 1) (.int .i64 0) (.string ⟨#[]⟩) (.string ⟨#[]⟩) (.slice A L.length c))
          clear hT
          go_wp2_with fail
          have hrw := HFIN.out.2.2.2.2
          have q0 : (((((wr.setCell ⟨W.heap.size, 0, none⟩ (.int .i64 1)).setCell ⟨W.heap.size, 1, none⟩ (.int .i64 0)).setCell ⟨W.heap.size, 2, none⟩ (.string ⟨#[]⟩)).setCell ⟨W.heap.size, 3, none⟩ (.string ⟨#[]⟩)).setCell ⟨W.heap.size, 4, none⟩ (.slice A L.length c)).cell? ⟨W.heap.size, 0, none⟩ = some (.int .i64 1) := cell_of_row _ _ 0 _ _ (0, 0) hrw
          have q1 : (((((wr.setCell ⟨W.heap.size, 0, none⟩ (.int .i64 1)).setCell ⟨W.heap.size, 1, none⟩ (.int .i64 0)).setCell ⟨W.heap.size, 2, none⟩ (.string ⟨#[]⟩)).setCell ⟨W.heap.size, 3, none⟩ (.string ⟨#[]⟩)).setCell ⟨W.heap.size, 4, none⟩ (.slice A L.length c)).cell? ⟨W.heap.size, 1, none⟩ = some (.int .i64 0) := cell_of_row _ _ 1 _ _ (0, 0) hrw
          have q2 : (((((wr.setCell ⟨W.heap.size, 0, none⟩ (.int .i64 1)).setCell ⟨W.heap.size, 1, none⟩ (.int .i64 0)).setCell ⟨W.heap.size, 2, none⟩ (.string ⟨#[]⟩)).setCell ⟨W.heap.size, 3, none⟩ (.string ⟨#[]⟩)).setCell ⟨W.heap.size, 4, none⟩ (.slice A L.length c)).cell? ⟨W.heap.size, 2, none⟩ = some (.string ⟨#[]⟩) := cell_of_row _ _ 2 _ _ (0, 0) hrw
          have q3 : (((((wr.setCell ⟨W.heap.size, 0, none⟩ (.int .i64 1)).setCell ⟨W.heap.size, 1, none⟩ (.int .i64 0)).setCell ⟨W.heap.size, 2, none⟩ (.string ⟨#[]⟩)).setCell ⟨W.heap.size, 3, none⟩ (.string ⟨#[]⟩)).setCell ⟨W.heap.size, 4, none⟩ (.slice A L.length c)).cell? ⟨W.heap.size, 3, none⟩ = some (.string ⟨#[]⟩) := cell_of_row _ _ 3 _ _ (0, 0) hrw
          have q4 : (((((wr.setCell ⟨W.heap.size, 0, none⟩ (.int .i64 1)).setCell ⟨W.heap.size, 1, none⟩ (.int .i64 0)).setCell ⟨W.heap.size, 2, none⟩ (.string ⟨#[]⟩)).setCell ⟨W.heap.size, 3, none⟩ (.string ⟨#[]⟩)).setCell ⟨W.heap.size, 4, none⟩ (.slice A L.length c)).cell? ⟨W.heap.size, 4, none⟩ = some (.slice A L.length c) := cell_of_row _ _ 4 _ _ (0, 0) hrw
          refine bodyPost_ret (v := .agg #[.int .i64 1, .int .i64 0, .string ⟨#[]⟩, .string ⟨#[]⟩, .slice A L.length c]) (by simp [results, Try.results43, go_sem, q0, q1, q2, q3, q4]) rfl ?_
          rw [HEND.out]
          exact ⟨rcs 1 0 ⟨#[]⟩ ⟨#[]⟩ A L.length c, rfl, (HT.out.heap fun q hq => HFIN.out.2.2.1 q (by have := hlb; omega)).imp (fun q hq => ⟨by omega, by rw [HFIN.out.2.2.2.1]; exact hq.2⟩), HFIN.out.1, HFIN.out.2.1⟩
        · simp only at hbad
          subst hbad
          have HSTEP : Hid (Rm.rulL (Rm.rul D) (nn - 1) (Rm.rul D (rest, false)).2 (L.map Kr.t ++ [(Rm.rul D (rest, false)).1]) = LL) := Lib.hid (by
            obtain ⟨n1, rfl⟩ : ∃ n1, nn = n1 + 1 := ⟨nn - 1, by omega⟩
            rw [← HEQ.out, Rm.rulL, if_neg (by simp)]
            rfl)
          have HLL : Hid (L.length ≤ 1000000) := Lib.hid (by have := HLN.out.2.1; omega)
          go_wp2_with fail
          obtain ⟨rr, hrr⟩ : ∃ rr : Rm.R, rr = (rest, false) := ⟨_, rfl⟩
          have HLR : Hid (rr.1.length ≤ 1000) := Lib.hid (by rw [hrr]; exact HLN.out.1)
          have HL2 : Hid (L.length + rr.1.length ≤ 1000) := Lib.hid (by rw [hrr]; exact HLN.out.2.2 (by first | trivial | rfl))
          rw [← hrr] at HSTEP GJ
          have HRU := Lib.hid (rul_ln D rr)
          have HRRF := Lib.hid hrr
          have HW6 : Hid (IntKind.i64.wrap (5 - (D : Int) + 1) = 5 - (D : Int) + 1) := Lib.hid (by rw [IntKind.wrap_i64] <;> omega)
          have HD6 : Hid (5 - (D : Int) + 1 = 6 - (D : Int)) := Lib.hid (by omega)
          obtain ⟨w2, hw2⟩ : ∃ w2, w2 = wr.drew := ⟨_, rfl⟩
          have hbd : Below wr.heap.size wr w2 := by rw [hw2]; exact ⟨rfl, rfl, rfl, Nat.le_refl _, fun _ _ => rfl⟩
          have hw2b : w1.heap.size + 1 ≤ w2.heap.size := Nat.le_trans hwb hbd.size
          have hgb : g < w1.heap.size := by omega
          have hBb : B ≤ w1.heap.size := by omega
          refine PG.wp_region_persG (R := Out g w1.heap.size (w1.heap.size + 1)) (G := GG g w1.heap.size (w1.heap.size + 1) B V L rr 1) (by kernel_rfl) (PG.formed_of (by kernel_rfl)) (out_goes g w1.heap.size (w1.heap.size + 1)) ?_ (GF g w1.heap.size (w1.heap.size + 1) B (5 - (D : Int)) V L (Rm.rul D rr).1 (Rm.rul D rr).2 1) ?_ ?_
          · rw [← hw2]
            intro k
            unfold GG
            split
            · exact RSt.below GJ.out.r hbd GJ.out.r.at_
            · exact HOK.out.below hbd
            · exact (hbd.block _ (in_heap GJ.out.x)).trans GJ.out.x
            · trivial
          · rw [← hw2]
            intro i o ho
            rcases i with _ | _ | _ | _ | _ | _ | _ | _ | _ | _ | i
            · obtain rfl := Option.some.inj (show some _ = some o from ho)
              refine PG.shown_val rfl fun a w4 hr T => ?_
              have h5 : a.eval (.tmp 5) = .pointer (some ⟨w1.heap.size, 0, none⟩) := T.was 5 (by kernel_rfl)
              exact ⟨.pointer (some ⟨w1.heap.size, 4, none⟩), w4, by simp only [execOp, h5]; simp [go_sem], PG.Post.pure (out_goes g w1.heap.size (w1.heap.size + 1)) rfl⟩
            · obtain rfl := Option.some.inj (show some _ = some o from ho)
              refine PG.shown_val rfl fun a w4 hr T => ?_
              have h48 : a.eval (.tmp 48) = .pointer (some ⟨w1.heap.size, 4, none⟩) := T.at_ 0 48 (by kernel_rfl) (by kernel_rfl)
              have hO : w4.heap[w1.heap.size]? = some (.cells #[.int .i64 1, .int .i64 0, .string ⟨#[]⟩, .string ⟨#[]⟩, V] 43) := T.yet 9 (by kernel_rfl)
              have c4 : w4.cell? ⟨w1.heap.size, 4, none⟩ = some V := cell_of_row _ _ 4 _ _ (0, 0) hO
              exact ⟨V, w4, by simp only [execOp, h48]; simp [go_sem, c4], PG.Post.pure (out_goes g w1.heap.size (w1.heap.size + 1)) rfl⟩
            · obtain rfl := Option.some.inj (show some _ = some o from ho)
              refine PG.shown_val rfl fun a w4 hr T => ?_
              have h0 : a.eval (.tmp 0) = .pointer (some ⟨g, 0, none⟩) := T.was 0 (by kernel_rfl)
              exact ⟨.pointer (some ⟨g, 0, none⟩), w4, by simp only [execOp, h0]; simp [go_sem], PG.Post.pure (out_goes g w1.heap.size (w1.heap.size + 1)) rfl⟩
            · obtain rfl := Option.some.inj (show some _ = some o from ho)
              refine PG.shown_val rfl fun a w4 hr T => ?_
              have h1 : a.eval (.tmp 1) = .int .i64 (5 - (D : Int)) := T.was 1 (by kernel_rfl)
              exact ⟨.int .i64 (5 - (D : Int)), w4, by simp only [execOp, h1]; simp [go_sem], PG.Post.pure (out_goes g w1.heap.size (w1.heap.size + 1)) rfl⟩
            · obtain rfl := Option.some.inj (show some _ = some o from ho)
              refine PG.shown_val rfl fun a w4 hr T => ?_
              have h51 : a.eval (.tmp 51) = .int .i64 (5 - (D : Int)) := T.at_ 3 51 (by kernel_rfl) (by kernel_rfl)
              exact ⟨.int .i64 (5 - (D : Int) + 1), w4, by simp only [execOp, h51]; simp [go_sem, HW6.out], PG.Post.pure (out_goes g w1.heap.size (w1.heap.size + 1)) rfl⟩
            · obtain rfl := Option.some.inj (show some _ = some o from ho)
              refine PG.shown_call rfl 43 fun a w4 hr T => ?_
              have h50 : a.eval (.tmp 50) = .pointer (some ⟨g, 0, none⟩) := T.at_ 2 50 (by kernel_rfl) (by kernel_rfl)
              have h52 : a.eval (.tmp 52) = .int .i64 (5 - (D : Int) + 1) := T.at_ 4 52 (by kernel_rfl) (by kernel_rfl)
              have hR5 : RSt w4 B g rr := T.own
              have hO7 : OwnKids w4 (w1.heap.size + 1) V L := T.yet 7 (by kernel_rfl)
              have hz4 : w2.heap.size ≤ w4.heap.size := hr.size
              refine ⟨#[.pointer (some ⟨g, 0, none⟩), .int .i64 (5 - (D : Int) + 1)], by simp only [execOp, resolve, List.map_toArray, List.map_cons, List.map_nil, h50, h52]; simp [go_sem, Act.eval], ?_⟩
              rw [HD6.out]
              refine (HIH.out rr w4 (by have := HDD.out; omega) hR5 (by omega) HLR.out).mono fun e w5 hh => ?_
              obtain ⟨cs, rfl, hp5, hr5, hg5⟩ := hh
              obtain ⟨k9, n9, y9, v9, A9, m9, c9, rfl⟩ := hp5.inv
              refine ⟨_, rfl, out_grown hg5 (by omega), ⟨⟨(Rm.rul D rr).1, k9, n9, y9, v9, A9, m9, c9⟩, rfl, rfl, hp5.imp (fun q hq => ⟨by omega, hq.2, fun e => by have := own_block_lt hO7.own q e; omega⟩), hr5⟩, fun k hk hG => ?_, fun j v hj hw hF => ?_⟩
              · unfold GG at *
                split
                · exact absurd rfl hk
                · exact OwnKids.kept hG hg5 (by omega)
                · exact (hg5.block _ (in_heap hG) (by intro e; injection e with e; omega)).trans hG
                · trivial
              · match j, hj, hw, hF with
                | 0, _, _, hF => exact hF
                | 1, _, _, hF => exact hF
                | 2, _, _, hF => exact hF
                | 3, _, _, hF => exact hF
                | 4, _, _, hF => exact hF
                | 5, hj, _, _ => exact absurd rfl hj
                | 6, _, hw, _ => exact (PG.waits_no (by kernel_rfl) hw).elim
                | 7, _, _, hF => obtain ⟨x, h1, h2⟩ := hF; exact ⟨x, h1, h2.kept hg5 (by omega)⟩
                | 8, _, _, hF => exact hF
                | 9, _, _, hF => obtain ⟨x, v, h1, h2, h3⟩ := hF; exact ⟨x, v, h1, h2.kept hg5 (by omega), (hg5.block _ (in_heap h3) (by intro e; injection e with e; omega)).trans h3⟩
                | _ + 10, _, _, _ => trivial
            · obtain rfl := Option.some.inj (show some _ = some o from ho)
              refine PG.shown_val rfl fun a w4 hr T => ?_
              obtain ⟨x, h53, hx1, hx2, hx3⟩ := T.at_ 5 53 (by kernel_rfl) (by kernel_rfl)
              have hO7 : OwnKids w4 (w1.heap.size + 1) V L := T.yet 7 (by kernel_rfl)
              have hz4 : w2.heap.size ≤ w4.heap.size := hr.size
              have hb4 : Below w4.heap.size w4 (w4.alloc (.cells x.cells.toArray 43)) := (Below.refl _ _).alloc (Nat.le_refl _) _
              refine ⟨.slice (some ⟨w4.heap.size, 0, none⟩) 1 1, w4.alloc (.cells x.cells.toArray 43), by simp only [execOp, List.map_toArray, List.map_cons, List.map_nil, h53]; simp [go_sem, Kr.cells, rcs], out_below hb4 (by omega), ⟨x, w4.heap.size, rfl, hx1, hx2.below hb4, by simpa using Rd.lit w4 x.cells.toArray 43, by omega, by simp, fun e => by have := own_block_lt hO7.own _ e; omega⟩, fun k hk hG => hG.below hb4, fun j v hj hw hF => hF.below hb4⟩
            · obtain rfl := Option.some.inj (show some _ = some o from ho)
              refine PG.shown_val rfl fun a w4 hr T => ?_
              have h49 : a.eval (.tmp 49) = V := T.at_ 1 49 (by kernel_rfl) (by kernel_rfl)
              obtain ⟨x, q, h54, hx1, hx2, hx3, hx4, hx5, hx6⟩ := T.at_ 6 54 (by kernel_rfl) (by kernel_rfl)
              have hO7 : OwnKids w4 (w1.heap.size + 1) V L := T.own
              have hz4 : w2.heap.size ≤ w4.heap.size := hr.size
              obtain ⟨v', w', r1', r2', r3'⟩ := appKid (ty := 41) hO7 hx2 hx3 HLL.out (by omega)
              have hne : ∀ k, k < w1.heap.size + 1 → V.ownBlock ≠ some k := fun k hk e => by have := own_block_ge hO7.own k e; omega
              refine ⟨v', w', by simp only [execOp, resolve, invoke, builtin, Sem.run_bind, Sem.run_pure, Result.andThen_ok, List.map_toArray, List.map_cons, List.map_nil, h49, h54, r1'], ⟨r3'.grown.os, r3'.grown.tape, r3'.grown.output, r3'.grown.size, fun k h1 h2 h3 => r3'.grown.block k (by omega) (Ne.symm (hne k h1))⟩, ⟨x, hx1, r2'⟩, fun k hk hG => ?_, fun j v hj hw hF => ?_⟩
              · unfold GG at *
                split
                · exact RSt.grew hG hO7 r3' (by omega)
                · exact absurd rfl hk
                · exact (r3'.grown.block _ (in_heap hG) (Ne.symm (hne _ (by omega)))).trans hG
                · trivial
              · match j, hj, hw, hF with
                | 0, _, _, hF => exact hF
                | 1, _, _, hF => exact hF
                | 2, _, _, hF => exact hF
                | 3, _, _, hF => exact hF
                | 4, _, _, hF => exact hF
                | 5, _, _, hF => obtain ⟨y, h1, h2, h3, h4⟩ := hF; exact ⟨y, h1, h2, h3.app r3', h4.grew hO7 r3' (by omega)⟩
                | 6, _, _, hF => obtain ⟨y, p, h1, h2, h3, h4, h5, h6, h7⟩ := hF; exact ⟨y, p, h1, h2, h3.app r3', h4.block9 (r3'.grown.block p h6 (Ne.symm h7)), h5, Nat.lt_of_lt_of_le h6 r3'.grown.size, h7⟩
                | 7, hj, _, _ => exact absurd rfl hj
                | 8, _, _, hF => exact hF
                | 9, _, hw, _ => exact (PG.waits_no (by kernel_rfl) hw).elim
                | _ + 10, _, _, _ => trivial
            · obtain rfl := Option.some.inj (show some _ = some o from ho)
              refine PG.shown_val rfl fun a w4 hr T => ?_
              have h5 : a.eval (.tmp 5) = .pointer (some ⟨w1.heap.size, 0, none⟩) := T.was 5 (by kernel_rfl)
              exact ⟨.pointer (some ⟨w1.heap.size, 4, none⟩), w4, by simp only [execOp, h5]; simp [go_sem], PG.Post.pure (out_goes g w1.heap.size (w1.heap.size + 1)) rfl⟩
            · obtain rfl := Option.some.inj (show some _ = some o from ho)
              refine PG.shown_skip rfl fun a w4 hr T => ?_
              have h56 : a.eval (.tmp 56) = .pointer (some ⟨w1.heap.size, 4, none⟩) := T.at_ 8 56 (by kernel_rfl) (by kernel_rfl)
              obtain ⟨x, hx1, hx2⟩ := T.at_ 7 55 (by kernel_rfl) (by kernel_rfl)
              have hO : w4.heap[w1.heap.size]? = some (.cells #[.int .i64 1, .int .i64 0, .string ⟨#[]⟩, .string ⟨#[]⟩, V] 43) := T.own
              have hz4 : w2.heap.size ≤ w4.heap.size := hr.size
              obtain ⟨A7, c7, hv7, _, _⟩ := own_rd hx2.own
              rw [hv7] at hx2
              have c4 : w4.cell? ⟨w1.heap.size, 4, none⟩ = some V := cell_of_row _ _ 4 _ _ (0, 0) hO
              have f4 : w4.frozen? ⟨w1.heap.size, 4, none⟩ = false := frz hO
              have hst : Out g w1.heap.size (w1.heap.size + 1) w4 (w4.setCell ⟨w1.heap.size, 4, none⟩ (.slice A7 (L ++ [x]).length c7)) := ⟨rfl, rfl, rfl, by simp, fun k h1 h2 h3 => Below.heap_setCell w4 _ _ k (by simpa using h3)⟩
              refine ⟨w4.setCell ⟨w1.heap.size, 4, none⟩ (.slice A7 (L ++ [x]).length c7), by simp only [execOp, h56, hv7]; simp [go_sem, c4, f4], hst, ⟨x, .slice A7 (L ++ [x]).length c7, hx1, hx2.set (by omega), heap_setCell_same _ _ 4 _ _ _ hO⟩, fun k hk hG => ?_, fun j v hj hw hF => ?_⟩
              · unfold GG at *
                split
                · exact reader_wide w4 B g 0 rr hG _ (by omega) (by omega)
                · exact OwnKids.set hG (by omega)
                · exact absurd rfl hk
                · trivial
              · match j, hj, hw, hF with
                | 0, _, _, hF => exact hF
                | 1, _, _, hF => exact hF
                | 2, _, _, hF => exact hF
                | 3, _, _, hF => exact hF
                | 4, _, _, hF => exact hF
                | 5, _, _, hF => obtain ⟨y, h1, h2, h3, h4⟩ := hF; exact ⟨y, h1, h2, h3.set (by omega), reader_wide w4 B g 0 _ h4 _ (by omega) (by omega)⟩
                | 6, _, _, hF => obtain ⟨y, p, h1, h2, h3, h4, h5, h6, h7⟩ := hF; exact ⟨y, p, h1, h2, h3.set (by omega), h4.block9 (Below.heap_setCell w4 _ _ p (by simp; omega)), h5, by simpa using h6, h7⟩
                | 7, _, _, hF => obtain ⟨y, h1, h2⟩ := hF; exact ⟨y, h1, h2.set (by omega)⟩
                | 8, _, _, hF => exact hF
                | 9, hj, _, _ => exact absurd rfl hj
                | _ + 10, _, _, _ => trivial
            · cases ho
          · rw [← hw2]
            intro x w5 hr hf he
            obtain ⟨x5, hx5, hx5t, hx5k, hx5r⟩ := hf 5 _ 53 rfl rfl
            obtain ⟨_, y, V', hyt, hyo, hyx⟩ := he 9 _ rfl rfl
            have hz5 := hr.size
            have GJ5 : Hid (GeSt W w5 B g w1.heap.size (Rm.rul D rr).2 #[.int .i64 1, .int .i64 0, .string ⟨#[]⟩, .string ⟨#[]⟩, V']) := Lib.hid ⟨(hr.block _ (by omega) (by omega) (by omega)).trans ((hbd.block _ (in_heap GJ.out.z)).trans GJ.out.z), hyx, hlb, hx5r, ⟨hr.os.trans (hbd.os.trans GJ.out.gr.os), hr.tape.trans (hbd.tape.trans GJ.out.gr.tape), hr.output.trans (hbd.output.trans GJ.out.gr.output), Nat.le_trans GJ.out.gr.size (Nat.le_trans hbd.size hr.size), fun k hk hne => (hr.block k (by omega) (fun e => hne (by rw [e])) (by omega)).trans ((hbd.block k (by have := GJ.out.gr.size; omega)).trans (GJ.out.gr.block k hk hne))⟩⟩
            have HO5 := Lib.hid hyo
            have HYT := Lib.hid hyt
            clear hf he hr hx5 hx5t hx5k hx5r hyo hyx hyt
            simp only [PG.putAll, Act.put, List.setIfInBounds_toArray, List.set_cons_zero, List.set_cons_succ]
            go_wp2_with fail
            go_roundw
            case rel =>
              refine ⟨nn - 1, (Rm.rul D rr).2, L ++ [y], V', by go_num, by omega, ?_, GJ5, HO5, Lib.hid ⟨Nat.le_trans HRU.out.1 HLR.out, ?_, fun h => ?_⟩, by omega⟩
              · rw [List.map_append, List.map_singleton, HYT.out]
                exact HSTEP
              · rw [List.length_append, List.length_singleton]
                have h := HL2.out
                omega
              · have h1 := HL2.out
                have h2 := HRU.out.2 h
                rw [List.length_append, List.length_singleton]
                omega
            case measure => simp [intOf]; omega
    · have HRR : Hid (RR = (.mk 2 0 ⟨#[]⟩ ⟨#[]⟩ (Rm.rulL (Rm.rul D) (Rm.num r1).1 (Rm.num r1).2 []).1, (Rm.rulL (Rm.rul D) (Rm.num r1).1 (Rm.num r1).2 []).2)) := Lib.hid (by rw [HMD.out]; rfl)
      obtain ⟨LL, hLL⟩ : ∃ LL, Rm.rulL (Rm.rul D) (Rm.num r1).1 (Rm.num r1).2 [] = LL := ⟨_, rfl⟩
      have HLL0 := Lib.hid hLL
      rw [hLL] at HRR
      rw [HRR.out]
      have HNB := Lib.hid (num_lt r1)
      have HRL2 := Lib.hid (Nat.le_trans (num_ln r1) HRL.out)
      clear HMD HRR hLL
      go_enter Try.func43, Try.ntmps43
      go_wp2_with (first
        | (have hd := done1; clear done1; go_at_call 63; (with_reducible refine (num_any g B r1 _ GS.out.r).mono ?_); rintro e w3 ⟨rfl, hr3, hg3⟩; have GS3 := Lib.hid (GS.out.call hg3 hr3 hgW); have hlt3 := Nat.lt_of_lt_of_le (show w1.heap.size < (w1.alloc (.cells #[.int .i64 2, .int .i64 0, .string ⟨#[]⟩, .string ⟨#[]⟩, .slice none 0 0] 43)).heap.size from (by simp)) hg3.size; clear hr3 hg3 d0 d1 d2 d3 d4 df0 df1 df2 df3 df4 c0 c1 c2 c3 c4 cf0 cf1 cf2 cf3 cf4 HX1)
        | (go_at_call 61; (with_reducible refine (HBY.out).mono ?_); rintro e w1 ⟨rfl, hr1, hg1⟩; have HZ1 := Lib.hid ((hg1.block _ (by simp) (by intro e; injection e with e; omega)).trans HZ.out); have GS := Lib.hid (GeSt.start hr1 HZ1.out (grown_trans HG0.out hg1) hgW #[.int .i64 2, .int .i64 0, .string ⟨#[]⟩, .string ⟨#[]⟩, .slice none 0 0]); have HX1 := Lib.hid (GS.out.x); have hlt := GS.out.lt; have d0 : (w1.alloc (.cells #[.int .i64 2, .int .i64 0, .string ⟨#[]⟩, .string ⟨#[]⟩, .slice none 0 0] 43)).cell? ⟨w1.heap.size, 0, none⟩ = some (.int .i64 2) := cell_of_row _ _ 0 _ _ (0, 0) HX1.out; have d1 : (w1.alloc (.cells #[.int .i64 2, .int .i64 0, .string ⟨#[]⟩, .string ⟨#[]⟩, .slice none 0 0] 43)).cell? ⟨w1.heap.size, 1, none⟩ = some (.int .i64 0) := cell_of_row _ _ 1 _ _ (0, 0) HX1.out; have d2 : (w1.alloc (.cells #[.int .i64 2, .int .i64 0, .string ⟨#[]⟩, .string ⟨#[]⟩, .slice none 0 0] 43)).cell? ⟨w1.heap.size, 2, none⟩ = some (.string ⟨#[]⟩) := cell_of_row _ _ 2 _ _ (0, 0) HX1.out; have d3 : (w1.alloc (.cells #[.int .i64 2, .int .i64 0, .string ⟨#[]⟩, .string ⟨#[]⟩, .slice none 0 0] 43)).cell? ⟨w1.heap.size, 3, none⟩ = some (.string ⟨#[]⟩) := cell_of_row _ _ 3 _ _ (0, 0) HX1.out; have d4 : (w1.alloc (.cells #[.int .i64 2, .int .i64 0, .string ⟨#[]⟩, .string ⟨#[]⟩, .slice none 0 0] 43)).cell? ⟨w1.heap.size, 4, none⟩ = some (.slice none 0 0) := cell_of_row _ _ 4 _ _ (0, 0) HX1.out; have df0 : (w1.alloc (.cells #[.int .i64 2, .int .i64 0, .string ⟨#[]⟩, .string ⟨#[]⟩, .slice none 0 0] 43)).frozen? ⟨w1.heap.size, 0, none⟩ = false := frz HX1.out; have df1 : (w1.alloc (.cells #[.int .i64 2, .int .i64 0, .string ⟨#[]⟩, .string ⟨#[]⟩, .slice none 0 0] 43)).frozen? ⟨w1.heap.size, 1, none⟩ = false := frz HX1.out; have df2 : (w1.alloc (.cells #[.int .i64 2, .int .i64 0, .string ⟨#[]⟩, .string ⟨#[]⟩, .slice none 0 0] 43)).frozen? ⟨w1.heap.size, 2, none⟩ = false := frz HX1.out; have df3 : (w1.alloc (.cells #[.int .i64 2, .int .i64 0, .string ⟨#[]⟩, .string ⟨#[]⟩, .slice none 0 0] 43)).frozen? ⟨w1.heap.size, 3, none⟩ = false := frz HX1.out; have df4 : (w1.alloc (.cells #[.int .i64 2, .int .i64 0, .string ⟨#[]⟩, .string ⟨#[]⟩, .slice none 0 0] 43)).frozen? ⟨w1.heap.size, 4, none⟩ = false := frz HX1.out; have c0 : w1.cell? ⟨W.heap.size, 0, none⟩ = some (.int .i64 0) := cell_of_row _ _ 0 _ _ (0, 0) HZ1.out; have c1 : w1.cell? ⟨W.heap.size, 1, none⟩ = some (.int .i64 0) := cell_of_row _ _ 1 _ _ (0, 0) HZ1.out; have c2 : w1.cell? ⟨W.heap.size, 2, none⟩ = some (.string ⟨#[]⟩) := cell_of_row _ _ 2 _ _ (0, 0) HZ1.out; have c3 : w1.cell? ⟨W.heap.size, 3, none⟩ = some (.string ⟨#[]⟩) := cell_of_row _ _ 3 _ _ (0, 0) HZ1.out; have c4 : w1.cell? ⟨W.heap.size, 4, none⟩ = some (.slice none 0 0) := cell_of_row _ _ 4 _ _ (0, 0) HZ1.out; have cf0 : w1.frozen? ⟨W.heap.size, 0, none⟩ = false := frz HZ1.out; have cf1 : w1.frozen? ⟨W.heap.size, 1, none⟩ = false := frz HZ1.out; have cf2 : w1.frozen? ⟨W.heap.size, 2, none⟩ = false := frz HZ1.out; have cf3 : w1.frozen? ⟨W.heap.size, 3, none⟩ = false := frz HZ1.out; have cf4 : w1.frozen? ⟨W.heap.size, 4, none⟩ = false := frz HZ1.out; have HRW := Lib.hid hr1; have HGW := Lib.hid (grown_trans HG0.out hg1); clear hr1 hg1; have done1 := trivial))
      have hlb : W.heap.size < w1.heap.size := hlt
      have hn63 : (Rm.num r1).1 ≤ 9223372036854775807 := HNB.out
      generalize hn0 : (Rm.num r1).1 = n0 at *
      generalize hr2 : (Rm.num r1).2 = r2 at *
      clear hn0 hr2
      go_loopw [6] (fun x wr => ∃ (nn : Nat) (rr : Rm.R) (L : List Kr) (V : Value), x = .int .i64 (nn : Int) ∧ nn ≤ n0 ∧ Hid (Rm.rulL (Rm.rul D) nn rr (L.map Kr.t) = LL) ∧ Hid (GeSt W wr B g w1.heap.size rr #[.int .i64 2, .int .i64 0, .string ⟨#[]⟩, .string ⟨#[]⟩, V]) ∧ Hid (OwnKids wr (w1.heap.size + 1) V L) ∧ Hid (rr.1.length ≤ 1000 ∧ L.length ≤ 1001 ∧ (rr.2 = false → L.length + rr.1.length ≤ 1000)) ∧ w1.heap.size + 1 ≤ wr.heap.size) (fun x _ => (intOf x).toNat)
      case atStart => exact ⟨n0, r2, [], .slice none 0 0, rfl, Nat.le_refl _, HLL0, GS3, Lib.hid (OwnKids.nil _ _), Lib.hid ⟨HRL2.out, by simp, fun _ => by simpa using HRL2.out⟩, hlt3⟩
      case round =>
        obtain ⟨nn, rr, L, V, rfl, hnn, HEQ, GJ, HOK, HLN, hwb⟩ := hrel
        have hcs : nn = 0 ∨ (0 < nn ∧ rr.2 = true) ∨ (0 < nn ∧ rr.2 = false) := by
          cases rr.2 <;> simp <;> omega
        obtain ⟨rest, bad⟩ := rr
        obtain ⟨⟨Ag, ng, cg, hgx, _⟩, _⟩ := GJ.out.r
        have gb : wr.cell? ⟨g, 1, none⟩ = some (.bool bad) := cell_of_row _ _ 1 _ _ (0, 0) hgx
        clear hgx
        rcases hcs with rfl | ⟨hpos, hbad⟩ | ⟨hpos, hbad⟩
        · have HEND : Hid (LL = (L.map Kr.t, (rest, bad))) := Lib.hid (by rw [← HEQ.out, Rm.rulL])
          obtain ⟨A, c, hV, hT⟩ := HOK.out.tree 2 0 ⟨#[]⟩ ⟨#[]⟩ (by omega) (by omega) (Nat.zero_le _) (Nat.zero_le _)
          subst hV
          have HT := Lib.hid hT
          have HXJ := Lib.hid GJ.out.x
          have HZJ := Lib.hid GJ.out.z
          have d0 : wr.cell? ⟨w1.heap.size, 0, none⟩ = some (.int .i64 2) := cell_of_row _ _ 0 _ _ (0, 0) HXJ.out
          have d1 : wr.cell? ⟨w1.heap.size, 1, none⟩ = some (.int .i64 0) := cell_of_row _ _ 1 _ _ (0, 0) HXJ.out
          have d2 : wr.cell? ⟨w1.heap.size, 2, none⟩ = some (.string ⟨#[]⟩) := cell_of_row _ _ 2 _ _ (0, 0) HXJ.out
          have d3 : wr.cell? ⟨w1.heap.size, 3, none⟩ = some (.string ⟨#[]⟩) := cell_of_row _ _ 3 _ _ (0, 0) HXJ.out
          have d4 : wr.cell? ⟨w1.heap.size, 4, none⟩ = some (.slice A L.length c) := cell_of_row _ _ 4 _ _ (0, 0) HXJ.out
          have c0 : wr.cell? ⟨W.heap.size, 0, none⟩ = some (.int .i64 0) := cell_of_row _ _ 0 _ _ (0, 0) HZJ.out
          have c1 : wr.cell? ⟨W.heap.size, 1, none⟩ = some (.int .i64 0) := cell_of_row _ _ 1 _ _ (0, 0) HZJ.out
          have c2 : wr.cell? ⟨W.heap.size, 2, none⟩ = some (.string ⟨#[]⟩) := cell_of_row _ _ 2 _ _ (0, 0) HZJ.out
          have c3 : wr.cell? ⟨W.heap.size, 3, none⟩ = some (.string ⟨#[]⟩) := cell_of_row _ _ 3 _ _ (0, 0) HZJ.out
          have c4 : wr.cell? ⟨W.heap.size, 4, none⟩ = some (.slice none 0 0) := cell_of_row _ _ 4 _ _ (0, 0) HZJ.out
          have cf0 : wr.frozen? ⟨W.heap.size, 0, none⟩ = false := frz HZJ.out
          have cf1 : wr.frozen? ⟨W.heap.size, 1, none⟩ = false := frz HZJ.out
          have cf2 : wr.frozen? ⟨W.heap.size, 2, none⟩ = false := frz HZJ.out
          have cf3 : wr.frozen? ⟨W.heap.size, 3, none⟩ = false := frz HZJ.out
          have cf4 : wr.frozen? ⟨W.heap.size, 4, none⟩ = false := frz HZJ.out
          have HFIN := Lib.hid (fin5 GJ.out.r GJ.out.gr hgW hBW GJ.out.z (.int .i64 2) (.int .i64 0) (.string ⟨#[]⟩) (.string ⟨#[]⟩) (.slice A L.length c))
          clear hT
          go_wp2_with fail
          have hrw := HFIN.out.2.2.2.2
          have q0 : (((((wr.setCell ⟨W.heap.size, 0, none⟩ (.int .i64 2)).setCell ⟨W.heap.size, 1, none⟩ (.int .i64 0)).setCell ⟨W.heap.size, 2, none⟩ (.string ⟨#[]⟩)).setCell ⟨W.heap.size, 3, none⟩ (.string ⟨#[]⟩)).setCell ⟨W.heap.size, 4, none⟩ (.slice A L.length c)).cell? ⟨W.heap.size, 0, none⟩ = some (.int .i64 2) := cell_of_row _ _ 0 _ _ (0, 0) hrw
          have q1 : (((((wr.setCell ⟨W.heap.size, 0, none⟩ (.int .i64 2)).setCell ⟨W.heap.size, 1, none⟩ (.int .i64 0)).setCell ⟨W.heap.size, 2, none⟩ (.string ⟨#[]⟩)).setCell ⟨W.heap.size, 3, none⟩ (.string ⟨#[]⟩)).setCell ⟨W.heap.size, 4, none⟩ (.slice A L.length c)).cell? ⟨W.heap.size, 1, none⟩ = some (.int .i64 0) := cell_of_row _ _ 1 _ _ (0, 0) hrw
          have q2 : (((((wr.setCell ⟨W.heap.size, 0, none⟩ (.int .i64 2)).setCell ⟨W.heap.size, 1, none⟩ (.int .i64 0)).setCell ⟨W.heap.size, 2, none⟩ (.string ⟨#[]⟩)).setCell ⟨W.heap.size, 3, none⟩ (.string ⟨#[]⟩)).setCell ⟨W.heap.size, 4, none⟩ (.slice A L.length c)).cell? ⟨W.heap.size, 2, none⟩ = some (.string ⟨#[]⟩) := cell_of_row _ _ 2 _ _ (0, 0) hrw
          have q3 : (((((wr.setCell ⟨W.heap.size, 0, none⟩ (.int .i64 2)).setCell ⟨W.heap.size, 1, none⟩ (.int .i64 0)).setCell ⟨W.heap.size, 2, none⟩ (.string ⟨#[]⟩)).setCell ⟨W.heap.size, 3, none⟩ (.string ⟨#[]⟩)).setCell ⟨W.heap.size, 4, none⟩ (.slice A L.length c)).cell? ⟨W.heap.size, 3, none⟩ = some (.string ⟨#[]⟩) := cell_of_row _ _ 3 _ _ (0, 0) hrw
          have q4 : (((((wr.setCell ⟨W.heap.size, 0, none⟩ (.int .i64 2)).setCell ⟨W.heap.size, 1, none⟩ (.int .i64 0)).setCell ⟨W.heap.size, 2, none⟩ (.string ⟨#[]⟩)).setCell ⟨W.heap.size, 3, none⟩ (.string ⟨#[]⟩)).setCell ⟨W.heap.size, 4, none⟩ (.slice A L.length c)).cell? ⟨W.heap.size, 4, none⟩ = some (.slice A L.length c) := cell_of_row _ _ 4 _ _ (0, 0) hrw
          refine bodyPost_ret (v := .agg #[.int .i64 2, .int .i64 0, .string ⟨#[]⟩, .string ⟨#[]⟩, .slice A L.length c]) (by simp [results, Try.results43, go_sem, q0, q1, q2, q3, q4]) rfl ?_
          rw [HEND.out]
          exact ⟨rcs 2 0 ⟨#[]⟩ ⟨#[]⟩ A L.length c, rfl, (HT.out.heap fun q hq => HFIN.out.2.2.1 q (by have := hlb; omega)).imp (fun q hq => ⟨by omega, by rw [HFIN.out.2.2.2.1]; exact hq.2⟩), HFIN.out.1, HFIN.out.2.1⟩
        · simp only at hbad
          subst hbad
          have HEND : Hid (LL = (L.map Kr.t, (rest, true))) := Lib.hid (by
            obtain ⟨n1, rfl⟩ : ∃ n1, nn = n1 + 1 := ⟨nn - 1, by omega⟩
            rw [← HEQ.out, Rm.rulL, if_pos rfl])
          obtain ⟨A, c, hV, hT⟩ := HOK.out.tree 2 0 ⟨#[]⟩ ⟨#[]⟩ (by omega) (by omega) (Nat.zero_le _) (Nat.zero_le _)
          subst hV
          have HT := Lib.hid hT
          have HXJ := Lib.hid GJ.out.x
          have HZJ := Lib.hid GJ.out.z
          have d0 : wr.cell? ⟨w1.heap.size, 0, none⟩ = some (.int .i64 2) := cell_of_row _ _ 0 _ _ (0, 0) HXJ.out
          have d1 : wr.cell? ⟨w1.heap.size, 1, none⟩ = some (.int .i64 0) := cell_of_row _ _ 1 _ _ (0, 0) HXJ.out
          have d2 : wr.cell? ⟨w1.heap.size, 2, none⟩ = some (.string ⟨#[]⟩) := cell_of_row _ _ 2 _ _ (0, 0) HXJ.out
          have d3 : wr.cell? ⟨w1.heap.size, 3, none⟩ = some (.string ⟨#[]⟩) := cell_of_row _ _ 3 _ _ (0, 0) HXJ.out
          have d4 : wr.cell? ⟨w1.heap.size, 4, none⟩ = some (.slice A L.length c) := cell_of_row _ _ 4 _ _ (0, 0) HXJ.out
          have c0 : wr.cell? ⟨W.heap.size, 0, none⟩ = some (.int .i64 0) := cell_of_row _ _ 0 _ _ (0, 0) HZJ.out
          have c1 : wr.cell? ⟨W.heap.size, 1, none⟩ = some (.int .i64 0) := cell_of_row _ _ 1 _ _ (0, 0) HZJ.out
          have c2 : wr.cell? ⟨W.heap.size, 2, none⟩ = some (.string ⟨#[]⟩) := cell_of_row _ _ 2 _ _ (0, 0) HZJ.out
          have c3 : wr.cell? ⟨W.heap.size, 3, none⟩ = some (.string ⟨#[]⟩) := cell_of_row _ _ 3 _ _ (0, 0) HZJ.out
          have c4 : wr.cell? ⟨W.heap.size, 4, none⟩ = some (.slice none 0 0) := cell_of_row _ _ 4 _ _ (0, 0) HZJ.out
          have cf0 : wr.frozen? ⟨W.heap.size, 0, none⟩ = false := frz HZJ.out
          have cf1 : wr.frozen? ⟨W.heap.size, 1, none⟩ = false := frz HZJ.out
          have cf2 : wr.frozen? ⟨W.heap.size, 2, none⟩ = false := frz HZJ.out
          have cf3 : wr.frozen? ⟨W.heap.size, 3, none⟩ = false := frz HZJ.out
          have cf4 : wr.frozen? ⟨W.heap.size, 4, none⟩ = false := frz HZJ.out
          have HFIN := Lib.hid (fin5 GJ.out.r GJ.out.gr hgW hBW GJ.out.z (.int .i64 2) (.int .i64 0) (.string ⟨#[]⟩) (.string ⟨#[]⟩) (.slice A L.length c))
          clear hT
          go_wp2_with fail
          have hrw := HFIN.out.2.2.2.2
          have q0 : (((((wr.setCell ⟨W.heap.size, 0, none⟩ (.int .i64 2)).setCell ⟨W.heap.size, 1, none⟩ (.int .i64 0)).setCell ⟨W.heap.size, 2, none⟩ (.string ⟨#[]⟩)).setCell ⟨W.heap.size, 3, none⟩ (.string ⟨#[]⟩)).setCell ⟨W.heap.size, 4, none⟩ (.slice A L.length c)).cell? ⟨W.heap.size, 0, none⟩ = some (.int .i64 2) := cell_of_row _ _ 0 _ _ (0, 0) hrw
          have q1 : (((((wr.setCell ⟨W.heap.size, 0, none⟩ (.int .i64 2)).setCell ⟨W.heap.size, 1, none⟩ (.int .i64 0)).setCell ⟨W.heap.size, 2, none⟩ (.string ⟨#[]⟩)).setCell ⟨W.heap.size, 3, none⟩ (.string ⟨#[]⟩)).setCell ⟨W.heap.size, 4, none⟩ (.slice A L.length c)).cell? ⟨W.heap.size, 1, none⟩ = some (.int .i64 0) := cell_of_row _ _ 1 _ _ (0, 0) hrw
          have q2 : (((((wr.setCell ⟨W.heap.size, 0, none⟩ (.int .i64 2)).setCell ⟨W.heap.size, 1, none⟩ (.int .i64 0)).setCell ⟨W.heap.size, 2, none⟩ (.string ⟨#[]⟩)).setCell ⟨W.heap.size, 3, none⟩ (.string ⟨#[]⟩)).setCell ⟨W.heap.size, 4, none⟩ (.slice A L.length c)).cell? ⟨W.heap.size, 2, none⟩ = some (.string ⟨#[]⟩) := cell_of_row _ _ 2 _ _ (0, 0) hrw
          have q3 : (((((wr.setCell ⟨W.heap.size, 0, none⟩ (.int .i64 2)).setCell ⟨W.heap.size, 1, none⟩ (.int .i64 0)).setCell ⟨W.heap.size, 2, none⟩ (.string ⟨#[]⟩)).setCell ⟨W.heap.size, 3, none⟩ (.string ⟨#[]⟩)).setCell ⟨W.heap.size, 4, none⟩ (.slice A L.length c)).cell? ⟨W.heap.size, 3, none⟩ = some (.string ⟨#[]⟩) := cell_of_row _ _ 3 _ _ (0, 0) hrw
          have q4 : (((((wr.setCell ⟨W.heap.size, 0, none⟩ (.int .i64 2)).setCell ⟨W.heap.size, 1, none⟩ (.int .i64 0)).setCell ⟨W.heap.size, 2, none⟩ (.string ⟨#[]⟩)).setCell ⟨W.heap.size, 3, none⟩ (.string ⟨#[]⟩)).setCell ⟨W.heap.size, 4, none⟩ (.slice A L.length c)).cell? ⟨W.heap.size, 4, none⟩ = some (.slice A L.length c) := cell_of_row _ _ 4 _ _ (0, 0) hrw
          refine bodyPost_ret (v := .agg #[.int .i64 2, .int .i64 0, .string ⟨#[]⟩, .string ⟨#[]⟩, .slice A L.length c]) (by simp [results, Try.results43, go_sem, q0, q1, q2, q3, q4]) rfl ?_
          rw [HEND.out]
          exact ⟨rcs 2 0 ⟨#[]⟩ ⟨#[]⟩ A L.length c, rfl, (HT.out.heap fun q hq => HFIN.out.2.2.1 q (by have := hlb; omega)).imp (fun q hq => ⟨by omega, by rw [HFIN.out.2.2.2.1]; exact hq.2⟩), HFIN.out.1, HFIN.out.2.1⟩
        · simp only at hbad
          subst hbad
          have HSTEP : Hid (Rm.rulL (Rm.rul D) (nn - 1) (Rm.rul D (rest, false)).2 (L.map Kr.t ++ [(Rm.rul D (rest, false)).1]) = LL) := Lib.hid (by
            obtain ⟨n1, rfl⟩ : ∃ n1, nn = n1 + 1 := ⟨nn - 1, by omega⟩
            rw [← HEQ.out, Rm.rulL, if_neg (by simp)]
            rfl)
          have HLL : Hid (L.length ≤ 1000000) := Lib.hid (by have := HLN.out.2.1; omega)
          go_wp2_with fail
          obtain ⟨rr, hrr⟩ : ∃ rr : Rm.R, rr = (rest, false) := ⟨_, rfl⟩
          have HLR : Hid (rr.1.length ≤ 1000) := Lib.hid (by rw [hrr]; exact HLN.out.1)
          have HL2 : Hid (L.length + rr.1.length ≤ 1000) := Lib.hid (by rw [hrr]; exact HLN.out.2.2 (by first | trivial | rfl))
          rw [← hrr] at HSTEP GJ
          have HRU := Lib.hid (rul_ln D rr)
          have HRRF := Lib.hid hrr
          have HW6 : Hid (IntKind.i64.wrap (5 - (D : Int) + 1) = 5 - (D : Int) + 1) := Lib.hid (by rw [IntKind.wrap_i64] <;> omega)
          have HD6 : Hid (5 - (D : Int) + 1 = 6 - (D : Int)) := Lib.hid (by omega)
          obtain ⟨w2, hw2⟩ : ∃ w2, w2 = wr.drew := ⟨_, rfl⟩
          have hbd : Below wr.heap.size wr w2 := by rw [hw2]; exact ⟨rfl, rfl, rfl, Nat.le_refl _, fun _ _ => rfl⟩
          have hw2b : w1.heap.size + 1 ≤ w2.heap.size := Nat.le_trans hwb hbd.size
          have hgb : g < w1.heap.size := by omega
          have hBb : B ≤ w1.heap.size := by omega
          refine PG.wp_region_persG (R := Out g w1.heap.size (w1.heap.size + 1)) (G := GG g w1.heap.size (w1.heap.size + 1) B V L rr 2) (by kernel_rfl) (PG.formed_of (by kernel_rfl)) (out_goes g w1.heap.size (w1.heap.size + 1)) ?_ (GF g w1.heap.size (w1.heap.size + 1) B (5 - (D : Int)) V L (Rm.rul D rr).1 (Rm.rul D rr).2 2) ?_ ?_
          · rw [← hw2]
            intro k
            unfold GG
            split
            · exact RSt.below GJ.out.r hbd GJ.out.r.at_
            · exact HOK.out.below hbd
            · exact (hbd.block _ (in_heap GJ.out.x)).trans GJ.out.x
            · trivial
          · rw [← hw2]
            intro i o ho
            rcases i with _ | _ | _ | _ | _ | _ | _ | _ | _ | _ | i
            · obtain rfl := Option.some.inj (show some _ = some o from ho)
              refine PG.shown_val rfl fun a w4 hr T => ?_
              have h5 : a.eval (.tmp 5) = .pointer (some ⟨w1.heap.size, 0, none⟩) := T.was 5 (by kernel_rfl)
              exact ⟨.pointer (some ⟨w1.heap.size, 4, none⟩), w4, by simp only [execOp, h5]; simp [go_sem], PG.Post.pure (out_goes g w1.heap.size (w1.heap.size + 1)) rfl⟩
            · obtain rfl := Option.some.inj (show some _ = some o from ho)
              refine PG.shown_val rfl fun a w4 hr T => ?_
              have h48 : a.eval (.tmp 48) = .pointer (some ⟨w1.heap.size, 4, none⟩) := T.at_ 0 48 (by kernel_rfl) (by kernel_rfl)
              have hO : w4.heap[w1.heap.size]? = some (.cells #[.int .i64 2, .int .i64 0, .string ⟨#[]⟩, .string ⟨#[]⟩, V] 43) := T.yet 9 (by kernel_rfl)
              have c4 : w4.cell? ⟨w1.heap.size, 4, none⟩ = some V := cell_of_row _ _ 4 _ _ (0, 0) hO
              exact ⟨V, w4, by simp only [execOp, h48]; simp [go_sem, c4], PG.Post.pure (out_goes g w1.heap.size (w1.heap.size + 1)) rfl⟩
            · obtain rfl := Option.some.inj (show some _ = some o from ho)
              refine PG.shown_val rfl fun a w4 hr T => ?_
              have h0 : a.eval (.tmp 0) = .pointer (some ⟨g, 0, none⟩) := T.was 0 (by kernel_rfl)
              exact ⟨.pointer (some ⟨g, 0, none⟩), w4, by simp only [execOp, h0]; simp [go_sem], PG.Post.pure (out_goes g w1.heap.size (w1.heap.size + 1)) rfl⟩
            · obtain rfl := Option.some.inj (show some _ = some o from ho)
              refine PG.shown_val rfl fun a w4 hr T => ?_
              have h1 : a.eval (.tmp 1) = .int .i64 (5 - (D : Int)) := T.was 1 (by kernel_rfl)
              exact ⟨.int .i64 (5 - (D : Int)), w4, by simp only [execOp, h1]; simp [go_sem], PG.Post.pure (out_goes g w1.heap.size (w1.heap.size + 1)) rfl⟩
            · obtain rfl := Option.some.inj (show some _ = some o from ho)
              refine PG.shown_val rfl fun a w4 hr T => ?_
              have h51 : a.eval (.tmp 51) = .int .i64 (5 - (D : Int)) := T.at_ 3 51 (by kernel_rfl) (by kernel_rfl)
              exact ⟨.int .i64 (5 - (D : Int) + 1), w4, by simp only [execOp, h51]; simp [go_sem, HW6.out], PG.Post.pure (out_goes g w1.heap.size (w1.heap.size + 1)) rfl⟩
            · obtain rfl := Option.some.inj (show some _ = some o from ho)
              refine PG.shown_call rfl 43 fun a w4 hr T => ?_
              have h50 : a.eval (.tmp 50) = .pointer (some ⟨g, 0, none⟩) := T.at_ 2 50 (by kernel_rfl) (by kernel_rfl)
              have h52 : a.eval (.tmp 52) = .int .i64 (5 - (D : Int) + 1) := T.at_ 4 52 (by kernel_rfl) (by kernel_rfl)
              have hR5 : RSt w4 B g rr := T.own
              have hO7 : OwnKids w4 (w1.heap.size + 1) V L := T.yet 7 (by kernel_rfl)
              have hz4 : w2.heap.size ≤ w4.heap.size := hr.size
              refine ⟨#[.pointer (some ⟨g, 0, none⟩), .int .i64 (5 - (D : Int) + 1)], by simp only [execOp, resolve, List.map_toArray, List.map_cons, List.map_nil, h50, h52]; simp [go_sem, Act.eval], ?_⟩
              rw [HD6.out]
              refine (HIH.out rr w4 (by have := HDD.out; omega) hR5 (by omega) HLR.out).mono fun e w5 hh => ?_
              obtain ⟨cs, rfl, hp5, hr5, hg5⟩ := hh
              obtain ⟨k9, n9, y9, v9, A9, m9, c9, rfl⟩ := hp5.inv
              refine ⟨_, rfl, out_grown hg5 (by omega), ⟨⟨(Rm.rul D rr).1, k9, n9, y9, v9, A9, m9, c9⟩, rfl, rfl, hp5.imp (fun q hq => ⟨by omega, hq.2, fun e => by have := own_block_lt hO7.own q e; omega⟩), hr5⟩, fun k hk hG => ?_, fun j v hj hw hF => ?_⟩
              · unfold GG at *
                split
                · exact absurd rfl hk
                · exact OwnKids.kept hG hg5 (by omega)
                · exact (hg5.block _ (in_heap hG) (by intro e; injection e with e; omega)).trans hG
                · trivial
              · match j, hj, hw, hF with
                | 0, _, _, hF => exact hF
                | 1, _, _, hF => exact hF
                | 2, _, _, hF => exact hF
                | 3, _, _, hF => exact hF
                | 4, _, _, hF => exact hF
                | 5, hj, _, _ => exact absurd rfl hj
                | 6, _, hw, _ => exact (PG.waits_no (by kernel_rfl) hw).elim
                | 7, _, _, hF => obtain ⟨x, h1, h2⟩ := hF; exact ⟨x, h1, h2.kept hg5 (by omega)⟩
                | 8, _, _, hF => exact hF
                | 9, _, _, hF => obtain ⟨x, v, h1, h2, h3⟩ := hF; exact ⟨x, v, h1, h2.kept hg5 (by omega), (hg5.block _ (in_heap h3) (by intro e; injection e with e; omega)).trans h3⟩
                | _ + 10, _, _, _ => trivial
            · obtain rfl := Option.some.inj (show some _ = some o from ho)
              refine PG.shown_val rfl fun a w4 hr T => ?_
              obtain ⟨x, h53, hx1, hx2, hx3⟩ := T.at_ 5 53 (by kernel_rfl) (by kernel_rfl)
              have hO7 : OwnKids w4 (w1.heap.size + 1) V L := T.yet 7 (by kernel_rfl)
              have hz4 : w2.heap.size ≤ w4.heap.size := hr.size
              have hb4 : Below w4.heap.size w4 (w4.alloc (.cells x.cells.toArray 43)) := (Below.refl _ _).alloc (Nat.le_refl _) _
              refine ⟨.slice (some ⟨w4.heap.size, 0, none⟩) 1 1, w4.alloc (.cells x.cells.toArray 43), by simp only [execOp, List.map_toArray, List.map_cons, List.map_nil, h53]; simp [go_sem, Kr.cells, rcs], out_below hb4 (by omega), ⟨x, w4.heap.size, rfl, hx1, hx2.below hb4, by simpa using Rd.lit w4 x.cells.toArray 43, by omega, by simp, fun e => by have := own_block_lt hO7.own _ e; omega⟩, fun k hk hG => hG.below hb4, fun j v hj hw hF => hF.below hb4⟩
            · obtain rfl := Option.some.inj (show some _ = some o from ho)
              refine PG.shown_val rfl fun a w4 hr T => ?_
              have h49 : a.eval (.tmp 49) = V := T.at_ 1 49 (by kernel_rfl) (by kernel_rfl)
              obtain ⟨x, q, h54, hx1, hx2, hx3, hx4, hx5, hx6⟩ := T.at_ 6 54 (by kernel_rfl) (by kernel_rfl)
              have hO7 : OwnKids w4 (w1.heap.size + 1) V L := T.own
              have hz4 : w2.heap.size ≤ w4.heap.size := hr.size
              obtain ⟨v', w', r1', r2', r3'⟩ := appKid (ty := 41) hO7 hx2 hx3 HLL.out (by omega)
              have hne : ∀ k, k < w1.heap.size + 1 → V.ownBlock ≠ some k := fun k hk e => by have := own_block_ge hO7.own k e; omega
              refine ⟨v', w', by simp only [execOp, resolve, invoke, builtin, Sem.run_bind, Sem.run_pure, Result.andThen_ok, List.map_toArray, List.map_cons, List.map_nil, h49, h54, r1'], ⟨r3'.grown.os, r3'.grown.tape, r3'.grown.output, r3'.grown.size, fun k h1 h2 h3 => r3'.grown.block k (by omega) (Ne.symm (hne k h1))⟩, ⟨x, hx1, r2'⟩, fun k hk hG => ?_, fun j v hj hw hF => ?_⟩
              · unfold GG at *
                split
                · exact RSt.grew hG hO7 r3' (by omega)
                · exact absurd rfl hk
                · exact (r3'.grown.block _ (in_heap hG) (Ne.symm (hne _ (by omega)))).trans hG
                · trivial
              · match j, hj, hw, hF with
                | 0, _, _, hF => exact hF
                | 1, _, _, hF => exact hF
                | 2, _, _, hF => exact hF
                | 3, _, _, hF => exact hF
                | 4, _, _, hF => exact hF
                | 5, _, _, hF => obtain ⟨y, h1, h2, h3, h4⟩ := hF; exact ⟨y, h1, h2, h3.app r3', h4.grew hO7 r3' (by omega)⟩
                | 6, _, _, hF => obtain ⟨y, p, h1, h2, h3, h4, h5, h6, h7⟩ := hF; exact ⟨y, p, h1, h2, h3.app r3', h4.block9 (r3'.grown.block p h6 (Ne.symm h7)), h5, Nat.lt_of_lt_of_le h6 r3'.grown.size, h7⟩
                | 7, hj, _, _ => exact absurd rfl hj
                | 8, _, _, hF => exact hF
                | 9, _, hw, _ => exact (PG.waits_no (by kernel_rfl) hw).elim
                | _ + 10, _, _, _ => trivial
            · obtain rfl := Option.some.inj (show some _ = some o from ho)
              refine PG.shown_val rfl fun a w4 hr T => ?_
              have h5 : a.eval (.tmp 5) = .pointer (some ⟨w1.heap.size, 0, none⟩) := T.was 5 (by kernel_rfl)
              exact ⟨.pointer (some ⟨w1.heap.size, 4, none⟩), w4, by simp only [execOp, h5]; simp [go_sem], PG.Post.pure (out_goes g w1.heap.size (w1.heap.size + 1)) rfl⟩
            · obtain rfl := Option.some.inj (show some _ = some o from ho)
              refine PG.shown_skip rfl fun a w4 hr T => ?_
              have h56 : a.eval (.tmp 56) = .pointer (some ⟨w1.heap.size, 4, none⟩) := T.at_ 8 56 (by kernel_rfl) (by kernel_rfl)
              obtain ⟨x, hx1, hx2⟩ := T.at_ 7 55 (by kernel_rfl) (by kernel_rfl)
              have hO : w4.heap[w1.heap.size]? = some (.cells #[.int .i64 2, .int .i64 0, .string ⟨#[]⟩, .string ⟨#[]⟩, V] 43) := T.own
              have hz4 : w2.heap.size ≤ w4.heap.size := hr.size
              obtain ⟨A7, c7, hv7, _, _⟩ := own_rd hx2.own
              rw [hv7] at hx2
              have c4 : w4.cell? ⟨w1.heap.size, 4, none⟩ = some V := cell_of_row _ _ 4 _ _ (0, 0) hO
              have f4 : w4.frozen? ⟨w1.heap.size, 4, none⟩ = false := frz hO
              have hst : Out g w1.heap.size (w1.heap.size + 1) w4 (w4.setCell ⟨w1.heap.size, 4, none⟩ (.slice A7 (L ++ [x]).length c7)) := ⟨rfl, rfl, rfl, by simp, fun k h1 h2 h3 => Below.heap_setCell w4 _ _ k (by simpa using h3)⟩
              refine ⟨w4.setCell ⟨w1.heap.size, 4, none⟩ (.slice A7 (L ++ [x]).length c7), by simp only [execOp, h56, hv7]; simp [go_sem, c4, f4], hst, ⟨x, .slice A7 (L ++ [x]).length c7, hx1, hx2.set (by omega), heap_setCell_same _ _ 4 _ _ _ hO⟩, fun k hk hG => ?_, fun j v hj hw hF => ?_⟩
              · unfold GG at *
                split
                · exact reader_wide w4 B g 0 rr hG _ (by omega) (by omega)
                · exact OwnKids.set hG (by omega)
                · exact absurd rfl hk
                · trivial
              · match j, hj, hw, hF with
                | 0, _, _, hF => exact hF
                | 1, _, _, hF => exact hF
                | 2, _, _, hF => exact hF
                | 3, _, _, hF => exact hF
                | 4, _, _, hF => exact hF
                | 5, _, _, hF => obtain ⟨y, h1, h2, h3, h4⟩ := hF; exact ⟨y, h1, h2, h3.set (by omega), reader_wide w4 B g 0 _ h4 _ (by omega) (by omega)⟩
                | 6, _, _, hF => obtain ⟨y, p, h1, h2, h3, h4, h5, h6, h7⟩ := hF; exact ⟨y, p, h1, h2, h3.set (by omega), h4.block9 (Below.heap_setCell w4 _ _ p (by simp; omega)), h5, by simpa using h6, h7⟩
                | 7, _, _, hF => obtain ⟨y, h1, h2⟩ := hF; exact ⟨y, h1, h2.set (by omega)⟩
                | 8, _, _, hF => exact hF
                | 9, hj, _, _ => exact absurd rfl hj
                | _ + 10, _, _, _ => trivial
            · cases ho
          · rw [← hw2]
            intro x w5 hr hf he
            obtain ⟨x5, hx5, hx5t, hx5k, hx5r⟩ := hf 5 _ 53 rfl rfl
            obtain ⟨_, y, V', hyt, hyo, hyx⟩ := he 9 _ rfl rfl
            have hz5 := hr.size
            have GJ5 : Hid (GeSt W w5 B g w1.heap.size (Rm.rul D rr).2 #[.int .i64 2, .int .i64 0, .string ⟨#[]⟩, .string ⟨#[]⟩, V']) := Lib.hid ⟨(hr.block _ (by omega) (by omega) (by omega)).trans ((hbd.block _ (in_heap GJ.out.z)).trans GJ.out.z), hyx, hlb, hx5r, ⟨hr.os.trans (hbd.os.trans GJ.out.gr.os), hr.tape.trans (hbd.tape.trans GJ.out.gr.tape), hr.output.trans (hbd.output.trans GJ.out.gr.output), Nat.le_trans GJ.out.gr.size (Nat.le_trans hbd.size hr.size), fun k hk hne => (hr.block k (by omega) (fun e => hne (by rw [e])) (by omega)).trans ((hbd.block k (by have := GJ.out.gr.size; omega)).trans (GJ.out.gr.block k hk hne))⟩⟩
            have HO5 := Lib.hid hyo
            have HYT := Lib.hid hyt
            clear hf he hr hx5 hx5t hx5k hx5r hyo hyx hyt
            simp only [PG.putAll, Act.put, List.setIfInBounds_toArray, List.set_cons_zero, List.set_cons_succ]
            go_wp2_with fail
            go_roundw
            case rel =>
              refine ⟨nn - 1, (Rm.rul D rr).2, L ++ [y], V', by go_num, by omega, ?_, GJ5, HO5, Lib.hid ⟨Nat.le_trans HRU.out.1 HLR.out, ?_, fun h => ?_⟩, by omega⟩
              · rw [List.map_append, List.map_singleton, HYT.out]
                exact HSTEP
              · rw [List.length_append, List.length_singleton]
                have h := HL2.out
                omega
              · have h1 := HL2.out
                have h2 := HRU.out.2 h
                rw [List.length_append, List.length_singleton]
                omega
            case measure => simp [intOf]; omega
    · have HRR : Hid (RR = (.mk 3 0 ⟨#[]⟩ ⟨#[]⟩ (Rm.rulL (Rm.rul D) (Rm.num r1).1 (Rm.num r1).2 []).1, (Rm.rulL (Rm.rul D) (Rm.num r1).1 (Rm.num r1).2 []).2)) := Lib.hid (by rw [HMD.out]; rfl)
      obtain ⟨LL, hLL⟩ : ∃ LL, Rm.rulL (Rm.rul D) (Rm.num r1).1 (Rm.num r1).2 [] = LL := ⟨_, rfl⟩
      have HLL0 := Lib.hid hLL
      rw [hLL] at HRR
      rw [HRR.out]
      have HNB := Lib.hid (num_lt r1)
      have HRL2 := Lib.hid (Nat.le_trans (num_ln r1) HRL.out)
      clear HMD HRR hLL
      go_enter Try.func43, Try.ntmps43
      go_wp2_with (first
        | (have hd := done1; clear done1; go_at_call 63; (with_reducible refine (num_any g B r1 _ GS.out.r).mono ?_); rintro e w3 ⟨rfl, hr3, hg3⟩; have GS3 := Lib.hid (GS.out.call hg3 hr3 hgW); have hlt3 := Nat.lt_of_lt_of_le (show w1.heap.size < (w1.alloc (.cells #[.int .i64 3, .int .i64 0, .string ⟨#[]⟩, .string ⟨#[]⟩, .slice none 0 0] 43)).heap.size from (by simp)) hg3.size; clear hr3 hg3 d0 d1 d2 d3 d4 df0 df1 df2 df3 df4 c0 c1 c2 c3 c4 cf0 cf1 cf2 cf3 cf4 HX1)
        | (go_at_call 61; (with_reducible refine (HBY.out).mono ?_); rintro e w1 ⟨rfl, hr1, hg1⟩; have HZ1 := Lib.hid ((hg1.block _ (by simp) (by intro e; injection e with e; omega)).trans HZ.out); have GS := Lib.hid (GeSt.start hr1 HZ1.out (grown_trans HG0.out hg1) hgW #[.int .i64 3, .int .i64 0, .string ⟨#[]⟩, .string ⟨#[]⟩, .slice none 0 0]); have HX1 := Lib.hid (GS.out.x); have hlt := GS.out.lt; have d0 : (w1.alloc (.cells #[.int .i64 3, .int .i64 0, .string ⟨#[]⟩, .string ⟨#[]⟩, .slice none 0 0] 43)).cell? ⟨w1.heap.size, 0, none⟩ = some (.int .i64 3) := cell_of_row _ _ 0 _ _ (0, 0) HX1.out; have d1 : (w1.alloc (.cells #[.int .i64 3, .int .i64 0, .string ⟨#[]⟩, .string ⟨#[]⟩, .slice none 0 0] 43)).cell? ⟨w1.heap.size, 1, none⟩ = some (.int .i64 0) := cell_of_row _ _ 1 _ _ (0, 0) HX1.out; have d2 : (w1.alloc (.cells #[.int .i64 3, .int .i64 0, .string ⟨#[]⟩, .string ⟨#[]⟩, .slice none 0 0] 43)).cell? ⟨w1.heap.size, 2, none⟩ = some (.string ⟨#[]⟩) := cell_of_row _ _ 2 _ _ (0, 0) HX1.out; have d3 : (w1.alloc (.cells #[.int .i64 3, .int .i64 0, .string ⟨#[]⟩, .string ⟨#[]⟩, .slice none 0 0] 43)).cell? ⟨w1.heap.size, 3, none⟩ = some (.string ⟨#[]⟩) := cell_of_row _ _ 3 _ _ (0, 0) HX1.out; have d4 : (w1.alloc (.cells #[.int .i64 3, .int .i64 0, .string ⟨#[]⟩, .string ⟨#[]⟩, .slice none 0 0] 43)).cell? ⟨w1.heap.size, 4, none⟩ = some (.slice none 0 0) := cell_of_row _ _ 4 _ _ (0, 0) HX1.out; have df0 : (w1.alloc (.cells #[.int .i64 3, .int .i64 0, .string ⟨#[]⟩, .string ⟨#[]⟩, .slice none 0 0] 43)).frozen? ⟨w1.heap.size, 0, none⟩ = false := frz HX1.out; have df1 : (w1.alloc (.cells #[.int .i64 3, .int .i64 0, .string ⟨#[]⟩, .string ⟨#[]⟩, .slice none 0 0] 43)).frozen? ⟨w1.heap.size, 1, none⟩ = false := frz HX1.out; have df2 : (w1.alloc (.cells #[.int .i64 3, .int .i64 0, .string ⟨#[]⟩, .string ⟨#[]⟩, .slice none 0 0] 43)).frozen? ⟨w1.heap.size, 2, none⟩ = false := frz HX1.out; have df3 : (w1.alloc (.cells #[.int .i64 3, .int .i64 0, .string ⟨#[]⟩, .string ⟨#[]⟩, .slice none 0 0] 43)).frozen? ⟨w1.heap.size, 3, none⟩ = false := frz HX1.out; have df4 : (w1.alloc (.cells #[.int .i64 3, .int .i64 0, .string ⟨#[]⟩, .string ⟨#[]⟩, .slice none 0 0] 43)).frozen? ⟨w1.heap.size, 4, none⟩ = false := frz HX1.out; have c0 : w1.cell? ⟨W.heap.size, 0, none⟩ = some (.int .i64 0) := cell_of_row _ _ 0 _ _ (0, 0) HZ1.out; have c1 : w1.cell? ⟨W.heap.size, 1, none⟩ = some (.int .i64 0) := cell_of_row _ _ 1 _ _ (0, 0) HZ1.out; have c2 : w1.cell? ⟨W.heap.size, 2, none⟩ = some (.string ⟨#[]⟩) := cell_of_row _ _ 2 _ _ (0, 0) HZ1.out; have c3 : w1.cell? ⟨W.heap.size, 3, none⟩ = some (.string ⟨#[]⟩) := cell_of_row _ _ 3 _ _ (0, 0) HZ1.out; have c4 : w1.cell? ⟨W.heap.size, 4, none⟩ = some (.slice none 0 0) := cell_of_row _ _ 4 _ _ (0, 0) HZ1.out; have cf0 : w1.frozen? ⟨W.heap.size, 0, none⟩ = false := frz HZ1.out; have cf1 : w1.frozen? ⟨W.heap.size, 1, none⟩ = false := frz HZ1.out; have cf2 : w1.frozen? ⟨W.heap.size, 2, none⟩ = false := frz HZ1.out; have cf3 : w1.frozen? ⟨W.heap.size, 3, none⟩ = false := frz HZ1.out; have cf4 : w1.frozen? ⟨W.heap.size, 4, none⟩ = false := frz HZ1.out; have HRW := Lib.hid hr1; have HGW := Lib.hid (grown_trans HG0.out hg1); clear hr1 hg1; have done1 := trivial))
      have hlb : W.heap.size < w1.heap.size := hlt
      have hn63 : (Rm.num r1).1 ≤ 9223372036854775807 := HNB.out
      generalize hn0 : (Rm.num r1).1 = n0 at *
      generalize hr2 : (Rm.num r1).2 = r2 at *
      clear hn0 hr2
      go_loopw [6] (fun x wr => ∃ (nn : Nat) (rr : Rm.R) (L : List Kr) (V : Value), x = .int .i64 (nn : Int) ∧ nn ≤ n0 ∧ Hid (Rm.rulL (Rm.rul D) nn rr (L.map Kr.t) = LL) ∧ Hid (GeSt W wr B g w1.heap.size rr #[.int .i64 3, .int .i64 0, .string ⟨#[]⟩, .string ⟨#[]⟩, V]) ∧ Hid (OwnKids wr (w1.heap.size + 1) V L) ∧ Hid (rr.1.length ≤ 1000 ∧ L.length ≤ 1001 ∧ (rr.2 = false → L.length + rr.1.length ≤ 1000)) ∧ w1.heap.size + 1 ≤ wr.heap.size) (fun x _ => (intOf x).toNat)
      case atStart => exact ⟨n0, r2, [], .slice none 0 0, rfl, Nat.le_refl _, HLL0, GS3, Lib.hid (OwnKids.nil _ _), Lib.hid ⟨HRL2.out, by simp, fun _ => by simpa using HRL2.out⟩, hlt3⟩
      case round =>
        obtain ⟨nn, rr, L, V, rfl, hnn, HEQ, GJ, HOK, HLN, hwb⟩ := hrel
        have hcs : nn = 0 ∨ (0 < nn ∧ rr.2 = true) ∨ (0 < nn ∧ rr.2 = false) := by
          cases rr.2 <;> simp <;> omega
        obtain ⟨rest, bad⟩ := rr
        obtain ⟨⟨Ag, ng, cg, hgx, _⟩, _⟩ := GJ.out.r
        have gb : wr.cell? ⟨g, 1, none⟩ = some (.bool bad) := cell_of_row _ _ 1 _ _ (0, 0) hgx
        clear hgx
        rcases hcs with rfl | ⟨hpos, hbad⟩ | ⟨hpos, hbad⟩
        · have HEND : Hid (LL = (L.map Kr.t, (rest, bad))) := Lib.hid (by rw [← HEQ.out, Rm.rulL])
          obtain ⟨A, c, hV, hT⟩ := HOK.out.tree 3 0 ⟨#[]⟩ ⟨#[]⟩ (by omega) (by omega) (Nat.zero_le _) (Nat.zero_le _)
          subst hV
          have HT := Lib.hid hT
          have HXJ := Lib.hid GJ.out.x
          have HZJ := Lib.hid GJ.out.z
          have d0 : wr.cell? ⟨w1.heap.size, 0, none⟩ = some (.int .i64 3) := cell_of_row _ _ 0 _ _ (0, 0) HXJ.out
          have d1 : wr.cell? ⟨w1.heap.size, 1, none⟩ = some (.int .i64 0) := cell_of_row _ _ 1 _ _ (0, 0) HXJ.out
          have d2 : wr.cell? ⟨w1.heap.size, 2, none⟩ = some (.string ⟨#[]⟩) := cell_of_row _ _ 2 _ _ (0, 0) HXJ.out
          have d3 : wr.cell? ⟨w1.heap.size, 3, none⟩ = some (.string ⟨#[]⟩) := cell_of_row _ _ 3 _ _ (0, 0) HXJ.out
          have d4 : wr.cell? ⟨w1.heap.size, 4, none⟩ = some (.slice A L.length c) := cell_of_row _ _ 4 _ _ (0, 0) HXJ.out
          have c0 : wr.cell? ⟨W.heap.size, 0, none⟩ = some (.int .i64 0) := cell_of_row _ _ 0 _ _ (0, 0) HZJ.out
          have c1 : wr.cell? ⟨W.heap.size, 1, none⟩ = some (.int .i64 0) := cell_of_row _ _ 1 _ _ (0, 0) HZJ.out
          have c2 : wr.cell? ⟨W.heap.size, 2, none⟩ = some (.string ⟨#[]⟩) := cell_of_row _ _ 2 _ _ (0, 0) HZJ.out
          have c3 : wr.cell? ⟨W.heap.size, 3, none⟩ = some (.string ⟨#[]⟩) := cell_of_row _ _ 3 _ _ (0, 0) HZJ.out
          have c4 : wr.cell? ⟨W.heap.size, 4, none⟩ = some (.slice none 0 0) := cell_of_row _ _ 4 _ _ (0, 0) HZJ.out
          have cf0 : wr.frozen? ⟨W.heap.size, 0, none⟩ = false := frz HZJ.out
          have cf1 : wr.frozen? ⟨W.heap.size, 1, none⟩ = false := frz HZJ.out
          have cf2 : wr.frozen? ⟨W.heap.size, 2, none⟩ = false := frz HZJ.out
          have cf3 : wr.frozen? ⟨W.heap.size, 3, none⟩ = false := frz HZJ.out
          have cf4 : wr.frozen? ⟨W.heap.size, 4, none⟩ = false := frz HZJ.out
          have HFIN := Lib.hid (fin5 GJ.out.r GJ.out.gr hgW hBW GJ.out.z (.int .i64 3) (.int .i64 0) (.string ⟨#[]⟩) (.string ⟨#[]⟩) (.slice A L.length c))
          clear hT
          go_wp2_with fail
          have hrw := HFIN.out.2.2.2.2
          have q0 : (((((wr.setCell ⟨W.heap.size, 0, none⟩ (.int .i64 3)).setCell ⟨W.heap.size, 1, none⟩ (.int .i64 0)).setCell ⟨W.heap.size, 2, none⟩ (.string ⟨#[]⟩)).setCell ⟨W.heap.size, 3, none⟩ (.string ⟨#[]⟩)).setCell ⟨W.heap.size, 4, none⟩ (.slice A L.length c)).cell? ⟨W.heap.size, 0, none⟩ = some (.int .i64 3) := cell_of_row _ _ 0 _ _ (0, 0) hrw
          have q1 : (((((wr.setCell ⟨W.heap.size, 0, none⟩ (.int .i64 3)).setCell ⟨W.heap.size, 1, none⟩ (.int .i64 0)).setCell ⟨W.heap.size, 2, none⟩ (.string ⟨#[]⟩)).setCell ⟨W.heap.size, 3, none⟩ (.string ⟨#[]⟩)).setCell ⟨W.heap.size, 4, none⟩ (.slice A L.length c)).cell? ⟨W.heap.size, 1, none⟩ = some (.int .i64 0) := cell_of_row _ _ 1 _ _ (0, 0) hrw
          have q2 : (((((wr.setCell ⟨W.heap.size, 0, none⟩ (.int .i64 3)).setCell ⟨W.heap.size, 1, none⟩ (.int .i64 0)).setCell ⟨W.heap.size, 2, none⟩ (.string ⟨#[]⟩)).setCell ⟨W.heap.size, 3, none⟩ (.string ⟨#[]⟩)).setCell ⟨W.heap.size, 4, none⟩ (.slice A L.length c)).cell? ⟨W.heap.size, 2, none⟩ = some (.string ⟨#[]⟩) := cell_of_row _ _ 2 _ _ (0, 0) hrw
          have q3 : (((((wr.setCell ⟨W.heap.size, 0, none⟩ (.int .i64 3)).setCell ⟨W.heap.size, 1, none⟩ (.int .i64 0)).setCell ⟨W.heap.size, 2, none⟩ (.string ⟨#[]⟩)).setCell ⟨W.heap.size, 3, none⟩ (.string ⟨#[]⟩)).setCell ⟨W.heap.size, 4, none⟩ (.slice A L.length c)).cell? ⟨W.heap.size, 3, none⟩ = some (.string ⟨#[]⟩) := cell_of_row _ _ 3 _ _ (0, 0) hrw
          have q4 : (((((wr.setCell ⟨W.heap.size, 0, none⟩ (.int .i64 3)).setCell ⟨W.heap.size, 1, none⟩ (.int .i64 0)).setCell ⟨W.heap.size, 2, none⟩ (.string ⟨#[]⟩)).setCell ⟨W.heap.size, 3, none⟩ (.string ⟨#[]⟩)).setCell ⟨W.heap.size, 4, none⟩ (.slice A L.length c)).cell? ⟨W.heap.size, 4, none⟩ = some (.slice A L.length c) := cell_of_row _ _ 4 _ _ (0, 0) hrw
          refine bodyPost_ret (v := .agg #[.int .i64 3, .int .i64 0, .string ⟨#[]⟩, .string ⟨#[]⟩, .slice A L.length c]) (by simp [results, Try.results43, go_sem, q0, q1, q2, q3, q4]) rfl ?_
          rw [HEND.out]
          exact ⟨rcs 3 0 ⟨#[]⟩ ⟨#[]⟩ A L.length c, rfl, (HT.out.heap fun q hq => HFIN.out.2.2.1 q (by have := hlb; omega)).imp (fun q hq => ⟨by omega, by rw [HFIN.out.2.2.2.1]; exact hq.2⟩), HFIN.out.1, HFIN.out.2.1⟩
        · simp only at hbad
          subst hbad
          have HEND : Hid (LL = (L.map Kr.t, (rest, true))) := Lib.hid (by
            obtain ⟨n1, rfl⟩ : ∃ n1, nn = n1 + 1 := ⟨nn - 1, by omega⟩
            rw [← HEQ.out, Rm.rulL, if_pos rfl])
          obtain ⟨A, c, hV, hT⟩ := HOK.out.tree 3 0 ⟨#[]⟩ ⟨#[]⟩ (by omega) (by omega) (Nat.zero_le _) (Nat.zero_le _)
          subst hV
          have HT := Lib.hid hT
          have HXJ := Lib.hid GJ.out.x
          have HZJ := Lib.hid GJ.out.z
          have d0 : wr.cell? ⟨w1.heap.size, 0, none⟩ = some (.int .i64 3) := cell_of_row _ _ 0 _ _ (0, 0) HXJ.out
          have d1 : wr.cell? ⟨w1.heap.size, 1, none⟩ = some (.int .i64 0) := cell_of_row _ _ 1 _ _ (0, 0) HXJ.out
          have d2 : wr.cell? ⟨w1.heap.size, 2, none⟩ = some (.string ⟨#[]⟩) := cell_of_row _ _ 2 _ _ (0, 0) HXJ.out
          have d3 : wr.cell? ⟨w1.heap.size, 3, none⟩ = some (.string ⟨#[]⟩) := cell_of_row _ _ 3 _ _ (0, 0) HXJ.out
          have d4 : wr.cell? ⟨w1.heap.size, 4, none⟩ = some (.slice A L.length c) := cell_of_row _ _ 4 _ _ (0, 0) HXJ.out
          have c0 : wr.cell? ⟨W.heap.size, 0, none⟩ = some (.int .i64 0) := cell_of_row _ _ 0 _ _ (0, 0) HZJ.out
          have c1 : wr.cell? ⟨W.heap.size, 1, none⟩ = some (.int .i64 0) := cell_of_row _ _ 1 _ _ (0, 0) HZJ.out
          have c2 : wr.cell? ⟨W.heap.size, 2, none⟩ = some (.string ⟨#[]⟩) := cell_of_row _ _ 2 _ _ (0, 0) HZJ.out
          have c3 : wr.cell? ⟨W.heap.size, 3, none⟩ = some (.string ⟨#[]⟩) := cell_of_row _ _ 3 _ _ (0, 0) HZJ.out
          have c4 : wr.cell? ⟨W.heap.size, 4, none⟩ = some (.slice none 0 0) := cell_of_row _ _ 4 _ _ (0, 0) HZJ.out
          have cf0 : wr.frozen? ⟨W.heap.size, 0, none⟩ = false := frz HZJ.out
          have cf1 : wr.frozen? ⟨W.heap.size, 1, none⟩ = false := frz HZJ.out
          have cf2 : wr.frozen? ⟨W.heap.size, 2, none⟩ = false := frz HZJ.out
          have cf3 : wr.frozen? ⟨W.heap.size, 3, none⟩ = false := frz HZJ.out
          have cf4 : wr.frozen? ⟨W.heap.size, 4, none⟩ = false := frz HZJ.out
          have HFIN := Lib.hid (fin5 GJ.out.r GJ.out.gr hgW hBW GJ.out.z (.int .i64 3) (.int .i64 0) (.string ⟨#[]⟩) (.string ⟨#[]⟩) (.slice A L.length c))
          clear hT
          go_wp2_with fail
          have hrw := HFIN.out.2.2.2.2
          have q0 : (((((wr.setCell ⟨W.heap.size, 0, none⟩ (.int .i64 3)).setCell ⟨W.heap.size, 1, none⟩ (.int .i64 0)).setCell ⟨W.heap.size, 2, none⟩ (.string ⟨#[]⟩)).setCell ⟨W.heap.size, 3, none⟩ (.string ⟨#[]⟩)).setCell ⟨W.heap.size, 4, none⟩ (.slice A L.length c)).cell? ⟨W.heap.size, 0, none⟩ = some (.int .i64 3) := cell_of_row _ _ 0 _ _ (0, 0) hrw
          have q1 : (((((wr.setCell ⟨W.heap.size, 0, none⟩ (.int .i64 3)).setCell ⟨W.heap.size, 1, none⟩ (.int .i64 0)).setCell ⟨W.heap.size, 2, none⟩ (.string ⟨#[]⟩)).setCell ⟨W.heap.size, 3, none⟩ (.string ⟨#[]⟩)).setCell ⟨W.heap.size, 4, none⟩ (.slice A L.length c)).cell? ⟨W.heap.size, 1, none⟩ = some (.int .i64 0) := cell_of_row _ _ 1 _ _ (0, 0) hrw
          have q2 : (((((wr.setCell ⟨W.heap.size, 0, none⟩ (.int .i64 3)).setCell ⟨W.heap.size, 1, none⟩ (.int .i64 0)).setCell ⟨W.heap.size, 2, none⟩ (.string ⟨#[]⟩)).setCell ⟨W.heap.size, 3, none⟩ (.string ⟨#[]⟩)).setCell ⟨W.heap.size, 4, none⟩ (.slice A L.length c)).cell? ⟨W.heap.size, 2, none⟩ = some (.string ⟨#[]⟩) := cell_of_row _ _ 2 _ _ (0, 0) hrw
          have q3 : (((((wr.setCell ⟨W.heap.size, 0, none⟩ (.int .i64 3)).setCell ⟨W.heap.size, 1, none⟩ (.int .i64 0)).setCell ⟨W.heap.size, 2, none⟩ (.string ⟨#[]⟩)).setCell ⟨W.heap.size, 3, none⟩ (.string ⟨#[]⟩)).setCell ⟨W.heap.size, 4, none⟩ (.slice A L.length c)).cell? ⟨W.heap.size, 3, none⟩ = some (.string ⟨#[]⟩) := cell_of_row _ _ 3 _ _ (0, 0) hrw
          have q4 : (((((wr.setCell ⟨W.heap.size, 0, none⟩ (.int .i64 3)).setCell ⟨W.heap.size, 1, none⟩ (.int .i64 0)).setCell ⟨W.heap.size, 2, none⟩ (.string ⟨#[]⟩)).setCell ⟨W.heap.size, 3, none⟩ (.string ⟨#[]⟩)).setCell ⟨W.heap.size, 4, none⟩ (.slice A L.length c)).cell? ⟨W.heap.size, 4, none⟩ = some (.slice A L.length c) := cell_of_row _ _ 4 _ _ (0, 0) hrw
          refine bodyPost_ret (v := .agg #[.int .i64 3, .int .i64 0, .string ⟨#[]⟩, .string ⟨#[]⟩, .slice A L.length c]) (by simp [results, Try.results43, go_sem, q0, q1, q2, q3, q4]) rfl ?_
          rw [HEND.out]
          exact ⟨rcs 3 0 ⟨#[]⟩ ⟨#[]⟩ A L.length c, rfl, (HT.out.heap fun q hq => HFIN.out.2.2.1 q (by have := hlb; omega)).imp (fun q hq => ⟨by omega, by rw [HFIN.out.2.2.2.1]; exact hq.2⟩), HFIN.out.1, HFIN.out.2.1⟩
        · simp only at hbad
          subst hbad
          have HSTEP : Hid (Rm.rulL (Rm.rul D) (nn - 1) (Rm.rul D (rest, false)).2 (L.map Kr.t ++ [(Rm.rul D (rest, false)).1]) = LL) := Lib.hid (by
            obtain ⟨n1, rfl⟩ : ∃ n1, nn = n1 + 1 := ⟨nn - 1, by omega⟩
            rw [← HEQ.out, Rm.rulL, if_neg (by simp)]
            rfl)
          have HLL : Hid (L.length ≤ 1000000) := Lib.hid (by have := HLN.out.2.1; omega)
          go_wp2_with fail
          obtain ⟨rr, hrr⟩ : ∃ rr : Rm.R, rr = (rest, false) := ⟨_, rfl⟩
          have HLR : Hid (rr.1.length ≤ 1000) := Lib.hid (by rw [hrr]; exact HLN.out.1)
          have HL2 : Hid (L.length + rr.1.length ≤ 1000) := Lib.hid (by rw [hrr]; exact HLN.out.2.2 (by first | trivial | rfl))
          rw [← hrr] at HSTEP GJ
          have HRU := Lib.hid (rul_ln D rr)
          have HRRF := Lib.hid hrr
          have HW6 : Hid (IntKind.i64.wrap (5 - (D : Int) + 1) = 5 - (D : Int) + 1) := Lib.hid (by rw [IntKind.wrap_i64] <;> omega)
          have HD6 : Hid (5 - (D : Int) + 1 = 6 - (D : Int)) := Lib.hid (by omega)
          obtain ⟨w2, hw2⟩ : ∃ w2, w2 = wr.drew := ⟨_, rfl⟩
          have hbd : Below wr.heap.size wr w2 := by rw [hw2]; exact ⟨rfl, rfl, rfl, Nat.le_refl _, fun _ _ => rfl⟩
          have hw2b : w1.heap.size + 1 ≤ w2.heap.size := Nat.le_trans hwb hbd.size
          have hgb : g < w1.heap.size := by omega
          have hBb : B ≤ w1.heap.size := by omega
          refine PG.wp_region_persG (R := Out g w1.heap.size (w1.heap.size + 1)) (G := GG g w1.heap.size (w1.heap.size + 1) B V L rr 3) (by kernel_rfl) (PG.formed_of (by kernel_rfl)) (out_goes g w1.heap.size (w1.heap.size + 1)) ?_ (GF g w1.heap.size (w1.heap.size + 1) B (5 - (D : Int)) V L (Rm.rul D rr).1 (Rm.rul D rr).2 3) ?_ ?_
          · rw [← hw2]
            intro k
            unfold GG
            split
            · exact RSt.below GJ.out.r hbd GJ.out.r.at_
            · exact HOK.out.below hbd
            · exact (hbd.block _ (in_heap GJ.out.x)).trans GJ.out.x
            · trivial
          · rw [← hw2]
            intro i o ho
            rcases i with _ | _ | _ | _ | _ | _ | _ | _ | _ | _ | i
            · obtain rfl := Option.some.inj (show some _ = some o from ho)
              refine PG.shown_val rfl fun a w4 hr T => ?_
              have h5 : a.eval (.tmp 5) = .pointer (some ⟨w1.heap.size, 0, none⟩) := T.was 5 (by kernel_rfl)
              exact ⟨.pointer (some ⟨w1.heap.size, 4, none⟩), w4, by simp only [execOp, h5]; simp [go_sem], PG.Post.pure (out_goes g w1.heap.size (w1.heap.size + 1)) rfl⟩
            · obtain rfl := Option.some.inj (show some _ = some o from ho)
              refine PG.shown_val rfl fun a w4 hr T => ?_
              have h48 : a.eval (.tmp 48) = .pointer (some ⟨w1.heap.size, 4, none⟩) := T.at_ 0 48 (by kernel_rfl) (by kernel_rfl)
              have hO : w4.heap[w1.heap.size]? = some (.cells #[.int .i64 3, .int .i64 0, .string ⟨#[]⟩, .string ⟨#[]⟩, V] 43) := T.yet 9 (by kernel_rfl)
              have c4 : w4.cell? ⟨w1.heap.size, 4, none⟩ = some V := cell_of_row _ _ 4 _ _ (0, 0) hO
              exact ⟨V, w4, by simp only [execOp, h48]; simp [go_sem, c4], PG.Post.pure (out_goes g w1.heap.size (w1.heap.size + 1)) rfl⟩
            · obtain rfl := Option.some.inj (show some _ = some o from ho)
              refine PG.shown_val rfl fun a w4 hr T => ?_
              have h0 : a.eval (.tmp 0) = .pointer (some ⟨g, 0, none⟩) := T.was 0 (by kernel_rfl)
              exact ⟨.pointer (some ⟨g, 0, none⟩), w4, by simp only [execOp, h0]; simp [go_sem], PG.Post.pure (out_goes g w1.heap.size (w1.heap.size + 1)) rfl⟩
            · obtain rfl := Option.some.inj (show some _ = some o from ho)
              refine PG.shown_val rfl fun a w4 hr T => ?_
              have h1 : a.eval (.tmp 1) = .int .i64 (5 - (D : Int)) := T.was 1 (by kernel_rfl)
              exact ⟨.int .i64 (5 - (D : Int)), w4, by simp only [execOp, h1]; simp [go_sem], PG.Post.pure (out_goes g w1.heap.size (w1.heap.size + 1)) rfl⟩
            · obtain rfl := Option.some.inj (show some _ = some o from ho)
              refine PG.shown_val rfl fun a w4 hr T => ?_
              have h51 : a.eval (.tmp 51) = .int .i64 (5 - (D : Int)) := T.at_ 3 51 (by kernel_rfl) (by kernel_rfl)
              exact ⟨.int .i64 (5 - (D : Int) + 1), w4, by simp only [execOp, h51]; simp [go_sem, HW6.out], PG.Post.pure (out_goes g w1.heap.size (w1.heap.size + 1)) rfl⟩
            · obtain rfl := Option.some.inj (show some _ = some o from ho)
              refine PG.shown_call rfl 43 fun a w4 hr T => ?_
              have h50 : a.eval (.tmp 50) = .pointer (some ⟨g, 0, none⟩) := T.at_ 2 50 (by kernel_rfl) (by kernel_rfl)
              have h52 : a.eval (.tmp 52) = .int .i64 (5 - (D : Int) + 1) := T.at_ 4 52 (by kernel_rfl) (by kernel_rfl)
              have hR5 : RSt w4 B g rr := T.own
              have hO7 : OwnKids w4 (w1.heap.size + 1) V L := T.yet 7 (by kernel_rfl)
              have hz4 : w2.heap.size ≤ w4.heap.size := hr.size
              refine ⟨#[.pointer (some ⟨g, 0, none⟩), .int .i64 (5 - (D : Int) + 1)], by simp only [execOp, resolve, List.map_toArray, List.map_cons, List.map_nil, h50, h52]; simp [go_sem, Act.eval], ?_⟩
              rw [HD6.out]
              refine (HIH.out rr w4 (by have := HDD.out; omega) hR5 (by omega) HLR.out).mono fun e w5 hh => ?_
              obtain ⟨cs, rfl, hp5, hr5, hg5⟩ := hh
              obtain ⟨k9, n9, y9, v9, A9, m9, c9, rfl⟩ := hp5.inv
              refine ⟨_, rfl, out_grown hg5 (by omega), ⟨⟨(Rm.rul D rr).1, k9, n9, y9, v9, A9, m9, c9⟩, rfl, rfl, hp5.imp (fun q hq => ⟨by omega, hq.2, fun e => by have := own_block_lt hO7.own q e; omega⟩), hr5⟩, fun k hk hG => ?_, fun j v hj hw hF => ?_⟩
              · unfold GG at *
                split
                · exact absurd rfl hk
                · exact OwnKids.kept hG hg5 (by omega)
                · exact (hg5.block _ (in_heap hG) (by intro e; injection e with e; omega)).trans hG
                · trivial
              · match j, hj, hw, hF with
                | 0, _, _, hF => exact hF
                | 1, _, _, hF => exact hF
                | 2, _, _, hF => exact hF
                | 3, _, _, hF => exact hF
                | 4, _, _, hF => exact hF
                | 5, hj, _, _ => exact absurd rfl hj
                | 6, _, hw, _ => exact (PG.waits_no (by kernel_rfl) hw).elim
                | 7, _, _, hF => obtain ⟨x, h1, h2⟩ := hF; exact ⟨x, h1, h2.kept hg5 (by omega)⟩
                | 8, _, _, hF => exact hF
                | 9, _, _, hF => obtain ⟨x, v, h1, h2, h3⟩ := hF; exact ⟨x, v, h1, h2.kept hg5 (by omega), (hg5.block _ (in_heap h3) (by intro e; injection e with e; omega)).trans h3⟩
                | _ + 10, _, _, _ => trivial
            · obtain rfl := Option.some.inj (show some _ = some o from ho)
              refine PG.shown_val rfl fun a w4 hr T => ?_
              obtain ⟨x, h53, hx1, hx2, hx3⟩ := T.at_ 5 53 (by kernel_rfl) (by kernel_rfl)
              have hO7 : OwnKids w4 (w1.heap.size + 1) V L := T.yet 7 (by kernel_rfl)
              have hz4 : w2.heap.size ≤ w4.heap.size := hr.size
              have hb4 : Below w4.heap.size w4 (w4.alloc (.cells x.cells.toArray 43)) := (Below.refl _ _).alloc (Nat.le_refl _) _
              refine ⟨.slice (some ⟨w4.heap.size, 0, none⟩) 1 1, w4.alloc (.cells x.cells.toArray 43), by simp only [execOp, List.map_toArray, List.map_cons, List.map_nil, h53]; simp [go_sem, Kr.cells, rcs], out_below hb4 (by omega), ⟨x, w4.heap.size, rfl, hx1, hx2.below hb4, by simpa using Rd.lit w4 x.cells.toArray 43, by omega, by simp, fun e => by have := own_block_lt hO7.own _ e; omega⟩, fun k hk hG => hG.below hb4, fun j v hj hw hF => hF.below hb4⟩
            · obtain rfl := Option.some.inj (show some _ = some o from ho)
              refine PG.shown_val rfl fun a w4 hr T => ?_
              have h49 : a.eval (.tmp 49) = V := T.at_ 1 49 (by kernel_rfl) (by kernel_rfl)
              obtain ⟨x, q, h54, hx1, hx2, hx3, hx4, hx5, hx6⟩ := T.at_ 6 54 (by kernel_rfl) (by kernel_rfl)
              have hO7 : OwnKids w4 (w1.heap.size + 1) V L := T.own
              have hz4 : w2.heap.size ≤ w4.heap.size := hr.size
              obtain ⟨v', w', r1', r2', r3'⟩ := appKid (ty := 41) hO7 hx2 hx3 HLL.out (by omega)
              have hne : ∀ k, k < w1.heap.size + 1 → V.ownBlock ≠ some k := fun k hk e => by have := own_block_ge hO7.own k e; omega
              refine ⟨v', w', by simp only [execOp, resolve, invoke, builtin, Sem.run_bind, Sem.run_pure, Result.andThen_ok, List.map_toArray, List.map_cons, List.map_nil, h49, h54, r1'], ⟨r3'.grown.os, r3'.grown.tape, r3'.grown.output, r3'.grown.size, fun k h1 h2 h3 => r3'.grown.block k (by omega) (Ne.symm (hne k h1))⟩, ⟨x, hx1, r2'⟩, fun k hk hG => ?_, fun j v hj hw hF => ?_⟩
              · unfold GG at *
                split
                · exact RSt.grew hG hO7 r3' (by omega)
                · exact absurd rfl hk
                · exact (r3'.grown.block _ (in_heap hG) (Ne.symm (hne _ (by omega)))).trans hG
                · trivial
              · match j, hj, hw, hF with
                | 0, _, _, hF => exact hF
                | 1, _, _, hF => exact hF
                | 2, _, _, hF => exact hF
                | 3, _, _, hF => exact hF
                | 4, _, _, hF => exact hF
                | 5, _, _, hF => obtain ⟨y, h1, h2, h3, h4⟩ := hF; exact ⟨y, h1, h2, h3.app r3', h4.grew hO7 r3' (by omega)⟩
                | 6, _, _, hF => obtain ⟨y, p, h1, h2, h3, h4, h5, h6, h7⟩ := hF; exact ⟨y, p, h1, h2, h3.app r3', h4.block9 (r3'.grown.block p h6 (Ne.symm h7)), h5, Nat.lt_of_lt_of_le h6 r3'.grown.size, h7⟩
                | 7, hj, _, _ => exact absurd rfl hj
                | 8, _, _, hF => exact hF
                | 9, _, hw, _ => exact (PG.waits_no (by kernel_rfl) hw).elim
                | _ + 10, _, _, _ => trivial
            · obtain rfl := Option.some.inj (show some _ = some o from ho)
              refine PG.shown_val rfl fun a w4 hr T => ?_
              have h5 : a.eval (.tmp 5) = .pointer (some ⟨w1.heap.size, 0, none⟩) := T.was 5 (by kernel_rfl)
              exact ⟨.pointer (some ⟨w1.heap.size, 4, none⟩), w4, by simp only [execOp, h5]; simp [go_sem], PG.Post.pure (out_goes g w1.heap.size (w1.heap.size + 1)) rfl⟩
            · obtain rfl := Option.some.inj (show some _ = some o from ho)
              refine PG.shown_skip rfl fun a w4 hr T => ?_
              have h56 : a.eval (.tmp 56) = .pointer (some ⟨w1.heap.size, 4, none⟩) := T.at_ 8 56 (by kernel_rfl) (by kernel_rfl)
              obtain ⟨x, hx1, hx2⟩ := T.at_ 7 55 (by kernel_rfl) (by kernel_rfl)
              have hO : w4.heap[w1.heap.size]? = some (.cells #[.int .i64 3, .int .i64 0, .string ⟨#[]⟩, .string ⟨#[]⟩, V] 43) := T.own
              have hz4 : w2.heap.size ≤ w4.heap.size := hr.size
              obtain ⟨A7, c7, hv7, _, _⟩ := own_rd hx2.own
              rw [hv7] at hx2
              have c4 : w4.cell? ⟨w1.heap.size, 4, none⟩ = some V := cell_of_row _ _ 4 _ _ (0, 0) hO
              have f4 : w4.frozen? ⟨w1.heap.size, 4, none⟩ = false := frz hO
              have hst : Out g w1.heap.size (w1.heap.size + 1) w4 (w4.setCell ⟨w1.heap.size, 4, none⟩ (.slice A7 (L ++ [x]).length c7)) := ⟨rfl, rfl, rfl, by simp, fun k h1 h2 h3 => Below.heap_setCell w4 _ _ k (by simpa using h3)⟩
              refine ⟨w4.setCell ⟨w1.heap.size, 4, none⟩ (.slice A7 (L ++ [x]).length c7), by simp only [execOp, h56, hv7]; simp [go_sem, c4, f4], hst, ⟨x, .slice A7 (L ++ [x]).length c7, hx1, hx2.set (by omega), heap_setCell_same _ _ 4 _ _ _ hO⟩, fun k hk hG => ?_, fun j v hj hw hF => ?_⟩
              · unfold GG at *
                split
                · exact reader_wide w4 B g 0 rr hG _ (by omega) (by omega)
                · exact OwnKids.set hG (by omega)
                · exact absurd rfl hk
                · trivial
              · match j, hj, hw, hF with
                | 0, _, _, hF => exact hF
                | 1, _, _, hF => exact hF
                | 2, _, _, hF => exact hF
                | 3, _, _, hF => exact hF
                | 4, _, _, hF => exact hF
                | 5, _, _, hF => obtain ⟨y, h1, h2, h3, h4⟩ := hF; exact ⟨y, h1, h2, h3.set (by omega), reader_wide w4 B g 0 _ h4 _ (by omega) (by omega)⟩
                | 6, _, _, hF => obtain ⟨y, p, h1, h2, h3, h4, h5, h6, h7⟩ := hF; exact ⟨y, p, h1, h2, h3.set (by omega), h4.block9 (Below.heap_setCell w4 _ _ p (by simp; omega)), h5, by simpa using h6, h7⟩
                | 7, _, _, hF => obtain ⟨y, h1, h2⟩ := hF; exact ⟨y, h1, h2.set (by omega)⟩
                | 8, _, _, hF => exact hF
                | 9, hj, _, _ => exact absurd rfl hj
                | _ + 10, _, _, _ => trivial
            · cases ho
          · rw [← hw2]
            intro x w5 hr hf he
            obtain ⟨x5, hx5, hx5t, hx5k, hx5r⟩ := hf 5 _ 53 rfl rfl
            obtain ⟨_, y, V', hyt, hyo, hyx⟩ := he 9 _ rfl rfl
            have hz5 := hr.size
            have GJ5 : Hid (GeSt W w5 B g w1.heap.size (Rm.rul D rr).2 #[.int .i64 3, .int .i64 0, .string ⟨#[]⟩, .string ⟨#[]⟩, V']) := Lib.hid ⟨(hr.block _ (by omega) (by omega) (by omega)).trans ((hbd.block _ (in_heap GJ.out.z)).trans GJ.out.z), hyx, hlb, hx5r, ⟨hr.os.trans (hbd.os.trans GJ.out.gr.os), hr.tape.trans (hbd.tape.trans GJ.out.gr.tape), hr.output.trans (hbd.output.trans GJ.out.gr.output), Nat.le_trans GJ.out.gr.size (Nat.le_trans hbd.size hr.size), fun k hk hne => (hr.block k (by omega) (fun e => hne (by rw [e])) (by omega)).trans ((hbd.block k (by have := GJ.out.gr.size; omega)).trans (GJ.out.gr.block k hk hne))⟩⟩
            have HO5 := Lib.hid hyo
            have HYT := Lib.hid hyt
            clear hf he hr hx5 hx5t hx5k hx5r hyo hyx hyt
            simp only [PG.putAll, Act.put, List.setIfInBounds_toArray, List.set_cons_zero, List.set_cons_succ]
            go_wp2_with fail
            go_roundw
            case rel =>
              refine ⟨nn - 1, (Rm.rul D rr).2, L ++ [y], V', by go_num, by omega, ?_, GJ5, HO5, Lib.hid ⟨Nat.le_trans HRU.out.1 HLR.out, ?_, fun h => ?_⟩, by omega⟩
              · rw [List.map_append, List.map_singleton, HYT.out]
                exact HSTEP
              · rw [List.length_append, List.length_singleton]
                have h := HL2.out
                omega
              · have h1 := HL2.out
                have h2 := HRU.out.2 h
                rw [List.length_append, List.length_singleton]
                omega
            case measure => simp [intOf]; omega
    · have HRR : Hid (RR = (.mk (kb : Int) ((Rm.num r1).1 : Int) ⟨#[]⟩ ⟨#[]⟩ [], (Rm.num r1).2)) := Lib.hid (by
        rw [HMD.out, if_neg (by simp; omega), if_neg (by simp; omega), if_neg (by simp; omega)])
      rw [HRR.out]
      have q5 : ((kb : Int) == 5) = false := by rw [beq_eq_false_iff_ne]; omega
      have q6 : ((kb : Int) == 6) = false := by rw [beq_eq_false_iff_ne]; omega
      have q1 : ((kb : Int) == 1) = false := by rw [beq_eq_false_iff_ne]; omega
      have q2 : ((kb : Int) == 2) = false := by rw [beq_eq_false_iff_ne]; omega
      have q3 : ((kb : Int) == 3) = false := by rw [beq_eq_false_iff_ne]; omega
      have HNL := Lib.hid (num_lt r1)
      clear HMD k5 k6 k1 k2 k3
      go_enter Try.func43, Try.ntmps43
      go_wp2_with (first
        | (have hd := done1; clear done1; go_at_call 63; (with_reducible refine (num_any g B r1 _ GS.out.r).mono ?_); rintro e w3 ⟨rfl, hr3, hg3⟩; have GS3 := Lib.hid (GS.out.call hg3 hr3 hgW); clear hr3 hg3 d0 d1 d2 d3 d4 df0 df1 df2 df3 df4 c0 c1 c2 c3 c4 cf0 cf1 cf2 cf3 cf4; have HX3 := Lib.hid GS3.out.x; have d0 : w3.cell? ⟨w1.heap.size, 0, none⟩ = some (.int .i64 (kb : Int)) := cell_of_row _ _ 0 _ _ (0, 0) HX3.out; have d1 : w3.cell? ⟨w1.heap.size, 1, none⟩ = some (.int .i64 0) := cell_of_row _ _ 1 _ _ (0, 0) HX3.out; have d2 : w3.cell? ⟨w1.heap.size, 2, none⟩ = some (.string ⟨#[]⟩) := cell_of_row _ _ 2 _ _ (0, 0) HX3.out; have d3 : w3.cell? ⟨w1.heap.size, 3, none⟩ = some (.string ⟨#[]⟩) := cell_of_row _ _ 3 _ _ (0, 0) HX3.out; have d4 : w3.cell? ⟨w1.heap.size, 4, none⟩ = some (.slice none 0 0) := cell_of_row _ _ 4 _ _ (0, 0) HX3.out; have df0 : w3.frozen? ⟨w1.heap.size, 0, none⟩ = false := frz HX3.out; have df1 : w3.frozen? ⟨w1.heap.size, 1, none⟩ = false := frz HX3.out; have df2 : w3.frozen? ⟨w1.heap.size, 2, none⟩ = false := frz HX3.out; have df3 : w3.frozen? ⟨w1.heap.size, 3, none⟩ = false := frz HX3.out; have df4 : w3.frozen? ⟨w1.heap.size, 4, none⟩ = false := frz HX3.out; have GS6 := Lib.hid (GS3.out.set hgW hBW 1 (.int .i64 ((Rm.num r1).1 : Int))); have HX6 : Hid ((w3.setCell ⟨w1.heap.size, 1, none⟩ (.int .i64 ((Rm.num r1).1 : Int))).heap[w1.heap.size]? = some (.cells #[.int .i64 (kb : Int), .int .i64 ((Rm.num r1).1 : Int), .string ⟨#[]⟩, .string ⟨#[]⟩, .slice none 0 0] 43)) := Lib.hid GS6.out.x; have x0 : (w3.setCell ⟨w1.heap.size, 1, none⟩ (.int .i64 ((Rm.num r1).1 : Int))).cell? ⟨w1.heap.size, 0, none⟩ = some (.int .i64 (kb : Int)) := cell_of_row _ _ 0 _ _ (0, 0) HX6.out; have x1 : (w3.setCell ⟨w1.heap.size, 1, none⟩ (.int .i64 ((Rm.num r1).1 : Int))).cell? ⟨w1.heap.size, 1, none⟩ = some (.int .i64 ((Rm.num r1).1 : Int)) := cell_of_row _ _ 1 _ _ (0, 0) HX6.out; have x2 : (w3.setCell ⟨w1.heap.size, 1, none⟩ (.int .i64 ((Rm.num r1).1 : Int))).cell? ⟨w1.heap.size, 2, none⟩ = some (.string ⟨#[]⟩) := cell_of_row _ _ 2 _ _ (0, 0) HX6.out; have x3 : (w3.setCell ⟨w1.heap.size, 1, none⟩ (.int .i64 ((Rm.num r1).1 : Int))).cell? ⟨w1.heap.size, 3, none⟩ = some (.string ⟨#[]⟩) := cell_of_row _ _ 3 _ _ (0, 0) HX6.out; have x4 : (w3.setCell ⟨w1.heap.size, 1, none⟩ (.int .i64 ((Rm.num r1).1 : Int))).cell? ⟨w1.heap.size, 4, none⟩ = some (.slice none 0 0) := cell_of_row _ _ 4 _ _ (0, 0) HX6.out; have xf0 : (w3.setCell ⟨w1.heap.size, 1, none⟩ (.int .i64 ((Rm.num r1).1 : Int))).frozen? ⟨w1.heap.size, 0, none⟩ = false := frz HX6.out; have xf1 : (w3.setCell ⟨w1.heap.size, 1, none⟩ (.int .i64 ((Rm.num r1).1 : Int))).frozen? ⟨w1.heap.size, 1, none⟩ = false := frz HX6.out; have xf2 : (w3.setCell ⟨w1.heap.size, 1, none⟩ (.int .i64 ((Rm.num r1).1 : Int))).frozen? ⟨w1.heap.size, 2, none⟩ = false := frz HX6.out; have xf3 : (w3.setCell ⟨w1.heap.size, 1, none⟩ (.int .i64 ((Rm.num r1).1 : Int))).frozen? ⟨w1.heap.size, 3, none⟩ = false := frz HX6.out; have xf4 : (w3.setCell ⟨w1.heap.size, 1, none⟩ (.int .i64 ((Rm.num r1).1 : Int))).frozen? ⟨w1.heap.size, 4, none⟩ = false := frz HX6.out; have HZ6 := Lib.hid GS6.out.z; have c0 : (w3.setCell ⟨w1.heap.size, 1, none⟩ (.int .i64 ((Rm.num r1).1 : Int))).cell? ⟨W.heap.size, 0, none⟩ = some (.int .i64 0) := cell_of_row _ _ 0 _ _ (0, 0) HZ6.out; have c1 : (w3.setCell ⟨w1.heap.size, 1, none⟩ (.int .i64 ((Rm.num r1).1 : Int))).cell? ⟨W.heap.size, 1, none⟩ = some (.int .i64 0) := cell_of_row _ _ 1 _ _ (0, 0) HZ6.out; have c2 : (w3.setCell ⟨w1.heap.size, 1, none⟩ (.int .i64 ((Rm.num r1).1 : Int))).cell? ⟨W.heap.size, 2, none⟩ = some (.string ⟨#[]⟩) := cell_of_row _ _ 2 _ _ (0, 0) HZ6.out; have c3 : (w3.setCell ⟨w1.heap.size, 1, none⟩ (.int .i64 ((Rm.num r1).1 : Int))).cell? ⟨W.heap.size, 3, none⟩ = some (.string ⟨#[]⟩) := cell_of_row _ _ 3 _ _ (0, 0) HZ6.out; have c4 : (w3.setCell ⟨w1.heap.size, 1, none⟩ (.int .i64 ((Rm.num r1).1 : Int))).cell? ⟨W.heap.size, 4, none⟩ = some (.slice none 0 0) := cell_of_row _ _ 4 _ _ (0, 0) HZ6.out; have cf0 : (w3.setCell ⟨w1.heap.size, 1, none⟩ (.int .i64 ((Rm.num r1).1 : Int))).frozen? ⟨W.heap.size, 0, none⟩ = false := frz HZ6.out; have cf1 : (w3.setCell ⟨w1.heap.size, 1, none⟩ (.int .i64 ((Rm.num r1).1 : Int))).frozen? ⟨W.heap.size, 1, none⟩ = false := frz HZ6.out; have cf2 : (w3.setCell ⟨w1.heap.size, 1, none⟩ (.int .i64 ((Rm.num r1).1 : Int))).frozen? ⟨W.heap.size, 2, none⟩ = false := frz HZ6.out; have cf3 : (w3.setCell ⟨w1.heap.size, 1, none⟩ (.int .i64 ((Rm.num r1).1 : Int))).frozen? ⟨W.heap.size, 3, none⟩ = false := frz HZ6.out; have cf4 : (w3.setCell ⟨w1.heap.size, 1, none⟩ (.int .i64 ((Rm.num r1).1 : Int))).frozen? ⟨W.heap.size, 4, none⟩ = false := frz HZ6.out; have done3 := trivial)
        | (go_at_call 61; (with_reducible refine (HBY.out).mono ?_); rintro e w1 ⟨rfl, hr1, hg1⟩; have HZ1 := Lib.hid ((hg1.block _ (by simp) (by intro e; injection e with e; omega)).trans HZ.out); have GS := Lib.hid (GeSt.start hr1 HZ1.out (grown_trans HG0.out hg1) hgW #[.int .i64 (kb : Int), .int .i64 0, .string ⟨#[]⟩, .string ⟨#[]⟩, .slice none 0 0]); have HX1 := Lib.hid (GS.out.x); have hlt := GS.out.lt; have d0 : (w1.alloc (.cells #[.int .i64 (kb : Int), .int .i64 0, .string ⟨#[]⟩, .string ⟨#[]⟩, .slice none 0 0] 43)).cell? ⟨w1.heap.size, 0, none⟩ = some (.int .i64 (kb : Int)) := cell_of_row _ _ 0 _ _ (0, 0) HX1.out; have d1 : (w1.alloc (.cells #[.int .i64 (kb : Int), .int .i64 0, .string ⟨#[]⟩, .string ⟨#[]⟩, .slice none 0 0] 43)).cell? ⟨w1.heap.size, 1, none⟩ = some (.int .i64 0) := cell_of_row _ _ 1 _ _ (0, 0) HX1.out; have d2 : (w1.alloc (.cells #[.int .i64 (kb : Int), .int .i64 0, .string ⟨#[]⟩, .string ⟨#[]⟩, .slice none 0 0] 43)).cell? ⟨w1.heap.size, 2, none⟩ = some (.string ⟨#[]⟩) := cell_of_row _ _ 2 _ _ (0, 0) HX1.out; have d3 : (w1.alloc (.cells #[.int .i64 (kb : Int), .int .i64 0, .string ⟨#[]⟩, .string ⟨#[]⟩, .slice none 0 0] 43)).cell? ⟨w1.heap.size, 3, none⟩ = some (.string ⟨#[]⟩) := cell_of_row _ _ 3 _ _ (0, 0) HX1.out; have d4 : (w1.alloc (.cells #[.int .i64 (kb : Int), .int .i64 0, .string ⟨#[]⟩, .string ⟨#[]⟩, .slice none 0 0] 43)).cell? ⟨w1.heap.size, 4, none⟩ = some (.slice none 0 0) := cell_of_row _ _ 4 _ _ (0, 0) HX1.out; have df0 : (w1.alloc (.cells #[.int .i64 (kb : Int), .int .i64 0, .string ⟨#[]⟩, .string ⟨#[]⟩, .slice none 0 0] 43)).frozen? ⟨w1.heap.size, 0, none⟩ = false := frz HX1.out; have df1 : (w1.alloc (.cells #[.int .i64 (kb : Int), .int .i64 0, .string ⟨#[]⟩, .string ⟨#[]⟩, .slice none 0 0] 43)).frozen? ⟨w1.heap.size, 1, none⟩ = false := frz HX1.out; have df2 : (w1.alloc (.cells #[.int .i64 (kb : Int), .int .i64 0, .string ⟨#[]⟩, .string ⟨#[]⟩, .slice none 0 0] 43)).frozen? ⟨w1.heap.size, 2, none⟩ = false := frz HX1.out; have df3 : (w1.alloc (.cells #[.int .i64 (kb : Int), .int .i64 0, .string ⟨#[]⟩, .string ⟨#[]⟩, .slice none 0 0] 43)).frozen? ⟨w1.heap.size, 3, none⟩ = false := frz HX1.out; have df4 : (w1.alloc (.cells #[.int .i64 (kb : Int), .int .i64 0, .string ⟨#[]⟩, .string ⟨#[]⟩, .slice none 0 0] 43)).frozen? ⟨w1.heap.size, 4, none⟩ = false := frz HX1.out; have c0 : w1.cell? ⟨W.heap.size, 0, none⟩ = some (.int .i64 0) := cell_of_row _ _ 0 _ _ (0, 0) HZ1.out; have c1 : w1.cell? ⟨W.heap.size, 1, none⟩ = some (.int .i64 0) := cell_of_row _ _ 1 _ _ (0, 0) HZ1.out; have c2 : w1.cell? ⟨W.heap.size, 2, none⟩ = some (.string ⟨#[]⟩) := cell_of_row _ _ 2 _ _ (0, 0) HZ1.out; have c3 : w1.cell? ⟨W.heap.size, 3, none⟩ = some (.string ⟨#[]⟩) := cell_of_row _ _ 3 _ _ (0, 0) HZ1.out; have c4 : w1.cell? ⟨W.heap.size, 4, none⟩ = some (.slice none 0 0) := cell_of_row _ _ 4 _ _ (0, 0) HZ1.out; have cf0 : w1.frozen? ⟨W.heap.size, 0, none⟩ = false := frz HZ1.out; have cf1 : w1.frozen? ⟨W.heap.size, 1, none⟩ = false := frz HZ1.out; have cf2 : w1.frozen? ⟨W.heap.size, 2, none⟩ = false := frz HZ1.out; have cf3 : w1.frozen? ⟨W.heap.size, 3, none⟩ = false := frz HZ1.out; have cf4 : w1.frozen? ⟨W.heap.size, 4, none⟩ = false := frz HZ1.out; have HRW := Lib.hid hr1; have HGW := Lib.hid (grown_trans HG0.out hg1); clear hr1 hg1; have done1 := trivial))
      have HFIN := fin5 GS6.out.r GS6.out.gr hgW hBW GS6.out.z (.int .i64 (kb : Int)) (.int .i64 ((Rm.num r1).1 : Int)) (.string ⟨#[]⟩) (.string ⟨#[]⟩) (.slice none 0 0)
      have hrw := HFIN.2.2.2.2
      have q0 : ((((((w3.setCell ⟨w1.heap.size, 1, none⟩ (.int .i64 ((Rm.num r1).1 : Int))).setCell ⟨W.heap.size, 0, none⟩ (.int .i64 (kb : Int))).setCell ⟨W.heap.size, 1, none⟩ (.int .i64 ((Rm.num r1).1 : Int))).setCell ⟨W.heap.size, 2, none⟩ (.string ⟨#[]⟩)).setCell ⟨W.heap.size, 3, none⟩ (.string ⟨#[]⟩)).setCell ⟨W.heap.size, 4, none⟩ (.slice none 0 0)).cell? ⟨W.heap.size, 0, none⟩ = some (.int .i64 (kb : Int)) := cell_of_row _ _ 0 _ _ (0, 0) hrw
      have q1 : ((((((w3.setCell ⟨w1.heap.size, 1, none⟩ (.int .i64 ((Rm.num r1).1 : Int))).setCell ⟨W.heap.size, 0, none⟩ (.int .i64 (kb : Int))).setCell ⟨W.heap.size, 1, none⟩ (.int .i64 ((Rm.num r1).1 : Int))).setCell ⟨W.heap.size, 2, none⟩ (.string ⟨#[]⟩)).setCell ⟨W.heap.size, 3, none⟩ (.string ⟨#[]⟩)).setCell ⟨W.heap.size, 4, none⟩ (.slice none 0 0)).cell? ⟨W.heap.size, 1, none⟩ = some (.int .i64 ((Rm.num r1).1 : Int)) := cell_of_row _ _ 1 _ _ (0, 0) hrw
      have q2 : ((((((w3.setCell ⟨w1.heap.size, 1, none⟩ (.int .i64 ((Rm.num r1).1 : Int))).setCell ⟨W.heap.size, 0, none⟩ (.int .i64 (kb : Int))).setCell ⟨W.heap.size, 1, none⟩ (.int .i64 ((Rm.num r1).1 : Int))).setCell ⟨W.heap.size, 2, none⟩ (.string ⟨#[]⟩)).setCell ⟨W.heap.size, 3, none⟩ (.string ⟨#[]⟩)).setCell ⟨W.heap.size, 4, none⟩ (.slice none 0 0)).cell? ⟨W.heap.size, 2, none⟩ = some (.string ⟨#[]⟩) := cell_of_row _ _ 2 _ _ (0, 0) hrw
      have q3 : ((((((w3.setCell ⟨w1.heap.size, 1, none⟩ (.int .i64 ((Rm.num r1).1 : Int))).setCell ⟨W.heap.size, 0, none⟩ (.int .i64 (kb : Int))).setCell ⟨W.heap.size, 1, none⟩ (.int .i64 ((Rm.num r1).1 : Int))).setCell ⟨W.heap.size, 2, none⟩ (.string ⟨#[]⟩)).setCell ⟨W.heap.size, 3, none⟩ (.string ⟨#[]⟩)).setCell ⟨W.heap.size, 4, none⟩ (.slice none 0 0)).cell? ⟨W.heap.size, 3, none⟩ = some (.string ⟨#[]⟩) := cell_of_row _ _ 3 _ _ (0, 0) hrw
      have q4 : ((((((w3.setCell ⟨w1.heap.size, 1, none⟩ (.int .i64 ((Rm.num r1).1 : Int))).setCell ⟨W.heap.size, 0, none⟩ (.int .i64 (kb : Int))).setCell ⟨W.heap.size, 1, none⟩ (.int .i64 ((Rm.num r1).1 : Int))).setCell ⟨W.heap.size, 2, none⟩ (.string ⟨#[]⟩)).setCell ⟨W.heap.size, 3, none⟩ (.string ⟨#[]⟩)).setCell ⟨W.heap.size, 4, none⟩ (.slice none 0 0)).cell? ⟨W.heap.size, 4, none⟩ = some (.slice none 0 0) := cell_of_row _ _ 4 _ _ (0, 0) hrw
      refine bodyPost_ret (v := .agg #[.int .i64 (kb : Int), .int .i64 ((Rm.num r1).1 : Int), .string ⟨#[]⟩, .string ⟨#[]⟩, .slice none 0 0]) (by simp [results, Try.results43, go_sem, q0, q1, q2, q3, q4]) rfl ?_
      exact ⟨rcs (kb : Int) ((Rm.num r1).1 : Int) ⟨#[]⟩ ⟨#[]⟩ none 0 0, rfl, RdP.leaf _ _ (kb : Int) ((Rm.num r1).1 : Int) ⟨#[]⟩ ⟨#[]⟩ (by omega) (by have := HNL.out; omega) (Nat.zero_le _) (Nat.zero_le _), HFIN.1, HFIN.2.1⟩

end Go.Proofs.Ytajpnimjkkmcmaa
