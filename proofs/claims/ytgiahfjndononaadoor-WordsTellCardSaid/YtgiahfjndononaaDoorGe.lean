/- The code's get: a policy read from a reader, of any depth. -/
import Derived.Test.YtgiahfjndononaaDoorGp
import Derived.Test.YtgiahfjndononaaDoorBs
namespace Go.Proofs.YtgiahfjndononaaDoor
open Go.RowKit
set_option linter.unusedVariables false
set_option linter.unusedSimpArgs false
set_option maxRecDepth 100000

theorem frz {w : World} {b i : Nat} {cs : Array Value} {ty : TypeId} (h : w.heap[b]? = some (.cells cs ty)) : w.frozen? ⟨b, i, none⟩ = false := by
  unfold World.frozen?
  rw [h]
  simp
theorem grown_bx (w W : World) (g b i : Nat) (v : Value) (h : W.grownBy w (some g)) (hb : W.heap.size ≤ b) : W.grownBy (w.setCell ⟨b, i, none⟩ v) (some g) :=
  ⟨h.os, h.tape, h.output, by simpa using h.size, fun k hk hne => (Below.heap_setCell w _ _ k (by simp; omega)).trans (h.block k hk hne)⟩
theorem grown_alloc (W : World) (g : Nat) (o : Obj) : W.grownBy (W.alloc o) (some g) := ⟨rfl, rfl, rfl, by simp, fun k hk hne => heap_alloc_old W o hk⟩

theorem text_ln (r : Rm.R) : (Rm.text r).1.length ≤ r.1.length ∧ (Rm.text r).2.1.length ≤ r.1.length := by
  unfold Rm.text
  have h := gettext_len r.1
  split
  · refine ⟨?_, by simp⟩
    unfold Mi.gettext at *
    (try simp only at *)
    split
    · simp only [List.length_take, List.length_drop]; omega
    · simp
  · simp [Rm.fail]
theorem S8_sz (l : List UInt8) : (S8 l).size = l.length := by simp [S8, ByteArray.size]
theorem byte_ln (r : Rm.R) : (Rm.byte r).2.1.length ≤ r.1.length := by
  unfold Rm.byte
  split <;> simp_all [Rm.fail]
theorem byte_lt (r : Rm.R) : (Rm.byte r).1.toNat < 256 := UInt8.toNat_lt _
section
variable {W w w' : World} {B g b : Nat} {r r' : Rm.R} {cs : Array Value}
end
theorem wide_ln (r : Rm.R) : (Rm.wide r).2.1.length ≤ r.1.length := by
  unfold Rm.wide
  split <;> simp [Rm.fail]
theorem num_ln (r : Rm.R) : (Rm.num r).2.1.length ≤ r.1.length := by
  unfold Rm.num
  split
  · simp [Rm.fail]
  · exact wide_ln r
theorem num_bad (r : Rm.R) (h : r.1 = []) : (Rm.num r).2.2 = true := by
  obtain ⟨l, b⟩ := r
  simp only at h
  subst h
  have hg : Mi.get [] = (0, 0, false) := rfl
  unfold Rm.num Rm.wide
  simp only [hg]
  simp [Rm.fail]
theorem rulL_ln (f : Rm.R → Rt × Rm.R) (hf : ∀ r, (f r).2.1.length ≤ r.1.length) : ∀ (n : Nat) (r : Rm.R) (acc : List Rt), (Rm.rulL f n r acc).2.1.length ≤ r.1.length
  | 0, r, acc => by rw [Rm.rulL]; exact Nat.le_refl _
  | n + 1, r, acc => by
    rw [Rm.rulL]
    split
    · exact Nat.le_refl _
    · exact Nat.le_trans (rulL_ln f hf n _ _) (hf r)
theorem rul_ln : ∀ (D : Nat) (r : Rm.R), (Rm.rul D r).2.1.length ≤ r.1.length ∧ ((Rm.rul D r).2.2 = false → (Rm.rul D r).2.1.length < r.1.length)
  | 0, r => by rw [Rm.rul]; simp [Rm.fail]
  | D + 1, r => by
    have ih := fun x => (rul_ln D x).1
    rw [Rm.rul]
    rcases r with ⟨_ | ⟨c, l⟩, b⟩
    · have hb : Rm.byte ([], b) = (0, Rm.fail) := rfl
      rw [hb]
      simp only [UInt8.toNat_zero]
      have h1 := num_ln Rm.fail
      have h2 := num_bad Rm.fail rfl
      simp [Rm.fail] at h1 h2 ⊢
      simp [h2, h1]
    · have hb : Rm.byte (c :: l, b) = (c, (l, b)) := rfl
      rw [hb]
      simp only
      have t1 := (text_ln (l, b)).2
      have t2 := (text_ln (Rm.text (l, b)).2).2
      have n1 := num_ln (l, b)
      have n2 := rulL_ln (Rm.rul D) ih (Rm.num (l, b)).1 (Rm.num (l, b)).2 []
      simp only [List.length_cons] at t1 t2 n1 n2 ⊢
      split
      · simp
      · split
        · simp only; omega
        · split
          · simp only; omega
          · simp only; omega
/-- What a region leaves: old blocks but the reader's and the node's box. -/
structure Out (g b base : Nat) (w w' : World) : Prop where
  os : w'.os = w.os
  tape : w'.tape = w.tape
  output : w'.output = w.output
  size : w.heap.size ≤ w'.heap.size
  block : ∀ k, k < base → k ≠ g → k ≠ b → w'.heap[k]? = w.heap[k]?
theorem out_goes (g b base : Nat) : PG.Goes (Out g b base) := ⟨fun w => ⟨rfl, rfl, rfl, Nat.le_refl _, fun _ _ _ _ => rfl⟩, fun _ _ _ h k => ⟨k.os.trans h.os, k.tape.trans h.tape, k.output.trans h.output, Nat.le_trans h.size k.size, fun q h1 h2 h3 => (k.block q h1 h2 h3).trans (h.block q h1 h2 h3)⟩⟩
theorem out_grown {g b base : Nat} {w w' : World} (h : w.grownBy w' (some g)) (hb : base ≤ w.heap.size) : Out g b base w w' := ⟨h.os, h.tape, h.output, h.size, fun k h1 h2 _ => h.block k (Nat.lt_of_lt_of_le h1 hb) (by intro e; injection e with e; exact h2 e)⟩
theorem out_below {g b base : Nat} {w w' : World} (h : Below w.heap.size w w') (hb : base ≤ w.heap.size) : Out g b base w w' := ⟨h.os, h.tape, h.output, h.size, fun k h1 _ _ => h.block k (Nat.lt_of_lt_of_le h1 hb)⟩
theorem KrOk.app {w w' : World} {base : Nat} {V V' : Value} {x : Kr} (h : KrOk w base V x) (hg : Grew w w' V V') : KrOk w' base V x :=
  (RdP.heap h fun b hb => hg.grown.block b hb.2.1 (Ne.symm hb.2.2)).imp fun b hb => ⟨hb.1, Nat.lt_of_lt_of_le hb.2.1 hg.grown.size, hb.2.2⟩
theorem KrOk.set {w : World} {base b i : Nat} {V u : Value} {x : Kr} (h : KrOk w base V x) (hb : b < base) : KrOk (w.setCell ⟨b, i, none⟩ u) base V x :=
  (RdP.heap h fun q hq => Below.heap_setCell w _ _ q (by simp; omega)).imp fun q hq => ⟨hq.1, by simpa using hq.2.1, hq.2.2⟩
theorem OwnKids.set {w : World} {base b i : Nat} {V u : Value} {L : List Kr} (h : OwnKids w base V L) (hb : b < base) : OwnKids (w.setCell ⟨b, i, none⟩ u) base V L :=
  ⟨own_far h.own hb u, fun x hx => (h.each x hx).set hb⟩
theorem Rd.block9 {w w' : World} {g : Nat} {xs : List Value} (h : Rd w (g + 1) (some ⟨g, 0, none⟩) xs) (he : w'.heap[g]? = w.heap[g]?) : Rd w' (g + 1) (some ⟨g, 0, none⟩) xs := fun hn => by
  obtain ⟨a, ha, hb, hc⟩ := h hn
  injection ha with ha
  subst ha
  exact ⟨_, rfl, hb, fun j u hu => (World.cell?_of_block (by rw [block_add]; exact he)).trans (hc j u hu)⟩
section
variable {g b base B : Nat} {dep K : Int} {V : Value} {L : List Kr} {t' : Rt} {r r' : Rm.R} {w w' : World}
end
end Go.Proofs.YtgiahfjndononaaDoor
