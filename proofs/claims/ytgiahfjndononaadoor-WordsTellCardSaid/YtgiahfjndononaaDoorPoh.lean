/- The parser's policy: any one. -/
import Derived.Test.YtgiahfjndononaaDoorPog
import Derived.Test.YtgiahfjndononaaDoorGe
namespace Go.Proofs.YtgiahfjndononaaDoor
open Go.RowKit
set_option linter.unusedVariables false
set_option linter.unusedSimpArgs false
set_option maxRecDepth 100000

theorem pst_wide {w : World} {P : Nat} {s : ByteArray} {L : List UInt8} {st : Wm.St} (h : PSt w P s L st) {b i : Nat} (hb : P ≠ b) (v : Value) : PSt (w.setCell ⟨b, i, none⟩ v) P s L st := h.stay (Below.heap_setCell w _ _ P (by simpa using hb))
theorem grown_bx' (w W : World) (g b i : Nat) (v : Value) (h : W.grownBy w (some g)) (hb : W.heap.size ≤ b) : W.grownBy (w.setCell ⟨b, i, none⟩ v) (some g) :=
  ⟨h.os, h.tape, h.output, by simpa using h.size, fun k hk hne => (Below.heap_setCell w _ _ k (by simp; omega)).trans (h.block k hk hne)⟩
theorem grown_alloc' (W : World) (g : Nat) (o : Obj) : W.grownBy (W.alloc o) (some g) := ⟨rfl, rfl, rfl, by simp, fun k hk hne => heap_alloc_old W o hk⟩
/-- What a step of policy leaves: the result's box, the node's box. -/
structure PoSt (W w : World) (P : Nat) (s : ByteArray) (L : List UInt8) (st : Wm.St) (cs : Array Value) : Prop where
  z : w.heap[W.heap.size]? = some (.cells #[.int .i64 0, .int .i64 0, .string ⟨#[]⟩, .string ⟨#[]⟩, .slice none 0 0] 24)
  x : w.heap[W.heap.size + 1]? = some (.cells cs 24)
  r : PSt w P s L st
  gr : W.grownBy w (some P)
section
variable {W w w' : World} {P : Nat} {s : ByteArray} {L : List UInt8} {st st' : Wm.St} {cs : Array Value}
theorem PoSt.call (h : PoSt W w P s L st cs) (hg : w.grownBy w' (some P)) (hr : PSt w' P s L st') (hgW : P < W.heap.size) : PoSt W w' P s L st' cs :=
  ⟨(hg.block _ (in_heap h.z) (by intro e; injection e with e; omega)).trans h.z, (hg.block _ (in_heap h.x) (by intro e; injection e with e; omega)).trans h.x, hr, grown_trans h.gr hg⟩
theorem PoSt.set (h : PoSt W w P s L st cs) (hgW : P < W.heap.size) (i : Nat) (v : Value) : PoSt W (w.setCell ⟨W.heap.size + 1, i, none⟩ v) P s L st (cs.setIfInBounds i v) :=
  ⟨(Below.heap_setCell w _ _ _ (by simp)).trans h.z, heap_setCell_same _ _ _ _ _ _ h.x, pst_wide h.r (by omega) v, grown_bx' w W P _ i v h.gr (by omega)⟩
theorem PoSt.start (hr : PSt W P s L st) (cs : Array Value) : PoSt W ((W.alloc (.cells #[.int .i64 0, .int .i64 0, .string ⟨#[]⟩, .string ⟨#[]⟩, .slice none 0 0] 24)).alloc (.cells cs 24)) P s L st cs :=
  ⟨(heap_alloc_old _ _ (by simp)).trans (heap_alloc_new W _), by have := heap_alloc_new (W.alloc (.cells #[.int .i64 0, .int .i64 0, .string ⟨#[]⟩, .string ⟨#[]⟩, .slice none 0 0] 24)) (.cells cs 24); simpa using this, hr.below (((Below.refl _ _).alloc (Nat.le_refl _) _).alloc (by simp) _) hr.lt, grown_trans (grown_alloc' _ _ _) (grown_alloc' _ _ _)⟩
end
/-- The result is stored. -/
theorem fin5p {W w : World} {P : Nat} {s : ByteArray} {L : List UInt8} {st : Wm.St} (hr : PSt w P s L st) (hg : W.grownBy w (some P)) (hgW : P < W.heap.size) (hz : w.heap[W.heap.size]? = some (.cells #[.int .i64 0, .int .i64 0, .string ⟨#[]⟩, .string ⟨#[]⟩, .slice none 0 0] 24)) (v0 v1 v2 v3 v4 : Value) :
    PSt (((((w.setCell ⟨W.heap.size, 0, none⟩ (v0)).setCell ⟨W.heap.size, 1, none⟩ (v1)).setCell ⟨W.heap.size, 2, none⟩ (v2)).setCell ⟨W.heap.size, 3, none⟩ (v3)).setCell ⟨W.heap.size, 4, none⟩ (v4)) P s L st ∧ W.grownBy (((((w.setCell ⟨W.heap.size, 0, none⟩ (v0)).setCell ⟨W.heap.size, 1, none⟩ (v1)).setCell ⟨W.heap.size, 2, none⟩ (v2)).setCell ⟨W.heap.size, 3, none⟩ (v3)).setCell ⟨W.heap.size, 4, none⟩ (v4)) (some P) ∧ (∀ q, q ≠ W.heap.size → (((((w.setCell ⟨W.heap.size, 0, none⟩ (v0)).setCell ⟨W.heap.size, 1, none⟩ (v1)).setCell ⟨W.heap.size, 2, none⟩ (v2)).setCell ⟨W.heap.size, 3, none⟩ (v3)).setCell ⟨W.heap.size, 4, none⟩ (v4)).heap[q]? = w.heap[q]?) ∧ (((((w.setCell ⟨W.heap.size, 0, none⟩ (v0)).setCell ⟨W.heap.size, 1, none⟩ (v1)).setCell ⟨W.heap.size, 2, none⟩ (v2)).setCell ⟨W.heap.size, 3, none⟩ (v3)).setCell ⟨W.heap.size, 4, none⟩ (v4)).heap.size = w.heap.size ∧ (((((w.setCell ⟨W.heap.size, 0, none⟩ (v0)).setCell ⟨W.heap.size, 1, none⟩ (v1)).setCell ⟨W.heap.size, 2, none⟩ (v2)).setCell ⟨W.heap.size, 3, none⟩ (v3)).setCell ⟨W.heap.size, 4, none⟩ (v4)).heap[W.heap.size]? = some (.cells #[v0, v1, v2, v3, v4] 24) := by
  have hne : P ≠ W.heap.size := by omega
  refine ⟨?_, ?_, fun q hq => ?_, by simp, heap_setCell_same _ _ 4 _ _ v4 (heap_setCell_same _ _ 3 _ _ v3 (heap_setCell_same _ _ 2 _ _ v2 (heap_setCell_same _ _ 1 _ _ v1 (heap_setCell_same _ _ 0 _ _ v0 hz))))⟩
  · exact pst_wide (pst_wide (pst_wide (pst_wide (pst_wide hr hne v0) hne v1) hne v2) hne v3) hne v4
  · exact grown_bx' _ W P _ 4 v4 (grown_bx' _ W P _ 3 v3 (grown_bx' _ W P _ 2 v2 (grown_bx' _ W P _ 1 v1 (grown_bx' _ W P _ 0 v0 hg (Nat.le_refl _)) (Nat.le_refl _)) (Nat.le_refl _)) (Nat.le_refl _)) (Nat.le_refl _)
  · exact (Below.heap_setCell _ _ _ _ (by simpa using hq)).trans ((Below.heap_setCell _ _ _ _ (by simpa using hq)).trans ((Below.heap_setCell _ _ _ _ (by simpa using hq)).trans ((Below.heap_setCell _ _ _ _ (by simpa using hq)).trans (Below.heap_setCell _ _ _ _ (by simpa using hq)))))
theorem polA_out {l : List UInt8} {v3 v5 : ByteArray} (h3 : Wm.saysS (.at_ l) v3) (h5 : Wm.saysS (Wm.takeS 34 (.at_ l)) v5) : (Wm.polA l).st = Wm.takeS 34 (Wm.takeS 34 (.at_ l)) ∧ ∀ t' r, Wm.polA l = .ok t' r → (Rt.mk 6 0 v3 v5 []) = t' := by
  unfold Wm.polA
  by_cases hk : (Wm.tok l).kind = 3
  · have hc := code_text.2 hk
    have e1 : Wm.takeS 34 (.at_ l) = .at_ (Wm.tok l).rest := by simp only [Wm.takeS]; exact if_pos hc
    rw [e1] at h5 ⊢
    have h3' := h3 hk
    rw [if_pos hk]
    by_cases hk2 : (Wm.tok (Wm.tok l).rest).kind = 3
    · have hc2 := code_text.2 hk2
      have e2 : Wm.takeS 34 (.at_ (Wm.tok l).rest) = .at_ (Wm.tok (Wm.tok l).rest).rest := by simp only [Wm.takeS]; exact if_pos hc2
      have h5' := h5 hk2
      rw [if_pos hk2, e2, h3', h5']
      exact ⟨rfl, fun t' r e => by injection e⟩
    · have e2 : Wm.takeS 34 (.at_ (Wm.tok l).rest) = .bad (Wm.tok (Wm.tok l).rest).from_ := by simp only [Wm.takeS]; exact if_neg (fun e => hk2 (code_text.1 e))
      rw [if_neg hk2, e2]
      exact ⟨rfl, fun t' r e => by cases e⟩
  · have e1 : Wm.takeS 34 (.at_ l) = .bad (Wm.tok l).from_ := by simp only [Wm.takeS]; exact if_neg (fun e => hk (code_text.1 e))
    rw [e1, if_neg hk]
    exact ⟨rfl, fun t' r e => by cases e⟩
theorem polN_out {l : List UInt8} (k : Nat) {n : Nat} (h : (Wm.tok l).kind = 2 → n = Wm.num (Wm.tok l).say) : (Wm.polN k l).st = Wm.takeS 48 (.at_ l) ∧ ∀ t' r, Wm.polN k l = .ok t' r → (Rt.mk (k : Int) (n : Int) ⟨#[]⟩ ⟨#[]⟩ []) = t' := by
  unfold Wm.polN
  by_cases hk : (Wm.tok l).kind = 2
  · have e1 : Wm.takeS 48 (.at_ l) = .at_ (Wm.tok l).rest := by simp only [Wm.takeS]; exact if_pos (code_num.2 hk)
    rw [e1, if_pos hk, h hk]
    exact ⟨rfl, fun t' r e => by injection e⟩
  · have e1 : Wm.takeS 48 (.at_ l) = .bad (Wm.tok l).from_ := by simp only [Wm.takeS]; exact if_neg (fun e => hk (code_num.1 e))
    rw [e1, if_neg hk]
    exact ⟨rfl, fun t' r e => by cases e⟩
theorem num_cell {w : World} {P : Nat} {s : ByteArray} {L l : List UInt8} (h : PSt w P s L (.at_ l)) : ∃ n : Nat, w.cell? ⟨P, 5, none⟩ = some (.int .i64 (n : Int)) ∧ n < 10000000000 ∧ ((Wm.tok l).kind = 2 → n = Wm.num (Wm.tok l).say) := by
  obtain ⟨⟨nx, at0, tx, n, h⟩, hsuf⟩ := h
  have hr := h.row
  unfold PRow at hr
  exact ⟨n, cell_of_row _ _ 5 _ _ (0, 0) hr, h.ns, h.num⟩
theorem polK3_out {p : List UInt8 → Wm.Res Rt} {f : Nat} {l : List UInt8} {st1 : Wm.St} (h1 : Wm.takeS 40 (.at_ l) = st1) (t : Rt) (ht : ∀ t' r, Wm.onSt p st1 = .ok t' r → t = t') : (Wm.polK p 3 f l).st = Wm.takeS 41 (Wm.onSt p st1).st ∧ ∀ t' r, Wm.polK p 3 f l = .ok t' r → (Rt.mk 3 0 ⟨#[]⟩ ⟨#[]⟩ [t]) = t' := by
  have hc : (Wm.tok l).code = 40 ↔ (Wm.tok l).is 40 = true := code_sign (l := l) (c := 40) (.inl rfl)
  unfold Wm.polK
  by_cases h : (Wm.tok l).is 40 = true
  · have e1 : Wm.takeS 40 (.at_ l) = .at_ (Wm.tok l).rest := by simp only [Wm.takeS]; exact if_pos (hc.2 h)
    rw [e1] at h1
    subst h1
    rw [if_pos h, if_neg (by simp)]
    unfold Wm.kids
    simp only [Wm.onSt] at ht ⊢
    cases hp : p (Wm.tok l).rest with
    | bad e => exact ⟨rfl, fun t' r e => by cases e⟩
    | ok t0 r0 =>
      have h0 := ht t0 r0 hp
      have hc2 : (Wm.tok r0).code = 41 ↔ (Wm.tok r0).is 41 = true := code_sign (l := r0) (c := 41) (.inr (.inl rfl))
      simp only [Wm.close, Wm.Res.st, Wm.takeS, if_true]
      by_cases h2 : (Wm.tok r0).is 41 = true
      · rw [if_pos h2, if_pos (hc2.2 h2), h0]
        exact ⟨rfl, fun t' r e => by injection e⟩
      · rw [if_neg h2, if_neg (fun e => h2 (hc2.1 e))]
        exact ⟨rfl, fun t' r e => by cases e⟩
  · have e1 : Wm.takeS 40 (.at_ l) = .bad (Wm.tok l).from_ := by simp only [Wm.takeS]; exact if_neg (fun e => h (hc.1 e))
    rw [e1] at h1
    subst h1
    rw [if_neg h]
    exact ⟨rfl, fun t' r e => by cases e⟩
theorem polK12_out {p : List UInt8 → Wm.Res Rt} {f : Nat} {l : List UInt8} (k : Nat) (hk : k ≠ 3) (ts : List Rt) (ht : ∀ ts' r, Wm.onSt (Wm.kidsR p f) (.at_ l) = .ok ts' r → ts = ts') : (Wm.polK p k f l).st = (Wm.onSt (Wm.kidsR p f) (.at_ l)).st ∧ ∀ t' r, Wm.polK p k f l = .ok t' r → (Rt.mk (k : Int) 0 ⟨#[]⟩ ⟨#[]⟩ ts) = t' := by
  simp only [Wm.onSt] at ht ⊢
  unfold Wm.kidsR at ht ⊢
  unfold Wm.polK
  by_cases h : (Wm.tok l).is 40 = true
  · rw [if_pos h] at ht ⊢
    rw [if_pos h]
    by_cases h2 : (Wm.tok (Wm.tok l).rest).is 41 = true
    · rw [if_pos h2] at ht ⊢
      rw [if_pos ⟨hk, h2⟩, ht _ _ rfl]
      exact ⟨rfl, fun t' r e => by injection e⟩
    · rw [if_neg h2] at ht ⊢
      rw [if_neg (fun e => h2 e.2)]
      have hkk : Wm.kids p k f (Wm.tok l).rest = Wm.kids p 1 f (Wm.tok l).rest := by
        unfold Wm.kids
        cases p (Wm.tok l).rest with
        | bad e => rfl
        | ok t r => simp only; rw [if_neg hk, if_neg (by decide)]
      rw [hkk]
      cases hr : Wm.kids p 1 f (Wm.tok l).rest with
      | bad e => exact ⟨rfl, fun t' r e => by cases e⟩
      | ok rs r0 =>
        rw [hr] at ht
        simp only [Wm.close, Wm.closeR] at ht ⊢
        by_cases h3 : (Wm.tok r0).is 41 = true
        · rw [if_pos h3] at ht ⊢
          rw [if_pos h3, ht _ _ rfl]
          exact ⟨rfl, fun t' r e => by injection e⟩
        · rw [if_neg h3, if_neg h3]
          exact ⟨rfl, fun t' r e => by cases e⟩
  · rw [if_neg h, if_neg h]
    exact ⟨rfl, fun t' r e => by cases e⟩
/-- The region of one kid: what each of its operations leaves. -/
def PF (P b base : Nat) (s : ByteArray) (L : List UInt8) (res : Wm.Res Rt) : Nat → Value → World → Prop
  | 0, v, _ => v = .pointer (some ⟨b, 4, none⟩)
  | 1, v, _ => v = .slice none 0 0
  | 2, v, _ => v = .pointer (some ⟨P, 0, none⟩)
  | 3, v, w => ∃ x : Kr, v = .agg x.cells.toArray ∧ (∀ t' r, res = .ok t' r → x.t = t') ∧ KrOk w base (.slice none 0 0) x ∧ PSt w P s L res.st
  | 4, v, w => ∃ (x : Kr) (q : Nat), v = .slice (some ⟨q, 0, none⟩) 1 1 ∧ (∀ t' r, res = .ok t' r → x.t = t') ∧ KrOk w base (.slice none 0 0) x ∧ Rd w (q + 1) (some ⟨q, 0, none⟩) x.cells ∧ base ≤ q ∧ q < w.heap.size
  | 5, v, w => ∃ x : Kr, (∀ t' r, res = .ok t' r → x.t = t') ∧ OwnKids w base v [x]
  | 6, v, _ => v = .pointer (some ⟨b, 4, none⟩)
  | 7, _, w => ∃ (x : Kr) (v : Value), (∀ t' r, res = .ok t' r → x.t = t') ∧ OwnKids w base v [x] ∧ w.heap[b]? = some (.cells #[.int .i64 3, .int .i64 0, .string ⟨#[]⟩, .string ⟨#[]⟩, v] 24)
  | _, _, _ => True
def PGG (P b : Nat) (s : ByteArray) (L : List UInt8) (st1 : Wm.St) : Nat → World → Prop
  | 3, w => PSt w P s L st1
  | 7, w => w.heap[b]? = some (.cells #[.int .i64 3, .int .i64 0, .string ⟨#[]⟩, .string ⟨#[]⟩, .slice none 0 0] 24)
  | _, _ => True
section
variable {P b base : Nat} {s : ByteArray} {L : List UInt8} {res : Wm.Res Rt} {st1 : Wm.St} {w w' : World}
theorem PF.below {i : Nat} {v : Value} (h : PF P b base s L res i v w) (hb : Below w.heap.size w w') : PF P b base s L res i v w' := by
  match i, h with
  | 0, h => exact h
  | 1, h => exact h
  | 2, h => exact h
  | 3, h => obtain ⟨x, h1, h2, h3, h4⟩ := h; exact ⟨x, h1, h2, h3.below hb, h4.below hb h4.lt⟩
  | 4, h => obtain ⟨x, q, h1, h2, h3, h4, h5, h6⟩ := h; exact ⟨x, q, h1, h2, h3.below hb, h4.below (hb.mono h6), h5, Nat.lt_of_lt_of_le h6 hb.size⟩
  | 5, h => obtain ⟨x, h1, h2⟩ := h; exact ⟨x, h1, h2.below hb⟩
  | 6, h => exact h
  | 7, h => obtain ⟨x, v, h1, h2, h3⟩ := h; exact ⟨x, v, h1, h2.below hb, (hb.block b (in_heap h3)).trans h3⟩
  | _ + 8, h => trivial
theorem PGG.below {i : Nat} (h : PGG P b s L st1 i w) (hb : Below w.heap.size w w') : PGG P b s L st1 i w' := by
  unfold PGG at *
  split
  · exact PSt.below h hb (PSt.lt h)
  · exact (hb.block b (in_heap h)).trans h
  · trivial
end
theorem zero_end {W W' : World} {P : Nat} {s : ByteArray} {L : List UInt8} {st : Wm.St} (h : PSt W' P s L st) (hz : W'.heap.size = W.heap.size) (hg : W.grownBy W' (some P)) (o : Obj) :
    ((W'.alloc (.cells #[.int .i64 0, .int .i64 0, .string ⟨#[]⟩, .string ⟨#[]⟩, .slice none 0 0] 24)).alloc o).heap[W.heap.size]? = some (.cells #[.int .i64 0, .int .i64 0, .string ⟨#[]⟩, .string ⟨#[]⟩, .slice none 0 0] 24) ∧ PSt ((W'.alloc (.cells #[.int .i64 0, .int .i64 0, .string ⟨#[]⟩, .string ⟨#[]⟩, .slice none 0 0] 24)).alloc o) P s L st ∧ W.grownBy ((W'.alloc (.cells #[.int .i64 0, .int .i64 0, .string ⟨#[]⟩, .string ⟨#[]⟩, .slice none 0 0] 24)).alloc o) (some P) :=
  ⟨by rw [← hz]; exact (heap_alloc_old _ _ (by simp)).trans (heap_alloc_new W' _), h.below (((Below.refl _ _).alloc (Nat.le_refl _) _).alloc (by simp) _) h.lt, grown_trans hg (grown_trans (grown_alloc' _ _ _) (grown_alloc' _ _ _))⟩
theorem bad_set {W : World} {P : Nat} {s : ByteArray} {L : List UInt8} {st : Wm.St} (h : PSt W P s L st) : PSt (W.setCell ⟨P, 6, none⟩ (.bool true)) P s L (match st with | .bad e => .bad e | .at_ l => .bad (Wm.tok l).from_) := by
  cases st with
  | bad e =>
    obtain ⟨nx, at0, kd, tx, n, hr, he, htx, hn⟩ := h
    unfold PRow at hr
    exact ⟨nx, at0, kd, tx, n, by unfold PRow; exact PRow.set 6 _ hr rfl, he, htx, hn⟩
  | at_ l =>
    obtain ⟨⟨nx, at0, tx, n, h⟩, hsuf⟩ := h
    have hr := h.row
    unfold PRow at hr
    exact ⟨nx, at0, _, tx, n, by unfold PRow; exact PRow.set 6 _ hr rfl, h.from_, h.txs, h.ns⟩
set_option maxHeartbeats 16000000 in
theorem policy_bad (P : Nat) (s : ByteArray) (L : List UInt8) (f : Nat) (e : List UInt8) (W : World) (h : PSt W P s L (.bad e)) :
    Calls Tryd.prog 18 #[.pointer (some ⟨P, 0, none⟩)] W (PolOut (.bad e) P s L W) := by
  have hP := h.lt
  have HSB : Hid (PSt (W.setCell ⟨P, 6, none⟩ (.bool true)) P s L (.bad e)) := Lib.hid (bad_set h)
  obtain ⟨nx, at0, kd, tx, n, hr, he, htx, hn⟩ := h
  have hrow := hr
  unfold PRow at hrow
  have c3 : W.cell? ⟨P, 3, none⟩ = some (.int .u8 (kd : Int)) := cell_of_row _ _ 3 _ _ (0, 0) hrow
  have c4 : W.cell? ⟨P, 4, none⟩ = some (.string tx) := cell_of_row _ _ 4 _ _ (0, 0) hrow
  have c6 : W.cell? ⟨P, 6, none⟩ = some (.bool true) := cell_of_row _ _ 6 _ _ (0, 0) hrow
  have f6 : W.frozen? ⟨P, 6, none⟩ = false := pfrz hrow
  have HKO := Lib.hid (kindof_any tx)
  generalize Wm.kw tx.data.toList = kk at HKO
  clear hrow hr
  by_cases hk : kd = 97
  · have d1 : ((kd : Int) == 97) = true := by rw [beq_iff_eq]; omega
    have d2 : (kd == 97) = true := by rw [beq_iff_eq]; omega
    clear hk
    go_enter Tryd.func18, Tryd.ntmps18
    go_wp2_with (go_at_call 33; (with_reducible refine (HKO.out _).mono ?_); rintro e1 w1 ⟨rfl, hw1⟩; subst hw1)
    have HZE := zero_end (W := W) HSB.out (by simp) (grown_set _ _ _ _) (.cells #[.int .i64 (kk : Int), .int .i64 0, .string ⟨#[]⟩, .string ⟨#[]⟩, .slice none 0 0] 24)
    have hrw := HZE.1
    have q0 : (((W.setCell ⟨P, 6, none⟩ (.bool true)).alloc (.cells #[.int .i64 0, .int .i64 0, .string ⟨#[]⟩, .string ⟨#[]⟩, .slice none 0 0] 24)).alloc (.cells #[.int .i64 (kk : Int), .int .i64 0, .string ⟨#[]⟩, .string ⟨#[]⟩, .slice none 0 0] 24)).cell? ⟨W.heap.size, 0, none⟩ = some (.int .i64 0) := cell_of_row _ _ 0 _ _ (0, 0) hrw
    have q1 : (((W.setCell ⟨P, 6, none⟩ (.bool true)).alloc (.cells #[.int .i64 0, .int .i64 0, .string ⟨#[]⟩, .string ⟨#[]⟩, .slice none 0 0] 24)).alloc (.cells #[.int .i64 (kk : Int), .int .i64 0, .string ⟨#[]⟩, .string ⟨#[]⟩, .slice none 0 0] 24)).cell? ⟨W.heap.size, 1, none⟩ = some (.int .i64 0) := cell_of_row _ _ 1 _ _ (0, 0) hrw
    have q2 : (((W.setCell ⟨P, 6, none⟩ (.bool true)).alloc (.cells #[.int .i64 0, .int .i64 0, .string ⟨#[]⟩, .string ⟨#[]⟩, .slice none 0 0] 24)).alloc (.cells #[.int .i64 (kk : Int), .int .i64 0, .string ⟨#[]⟩, .string ⟨#[]⟩, .slice none 0 0] 24)).cell? ⟨W.heap.size, 2, none⟩ = some (.string ⟨#[]⟩) := cell_of_row _ _ 2 _ _ (0, 0) hrw
    have q3 : (((W.setCell ⟨P, 6, none⟩ (.bool true)).alloc (.cells #[.int .i64 0, .int .i64 0, .string ⟨#[]⟩, .string ⟨#[]⟩, .slice none 0 0] 24)).alloc (.cells #[.int .i64 (kk : Int), .int .i64 0, .string ⟨#[]⟩, .string ⟨#[]⟩, .slice none 0 0] 24)).cell? ⟨W.heap.size, 3, none⟩ = some (.string ⟨#[]⟩) := cell_of_row _ _ 3 _ _ (0, 0) hrw
    have q4 : (((W.setCell ⟨P, 6, none⟩ (.bool true)).alloc (.cells #[.int .i64 0, .int .i64 0, .string ⟨#[]⟩, .string ⟨#[]⟩, .slice none 0 0] 24)).alloc (.cells #[.int .i64 (kk : Int), .int .i64 0, .string ⟨#[]⟩, .string ⟨#[]⟩, .slice none 0 0] 24)).cell? ⟨W.heap.size, 4, none⟩ = some (.slice none 0 0) := cell_of_row _ _ 4 _ _ (0, 0) hrw
    refine bodyPost_ret (v := .agg #[.int .i64 0, .int .i64 0, .string ⟨#[]⟩, .string ⟨#[]⟩, .slice none 0 0]) (by simp [results, Tryd.results18, go_sem, q0, q1, q2, q3, q4]) rfl ?_
    exact ⟨.mk 0 0 ⟨#[]⟩ ⟨#[]⟩ [], rcs 0 0 ⟨#[]⟩ ⟨#[]⟩ none 0 0, rfl, RdP.leaf _ _ 0 0 ⟨#[]⟩ ⟨#[]⟩ (by omega) (by omega) (Nat.zero_le _) (Nat.zero_le _), HZE.2.1, (fun t' r e => by cases e), HZE.2.2⟩

  · have d1 : ((kd : Int) == 97) = false := by rw [beq_eq_false_iff_ne]; omega
    have d2 : (kd == 97) = false := by rw [beq_eq_false_iff_ne]; omega
    clear hk
    go_enter Tryd.func18, Tryd.ntmps18
    go_wp2_with fail
    have HZE := zero_end (W := W) HSB.out (by simp) (grown_set _ _ _ _) (.cells #[.int .i64 0, .int .i64 0, .string ⟨#[]⟩, .string ⟨#[]⟩, .slice none 0 0] 24)
    have hrw := HZE.1
    have q0 : (((W.setCell ⟨P, 6, none⟩ (.bool true)).alloc (.cells #[.int .i64 0, .int .i64 0, .string ⟨#[]⟩, .string ⟨#[]⟩, .slice none 0 0] 24)).alloc (.cells #[.int .i64 0, .int .i64 0, .string ⟨#[]⟩, .string ⟨#[]⟩, .slice none 0 0] 24)).cell? ⟨W.heap.size, 0, none⟩ = some (.int .i64 0) := cell_of_row _ _ 0 _ _ (0, 0) hrw
    have q1 : (((W.setCell ⟨P, 6, none⟩ (.bool true)).alloc (.cells #[.int .i64 0, .int .i64 0, .string ⟨#[]⟩, .string ⟨#[]⟩, .slice none 0 0] 24)).alloc (.cells #[.int .i64 0, .int .i64 0, .string ⟨#[]⟩, .string ⟨#[]⟩, .slice none 0 0] 24)).cell? ⟨W.heap.size, 1, none⟩ = some (.int .i64 0) := cell_of_row _ _ 1 _ _ (0, 0) hrw
    have q2 : (((W.setCell ⟨P, 6, none⟩ (.bool true)).alloc (.cells #[.int .i64 0, .int .i64 0, .string ⟨#[]⟩, .string ⟨#[]⟩, .slice none 0 0] 24)).alloc (.cells #[.int .i64 0, .int .i64 0, .string ⟨#[]⟩, .string ⟨#[]⟩, .slice none 0 0] 24)).cell? ⟨W.heap.size, 2, none⟩ = some (.string ⟨#[]⟩) := cell_of_row _ _ 2 _ _ (0, 0) hrw
    have q3 : (((W.setCell ⟨P, 6, none⟩ (.bool true)).alloc (.cells #[.int .i64 0, .int .i64 0, .string ⟨#[]⟩, .string ⟨#[]⟩, .slice none 0 0] 24)).alloc (.cells #[.int .i64 0, .int .i64 0, .string ⟨#[]⟩, .string ⟨#[]⟩, .slice none 0 0] 24)).cell? ⟨W.heap.size, 3, none⟩ = some (.string ⟨#[]⟩) := cell_of_row _ _ 3 _ _ (0, 0) hrw
    have q4 : (((W.setCell ⟨P, 6, none⟩ (.bool true)).alloc (.cells #[.int .i64 0, .int .i64 0, .string ⟨#[]⟩, .string ⟨#[]⟩, .slice none 0 0] 24)).alloc (.cells #[.int .i64 0, .int .i64 0, .string ⟨#[]⟩, .string ⟨#[]⟩, .slice none 0 0] 24)).cell? ⟨W.heap.size, 4, none⟩ = some (.slice none 0 0) := cell_of_row _ _ 4 _ _ (0, 0) hrw
    refine bodyPost_ret (v := .agg #[.int .i64 0, .int .i64 0, .string ⟨#[]⟩, .string ⟨#[]⟩, .slice none 0 0]) (by simp [results, Tryd.results18, go_sem, q0, q1, q2, q3, q4]) rfl ?_
    exact ⟨.mk 0 0 ⟨#[]⟩ ⟨#[]⟩ [], rcs 0 0 ⟨#[]⟩ ⟨#[]⟩ none 0 0, rfl, RdP.leaf _ _ 0 0 ⟨#[]⟩ ⟨#[]⟩ (by omega) (by omega) (Nat.zero_le _) (Nat.zero_le _), HZE.2.1, (fun t' r e => by cases e), HZE.2.2⟩

set_option maxHeartbeats 16000000 in
theorem policy_any (P : Nat) (s : ByteArray) (L : List UInt8) (hL : s.data.toList = L) (hs : s.size ≤ 800000) : ∀ f, f ≤ 900000 → PolCalls f P s L := by
  have hs1 : s.size ≤ 1000000 := by omega
  have HLL := Lib.hid hL
  have HS := Lib.hid hs1
  clear hL hs hs1
  intro f
  induction f with
  | zero =>
    intro hf st W h hl
    cases st with
    | bad e => exact policy_bad P s L 0 e W h
    | at_ l => exact absurd (hl l rfl) (by omega)
  | succ f ih =>
    intro hf st W h hl
    have IH := Lib.hid (ih (by omega))
    clear ih
    cases st with
    | bad e => exact policy_bad P s L (f + 1) e W h
    | at_ l =>
      have HLF : Hid (l.length < f + 1) := Lib.hid (hl l rfl)
      clear hl
      have hP := h.lt
      have h0 := kind_code h
      have HP := Lib.hid h
      have HSB := Lib.hid (bad_set h)
      simp only at HSB
      by_cases hw : (Wm.tok l).kind = 1
      · have hcd := code_word.2 hw
        rw [hcd] at h0
        obtain ⟨c3, c6⟩ := h0
        obtain ⟨tx, c4, htx⟩ : ∃ tx, W.cell? ⟨P, 4, none⟩ = some (.string tx) ∧ tx = S8 (Wm.tok l).say := by
          obtain ⟨⟨nx, at0, tx, n, h⟩, hsuf⟩ := h
          have hr := h.row
          unfold PRow at hr
          exact ⟨tx, cell_of_row _ _ 4 _ _ (0, 0) hr, h.say (.inl hw)⟩
        have f6 : W.frozen? ⟨P, 6, none⟩ = false := by
          obtain ⟨nx, at0, kd, tx, n, bd, hr⟩ := h.row
          exact pfrz hr
        have HKO := Lib.hid (kindof_any tx)
        have hkw : Wm.kw tx.data.toList = (Wm.tok l).key := by
          rw [htx]
          unfold Wm.Tk.key
          rw [if_pos hw]
          rfl
        rw [hkw] at HKO
        obtain ⟨k, hk⟩ : ∃ k, (Wm.tok l).key = k := ⟨_, rfl⟩
        have hk9 := Wm.key_le (Wm.tok l)
        have HKY := Lib.hid hk
        rw [hk] at HKO hk9
        have HRO := Lib.hid (readon_any s L l P ((W.alloc (.cells #[.int .i64 0, .int .i64 0, .string ⟨#[]⟩, .string ⟨#[]⟩, .slice none 0 0] 24)).alloc (.cells #[.int .i64 (k : Int), .int .i64 0, .string ⟨#[]⟩, .string ⟨#[]⟩, .slice none 0 0] 24)) HLL.out HS.out (h.below (((Below.refl _ _).alloc (Nat.le_refl _) _).alloc (by simp) _) h.lt) (by omega))
        have HGS := Lib.hid (PoSt.start h #[.int .i64 (k : Int), .int .i64 0, .string ⟨#[]⟩, .string ⟨#[]⟩, .slice none 0 0])
        have HW := Lib.hid hw
        clear h hkw hk htx hw hcd
        rcases (show k = 0 ∨ k = 5 ∨ k = 6 ∨ k = 3 ∨ k = 1 ∨ k = 2 ∨ (k = 4 ∨ (7 ≤ k ∧ k ≤ 9)) from by omega) with rfl | rfl | rfl | rfl | rfl | rfl | hkn
        · have HRES : Hid (Wm.onSt (Wm.pol (f + 1)) (.at_ l) = .bad (Wm.tok l).from_) := Lib.hid (by show Wm.pol (f + 1) l = _; rw [Wm.pol, if_pos HKY.out])
          clear HRO HGS
          go_enter Tryd.func18, Tryd.ntmps18
          go_wp2_with (go_at_call 33; (with_reducible refine (HKO.out _).mono ?_); rintro e1 w1 ⟨rfl, hw1⟩; subst hw1)
          have HZE := zero_end (W := W) HSB.out (by simp) (grown_set _ _ _ _) (.cells #[.int .i64 0, .int .i64 0, .string ⟨#[]⟩, .string ⟨#[]⟩, .slice none 0 0] 24)
          have hrw := HZE.1
          have q0 : (((W.setCell ⟨P, 6, none⟩ (.bool true)).alloc (.cells #[.int .i64 0, .int .i64 0, .string ⟨#[]⟩, .string ⟨#[]⟩, .slice none 0 0] 24)).alloc (.cells #[.int .i64 0, .int .i64 0, .string ⟨#[]⟩, .string ⟨#[]⟩, .slice none 0 0] 24)).cell? ⟨W.heap.size, 0, none⟩ = some (.int .i64 0) := cell_of_row _ _ 0 _ _ (0, 0) hrw
          have q1 : (((W.setCell ⟨P, 6, none⟩ (.bool true)).alloc (.cells #[.int .i64 0, .int .i64 0, .string ⟨#[]⟩, .string ⟨#[]⟩, .slice none 0 0] 24)).alloc (.cells #[.int .i64 0, .int .i64 0, .string ⟨#[]⟩, .string ⟨#[]⟩, .slice none 0 0] 24)).cell? ⟨W.heap.size, 1, none⟩ = some (.int .i64 0) := cell_of_row _ _ 1 _ _ (0, 0) hrw
          have q2 : (((W.setCell ⟨P, 6, none⟩ (.bool true)).alloc (.cells #[.int .i64 0, .int .i64 0, .string ⟨#[]⟩, .string ⟨#[]⟩, .slice none 0 0] 24)).alloc (.cells #[.int .i64 0, .int .i64 0, .string ⟨#[]⟩, .string ⟨#[]⟩, .slice none 0 0] 24)).cell? ⟨W.heap.size, 2, none⟩ = some (.string ⟨#[]⟩) := cell_of_row _ _ 2 _ _ (0, 0) hrw
          have q3 : (((W.setCell ⟨P, 6, none⟩ (.bool true)).alloc (.cells #[.int .i64 0, .int .i64 0, .string ⟨#[]⟩, .string ⟨#[]⟩, .slice none 0 0] 24)).alloc (.cells #[.int .i64 0, .int .i64 0, .string ⟨#[]⟩, .string ⟨#[]⟩, .slice none 0 0] 24)).cell? ⟨W.heap.size, 3, none⟩ = some (.string ⟨#[]⟩) := cell_of_row _ _ 3 _ _ (0, 0) hrw
          have q4 : (((W.setCell ⟨P, 6, none⟩ (.bool true)).alloc (.cells #[.int .i64 0, .int .i64 0, .string ⟨#[]⟩, .string ⟨#[]⟩, .slice none 0 0] 24)).alloc (.cells #[.int .i64 0, .int .i64 0, .string ⟨#[]⟩, .string ⟨#[]⟩, .slice none 0 0] 24)).cell? ⟨W.heap.size, 4, none⟩ = some (.slice none 0 0) := cell_of_row _ _ 4 _ _ (0, 0) hrw
          refine bodyPost_ret (v := .agg #[.int .i64 0, .int .i64 0, .string ⟨#[]⟩, .string ⟨#[]⟩, .slice none 0 0]) (by simp [results, Tryd.results18, go_sem, q0, q1, q2, q3, q4]) rfl ?_
          rw [HRES.out]
          exact ⟨.mk 0 0 ⟨#[]⟩ ⟨#[]⟩ [], rcs 0 0 ⟨#[]⟩ ⟨#[]⟩ none 0 0, rfl, RdP.leaf _ _ 0 0 ⟨#[]⟩ ⟨#[]⟩ (by omega) (by omega) (Nat.zero_le _) (Nat.zero_le _), HZE.2.1, (fun t' r e => by cases e), HZE.2.2⟩

        · have HRES : Hid (Wm.onSt (Wm.pol (f + 1)) (.at_ l) = .ok (.mk 5 0 ⟨#[]⟩ ⟨#[]⟩ []) (Wm.tok l).rest) := Lib.hid (by show Wm.pol (f + 1) l = _; rw [Wm.pol, if_neg (by rw [HKY.out]; decide), if_pos HKY.out])
          rw [show ((5 : Nat) : Int) = 5 from rfl] at HRO HGS HKO
          go_enter Tryd.func18, Tryd.ntmps18
          go_wp2_with (first
            | (go_at_call 33; (with_reducible refine (HKO.out _).mono ?_); rintro e1 w1 ⟨rfl, hw1⟩; subst hw1)
            | (go_at_call 17; (with_reducible refine HRO.out.mono ?_); rintro e2 w2 ⟨rfl, hr2, hg2⟩; have GS2 := Lib.hid (HGS.out.call hg2 hr2 hP); clear hr2 hg2 c3 c4 c6 f6; have HX := Lib.hid GS2.out.x; have HZ := Lib.hid GS2.out.z; have d0 : w2.cell? ⟨(W.heap.size + 1), 0, none⟩ = some (.int .i64 5) := cell_of_row _ _ 0 _ _ (0, 0) HX.out; have d1 : w2.cell? ⟨(W.heap.size + 1), 1, none⟩ = some (.int .i64 0) := cell_of_row _ _ 1 _ _ (0, 0) HX.out; have d2 : w2.cell? ⟨(W.heap.size + 1), 2, none⟩ = some (.string ⟨#[]⟩) := cell_of_row _ _ 2 _ _ (0, 0) HX.out; have d3 : w2.cell? ⟨(W.heap.size + 1), 3, none⟩ = some (.string ⟨#[]⟩) := cell_of_row _ _ 3 _ _ (0, 0) HX.out; have d4 : w2.cell? ⟨(W.heap.size + 1), 4, none⟩ = some (.slice none 0 0) := cell_of_row _ _ 4 _ _ (0, 0) HX.out; have df0 : w2.frozen? ⟨(W.heap.size + 1), 0, none⟩ = false := pfrz HX.out; have df1 : w2.frozen? ⟨(W.heap.size + 1), 1, none⟩ = false := pfrz HX.out; have df2 : w2.frozen? ⟨(W.heap.size + 1), 2, none⟩ = false := pfrz HX.out; have df3 : w2.frozen? ⟨(W.heap.size + 1), 3, none⟩ = false := pfrz HX.out; have df4 : w2.frozen? ⟨(W.heap.size + 1), 4, none⟩ = false := pfrz HX.out; have c0 : w2.cell? ⟨W.heap.size, 0, none⟩ = some (.int .i64 0) := cell_of_row _ _ 0 _ _ (0, 0) HZ.out; have c1 : w2.cell? ⟨W.heap.size, 1, none⟩ = some (.int .i64 0) := cell_of_row _ _ 1 _ _ (0, 0) HZ.out; have c2 : w2.cell? ⟨W.heap.size, 2, none⟩ = some (.string ⟨#[]⟩) := cell_of_row _ _ 2 _ _ (0, 0) HZ.out; have c3 : w2.cell? ⟨W.heap.size, 3, none⟩ = some (.string ⟨#[]⟩) := cell_of_row _ _ 3 _ _ (0, 0) HZ.out; have c4 : w2.cell? ⟨W.heap.size, 4, none⟩ = some (.slice none 0 0) := cell_of_row _ _ 4 _ _ (0, 0) HZ.out; have cf0 : w2.frozen? ⟨W.heap.size, 0, none⟩ = false := pfrz HZ.out; have cf1 : w2.frozen? ⟨W.heap.size, 1, none⟩ = false := pfrz HZ.out; have cf2 : w2.frozen? ⟨W.heap.size, 2, none⟩ = false := pfrz HZ.out; have cf3 : w2.frozen? ⟨W.heap.size, 3, none⟩ = false := pfrz HZ.out; have cf4 : w2.frozen? ⟨W.heap.size, 4, none⟩ = false := pfrz HZ.out;  have done2 := trivial))
          have HFIN := fin5p GS2.out.r GS2.out.gr hP GS2.out.z (.int .i64 5) (.int .i64 0) (.string ⟨#[]⟩) (.string ⟨#[]⟩) (.slice none 0 0)
          have hrw := HFIN.2.2.2.2
          have q0 : (((((w2.setCell ⟨W.heap.size, 0, none⟩ (.int .i64 5)).setCell ⟨W.heap.size, 1, none⟩ (.int .i64 0)).setCell ⟨W.heap.size, 2, none⟩ (.string ⟨#[]⟩)).setCell ⟨W.heap.size, 3, none⟩ (.string ⟨#[]⟩)).setCell ⟨W.heap.size, 4, none⟩ (.slice none 0 0)).cell? ⟨W.heap.size, 0, none⟩ = some (.int .i64 5) := cell_of_row _ _ 0 _ _ (0, 0) hrw
          have q1 : (((((w2.setCell ⟨W.heap.size, 0, none⟩ (.int .i64 5)).setCell ⟨W.heap.size, 1, none⟩ (.int .i64 0)).setCell ⟨W.heap.size, 2, none⟩ (.string ⟨#[]⟩)).setCell ⟨W.heap.size, 3, none⟩ (.string ⟨#[]⟩)).setCell ⟨W.heap.size, 4, none⟩ (.slice none 0 0)).cell? ⟨W.heap.size, 1, none⟩ = some (.int .i64 0) := cell_of_row _ _ 1 _ _ (0, 0) hrw
          have q2 : (((((w2.setCell ⟨W.heap.size, 0, none⟩ (.int .i64 5)).setCell ⟨W.heap.size, 1, none⟩ (.int .i64 0)).setCell ⟨W.heap.size, 2, none⟩ (.string ⟨#[]⟩)).setCell ⟨W.heap.size, 3, none⟩ (.string ⟨#[]⟩)).setCell ⟨W.heap.size, 4, none⟩ (.slice none 0 0)).cell? ⟨W.heap.size, 2, none⟩ = some (.string ⟨#[]⟩) := cell_of_row _ _ 2 _ _ (0, 0) hrw
          have q3 : (((((w2.setCell ⟨W.heap.size, 0, none⟩ (.int .i64 5)).setCell ⟨W.heap.size, 1, none⟩ (.int .i64 0)).setCell ⟨W.heap.size, 2, none⟩ (.string ⟨#[]⟩)).setCell ⟨W.heap.size, 3, none⟩ (.string ⟨#[]⟩)).setCell ⟨W.heap.size, 4, none⟩ (.slice none 0 0)).cell? ⟨W.heap.size, 3, none⟩ = some (.string ⟨#[]⟩) := cell_of_row _ _ 3 _ _ (0, 0) hrw
          have q4 : (((((w2.setCell ⟨W.heap.size, 0, none⟩ (.int .i64 5)).setCell ⟨W.heap.size, 1, none⟩ (.int .i64 0)).setCell ⟨W.heap.size, 2, none⟩ (.string ⟨#[]⟩)).setCell ⟨W.heap.size, 3, none⟩ (.string ⟨#[]⟩)).setCell ⟨W.heap.size, 4, none⟩ (.slice none 0 0)).cell? ⟨W.heap.size, 4, none⟩ = some (.slice none 0 0) := cell_of_row _ _ 4 _ _ (0, 0) hrw
          refine bodyPost_ret (v := .agg #[.int .i64 5, .int .i64 0, .string ⟨#[]⟩, .string ⟨#[]⟩, .slice none 0 0]) (by simp [results, Tryd.results18, go_sem, q0, q1, q2, q3, q4]) rfl ?_
          rw [HRES.out]
          exact ⟨_, rcs 5 0 ⟨#[]⟩ ⟨#[]⟩ none 0 0, rfl, RdP.leaf _ _ 5 0 ⟨#[]⟩ ⟨#[]⟩ (by omega) (by omega) (Nat.zero_le _) (Nat.zero_le _), HFIN.1, (fun t' r e => by injection e), HFIN.2.1⟩
        · have HRES : Hid (Wm.onSt (Wm.pol (f + 1)) (.at_ l) = Wm.polA (Wm.tok l).rest) := Lib.hid (by show Wm.pol (f + 1) l = _; rw [Wm.pol, if_neg (by rw [HKY.out]; decide), if_neg (by rw [HKY.out]; decide), if_pos HKY.out])
          rw [show ((6 : Nat) : Int) = 6 from rfl] at HRO HGS HKO
          go_enter Tryd.func18, Tryd.ntmps18
          go_wp2_with (first
            | (have hd := done3; clear done3; go_at_call 34; (with_reducible refine (quoted_any s L P _ _ HLL.out HS.out GS4.out.r).mono ?_); rintro e5 w5 ⟨v5, rfl, hv5, hs5, hr5, hg5⟩; have HV5 := Lib.hid hv5; have HS5 := Lib.hid hs5; have GS5 := Lib.hid (GS4.out.call hg5 hr5 hP); clear hr5 hg5 hv5 hs5 d0 d1 d2 d3 d4 df0 df1 df2 df3 df4; have HX5 : Hid (w5.heap[(W.heap.size + 1)]? = some (.cells #[.int .i64 6, .int .i64 0, .string v3, .string ⟨#[]⟩, .slice none 0 0] 24)) := Lib.hid (GS5.out.x); have d0 : w5.cell? ⟨(W.heap.size + 1), 0, none⟩ = some (.int .i64 6) := cell_of_row _ _ 0 _ _ (0, 0) HX5.out; have d1 : w5.cell? ⟨(W.heap.size + 1), 1, none⟩ = some (.int .i64 0) := cell_of_row _ _ 1 _ _ (0, 0) HX5.out; have d2 : w5.cell? ⟨(W.heap.size + 1), 2, none⟩ = some (.string v3) := cell_of_row _ _ 2 _ _ (0, 0) HX5.out; have d3 : w5.cell? ⟨(W.heap.size + 1), 3, none⟩ = some (.string ⟨#[]⟩) := cell_of_row _ _ 3 _ _ (0, 0) HX5.out; have d4 : w5.cell? ⟨(W.heap.size + 1), 4, none⟩ = some (.slice none 0 0) := cell_of_row _ _ 4 _ _ (0, 0) HX5.out; have df0 : w5.frozen? ⟨(W.heap.size + 1), 0, none⟩ = false := pfrz HX5.out; have df1 : w5.frozen? ⟨(W.heap.size + 1), 1, none⟩ = false := pfrz HX5.out; have df2 : w5.frozen? ⟨(W.heap.size + 1), 2, none⟩ = false := pfrz HX5.out; have df3 : w5.frozen? ⟨(W.heap.size + 1), 3, none⟩ = false := pfrz HX5.out; have df4 : w5.frozen? ⟨(W.heap.size + 1), 4, none⟩ = false := pfrz HX5.out;  have GS6 := Lib.hid (GS5.out.set hP 3 (.string v5)); have HX6 : Hid ((w5.setCell ⟨(W.heap.size + 1), 3, none⟩ (.string v5)).heap[(W.heap.size + 1)]? = some (.cells #[.int .i64 6, .int .i64 0, .string v3, .string v5, .slice none 0 0] 24)) := Lib.hid (GS6.out.x); have x0 : (w5.setCell ⟨(W.heap.size + 1), 3, none⟩ (.string v5)).cell? ⟨(W.heap.size + 1), 0, none⟩ = some (.int .i64 6) := cell_of_row _ _ 0 _ _ (0, 0) HX6.out; have x1 : (w5.setCell ⟨(W.heap.size + 1), 3, none⟩ (.string v5)).cell? ⟨(W.heap.size + 1), 1, none⟩ = some (.int .i64 0) := cell_of_row _ _ 1 _ _ (0, 0) HX6.out; have x2 : (w5.setCell ⟨(W.heap.size + 1), 3, none⟩ (.string v5)).cell? ⟨(W.heap.size + 1), 2, none⟩ = some (.string v3) := cell_of_row _ _ 2 _ _ (0, 0) HX6.out; have x3 : (w5.setCell ⟨(W.heap.size + 1), 3, none⟩ (.string v5)).cell? ⟨(W.heap.size + 1), 3, none⟩ = some (.string v5) := cell_of_row _ _ 3 _ _ (0, 0) HX6.out; have x4 : (w5.setCell ⟨(W.heap.size + 1), 3, none⟩ (.string v5)).cell? ⟨(W.heap.size + 1), 4, none⟩ = some (.slice none 0 0) := cell_of_row _ _ 4 _ _ (0, 0) HX6.out; have xf0 : (w5.setCell ⟨(W.heap.size + 1), 3, none⟩ (.string v5)).frozen? ⟨(W.heap.size + 1), 0, none⟩ = false := pfrz HX6.out; have xf1 : (w5.setCell ⟨(W.heap.size + 1), 3, none⟩ (.string v5)).frozen? ⟨(W.heap.size + 1), 1, none⟩ = false := pfrz HX6.out; have xf2 : (w5.setCell ⟨(W.heap.size + 1), 3, none⟩ (.string v5)).frozen? ⟨(W.heap.size + 1), 2, none⟩ = false := pfrz HX6.out; have xf3 : (w5.setCell ⟨(W.heap.size + 1), 3, none⟩ (.string v5)).frozen? ⟨(W.heap.size + 1), 3, none⟩ = false := pfrz HX6.out; have xf4 : (w5.setCell ⟨(W.heap.size + 1), 3, none⟩ (.string v5)).frozen? ⟨(W.heap.size + 1), 4, none⟩ = false := pfrz HX6.out;  have HZ6 := Lib.hid GS6.out.z; have c0 : (w5.setCell ⟨(W.heap.size + 1), 3, none⟩ (.string v5)).cell? ⟨W.heap.size, 0, none⟩ = some (.int .i64 0) := cell_of_row _ _ 0 _ _ (0, 0) HZ6.out; have c1 : (w5.setCell ⟨(W.heap.size + 1), 3, none⟩ (.string v5)).cell? ⟨W.heap.size, 1, none⟩ = some (.int .i64 0) := cell_of_row _ _ 1 _ _ (0, 0) HZ6.out; have c2 : (w5.setCell ⟨(W.heap.size + 1), 3, none⟩ (.string v5)).cell? ⟨W.heap.size, 2, none⟩ = some (.string ⟨#[]⟩) := cell_of_row _ _ 2 _ _ (0, 0) HZ6.out; have c3 : (w5.setCell ⟨(W.heap.size + 1), 3, none⟩ (.string v5)).cell? ⟨W.heap.size, 3, none⟩ = some (.string ⟨#[]⟩) := cell_of_row _ _ 3 _ _ (0, 0) HZ6.out; have c4 : (w5.setCell ⟨(W.heap.size + 1), 3, none⟩ (.string v5)).cell? ⟨W.heap.size, 4, none⟩ = some (.slice none 0 0) := cell_of_row _ _ 4 _ _ (0, 0) HZ6.out; have cf0 : (w5.setCell ⟨(W.heap.size + 1), 3, none⟩ (.string v5)).frozen? ⟨W.heap.size, 0, none⟩ = false := pfrz HZ6.out; have cf1 : (w5.setCell ⟨(W.heap.size + 1), 3, none⟩ (.string v5)).frozen? ⟨W.heap.size, 1, none⟩ = false := pfrz HZ6.out; have cf2 : (w5.setCell ⟨(W.heap.size + 1), 3, none⟩ (.string v5)).frozen? ⟨W.heap.size, 2, none⟩ = false := pfrz HZ6.out; have cf3 : (w5.setCell ⟨(W.heap.size + 1), 3, none⟩ (.string v5)).frozen? ⟨W.heap.size, 3, none⟩ = false := pfrz HZ6.out; have cf4 : (w5.setCell ⟨(W.heap.size + 1), 3, none⟩ (.string v5)).frozen? ⟨W.heap.size, 4, none⟩ = false := pfrz HZ6.out;  have done5 := trivial)
            | (have hd := done2; clear done2; go_at_call 34; (with_reducible refine (quoted_any s L P _ _ HLL.out HS.out GS2.out.r).mono ?_); rintro e3 w3 ⟨v3, rfl, hv3, hs3, hr3, hg3⟩; have HV3 := Lib.hid hv3; have HS3 := Lib.hid hs3; have GS3 := Lib.hid (GS2.out.call hg3 hr3 hP); clear hr3 hg3 hv3 hs3 d0 d1 d2 d3 d4 df0 df1 df2 df3 df4 c0 c1 c2 c3 c4 cf0 cf1 cf2 cf3 cf4; have HX3 := Lib.hid GS3.out.x; have d0 : w3.cell? ⟨(W.heap.size + 1), 0, none⟩ = some (.int .i64 6) := cell_of_row _ _ 0 _ _ (0, 0) HX3.out; have d1 : w3.cell? ⟨(W.heap.size + 1), 1, none⟩ = some (.int .i64 0) := cell_of_row _ _ 1 _ _ (0, 0) HX3.out; have d2 : w3.cell? ⟨(W.heap.size + 1), 2, none⟩ = some (.string ⟨#[]⟩) := cell_of_row _ _ 2 _ _ (0, 0) HX3.out; have d3 : w3.cell? ⟨(W.heap.size + 1), 3, none⟩ = some (.string ⟨#[]⟩) := cell_of_row _ _ 3 _ _ (0, 0) HX3.out; have d4 : w3.cell? ⟨(W.heap.size + 1), 4, none⟩ = some (.slice none 0 0) := cell_of_row _ _ 4 _ _ (0, 0) HX3.out; have df0 : w3.frozen? ⟨(W.heap.size + 1), 0, none⟩ = false := pfrz HX3.out; have df1 : w3.frozen? ⟨(W.heap.size + 1), 1, none⟩ = false := pfrz HX3.out; have df2 : w3.frozen? ⟨(W.heap.size + 1), 2, none⟩ = false := pfrz HX3.out; have df3 : w3.frozen? ⟨(W.heap.size + 1), 3, none⟩ = false := pfrz HX3.out; have df4 : w3.frozen? ⟨(W.heap.size + 1), 4, none⟩ = false := pfrz HX3.out;  have GS4 := Lib.hid (GS3.out.set hP 2 (.string v3)); have done3 := trivial)
            | (go_at_call 33; (with_reducible refine (HKO.out _).mono ?_); rintro e1 w1 ⟨rfl, hw1⟩; subst hw1)
            | (go_at_call 17; (with_reducible refine HRO.out.mono ?_); rintro e2 w2 ⟨rfl, hr2, hg2⟩; have GS2 := Lib.hid (HGS.out.call hg2 hr2 hP); clear hr2 hg2 c3 c4 c6 f6; have HX := Lib.hid GS2.out.x; have HZ := Lib.hid GS2.out.z; have d0 : w2.cell? ⟨(W.heap.size + 1), 0, none⟩ = some (.int .i64 6) := cell_of_row _ _ 0 _ _ (0, 0) HX.out; have d1 : w2.cell? ⟨(W.heap.size + 1), 1, none⟩ = some (.int .i64 0) := cell_of_row _ _ 1 _ _ (0, 0) HX.out; have d2 : w2.cell? ⟨(W.heap.size + 1), 2, none⟩ = some (.string ⟨#[]⟩) := cell_of_row _ _ 2 _ _ (0, 0) HX.out; have d3 : w2.cell? ⟨(W.heap.size + 1), 3, none⟩ = some (.string ⟨#[]⟩) := cell_of_row _ _ 3 _ _ (0, 0) HX.out; have d4 : w2.cell? ⟨(W.heap.size + 1), 4, none⟩ = some (.slice none 0 0) := cell_of_row _ _ 4 _ _ (0, 0) HX.out; have df0 : w2.frozen? ⟨(W.heap.size + 1), 0, none⟩ = false := pfrz HX.out; have df1 : w2.frozen? ⟨(W.heap.size + 1), 1, none⟩ = false := pfrz HX.out; have df2 : w2.frozen? ⟨(W.heap.size + 1), 2, none⟩ = false := pfrz HX.out; have df3 : w2.frozen? ⟨(W.heap.size + 1), 3, none⟩ = false := pfrz HX.out; have df4 : w2.frozen? ⟨(W.heap.size + 1), 4, none⟩ = false := pfrz HX.out; have c0 : w2.cell? ⟨W.heap.size, 0, none⟩ = some (.int .i64 0) := cell_of_row _ _ 0 _ _ (0, 0) HZ.out; have c1 : w2.cell? ⟨W.heap.size, 1, none⟩ = some (.int .i64 0) := cell_of_row _ _ 1 _ _ (0, 0) HZ.out; have c2 : w2.cell? ⟨W.heap.size, 2, none⟩ = some (.string ⟨#[]⟩) := cell_of_row _ _ 2 _ _ (0, 0) HZ.out; have c3 : w2.cell? ⟨W.heap.size, 3, none⟩ = some (.string ⟨#[]⟩) := cell_of_row _ _ 3 _ _ (0, 0) HZ.out; have c4 : w2.cell? ⟨W.heap.size, 4, none⟩ = some (.slice none 0 0) := cell_of_row _ _ 4 _ _ (0, 0) HZ.out; have cf0 : w2.frozen? ⟨W.heap.size, 0, none⟩ = false := pfrz HZ.out; have cf1 : w2.frozen? ⟨W.heap.size, 1, none⟩ = false := pfrz HZ.out; have cf2 : w2.frozen? ⟨W.heap.size, 2, none⟩ = false := pfrz HZ.out; have cf3 : w2.frozen? ⟨W.heap.size, 3, none⟩ = false := pfrz HZ.out; have cf4 : w2.frozen? ⟨W.heap.size, 4, none⟩ = false := pfrz HZ.out;  have done2 := trivial))
          have HFIN := fin5p GS6.out.r GS6.out.gr hP GS6.out.z (.int .i64 6) (.int .i64 0) (.string v3) (.string v5) (.slice none 0 0)
          have hrw := HFIN.2.2.2.2
          have q0 : ((((((w5.setCell ⟨(W.heap.size + 1), 3, none⟩ (.string v5)).setCell ⟨W.heap.size, 0, none⟩ (.int .i64 6)).setCell ⟨W.heap.size, 1, none⟩ (.int .i64 0)).setCell ⟨W.heap.size, 2, none⟩ (.string v3)).setCell ⟨W.heap.size, 3, none⟩ (.string v5)).setCell ⟨W.heap.size, 4, none⟩ (.slice none 0 0)).cell? ⟨W.heap.size, 0, none⟩ = some (.int .i64 6) := cell_of_row _ _ 0 _ _ (0, 0) hrw
          have q1 : ((((((w5.setCell ⟨(W.heap.size + 1), 3, none⟩ (.string v5)).setCell ⟨W.heap.size, 0, none⟩ (.int .i64 6)).setCell ⟨W.heap.size, 1, none⟩ (.int .i64 0)).setCell ⟨W.heap.size, 2, none⟩ (.string v3)).setCell ⟨W.heap.size, 3, none⟩ (.string v5)).setCell ⟨W.heap.size, 4, none⟩ (.slice none 0 0)).cell? ⟨W.heap.size, 1, none⟩ = some (.int .i64 0) := cell_of_row _ _ 1 _ _ (0, 0) hrw
          have q2 : ((((((w5.setCell ⟨(W.heap.size + 1), 3, none⟩ (.string v5)).setCell ⟨W.heap.size, 0, none⟩ (.int .i64 6)).setCell ⟨W.heap.size, 1, none⟩ (.int .i64 0)).setCell ⟨W.heap.size, 2, none⟩ (.string v3)).setCell ⟨W.heap.size, 3, none⟩ (.string v5)).setCell ⟨W.heap.size, 4, none⟩ (.slice none 0 0)).cell? ⟨W.heap.size, 2, none⟩ = some (.string v3) := cell_of_row _ _ 2 _ _ (0, 0) hrw
          have q3 : ((((((w5.setCell ⟨(W.heap.size + 1), 3, none⟩ (.string v5)).setCell ⟨W.heap.size, 0, none⟩ (.int .i64 6)).setCell ⟨W.heap.size, 1, none⟩ (.int .i64 0)).setCell ⟨W.heap.size, 2, none⟩ (.string v3)).setCell ⟨W.heap.size, 3, none⟩ (.string v5)).setCell ⟨W.heap.size, 4, none⟩ (.slice none 0 0)).cell? ⟨W.heap.size, 3, none⟩ = some (.string v5) := cell_of_row _ _ 3 _ _ (0, 0) hrw
          have q4 : ((((((w5.setCell ⟨(W.heap.size + 1), 3, none⟩ (.string v5)).setCell ⟨W.heap.size, 0, none⟩ (.int .i64 6)).setCell ⟨W.heap.size, 1, none⟩ (.int .i64 0)).setCell ⟨W.heap.size, 2, none⟩ (.string v3)).setCell ⟨W.heap.size, 3, none⟩ (.string v5)).setCell ⟨W.heap.size, 4, none⟩ (.slice none 0 0)).cell? ⟨W.heap.size, 4, none⟩ = some (.slice none 0 0) := cell_of_row _ _ 4 _ _ (0, 0) hrw
          refine bodyPost_ret (v := .agg #[.int .i64 6, .int .i64 0, .string v3, .string v5, .slice none 0 0]) (by simp [results, Tryd.results18, go_sem, q0, q1, q2, q3, q4]) rfl ?_
          have HPA := polA_out HS3.out HS5.out
          rw [HRES.out]
          exact ⟨.mk 6 0 v3 v5 [], rcs 6 0 v3 v5 none 0 0, rfl, RdP.leaf _ _ 6 0 v3 v5 (by omega) (by omega) (by have := HV3.out; unfold maxLen; omega) (by have := HV5.out; unfold maxLen; omega), by rw [HPA.1]; exact HFIN.1, HPA.2, HFIN.2.1⟩
        · have HRES : Hid (Wm.onSt (Wm.pol (f + 1)) (.at_ l) = Wm.polK (Wm.pol f) 3 f (Wm.tok l).rest) := Lib.hid (by show Wm.pol (f + 1) l = _; rw [Wm.pol, if_neg (by rw [HKY.out]; decide), if_neg (by rw [HKY.out]; decide), if_neg (by rw [HKY.out]; decide), if_pos (by rw [HKY.out]; decide), HKY.out])
          have HLR : Hid ((Wm.tok l).rest.length ≤ f) := Lib.hid (by have := Wm.tok_short l (by have := HW.out; omega) (by have := HW.out; omega); have := HLF.out; omega)
          rw [show ((3 : Nat) : Int) = 3 from rfl] at HRO HGS HKO
          go_enter Tryd.func18, Tryd.ntmps18
          go_wp2_with (first
            | (have hd := done2; clear done2; go_at_call 35; (with_reducible refine HTK.out.mono ?_); rintro e3 w3 ⟨rfl, hr3, hg3⟩; have GS3 := Lib.hid (GS2.out.call hg3 hr3 hP); clear hr3 hg3 d0 d1 d2 d3 d4 df0 df1 df2 df3 df4 c0 c1 c2 c3 c4 cf0 cf1 cf2 cf3 cf4; have done3 := trivial)
            | (go_at_call 33; (with_reducible refine (HKO.out _).mono ?_); rintro e1 w1 ⟨rfl, hw1⟩; subst hw1)
            | (go_at_call 17; (with_reducible refine HRO.out.mono ?_); rintro e2 w2 ⟨rfl, hr2, hg2⟩; have GS2 := Lib.hid (HGS.out.call hg2 hr2 hP); clear hr2 hg2 c3 c4 c6 f6; have HX := Lib.hid GS2.out.x; have HZ := Lib.hid GS2.out.z; have d0 : w2.cell? ⟨(W.heap.size + 1), 0, none⟩ = some (.int .i64 3) := cell_of_row _ _ 0 _ _ (0, 0) HX.out; have d1 : w2.cell? ⟨(W.heap.size + 1), 1, none⟩ = some (.int .i64 0) := cell_of_row _ _ 1 _ _ (0, 0) HX.out; have d2 : w2.cell? ⟨(W.heap.size + 1), 2, none⟩ = some (.string ⟨#[]⟩) := cell_of_row _ _ 2 _ _ (0, 0) HX.out; have d3 : w2.cell? ⟨(W.heap.size + 1), 3, none⟩ = some (.string ⟨#[]⟩) := cell_of_row _ _ 3 _ _ (0, 0) HX.out; have d4 : w2.cell? ⟨(W.heap.size + 1), 4, none⟩ = some (.slice none 0 0) := cell_of_row _ _ 4 _ _ (0, 0) HX.out; have df0 : w2.frozen? ⟨(W.heap.size + 1), 0, none⟩ = false := pfrz HX.out; have df1 : w2.frozen? ⟨(W.heap.size + 1), 1, none⟩ = false := pfrz HX.out; have df2 : w2.frozen? ⟨(W.heap.size + 1), 2, none⟩ = false := pfrz HX.out; have df3 : w2.frozen? ⟨(W.heap.size + 1), 3, none⟩ = false := pfrz HX.out; have df4 : w2.frozen? ⟨(W.heap.size + 1), 4, none⟩ = false := pfrz HX.out; have c0 : w2.cell? ⟨W.heap.size, 0, none⟩ = some (.int .i64 0) := cell_of_row _ _ 0 _ _ (0, 0) HZ.out; have c1 : w2.cell? ⟨W.heap.size, 1, none⟩ = some (.int .i64 0) := cell_of_row _ _ 1 _ _ (0, 0) HZ.out; have c2 : w2.cell? ⟨W.heap.size, 2, none⟩ = some (.string ⟨#[]⟩) := cell_of_row _ _ 2 _ _ (0, 0) HZ.out; have c3 : w2.cell? ⟨W.heap.size, 3, none⟩ = some (.string ⟨#[]⟩) := cell_of_row _ _ 3 _ _ (0, 0) HZ.out; have c4 : w2.cell? ⟨W.heap.size, 4, none⟩ = some (.slice none 0 0) := cell_of_row _ _ 4 _ _ (0, 0) HZ.out; have cf0 : w2.frozen? ⟨W.heap.size, 0, none⟩ = false := pfrz HZ.out; have cf1 : w2.frozen? ⟨W.heap.size, 1, none⟩ = false := pfrz HZ.out; have cf2 : w2.frozen? ⟨W.heap.size, 2, none⟩ = false := pfrz HZ.out; have cf3 : w2.frozen? ⟨W.heap.size, 3, none⟩ = false := pfrz HZ.out; have cf4 : w2.frozen? ⟨W.heap.size, 4, none⟩ = false := pfrz HZ.out;  have HTK := Lib.hid (take_z s L P 40 40 rfl _ _ HLL.out HS.out GS2.out.r (by decide) (by decide)); have done2 := trivial))
          obtain ⟨st1, hst1⟩ : ∃ x, Wm.takeS 40 (.at_ (Wm.tok l).rest) = x := ⟨_, rfl⟩
          rw [hst1] at GS3
          have HST1 := Lib.hid hst1
          have HLST : Hid (∀ l0, st1 = .at_ l0 → l0.length < f) := Lib.hid (fun l0 e => by
            subst e
            obtain ⟨l1, h1, h2, rfl⟩ := takeS_at hst1
            injection h1 with h1
            subst h1
            have h3 := Wm.is_kind ((code_sign (c := 40) (.inl rfl)).1 h2)
            have := Wm.tok_short (Wm.tok l).rest (by omega) (by omega)
            have := HLR.out
            omega)
          obtain ⟨res1, hres1⟩ : ∃ x, Wm.onSt (Wm.pol f) st1 = x := ⟨_, rfl⟩
          have HR1 := Lib.hid hres1
          obtain ⟨w3d, hw3d⟩ : ∃ w, w = w3.drew := ⟨_, rfl⟩
          have hbd : Below w3.heap.size w3 w3d := by rw [hw3d]; exact ⟨rfl, rfl, rfl, Nat.le_refl _, fun _ _ => rfl⟩
          have hzd : W.heap.size + 1 < w3d.heap.size := Nat.lt_of_lt_of_le (in_heap GS3.out.x) hbd.size
          clear hst1 hres1
          refine PG.wp_region_persG (R := Out P (W.heap.size + 1) w3d.heap.size) (G := PGG P (W.heap.size + 1) s L st1) (by kernel_rfl) (PG.formed_of (by kernel_rfl)) (out_goes P (W.heap.size + 1) w3d.heap.size) ?_ (PF P (W.heap.size + 1) w3d.heap.size s L (Wm.onSt (Wm.pol f) st1)) ?_ ?_
          · rw [← hw3d]
            intro k
            unfold PGG
            split
            · exact PSt.below GS3.out.r hbd GS3.out.r.lt
            · exact (hbd.block _ (in_heap GS3.out.x)).trans GS3.out.x
            · trivial
          · rw [← hw3d]
            intro i o ho
            rcases i with _ | _ | _ | _ | _ | _ | _ | _ | i
            · obtain rfl := Option.some.inj (show some _ = some o from ho)
              refine PG.shown_val rfl fun a w4 hr T => ?_
              have h5 : a.eval (.tmp 3) = .pointer (some ⟨W.heap.size + 1, 0, none⟩) := T.was 3 (by kernel_rfl)
              exact ⟨.pointer (some ⟨W.heap.size + 1, 4, none⟩), w4, by simp only [execOp, h5]; simp [go_sem], PG.Post.pure (out_goes P (W.heap.size + 1) w3d.heap.size) rfl⟩
            · obtain rfl := Option.some.inj (show some _ = some o from ho)
              refine PG.shown_val rfl fun a w4 hr T => ?_
              have h48 : a.eval (.tmp 54) = .pointer (some ⟨W.heap.size + 1, 4, none⟩) := T.at_ 0 54 (by kernel_rfl) (by kernel_rfl)
              have hO : w4.heap[W.heap.size + 1]? = some (.cells #[.int .i64 3, .int .i64 0, .string ⟨#[]⟩, .string ⟨#[]⟩, .slice none 0 0] 24) := T.yet 7 (by kernel_rfl)
              have c4 : w4.cell? ⟨W.heap.size + 1, 4, none⟩ = some (.slice none 0 0) := cell_of_row _ _ 4 _ _ (0, 0) hO
              exact ⟨.slice none 0 0, w4, by simp only [execOp, h48]; simp [go_sem, c4], PG.Post.pure (out_goes P (W.heap.size + 1) w3d.heap.size) rfl⟩
            · obtain rfl := Option.some.inj (show some _ = some o from ho)
              refine PG.shown_val rfl fun a w4 hr T => ?_
              have h0 : a.eval (.tmp 0) = .pointer (some ⟨P, 0, none⟩) := T.was 0 (by kernel_rfl)
              exact ⟨.pointer (some ⟨P, 0, none⟩), w4, by simp only [execOp, h0]; simp [go_sem], PG.Post.pure (out_goes P (W.heap.size + 1) w3d.heap.size) rfl⟩
            · obtain rfl := Option.some.inj (show some _ = some o from ho)
              refine PG.shown_call rfl 18 fun a w4 hr T => ?_
              have h50 : a.eval (.tmp 56) = .pointer (some ⟨P, 0, none⟩) := T.at_ 2 56 (by kernel_rfl) (by kernel_rfl)
              have hR5 : PSt w4 P s L st1 := T.own
              have hz4 : w3d.heap.size ≤ w4.heap.size := hr.size
              refine ⟨#[.pointer (some ⟨P, 0, none⟩)], by simp only [execOp, resolve, List.map_toArray, List.map_cons, List.map_nil, h50]; simp [go_sem, Act.eval], ?_⟩
              refine (IH.out st1 w4 hR5 HLST.out).mono fun e w5 hh => ?_
              obtain ⟨t, cs, rfl, hp5, hr5, ht5, hg5⟩ := hh
              obtain ⟨k9, n9, y9, v9, A9, m9, c9, rfl⟩ := hp5.inv
              refine ⟨_, rfl, out_grown hg5 (by omega), ⟨⟨t, k9, n9, y9, v9, A9, m9, c9⟩, rfl, ht5, hp5.imp (fun q hq => ⟨by omega, hq.2, fun e => by cases e⟩), hr5⟩, fun k hk hG => ?_, fun j v hj hw hF => ?_⟩
              · unfold PGG at *
                split
                · exact absurd rfl hk
                · exact (hg5.block _ (in_heap hG) (by intro e; injection e with e; omega)).trans hG
                · trivial
              · match j, hj, hw, hF with
                | 0, _, _, hF => exact hF
                | 1, _, _, hF => exact hF
                | 2, _, _, hF => exact hF
                | 3, hj, _, _ => exact absurd rfl hj
                | 4, _, hw, _ => exact (PG.waits_no (by kernel_rfl) hw).elim
                | 5, _, _, hF => obtain ⟨x, h1, h2⟩ := hF; exact ⟨x, h1, h2.kept hg5 (by omega)⟩
                | 6, _, _, hF => exact hF
                | 7, _, _, hF => obtain ⟨x, v, h1, h2, h3⟩ := hF; exact ⟨x, v, h1, h2.kept hg5 (by omega), (hg5.block _ (in_heap h3) (by intro e; injection e with e; omega)).trans h3⟩
                | _ + 8, _, _, _ => trivial
            · obtain rfl := Option.some.inj (show some _ = some o from ho)
              refine PG.shown_val rfl fun a w4 hr T => ?_
              obtain ⟨x, h53, hx1, hx2, hx3⟩ := T.at_ 3 57 (by kernel_rfl) (by kernel_rfl)
              have hz4 : w3d.heap.size ≤ w4.heap.size := hr.size
              have hb4 : Below w4.heap.size w4 (w4.alloc (.cells x.cells.toArray 24)) := (Below.refl _ _).alloc (Nat.le_refl _) _
              refine ⟨.slice (some ⟨w4.heap.size, 0, none⟩) 1 1, w4.alloc (.cells x.cells.toArray 24), by simp only [execOp, List.map_toArray, List.map_cons, List.map_nil, h53]; simp [go_sem, Kr.cells, rcs], out_below hb4 (by omega), ⟨x, w4.heap.size, rfl, hx1, hx2.below hb4, by simpa using Rd.lit w4 x.cells.toArray 24, by omega, by simp⟩, fun k hk hG => hG.below hb4, fun j v hj hw hF => hF.below hb4⟩
            · obtain rfl := Option.some.inj (show some _ = some o from ho)
              refine PG.shown_val rfl fun a w4 hr T => ?_
              have h49 : a.eval (.tmp 55) = .slice none 0 0 := T.at_ 1 55 (by kernel_rfl) (by kernel_rfl)
              obtain ⟨x, q, h54, hx1, hx2, hx3, hx4, hx5⟩ := T.at_ 4 58 (by kernel_rfl) (by kernel_rfl)
              have hO7 : OwnKids w4 w3d.heap.size (.slice none 0 0) [] := OwnKids.nil _ _
              have hz4 : w3d.heap.size ≤ w4.heap.size := hr.size
              obtain ⟨v', w', r1', r2', r3'⟩ := appKid (ty := 22) hO7 hx2 hx3 (by simp) (by omega)
              have hne : ∀ k, (Value.slice none 0 0).ownBlock ≠ some k := fun k e => by cases e
              refine ⟨v', w', by simp only [execOp, resolve, invoke, builtin, Sem.run_bind, Sem.run_pure, Result.andThen_ok, List.map_toArray, List.map_cons, List.map_nil, h49, h54, r1'], ⟨r3'.grown.os, r3'.grown.tape, r3'.grown.output, r3'.grown.size, fun k h1 h2 h3 => r3'.grown.block k (by omega) (Ne.symm (hne k))⟩, ⟨x, hx1, r2'⟩, fun k hk hG => ?_, fun j v hj hw hF => ?_⟩
              · unfold PGG at *
                split
                · exact hG.stay (r3'.grown.block P hG.lt (Ne.symm (hne P)))
                · exact (r3'.grown.block _ (in_heap hG) (Ne.symm (hne _))).trans hG
                · trivial
              · match j, hj, hw, hF with
                | 0, _, _, hF => exact hF
                | 1, _, _, hF => exact hF
                | 2, _, _, hF => exact hF
                | 3, _, _, hF => obtain ⟨y, h1, h2, h3, h4⟩ := hF; exact ⟨y, h1, h2, h3.app r3', h4.stay (r3'.grown.block P h4.lt (Ne.symm (hne P)))⟩
                | 4, _, _, hF => obtain ⟨y, p, h1, h2, h3, h4, h5, h6⟩ := hF; exact ⟨y, p, h1, h2, h3.app r3', h4.block9 (r3'.grown.block p h6 (Ne.symm (hne p))), h5, Nat.lt_of_lt_of_le h6 r3'.grown.size⟩
                | 5, hj, _, _ => exact absurd rfl hj
                | 6, _, _, hF => exact hF
                | 7, _, hw, _ => exact (PG.waits_no (by kernel_rfl) hw).elim
                | _ + 8, _, _, _ => trivial
            · obtain rfl := Option.some.inj (show some _ = some o from ho)
              refine PG.shown_val rfl fun a w4 hr T => ?_
              have h5 : a.eval (.tmp 3) = .pointer (some ⟨W.heap.size + 1, 0, none⟩) := T.was 3 (by kernel_rfl)
              exact ⟨.pointer (some ⟨W.heap.size + 1, 4, none⟩), w4, by simp only [execOp, h5]; simp [go_sem], PG.Post.pure (out_goes P (W.heap.size + 1) w3d.heap.size) rfl⟩
            · obtain rfl := Option.some.inj (show some _ = some o from ho)
              refine PG.shown_skip rfl fun a w4 hr T => ?_
              have h56 : a.eval (.tmp 60) = .pointer (some ⟨W.heap.size + 1, 4, none⟩) := T.at_ 6 60 (by kernel_rfl) (by kernel_rfl)
              obtain ⟨x, hx1, hx2⟩ := T.at_ 5 59 (by kernel_rfl) (by kernel_rfl)
              have hO : w4.heap[W.heap.size + 1]? = some (.cells #[.int .i64 3, .int .i64 0, .string ⟨#[]⟩, .string ⟨#[]⟩, .slice none 0 0] 24) := T.own
              have hz4 : w3d.heap.size ≤ w4.heap.size := hr.size
              obtain ⟨A7, c7, hv7, _, _⟩ := own_rd hx2.own
              rw [hv7] at hx2
              have c4 : w4.cell? ⟨W.heap.size + 1, 4, none⟩ = some (.slice none 0 0) := cell_of_row _ _ 4 _ _ (0, 0) hO
              have f4 : w4.frozen? ⟨W.heap.size + 1, 4, none⟩ = false := pfrz hO
              have hst : Out P (W.heap.size + 1) w3d.heap.size w4 (w4.setCell ⟨W.heap.size + 1, 4, none⟩ (.slice A7 [x].length c7)) := ⟨rfl, rfl, rfl, by simp, fun k h1 h2 h3 => Below.heap_setCell w4 _ _ k (by simpa using h3)⟩
              refine ⟨w4.setCell ⟨W.heap.size + 1, 4, none⟩ (.slice A7 [x].length c7), by simp only [execOp, h56, hv7]; simp [go_sem, c4, f4], hst, ⟨x, .slice A7 [x].length c7, hx1, hx2.set (by omega), heap_setCell_same _ _ 4 _ _ _ hO⟩, fun k hk hG => ?_, fun j v hj hw hF => ?_⟩
              · unfold PGG at *
                split
                · exact pst_wide hG (by omega) _
                · exact absurd rfl hk
                · trivial
              · match j, hj, hw, hF with
                | 0, _, _, hF => exact hF
                | 1, _, _, hF => exact hF
                | 2, _, _, hF => exact hF
                | 3, _, _, hF => obtain ⟨y, h1, h2, h3, h4⟩ := hF; exact ⟨y, h1, h2, h3.set (by omega), pst_wide h4 (by omega) _⟩
                | 4, _, _, hF => obtain ⟨y, p, h1, h2, h3, h4, h5, h6⟩ := hF; exact ⟨y, p, h1, h2, h3.set (by omega), h4.block9 (Below.heap_setCell w4 _ _ p (by simp; omega)), h5, by simpa using h6⟩
                | 5, _, _, hF => obtain ⟨y, h1, h2⟩ := hF; exact ⟨y, h1, h2.set (by omega)⟩
                | 6, _, _, hF => exact hF
                | 7, hj, _, _ => exact absurd rfl hj
                | _ + 8, _, _, _ => trivial
            · cases ho
          · rw [← hw3d]
            intro x w5 hr hf he
            obtain ⟨x5, hx5, hx5t, hx5k, hx5r⟩ := hf 3 _ 57 rfl rfl
            obtain ⟨_, y, V', hyt, hyo, hyx⟩ := he 7 _ rfl rfl
            have hz5 := hr.size
            have GS5 : Hid (PoSt W w5 P s L (Wm.onSt (Wm.pol f) st1).st #[.int .i64 3, .int .i64 0, .string ⟨#[]⟩, .string ⟨#[]⟩, V']) := Lib.hid ⟨(hr.block _ (by omega) (by omega) (by omega)).trans ((hbd.block _ (in_heap GS3.out.z)).trans GS3.out.z), hyx, hx5r, ⟨hr.os.trans (hbd.os.trans GS3.out.gr.os), hr.tape.trans (hbd.tape.trans GS3.out.gr.tape), hr.output.trans (hbd.output.trans GS3.out.gr.output), Nat.le_trans GS3.out.gr.size (Nat.le_trans hbd.size hr.size), fun k hk hne => (hr.block k (by omega) (fun e => hne (by rw [e])) (by omega)).trans ((hbd.block k (by have := GS3.out.gr.size; omega)).trans (GS3.out.gr.block k hk hne))⟩⟩
            have HO5 := Lib.hid hyo
            have HYT := Lib.hid hyt
            have HB5 := Lib.hid hzd
            have HTK2 := Lib.hid (take_z s L P 41 41 rfl _ _ HLL.out HS.out GS5.out.r (by decide) (by decide))
            clear hf he hr hx5 hx5t hx5k hx5r hyo hyx hyt
            simp only [PG.putAll, Act.put, List.setIfInBounds_toArray, List.set_cons_zero, List.set_cons_succ]
            obtain ⟨A7, c7, hV7, hT7⟩ := HO5.out.tree 3 0 ⟨#[]⟩ ⟨#[]⟩ (by omega) (by omega) (Nat.zero_le _) (Nat.zero_le _)
            clear hT7
            replace hV7 : V' = .slice A7 1 c7 := hV7
            subst hV7
            have hP3 : P < w3d.heap.size := by omega
            go_wp2_with (go_at_call 35; (with_reducible refine HTK2.out.mono ?_); rintro e6 w6 ⟨rfl, hr6, hg6⟩; have GS6 := Lib.hid (GS5.out.call hg6 hr6 hP); have HO6 := Lib.hid (HO5.out.kept hg6 hP3); clear hr6 hg6; have HX := Lib.hid GS6.out.x; have HZ := Lib.hid GS6.out.z; have d0 : w6.cell? ⟨(W.heap.size + 1), 0, none⟩ = some (.int .i64 3) := cell_of_row _ _ 0 _ _ (0, 0) HX.out; have d1 : w6.cell? ⟨(W.heap.size + 1), 1, none⟩ = some (.int .i64 0) := cell_of_row _ _ 1 _ _ (0, 0) HX.out; have d2 : w6.cell? ⟨(W.heap.size + 1), 2, none⟩ = some (.string ⟨#[]⟩) := cell_of_row _ _ 2 _ _ (0, 0) HX.out; have d3 : w6.cell? ⟨(W.heap.size + 1), 3, none⟩ = some (.string ⟨#[]⟩) := cell_of_row _ _ 3 _ _ (0, 0) HX.out; have d4 : w6.cell? ⟨(W.heap.size + 1), 4, none⟩ = some (.slice A7 1 c7) := cell_of_row _ _ 4 _ _ (0, 0) HX.out; have df0 : w6.frozen? ⟨(W.heap.size + 1), 0, none⟩ = false := pfrz HX.out; have df1 : w6.frozen? ⟨(W.heap.size + 1), 1, none⟩ = false := pfrz HX.out; have df2 : w6.frozen? ⟨(W.heap.size + 1), 2, none⟩ = false := pfrz HX.out; have df3 : w6.frozen? ⟨(W.heap.size + 1), 3, none⟩ = false := pfrz HX.out; have df4 : w6.frozen? ⟨(W.heap.size + 1), 4, none⟩ = false := pfrz HX.out; have c0 : w6.cell? ⟨W.heap.size, 0, none⟩ = some (.int .i64 0) := cell_of_row _ _ 0 _ _ (0, 0) HZ.out; have c1 : w6.cell? ⟨W.heap.size, 1, none⟩ = some (.int .i64 0) := cell_of_row _ _ 1 _ _ (0, 0) HZ.out; have c2 : w6.cell? ⟨W.heap.size, 2, none⟩ = some (.string ⟨#[]⟩) := cell_of_row _ _ 2 _ _ (0, 0) HZ.out; have c3 : w6.cell? ⟨W.heap.size, 3, none⟩ = some (.string ⟨#[]⟩) := cell_of_row _ _ 3 _ _ (0, 0) HZ.out; have c4 : w6.cell? ⟨W.heap.size, 4, none⟩ = some (.slice none 0 0) := cell_of_row _ _ 4 _ _ (0, 0) HZ.out; have cf0 : w6.frozen? ⟨W.heap.size, 0, none⟩ = false := pfrz HZ.out; have cf1 : w6.frozen? ⟨W.heap.size, 1, none⟩ = false := pfrz HZ.out; have cf2 : w6.frozen? ⟨W.heap.size, 2, none⟩ = false := pfrz HZ.out; have cf3 : w6.frozen? ⟨W.heap.size, 3, none⟩ = false := pfrz HZ.out; have cf4 : w6.frozen? ⟨W.heap.size, 4, none⟩ = false := pfrz HZ.out; have done6 := trivial)
            have HFIN := fin5p GS6.out.r GS6.out.gr hP GS6.out.z (.int .i64 3) (.int .i64 0) (.string ⟨#[]⟩) (.string ⟨#[]⟩) (.slice A7 1 c7)
            have hrw := HFIN.2.2.2.2
            have q0 : (((((w6.setCell ⟨W.heap.size, 0, none⟩ (.int .i64 3)).setCell ⟨W.heap.size, 1, none⟩ (.int .i64 0)).setCell ⟨W.heap.size, 2, none⟩ (.string ⟨#[]⟩)).setCell ⟨W.heap.size, 3, none⟩ (.string ⟨#[]⟩)).setCell ⟨W.heap.size, 4, none⟩ (.slice A7 1 c7)).cell? ⟨W.heap.size, 0, none⟩ = some (.int .i64 3) := cell_of_row _ _ 0 _ _ (0, 0) hrw
            have q1 : (((((w6.setCell ⟨W.heap.size, 0, none⟩ (.int .i64 3)).setCell ⟨W.heap.size, 1, none⟩ (.int .i64 0)).setCell ⟨W.heap.size, 2, none⟩ (.string ⟨#[]⟩)).setCell ⟨W.heap.size, 3, none⟩ (.string ⟨#[]⟩)).setCell ⟨W.heap.size, 4, none⟩ (.slice A7 1 c7)).cell? ⟨W.heap.size, 1, none⟩ = some (.int .i64 0) := cell_of_row _ _ 1 _ _ (0, 0) hrw
            have q2 : (((((w6.setCell ⟨W.heap.size, 0, none⟩ (.int .i64 3)).setCell ⟨W.heap.size, 1, none⟩ (.int .i64 0)).setCell ⟨W.heap.size, 2, none⟩ (.string ⟨#[]⟩)).setCell ⟨W.heap.size, 3, none⟩ (.string ⟨#[]⟩)).setCell ⟨W.heap.size, 4, none⟩ (.slice A7 1 c7)).cell? ⟨W.heap.size, 2, none⟩ = some (.string ⟨#[]⟩) := cell_of_row _ _ 2 _ _ (0, 0) hrw
            have q3 : (((((w6.setCell ⟨W.heap.size, 0, none⟩ (.int .i64 3)).setCell ⟨W.heap.size, 1, none⟩ (.int .i64 0)).setCell ⟨W.heap.size, 2, none⟩ (.string ⟨#[]⟩)).setCell ⟨W.heap.size, 3, none⟩ (.string ⟨#[]⟩)).setCell ⟨W.heap.size, 4, none⟩ (.slice A7 1 c7)).cell? ⟨W.heap.size, 3, none⟩ = some (.string ⟨#[]⟩) := cell_of_row _ _ 3 _ _ (0, 0) hrw
            have q4 : (((((w6.setCell ⟨W.heap.size, 0, none⟩ (.int .i64 3)).setCell ⟨W.heap.size, 1, none⟩ (.int .i64 0)).setCell ⟨W.heap.size, 2, none⟩ (.string ⟨#[]⟩)).setCell ⟨W.heap.size, 3, none⟩ (.string ⟨#[]⟩)).setCell ⟨W.heap.size, 4, none⟩ (.slice A7 1 c7)).cell? ⟨W.heap.size, 4, none⟩ = some (.slice A7 1 c7) := cell_of_row _ _ 4 _ _ (0, 0) hrw
            refine bodyPost_ret (v := .agg #[.int .i64 3, .int .i64 0, .string ⟨#[]⟩, .string ⟨#[]⟩, .slice A7 1 c7]) (by simp [results, Tryd.results18, go_sem, q0, q1, q2, q3, q4]) rfl ?_
            obtain ⟨A8, c8, hV8, hT8⟩ := HO6.out.tree 3 0 ⟨#[]⟩ ⟨#[]⟩ (by omega) (by omega) (Nat.zero_le _) (Nat.zero_le _)
            injection hV8 with e1 e2 e3
            subst e1 e3
            have hb5 := HB5.out
            have HPK := polK3_out (f := f) (p := Wm.pol f) (l := (Wm.tok l).rest) (by rw [HST1.out]) y.t HYT.out
            rw [HRES.out]
            exact ⟨_, rcs 3 0 ⟨#[]⟩ ⟨#[]⟩ A7 1 c7, rfl, (hT8.heap fun q hq => HFIN.2.2.1 q (by omega)).imp (fun q hq => ⟨by omega, by rw [HFIN.2.2.2.1]; exact hq.2⟩), by rw [HPK.1]; exact HFIN.1, HPK.2, HFIN.2.1⟩
        · have HRES : Hid (Wm.onSt (Wm.pol (f + 1)) (.at_ l) = Wm.polK (Wm.pol f) 1 f (Wm.tok l).rest) := Lib.hid (by show Wm.pol (f + 1) l = _; rw [Wm.pol, if_neg (by rw [HKY.out]; decide), if_neg (by rw [HKY.out]; decide), if_neg (by rw [HKY.out]; decide), if_pos (by rw [HKY.out]; decide), HKY.out])
          have HLR : Hid ((Wm.tok l).rest.length ≤ f) := Lib.hid (by have := Wm.tok_short l (by have := HW.out; omega) (by have := HW.out; omega); have := HLF.out; omega)
          rw [show ((1 : Nat) : Int) = 1 from rfl] at HRO HGS HKO
          go_enter Tryd.func18, Tryd.ntmps18
          go_wp2_with (first
            | (have hd := done2; clear done2; go_at_call 36; (with_reducible refine HKI.out.mono ?_); rintro e3 w3 ⟨V3, Lk3, rfl, ho3, hr3, ht3, hg3⟩; have HT3 := Lib.hid ht3; have HO3 := Lib.hid ho3; have GS3 := Lib.hid (GS2.out.call hg3 hr3 hP); clear hr3 hg3 ht3 d0 d1 d2 d3 d4 df0 df1 df2 df3 df4 c0 c1 c2 c3 c4 cf0 cf1 cf2 cf3 cf4; obtain ⟨A7, c7, hV7, _, _⟩ := own_rd ho3.own; subst hV7; clear ho3; have GS4 := Lib.hid (GS3.out.set hP 4 (.slice A7 Lk3.length c7)); have HX3 := Lib.hid GS3.out.x; have HX4 : Hid ((w3.setCell ⟨(W.heap.size + 1), 4, none⟩ (.slice A7 Lk3.length c7)).heap[W.heap.size + 1]? = some (.cells #[.int .i64 1, .int .i64 0, .string ⟨#[]⟩, .string ⟨#[]⟩, .slice A7 Lk3.length c7] 24)) := Lib.hid GS4.out.x; have HZ4 := Lib.hid GS4.out.z; have d0 : w3.cell? ⟨(W.heap.size + 1), 0, none⟩ = some (.int .i64 1) := cell_of_row _ _ 0 _ _ (0, 0) HX3.out; have d1 : w3.cell? ⟨(W.heap.size + 1), 1, none⟩ = some (.int .i64 0) := cell_of_row _ _ 1 _ _ (0, 0) HX3.out; have d2 : w3.cell? ⟨(W.heap.size + 1), 2, none⟩ = some (.string ⟨#[]⟩) := cell_of_row _ _ 2 _ _ (0, 0) HX3.out; have d3 : w3.cell? ⟨(W.heap.size + 1), 3, none⟩ = some (.string ⟨#[]⟩) := cell_of_row _ _ 3 _ _ (0, 0) HX3.out; have d4 : w3.cell? ⟨(W.heap.size + 1), 4, none⟩ = some (.slice none 0 0) := cell_of_row _ _ 4 _ _ (0, 0) HX3.out; have df0 : w3.frozen? ⟨(W.heap.size + 1), 0, none⟩ = false := pfrz HX3.out; have df1 : w3.frozen? ⟨(W.heap.size + 1), 1, none⟩ = false := pfrz HX3.out; have df2 : w3.frozen? ⟨(W.heap.size + 1), 2, none⟩ = false := pfrz HX3.out; have df3 : w3.frozen? ⟨(W.heap.size + 1), 3, none⟩ = false := pfrz HX3.out; have df4 : w3.frozen? ⟨(W.heap.size + 1), 4, none⟩ = false := pfrz HX3.out; have x0 : (w3.setCell ⟨(W.heap.size + 1), 4, none⟩ (.slice A7 Lk3.length c7)).cell? ⟨(W.heap.size + 1), 0, none⟩ = some (.int .i64 1) := cell_of_row _ _ 0 _ _ (0, 0) HX4.out; have x1 : (w3.setCell ⟨(W.heap.size + 1), 4, none⟩ (.slice A7 Lk3.length c7)).cell? ⟨(W.heap.size + 1), 1, none⟩ = some (.int .i64 0) := cell_of_row _ _ 1 _ _ (0, 0) HX4.out; have x2 : (w3.setCell ⟨(W.heap.size + 1), 4, none⟩ (.slice A7 Lk3.length c7)).cell? ⟨(W.heap.size + 1), 2, none⟩ = some (.string ⟨#[]⟩) := cell_of_row _ _ 2 _ _ (0, 0) HX4.out; have x3 : (w3.setCell ⟨(W.heap.size + 1), 4, none⟩ (.slice A7 Lk3.length c7)).cell? ⟨(W.heap.size + 1), 3, none⟩ = some (.string ⟨#[]⟩) := cell_of_row _ _ 3 _ _ (0, 0) HX4.out; have x4 : (w3.setCell ⟨(W.heap.size + 1), 4, none⟩ (.slice A7 Lk3.length c7)).cell? ⟨(W.heap.size + 1), 4, none⟩ = some (.slice A7 Lk3.length c7) := cell_of_row _ _ 4 _ _ (0, 0) HX4.out; have xf0 : (w3.setCell ⟨(W.heap.size + 1), 4, none⟩ (.slice A7 Lk3.length c7)).frozen? ⟨(W.heap.size + 1), 0, none⟩ = false := pfrz HX4.out; have xf1 : (w3.setCell ⟨(W.heap.size + 1), 4, none⟩ (.slice A7 Lk3.length c7)).frozen? ⟨(W.heap.size + 1), 1, none⟩ = false := pfrz HX4.out; have xf2 : (w3.setCell ⟨(W.heap.size + 1), 4, none⟩ (.slice A7 Lk3.length c7)).frozen? ⟨(W.heap.size + 1), 2, none⟩ = false := pfrz HX4.out; have xf3 : (w3.setCell ⟨(W.heap.size + 1), 4, none⟩ (.slice A7 Lk3.length c7)).frozen? ⟨(W.heap.size + 1), 3, none⟩ = false := pfrz HX4.out; have xf4 : (w3.setCell ⟨(W.heap.size + 1), 4, none⟩ (.slice A7 Lk3.length c7)).frozen? ⟨(W.heap.size + 1), 4, none⟩ = false := pfrz HX4.out; have c0 : (w3.setCell ⟨(W.heap.size + 1), 4, none⟩ (.slice A7 Lk3.length c7)).cell? ⟨W.heap.size, 0, none⟩ = some (.int .i64 0) := cell_of_row _ _ 0 _ _ (0, 0) HZ4.out; have c1 : (w3.setCell ⟨(W.heap.size + 1), 4, none⟩ (.slice A7 Lk3.length c7)).cell? ⟨W.heap.size, 1, none⟩ = some (.int .i64 0) := cell_of_row _ _ 1 _ _ (0, 0) HZ4.out; have c2 : (w3.setCell ⟨(W.heap.size + 1), 4, none⟩ (.slice A7 Lk3.length c7)).cell? ⟨W.heap.size, 2, none⟩ = some (.string ⟨#[]⟩) := cell_of_row _ _ 2 _ _ (0, 0) HZ4.out; have c3 : (w3.setCell ⟨(W.heap.size + 1), 4, none⟩ (.slice A7 Lk3.length c7)).cell? ⟨W.heap.size, 3, none⟩ = some (.string ⟨#[]⟩) := cell_of_row _ _ 3 _ _ (0, 0) HZ4.out; have c4 : (w3.setCell ⟨(W.heap.size + 1), 4, none⟩ (.slice A7 Lk3.length c7)).cell? ⟨W.heap.size, 4, none⟩ = some (.slice none 0 0) := cell_of_row _ _ 4 _ _ (0, 0) HZ4.out; have cf0 : (w3.setCell ⟨(W.heap.size + 1), 4, none⟩ (.slice A7 Lk3.length c7)).frozen? ⟨W.heap.size, 0, none⟩ = false := pfrz HZ4.out; have cf1 : (w3.setCell ⟨(W.heap.size + 1), 4, none⟩ (.slice A7 Lk3.length c7)).frozen? ⟨W.heap.size, 1, none⟩ = false := pfrz HZ4.out; have cf2 : (w3.setCell ⟨(W.heap.size + 1), 4, none⟩ (.slice A7 Lk3.length c7)).frozen? ⟨W.heap.size, 2, none⟩ = false := pfrz HZ4.out; have cf3 : (w3.setCell ⟨(W.heap.size + 1), 4, none⟩ (.slice A7 Lk3.length c7)).frozen? ⟨W.heap.size, 3, none⟩ = false := pfrz HZ4.out; have cf4 : (w3.setCell ⟨(W.heap.size + 1), 4, none⟩ (.slice A7 Lk3.length c7)).frozen? ⟨W.heap.size, 4, none⟩ = false := pfrz HZ4.out;  have done3 := trivial)
            | (go_at_call 33; (with_reducible refine (HKO.out _).mono ?_); rintro e1 w1 ⟨rfl, hw1⟩; subst hw1)
            | (go_at_call 17; (with_reducible refine HRO.out.mono ?_); rintro e2 w2 ⟨rfl, hr2, hg2⟩; have GS2 := Lib.hid (HGS.out.call hg2 hr2 hP); clear hr2 hg2 c3 c4 c6 f6; have HX := Lib.hid GS2.out.x; have HZ := Lib.hid GS2.out.z; have d0 : w2.cell? ⟨(W.heap.size + 1), 0, none⟩ = some (.int .i64 1) := cell_of_row _ _ 0 _ _ (0, 0) HX.out; have d1 : w2.cell? ⟨(W.heap.size + 1), 1, none⟩ = some (.int .i64 0) := cell_of_row _ _ 1 _ _ (0, 0) HX.out; have d2 : w2.cell? ⟨(W.heap.size + 1), 2, none⟩ = some (.string ⟨#[]⟩) := cell_of_row _ _ 2 _ _ (0, 0) HX.out; have d3 : w2.cell? ⟨(W.heap.size + 1), 3, none⟩ = some (.string ⟨#[]⟩) := cell_of_row _ _ 3 _ _ (0, 0) HX.out; have d4 : w2.cell? ⟨(W.heap.size + 1), 4, none⟩ = some (.slice none 0 0) := cell_of_row _ _ 4 _ _ (0, 0) HX.out; have df0 : w2.frozen? ⟨(W.heap.size + 1), 0, none⟩ = false := pfrz HX.out; have df1 : w2.frozen? ⟨(W.heap.size + 1), 1, none⟩ = false := pfrz HX.out; have df2 : w2.frozen? ⟨(W.heap.size + 1), 2, none⟩ = false := pfrz HX.out; have df3 : w2.frozen? ⟨(W.heap.size + 1), 3, none⟩ = false := pfrz HX.out; have df4 : w2.frozen? ⟨(W.heap.size + 1), 4, none⟩ = false := pfrz HX.out; have c0 : w2.cell? ⟨W.heap.size, 0, none⟩ = some (.int .i64 0) := cell_of_row _ _ 0 _ _ (0, 0) HZ.out; have c1 : w2.cell? ⟨W.heap.size, 1, none⟩ = some (.int .i64 0) := cell_of_row _ _ 1 _ _ (0, 0) HZ.out; have c2 : w2.cell? ⟨W.heap.size, 2, none⟩ = some (.string ⟨#[]⟩) := cell_of_row _ _ 2 _ _ (0, 0) HZ.out; have c3 : w2.cell? ⟨W.heap.size, 3, none⟩ = some (.string ⟨#[]⟩) := cell_of_row _ _ 3 _ _ (0, 0) HZ.out; have c4 : w2.cell? ⟨W.heap.size, 4, none⟩ = some (.slice none 0 0) := cell_of_row _ _ 4 _ _ (0, 0) HZ.out; have cf0 : w2.frozen? ⟨W.heap.size, 0, none⟩ = false := pfrz HZ.out; have cf1 : w2.frozen? ⟨W.heap.size, 1, none⟩ = false := pfrz HZ.out; have cf2 : w2.frozen? ⟨W.heap.size, 2, none⟩ = false := pfrz HZ.out; have cf3 : w2.frozen? ⟨W.heap.size, 3, none⟩ = false := pfrz HZ.out; have cf4 : w2.frozen? ⟨W.heap.size, 4, none⟩ = false := pfrz HZ.out;  have hz2 := GS2.out.gr.size; have hxl := in_heap GS2.out.x; have HXL := Lib.hid hxl; have HKI := Lib.hid (kids_any f P s L HLL.out HS.out IH.out (by omega) _ _ GS2.out.r (fun l0 e => by injection e with e; rw [← e]; exact HLR.out)); clear hz2 hxl; have done2 := trivial))
          have HFIN := fin5p GS4.out.r GS4.out.gr hP GS4.out.z (.int .i64 1) (.int .i64 0) (.string ⟨#[]⟩) (.string ⟨#[]⟩) (.slice A7 Lk3.length c7)
          have hrw := HFIN.2.2.2.2
          have q0 : ((((((w3.setCell ⟨(W.heap.size + 1), 4, none⟩ (.slice A7 Lk3.length c7)).setCell ⟨W.heap.size, 0, none⟩ (.int .i64 1)).setCell ⟨W.heap.size, 1, none⟩ (.int .i64 0)).setCell ⟨W.heap.size, 2, none⟩ (.string ⟨#[]⟩)).setCell ⟨W.heap.size, 3, none⟩ (.string ⟨#[]⟩)).setCell ⟨W.heap.size, 4, none⟩ (.slice A7 Lk3.length c7)).cell? ⟨W.heap.size, 0, none⟩ = some (.int .i64 1) := cell_of_row _ _ 0 _ _ (0, 0) hrw
          have q1 : ((((((w3.setCell ⟨(W.heap.size + 1), 4, none⟩ (.slice A7 Lk3.length c7)).setCell ⟨W.heap.size, 0, none⟩ (.int .i64 1)).setCell ⟨W.heap.size, 1, none⟩ (.int .i64 0)).setCell ⟨W.heap.size, 2, none⟩ (.string ⟨#[]⟩)).setCell ⟨W.heap.size, 3, none⟩ (.string ⟨#[]⟩)).setCell ⟨W.heap.size, 4, none⟩ (.slice A7 Lk3.length c7)).cell? ⟨W.heap.size, 1, none⟩ = some (.int .i64 0) := cell_of_row _ _ 1 _ _ (0, 0) hrw
          have q2 : ((((((w3.setCell ⟨(W.heap.size + 1), 4, none⟩ (.slice A7 Lk3.length c7)).setCell ⟨W.heap.size, 0, none⟩ (.int .i64 1)).setCell ⟨W.heap.size, 1, none⟩ (.int .i64 0)).setCell ⟨W.heap.size, 2, none⟩ (.string ⟨#[]⟩)).setCell ⟨W.heap.size, 3, none⟩ (.string ⟨#[]⟩)).setCell ⟨W.heap.size, 4, none⟩ (.slice A7 Lk3.length c7)).cell? ⟨W.heap.size, 2, none⟩ = some (.string ⟨#[]⟩) := cell_of_row _ _ 2 _ _ (0, 0) hrw
          have q3 : ((((((w3.setCell ⟨(W.heap.size + 1), 4, none⟩ (.slice A7 Lk3.length c7)).setCell ⟨W.heap.size, 0, none⟩ (.int .i64 1)).setCell ⟨W.heap.size, 1, none⟩ (.int .i64 0)).setCell ⟨W.heap.size, 2, none⟩ (.string ⟨#[]⟩)).setCell ⟨W.heap.size, 3, none⟩ (.string ⟨#[]⟩)).setCell ⟨W.heap.size, 4, none⟩ (.slice A7 Lk3.length c7)).cell? ⟨W.heap.size, 3, none⟩ = some (.string ⟨#[]⟩) := cell_of_row _ _ 3 _ _ (0, 0) hrw
          have q4 : ((((((w3.setCell ⟨(W.heap.size + 1), 4, none⟩ (.slice A7 Lk3.length c7)).setCell ⟨W.heap.size, 0, none⟩ (.int .i64 1)).setCell ⟨W.heap.size, 1, none⟩ (.int .i64 0)).setCell ⟨W.heap.size, 2, none⟩ (.string ⟨#[]⟩)).setCell ⟨W.heap.size, 3, none⟩ (.string ⟨#[]⟩)).setCell ⟨W.heap.size, 4, none⟩ (.slice A7 Lk3.length c7)).cell? ⟨W.heap.size, 4, none⟩ = some (.slice A7 Lk3.length c7) := cell_of_row _ _ 4 _ _ (0, 0) hrw
          refine bodyPost_ret (v := .agg #[.int .i64 1, .int .i64 0, .string ⟨#[]⟩, .string ⟨#[]⟩, .slice A7 Lk3.length c7]) (by simp [results, Tryd.results18, go_sem, q0, q1, q2, q3, q4]) rfl ?_
          obtain ⟨A8, c8, hV8, hT8⟩ := HO3.out.tree 1 0 ⟨#[]⟩ ⟨#[]⟩ (by omega) (by omega) (Nat.zero_le _) (Nat.zero_le _)
          injection hV8 with e1 e2 e3
          subst e1 e3
          have hxl := HXL.out
          have HPK := polK12_out (p := Wm.pol f) (f := f) (l := (Wm.tok l).rest) 1 (by decide) (Lk3.map Kr.t) HT3.out
          rw [HRES.out]
          exact ⟨_, rcs 1 0 ⟨#[]⟩ ⟨#[]⟩ A7 Lk3.length c7, rfl, (hT8.heap fun q hq => (HFIN.2.2.1 q (by omega)).trans (Below.heap_setCell w3 _ _ q (by simp; omega))).imp (fun q hq => ⟨by omega, by rw [HFIN.2.2.2.1]; simpa using hq.2⟩), by rw [HPK.1]; exact HFIN.1, HPK.2, HFIN.2.1⟩
        · have HRES : Hid (Wm.onSt (Wm.pol (f + 1)) (.at_ l) = Wm.polK (Wm.pol f) 2 f (Wm.tok l).rest) := Lib.hid (by show Wm.pol (f + 1) l = _; rw [Wm.pol, if_neg (by rw [HKY.out]; decide), if_neg (by rw [HKY.out]; decide), if_neg (by rw [HKY.out]; decide), if_pos (by rw [HKY.out]; decide), HKY.out])
          have HLR : Hid ((Wm.tok l).rest.length ≤ f) := Lib.hid (by have := Wm.tok_short l (by have := HW.out; omega) (by have := HW.out; omega); have := HLF.out; omega)
          rw [show ((2 : Nat) : Int) = 2 from rfl] at HRO HGS HKO
          go_enter Tryd.func18, Tryd.ntmps18
          go_wp2_with (first
            | (have hd := done2; clear done2; go_at_call 36; (with_reducible refine HKI.out.mono ?_); rintro e3 w3 ⟨V3, Lk3, rfl, ho3, hr3, ht3, hg3⟩; have HT3 := Lib.hid ht3; have HO3 := Lib.hid ho3; have GS3 := Lib.hid (GS2.out.call hg3 hr3 hP); clear hr3 hg3 ht3 d0 d1 d2 d3 d4 df0 df1 df2 df3 df4 c0 c1 c2 c3 c4 cf0 cf1 cf2 cf3 cf4; obtain ⟨A7, c7, hV7, _, _⟩ := own_rd ho3.own; subst hV7; clear ho3; have GS4 := Lib.hid (GS3.out.set hP 4 (.slice A7 Lk3.length c7)); have HX3 := Lib.hid GS3.out.x; have HX4 : Hid ((w3.setCell ⟨(W.heap.size + 1), 4, none⟩ (.slice A7 Lk3.length c7)).heap[W.heap.size + 1]? = some (.cells #[.int .i64 2, .int .i64 0, .string ⟨#[]⟩, .string ⟨#[]⟩, .slice A7 Lk3.length c7] 24)) := Lib.hid GS4.out.x; have HZ4 := Lib.hid GS4.out.z; have d0 : w3.cell? ⟨(W.heap.size + 1), 0, none⟩ = some (.int .i64 2) := cell_of_row _ _ 0 _ _ (0, 0) HX3.out; have d1 : w3.cell? ⟨(W.heap.size + 1), 1, none⟩ = some (.int .i64 0) := cell_of_row _ _ 1 _ _ (0, 0) HX3.out; have d2 : w3.cell? ⟨(W.heap.size + 1), 2, none⟩ = some (.string ⟨#[]⟩) := cell_of_row _ _ 2 _ _ (0, 0) HX3.out; have d3 : w3.cell? ⟨(W.heap.size + 1), 3, none⟩ = some (.string ⟨#[]⟩) := cell_of_row _ _ 3 _ _ (0, 0) HX3.out; have d4 : w3.cell? ⟨(W.heap.size + 1), 4, none⟩ = some (.slice none 0 0) := cell_of_row _ _ 4 _ _ (0, 0) HX3.out; have df0 : w3.frozen? ⟨(W.heap.size + 1), 0, none⟩ = false := pfrz HX3.out; have df1 : w3.frozen? ⟨(W.heap.size + 1), 1, none⟩ = false := pfrz HX3.out; have df2 : w3.frozen? ⟨(W.heap.size + 1), 2, none⟩ = false := pfrz HX3.out; have df3 : w3.frozen? ⟨(W.heap.size + 1), 3, none⟩ = false := pfrz HX3.out; have df4 : w3.frozen? ⟨(W.heap.size + 1), 4, none⟩ = false := pfrz HX3.out; have x0 : (w3.setCell ⟨(W.heap.size + 1), 4, none⟩ (.slice A7 Lk3.length c7)).cell? ⟨(W.heap.size + 1), 0, none⟩ = some (.int .i64 2) := cell_of_row _ _ 0 _ _ (0, 0) HX4.out; have x1 : (w3.setCell ⟨(W.heap.size + 1), 4, none⟩ (.slice A7 Lk3.length c7)).cell? ⟨(W.heap.size + 1), 1, none⟩ = some (.int .i64 0) := cell_of_row _ _ 1 _ _ (0, 0) HX4.out; have x2 : (w3.setCell ⟨(W.heap.size + 1), 4, none⟩ (.slice A7 Lk3.length c7)).cell? ⟨(W.heap.size + 1), 2, none⟩ = some (.string ⟨#[]⟩) := cell_of_row _ _ 2 _ _ (0, 0) HX4.out; have x3 : (w3.setCell ⟨(W.heap.size + 1), 4, none⟩ (.slice A7 Lk3.length c7)).cell? ⟨(W.heap.size + 1), 3, none⟩ = some (.string ⟨#[]⟩) := cell_of_row _ _ 3 _ _ (0, 0) HX4.out; have x4 : (w3.setCell ⟨(W.heap.size + 1), 4, none⟩ (.slice A7 Lk3.length c7)).cell? ⟨(W.heap.size + 1), 4, none⟩ = some (.slice A7 Lk3.length c7) := cell_of_row _ _ 4 _ _ (0, 0) HX4.out; have xf0 : (w3.setCell ⟨(W.heap.size + 1), 4, none⟩ (.slice A7 Lk3.length c7)).frozen? ⟨(W.heap.size + 1), 0, none⟩ = false := pfrz HX4.out; have xf1 : (w3.setCell ⟨(W.heap.size + 1), 4, none⟩ (.slice A7 Lk3.length c7)).frozen? ⟨(W.heap.size + 1), 1, none⟩ = false := pfrz HX4.out; have xf2 : (w3.setCell ⟨(W.heap.size + 1), 4, none⟩ (.slice A7 Lk3.length c7)).frozen? ⟨(W.heap.size + 1), 2, none⟩ = false := pfrz HX4.out; have xf3 : (w3.setCell ⟨(W.heap.size + 1), 4, none⟩ (.slice A7 Lk3.length c7)).frozen? ⟨(W.heap.size + 1), 3, none⟩ = false := pfrz HX4.out; have xf4 : (w3.setCell ⟨(W.heap.size + 1), 4, none⟩ (.slice A7 Lk3.length c7)).frozen? ⟨(W.heap.size + 1), 4, none⟩ = false := pfrz HX4.out; have c0 : (w3.setCell ⟨(W.heap.size + 1), 4, none⟩ (.slice A7 Lk3.length c7)).cell? ⟨W.heap.size, 0, none⟩ = some (.int .i64 0) := cell_of_row _ _ 0 _ _ (0, 0) HZ4.out; have c1 : (w3.setCell ⟨(W.heap.size + 1), 4, none⟩ (.slice A7 Lk3.length c7)).cell? ⟨W.heap.size, 1, none⟩ = some (.int .i64 0) := cell_of_row _ _ 1 _ _ (0, 0) HZ4.out; have c2 : (w3.setCell ⟨(W.heap.size + 1), 4, none⟩ (.slice A7 Lk3.length c7)).cell? ⟨W.heap.size, 2, none⟩ = some (.string ⟨#[]⟩) := cell_of_row _ _ 2 _ _ (0, 0) HZ4.out; have c3 : (w3.setCell ⟨(W.heap.size + 1), 4, none⟩ (.slice A7 Lk3.length c7)).cell? ⟨W.heap.size, 3, none⟩ = some (.string ⟨#[]⟩) := cell_of_row _ _ 3 _ _ (0, 0) HZ4.out; have c4 : (w3.setCell ⟨(W.heap.size + 1), 4, none⟩ (.slice A7 Lk3.length c7)).cell? ⟨W.heap.size, 4, none⟩ = some (.slice none 0 0) := cell_of_row _ _ 4 _ _ (0, 0) HZ4.out; have cf0 : (w3.setCell ⟨(W.heap.size + 1), 4, none⟩ (.slice A7 Lk3.length c7)).frozen? ⟨W.heap.size, 0, none⟩ = false := pfrz HZ4.out; have cf1 : (w3.setCell ⟨(W.heap.size + 1), 4, none⟩ (.slice A7 Lk3.length c7)).frozen? ⟨W.heap.size, 1, none⟩ = false := pfrz HZ4.out; have cf2 : (w3.setCell ⟨(W.heap.size + 1), 4, none⟩ (.slice A7 Lk3.length c7)).frozen? ⟨W.heap.size, 2, none⟩ = false := pfrz HZ4.out; have cf3 : (w3.setCell ⟨(W.heap.size + 1), 4, none⟩ (.slice A7 Lk3.length c7)).frozen? ⟨W.heap.size, 3, none⟩ = false := pfrz HZ4.out; have cf4 : (w3.setCell ⟨(W.heap.size + 1), 4, none⟩ (.slice A7 Lk3.length c7)).frozen? ⟨W.heap.size, 4, none⟩ = false := pfrz HZ4.out;  have done3 := trivial)
            | (go_at_call 33; (with_reducible refine (HKO.out _).mono ?_); rintro e1 w1 ⟨rfl, hw1⟩; subst hw1)
            | (go_at_call 17; (with_reducible refine HRO.out.mono ?_); rintro e2 w2 ⟨rfl, hr2, hg2⟩; have GS2 := Lib.hid (HGS.out.call hg2 hr2 hP); clear hr2 hg2 c3 c4 c6 f6; have HX := Lib.hid GS2.out.x; have HZ := Lib.hid GS2.out.z; have d0 : w2.cell? ⟨(W.heap.size + 1), 0, none⟩ = some (.int .i64 2) := cell_of_row _ _ 0 _ _ (0, 0) HX.out; have d1 : w2.cell? ⟨(W.heap.size + 1), 1, none⟩ = some (.int .i64 0) := cell_of_row _ _ 1 _ _ (0, 0) HX.out; have d2 : w2.cell? ⟨(W.heap.size + 1), 2, none⟩ = some (.string ⟨#[]⟩) := cell_of_row _ _ 2 _ _ (0, 0) HX.out; have d3 : w2.cell? ⟨(W.heap.size + 1), 3, none⟩ = some (.string ⟨#[]⟩) := cell_of_row _ _ 3 _ _ (0, 0) HX.out; have d4 : w2.cell? ⟨(W.heap.size + 1), 4, none⟩ = some (.slice none 0 0) := cell_of_row _ _ 4 _ _ (0, 0) HX.out; have df0 : w2.frozen? ⟨(W.heap.size + 1), 0, none⟩ = false := pfrz HX.out; have df1 : w2.frozen? ⟨(W.heap.size + 1), 1, none⟩ = false := pfrz HX.out; have df2 : w2.frozen? ⟨(W.heap.size + 1), 2, none⟩ = false := pfrz HX.out; have df3 : w2.frozen? ⟨(W.heap.size + 1), 3, none⟩ = false := pfrz HX.out; have df4 : w2.frozen? ⟨(W.heap.size + 1), 4, none⟩ = false := pfrz HX.out; have c0 : w2.cell? ⟨W.heap.size, 0, none⟩ = some (.int .i64 0) := cell_of_row _ _ 0 _ _ (0, 0) HZ.out; have c1 : w2.cell? ⟨W.heap.size, 1, none⟩ = some (.int .i64 0) := cell_of_row _ _ 1 _ _ (0, 0) HZ.out; have c2 : w2.cell? ⟨W.heap.size, 2, none⟩ = some (.string ⟨#[]⟩) := cell_of_row _ _ 2 _ _ (0, 0) HZ.out; have c3 : w2.cell? ⟨W.heap.size, 3, none⟩ = some (.string ⟨#[]⟩) := cell_of_row _ _ 3 _ _ (0, 0) HZ.out; have c4 : w2.cell? ⟨W.heap.size, 4, none⟩ = some (.slice none 0 0) := cell_of_row _ _ 4 _ _ (0, 0) HZ.out; have cf0 : w2.frozen? ⟨W.heap.size, 0, none⟩ = false := pfrz HZ.out; have cf1 : w2.frozen? ⟨W.heap.size, 1, none⟩ = false := pfrz HZ.out; have cf2 : w2.frozen? ⟨W.heap.size, 2, none⟩ = false := pfrz HZ.out; have cf3 : w2.frozen? ⟨W.heap.size, 3, none⟩ = false := pfrz HZ.out; have cf4 : w2.frozen? ⟨W.heap.size, 4, none⟩ = false := pfrz HZ.out;  have hz2 := GS2.out.gr.size; have hxl := in_heap GS2.out.x; have HXL := Lib.hid hxl; have HKI := Lib.hid (kids_any f P s L HLL.out HS.out IH.out (by omega) _ _ GS2.out.r (fun l0 e => by injection e with e; rw [← e]; exact HLR.out)); clear hz2 hxl; have done2 := trivial))
          have HFIN := fin5p GS4.out.r GS4.out.gr hP GS4.out.z (.int .i64 2) (.int .i64 0) (.string ⟨#[]⟩) (.string ⟨#[]⟩) (.slice A7 Lk3.length c7)
          have hrw := HFIN.2.2.2.2
          have q0 : ((((((w3.setCell ⟨(W.heap.size + 1), 4, none⟩ (.slice A7 Lk3.length c7)).setCell ⟨W.heap.size, 0, none⟩ (.int .i64 2)).setCell ⟨W.heap.size, 1, none⟩ (.int .i64 0)).setCell ⟨W.heap.size, 2, none⟩ (.string ⟨#[]⟩)).setCell ⟨W.heap.size, 3, none⟩ (.string ⟨#[]⟩)).setCell ⟨W.heap.size, 4, none⟩ (.slice A7 Lk3.length c7)).cell? ⟨W.heap.size, 0, none⟩ = some (.int .i64 2) := cell_of_row _ _ 0 _ _ (0, 0) hrw
          have q1 : ((((((w3.setCell ⟨(W.heap.size + 1), 4, none⟩ (.slice A7 Lk3.length c7)).setCell ⟨W.heap.size, 0, none⟩ (.int .i64 2)).setCell ⟨W.heap.size, 1, none⟩ (.int .i64 0)).setCell ⟨W.heap.size, 2, none⟩ (.string ⟨#[]⟩)).setCell ⟨W.heap.size, 3, none⟩ (.string ⟨#[]⟩)).setCell ⟨W.heap.size, 4, none⟩ (.slice A7 Lk3.length c7)).cell? ⟨W.heap.size, 1, none⟩ = some (.int .i64 0) := cell_of_row _ _ 1 _ _ (0, 0) hrw
          have q2 : ((((((w3.setCell ⟨(W.heap.size + 1), 4, none⟩ (.slice A7 Lk3.length c7)).setCell ⟨W.heap.size, 0, none⟩ (.int .i64 2)).setCell ⟨W.heap.size, 1, none⟩ (.int .i64 0)).setCell ⟨W.heap.size, 2, none⟩ (.string ⟨#[]⟩)).setCell ⟨W.heap.size, 3, none⟩ (.string ⟨#[]⟩)).setCell ⟨W.heap.size, 4, none⟩ (.slice A7 Lk3.length c7)).cell? ⟨W.heap.size, 2, none⟩ = some (.string ⟨#[]⟩) := cell_of_row _ _ 2 _ _ (0, 0) hrw
          have q3 : ((((((w3.setCell ⟨(W.heap.size + 1), 4, none⟩ (.slice A7 Lk3.length c7)).setCell ⟨W.heap.size, 0, none⟩ (.int .i64 2)).setCell ⟨W.heap.size, 1, none⟩ (.int .i64 0)).setCell ⟨W.heap.size, 2, none⟩ (.string ⟨#[]⟩)).setCell ⟨W.heap.size, 3, none⟩ (.string ⟨#[]⟩)).setCell ⟨W.heap.size, 4, none⟩ (.slice A7 Lk3.length c7)).cell? ⟨W.heap.size, 3, none⟩ = some (.string ⟨#[]⟩) := cell_of_row _ _ 3 _ _ (0, 0) hrw
          have q4 : ((((((w3.setCell ⟨(W.heap.size + 1), 4, none⟩ (.slice A7 Lk3.length c7)).setCell ⟨W.heap.size, 0, none⟩ (.int .i64 2)).setCell ⟨W.heap.size, 1, none⟩ (.int .i64 0)).setCell ⟨W.heap.size, 2, none⟩ (.string ⟨#[]⟩)).setCell ⟨W.heap.size, 3, none⟩ (.string ⟨#[]⟩)).setCell ⟨W.heap.size, 4, none⟩ (.slice A7 Lk3.length c7)).cell? ⟨W.heap.size, 4, none⟩ = some (.slice A7 Lk3.length c7) := cell_of_row _ _ 4 _ _ (0, 0) hrw
          refine bodyPost_ret (v := .agg #[.int .i64 2, .int .i64 0, .string ⟨#[]⟩, .string ⟨#[]⟩, .slice A7 Lk3.length c7]) (by simp [results, Tryd.results18, go_sem, q0, q1, q2, q3, q4]) rfl ?_
          obtain ⟨A8, c8, hV8, hT8⟩ := HO3.out.tree 2 0 ⟨#[]⟩ ⟨#[]⟩ (by omega) (by omega) (Nat.zero_le _) (Nat.zero_le _)
          injection hV8 with e1 e2 e3
          subst e1 e3
          have hxl := HXL.out
          have HPK := polK12_out (p := Wm.pol f) (f := f) (l := (Wm.tok l).rest) 2 (by decide) (Lk3.map Kr.t) HT3.out
          rw [HRES.out]
          exact ⟨_, rcs 2 0 ⟨#[]⟩ ⟨#[]⟩ A7 Lk3.length c7, rfl, (hT8.heap fun q hq => (HFIN.2.2.1 q (by omega)).trans (Below.heap_setCell w3 _ _ q (by simp; omega))).imp (fun q hq => ⟨by omega, by rw [HFIN.2.2.2.1]; simpa using hq.2⟩), by rw [HPK.1]; exact HFIN.1, HPK.2, HFIN.2.1⟩
        · obtain ⟨kz, hkz⟩ : ∃ z : Int, z = (k : Int) := ⟨_, rfl⟩
          have HKN := Lib.hid hkn
          have HRES : Hid (Wm.onSt (Wm.pol (f + 1)) (.at_ l) = Wm.polN k (Wm.tok l).rest) := Lib.hid (by show Wm.pol (f + 1) l = _; rw [Wm.pol, if_neg (by rw [HKY.out]; omega), if_neg (by rw [HKY.out]; omega), if_neg (by rw [HKY.out]; omega), if_neg (by rw [HKY.out]; omega), HKY.out])
          have k0 : ((k : Int) == 0) = false := by rw [beq_eq_false_iff_ne]; omega
          have k1 : ((k : Int) == 1) = false := by rw [beq_eq_false_iff_ne]; omega
          have k2 : ((k : Int) == 2) = false := by rw [beq_eq_false_iff_ne]; omega
          have k3 : ((k : Int) == 3) = false := by rw [beq_eq_false_iff_ne]; omega
          have k5 : ((k : Int) == 5) = false := by rw [beq_eq_false_iff_ne]; omega
          have k6 : ((k : Int) == 6) = false := by rw [beq_eq_false_iff_ne]; omega
          have m0 : (k == 0) = false := by rw [beq_eq_false_iff_ne]; omega
          have m1 : (k == 1) = false := by rw [beq_eq_false_iff_ne]; omega
          have m2 : (k == 2) = false := by rw [beq_eq_false_iff_ne]; omega
          have m3 : (k == 3) = false := by rw [beq_eq_false_iff_ne]; omega
          have m5 : (k == 5) = false := by rw [beq_eq_false_iff_ne]; omega
          have m6 : (k == 6) = false := by rw [beq_eq_false_iff_ne]; omega
          clear hkn hkz
          go_enter Tryd.func18, Tryd.ntmps18
          go_wp2_with (first
            | (have hd := done2; clear done2; go_at_call 35; (with_reducible refine HTK.out.mono ?_); rintro e3 w3 ⟨rfl, hr3, hg3⟩; have GS4 := Lib.hid (GS3.out.call hg3 hr3 hP); have HX4 : Hid (w3.heap[(W.heap.size + 1)]? = some (.cells #[.int .i64 (k : Int), .int .i64 (n : Int), .string ⟨#[]⟩, .string ⟨#[]⟩, .slice none 0 0] 24)) := Lib.hid (GS4.out.x); have HZ4 := Lib.hid GS4.out.z; clear hr3 hg3 d0 d1 d2 d3 d4 df0 df1 df2 df3 df4 c0 c1 c2 c3 c4 cf0 cf1 cf2 cf3 cf4; have d0 : w3.cell? ⟨(W.heap.size + 1), 0, none⟩ = some (.int .i64 (k : Int)) := cell_of_row _ _ 0 _ _ (0, 0) HX4.out; have d1 : w3.cell? ⟨(W.heap.size + 1), 1, none⟩ = some (.int .i64 (n : Int)) := cell_of_row _ _ 1 _ _ (0, 0) HX4.out; have d2 : w3.cell? ⟨(W.heap.size + 1), 2, none⟩ = some (.string ⟨#[]⟩) := cell_of_row _ _ 2 _ _ (0, 0) HX4.out; have d3 : w3.cell? ⟨(W.heap.size + 1), 3, none⟩ = some (.string ⟨#[]⟩) := cell_of_row _ _ 3 _ _ (0, 0) HX4.out; have d4 : w3.cell? ⟨(W.heap.size + 1), 4, none⟩ = some (.slice none 0 0) := cell_of_row _ _ 4 _ _ (0, 0) HX4.out; have df0 : w3.frozen? ⟨(W.heap.size + 1), 0, none⟩ = false := pfrz HX4.out; have df1 : w3.frozen? ⟨(W.heap.size + 1), 1, none⟩ = false := pfrz HX4.out; have df2 : w3.frozen? ⟨(W.heap.size + 1), 2, none⟩ = false := pfrz HX4.out; have df3 : w3.frozen? ⟨(W.heap.size + 1), 3, none⟩ = false := pfrz HX4.out; have df4 : w3.frozen? ⟨(W.heap.size + 1), 4, none⟩ = false := pfrz HX4.out; have c0 : w3.cell? ⟨W.heap.size, 0, none⟩ = some (.int .i64 0) := cell_of_row _ _ 0 _ _ (0, 0) HZ4.out; have c1 : w3.cell? ⟨W.heap.size, 1, none⟩ = some (.int .i64 0) := cell_of_row _ _ 1 _ _ (0, 0) HZ4.out; have c2 : w3.cell? ⟨W.heap.size, 2, none⟩ = some (.string ⟨#[]⟩) := cell_of_row _ _ 2 _ _ (0, 0) HZ4.out; have c3 : w3.cell? ⟨W.heap.size, 3, none⟩ = some (.string ⟨#[]⟩) := cell_of_row _ _ 3 _ _ (0, 0) HZ4.out; have c4 : w3.cell? ⟨W.heap.size, 4, none⟩ = some (.slice none 0 0) := cell_of_row _ _ 4 _ _ (0, 0) HZ4.out; have cf0 : w3.frozen? ⟨W.heap.size, 0, none⟩ = false := pfrz HZ4.out; have cf1 : w3.frozen? ⟨W.heap.size, 1, none⟩ = false := pfrz HZ4.out; have cf2 : w3.frozen? ⟨W.heap.size, 2, none⟩ = false := pfrz HZ4.out; have cf3 : w3.frozen? ⟨W.heap.size, 3, none⟩ = false := pfrz HZ4.out; have cf4 : w3.frozen? ⟨W.heap.size, 4, none⟩ = false := pfrz HZ4.out;  have done3 := trivial)
            | (go_at_call 33; (with_reducible refine (HKO.out _).mono ?_); rintro e1 w1 ⟨rfl, hw1⟩; subst hw1)
            | (go_at_call 17; (with_reducible refine HRO.out.mono ?_); rintro e2 w2 ⟨rfl, hr2, hg2⟩; have GS2 := Lib.hid (HGS.out.call hg2 hr2 hP); clear hr2 hg2 c3 c4 c6 f6; have HX := Lib.hid GS2.out.x; have HZ := Lib.hid GS2.out.z; have d0 : w2.cell? ⟨(W.heap.size + 1), 0, none⟩ = some (.int .i64 (k : Int)) := cell_of_row _ _ 0 _ _ (0, 0) HX.out; have d1 : w2.cell? ⟨(W.heap.size + 1), 1, none⟩ = some (.int .i64 0) := cell_of_row _ _ 1 _ _ (0, 0) HX.out; have d2 : w2.cell? ⟨(W.heap.size + 1), 2, none⟩ = some (.string ⟨#[]⟩) := cell_of_row _ _ 2 _ _ (0, 0) HX.out; have d3 : w2.cell? ⟨(W.heap.size + 1), 3, none⟩ = some (.string ⟨#[]⟩) := cell_of_row _ _ 3 _ _ (0, 0) HX.out; have d4 : w2.cell? ⟨(W.heap.size + 1), 4, none⟩ = some (.slice none 0 0) := cell_of_row _ _ 4 _ _ (0, 0) HX.out; have df0 : w2.frozen? ⟨(W.heap.size + 1), 0, none⟩ = false := pfrz HX.out; have df1 : w2.frozen? ⟨(W.heap.size + 1), 1, none⟩ = false := pfrz HX.out; have df2 : w2.frozen? ⟨(W.heap.size + 1), 2, none⟩ = false := pfrz HX.out; have df3 : w2.frozen? ⟨(W.heap.size + 1), 3, none⟩ = false := pfrz HX.out; have df4 : w2.frozen? ⟨(W.heap.size + 1), 4, none⟩ = false := pfrz HX.out; have c0 : w2.cell? ⟨W.heap.size, 0, none⟩ = some (.int .i64 0) := cell_of_row _ _ 0 _ _ (0, 0) HZ.out; have c1 : w2.cell? ⟨W.heap.size, 1, none⟩ = some (.int .i64 0) := cell_of_row _ _ 1 _ _ (0, 0) HZ.out; have c2 : w2.cell? ⟨W.heap.size, 2, none⟩ = some (.string ⟨#[]⟩) := cell_of_row _ _ 2 _ _ (0, 0) HZ.out; have c3 : w2.cell? ⟨W.heap.size, 3, none⟩ = some (.string ⟨#[]⟩) := cell_of_row _ _ 3 _ _ (0, 0) HZ.out; have c4 : w2.cell? ⟨W.heap.size, 4, none⟩ = some (.slice none 0 0) := cell_of_row _ _ 4 _ _ (0, 0) HZ.out; have cf0 : w2.frozen? ⟨W.heap.size, 0, none⟩ = false := pfrz HZ.out; have cf1 : w2.frozen? ⟨W.heap.size, 1, none⟩ = false := pfrz HZ.out; have cf2 : w2.frozen? ⟨W.heap.size, 2, none⟩ = false := pfrz HZ.out; have cf3 : w2.frozen? ⟨W.heap.size, 3, none⟩ = false := pfrz HZ.out; have cf4 : w2.frozen? ⟨W.heap.size, 4, none⟩ = false := pfrz HZ.out;  obtain ⟨n, cn, hn, hnn⟩ := num_cell GS2.out.r; have HN := Lib.hid hn; have HNN := Lib.hid hnn; clear hn hnn; have GS3 := Lib.hid (GS2.out.set hP 1 (.int .i64 (n : Int))); have HTK := Lib.hid (take_z s L P 48 48 rfl _ _ HLL.out HS.out GS3.out.r (by decide) (by decide)); have done2 := trivial))
          have HFIN := fin5p GS4.out.r GS4.out.gr hP GS4.out.z (.int .i64 (k : Int)) (.int .i64 (n : Int)) (.string ⟨#[]⟩) (.string ⟨#[]⟩) (.slice none 0 0)
          have hrw := HFIN.2.2.2.2
          have q0 : (((((w3.setCell ⟨W.heap.size, 0, none⟩ (.int .i64 (k : Int))).setCell ⟨W.heap.size, 1, none⟩ (.int .i64 (n : Int))).setCell ⟨W.heap.size, 2, none⟩ (.string ⟨#[]⟩)).setCell ⟨W.heap.size, 3, none⟩ (.string ⟨#[]⟩)).setCell ⟨W.heap.size, 4, none⟩ (.slice none 0 0)).cell? ⟨W.heap.size, 0, none⟩ = some (.int .i64 (k : Int)) := cell_of_row _ _ 0 _ _ (0, 0) hrw
          have q1 : (((((w3.setCell ⟨W.heap.size, 0, none⟩ (.int .i64 (k : Int))).setCell ⟨W.heap.size, 1, none⟩ (.int .i64 (n : Int))).setCell ⟨W.heap.size, 2, none⟩ (.string ⟨#[]⟩)).setCell ⟨W.heap.size, 3, none⟩ (.string ⟨#[]⟩)).setCell ⟨W.heap.size, 4, none⟩ (.slice none 0 0)).cell? ⟨W.heap.size, 1, none⟩ = some (.int .i64 (n : Int)) := cell_of_row _ _ 1 _ _ (0, 0) hrw
          have q2 : (((((w3.setCell ⟨W.heap.size, 0, none⟩ (.int .i64 (k : Int))).setCell ⟨W.heap.size, 1, none⟩ (.int .i64 (n : Int))).setCell ⟨W.heap.size, 2, none⟩ (.string ⟨#[]⟩)).setCell ⟨W.heap.size, 3, none⟩ (.string ⟨#[]⟩)).setCell ⟨W.heap.size, 4, none⟩ (.slice none 0 0)).cell? ⟨W.heap.size, 2, none⟩ = some (.string ⟨#[]⟩) := cell_of_row _ _ 2 _ _ (0, 0) hrw
          have q3 : (((((w3.setCell ⟨W.heap.size, 0, none⟩ (.int .i64 (k : Int))).setCell ⟨W.heap.size, 1, none⟩ (.int .i64 (n : Int))).setCell ⟨W.heap.size, 2, none⟩ (.string ⟨#[]⟩)).setCell ⟨W.heap.size, 3, none⟩ (.string ⟨#[]⟩)).setCell ⟨W.heap.size, 4, none⟩ (.slice none 0 0)).cell? ⟨W.heap.size, 3, none⟩ = some (.string ⟨#[]⟩) := cell_of_row _ _ 3 _ _ (0, 0) hrw
          have q4 : (((((w3.setCell ⟨W.heap.size, 0, none⟩ (.int .i64 (k : Int))).setCell ⟨W.heap.size, 1, none⟩ (.int .i64 (n : Int))).setCell ⟨W.heap.size, 2, none⟩ (.string ⟨#[]⟩)).setCell ⟨W.heap.size, 3, none⟩ (.string ⟨#[]⟩)).setCell ⟨W.heap.size, 4, none⟩ (.slice none 0 0)).cell? ⟨W.heap.size, 4, none⟩ = some (.slice none 0 0) := cell_of_row _ _ 4 _ _ (0, 0) hrw
          refine bodyPost_ret (v := .agg #[.int .i64 (k : Int), .int .i64 (n : Int), .string ⟨#[]⟩, .string ⟨#[]⟩, .slice none 0 0]) (by simp [results, Tryd.results18, go_sem, q0, q1, q2, q3, q4]) rfl ?_
          have HPN := polN_out k HNN.out
          rw [HRES.out]
          exact ⟨.mk (k : Int) (n : Int) ⟨#[]⟩ ⟨#[]⟩ [], rcs (k : Int) (n : Int) ⟨#[]⟩ ⟨#[]⟩ none 0 0, rfl, RdP.leaf _ _ (k : Int) (n : Int) ⟨#[]⟩ ⟨#[]⟩ (by omega) (by have := HN.out; omega) (Nat.zero_le _) (Nat.zero_le _), by rw [HPN.1]; exact HFIN.1, HPN.2, HFIN.2.1⟩
      · have HRES : Hid (Wm.onSt (Wm.pol (f + 1)) (.at_ l) = .bad (Wm.tok l).from_) := Lib.hid (by show Wm.pol (f + 1) l = _; rw [Wm.pol, if_pos (by unfold Wm.Tk.key; exact if_neg hw)])
        obtain ⟨c3, c6⟩ := h0
        have f6 : W.frozen? ⟨P, 6, none⟩ = false := by
          obtain ⟨nx, at0, kd, tx, n, bd, hr⟩ := h.row
          exact pfrz hr
        have hcd : (Wm.tok l).code ≠ 97 := fun e => hw (code_word.1 e)
        have d1 : (((Wm.tok l).code : Int) == 97) = false := by rw [beq_eq_false_iff_ne]; omega
        have d2 : ((Wm.tok l).code == 97) = false := by rw [beq_eq_false_iff_ne]; omega
        clear h hw hcd
        go_enter Tryd.func18, Tryd.ntmps18
        go_wp2_with fail
        have HZE := zero_end (W := W) HSB.out (by simp) (grown_set _ _ _ _) (.cells #[.int .i64 0, .int .i64 0, .string ⟨#[]⟩, .string ⟨#[]⟩, .slice none 0 0] 24)
        have hrw := HZE.1
        have q0 : (((W.setCell ⟨P, 6, none⟩ (.bool true)).alloc (.cells #[.int .i64 0, .int .i64 0, .string ⟨#[]⟩, .string ⟨#[]⟩, .slice none 0 0] 24)).alloc (.cells #[.int .i64 0, .int .i64 0, .string ⟨#[]⟩, .string ⟨#[]⟩, .slice none 0 0] 24)).cell? ⟨W.heap.size, 0, none⟩ = some (.int .i64 0) := cell_of_row _ _ 0 _ _ (0, 0) hrw
        have q1 : (((W.setCell ⟨P, 6, none⟩ (.bool true)).alloc (.cells #[.int .i64 0, .int .i64 0, .string ⟨#[]⟩, .string ⟨#[]⟩, .slice none 0 0] 24)).alloc (.cells #[.int .i64 0, .int .i64 0, .string ⟨#[]⟩, .string ⟨#[]⟩, .slice none 0 0] 24)).cell? ⟨W.heap.size, 1, none⟩ = some (.int .i64 0) := cell_of_row _ _ 1 _ _ (0, 0) hrw
        have q2 : (((W.setCell ⟨P, 6, none⟩ (.bool true)).alloc (.cells #[.int .i64 0, .int .i64 0, .string ⟨#[]⟩, .string ⟨#[]⟩, .slice none 0 0] 24)).alloc (.cells #[.int .i64 0, .int .i64 0, .string ⟨#[]⟩, .string ⟨#[]⟩, .slice none 0 0] 24)).cell? ⟨W.heap.size, 2, none⟩ = some (.string ⟨#[]⟩) := cell_of_row _ _ 2 _ _ (0, 0) hrw
        have q3 : (((W.setCell ⟨P, 6, none⟩ (.bool true)).alloc (.cells #[.int .i64 0, .int .i64 0, .string ⟨#[]⟩, .string ⟨#[]⟩, .slice none 0 0] 24)).alloc (.cells #[.int .i64 0, .int .i64 0, .string ⟨#[]⟩, .string ⟨#[]⟩, .slice none 0 0] 24)).cell? ⟨W.heap.size, 3, none⟩ = some (.string ⟨#[]⟩) := cell_of_row _ _ 3 _ _ (0, 0) hrw
        have q4 : (((W.setCell ⟨P, 6, none⟩ (.bool true)).alloc (.cells #[.int .i64 0, .int .i64 0, .string ⟨#[]⟩, .string ⟨#[]⟩, .slice none 0 0] 24)).alloc (.cells #[.int .i64 0, .int .i64 0, .string ⟨#[]⟩, .string ⟨#[]⟩, .slice none 0 0] 24)).cell? ⟨W.heap.size, 4, none⟩ = some (.slice none 0 0) := cell_of_row _ _ 4 _ _ (0, 0) hrw
        refine bodyPost_ret (v := .agg #[.int .i64 0, .int .i64 0, .string ⟨#[]⟩, .string ⟨#[]⟩, .slice none 0 0]) (by simp [results, Tryd.results18, go_sem, q0, q1, q2, q3, q4]) rfl ?_
        rw [HRES.out]
        exact ⟨.mk 0 0 ⟨#[]⟩ ⟨#[]⟩ [], rcs 0 0 ⟨#[]⟩ ⟨#[]⟩ none 0 0, rfl, RdP.leaf _ _ 0 0 ⟨#[]⟩ ⟨#[]⟩ (by omega) (by omega) (Nat.zero_le _) (Nat.zero_le _), HZE.2.1, (fun t' r e => by cases e), HZE.2.2⟩

end Go.Proofs.YtgiahfjndononaaDoor
