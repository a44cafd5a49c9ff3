/- The document's rule. -/
import Derived.Test.YtgiahfjndononaaDoorPpk
namespace Go.Proofs.YtgiahfjndononaaDoor
open Go.RowKit
set_option linter.unusedVariables false
set_option linter.unusedSimpArgs false
set_option maxRecDepth 100000

theorem dst_wide {w : World} {P : Nat} {s : ByteArray} {L : List UInt8} {st : Wm.St} (h : DSt w P s L st) {b i : Nat} (hb : P ≠ b) (v : Value) : DSt (w.setCell ⟨b, i, none⟩ v) P s L st := h.stay (Below.heap_setCell w _ _ P (by simpa using hb))
/-- What a step of rule leaves: the result's box, the node's box. -/
structure RoSt (W w : World) (P g : Nat) (s : ByteArray) (L : List UInt8) (st : Wm.St) (cs : Array Value) : Prop where
  z : w.heap[W.heap.size]? = some (.cells #[.int .i64 0, .int .i64 0, .string ⟨#[]⟩, .string ⟨#[]⟩, .slice none 0 0] 24)
  x : w.heap[g]? = some (.cells cs 24)
  r : DSt w P s L st
  gr : W.grownBy w (some P)
section
variable {W w w' : World} {P g : Nat} {s : ByteArray} {L : List UInt8} {st st' : Wm.St} {cs : Array Value}
theorem RoSt.call (h : RoSt W w P g s L st cs) (hg : w.grownBy w' (some P)) (hr : DSt w' P s L st') (hgW : P < W.heap.size) (hgg : W.heap.size < g) : RoSt W w' P g s L st' cs :=
  ⟨(hg.block _ (in_heap h.z) (by intro e; injection e with e; omega)).trans h.z, (hg.block _ (in_heap h.x) (by intro e; injection e with e; omega)).trans h.x, hr, grown_trans h.gr hg⟩
theorem RoSt.set (h : RoSt W w P g s L st cs) (hgW : P < W.heap.size) (hgg : W.heap.size < g) (i : Nat) (v : Value) : RoSt W (w.setCell ⟨g, i, none⟩ v) P g s L st (cs.setIfInBounds i v) :=
  ⟨(Below.heap_setCell w _ _ _ (by simp; omega)).trans h.z, heap_setCell_same _ _ _ _ _ _ h.x, dst_wide h.r (by omega) v, grown_bx' w W P _ i v h.gr (by omega)⟩
end
/-- The result is stored. -/
theorem dfin5 {W w : World} {P : Nat} {s : ByteArray} {L : List UInt8} {st : Wm.St} (hr : DSt w P s L st) (hg : W.grownBy w (some P)) (hgW : P < W.heap.size) (hz : w.heap[W.heap.size]? = some (.cells #[.int .i64 0, .int .i64 0, .string ⟨#[]⟩, .string ⟨#[]⟩, .slice none 0 0] 24)) (v0 v1 v2 v3 v4 : Value) :
    DSt (((((w.setCell ⟨W.heap.size, 0, none⟩ (v0)).setCell ⟨W.heap.size, 1, none⟩ (v1)).setCell ⟨W.heap.size, 2, none⟩ (v2)).setCell ⟨W.heap.size, 3, none⟩ (v3)).setCell ⟨W.heap.size, 4, none⟩ (v4)) P s L st ∧ W.grownBy (((((w.setCell ⟨W.heap.size, 0, none⟩ (v0)).setCell ⟨W.heap.size, 1, none⟩ (v1)).setCell ⟨W.heap.size, 2, none⟩ (v2)).setCell ⟨W.heap.size, 3, none⟩ (v3)).setCell ⟨W.heap.size, 4, none⟩ (v4)) (some P) ∧ (∀ q, q ≠ W.heap.size → (((((w.setCell ⟨W.heap.size, 0, none⟩ (v0)).setCell ⟨W.heap.size, 1, none⟩ (v1)).setCell ⟨W.heap.size, 2, none⟩ (v2)).setCell ⟨W.heap.size, 3, none⟩ (v3)).setCell ⟨W.heap.size, 4, none⟩ (v4)).heap[q]? = w.heap[q]?) ∧ (((((w.setCell ⟨W.heap.size, 0, none⟩ (v0)).setCell ⟨W.heap.size, 1, none⟩ (v1)).setCell ⟨W.heap.size, 2, none⟩ (v2)).setCell ⟨W.heap.size, 3, none⟩ (v3)).setCell ⟨W.heap.size, 4, none⟩ (v4)).heap.size = w.heap.size ∧ (((((w.setCell ⟨W.heap.size, 0, none⟩ (v0)).setCell ⟨W.heap.size, 1, none⟩ (v1)).setCell ⟨W.heap.size, 2, none⟩ (v2)).setCell ⟨W.heap.size, 3, none⟩ (v3)).setCell ⟨W.heap.size, 4, none⟩ (v4)).heap[W.heap.size]? = some (.cells #[v0, v1, v2, v3, v4] 24) := by
  have hne : P ≠ W.heap.size := by omega
  refine ⟨?_, ?_, fun q hq => ?_, by simp, heap_setCell_same _ _ 4 _ _ v4 (heap_setCell_same _ _ 3 _ _ v3 (heap_setCell_same _ _ 2 _ _ v2 (heap_setCell_same _ _ 1 _ _ v1 (heap_setCell_same _ _ 0 _ _ v0 hz))))⟩
  · exact dst_wide (dst_wide (dst_wide (dst_wide (dst_wide hr hne v0) hne v1) hne v2) hne v3) hne v4
  · exact grown_bx' _ W P _ 4 v4 (grown_bx' _ W P _ 3 v3 (grown_bx' _ W P _ 2 v2 (grown_bx' _ W P _ 1 v1 (grown_bx' _ W P _ 0 v0 hg (Nat.le_refl _)) (Nat.le_refl _)) (Nat.le_refl _)) (Nat.le_refl _)) (Nat.le_refl _)
  · exact (Below.heap_setCell _ _ _ _ (by simpa using hq)).trans ((Below.heap_setCell _ _ _ _ (by simpa using hq)).trans ((Below.heap_setCell _ _ _ _ (by simpa using hq)).trans ((Below.heap_setCell _ _ _ _ (by simpa using hq)).trans (Below.heap_setCell _ _ _ _ (by simpa using hq)))))
theorem RoSt.read {W w : World} {P g a : Nat} {s : ByteArray} {L l r : List UInt8} {cs : Array Value} (h : RoSt W w P g s L (.at_ l) cs) (hgW : P < W.heap.size) (hgg : W.heap.size < g) (ha : s.size - r.length = a) (hr : Wm.Suf r l) : RoSt W (w.setCell ⟨P, 1, none⟩ (.int .i64 (a : Int))) P g s L (.at_ r) cs :=
  ⟨(Below.heap_setCell w _ _ _ (by simp; omega)).trans h.z, (Below.heap_setCell w _ _ _ (by simp; omega)).trans h.x, ⟨by unfold DRow; rw [ha]; exact PRow.set 1 _ h.r.1 rfl, hr.trans h.r.2⟩, grown_trans h.gr (grown_set _ _ _ _)⟩
theorem dpolA_out {l : List UInt8} : (Wm.polA l).st = Wm.takeD 3 (Wm.takeD 3 (.at_ l)) ∧ ∀ t' r, Wm.polA l = .ok t' r → (Rt.mk 6 0 (S8 (Wm.takeV 3 (.at_ l))) (S8 (Wm.takeV 3 (Wm.takeD 3 (.at_ l)))) []) = t' := by
  unfold Wm.polA
  by_cases hk : (Wm.tok l).kind = 3
  · have e1 : Wm.takeD 3 (.at_ l) = .at_ (Wm.tok l).rest := by unfold Wm.takeD; exact if_pos hk
    have v1 : Wm.takeV 3 (.at_ l) = (Wm.tok l).say := by unfold Wm.takeV; exact if_pos hk
    rw [e1, v1, if_pos hk]
    by_cases hk2 : (Wm.tok (Wm.tok l).rest).kind = 3
    · have e2 : Wm.takeD 3 (.at_ (Wm.tok l).rest) = .at_ (Wm.tok (Wm.tok l).rest).rest := by unfold Wm.takeD; exact if_pos hk2
      have v2 : Wm.takeV 3 (.at_ (Wm.tok l).rest) = (Wm.tok (Wm.tok l).rest).say := by unfold Wm.takeV; exact if_pos hk2
      rw [if_pos hk2, e2, v2]
      exact ⟨rfl, fun t' r e => by injection e⟩
    · have e2 : Wm.takeD 3 (.at_ (Wm.tok l).rest) = .bad (Wm.tok (Wm.tok l).rest).from_ := by unfold Wm.takeD; exact if_neg hk2
      rw [if_neg hk2, e2]
      exact ⟨rfl, fun t' r e => by cases e⟩
  · have e1 : Wm.takeD 3 (.at_ l) = .bad (Wm.tok l).from_ := by unfold Wm.takeD; exact if_neg hk
    rw [e1, if_neg hk]
    exact ⟨rfl, fun t' r e => by cases e⟩
theorem takeV_len {w : World} {P k : Nat} {s : ByteArray} {L : List UInt8} {st : Wm.St} (hL : s.data.toList = L) (h : DSt w P s L st) : (Wm.takeV k st).length ≤ s.size := by
  cases st with
  | bad e => exact Nat.zero_le _
  | at_ l =>
    have h1 := (Wm.tok_ok l).say
    have h2 := h.2.len
    have h3 := list_len s L hL
    show (if _ then _ else _ : List UInt8).length ≤ _
    split
    · omega
    · exact Nat.zero_le _
theorem RoSt.drewN {W w : World} {P g : Nat} {s : ByteArray} {L : List UInt8} {st : Wm.St} {cs : Array Value} (h : RoSt W w P g s L st cs) (n : Nat) : RoSt W (w.drewN n) P g s L st cs :=
  ⟨h.z, h.x, h.r.stay rfl, grown_trans h.gr (grown_drewN _ _ _)⟩
theorem takeV_dig {l : List UInt8} : (Wm.takeV 2 (.at_ l)).length ≤ 10 ∧ ∀ c ∈ Wm.takeV 2 (.at_ l), Wm.digt c = true := by
  unfold Wm.takeV
  simp only
  split
  · exact (Wm.tok_ok l).nums (by assumption)
  · exact ⟨Nat.zero_le _, fun c hc => by cases hc⟩
theorem dpolN_out {l : List UInt8} (k : Nat) {n : Nat} (h : n = Wm.num (Wm.takeV 2 (.at_ l))) : (Wm.polN k l).st = Wm.takeD 2 (.at_ l) ∧ ∀ t' r, Wm.polN k l = .ok t' r → (Rt.mk (k : Int) (n : Int) ⟨#[]⟩ ⟨#[]⟩ []) = t' := by
  unfold Wm.polN
  by_cases hk : (Wm.tok l).kind = 2
  · have e1 : Wm.takeD 2 (.at_ l) = .at_ (Wm.tok l).rest := by unfold Wm.takeD; exact if_pos hk
    have v1 : Wm.takeV 2 (.at_ l) = (Wm.tok l).say := by unfold Wm.takeV; exact if_pos hk
    rw [e1, if_pos hk, h, v1]
    exact ⟨rfl, fun t' r e => by injection e⟩
  · have e1 : Wm.takeD 2 (.at_ l) = .bad (Wm.tok l).from_ := by unfold Wm.takeD; exact if_neg hk
    rw [e1, if_neg hk]
    exact ⟨rfl, fun t' r e => by cases e⟩
theorem dpolK3_out {p : List UInt8 → Wm.Res Rt} {f : Nat} {l : List UInt8} (h : (Wm.tok l).is 40 = true) (t : Rt) (ht : ∀ t' r, p (Wm.tok l).rest = .ok t' r → t = t') :
    (Wm.signB 41 (p (Wm.tok l).rest).st = true → (Wm.polK p 3 f l).st = Wm.signD 41 (p (Wm.tok l).rest).st) ∧ (Wm.signB 41 (p (Wm.tok l).rest).st = false → (Wm.polK p 3 f l).st = Wm.failS (Wm.signD 41 (p (Wm.tok l).rest).st)) ∧ ∀ t' r, Wm.polK p 3 f l = .ok t' r → (Rt.mk 3 0 ⟨#[]⟩ ⟨#[]⟩ [t]) = t' := by
  unfold Wm.polK
  rw [if_pos h, if_neg (by simp)]
  unfold Wm.kids
  cases hp : p (Wm.tok l).rest with
  | bad e0 =>
    refine ⟨?_, ?_, ?_⟩
    · intro e
      exact absurd e (by simp [Wm.signB, Wm.Res.st])
    · intro _
      rfl
    · intro t' r e
      exact absurd e (by simp [Wm.close])
  | ok t0 r0 =>
    have h0 := ht t0 r0 hp
    simp only [Wm.close, Wm.Res.st, Wm.signB, Wm.signD, if_true]
    by_cases h2 : (Wm.tok r0).is 41 = true
    · rw [if_pos h2, if_pos h2, h0]
      refine ⟨fun _ => rfl, fun e => absurd h2 (by rw [e]; decide), ?_⟩
      intro t' r e
      injection e
    · rw [if_neg h2, if_neg h2]
      refine ⟨fun e => absurd e h2, fun _ => rfl, ?_⟩
      intro t' r e
      exact absurd e (by simp)
theorem kw_conv {w : List UInt8} {i : Nat} (h1 : 1 ≤ i) (h : Wm.kw w = i) : w = Wm.wd i := by
  unfold Wm.kw at h
  repeat' split at h
  all_goals first | omega | (subst h; assumption)
theorem key_split (t : Wm.Tk) (i : Nat) (h1 : 1 ≤ i) (h2 : i ≤ 9) : (S8 (Wm.wd i) ≠ S8 t.say ∧ t.key ≠ i) ∨ (S8 (Wm.wd i) = S8 t.say ∧ t.kind ≠ 1 ∧ t.key ≠ i) ∨ (S8 (Wm.wd i) = S8 t.say ∧ t.kind = 1 ∧ t.key = i) := by
  by_cases h : S8 (Wm.wd i) = S8 t.say
  · by_cases hk : t.kind = 1
    · have e : Wm.wd i = t.say := by have := congrArg (fun x => x.data.toList) h; simpa [S8] using this
      exact .inr (.inr ⟨h, hk, by unfold Wm.Tk.key; rw [if_pos hk, ← e]; exact kw_wd i h1 h2⟩)
    · exact .inr (.inl ⟨h, hk, by unfold Wm.Tk.key; rw [if_neg hk]; omega⟩)
  · refine .inl ⟨h, fun e => h ?_⟩
    unfold Wm.Tk.key at e
    split at e
    · rw [kw_conv h1 e]
    · omega
def keyTo (k i : Nat) : Nat := if k < i then k else 0
/-- The region of one kid: what each of its operations leaves. -/
def DF (P b base : Nat) (s : ByteArray) (L : List UInt8) (V : Value) (Lk : List Kr) (res : Wm.Res Rt) (K : Int) : Nat → Value → World → Prop
  | 0, v, _ => v = .pointer (some ⟨b, 4, none⟩)
  | 1, v, _ => v = V
  | 2, v, _ => v = .pointer (some ⟨P, 0, none⟩)
  | 3, v, w => ∃ x : Kr, v = .agg x.cells.toArray ∧ (∀ t' r, res = .ok t' r → x.t = t') ∧ KrOk w base V x ∧ DSt w P s L res.st
  | 4, v, w => ∃ (x : Kr) (q : Nat), v = .slice (some ⟨q, 0, none⟩) 1 1 ∧ (∀ t' r, res = .ok t' r → x.t = t') ∧ KrOk w base V x ∧ Rd w (q + 1) (some ⟨q, 0, none⟩) x.cells ∧ base ≤ q ∧ q < w.heap.size ∧ V.ownBlock ≠ some q
  | 5, v, w => ∃ x : Kr, (∀ t' r, res = .ok t' r → x.t = t') ∧ OwnKids w base v (Lk ++ [x])
  | 6, v, _ => v = .pointer (some ⟨b, 4, none⟩)
  | 7, _, w => ∃ (x : Kr) (v : Value), (∀ t' r, res = .ok t' r → x.t = t') ∧ OwnKids w base v (Lk ++ [x]) ∧ w.heap[b]? = some (.cells #[.int .i64 K, .int .i64 0, .string ⟨#[]⟩, .string ⟨#[]⟩, v] 24)
  | _, _, _ => True
def DG (P b base : Nat) (s : ByteArray) (L : List UInt8) (V : Value) (Lk : List Kr) (st1 : Wm.St) (K : Int) : Nat → World → Prop
  | 3, w => DSt w P s L st1
  | 5, w => OwnKids w base V Lk
  | 7, w => w.heap[b]? = some (.cells #[.int .i64 K, .int .i64 0, .string ⟨#[]⟩, .string ⟨#[]⟩, V] 24)
  | _, _ => True
section
variable {P b base : Nat} {s : ByteArray} {L : List UInt8} {V : Value} {Lk : List Kr} {res : Wm.Res Rt} {st1 : Wm.St} {K : Int} {w w' : World}
theorem DF.below {i : Nat} {v : Value} (h : DF P b base s L V Lk res K i v w) (hb : Below w.heap.size w w') : DF P b base s L V Lk res K i v w' := by
  match i, h with
  | 0, h => exact h
  | 1, h => exact h
  | 2, h => exact h
  | 3, h => obtain ⟨x, h1, h2, h3, h4⟩ := h; exact ⟨x, h1, h2, h3.below hb, h4.below hb h4.lt⟩
  | 4, h => obtain ⟨x, q, h1, h2, h3, h4, h5, h6, h7⟩ := h; exact ⟨x, q, h1, h2, h3.below hb, h4.below (hb.mono h6), h5, Nat.lt_of_lt_of_le h6 hb.size, h7⟩
  | 5, h => obtain ⟨x, h1, h2⟩ := h; exact ⟨x, h1, h2.below hb⟩
  | 6, h => exact h
  | 7, h => obtain ⟨x, v, h1, h2, h3⟩ := h; exact ⟨x, v, h1, h2.below hb, (hb.block b (in_heap h3)).trans h3⟩
  | _ + 8, h => trivial
theorem DG.below {i : Nat} (h : DG P b base s L V Lk st1 K i w) (hb : Below w.heap.size w w') : DG P b base s L V Lk st1 K i w' := by
  unfold DG at *
  split
  · exact DSt.below h hb (DSt.lt h)
  · exact OwnKids.below h hb
  · exact (hb.block b (in_heap h)).trans h
  · trivial
end
theorem DSt.grew {w w' : World} {P base : Nat} {s : ByteArray} {L : List UInt8} {st : Wm.St} {V V' : Value} {Lk : List Kr} (h : DSt w P s L st) (ho : OwnKids w base V Lk) (hg : Grew w w' V V') (hb : P < base) : DSt w' P s L st :=
  h.stay (hg.grown.block P h.lt (Ne.symm (fun e => by have := own_block_ge ho.own P e; omega)))
/-- What the loop over the kids holds. -/
def KL (W w : World) (P g bs : Nat) (K : Int) (f : Nat) (s : ByteArray) (L : List UInt8) (res : Wm.Res (List Rt)) : Prop :=
  ∃ st Lk A c, OwnKids w bs (.slice A Lk.length c) Lk ∧ RoSt W w P g s L st #[.int .i64 K, .int .i64 0, .string ⟨#[]⟩, .string ⟨#[]⟩, .slice A Lk.length c] ∧ KInv f res Lk st ∧ bs ≤ w.heap.size
set_option maxHeartbeats 16000000 in
theorem drule_step (f : Nat) (s : ByteArray) (L : List UInt8) (P : Nat) (hL : s.data.toList = L) (hs : s.size ≤ 1000000) (l : List UInt8) (W : World) (h : DSt W P s L (.at_ l)) (hlf : l.length < f + 1) (IH : DRuleCalls f P s L) (hf : f ≤ 900000) : Calls Tryd.prog 20 #[.pointer (some ⟨P, 0, none⟩)] W (DPolOut (Wm.pol (f + 1) l) P s L W) := by
  have hP := h.lt
  have h0 : DSt (W.alloc (.cells #[.int .i64 0, .int .i64 0, .string ⟨#[]⟩, .string ⟨#[]⟩, .slice none 0 0] 24)) P s L (.at_ l) := h.below ((Below.refl W.heap.size W).alloc (Nat.le_refl _) _) hP
  obtain ⟨hrow, hsuf⟩ := h0
  have hlen := list_len s L hL
  have hle := hsuf.len
  have hd : L.drop (s.size - l.length) = l := by rw [← hlen]; exact hsuf.drop
  have hc := next_any s L P (s.size - l.length) (-1) (W.alloc (.cells #[.int .i64 0, .int .i64 0, .string ⟨#[]⟩, .string ⟨#[]⟩, .slice none 0 0] 24)) hL hrow (by omega) hs
  rw [hd] at hc
  unfold NextOf at hc
  obtain ⟨fa, hfa⟩ : ∃ a, s.size - (Wm.tok l).from_.length = a := ⟨_, rfl⟩
  obtain ⟨ra, hra⟩ : ∃ a, s.size - (Wm.tok l).rest.length = a := ⟨_, rfl⟩
  obtain ⟨kd, hkd⟩ : ∃ k, (Wm.tok l).kind = k := ⟨_, rfl⟩
  obtain ⟨sv, hsv⟩ : ∃ k, S8 (Wm.tok l).say = k := ⟨_, rfl⟩
  rw [hfa, hra, hkd, hsv] at hc
  have HC := Lib.hid hc
  have HFA := Lib.hid hfa
  have HRA := Lib.hid hra
  have HKD := Lib.hid hkd
  have HSV := Lib.hid hsv
  have H0 : Hid (DSt (W.alloc (.cells #[.int .i64 0, .int .i64 0, .string ⟨#[]⟩, .string ⟨#[]⟩, .slice none 0 0] 24)) P s L (.at_ l)) := Lib.hid ⟨hrow, hsuf⟩
  obtain ⟨ky, hky⟩ : ∃ k, (Wm.tok l).key = k := ⟨_, rfl⟩
  have HKY := Lib.hid hky
  have hky9 : ky ≤ 9 := by rw [← hky]; unfold Wm.Tk.key; split; exact Wm.kw_le _; omega
  have HKS : Hid (∀ i, 1 ≤ i → i ≤ 9 → (S8 (Wm.wd i) ≠ sv ∧ ky ≠ i) ∨ (S8 (Wm.wd i) = sv ∧ kd ≠ 1 ∧ ky ≠ i) ∨ (S8 (Wm.wd i) = sv ∧ kd = 1 ∧ ky = i)) := Lib.hid (fun i h1 h2 => by have := key_split (Wm.tok l) i h1 h2; rwa [hkd, hsv, hky] at this)
  have HLL := Lib.hid hL
  have HS := Lib.hid hs
  have HLF := Lib.hid hlf
  clear h hrow hsuf hlen hle hd hc hfa hra hkd hsv hky hL hs hlf
  go_enter Tryd.func20, Tryd.ntmps20
  go_wp2_with first | (go_at_call 21; (with_reducible refine HC.out.mono ?_); rintro e1 w1 ⟨rfl, hb1⟩; have HB1 := Lib.hid hb1; clear hb1) | (go_at_call 38; (with_reducible refine (words28_any _).mono ?_); rintro e2 w2 ⟨rfl, hw2⟩; have HW2 := Lib.hid hw2; clear hw2)
  have HWW := Lib.hid (show (w2.alloc (.cells #[.int .i64 0, .int .i64 0, .string ⟨#[]⟩, .string ⟨#[]⟩, .slice none 0 0] 24)).heap[w1.heap.size]? = some (.cells wordR 9) from by rw [HW2.out]; exact (heap_alloc_old _ _ (by simp)).trans (heap_alloc_new w1 _))
  have HGS0 : Hid (RoSt W (w2.alloc (.cells #[.int .i64 0, .int .i64 0, .string ⟨#[]⟩, .string ⟨#[]⟩, .slice none 0 0] 24)) P w2.heap.size s L (.at_ l) #[.int .i64 ((keyTo ky 1 : Nat) : Int), .int .i64 0, .string ⟨#[]⟩, .string ⟨#[]⟩, .slice none 0 0]) := Lib.hid (by
    have hb2 : Below w1.heap.size w1 (w2.alloc (.cells #[.int .i64 0, .int .i64 0, .string ⟨#[]⟩, .string ⟨#[]⟩, .slice none 0 0] 24)) := by rw [HW2.out]; exact ((Below.refl _ _).alloc (Nat.le_refl _) _).alloc (by simp) _
    have hb3 := HB1.out.trans (hb2.mono HB1.out.size)
    have hsz : (W.alloc (.cells #[.int .i64 0, .int .i64 0, .string ⟨#[]⟩, .string ⟨#[]⟩, .slice none 0 0] 24)).heap.size = W.heap.size + 1 := by simp
    have hup : keyTo ky 1 = 0 := by unfold keyTo; split <;> omega
    rw [hup]
    exact ⟨(hb3.block _ (by omega)).trans (heap_alloc_new W _), heap_alloc_new _ _, H0.out.below hb3 H0.out.lt, grown_trans (grown_alloc' _ _ _) (below_grownP hb3)⟩)
  have HGG : Hid (W.heap.size < w2.heap.size) := Lib.hid (by have h1 := HB1.out.size; rw [HW2.out]; simp at h1 ⊢; omega)
  have HNE : Hid (w2.heap.size ≠ w1.heap.size) := Lib.hid (by rw [HW2.out]; simp)
  generalize hg : w2.heap.size = g at *
  generalize hws : w1.heap.size = ws at *
  go_loopw [9] (fun x wr => ∃ i : Nat, 1 ≤ i ∧ i ≤ 10 ∧ x = .int .i64 (i : Int) ∧ Hid (wr.heap[ws]? = some (.cells wordR 9)) ∧ Hid (RoSt W wr P g s L (.at_ l) #[.int .i64 ((keyTo ky i : Nat) : Int), .int .i64 0, .string ⟨#[]⟩, .string ⟨#[]⟩, .slice none 0 0])) (fun x _ => 10 - (intOf x).toNat)
  case atStart => exact ⟨1, by omega, by omega, by first | rfl | simp, HWW, HGS0⟩
  case round =>
    obtain ⟨i, hi1, hi2, rfl, HWR, HGS⟩ := hrel
    obtain ⟨vx, hvx⟩ : ∃ v, keyTo ky i = v := ⟨_, rfl⟩
    have HVX := Lib.hid hvx
    rw [hvx] at HGS
    have hx := HGS.out.x
    have d0 : wr.cell? ⟨g, 0, none⟩ = some (.int .i64 (vx : Int)) := cell_of_row _ _ 0 _ _ (0, 0) hx
    have d1 : wr.cell? ⟨g, 1, none⟩ = some (.int .i64 0) := cell_of_row _ _ 1 _ _ (0, 0) hx
    have d2 : wr.cell? ⟨g, 2, none⟩ = some (.string ⟨#[]⟩) := cell_of_row _ _ 2 _ _ (0, 0) hx
    have d3 : wr.cell? ⟨g, 3, none⟩ = some (.string ⟨#[]⟩) := cell_of_row _ _ 3 _ _ (0, 0) hx
    have d4 : wr.cell? ⟨g, 4, none⟩ = some (.slice none 0 0) := cell_of_row _ _ 4 _ _ (0, 0) hx
    have df0 : wr.frozen? ⟨g, 0, none⟩ = false := pfrz hx
    have df1 : wr.frozen? ⟨g, 1, none⟩ = false := pfrz hx
    have df2 : wr.frozen? ⟨g, 2, none⟩ = false := pfrz hx
    have df3 : wr.frozen? ⟨g, 3, none⟩ = false := pfrz hx
    have df4 : wr.frozen? ⟨g, 4, none⟩ = false := pfrz hx
    clear hx hvx
    rcases (show i = 1 ∨ i = 2 ∨ i = 3 ∨ i = 4 ∨ i = 5 ∨ i = 6 ∨ i = 7 ∨ i = 8 ∨ i = 9 ∨ i = 10 from by omega) with rfl | rfl | rfl | rfl | rfl | rfl | rfl | rfl | rfl | rfl
    · have cw : wr.cell? ⟨ws, 1, none⟩ = some (.string (S8 (Wm.wd 1))) := cell_of_row _ _ 1 _ _ (0, 0) HWR.out
      rcases HKS.out 1 (by omega) (by omega) with ⟨h1, h2⟩ | ⟨h1, h2, h3⟩ | ⟨h1, h2, h3⟩
      · have k1 : ((S8 (Wm.wd 1)).toList == sv.toList) = false := beq_eq_false_iff_ne.2 (fun h => h1 (ba_inj h))
        have HUP : Hid (keyTo ky (1 + 1) = keyTo ky 1) := Lib.hid (by unfold keyTo; split <;> split <;> omega)
        clear h1 h2
        go_wp2_with fail
        go_roundw
        case rel => exact ⟨2, by omega, by omega, by first | rfl | go_num, HWR, Lib.hid (by rw [show 2 = 1 + 1 from rfl, HUP.out, HVX.out]; exact HGS.out)⟩
        case measure => simp [intOf]
      · have k1 : ((S8 (Wm.wd 1)).toList == sv.toList) = true := by rw [h1]; exact beq_self_eq_true _
        have k2 : ((kd : Int) == 1) = false := by rw [beq_eq_false_iff_ne]; omega
        have k3 : (kd == 1) = false := by rw [beq_eq_false_iff_ne]; omega
        have HUP : Hid (keyTo ky (1 + 1) = keyTo ky 1) := Lib.hid (by unfold keyTo; split <;> split <;> omega)
        clear h1 h2 h3
        go_wp2_with fail
        go_roundw
        case rel => exact ⟨2, by omega, by omega, by first | rfl | go_num, HWR, Lib.hid (by rw [show 2 = 1 + 1 from rfl, HUP.out, HVX.out]; exact HGS.out)⟩
        case measure => simp [intOf]
      · have k1 : ((S8 (Wm.wd 1)).toList == sv.toList) = true := by rw [h1]; exact beq_self_eq_true _
        have k2 : ((kd : Int) == 1) = true := by rw [beq_iff_eq]; omega
        have k3 : (kd == 1) = true := by rw [beq_iff_eq]; omega
        have HUP : Hid (keyTo ky (1 + 1) = 1) := Lib.hid (by unfold keyTo; rw [if_pos (by omega)]; exact h3)
        have HGN := Lib.hid (HGS.out.set hP HGG.out 0 (.int .i64 1))
        have HWN := Lib.hid (show (wr.setCell ⟨g, 0, none⟩ (.int .i64 1)).heap[ws]? = some (.cells wordR 9) from (Below.heap_setCell wr _ _ _ (by simp; exact fun e => HNE.out e.symm)).trans HWR.out)
        clear h1 h2 h3
        go_wp2_with fail
        go_roundw
        case rel => exact ⟨2, by omega, by omega, by first | rfl | go_num, HWN, Lib.hid (by rw [show 2 = 1 + 1 from rfl, HUP.out]; exact HGN.out)⟩
        case measure => simp [intOf]
    · have cw : wr.cell? ⟨ws, 2, none⟩ = some (.string (S8 (Wm.wd 2))) := cell_of_row _ _ 2 _ _ (0, 0) HWR.out
      rcases HKS.out 2 (by omega) (by omega) with ⟨h1, h2⟩ | ⟨h1, h2, h3⟩ | ⟨h1, h2, h3⟩
      · have k1 : ((S8 (Wm.wd 2)).toList == sv.toList) = false := beq_eq_false_iff_ne.2 (fun h => h1 (ba_inj h))
        have HUP : Hid (keyTo ky (2 + 1) = keyTo ky 2) := Lib.hid (by unfold keyTo; split <;> split <;> omega)
        clear h1 h2
        go_wp2_with fail
        go_roundw
        case rel => exact ⟨3, by omega, by omega, by first | rfl | go_num, HWR, Lib.hid (by rw [show 3 = 2 + 1 from rfl, HUP.out, HVX.out]; exact HGS.out)⟩
        case measure => simp [intOf]
      · have k1 : ((S8 (Wm.wd 2)).toList == sv.toList) = true := by rw [h1]; exact beq_self_eq_true _
        have k2 : ((kd : Int) == 1) = false := by rw [beq_eq_false_iff_ne]; omega
        have k3 : (kd == 1) = false := by rw [beq_eq_false_iff_ne]; omega
        have HUP : Hid (keyTo ky (2 + 1) = keyTo ky 2) := Lib.hid (by unfold keyTo; split <;> split <;> omega)
        clear h1 h2 h3
        go_wp2_with fail
        go_roundw
        case rel => exact ⟨3, by omega, by omega, by first | rfl | go_num, HWR, Lib.hid (by rw [show 3 = 2 + 1 from rfl, HUP.out, HVX.out]; exact HGS.out)⟩
        case measure => simp [intOf]
      · have k1 : ((S8 (Wm.wd 2)).toList == sv.toList) = true := by rw [h1]; exact beq_self_eq_true _
        have k2 : ((kd : Int) == 1) = true := by rw [beq_iff_eq]; omega
        have k3 : (kd == 1) = true := by rw [beq_iff_eq]; omega
        have HUP : Hid (keyTo ky (2 + 1) = 2) := Lib.hid (by unfold keyTo; rw [if_pos (by omega)]; exact h3)
        have HGN := Lib.hid (HGS.out.set hP HGG.out 0 (.int .i64 2))
        have HWN := Lib.hid (show (wr.setCell ⟨g, 0, none⟩ (.int .i64 2)).heap[ws]? = some (.cells wordR 9) from (Below.heap_setCell wr _ _ _ (by simp; exact fun e => HNE.out e.symm)).trans HWR.out)
        clear h1 h2 h3
        go_wp2_with fail
        go_roundw
        case rel => exact ⟨3, by omega, by omega, by first | rfl | go_num, HWN, Lib.hid (by rw [show 3 = 2 + 1 from rfl, HUP.out]; exact HGN.out)⟩
        case measure => simp [intOf]
    · have cw : wr.cell? ⟨ws, 3, none⟩ = some (.string (S8 (Wm.wd 3))) := cell_of_row _ _ 3 _ _ (0, 0) HWR.out
      rcases HKS.out 3 (by omega) (by omega) with ⟨h1, h2⟩ | ⟨h1, h2, h3⟩ | ⟨h1, h2, h3⟩
      · have k1 : ((S8 (Wm.wd 3)).toList == sv.toList) = false := beq_eq_false_iff_ne.2 (fun h => h1 (ba_inj h))
        have HUP : Hid (keyTo ky (3 + 1) = keyTo ky 3) := Lib.hid (by unfold keyTo; split <;> split <;> omega)
        clear h1 h2
        go_wp2_with fail
        go_roundw
        case rel => exact ⟨4, by omega, by omega, by first | rfl | go_num, HWR, Lib.hid (by rw [show 4 = 3 + 1 from rfl, HUP.out, HVX.out]; exact HGS.out)⟩
        case measure => simp [intOf]
      · have k1 : ((S8 (Wm.wd 3)).toList == sv.toList) = true := by rw [h1]; exact beq_self_eq_true _
        have k2 : ((kd : Int) == 1) = false := by rw [beq_eq_false_iff_ne]; omega
        have k3 : (kd == 1) = false := by rw [beq_eq_false_iff_ne]; omega
        have HUP : Hid (keyTo ky (3 + 1) = keyTo ky 3) := Lib.hid (by unfold keyTo; split <;> split <;> omega)
        clear h1 h2 h3
        go_wp2_with fail
        go_roundw
        case rel => exact ⟨4, by omega, by omega, by first | rfl | go_num, HWR, Lib.hid (by rw [show 4 = 3 + 1 from rfl, HUP.out, HVX.out]; exact HGS.out)⟩
        case measure => simp [intOf]
      · have k1 : ((S8 (Wm.wd 3)).toList == sv.toList) = true := by rw [h1]; exact beq_self_eq_true _
        have k2 : ((kd : Int) == 1) = true := by rw [beq_iff_eq]; omega
        have k3 : (kd == 1) = true := by rw [beq_iff_eq]; omega
        have HUP : Hid (keyTo ky (3 + 1) = 3) := Lib.hid (by unfold keyTo; rw [if_pos (by omega)]; exact h3)
        have HGN := Lib.hid (HGS.out.set hP HGG.out 0 (.int .i64 3))
        have HWN := Lib.hid (show (wr.setCell ⟨g, 0, none⟩ (.int .i64 3)).heap[ws]? = some (.cells wordR 9) from (Below.heap_setCell wr _ _ _ (by simp; exact fun e => HNE.out e.symm)).trans HWR.out)
        clear h1 h2 h3
        go_wp2_with fail
        go_roundw
        case rel => exact ⟨4, by omega, by omega, by first | rfl | go_num, HWN, Lib.hid (by rw [show 4 = 3 + 1 from rfl, HUP.out]; exact HGN.out)⟩
        case measure => simp [intOf]
    · have cw : wr.cell? ⟨ws, 4, none⟩ = some (.string (S8 (Wm.wd 4))) := cell_of_row _ _ 4 _ _ (0, 0) HWR.out
      rcases HKS.out 4 (by omega) (by omega) with ⟨h1, h2⟩ | ⟨h1, h2, h3⟩ | ⟨h1, h2, h3⟩
      · have k1 : ((S8 (Wm.wd 4)).toList == sv.toList) = false := beq_eq_false_iff_ne.2 (fun h => h1 (ba_inj h))
        have HUP : Hid (keyTo ky (4 + 1) = keyTo ky 4) := Lib.hid (by unfold keyTo; split <;> split <;> omega)
        clear h1 h2
        go_wp2_with fail
        go_roundw
        case rel => exact ⟨5, by omega, by omega, by first | rfl | go_num, HWR, Lib.hid (by rw [show 5 = 4 + 1 from rfl, HUP.out, HVX.out]; exact HGS.out)⟩
        case measure => simp [intOf]
      · have k1 : ((S8 (Wm.wd 4)).toList == sv.toList) = true := by rw [h1]; exact beq_self_eq_true _
        have k2 : ((kd : Int) == 1) = false := by rw [beq_eq_false_iff_ne]; omega
        have k3 : (kd == 1) = false := by rw [beq_eq_false_iff_ne]; omega
        have HUP : Hid (keyTo ky (4 + 1) = keyTo ky 4) := Lib.hid (by unfold keyTo; split <;> split <;> omega)
        clear h1 h2 h3
        go_wp2_with fail
        go_roundw
        case rel => exact ⟨5, by omega, by omega, by first | rfl | go_num, HWR, Lib.hid (by rw [show 5 = 4 + 1 from rfl, HUP.out, HVX.out]; exact HGS.out)⟩
        case measure => simp [intOf]
      · have k1 : ((S8 (Wm.wd 4)).toList == sv.toList) = true := by rw [h1]; exact beq_self_eq_true _
        have k2 : ((kd : Int) == 1) = true := by rw [beq_iff_eq]; omega
        have k3 : (kd == 1) = true := by rw [beq_iff_eq]; omega
        have HUP : Hid (keyTo ky (4 + 1) = 4) := Lib.hid (by unfold keyTo; rw [if_pos (by omega)]; exact h3)
        have HGN := Lib.hid (HGS.out.set hP HGG.out 0 (.int .i64 4))
        have HWN := Lib.hid (show (wr.setCell ⟨g, 0, none⟩ (.int .i64 4)).heap[ws]? = some (.cells wordR 9) from (Below.heap_setCell wr _ _ _ (by simp; exact fun e => HNE.out e.symm)).trans HWR.out)
        clear h1 h2 h3
        go_wp2_with fail
        go_roundw
        case rel => exact ⟨5, by omega, by omega, by first | rfl | go_num, HWN, Lib.hid (by rw [show 5 = 4 + 1 from rfl, HUP.out]; exact HGN.out)⟩
        case measure => simp [intOf]
    · have cw : wr.cell? ⟨ws, 5, none⟩ = some (.string (S8 (Wm.wd 5))) := cell_of_row _ _ 5 _ _ (0, 0) HWR.out
      rcases HKS.out 5 (by omega) (by omega) with ⟨h1, h2⟩ | ⟨h1, h2, h3⟩ | ⟨h1, h2, h3⟩
      · have k1 : ((S8 (Wm.wd 5)).toList == sv.toList) = false := beq_eq_false_iff_ne.2 (fun h => h1 (ba_inj h))
        have HUP : Hid (keyTo ky (5 + 1) = keyTo ky 5) := Lib.hid (by unfold keyTo; split <;> split <;> omega)
        clear h1 h2
        go_wp2_with fail
        go_roundw
        case rel => exact ⟨6, by omega, by omega, by first | rfl | go_num, HWR, Lib.hid (by rw [show 6 = 5 + 1 from rfl, HUP.out, HVX.out]; exact HGS.out)⟩
        case measure => simp [intOf]
      · have k1 : ((S8 (Wm.wd 5)).toList == sv.toList) = true := by rw [h1]; exact beq_self_eq_true _
        have k2 : ((kd : Int) == 1) = false := by rw [beq_eq_false_iff_ne]; omega
        have k3 : (kd == 1) = false := by rw [beq_eq_false_iff_ne]; omega
        have HUP : Hid (keyTo ky (5 + 1) = keyTo ky 5) := Lib.hid (by unfold keyTo; split <;> split <;> omega)
        clear h1 h2 h3
        go_wp2_with fail
        go_roundw
        case rel => exact ⟨6, by omega, by omega, by first | rfl | go_num, HWR, Lib.hid (by rw [show 6 = 5 + 1 from rfl, HUP.out, HVX.out]; exact HGS.out)⟩
        case measure => simp [intOf]
      · have k1 : ((S8 (Wm.wd 5)).toList == sv.toList) = true := by rw [h1]; exact beq_self_eq_true _
        have k2 : ((kd : Int) == 1) = true := by rw [beq_iff_eq]; omega
        have k3 : (kd == 1) = true := by rw [beq_iff_eq]; omega
        have HUP : Hid (keyTo ky (5 + 1) = 5) := Lib.hid (by unfold keyTo; rw [if_pos (by omega)]; exact h3)
        have HGN := Lib.hid (HGS.out.set hP HGG.out 0 (.int .i64 5))
        have HWN := Lib.hid (show (wr.setCell ⟨g, 0, none⟩ (.int .i64 5)).heap[ws]? = some (.cells wordR 9) from (Below.heap_setCell wr _ _ _ (by simp; exact fun e => HNE.out e.symm)).trans HWR.out)
        clear h1 h2 h3
        go_wp2_with fail
        go_roundw
        case rel => exact ⟨6, by omega, by omega, by first | rfl | go_num, HWN, Lib.hid (by rw [show 6 = 5 + 1 from rfl, HUP.out]; exact HGN.out)⟩
        case measure => simp [intOf]
    · have cw : wr.cell? ⟨ws, 6, none⟩ = some (.string (S8 (Wm.wd 6))) := cell_of_row _ _ 6 _ _ (0, 0) HWR.out
      rcases HKS.out 6 (by omega) (by omega) with ⟨h1, h2⟩ | ⟨h1, h2, h3⟩ | ⟨h1, h2, h3⟩
      · have k1 : ((S8 (Wm.wd 6)).toList == sv.toList) = false := beq_eq_false_iff_ne.2 (fun h => h1 (ba_inj h))
        have HUP : Hid (keyTo ky (6 + 1) = keyTo ky 6) := Lib.hid (by unfold keyTo; split <;> split <;> omega)
        clear h1 h2
        go_wp2_with fail
        go_roundw
        case rel => exact ⟨7, by omega, by omega, by first | rfl | go_num, HWR, Lib.hid (by rw [show 7 = 6 + 1 from rfl, HUP.out, HVX.out]; exact HGS.out)⟩
        case measure => simp [intOf]
      · have k1 : ((S8 (Wm.wd 6)).toList == sv.toList) = true := by rw [h1]; exact beq_self_eq_true _
        have k2 : ((kd : Int) == 1) = false := by rw [beq_eq_false_iff_ne]; omega
        have k3 : (kd == 1) = false := by rw [beq_eq_false_iff_ne]; omega
        have HUP : Hid (keyTo ky (6 + 1) = keyTo ky 6) := Lib.hid (by unfold keyTo; split <;> split <;> omega)
        clear h1 h2 h3
        go_wp2_with fail
        go_roundw
        case rel => exact ⟨7, by omega, by omega, by first | rfl | go_num, HWR, Lib.hid (by rw [show 7 = 6 + 1 from rfl, HUP.out, HVX.out]; exact HGS.out)⟩
        case measure => simp [intOf]
      · have k1 : ((S8 (Wm.wd 6)).toList == sv.toList) = true := by rw [h1]; exact beq_self_eq_true _
        have k2 : ((kd : Int) == 1) = true := by rw [beq_iff_eq]; omega
        have k3 : (kd == 1) = true := by rw [beq_iff_eq]; omega
        have HUP : Hid (keyTo ky (6 + 1) = 6) := Lib.hid (by unfold keyTo; rw [if_pos (by omega)]; exact h3)
        have HGN := Lib.hid (HGS.out.set hP HGG.out 0 (.int .i64 6))
        have HWN := Lib.hid (show (wr.setCell ⟨g, 0, none⟩ (.int .i64 6)).heap[ws]? = some (.cells wordR 9) from (Below.heap_setCell wr _ _ _ (by simp; exact fun e => HNE.out e.symm)).trans HWR.out)
        clear h1 h2 h3
        go_wp2_with fail
        go_roundw
        case rel => exact ⟨7, by omega, by omega, by first | rfl | go_num, HWN, Lib.hid (by rw [show 7 = 6 + 1 from rfl, HUP.out]; exact HGN.out)⟩
        case measure => simp [intOf]
    · have cw : wr.cell? ⟨ws, 7, none⟩ = some (.string (S8 (Wm.wd 7))) := cell_of_row _ _ 7 _ _ (0, 0) HWR.out
      rcases HKS.out 7 (by omega) (by omega) with ⟨h1, h2⟩ | ⟨h1, h2, h3⟩ | ⟨h1, h2, h3⟩
      · have k1 : ((S8 (Wm.wd 7)).toList == sv.toList) = false := beq_eq_false_iff_ne.2 (fun h => h1 (ba_inj h))
        have HUP : Hid (keyTo ky (7 + 1) = keyTo ky 7) := Lib.hid (by unfold keyTo; split <;> split <;> omega)
        clear h1 h2
        go_wp2_with fail
        go_roundw
        case rel => exact ⟨8, by omega, by omega, by first | rfl | go_num, HWR, Lib.hid (by rw [show 8 = 7 + 1 from rfl, HUP.out, HVX.out]; exact HGS.out)⟩
        case measure => simp [intOf]
      · have k1 : ((S8 (Wm.wd 7)).toList == sv.toList) = true := by rw [h1]; exact beq_self_eq_true _
        have k2 : ((kd : Int) == 1) = false := by rw [beq_eq_false_iff_ne]; omega
        have k3 : (kd == 1) = false := by rw [beq_eq_false_iff_ne]; omega
        have HUP : Hid (keyTo ky (7 + 1) = keyTo ky 7) := Lib.hid (by unfold keyTo; split <;> split <;> omega)
        clear h1 h2 h3
        go_wp2_with fail
        go_roundw
        case rel => exact ⟨8, by omega, by omega, by first | rfl | go_num, HWR, Lib.hid (by rw [show 8 = 7 + 1 from rfl, HUP.out, HVX.out]; exact HGS.out)⟩
        case measure => simp [intOf]
      · have k1 : ((S8 (Wm.wd 7)).toList == sv.toList) = true := by rw [h1]; exact beq_self_eq_true _
        have k2 : ((kd : Int) == 1) = true := by rw [beq_iff_eq]; omega
        have k3 : (kd == 1) = true := by rw [beq_iff_eq]; omega
        have HUP : Hid (keyTo ky (7 + 1) = 7) := Lib.hid (by unfold keyTo; rw [if_pos (by omega)]; exact h3)
        have HGN := Lib.hid (HGS.out.set hP HGG.out 0 (.int .i64 7))
        have HWN := Lib.hid (show (wr.setCell ⟨g, 0, none⟩ (.int .i64 7)).heap[ws]? = some (.cells wordR 9) from (Below.heap_setCell wr _ _ _ (by simp; exact fun e => HNE.out e.symm)).trans HWR.out)
        clear h1 h2 h3
        go_wp2_with fail
        go_roundw
        case rel => exact ⟨8, by omega, by omega, by first | rfl | go_num, HWN, Lib.hid (by rw [show 8 = 7 + 1 from rfl, HUP.out]; exact HGN.out)⟩
        case measure => simp [intOf]
    · have cw : wr.cell? ⟨ws, 8, none⟩ = some (.string (S8 (Wm.wd 8))) := cell_of_row _ _ 8 _ _ (0, 0) HWR.out
      rcases HKS.out 8 (by omega) (by omega) with ⟨h1, h2⟩ | ⟨h1, h2, h3⟩ | ⟨h1, h2, h3⟩
      · have k1 : ((S8 (Wm.wd 8)).toList == sv.toList) = false := beq_eq_false_iff_ne.2 (fun h => h1 (ba_inj h))
        have HUP : Hid (keyTo ky (8 + 1) = keyTo ky 8) := Lib.hid (by unfold keyTo; split <;> split <;> omega)
        clear h1 h2
        go_wp2_with fail
        go_roundw
        case rel => exact ⟨9, by omega, by omega, by first | rfl | go_num, HWR, Lib.hid (by rw [show 9 = 8 + 1 from rfl, HUP.out, HVX.out]; exact HGS.out)⟩
        case measure => simp [intOf]
      · have k1 : ((S8 (Wm.wd 8)).toList == sv.toList) = true := by rw [h1]; exact beq_self_eq_true _
        have k2 : ((kd : Int) == 1) = false := by rw [beq_eq_false_iff_ne]; omega
        have k3 : (kd == 1) = false := by rw [beq_eq_false_iff_ne]; omega
        have HUP : Hid (keyTo ky (8 + 1) = keyTo ky 8) := Lib.hid (by unfold keyTo; split <;> split <;> omega)
        clear h1 h2 h3
        go_wp2_with fail
        go_roundw
        case rel => exact ⟨9, by omega, by omega, by first | rfl | go_num, HWR, Lib.hid (by rw [show 9 = 8 + 1 from rfl, HUP.out, HVX.out]; exact HGS.out)⟩
        case measure => simp [intOf]
      · have k1 : ((S8 (Wm.wd 8)).toList == sv.toList) = true := by rw [h1]; exact beq_self_eq_true _
        have k2 : ((kd : Int) == 1) = true := by rw [beq_iff_eq]; omega
        have k3 : (kd == 1) = true := by rw [beq_iff_eq]; omega
        have HUP : Hid (keyTo ky (8 + 1) = 8) := Lib.hid (by unfold keyTo; rw [if_pos (by omega)]; exact h3)
        have HGN := Lib.hid (HGS.out.set hP HGG.out 0 (.int .i64 8))
        have HWN := Lib.hid (show (wr.setCell ⟨g, 0, none⟩ (.int .i64 8)).heap[ws]? = some (.cells wordR 9) from (Below.heap_setCell wr _ _ _ (by simp; exact fun e => HNE.out e.symm)).trans HWR.out)
        clear h1 h2 h3
        go_wp2_with fail
        go_roundw
        case rel => exact ⟨9, by omega, by omega, by first | rfl | go_num, HWN, Lib.hid (by rw [show 9 = 8 + 1 from rfl, HUP.out]; exact HGN.out)⟩
        case measure => simp [intOf]
    · have cw : wr.cell? ⟨ws, 9, none⟩ = some (.string (S8 (Wm.wd 9))) := cell_of_row _ _ 9 _ _ (0, 0) HWR.out
      rcases HKS.out 9 (by omega) (by omega) with ⟨h1, h2⟩ | ⟨h1, h2, h3⟩ | ⟨h1, h2, h3⟩
      · have k1 : ((S8 (Wm.wd 9)).toList == sv.toList) = false := beq_eq_false_iff_ne.2 (fun h => h1 (ba_inj h))
        have HUP : Hid (keyTo ky (9 + 1) = keyTo ky 9) := Lib.hid (by unfold keyTo; split <;> split <;> omega)
        clear h1 h2
        go_wp2_with fail
        go_roundw
        case rel => exact ⟨10, by omega, by omega, by first | rfl | go_num, HWR, Lib.hid (by rw [show 10 = 9 + 1 from rfl, HUP.out, HVX.out]; exact HGS.out)⟩
        case measure => simp [intOf]
      · have k1 : ((S8 (Wm.wd 9)).toList == sv.toList) = true := by rw [h1]; exact beq_self_eq_true _
        have k2 : ((kd : Int) == 1) = false := by rw [beq_eq_false_iff_ne]; omega
        have k3 : (kd == 1) = false := by rw [beq_eq_false_iff_ne]; omega
        have HUP : Hid (keyTo ky (9 + 1) = keyTo ky 9) := Lib.hid (by unfold keyTo; split <;> split <;> omega)
        clear h1 h2 h3
        go_wp2_with fail
        go_roundw
        case rel => exact ⟨10, by omega, by omega, by first | rfl | go_num, HWR, Lib.hid (by rw [show 10 = 9 + 1 from rfl, HUP.out, HVX.out]; exact HGS.out)⟩
        case measure => simp [intOf]
      · have k1 : ((S8 (Wm.wd 9)).toList == sv.toList) = true := by rw [h1]; exact beq_self_eq_true _
        have k2 : ((kd : Int) == 1) = true := by rw [beq_iff_eq]; omega
        have k3 : (kd == 1) = true := by rw [beq_iff_eq]; omega
        have HUP : Hid (keyTo ky (9 + 1) = 9) := Lib.hid (by unfold keyTo; rw [if_pos (by omega)]; exact h3)
        have HGN := Lib.hid (HGS.out.set hP HGG.out 0 (.int .i64 9))
        have HWN := Lib.hid (show (wr.setCell ⟨g, 0, none⟩ (.int .i64 9)).heap[ws]? = some (.cells wordR 9) from (Below.heap_setCell wr _ _ _ (by simp; exact fun e => HNE.out e.symm)).trans HWR.out)
        clear h1 h2 h3
        go_wp2_with fail
        go_roundw
        case rel => exact ⟨10, by omega, by omega, by first | rfl | go_num, HWN, Lib.hid (by rw [show 10 = 9 + 1 from rfl, HUP.out]; exact HGN.out)⟩
        case measure => simp [intOf]
    · obtain rfl : vx = ky := by rw [← HVX.out]; unfold keyTo; exact if_pos (by omega)
      have hdr := HGS.out.r.1
      unfold DRow at hdr
      have p1 : wr.cell? ⟨P, 1, none⟩ = some (.int .i64 ((s.size - l.length : Nat) : Int)) := cell_of_row _ _ 1 _ _ (0, 0) hdr
      have pf1 : wr.frozen? ⟨P, 1, none⟩ = false := pfrz hdr
      have p2 : wr.cell? ⟨P, 2, none⟩ = some (.int .i64 (-1)) := cell_of_row _ _ 2 _ _ (0, 0) hdr
      clear hdr
      rcases (show vx = 0 ∨ vx = 5 ∨ vx = 6 ∨ (vx = 1 ∨ vx = 2 ∨ vx = 3) ∨ (vx = 4 ∨ 7 ≤ vx) from by omega) with rfl | rfl | rfl | hv | hv
      · have HRES : Hid (Wm.pol (f + 1) l = .bad (Wm.tok l).from_) := Lib.hid (by rw [Wm.pol, if_pos HKY.out])
        rw [show ((0 : Nat) : Int) = 0 from rfl] at HGS d0
        have c0 : wr.cell? ⟨W.heap.size, 0, none⟩ = some (.int .i64 0) := cell_of_row _ _ 0 _ _ (0, 0) HGS.out.z
        have c1 : wr.cell? ⟨W.heap.size, 1, none⟩ = some (.int .i64 0) := cell_of_row _ _ 1 _ _ (0, 0) HGS.out.z
        have c2 : wr.cell? ⟨W.heap.size, 2, none⟩ = some (.string ⟨#[]⟩) := cell_of_row _ _ 2 _ _ (0, 0) HGS.out.z
        have c3 : wr.cell? ⟨W.heap.size, 3, none⟩ = some (.string ⟨#[]⟩) := cell_of_row _ _ 3 _ _ (0, 0) HGS.out.z
        have c4 : wr.cell? ⟨W.heap.size, 4, none⟩ = some (.slice none 0 0) := cell_of_row _ _ 4 _ _ (0, 0) HGS.out.z
        have cf0 : wr.frozen? ⟨W.heap.size, 0, none⟩ = false := pfrz HGS.out.z
        have cf1 : wr.frozen? ⟨W.heap.size, 1, none⟩ = false := pfrz HGS.out.z
        have cf2 : wr.frozen? ⟨W.heap.size, 2, none⟩ = false := pfrz HGS.out.z
        have cf3 : wr.frozen? ⟨W.heap.size, 3, none⟩ = false := pfrz HGS.out.z
        have cf4 : wr.frozen? ⟨W.heap.size, 4, none⟩ = false := pfrz HGS.out.z
        go_wp2_with (go_at_call 22; (with_reducible refine (dfail_any s L P (.at_ l) _ HLL.out HS.out HGS.out.r).mono ?_); rintro e4 w4 ⟨rfl, hr4, hg4⟩; have GS4 := Lib.hid (HGS.out.call hg4 hr4 hP HGG.out); clear hr4 hg4; clear d0 d1 d2 d3 d4 df0 df1 df2 df3 df4 c0 c1 c2 c3 c4 cf0 cf1 cf2 cf3 cf4; have HX := Lib.hid GS4.out.x; have HZ := Lib.hid GS4.out.z; have d0 : w4.cell? ⟨g, 0, none⟩ = some (.int .i64 0) := cell_of_row _ _ 0 _ _ (0, 0) HX.out; have d1 : w4.cell? ⟨g, 1, none⟩ = some (.int .i64 0) := cell_of_row _ _ 1 _ _ (0, 0) HX.out; have d2 : w4.cell? ⟨g, 2, none⟩ = some (.string ⟨#[]⟩) := cell_of_row _ _ 2 _ _ (0, 0) HX.out; have d3 : w4.cell? ⟨g, 3, none⟩ = some (.string ⟨#[]⟩) := cell_of_row _ _ 3 _ _ (0, 0) HX.out; have d4 : w4.cell? ⟨g, 4, none⟩ = some (.slice none 0 0) := cell_of_row _ _ 4 _ _ (0, 0) HX.out; have df0 : w4.frozen? ⟨g, 0, none⟩ = false := pfrz HX.out; have df1 : w4.frozen? ⟨g, 1, none⟩ = false := pfrz HX.out; have df2 : w4.frozen? ⟨g, 2, none⟩ = false := pfrz HX.out; have df3 : w4.frozen? ⟨g, 3, none⟩ = false := pfrz HX.out; have df4 : w4.frozen? ⟨g, 4, none⟩ = false := pfrz HX.out; have c0 : w4.cell? ⟨W.heap.size, 0, none⟩ = some (.int .i64 0) := cell_of_row _ _ 0 _ _ (0, 0) HZ.out; have c1 : w4.cell? ⟨W.heap.size, 1, none⟩ = some (.int .i64 0) := cell_of_row _ _ 1 _ _ (0, 0) HZ.out; have c2 : w4.cell? ⟨W.heap.size, 2, none⟩ = some (.string ⟨#[]⟩) := cell_of_row _ _ 2 _ _ (0, 0) HZ.out; have c3 : w4.cell? ⟨W.heap.size, 3, none⟩ = some (.string ⟨#[]⟩) := cell_of_row _ _ 3 _ _ (0, 0) HZ.out; have c4 : w4.cell? ⟨W.heap.size, 4, none⟩ = some (.slice none 0 0) := cell_of_row _ _ 4 _ _ (0, 0) HZ.out; have cf0 : w4.frozen? ⟨W.heap.size, 0, none⟩ = false := pfrz HZ.out; have cf1 : w4.frozen? ⟨W.heap.size, 1, none⟩ = false := pfrz HZ.out; have cf2 : w4.frozen? ⟨W.heap.size, 2, none⟩ = false := pfrz HZ.out; have cf3 : w4.frozen? ⟨W.heap.size, 3, none⟩ = false := pfrz HZ.out; have cf4 : w4.frozen? ⟨W.heap.size, 4, none⟩ = false := pfrz HZ.out; clear HX HZ)
        have HFIN := dfin5 GS4.out.r GS4.out.gr hP GS4.out.z (.int .i64 0) (.int .i64 0) (.string ⟨#[]⟩) (.string ⟨#[]⟩) (.slice none 0 0)
        have hrw := HFIN.2.2.2.2
        have q0 : (((((w4.setCell ⟨W.heap.size, 0, none⟩ (.int .i64 0)).setCell ⟨W.heap.size, 1, none⟩ (.int .i64 0)).setCell ⟨W.heap.size, 2, none⟩ (.string ⟨#[]⟩)).setCell ⟨W.heap.size, 3, none⟩ (.string ⟨#[]⟩)).setCell ⟨W.heap.size, 4, none⟩ (.slice none 0 0)).cell? ⟨W.heap.size, 0, none⟩ = some (.int .i64 0) := cell_of_row _ _ 0 _ _ (0, 0) hrw
        have q1 : (((((w4.setCell ⟨W.heap.size, 0, none⟩ (.int .i64 0)).setCell ⟨W.heap.size, 1, none⟩ (.int .i64 0)).setCell ⟨W.heap.size, 2, none⟩ (.string ⟨#[]⟩)).setCell ⟨W.heap.size, 3, none⟩ (.string ⟨#[]⟩)).setCell ⟨W.heap.size, 4, none⟩ (.slice none 0 0)).cell? ⟨W.heap.size, 1, none⟩ = some (.int .i64 0) := cell_of_row _ _ 1 _ _ (0, 0) hrw
        have q2 : (((((w4.setCell ⟨W.heap.size, 0, none⟩ (.int .i64 0)).setCell ⟨W.heap.size, 1, none⟩ (.int .i64 0)).setCell ⟨W.heap.size, 2, none⟩ (.string ⟨#[]⟩)).setCell ⟨W.heap.size, 3, none⟩ (.string ⟨#[]⟩)).setCell ⟨W.heap.size, 4, none⟩ (.slice none 0 0)).cell? ⟨W.heap.size, 2, none⟩ = some (.string ⟨#[]⟩) := cell_of_row _ _ 2 _ _ (0, 0) hrw
        have q3 : (((((w4.setCell ⟨W.heap.size, 0, none⟩ (.int .i64 0)).setCell ⟨W.heap.size, 1, none⟩ (.int .i64 0)).setCell ⟨W.heap.size, 2, none⟩ (.string ⟨#[]⟩)).setCell ⟨W.heap.size, 3, none⟩ (.string ⟨#[]⟩)).setCell ⟨W.heap.size, 4, none⟩ (.slice none 0 0)).cell? ⟨W.heap.size, 3, none⟩ = some (.string ⟨#[]⟩) := cell_of_row _ _ 3 _ _ (0, 0) hrw
        have q4 : (((((w4.setCell ⟨W.heap.size, 0, none⟩ (.int .i64 0)).setCell ⟨W.heap.size, 1, none⟩ (.int .i64 0)).setCell ⟨W.heap.size, 2, none⟩ (.string ⟨#[]⟩)).setCell ⟨W.heap.size, 3, none⟩ (.string ⟨#[]⟩)).setCell ⟨W.heap.size, 4, none⟩ (.slice none 0 0)).cell? ⟨W.heap.size, 4, none⟩ = some (.slice none 0 0) := cell_of_row _ _ 4 _ _ (0, 0) hrw
        refine bodyPost_ret (v := .agg #[.int .i64 0, .int .i64 0, .string ⟨#[]⟩, .string ⟨#[]⟩, .slice none 0 0]) (by simp [results, Tryd.results20, go_sem, q0, q1, q2, q3, q4]) rfl ?_
        rw [HRES.out]

        exact ⟨.mk 0 0 ⟨#[]⟩ ⟨#[]⟩ [], rcs 0 0 ⟨#[]⟩ ⟨#[]⟩ none 0 0, rfl, RdP.leaf _ _ 0 0 ⟨#[]⟩ ⟨#[]⟩ (by omega) (by omega) (Nat.zero_le _) (Nat.zero_le _), HFIN.1, (fun t' r e => by cases e), HFIN.2.1⟩
      · have HRES : Hid (Wm.pol (f + 1) l = .ok (.mk 5 0 ⟨#[]⟩ ⟨#[]⟩ []) (Wm.tok l).rest) := Lib.hid (by rw [Wm.pol, if_neg (by rw [HKY.out]; decide), if_pos HKY.out])
        rw [show ((5 : Nat) : Int) = 5 from rfl] at HGS d0
        have c0 : wr.cell? ⟨W.heap.size, 0, none⟩ = some (.int .i64 0) := cell_of_row _ _ 0 _ _ (0, 0) HGS.out.z
        have c1 : wr.cell? ⟨W.heap.size, 1, none⟩ = some (.int .i64 0) := cell_of_row _ _ 1 _ _ (0, 0) HGS.out.z
        have c2 : wr.cell? ⟨W.heap.size, 2, none⟩ = some (.string ⟨#[]⟩) := cell_of_row _ _ 2 _ _ (0, 0) HGS.out.z
        have c3 : wr.cell? ⟨W.heap.size, 3, none⟩ = some (.string ⟨#[]⟩) := cell_of_row _ _ 3 _ _ (0, 0) HGS.out.z
        have c4 : wr.cell? ⟨W.heap.size, 4, none⟩ = some (.slice none 0 0) := cell_of_row _ _ 4 _ _ (0, 0) HGS.out.z
        have cf0 : wr.frozen? ⟨W.heap.size, 0, none⟩ = false := pfrz HGS.out.z
        have cf1 : wr.frozen? ⟨W.heap.size, 1, none⟩ = false := pfrz HGS.out.z
        have cf2 : wr.frozen? ⟨W.heap.size, 2, none⟩ = false := pfrz HGS.out.z
        have cf3 : wr.frozen? ⟨W.heap.size, 3, none⟩ = false := pfrz HGS.out.z
        have cf4 : wr.frozen? ⟨W.heap.size, 4, none⟩ = false := pfrz HGS.out.z
        have GS2 := Lib.hid (HGS.out.read hP HGG.out HRA.out (Wm.Suf.trans (Wm.tok_ok l).rests (Wm.tok_ok l).froms))
        have HX2 := Lib.hid GS2.out.x
        have x0 : (wr.setCell ⟨P, 1, none⟩ (.int .i64 (ra : Int))).cell? ⟨g, 0, none⟩ = some (.int .i64 5) := cell_of_row _ _ 0 _ _ (0, 0) HX2.out
        have x1 : (wr.setCell ⟨P, 1, none⟩ (.int .i64 (ra : Int))).cell? ⟨g, 1, none⟩ = some (.int .i64 0) := cell_of_row _ _ 1 _ _ (0, 0) HX2.out
        have x2 : (wr.setCell ⟨P, 1, none⟩ (.int .i64 (ra : Int))).cell? ⟨g, 2, none⟩ = some (.string ⟨#[]⟩) := cell_of_row _ _ 2 _ _ (0, 0) HX2.out
        have x3 : (wr.setCell ⟨P, 1, none⟩ (.int .i64 (ra : Int))).cell? ⟨g, 3, none⟩ = some (.string ⟨#[]⟩) := cell_of_row _ _ 3 _ _ (0, 0) HX2.out
        have x4 : (wr.setCell ⟨P, 1, none⟩ (.int .i64 (ra : Int))).cell? ⟨g, 4, none⟩ = some (.slice none 0 0) := cell_of_row _ _ 4 _ _ (0, 0) HX2.out
        have xf0 : (wr.setCell ⟨P, 1, none⟩ (.int .i64 (ra : Int))).frozen? ⟨g, 0, none⟩ = false := pfrz HX2.out
        have xf1 : (wr.setCell ⟨P, 1, none⟩ (.int .i64 (ra : Int))).frozen? ⟨g, 1, none⟩ = false := pfrz HX2.out
        have xf2 : (wr.setCell ⟨P, 1, none⟩ (.int .i64 (ra : Int))).frozen? ⟨g, 2, none⟩ = false := pfrz HX2.out
        have xf3 : (wr.setCell ⟨P, 1, none⟩ (.int .i64 (ra : Int))).frozen? ⟨g, 3, none⟩ = false := pfrz HX2.out
        have xf4 : (wr.setCell ⟨P, 1, none⟩ (.int .i64 (ra : Int))).frozen? ⟨g, 4, none⟩ = false := pfrz HX2.out
        have HZ2 := Lib.hid GS2.out.z
        have y0 : (wr.setCell ⟨P, 1, none⟩ (.int .i64 (ra : Int))).cell? ⟨W.heap.size, 0, none⟩ = some (.int .i64 0) := cell_of_row _ _ 0 _ _ (0, 0) HZ2.out
        have y1 : (wr.setCell ⟨P, 1, none⟩ (.int .i64 (ra : Int))).cell? ⟨W.heap.size, 1, none⟩ = some (.int .i64 0) := cell_of_row _ _ 1 _ _ (0, 0) HZ2.out
        have y2 : (wr.setCell ⟨P, 1, none⟩ (.int .i64 (ra : Int))).cell? ⟨W.heap.size, 2, none⟩ = some (.string ⟨#[]⟩) := cell_of_row _ _ 2 _ _ (0, 0) HZ2.out
        have y3 : (wr.setCell ⟨P, 1, none⟩ (.int .i64 (ra : Int))).cell? ⟨W.heap.size, 3, none⟩ = some (.string ⟨#[]⟩) := cell_of_row _ _ 3 _ _ (0, 0) HZ2.out
        have y4 : (wr.setCell ⟨P, 1, none⟩ (.int .i64 (ra : Int))).cell? ⟨W.heap.size, 4, none⟩ = some (.slice none 0 0) := cell_of_row _ _ 4 _ _ (0, 0) HZ2.out
        have yf0 : (wr.setCell ⟨P, 1, none⟩ (.int .i64 (ra : Int))).frozen? ⟨W.heap.size, 0, none⟩ = false := pfrz HZ2.out
        have yf1 : (wr.setCell ⟨P, 1, none⟩ (.int .i64 (ra : Int))).frozen? ⟨W.heap.size, 1, none⟩ = false := pfrz HZ2.out
        have yf2 : (wr.setCell ⟨P, 1, none⟩ (.int .i64 (ra : Int))).frozen? ⟨W.heap.size, 2, none⟩ = false := pfrz HZ2.out
        have yf3 : (wr.setCell ⟨P, 1, none⟩ (.int .i64 (ra : Int))).frozen? ⟨W.heap.size, 3, none⟩ = false := pfrz HZ2.out
        have yf4 : (wr.setCell ⟨P, 1, none⟩ (.int .i64 (ra : Int))).frozen? ⟨W.heap.size, 4, none⟩ = false := pfrz HZ2.out
        go_wp2_with fail
        have HFIN := dfin5 GS2.out.r GS2.out.gr hP GS2.out.z (.int .i64 5) (.int .i64 0) (.string ⟨#[]⟩) (.string ⟨#[]⟩) (.slice none 0 0)
        have hrw := HFIN.2.2.2.2
        have q0 : ((((((wr.setCell ⟨P, 1, none⟩ (.int .i64 (ra : Int))).setCell ⟨W.heap.size, 0, none⟩ (.int .i64 5)).setCell ⟨W.heap.size, 1, none⟩ (.int .i64 0)).setCell ⟨W.heap.size, 2, none⟩ (.string ⟨#[]⟩)).setCell ⟨W.heap.size, 3, none⟩ (.string ⟨#[]⟩)).setCell ⟨W.heap.size, 4, none⟩ (.slice none 0 0)).cell? ⟨W.heap.size, 0, none⟩ = some (.int .i64 5) := cell_of_row _ _ 0 _ _ (0, 0) hrw
        have q1 : ((((((wr.setCell ⟨P, 1, none⟩ (.int .i64 (ra : Int))).setCell ⟨W.heap.size, 0, none⟩ (.int .i64 5)).setCell ⟨W.heap.size, 1, none⟩ (.int .i64 0)).setCell ⟨W.heap.size, 2, none⟩ (.string ⟨#[]⟩)).setCell ⟨W.heap.size, 3, none⟩ (.string ⟨#[]⟩)).setCell ⟨W.heap.size, 4, none⟩ (.slice none 0 0)).cell? ⟨W.heap.size, 1, none⟩ = some (.int .i64 0) := cell_of_row _ _ 1 _ _ (0, 0) hrw
        have q2 : ((((((wr.setCell ⟨P, 1, none⟩ (.int .i64 (ra : Int))).setCell ⟨W.heap.size, 0, none⟩ (.int .i64 5)).setCell ⟨W.heap.size, 1, none⟩ (.int .i64 0)).setCell ⟨W.heap.size, 2, none⟩ (.string ⟨#[]⟩)).setCell ⟨W.heap.size, 3, none⟩ (.string ⟨#[]⟩)).setCell ⟨W.heap.size, 4, none⟩ (.slice none 0 0)).cell? ⟨W.heap.size, 2, none⟩ = some (.string ⟨#[]⟩) := cell_of_row _ _ 2 _ _ (0, 0) hrw
        have q3 : ((((((wr.setCell ⟨P, 1, none⟩ (.int .i64 (ra : Int))).setCell ⟨W.heap.size, 0, none⟩ (.int .i64 5)).setCell ⟨W.heap.size, 1, none⟩ (.int .i64 0)).setCell ⟨W.heap.size, 2, none⟩ (.string ⟨#[]⟩)).setCell ⟨W.heap.size, 3, none⟩ (.string ⟨#[]⟩)).setCell ⟨W.heap.size, 4, none⟩ (.slice none 0 0)).cell? ⟨W.heap.size, 3, none⟩ = some (.string ⟨#[]⟩) := cell_of_row _ _ 3 _ _ (0, 0) hrw
        have q4 : ((((((wr.setCell ⟨P, 1, none⟩ (.int .i64 (ra : Int))).setCell ⟨W.heap.size, 0, none⟩ (.int .i64 5)).setCell ⟨W.heap.size, 1, none⟩ (.int .i64 0)).setCell ⟨W.heap.size, 2, none⟩ (.string ⟨#[]⟩)).setCell ⟨W.heap.size, 3, none⟩ (.string ⟨#[]⟩)).setCell ⟨W.heap.size, 4, none⟩ (.slice none 0 0)).cell? ⟨W.heap.size, 4, none⟩ = some (.slice none 0 0) := cell_of_row _ _ 4 _ _ (0, 0) hrw
        refine bodyPost_ret (v := .agg #[.int .i64 5, .int .i64 0, .string ⟨#[]⟩, .string ⟨#[]⟩, .slice none 0 0]) (by simp [results, Tryd.results20, go_sem, q0, q1, q2, q3, q4]) rfl ?_
        rw [HRES.out]

        exact ⟨.mk 5 0 ⟨#[]⟩ ⟨#[]⟩ [], rcs 5 0 ⟨#[]⟩ ⟨#[]⟩ none 0 0, rfl, RdP.leaf _ _ 5 0 ⟨#[]⟩ ⟨#[]⟩ (by omega) (by omega) (Nat.zero_le _) (Nat.zero_le _), HFIN.1, (fun t' r e => by injection e), HFIN.2.1⟩
      · have HRES : Hid (Wm.pol (f + 1) l = Wm.polA (Wm.tok l).rest) := Lib.hid (by rw [Wm.pol, if_neg (by rw [HKY.out]; decide), if_neg (by rw [HKY.out]; decide), if_pos HKY.out])
        rw [show ((6 : Nat) : Int) = 6 from rfl] at HGS d0
        have c0 : wr.cell? ⟨W.heap.size, 0, none⟩ = some (.int .i64 0) := cell_of_row _ _ 0 _ _ (0, 0) HGS.out.z
        have c1 : wr.cell? ⟨W.heap.size, 1, none⟩ = some (.int .i64 0) := cell_of_row _ _ 1 _ _ (0, 0) HGS.out.z
        have c2 : wr.cell? ⟨W.heap.size, 2, none⟩ = some (.string ⟨#[]⟩) := cell_of_row _ _ 2 _ _ (0, 0) HGS.out.z
        have c3 : wr.cell? ⟨W.heap.size, 3, none⟩ = some (.string ⟨#[]⟩) := cell_of_row _ _ 3 _ _ (0, 0) HGS.out.z
        have c4 : wr.cell? ⟨W.heap.size, 4, none⟩ = some (.slice none 0 0) := cell_of_row _ _ 4 _ _ (0, 0) HGS.out.z
        have cf0 : wr.frozen? ⟨W.heap.size, 0, none⟩ = false := pfrz HGS.out.z
        have cf1 : wr.frozen? ⟨W.heap.size, 1, none⟩ = false := pfrz HGS.out.z
        have cf2 : wr.frozen? ⟨W.heap.size, 2, none⟩ = false := pfrz HGS.out.z
        have cf3 : wr.frozen? ⟨W.heap.size, 3, none⟩ = false := pfrz HGS.out.z
        have cf4 : wr.frozen? ⟨W.heap.size, 4, none⟩ = false := pfrz HGS.out.z
        clear d0 d1 d2 d3 d4 df0 df1 df2 df3 df4
        have HD0 := HGS.out.x
        have d0 : wr.cell? ⟨g, 0, none⟩ = some (.int .i64 6) := cell_of_row _ _ 0 _ _ (0, 0) HD0
        have d1 : wr.cell? ⟨g, 1, none⟩ = some (.int .i64 0) := cell_of_row _ _ 1 _ _ (0, 0) HD0
        have d2 : wr.cell? ⟨g, 2, none⟩ = some (.string ⟨#[]⟩) := cell_of_row _ _ 2 _ _ (0, 0) HD0
        have d3 : wr.cell? ⟨g, 3, none⟩ = some (.string ⟨#[]⟩) := cell_of_row _ _ 3 _ _ (0, 0) HD0
        have d4 : wr.cell? ⟨g, 4, none⟩ = some (.slice none 0 0) := cell_of_row _ _ 4 _ _ (0, 0) HD0
        have df0 : wr.frozen? ⟨g, 0, none⟩ = false := pfrz HD0
        have df1 : wr.frozen? ⟨g, 1, none⟩ = false := pfrz HD0
        have df2 : wr.frozen? ⟨g, 2, none⟩ = false := pfrz HD0
        have df3 : wr.frozen? ⟨g, 3, none⟩ = false := pfrz HD0
        have df4 : wr.frozen? ⟨g, 4, none⟩ = false := pfrz HD0
        clear HD0
        have GS2 := Lib.hid (HGS.out.read hP HGG.out HRA.out (Wm.Suf.trans (Wm.tok_ok l).rests (Wm.tok_ok l).froms))
        have HX2 := Lib.hid GS2.out.x
        have x0 : (wr.setCell ⟨P, 1, none⟩ (.int .i64 (ra : Int))).cell? ⟨g, 0, none⟩ = some (.int .i64 6) := cell_of_row _ _ 0 _ _ (0, 0) HX2.out
        have x1 : (wr.setCell ⟨P, 1, none⟩ (.int .i64 (ra : Int))).cell? ⟨g, 1, none⟩ = some (.int .i64 0) := cell_of_row _ _ 1 _ _ (0, 0) HX2.out
        have x2 : (wr.setCell ⟨P, 1, none⟩ (.int .i64 (ra : Int))).cell? ⟨g, 2, none⟩ = some (.string ⟨#[]⟩) := cell_of_row _ _ 2 _ _ (0, 0) HX2.out
        have x3 : (wr.setCell ⟨P, 1, none⟩ (.int .i64 (ra : Int))).cell? ⟨g, 3, none⟩ = some (.string ⟨#[]⟩) := cell_of_row _ _ 3 _ _ (0, 0) HX2.out
        have x4 : (wr.setCell ⟨P, 1, none⟩ (.int .i64 (ra : Int))).cell? ⟨g, 4, none⟩ = some (.slice none 0 0) := cell_of_row _ _ 4 _ _ (0, 0) HX2.out
        have xf0 : (wr.setCell ⟨P, 1, none⟩ (.int .i64 (ra : Int))).frozen? ⟨g, 0, none⟩ = false := pfrz HX2.out
        have xf1 : (wr.setCell ⟨P, 1, none⟩ (.int .i64 (ra : Int))).frozen? ⟨g, 1, none⟩ = false := pfrz HX2.out
        have xf2 : (wr.setCell ⟨P, 1, none⟩ (.int .i64 (ra : Int))).frozen? ⟨g, 2, none⟩ = false := pfrz HX2.out
        have xf3 : (wr.setCell ⟨P, 1, none⟩ (.int .i64 (ra : Int))).frozen? ⟨g, 3, none⟩ = false := pfrz HX2.out
        have xf4 : (wr.setCell ⟨P, 1, none⟩ (.int .i64 (ra : Int))).frozen? ⟨g, 4, none⟩ = false := pfrz HX2.out
        have HZ2 := Lib.hid GS2.out.z
        have y0 : (wr.setCell ⟨P, 1, none⟩ (.int .i64 (ra : Int))).cell? ⟨W.heap.size, 0, none⟩ = some (.int .i64 0) := cell_of_row _ _ 0 _ _ (0, 0) HZ2.out
        have y1 : (wr.setCell ⟨P, 1, none⟩ (.int .i64 (ra : Int))).cell? ⟨W.heap.size, 1, none⟩ = some (.int .i64 0) := cell_of_row _ _ 1 _ _ (0, 0) HZ2.out
        have y2 : (wr.setCell ⟨P, 1, none⟩ (.int .i64 (ra : Int))).cell? ⟨W.heap.size, 2, none⟩ = some (.string ⟨#[]⟩) := cell_of_row _ _ 2 _ _ (0, 0) HZ2.out
        have y3 : (wr.setCell ⟨P, 1, none⟩ (.int .i64 (ra : Int))).cell? ⟨W.heap.size, 3, none⟩ = some (.string ⟨#[]⟩) := cell_of_row _ _ 3 _ _ (0, 0) HZ2.out
        have y4 : (wr.setCell ⟨P, 1, none⟩ (.int .i64 (ra : Int))).cell? ⟨W.heap.size, 4, none⟩ = some (.slice none 0 0) := cell_of_row _ _ 4 _ _ (0, 0) HZ2.out
        have yf0 : (wr.setCell ⟨P, 1, none⟩ (.int .i64 (ra : Int))).frozen? ⟨W.heap.size, 0, none⟩ = false := pfrz HZ2.out
        have yf1 : (wr.setCell ⟨P, 1, none⟩ (.int .i64 (ra : Int))).frozen? ⟨W.heap.size, 1, none⟩ = false := pfrz HZ2.out
        have yf2 : (wr.setCell ⟨P, 1, none⟩ (.int .i64 (ra : Int))).frozen? ⟨W.heap.size, 2, none⟩ = false := pfrz HZ2.out
        have yf3 : (wr.setCell ⟨P, 1, none⟩ (.int .i64 (ra : Int))).frozen? ⟨W.heap.size, 3, none⟩ = false := pfrz HZ2.out
        have yf4 : (wr.setCell ⟨P, 1, none⟩ (.int .i64 (ra : Int))).frozen? ⟨W.heap.size, 4, none⟩ = false := pfrz HZ2.out
        have done2 := trivial
        go_wp2_with (first
          | (have hd := done3; clear done3; go_at_call 40; (with_reducible refine (dtake_any s L P 3 3 rfl _ _ HLL.out HS.out GS4.out.r (by decide)).mono ?_); rintro e5 w5 ⟨rfl, hr5, hg5⟩; obtain ⟨v5, hv5⟩ : ∃ v, S8 (Wm.takeV 3 (Wm.takeD 3 (.at_ (Wm.tok l).rest))) = v := ⟨_, rfl⟩; rw [hv5]; have HV5 := Lib.hid hv5; have GS5 := Lib.hid (GS4.out.call hg5 hr5 hP HGG.out); clear hr5 hg5 hv5 d0 d1 d2 d3 d4 df0 df1 df2 df3 df4 y0 y1 y2 y3 y4 yf0 yf1 yf2 yf3 yf4; have HX5 : Hid (w5.heap[g]? = some (.cells #[.int .i64 6, .int .i64 0, .string v3, .string ⟨#[]⟩, .slice none 0 0] 24)) := Lib.hid GS5.out.x; have d0 : w5.cell? ⟨g, 0, none⟩ = some (.int .i64 6) := cell_of_row _ _ 0 _ _ (0, 0) HX5.out; have d1 : w5.cell? ⟨g, 1, none⟩ = some (.int .i64 0) := cell_of_row _ _ 1 _ _ (0, 0) HX5.out; have d2 : w5.cell? ⟨g, 2, none⟩ = some (.string v3) := cell_of_row _ _ 2 _ _ (0, 0) HX5.out; have d3 : w5.cell? ⟨g, 3, none⟩ = some (.string ⟨#[]⟩) := cell_of_row _ _ 3 _ _ (0, 0) HX5.out; have d4 : w5.cell? ⟨g, 4, none⟩ = some (.slice none 0 0) := cell_of_row _ _ 4 _ _ (0, 0) HX5.out; have df0 : w5.frozen? ⟨g, 0, none⟩ = false := pfrz HX5.out; have df1 : w5.frozen? ⟨g, 1, none⟩ = false := pfrz HX5.out; have df2 : w5.frozen? ⟨g, 2, none⟩ = false := pfrz HX5.out; have df3 : w5.frozen? ⟨g, 3, none⟩ = false := pfrz HX5.out; have df4 : w5.frozen? ⟨g, 4, none⟩ = false := pfrz HX5.out; have GS6 := Lib.hid (GS5.out.set hP HGG.out 3 (.string v5)); have HX6 : Hid ((w5.setCell ⟨g, 3, none⟩ (.string v5)).heap[g]? = some (.cells #[.int .i64 6, .int .i64 0, .string v3, .string v5, .slice none 0 0] 24)) := Lib.hid (GS6.out.x); have x0 : (w5.setCell ⟨g, 3, none⟩ (.string v5)).cell? ⟨g, 0, none⟩ = some (.int .i64 6) := cell_of_row _ _ 0 _ _ (0, 0) HX6.out; have x1 : (w5.setCell ⟨g, 3, none⟩ (.string v5)).cell? ⟨g, 1, none⟩ = some (.int .i64 0) := cell_of_row _ _ 1 _ _ (0, 0) HX6.out; have x2 : (w5.setCell ⟨g, 3, none⟩ (.string v5)).cell? ⟨g, 2, none⟩ = some (.string v3) := cell_of_row _ _ 2 _ _ (0, 0) HX6.out; have x3 : (w5.setCell ⟨g, 3, none⟩ (.string v5)).cell? ⟨g, 3, none⟩ = some (.string v5) := cell_of_row _ _ 3 _ _ (0, 0) HX6.out; have x4 : (w5.setCell ⟨g, 3, none⟩ (.string v5)).cell? ⟨g, 4, none⟩ = some (.slice none 0 0) := cell_of_row _ _ 4 _ _ (0, 0) HX6.out; have xf0 : (w5.setCell ⟨g, 3, none⟩ (.string v5)).frozen? ⟨g, 0, none⟩ = false := pfrz HX6.out; have xf1 : (w5.setCell ⟨g, 3, none⟩ (.string v5)).frozen? ⟨g, 1, none⟩ = false := pfrz HX6.out; have xf2 : (w5.setCell ⟨g, 3, none⟩ (.string v5)).frozen? ⟨g, 2, none⟩ = false := pfrz HX6.out; have xf3 : (w5.setCell ⟨g, 3, none⟩ (.string v5)).frozen? ⟨g, 3, none⟩ = false := pfrz HX6.out; have xf4 : (w5.setCell ⟨g, 3, none⟩ (.string v5)).frozen? ⟨g, 4, none⟩ = false := pfrz HX6.out; have HZ6 := Lib.hid GS6.out.z; have y0 : (w5.setCell ⟨g, 3, none⟩ (.string v5)).cell? ⟨W.heap.size, 0, none⟩ = some (.int .i64 0) := cell_of_row _ _ 0 _ _ (0, 0) HZ6.out; have y1 : (w5.setCell ⟨g, 3, none⟩ (.string v5)).cell? ⟨W.heap.size, 1, none⟩ = some (.int .i64 0) := cell_of_row _ _ 1 _ _ (0, 0) HZ6.out; have y2 : (w5.setCell ⟨g, 3, none⟩ (.string v5)).cell? ⟨W.heap.size, 2, none⟩ = some (.string ⟨#[]⟩) := cell_of_row _ _ 2 _ _ (0, 0) HZ6.out; have y3 : (w5.setCell ⟨g, 3, none⟩ (.string v5)).cell? ⟨W.heap.size, 3, none⟩ = some (.string ⟨#[]⟩) := cell_of_row _ _ 3 _ _ (0, 0) HZ6.out; have y4 : (w5.setCell ⟨g, 3, none⟩ (.string v5)).cell? ⟨W.heap.size, 4, none⟩ = some (.slice none 0 0) := cell_of_row _ _ 4 _ _ (0, 0) HZ6.out; have yf0 : (w5.setCell ⟨g, 3, none⟩ (.string v5)).frozen? ⟨W.heap.size, 0, none⟩ = false := pfrz HZ6.out; have yf1 : (w5.setCell ⟨g, 3, none⟩ (.string v5)).frozen? ⟨W.heap.size, 1, none⟩ = false := pfrz HZ6.out; have yf2 : (w5.setCell ⟨g, 3, none⟩ (.string v5)).frozen? ⟨W.heap.size, 2, none⟩ = false := pfrz HZ6.out; have yf3 : (w5.setCell ⟨g, 3, none⟩ (.string v5)).frozen? ⟨W.heap.size, 3, none⟩ = false := pfrz HZ6.out; have yf4 : (w5.setCell ⟨g, 3, none⟩ (.string v5)).frozen? ⟨W.heap.size, 4, none⟩ = false := pfrz HZ6.out; have done5 := trivial)
          | (have hd := done2; clear done2; go_at_call 40; (with_reducible refine (dtake_any s L P 3 3 rfl _ _ HLL.out HS.out GS2.out.r (by decide)).mono ?_); rintro e3 w3 ⟨rfl, hr3, hg3⟩; obtain ⟨v3, hv3⟩ : ∃ v, S8 (Wm.takeV 3 (.at_ (Wm.tok l).rest)) = v := ⟨_, rfl⟩; rw [hv3]; have HV3 := Lib.hid hv3; have GS3 := Lib.hid (GS2.out.call hg3 hr3 hP HGG.out); clear hr3 hg3 hv3 x0 x1 x2 x3 x4 xf0 xf1 xf2 xf3 xf4; have HX3 := Lib.hid GS3.out.x; have d0 : w3.cell? ⟨g, 0, none⟩ = some (.int .i64 6) := cell_of_row _ _ 0 _ _ (0, 0) HX3.out; have d1 : w3.cell? ⟨g, 1, none⟩ = some (.int .i64 0) := cell_of_row _ _ 1 _ _ (0, 0) HX3.out; have d2 : w3.cell? ⟨g, 2, none⟩ = some (.string ⟨#[]⟩) := cell_of_row _ _ 2 _ _ (0, 0) HX3.out; have d3 : w3.cell? ⟨g, 3, none⟩ = some (.string ⟨#[]⟩) := cell_of_row _ _ 3 _ _ (0, 0) HX3.out; have d4 : w3.cell? ⟨g, 4, none⟩ = some (.slice none 0 0) := cell_of_row _ _ 4 _ _ (0, 0) HX3.out; have df0 : w3.frozen? ⟨g, 0, none⟩ = false := pfrz HX3.out; have df1 : w3.frozen? ⟨g, 1, none⟩ = false := pfrz HX3.out; have df2 : w3.frozen? ⟨g, 2, none⟩ = false := pfrz HX3.out; have df3 : w3.frozen? ⟨g, 3, none⟩ = false := pfrz HX3.out; have df4 : w3.frozen? ⟨g, 4, none⟩ = false := pfrz HX3.out; have GS4 := Lib.hid (GS3.out.set hP HGG.out 2 (.string v3)); have done3 := trivial))
        have HFIN := dfin5 GS6.out.r GS6.out.gr hP GS6.out.z (.int .i64 6) (.int .i64 0) (.string v3) (.string v5) (.slice none 0 0)
        have hrw := HFIN.2.2.2.2
        have q0 : ((((((w5.setCell ⟨g, 3, none⟩ (.string v5)).setCell ⟨W.heap.size, 0, none⟩ (.int .i64 6)).setCell ⟨W.heap.size, 1, none⟩ (.int .i64 0)).setCell ⟨W.heap.size, 2, none⟩ (.string v3)).setCell ⟨W.heap.size, 3, none⟩ (.string v5)).setCell ⟨W.heap.size, 4, none⟩ (.slice none 0 0)).cell? ⟨W.heap.size, 0, none⟩ = some (.int .i64 6) := cell_of_row _ _ 0 _ _ (0, 0) hrw
        have q1 : ((((((w5.setCell ⟨g, 3, none⟩ (.string v5)).setCell ⟨W.heap.size, 0, none⟩ (.int .i64 6)).setCell ⟨W.heap.size, 1, none⟩ (.int .i64 0)).setCell ⟨W.heap.size, 2, none⟩ (.string v3)).setCell ⟨W.heap.size, 3, none⟩ (.string v5)).setCell ⟨W.heap.size, 4, none⟩ (.slice none 0 0)).cell? ⟨W.heap.size, 1, none⟩ = some (.int .i64 0) := cell_of_row _ _ 1 _ _ (0, 0) hrw
        have q2 : ((((((w5.setCell ⟨g, 3, none⟩ (.string v5)).setCell ⟨W.heap.size, 0, none⟩ (.int .i64 6)).setCell ⟨W.heap.size, 1, none⟩ (.int .i64 0)).setCell ⟨W.heap.size, 2, none⟩ (.string v3)).setCell ⟨W.heap.size, 3, none⟩ (.string v5)).setCell ⟨W.heap.size, 4, none⟩ (.slice none 0 0)).cell? ⟨W.heap.size, 2, none⟩ = some (.string v3) := cell_of_row _ _ 2 _ _ (0, 0) hrw
        have q3 : ((((((w5.setCell ⟨g, 3, none⟩ (.string v5)).setCell ⟨W.heap.size, 0, none⟩ (.int .i64 6)).setCell ⟨W.heap.size, 1, none⟩ (.int .i64 0)).setCell ⟨W.heap.size, 2, none⟩ (.string v3)).setCell ⟨W.heap.size, 3, none⟩ (.string v5)).setCell ⟨W.heap.size, 4, none⟩ (.slice none 0 0)).cell? ⟨W.heap.size, 3, none⟩ = some (.string v5) := cell_of_row _ _ 3 _ _ (0, 0) hrw
        have q4 : ((((((w5.setCell ⟨g, 3, none⟩ (.string v5)).setCell ⟨W.heap.size, 0, none⟩ (.int .i64 6)).setCell ⟨W.heap.size, 1, none⟩ (.int .i64 0)).setCell ⟨W.heap.size, 2, none⟩ (.string v3)).setCell ⟨W.heap.size, 3, none⟩ (.string v5)).setCell ⟨W.heap.size, 4, none⟩ (.slice none 0 0)).cell? ⟨W.heap.size, 4, none⟩ = some (.slice none 0 0) := cell_of_row _ _ 4 _ _ (0, 0) hrw
        refine bodyPost_ret (v := .agg #[.int .i64 6, .int .i64 0, .string v3, .string v5, .slice none 0 0]) (by simp [results, Tryd.results20, go_sem, q0, q1, q2, q3, q4]) rfl ?_
        rw [HRES.out]

        have HPA := dpolA_out (l := (Wm.tok l).rest)
        rw [HV3.out, HV5.out] at HPA
        have hz3 : v3.size ≤ 1000000 := by rw [← HV3.out, s8_len]; exact Nat.le_trans (takeV_len HLL.out GS2.out.r) HS.out
        have hz5 : v5.size ≤ 1000000 := by rw [← HV5.out, s8_len]; exact Nat.le_trans (takeV_len HLL.out GS4.out.r) HS.out
        exact ⟨.mk 6 0 v3 v5 [], rcs 6 0 v3 v5 none 0 0, rfl, RdP.leaf _ _ 6 0 v3 v5 (by omega) (by omega) (by unfold maxLen; omega) (by unfold maxLen; omega), by rw [HPA.1]; exact HFIN.1, HPA.2, HFIN.2.1⟩
      · have HVX2 := Lib.hid hv
        have HPOL : Hid (Wm.pol (f + 1) l = Wm.polK (Wm.pol f) vx f (Wm.tok l).rest) := Lib.hid (by rw [Wm.pol, if_neg (by rw [HKY.out]; omega), if_neg (by rw [HKY.out]; omega), if_neg (by rw [HKY.out]; omega), if_pos (by rw [HKY.out]; omega), HKY.out])
        have HIH := Lib.hid IH
        have c0 : wr.cell? ⟨W.heap.size, 0, none⟩ = some (.int .i64 0) := cell_of_row _ _ 0 _ _ (0, 0) HGS.out.z
        have c1 : wr.cell? ⟨W.heap.size, 1, none⟩ = some (.int .i64 0) := cell_of_row _ _ 1 _ _ (0, 0) HGS.out.z
        have c2 : wr.cell? ⟨W.heap.size, 2, none⟩ = some (.string ⟨#[]⟩) := cell_of_row _ _ 2 _ _ (0, 0) HGS.out.z
        have c3 : wr.cell? ⟨W.heap.size, 3, none⟩ = some (.string ⟨#[]⟩) := cell_of_row _ _ 3 _ _ (0, 0) HGS.out.z
        have c4 : wr.cell? ⟨W.heap.size, 4, none⟩ = some (.slice none 0 0) := cell_of_row _ _ 4 _ _ (0, 0) HGS.out.z
        have cf0 : wr.frozen? ⟨W.heap.size, 0, none⟩ = false := pfrz HGS.out.z
        have cf1 : wr.frozen? ⟨W.heap.size, 1, none⟩ = false := pfrz HGS.out.z
        have cf2 : wr.frozen? ⟨W.heap.size, 2, none⟩ = false := pfrz HGS.out.z
        have cf3 : wr.frozen? ⟨W.heap.size, 3, none⟩ = false := pfrz HGS.out.z
        have cf4 : wr.frozen? ⟨W.heap.size, 4, none⟩ = false := pfrz HGS.out.z
        have GS2 := Lib.hid (HGS.out.read hP HGG.out HRA.out (Wm.Suf.trans (Wm.tok_ok l).rests (Wm.tok_ok l).froms))
        have HX2 := Lib.hid GS2.out.x
        have x0 : (wr.setCell ⟨P, 1, none⟩ (.int .i64 (ra : Int))).cell? ⟨g, 0, none⟩ = some (.int .i64 (vx : Int)) := cell_of_row _ _ 0 _ _ (0, 0) HX2.out
        have x1 : (wr.setCell ⟨P, 1, none⟩ (.int .i64 (ra : Int))).cell? ⟨g, 1, none⟩ = some (.int .i64 0) := cell_of_row _ _ 1 _ _ (0, 0) HX2.out
        have x2 : (wr.setCell ⟨P, 1, none⟩ (.int .i64 (ra : Int))).cell? ⟨g, 2, none⟩ = some (.string ⟨#[]⟩) := cell_of_row _ _ 2 _ _ (0, 0) HX2.out
        have x3 : (wr.setCell ⟨P, 1, none⟩ (.int .i64 (ra : Int))).cell? ⟨g, 3, none⟩ = some (.string ⟨#[]⟩) := cell_of_row _ _ 3 _ _ (0, 0) HX2.out
        have x4 : (wr.setCell ⟨P, 1, none⟩ (.int .i64 (ra : Int))).cell? ⟨g, 4, none⟩ = some (.slice none 0 0) := cell_of_row _ _ 4 _ _ (0, 0) HX2.out
        have xf0 : (wr.setCell ⟨P, 1, none⟩ (.int .i64 (ra : Int))).frozen? ⟨g, 0, none⟩ = false := pfrz HX2.out
        have xf1 : (wr.setCell ⟨P, 1, none⟩ (.int .i64 (ra : Int))).frozen? ⟨g, 1, none⟩ = false := pfrz HX2.out
        have xf2 : (wr.setCell ⟨P, 1, none⟩ (.int .i64 (ra : Int))).frozen? ⟨g, 2, none⟩ = false := pfrz HX2.out
        have xf3 : (wr.setCell ⟨P, 1, none⟩ (.int .i64 (ra : Int))).frozen? ⟨g, 3, none⟩ = false := pfrz HX2.out
        have xf4 : (wr.setCell ⟨P, 1, none⟩ (.int .i64 (ra : Int))).frozen? ⟨g, 4, none⟩ = false := pfrz HX2.out
        have HZ2 := Lib.hid GS2.out.z
        have y0 : (wr.setCell ⟨P, 1, none⟩ (.int .i64 (ra : Int))).cell? ⟨W.heap.size, 0, none⟩ = some (.int .i64 0) := cell_of_row _ _ 0 _ _ (0, 0) HZ2.out
        have y1 : (wr.setCell ⟨P, 1, none⟩ (.int .i64 (ra : Int))).cell? ⟨W.heap.size, 1, none⟩ = some (.int .i64 0) := cell_of_row _ _ 1 _ _ (0, 0) HZ2.out
        have y2 : (wr.setCell ⟨P, 1, none⟩ (.int .i64 (ra : Int))).cell? ⟨W.heap.size, 2, none⟩ = some (.string ⟨#[]⟩) := cell_of_row _ _ 2 _ _ (0, 0) HZ2.out
        have y3 : (wr.setCell ⟨P, 1, none⟩ (.int .i64 (ra : Int))).cell? ⟨W.heap.size, 3, none⟩ = some (.string ⟨#[]⟩) := cell_of_row _ _ 3 _ _ (0, 0) HZ2.out
        have y4 : (wr.setCell ⟨P, 1, none⟩ (.int .i64 (ra : Int))).cell? ⟨W.heap.size, 4, none⟩ = some (.slice none 0 0) := cell_of_row _ _ 4 _ _ (0, 0) HZ2.out
        have yf0 : (wr.setCell ⟨P, 1, none⟩ (.int .i64 (ra : Int))).frozen? ⟨W.heap.size, 0, none⟩ = false := pfrz HZ2.out
        have yf1 : (wr.setCell ⟨P, 1, none⟩ (.int .i64 (ra : Int))).frozen? ⟨W.heap.size, 1, none⟩ = false := pfrz HZ2.out
        have yf2 : (wr.setCell ⟨P, 1, none⟩ (.int .i64 (ra : Int))).frozen? ⟨W.heap.size, 2, none⟩ = false := pfrz HZ2.out
        have yf3 : (wr.setCell ⟨P, 1, none⟩ (.int .i64 (ra : Int))).frozen? ⟨W.heap.size, 3, none⟩ = false := pfrz HZ2.out
        have yf4 : (wr.setCell ⟨P, 1, none⟩ (.int .i64 (ra : Int))).frozen? ⟨W.heap.size, 4, none⟩ = false := pfrz HZ2.out
        have HKV : Hid (vx = 1 ∨ vx = 2 ∨ vx = 3) := Lib.hid hv
        have k0 : ((vx : Int) == 0) = false := by rw [beq_eq_false_iff_ne]; omega
        have m0 : (vx == 0) = false := by rw [beq_eq_false_iff_ne]; omega
        clear hv
        by_cases h40 : (Wm.tok (Wm.tok l).rest).is 40 = true
        · have H40 := Lib.hid h40
          have HSG := Lib.hid (dsign_any s L P 40 ⟨#[40]⟩ rfl _ _ HLL.out HS.out GS2.out.r)
          have hs0 : Wm.signB 40 (.at_ (Wm.tok l).rest) = true := h40
          have hs1 : Wm.signD 40 (.at_ (Wm.tok l).rest) = .at_ (Wm.tok (Wm.tok l).rest).rest := by unfold Wm.signD; exact if_pos h40
          rw [hs0, hs1] at HSG
          have HW1 : Hid ((Wm.tok l).kind = 1) := Lib.hid (Wm.key_pos (by have h8 := HKY.out; have h9 := HKV.out; omega))
          have HLST : Hid ((Wm.tok (Wm.tok l).rest).rest.length < f) := Lib.hid (by
            have h1 := Wm.tok_short l (by have := HW1.out; omega) (by have := HW1.out; omega)
            have h2 := Wm.is_kind h40
            have h3 := Wm.tok_short (Wm.tok l).rest (by omega) (by omega)
            have h4 := HLF.out
            omega)
          clear hs0 hs1 h40
          have done2 := trivial
          rcases HKV.out with hv | hv | hv
          · have hv : vx = 1 := hv
            have k1 : ((vx : Int) == 1) = true := by rw [beq_iff_eq]; omega
            have m1 : (vx == 1) = true := by rw [beq_iff_eq]; omega
            have e3 : ((vx : Int) == 3) = false := by rw [beq_eq_false_iff_ne]; omega
            have n3 : ((vx : Int) != 3) = true := by simp [bne, e3]

            by_cases h41 : (Wm.tok (Wm.tok (Wm.tok l).rest).rest).is 41 = true
            · have HRES : Hid (Wm.pol (f + 1) l = .ok (.mk 1 0 ⟨#[]⟩ ⟨#[]⟩ []) (Wm.tok (Wm.tok (Wm.tok l).rest).rest).rest) := Lib.hid (by rw [HPOL.out, hv]; unfold Wm.polK; rw [if_pos H40.out]; exact if_pos ⟨(by decide : 1 ≠ 3), h41⟩)
              have HT1 : Hid (Wm.signB 41 (.at_ (Wm.tok (Wm.tok l).rest).rest) = true) := Lib.hid (by unfold Wm.signB; exact h41)
              have HT2 : Hid (Wm.signD 41 (.at_ (Wm.tok (Wm.tok l).rest).rest) = .at_ (Wm.tok (Wm.tok (Wm.tok l).rest).rest).rest) := Lib.hid (by unfold Wm.signD; exact if_pos h41)
              have HVK := Lib.hid hv
              clear h41 hv
              go_wp2_with (first
                | (have hd := done3; clear done3; go_at_call 39; (with_reducible refine HSH.out.mono ?_); rintro e7 w6 ⟨rfl, hr6, hg6⟩; have GS6 := Lib.hid (GS3.out.call hg6 hr6 hP HGG.out); clear hr6 hg6; have HX6 := Lib.hid GS6.out.x; have HZ6 := Lib.hid GS6.out.z; clear y0 y1 y2 y3 y4 yf0 yf1 yf2 yf3 yf4 x0 x1 x2 x3 x4 xf0 xf1 xf2 xf3 xf4; have x0 : w6.cell? ⟨g, 0, none⟩ = some (.int .i64 (vx : Int)) := cell_of_row _ _ 0 _ _ (0, 0) HX6.out; have x1 : w6.cell? ⟨g, 1, none⟩ = some (.int .i64 0) := cell_of_row _ _ 1 _ _ (0, 0) HX6.out; have x2 : w6.cell? ⟨g, 2, none⟩ = some (.string ⟨#[]⟩) := cell_of_row _ _ 2 _ _ (0, 0) HX6.out; have x3 : w6.cell? ⟨g, 3, none⟩ = some (.string ⟨#[]⟩) := cell_of_row _ _ 3 _ _ (0, 0) HX6.out; have x4 : w6.cell? ⟨g, 4, none⟩ = some (.slice none 0 0) := cell_of_row _ _ 4 _ _ (0, 0) HX6.out; have xf0 : w6.frozen? ⟨g, 0, none⟩ = false := pfrz HX6.out; have xf1 : w6.frozen? ⟨g, 1, none⟩ = false := pfrz HX6.out; have xf2 : w6.frozen? ⟨g, 2, none⟩ = false := pfrz HX6.out; have xf3 : w6.frozen? ⟨g, 3, none⟩ = false := pfrz HX6.out; have xf4 : w6.frozen? ⟨g, 4, none⟩ = false := pfrz HX6.out; have y0 : w6.cell? ⟨W.heap.size, 0, none⟩ = some (.int .i64 0) := cell_of_row _ _ 0 _ _ (0, 0) HZ6.out; have y1 : w6.cell? ⟨W.heap.size, 1, none⟩ = some (.int .i64 0) := cell_of_row _ _ 1 _ _ (0, 0) HZ6.out; have y2 : w6.cell? ⟨W.heap.size, 2, none⟩ = some (.string ⟨#[]⟩) := cell_of_row _ _ 2 _ _ (0, 0) HZ6.out; have y3 : w6.cell? ⟨W.heap.size, 3, none⟩ = some (.string ⟨#[]⟩) := cell_of_row _ _ 3 _ _ (0, 0) HZ6.out; have y4 : w6.cell? ⟨W.heap.size, 4, none⟩ = some (.slice none 0 0) := cell_of_row _ _ 4 _ _ (0, 0) HZ6.out; have yf0 : w6.frozen? ⟨W.heap.size, 0, none⟩ = false := pfrz HZ6.out; have yf1 : w6.frozen? ⟨W.heap.size, 1, none⟩ = false := pfrz HZ6.out; have yf2 : w6.frozen? ⟨W.heap.size, 2, none⟩ = false := pfrz HZ6.out; have yf3 : w6.frozen? ⟨W.heap.size, 3, none⟩ = false := pfrz HZ6.out; have yf4 : w6.frozen? ⟨W.heap.size, 4, none⟩ = false := pfrz HZ6.out; have done6 := trivial)
                | (have hd := done2; clear done2; go_at_call 39; (with_reducible refine HSG.out.mono ?_); rintro e6 w3 ⟨rfl, hr3, hg3⟩; have GS3 := Lib.hid (GS2.out.call hg3 hr3 hP HGG.out); clear hr3 hg3; have HX3 := Lib.hid GS3.out.x; have HZ3 := Lib.hid GS3.out.z; clear y0 y1 y2 y3 y4 yf0 yf1 yf2 yf3 yf4 x0 x1 x2 x3 x4 xf0 xf1 xf2 xf3 xf4; have x0 : w3.cell? ⟨g, 0, none⟩ = some (.int .i64 (vx : Int)) := cell_of_row _ _ 0 _ _ (0, 0) HX3.out; have x1 : w3.cell? ⟨g, 1, none⟩ = some (.int .i64 0) := cell_of_row _ _ 1 _ _ (0, 0) HX3.out; have x2 : w3.cell? ⟨g, 2, none⟩ = some (.string ⟨#[]⟩) := cell_of_row _ _ 2 _ _ (0, 0) HX3.out; have x3 : w3.cell? ⟨g, 3, none⟩ = some (.string ⟨#[]⟩) := cell_of_row _ _ 3 _ _ (0, 0) HX3.out; have x4 : w3.cell? ⟨g, 4, none⟩ = some (.slice none 0 0) := cell_of_row _ _ 4 _ _ (0, 0) HX3.out; have xf0 : w3.frozen? ⟨g, 0, none⟩ = false := pfrz HX3.out; have xf1 : w3.frozen? ⟨g, 1, none⟩ = false := pfrz HX3.out; have xf2 : w3.frozen? ⟨g, 2, none⟩ = false := pfrz HX3.out; have xf3 : w3.frozen? ⟨g, 3, none⟩ = false := pfrz HX3.out; have xf4 : w3.frozen? ⟨g, 4, none⟩ = false := pfrz HX3.out; have y0 : w3.cell? ⟨W.heap.size, 0, none⟩ = some (.int .i64 0) := cell_of_row _ _ 0 _ _ (0, 0) HZ3.out; have y1 : w3.cell? ⟨W.heap.size, 1, none⟩ = some (.int .i64 0) := cell_of_row _ _ 1 _ _ (0, 0) HZ3.out; have y2 : w3.cell? ⟨W.heap.size, 2, none⟩ = some (.string ⟨#[]⟩) := cell_of_row _ _ 2 _ _ (0, 0) HZ3.out; have y3 : w3.cell? ⟨W.heap.size, 3, none⟩ = some (.string ⟨#[]⟩) := cell_of_row _ _ 3 _ _ (0, 0) HZ3.out; have y4 : w3.cell? ⟨W.heap.size, 4, none⟩ = some (.slice none 0 0) := cell_of_row _ _ 4 _ _ (0, 0) HZ3.out; have yf0 : w3.frozen? ⟨W.heap.size, 0, none⟩ = false := pfrz HZ3.out; have yf1 : w3.frozen? ⟨W.heap.size, 1, none⟩ = false := pfrz HZ3.out; have yf2 : w3.frozen? ⟨W.heap.size, 2, none⟩ = false := pfrz HZ3.out; have yf3 : w3.frozen? ⟨W.heap.size, 3, none⟩ = false := pfrz HZ3.out; have yf4 : w3.frozen? ⟨W.heap.size, 4, none⟩ = false := pfrz HZ3.out; have HSH := Lib.hid (dsign_any s L P 41 ⟨#[41]⟩ rfl _ _ HLL.out HS.out GS3.out.r); rw [HT1.out, HT2.out] at HSH; have done3 := trivial))
              have GS7 : Hid (RoSt W w6 P g s L (.at_ (Wm.tok (Wm.tok (Wm.tok l).rest).rest).rest) #[.int .i64 1, .int .i64 0, .string ⟨#[]⟩, .string ⟨#[]⟩, .slice none 0 0]) := Lib.hid (by have h := GS6.out; rw [show (vx : Int) = 1 from by have := HVK.out; omega] at h; exact h)
              have HFIN := dfin5 GS7.out.r GS7.out.gr hP GS7.out.z (.int .i64 1) (.int .i64 0) (.string ⟨#[]⟩) (.string ⟨#[]⟩) (.slice none 0 0)
              have hrw := HFIN.2.2.2.2
              have q0 : (((((w6.setCell ⟨W.heap.size, 0, none⟩ (.int .i64 1)).setCell ⟨W.heap.size, 1, none⟩ (.int .i64 0)).setCell ⟨W.heap.size, 2, none⟩ (.string ⟨#[]⟩)).setCell ⟨W.heap.size, 3, none⟩ (.string ⟨#[]⟩)).setCell ⟨W.heap.size, 4, none⟩ (.slice none 0 0)).cell? ⟨W.heap.size, 0, none⟩ = some (.int .i64 1) := cell_of_row _ _ 0 _ _ (0, 0) hrw
              have q1 : (((((w6.setCell ⟨W.heap.size, 0, none⟩ (.int .i64 1)).setCell ⟨W.heap.size, 1, none⟩ (.int .i64 0)).setCell ⟨W.heap.size, 2, none⟩ (.string ⟨#[]⟩)).setCell ⟨W.heap.size, 3, none⟩ (.string ⟨#[]⟩)).setCell ⟨W.heap.size, 4, none⟩ (.slice none 0 0)).cell? ⟨W.heap.size, 1, none⟩ = some (.int .i64 0) := cell_of_row _ _ 1 _ _ (0, 0) hrw
              have q2 : (((((w6.setCell ⟨W.heap.size, 0, none⟩ (.int .i64 1)).setCell ⟨W.heap.size, 1, none⟩ (.int .i64 0)).setCell ⟨W.heap.size, 2, none⟩ (.string ⟨#[]⟩)).setCell ⟨W.heap.size, 3, none⟩ (.string ⟨#[]⟩)).setCell ⟨W.heap.size, 4, none⟩ (.slice none 0 0)).cell? ⟨W.heap.size, 2, none⟩ = some (.string ⟨#[]⟩) := cell_of_row _ _ 2 _ _ (0, 0) hrw
              have q3 : (((((w6.setCell ⟨W.heap.size, 0, none⟩ (.int .i64 1)).setCell ⟨W.heap.size, 1, none⟩ (.int .i64 0)).setCell ⟨W.heap.size, 2, none⟩ (.string ⟨#[]⟩)).setCell ⟨W.heap.size, 3, none⟩ (.string ⟨#[]⟩)).setCell ⟨W.heap.size, 4, none⟩ (.slice none 0 0)).cell? ⟨W.heap.size, 3, none⟩ = some (.string ⟨#[]⟩) := cell_of_row _ _ 3 _ _ (0, 0) hrw
              have q4 : (((((w6.setCell ⟨W.heap.size, 0, none⟩ (.int .i64 1)).setCell ⟨W.heap.size, 1, none⟩ (.int .i64 0)).setCell ⟨W.heap.size, 2, none⟩ (.string ⟨#[]⟩)).setCell ⟨W.heap.size, 3, none⟩ (.string ⟨#[]⟩)).setCell ⟨W.heap.size, 4, none⟩ (.slice none 0 0)).cell? ⟨W.heap.size, 4, none⟩ = some (.slice none 0 0) := cell_of_row _ _ 4 _ _ (0, 0) hrw
              refine bodyPost_ret (v := .agg #[.int .i64 1, .int .i64 0, .string ⟨#[]⟩, .string ⟨#[]⟩, .slice none 0 0]) (by simp [results, Tryd.results20, go_sem, q0, q1, q2, q3, q4]) rfl ?_
              rw [HRES.out]

              exact ⟨.mk 1 0 ⟨#[]⟩ ⟨#[]⟩ [], rcs 1 0 ⟨#[]⟩ ⟨#[]⟩ none 0 0, rfl, RdP.leaf _ _ 1 0 ⟨#[]⟩ ⟨#[]⟩ (by omega) (by omega) (Nat.zero_le _) (Nat.zero_le _), HFIN.1, (fun t' r e => by injection e), HFIN.2.1⟩

            · have HT1 : Hid (Wm.signB 41 (.at_ (Wm.tok (Wm.tok l).rest).rest) = false) := Lib.hid (by unfold Wm.signB; simpa using h41)
              have HT2 : Hid (Wm.signD 41 (.at_ (Wm.tok (Wm.tok l).rest).rest) = .at_ (Wm.tok (Wm.tok l).rest).rest) := Lib.hid (by unfold Wm.signD; exact if_neg h41)
              have H41N := Lib.hid h41
              have HVK := Lib.hid hv
              clear h41 hv
              go_wp2_with (first
                | (have hd := done3; clear done3; go_at_call 39; (with_reducible refine HSH.out.mono ?_); rintro e7 w6 ⟨rfl, hr6, hg6⟩; have GS6 := Lib.hid (GS3.out.call hg6 hr6 hP HGG.out); clear hr6 hg6; have HX6 := Lib.hid GS6.out.x; have HZ6 := Lib.hid GS6.out.z; clear y0 y1 y2 y3 y4 yf0 yf1 yf2 yf3 yf4 x0 x1 x2 x3 x4 xf0 xf1 xf2 xf3 xf4; have x0 : w6.cell? ⟨g, 0, none⟩ = some (.int .i64 (vx : Int)) := cell_of_row _ _ 0 _ _ (0, 0) HX6.out; have x1 : w6.cell? ⟨g, 1, none⟩ = some (.int .i64 0) := cell_of_row _ _ 1 _ _ (0, 0) HX6.out; have x2 : w6.cell? ⟨g, 2, none⟩ = some (.string ⟨#[]⟩) := cell_of_row _ _ 2 _ _ (0, 0) HX6.out; have x3 : w6.cell? ⟨g, 3, none⟩ = some (.string ⟨#[]⟩) := cell_of_row _ _ 3 _ _ (0, 0) HX6.out; have x4 : w6.cell? ⟨g, 4, none⟩ = some (.slice none 0 0) := cell_of_row _ _ 4 _ _ (0, 0) HX6.out; have xf0 : w6.frozen? ⟨g, 0, none⟩ = false := pfrz HX6.out; have xf1 : w6.frozen? ⟨g, 1, none⟩ = false := pfrz HX6.out; have xf2 : w6.frozen? ⟨g, 2, none⟩ = false := pfrz HX6.out; have xf3 : w6.frozen? ⟨g, 3, none⟩ = false := pfrz HX6.out; have xf4 : w6.frozen? ⟨g, 4, none⟩ = false := pfrz HX6.out; have y0 : w6.cell? ⟨W.heap.size, 0, none⟩ = some (.int .i64 0) := cell_of_row _ _ 0 _ _ (0, 0) HZ6.out; have y1 : w6.cell? ⟨W.heap.size, 1, none⟩ = some (.int .i64 0) := cell_of_row _ _ 1 _ _ (0, 0) HZ6.out; have y2 : w6.cell? ⟨W.heap.size, 2, none⟩ = some (.string ⟨#[]⟩) := cell_of_row _ _ 2 _ _ (0, 0) HZ6.out; have y3 : w6.cell? ⟨W.heap.size, 3, none⟩ = some (.string ⟨#[]⟩) := cell_of_row _ _ 3 _ _ (0, 0) HZ6.out; have y4 : w6.cell? ⟨W.heap.size, 4, none⟩ = some (.slice none 0 0) := cell_of_row _ _ 4 _ _ (0, 0) HZ6.out; have yf0 : w6.frozen? ⟨W.heap.size, 0, none⟩ = false := pfrz HZ6.out; have yf1 : w6.frozen? ⟨W.heap.size, 1, none⟩ = false := pfrz HZ6.out; have yf2 : w6.frozen? ⟨W.heap.size, 2, none⟩ = false := pfrz HZ6.out; have yf3 : w6.frozen? ⟨W.heap.size, 3, none⟩ = false := pfrz HZ6.out; have yf4 : w6.frozen? ⟨W.heap.size, 4, none⟩ = false := pfrz HZ6.out; have done6 := trivial)
                | (have hd := done2; clear done2; go_at_call 39; (with_reducible refine HSG.out.mono ?_); rintro e6 w3 ⟨rfl, hr3, hg3⟩; have GS3 := Lib.hid (GS2.out.call hg3 hr3 hP HGG.out); clear hr3 hg3; have HX3 := Lib.hid GS3.out.x; have HZ3 := Lib.hid GS3.out.z; clear y0 y1 y2 y3 y4 yf0 yf1 yf2 yf3 yf4 x0 x1 x2 x3 x4 xf0 xf1 xf2 xf3 xf4; have x0 : w3.cell? ⟨g, 0, none⟩ = some (.int .i64 (vx : Int)) := cell_of_row _ _ 0 _ _ (0, 0) HX3.out; have x1 : w3.cell? ⟨g, 1, none⟩ = some (.int .i64 0) := cell_of_row _ _ 1 _ _ (0, 0) HX3.out; have x2 : w3.cell? ⟨g, 2, none⟩ = some (.string ⟨#[]⟩) := cell_of_row _ _ 2 _ _ (0, 0) HX3.out; have x3 : w3.cell? ⟨g, 3, none⟩ = some (.string ⟨#[]⟩) := cell_of_row _ _ 3 _ _ (0, 0) HX3.out; have x4 : w3.cell? ⟨g, 4, none⟩ = some (.slice none 0 0) := cell_of_row _ _ 4 _ _ (0, 0) HX3.out; have xf0 : w3.frozen? ⟨g, 0, none⟩ = false := pfrz HX3.out; have xf1 : w3.frozen? ⟨g, 1, none⟩ = false := pfrz HX3.out; have xf2 : w3.frozen? ⟨g, 2, none⟩ = false := pfrz HX3.out; have xf3 : w3.frozen? ⟨g, 3, none⟩ = false := pfrz HX3.out; have xf4 : w3.frozen? ⟨g, 4, none⟩ = false := pfrz HX3.out; have y0 : w3.cell? ⟨W.heap.size, 0, none⟩ = some (.int .i64 0) := cell_of_row _ _ 0 _ _ (0, 0) HZ3.out; have y1 : w3.cell? ⟨W.heap.size, 1, none⟩ = some (.int .i64 0) := cell_of_row _ _ 1 _ _ (0, 0) HZ3.out; have y2 : w3.cell? ⟨W.heap.size, 2, none⟩ = some (.string ⟨#[]⟩) := cell_of_row _ _ 2 _ _ (0, 0) HZ3.out; have y3 : w3.cell? ⟨W.heap.size, 3, none⟩ = some (.string ⟨#[]⟩) := cell_of_row _ _ 3 _ _ (0, 0) HZ3.out; have y4 : w3.cell? ⟨W.heap.size, 4, none⟩ = some (.slice none 0 0) := cell_of_row _ _ 4 _ _ (0, 0) HZ3.out; have yf0 : w3.frozen? ⟨W.heap.size, 0, none⟩ = false := pfrz HZ3.out; have yf1 : w3.frozen? ⟨W.heap.size, 1, none⟩ = false := pfrz HZ3.out; have yf2 : w3.frozen? ⟨W.heap.size, 2, none⟩ = false := pfrz HZ3.out; have yf3 : w3.frozen? ⟨W.heap.size, 3, none⟩ = false := pfrz HZ3.out; have yf4 : w3.frozen? ⟨W.heap.size, 4, none⟩ = false := pfrz HZ3.out; have HSH := Lib.hid (dsign_any s L P 41 ⟨#[41]⟩ rfl _ _ HLL.out HS.out GS3.out.r); rw [HT1.out, HT2.out] at HSH; have done3 := trivial))
              have HOW27 : Hid (∀ d : World, Below w6.heap.size w6 d → d = w6.drew → OwnKids d d.heap.size (.slice none 0 0) []) := Lib.hid (fun d _ _ => OwnKids.nil _ _)
              have HLK : Hid (([] : List Kr).length ≤ 1000000) := Lib.hid (Nat.zero_le _)
              obtain ⟨w6d, hww6d⟩ : ∃ w, w = w6.drew := ⟨_, rfl⟩
              have hbd : Below w6.heap.size w6 w6d := by rw [hww6d]; exact ⟨rfl, rfl, rfl, Nat.le_refl _, fun _ _ => rfl⟩
              have hzd : g < w6d.heap.size := Nat.lt_of_lt_of_le (in_heap GS6.out.x) hbd.size
              have hbs : w6d.heap.size ≤ w6d.heap.size := Nat.le_refl _
              have hgg := HGG.out
              refine PG.wp_region_persG (R := Out P g w6d.heap.size) (G := DG P g w6d.heap.size s L (.slice none 0 0) [] (.at_ (Wm.tok (Wm.tok l).rest).rest) (vx : Int)) (by kernel_rfl) (PG.formed_of (by kernel_rfl)) (out_goes P g w6d.heap.size) ?_ (DF P g w6d.heap.size s L (.slice none 0 0) [] (Wm.pol f (Wm.tok (Wm.tok l).rest).rest) (vx : Int)) ?_ ?_
              · rw [← hww6d]
                intro k
                unfold DG
                split
                · exact DSt.below GS6.out.r hbd GS6.out.r.lt
                · exact HOW27.out w6d hbd hww6d
                · exact (hbd.block _ (in_heap GS6.out.x)).trans GS6.out.x
                · trivial
              · rw [← hww6d]
                intro i o ho
                rcases i with _ | _ | _ | _ | _ | _ | _ | _ | i
                · obtain rfl := Option.some.inj (show some _ = some o from ho)
                  refine PG.shown_val rfl fun a w4 hr T => ?_
                  have h5 : a.eval (.tmp 8) = .pointer (some ⟨g, 0, none⟩) := T.was 8 (by kernel_rfl)
                  exact ⟨.pointer (some ⟨g, 4, none⟩), w4, by simp only [execOp, h5]; simp [go_sem], PG.Post.pure (out_goes P g w6d.heap.size) rfl⟩
                · obtain rfl := Option.some.inj (show some _ = some o from ho)
                  refine PG.shown_val rfl fun a w4 hr T => ?_
                  have h48 : a.eval (.tmp 94) = .pointer (some ⟨g, 4, none⟩) := T.at_ 0 94 (by kernel_rfl) (by kernel_rfl)
                  have hO : w4.heap[g]? = some (.cells #[.int .i64 (vx : Int), .int .i64 0, .string ⟨#[]⟩, .string ⟨#[]⟩, .slice none 0 0] 24) := T.yet 7 (by kernel_rfl)
                  have c4 : w4.cell? ⟨g, 4, none⟩ = some (.slice none 0 0) := cell_of_row _ _ 4 _ _ (0, 0) hO
                  exact ⟨.slice none 0 0, w4, by simp only [execOp, h48]; simp [go_sem, c4], PG.Post.pure (out_goes P g w6d.heap.size) rfl⟩
                · obtain rfl := Option.some.inj (show some _ = some o from ho)
                  refine PG.shown_val rfl fun a w4 hr T => ?_
                  have h0 : a.eval (.tmp 0) = .pointer (some ⟨P, 0, none⟩) := T.was 0 (by kernel_rfl)
                  exact ⟨.pointer (some ⟨P, 0, none⟩), w4, by simp only [execOp, h0]; simp [go_sem], PG.Post.pure (out_goes P g w6d.heap.size) rfl⟩
                · obtain rfl := Option.some.inj (show some _ = some o from ho)
                  refine PG.shown_call rfl 20 fun a w4 hr T => ?_
                  have h50 : a.eval (.tmp 96) = .pointer (some ⟨P, 0, none⟩) := T.at_ 2 96 (by kernel_rfl) (by kernel_rfl)
                  have hR5 : DSt w4 P s L (.at_ (Wm.tok (Wm.tok l).rest).rest) := T.own
                  have hO7 : OwnKids w4 w6d.heap.size (.slice none 0 0) [] := T.yet 5 (by kernel_rfl)
                  have hz4 : w6d.heap.size ≤ w4.heap.size := Nat.le_trans hbs hr.size
                  refine ⟨#[.pointer (some ⟨P, 0, none⟩)], by simp only [execOp, resolve, List.map_toArray, List.map_cons, List.map_nil, h50]; simp [go_sem, Act.eval], ?_⟩
                  refine (HIH.out (Wm.tok (Wm.tok l).rest).rest w4 HLST.out hR5).mono fun e w5 hh => ?_
                  obtain ⟨t, cs, rfl, hp5, hr5, ht5, hg5⟩ := hh
                  obtain ⟨k9, n9, y9, v9, A9, m9, c9, rfl⟩ := hp5.inv
                  refine ⟨_, rfl, out_grown hg5 (by omega), ⟨⟨t, k9, n9, y9, v9, A9, m9, c9⟩, rfl, ht5, hp5.imp (fun q hq => ⟨by omega, hq.2, fun e => by have := own_block_lt hO7.own q e; omega⟩), hr5⟩, fun k hk hG => ?_, fun j v hj hw hF => ?_⟩
                  · unfold DG at *
                    split
                    · exact absurd rfl hk
                    · exact OwnKids.kept hG hg5 (by omega)
                    · exact (hg5.block _ (in_heap hG) (by intro e; injection e with e; omega)).trans hG
                    · trivial
                  · match j, hj, hw, hF with
                    | 0, _, _, hF => exact hF
                    | 1, _, _, hF => exact hF
                    | 2, _, _, hF => exact hF
                    | 3, hj, _, _ => exact absurd rfl hj
                    | 4, _, hw, _ => exact (PG.waits_no (by kernel_rfl) hw).elim
                    | 5, _, _, hF => obtain ⟨x, h1, h2⟩ := hF; exact ⟨x, h1, h2.kept hg5 (by omega)⟩
                    | 6, _, _, hF => exact hF
                    | 7, _, _, hF => obtain ⟨x, v, h1, h2, h3⟩ := hF; exact ⟨x, v, h1, h2.kept hg5 (by omega), (hg5.block _ (in_heap h3) (by intro e; injection e with e; omega)).trans h3⟩
                    | _ + 8, _, _, _ => trivial
                · obtain rfl := Option.some.inj (show some _ = some o from ho)
                  refine PG.shown_val rfl fun a w4 hr T => ?_
                  obtain ⟨x, h53, hx1, hx2, hx3⟩ := T.at_ 3 97 (by kernel_rfl) (by kernel_rfl)
                  have hO7 : OwnKids w4 w6d.heap.size (.slice none 0 0) [] := T.yet 5 (by kernel_rfl)
                  have hz4 : w6d.heap.size ≤ w4.heap.size := Nat.le_trans hbs hr.size
                  have hb4 : Below w4.heap.size w4 (w4.alloc (.cells x.cells.toArray 24)) := (Below.refl _ _).alloc (Nat.le_refl _) _
                  refine ⟨.slice (some ⟨w4.heap.size, 0, none⟩) 1 1, w4.alloc (.cells x.cells.toArray 24), by simp only [execOp, List.map_toArray, List.map_cons, List.map_nil, h53]; simp [go_sem, Kr.cells, rcs], out_below hb4 (by omega), ⟨x, w4.heap.size, rfl, hx1, hx2.below hb4, by simpa using Rd.lit w4 x.cells.toArray 24, by omega, by simp, fun e => by have := own_block_lt hO7.own _ e; omega⟩, fun k hk hG => hG.below hb4, fun j v hj hw hF => hF.below hb4⟩
                · obtain rfl := Option.some.inj (show some _ = some o from ho)
                  refine PG.shown_val rfl fun a w4 hr T => ?_
                  have h49 : a.eval (.tmp 95) = .slice none 0 0 := T.at_ 1 95 (by kernel_rfl) (by kernel_rfl)
                  obtain ⟨x, q, h54, hx1, hx2, hx3, hx4, hx5, hx6⟩ := T.at_ 4 98 (by kernel_rfl) (by kernel_rfl)
                  have hO7 : OwnKids w4 w6d.heap.size (.slice none 0 0) [] := T.own
                  have hz4 : w6d.heap.size ≤ w4.heap.size := Nat.le_trans hbs hr.size
                  obtain ⟨v', w', r1', r2', r3'⟩ := appKid (ty := 22) hO7 hx2 hx3 HLK.out (by omega)
                  have hne : ∀ k, k < w6d.heap.size → ((.slice none 0 0) : Value).ownBlock ≠ some k := fun k hk e => by have := own_block_ge hO7.own k e; omega
                  refine ⟨v', w', by simp only [execOp, resolve, invoke, builtin, Sem.run_bind, Sem.run_pure, Result.andThen_ok, List.map_toArray, List.map_cons, List.map_nil, h49, h54, r1'], ⟨r3'.grown.os, r3'.grown.tape, r3'.grown.output, r3'.grown.size, fun k h1 h2 h3 => r3'.grown.block k (by omega) (Ne.symm (hne k h1))⟩, ⟨x, hx1, r2'⟩, fun k hk hG => ?_, fun j v hj hw hF => ?_⟩
                  · unfold DG at *
                    split
                    · exact DSt.grew hG hO7 r3' (by omega)
                    · exact absurd rfl hk
                    · exact (r3'.grown.block _ (in_heap hG) (Ne.symm (hne _ (by omega)))).trans hG
                    · trivial
                  · match j, hj, hw, hF with
                    | 0, _, _, hF => exact hF
                    | 1, _, _, hF => exact hF
                    | 2, _, _, hF => exact hF
                    | 3, _, _, hF => obtain ⟨y, h1, h2, h3, h4⟩ := hF; exact ⟨y, h1, h2, h3.app r3', h4.grew hO7 r3' (by omega)⟩
                    | 4, _, _, hF => obtain ⟨y, p, h1, h2, h3, h4, h5, h6, h7⟩ := hF; exact ⟨y, p, h1, h2, h3.app r3', h4.block9 (r3'.grown.block p h6 (Ne.symm h7)), h5, Nat.lt_of_lt_of_le h6 r3'.grown.size, h7⟩
                    | 5, hj, _, _ => exact absurd rfl hj
                    | 6, _, _, hF => exact hF
                    | 7, _, hw, _ => exact (PG.waits_no (by kernel_rfl) hw).elim
                    | _ + 8, _, _, _ => trivial
                · obtain rfl := Option.some.inj (show some _ = some o from ho)
                  refine PG.shown_val rfl fun a w4 hr T => ?_
                  have h5 : a.eval (.tmp 8) = .pointer (some ⟨g, 0, none⟩) := T.was 8 (by kernel_rfl)
                  exact ⟨.pointer (some ⟨g, 4, none⟩), w4, by simp only [execOp, h5]; simp [go_sem], PG.Post.pure (out_goes P g w6d.heap.size) rfl⟩
                · obtain rfl := Option.some.inj (show some _ = some o from ho)
                  refine PG.shown_skip rfl fun a w4 hr T => ?_
                  have h56 : a.eval (.tmp 100) = .pointer (some ⟨g, 4, none⟩) := T.at_ 6 100 (by kernel_rfl) (by kernel_rfl)
                  obtain ⟨x, hx1, hx2⟩ := T.at_ 5 99 (by kernel_rfl) (by kernel_rfl)
                  have hO : w4.heap[g]? = some (.cells #[.int .i64 (vx : Int), .int .i64 0, .string ⟨#[]⟩, .string ⟨#[]⟩, .slice none 0 0] 24) := T.own
                  have hz4 : w6d.heap.size ≤ w4.heap.size := Nat.le_trans hbs hr.size
                  obtain ⟨Ar, cr, hv7, _, _⟩ := own_rd hx2.own
                  rw [hv7] at hx2
                  have c4 : w4.cell? ⟨g, 4, none⟩ = some (.slice none 0 0) := cell_of_row _ _ 4 _ _ (0, 0) hO
                  have f4 : w4.frozen? ⟨g, 4, none⟩ = false := pfrz hO
                  have hst : Out P g w6d.heap.size w4 (w4.setCell ⟨g, 4, none⟩ (.slice Ar ([] ++ [x]).length cr)) := ⟨rfl, rfl, rfl, by simp, fun k h1 h2 h3 => Below.heap_setCell w4 _ _ k (by simpa using h3)⟩
                  refine ⟨w4.setCell ⟨g, 4, none⟩ (.slice Ar ([] ++ [x]).length cr), by simp only [execOp, h56, hv7]; simp [go_sem, c4, f4], hst, ⟨x, .slice Ar ([] ++ [x]).length cr, hx1, hx2.set (by omega), heap_setCell_same _ _ 4 _ _ _ hO⟩, fun k hk hG => ?_, fun j v hj hw hF => ?_⟩
                  · unfold DG at *
                    split
                    · exact dst_wide hG (by omega) _
                    · exact OwnKids.set hG (by omega)
                    · exact absurd rfl hk
                    · trivial
                  · match j, hj, hw, hF with
                    | 0, _, _, hF => exact hF
                    | 1, _, _, hF => exact hF
                    | 2, _, _, hF => exact hF
                    | 3, _, _, hF => obtain ⟨y, h1, h2, h3, h4⟩ := hF; exact ⟨y, h1, h2, h3.set (by omega), dst_wide h4 (by omega) _⟩
                    | 4, _, _, hF => obtain ⟨y, p, h1, h2, h3, h4, h5, h6, h7⟩ := hF; exact ⟨y, p, h1, h2, h3.set (by omega), h4.block9 (Below.heap_setCell w4 _ _ p (by simp; omega)), h5, by simpa using h6, h7⟩
                    | 5, _, _, hF => obtain ⟨y, h1, h2⟩ := hF; exact ⟨y, h1, h2.set (by omega)⟩
                    | 6, _, _, hF => exact hF
                    | 7, hj, _, _ => exact absurd rfl hj
                    | _ + 8, _, _, _ => trivial
                · cases ho
              · rw [← hww6d]
                intro x w5 hr hf he
                obtain ⟨x5, hx5, hx5t, hx5k, hx5r⟩ := hf 3 _ 97 rfl rfl
                obtain ⟨_, y, V', hyt, hyo, hyx⟩ := he 7 _ rfl rfl
                have hz5 := hr.size
                have GS5 : Hid (RoSt W w5 P g s L (Wm.pol f (Wm.tok (Wm.tok l).rest).rest).st #[.int .i64 (vx : Int), .int .i64 0, .string ⟨#[]⟩, .string ⟨#[]⟩, V']) := Lib.hid ⟨(hr.block _ (by omega) (by omega) (by omega)).trans ((hbd.block _ (in_heap GS6.out.z)).trans GS6.out.z), hyx, hx5r, ⟨hr.os.trans (hbd.os.trans GS6.out.gr.os), hr.tape.trans (hbd.tape.trans GS6.out.gr.tape), hr.output.trans (hbd.output.trans GS6.out.gr.output), Nat.le_trans GS6.out.gr.size (Nat.le_trans hbd.size hr.size), fun k hk hne => (hr.block k (by omega) (fun e => hne (by rw [e])) (by omega)).trans ((hbd.block k (by have := GS6.out.gr.size; omega)).trans (GS6.out.gr.block k hk hne))⟩⟩
                have HO5 := Lib.hid hyo
                have HYT := Lib.hid hyt
                have HB5 := Lib.hid hzd
                clear hf he hr hx5 hx5t hx5k hx5r hyo hyx hyt
                simp only [PG.putAll, Act.put, List.setIfInBounds_toArray, List.set_cons_zero, List.set_cons_succ]
                have HRES : Hid (Wm.pol (f + 1) l = Wm.polK (Wm.pol f) 1 f (Wm.tok l).rest) := Lib.hid (by rw [HPOL.out, HVK.out])
                rw [show (vx : Int) = 1 from by have := HVK.out; omega] at GS5
                obtain ⟨bs, hbs0⟩ : ∃ n, n = w6d.heap.size := ⟨_, rfl⟩
                rw [← hbs0] at HO5 HB5 hz5
                have HB6 := Lib.hid HB5.out
                have hPb : P < bs := by have h1 := HB6.out; have h2 := HGG.out; omega
                have hKL : KL W w5 P g bs 1 f s L (Wm.kids (Wm.pol f) 1 f (Wm.tok (Wm.tok l).rest).rest) := by
                  obtain ⟨A9, c9, hV9, _, _⟩ := own_rd HO5.out.own
                  subst hV9
                  exact ⟨_, _, A9, c9, HO5.out, GS5.out, KInv.first HLST.out HYT.out, hz5⟩
                have HKL := Lib.hid hKL
                clear hKL HO5 HB5 GS5 HYT hz5 hzd hbs hgg
                clear k1 m1
                try clear k2 m2
                try clear n3 e3
                go_wp2_with fail
                go_loopw [101] (fun _ wr => Hid (KL W wr P g bs 1 f s L (Wm.kids (Wm.pol f) 1 f (Wm.tok (Wm.tok l).rest).rest))) (fun _ wr => dmeas wr P s.size)
                case atStart => exact HKL
                case round =>
                  have HREL := hrel
                  clear hrel HKL
                  obtain ⟨st2, Lk, A7, c7, ho, hgs, hinv, hbz⟩ := HREL.out
                  clear HREL
                  obtain ⟨ln, hln⟩ : ∃ k, Lk.length = k := ⟨_, rfl⟩
                  rw [hln] at ho hgs
                  have HLK : Hid (Lk.length ≤ 1000000) := Lib.hid (by have := hinv.len; omega)
                  have HO := Lib.hid ho
                  have GS := Lib.hid hgs
                  have HINV := Lib.hid hinv
                  clear ho hgs hinv hln
                  have HX9 := Lib.hid GS.out.x
                  have HZ9 := Lib.hid GS.out.z
                  have x0 : wr.cell? ⟨g, 0, none⟩ = some (.int .i64 1) := cell_of_row _ _ 0 _ _ (0, 0) HX9.out
                  have x1 : wr.cell? ⟨g, 1, none⟩ = some (.int .i64 0) := cell_of_row _ _ 1 _ _ (0, 0) HX9.out
                  have x2 : wr.cell? ⟨g, 2, none⟩ = some (.string ⟨#[]⟩) := cell_of_row _ _ 2 _ _ (0, 0) HX9.out
                  have x3 : wr.cell? ⟨g, 3, none⟩ = some (.string ⟨#[]⟩) := cell_of_row _ _ 3 _ _ (0, 0) HX9.out
                  have x4 : wr.cell? ⟨g, 4, none⟩ = some (.slice A7 ln c7) := cell_of_row _ _ 4 _ _ (0, 0) HX9.out
                  have xf0 : wr.frozen? ⟨g, 0, none⟩ = false := pfrz HX9.out
                  have xf1 : wr.frozen? ⟨g, 1, none⟩ = false := pfrz HX9.out
                  have xf2 : wr.frozen? ⟨g, 2, none⟩ = false := pfrz HX9.out
                  have xf3 : wr.frozen? ⟨g, 3, none⟩ = false := pfrz HX9.out
                  have xf4 : wr.frozen? ⟨g, 4, none⟩ = false := pfrz HX9.out
                  have y0 : wr.cell? ⟨W.heap.size, 0, none⟩ = some (.int .i64 0) := cell_of_row _ _ 0 _ _ (0, 0) HZ9.out
                  have y1 : wr.cell? ⟨W.heap.size, 1, none⟩ = some (.int .i64 0) := cell_of_row _ _ 1 _ _ (0, 0) HZ9.out
                  have y2 : wr.cell? ⟨W.heap.size, 2, none⟩ = some (.string ⟨#[]⟩) := cell_of_row _ _ 2 _ _ (0, 0) HZ9.out
                  have y3 : wr.cell? ⟨W.heap.size, 3, none⟩ = some (.string ⟨#[]⟩) := cell_of_row _ _ 3 _ _ (0, 0) HZ9.out
                  have y4 : wr.cell? ⟨W.heap.size, 4, none⟩ = some (.slice none 0 0) := cell_of_row _ _ 4 _ _ (0, 0) HZ9.out
                  have yf0 : wr.frozen? ⟨W.heap.size, 0, none⟩ = false := pfrz HZ9.out
                  have yf1 : wr.frozen? ⟨W.heap.size, 1, none⟩ = false := pfrz HZ9.out
                  have yf2 : wr.frozen? ⟨W.heap.size, 2, none⟩ = false := pfrz HZ9.out
                  have yf3 : wr.frozen? ⟨W.heap.size, 3, none⟩ = false := pfrz HZ9.out
                  have yf4 : wr.frozen? ⟨W.heap.size, 4, none⟩ = false := pfrz HZ9.out
                  have HSC := Lib.hid (dsign_any s L P 44 ⟨#[44]⟩ rfl _ _ HLL.out HS.out GS.out.r)
                  have done5 := trivial
                  cases hb : Wm.signB 44 st2 with
                  | true =>
                    obtain ⟨l3, rfl, h44⟩ := sign_at hb
                    have h2 : Wm.signD 44 (.at_ l3) = .at_ (Wm.tok l3).rest := if_pos h44
                    rw [hb, h2] at HSC
                    have HINV2 : Hid (∀ x : Kr, (∀ t' r, Wm.pol f (Wm.tok l3).rest = .ok t' r → x.t = t') → KInv f (Wm.kids (Wm.pol f) 1 f (Wm.tok (Wm.tok l).rest).rest) (Lk ++ [x]) (Wm.pol f (Wm.tok l3).rest).st) := Lib.hid (fun x hx => HINV.out.step h44 hx)
                    have HMS : Hid (∀ w', DSt w' P s L (Wm.pol f (Wm.tok l3).rest).st → dmeas w' P s.size < dmeas wr P s.size) := Lib.hid (fun w' hw => dmeas_step HLL.out GS.out.r h44 hw)
                    have HLST : Hid ((Wm.tok l3).rest.length < f) := Lib.hid (by
                      obtain ⟨m, _, _, _, h4⟩ := HINV.out
                      have := (Wm.tok_rest l3).len
                      omega)
                    clear hb h2 h44
                    go_wp2_with (have hd := done5; clear done5; go_at_call 39; (with_reducible refine HSC.out.mono ?_); rintro e8 w8 ⟨rfl, hr8, hg8⟩; have GS8 := Lib.hid (GS.out.call hg8 hr8 hP HGG.out); have HO8 := Lib.hid (HO.out.kept hg8 hPb); have hbz := Nat.le_trans hbz hg8.size; clear hr8 hg8; clear x0 x1 x2 x3 x4 xf0 xf1 xf2 xf3 xf4 y0 y1 y2 y3 y4 yf0 yf1 yf2 yf3 yf4; have HX8 := Lib.hid GS8.out.x; have HZ8 := Lib.hid GS8.out.z; have x0 : w8.cell? ⟨g, 0, none⟩ = some (.int .i64 1) := cell_of_row _ _ 0 _ _ (0, 0) HX8.out; have x1 : w8.cell? ⟨g, 1, none⟩ = some (.int .i64 0) := cell_of_row _ _ 1 _ _ (0, 0) HX8.out; have x2 : w8.cell? ⟨g, 2, none⟩ = some (.string ⟨#[]⟩) := cell_of_row _ _ 2 _ _ (0, 0) HX8.out; have x3 : w8.cell? ⟨g, 3, none⟩ = some (.string ⟨#[]⟩) := cell_of_row _ _ 3 _ _ (0, 0) HX8.out; have x4 : w8.cell? ⟨g, 4, none⟩ = some (.slice A7 ln c7) := cell_of_row _ _ 4 _ _ (0, 0) HX8.out; have xf0 : w8.frozen? ⟨g, 0, none⟩ = false := pfrz HX8.out; have xf1 : w8.frozen? ⟨g, 1, none⟩ = false := pfrz HX8.out; have xf2 : w8.frozen? ⟨g, 2, none⟩ = false := pfrz HX8.out; have xf3 : w8.frozen? ⟨g, 3, none⟩ = false := pfrz HX8.out; have xf4 : w8.frozen? ⟨g, 4, none⟩ = false := pfrz HX8.out; have y0 : w8.cell? ⟨W.heap.size, 0, none⟩ = some (.int .i64 0) := cell_of_row _ _ 0 _ _ (0, 0) HZ8.out; have y1 : w8.cell? ⟨W.heap.size, 1, none⟩ = some (.int .i64 0) := cell_of_row _ _ 1 _ _ (0, 0) HZ8.out; have y2 : w8.cell? ⟨W.heap.size, 2, none⟩ = some (.string ⟨#[]⟩) := cell_of_row _ _ 2 _ _ (0, 0) HZ8.out; have y3 : w8.cell? ⟨W.heap.size, 3, none⟩ = some (.string ⟨#[]⟩) := cell_of_row _ _ 3 _ _ (0, 0) HZ8.out; have y4 : w8.cell? ⟨W.heap.size, 4, none⟩ = some (.slice none 0 0) := cell_of_row _ _ 4 _ _ (0, 0) HZ8.out; have yf0 : w8.frozen? ⟨W.heap.size, 0, none⟩ = false := pfrz HZ8.out; have yf1 : w8.frozen? ⟨W.heap.size, 1, none⟩ = false := pfrz HZ8.out; have yf2 : w8.frozen? ⟨W.heap.size, 2, none⟩ = false := pfrz HZ8.out; have yf3 : w8.frozen? ⟨W.heap.size, 3, none⟩ = false := pfrz HZ8.out; have yf4 : w8.frozen? ⟨W.heap.size, 4, none⟩ = false := pfrz HZ8.out; have done6 := trivial)
                    have HOW29 : Hid (∀ d : World, Below w8.heap.size w8 d → d = w8.drew → OwnKids d bs (.slice A7 ln c7) Lk) := Lib.hid (fun d hd _ => HO8.out.below hd)
                    have hgb : g < bs := HB6.out
                    obtain ⟨w8d, hww8d⟩ : ∃ w, w = w8.drew := ⟨_, rfl⟩
                    have hbd : Below w8.heap.size w8 w8d := by rw [hww8d]; exact ⟨rfl, rfl, rfl, Nat.le_refl _, fun _ _ => rfl⟩
                    have hzd : g < w8d.heap.size := Nat.lt_of_lt_of_le (in_heap GS8.out.x) hbd.size
                    have hbs : bs ≤ w8d.heap.size := Nat.le_trans hbz hbd.size
                    have hgg := HGG.out
                    refine PG.wp_region_persG (R := Out P g bs) (G := DG P g bs s L (.slice A7 ln c7) Lk (.at_ (Wm.tok l3).rest) 1) (by kernel_rfl) (PG.formed_of (by kernel_rfl)) (out_goes P g bs) ?_ (DF P g bs s L (.slice A7 ln c7) Lk (Wm.pol f (Wm.tok l3).rest) 1) ?_ ?_
                    · rw [← hww8d]
                      intro k
                      unfold DG
                      split
                      · exact DSt.below GS8.out.r hbd GS8.out.r.lt
                      · exact HOW29.out w8d hbd hww8d
                      · exact (hbd.block _ (in_heap GS8.out.x)).trans GS8.out.x
                      · trivial
                    · rw [← hww8d]
                      intro i o ho
                      rcases i with _ | _ | _ | _ | _ | _ | _ | _ | i
                      · obtain rfl := Option.some.inj (show some _ = some o from ho)
                        refine PG.shown_val rfl fun a w4 hr T => ?_
                        have h5 : a.eval (.tmp 8) = .pointer (some ⟨g, 0, none⟩) := T.was 8 (by kernel_rfl)
                        exact ⟨.pointer (some ⟨g, 4, none⟩), w4, by simp only [execOp, h5]; simp [go_sem], PG.Post.pure (out_goes P g bs) rfl⟩
                      · obtain rfl := Option.some.inj (show some _ = some o from ho)
                        refine PG.shown_val rfl fun a w4 hr T => ?_
                        have h48 : a.eval (.tmp 108) = .pointer (some ⟨g, 4, none⟩) := T.at_ 0 108 (by kernel_rfl) (by kernel_rfl)
                        have hO : w4.heap[g]? = some (.cells #[.int .i64 1, .int .i64 0, .string ⟨#[]⟩, .string ⟨#[]⟩, .slice A7 ln c7] 24) := T.yet 7 (by kernel_rfl)
                        have c4 : w4.cell? ⟨g, 4, none⟩ = some (.slice A7 ln c7) := cell_of_row _ _ 4 _ _ (0, 0) hO
                        exact ⟨.slice A7 ln c7, w4, by simp only [execOp, h48]; simp [go_sem, c4], PG.Post.pure (out_goes P g bs) rfl⟩
                      · obtain rfl := Option.some.inj (show some _ = some o from ho)
                        refine PG.shown_val rfl fun a w4 hr T => ?_
                        have h0 : a.eval (.tmp 0) = .pointer (some ⟨P, 0, none⟩) := T.was 0 (by kernel_rfl)
                        exact ⟨.pointer (some ⟨P, 0, none⟩), w4, by simp only [execOp, h0]; simp [go_sem], PG.Post.pure (out_goes P g bs) rfl⟩
                      · obtain rfl := Option.some.inj (show some _ = some o from ho)
                        refine PG.shown_call rfl 20 fun a w4 hr T => ?_
                        have h50 : a.eval (.tmp 110) = .pointer (some ⟨P, 0, none⟩) := T.at_ 2 110 (by kernel_rfl) (by kernel_rfl)
                        have hR5 : DSt w4 P s L (.at_ (Wm.tok l3).rest) := T.own
                        have hO7 : OwnKids w4 bs (.slice A7 ln c7) Lk := T.yet 5 (by kernel_rfl)
                        have hz4 : bs ≤ w4.heap.size := Nat.le_trans hbs hr.size
                        refine ⟨#[.pointer (some ⟨P, 0, none⟩)], by simp only [execOp, resolve, List.map_toArray, List.map_cons, List.map_nil, h50]; simp [go_sem, Act.eval], ?_⟩
                        refine (HIH.out (Wm.tok l3).rest w4 HLST.out hR5).mono fun e w5 hh => ?_
                        obtain ⟨t, cs, rfl, hp5, hr5, ht5, hg5⟩ := hh
                        obtain ⟨k9, n9, y9, v9, A9, m9, c9, rfl⟩ := hp5.inv
                        refine ⟨_, rfl, out_grown hg5 (by omega), ⟨⟨t, k9, n9, y9, v9, A9, m9, c9⟩, rfl, ht5, hp5.imp (fun q hq => ⟨by omega, hq.2, fun e => by have := own_block_lt hO7.own q e; omega⟩), hr5⟩, fun k hk hG => ?_, fun j v hj hw hF => ?_⟩
                        · unfold DG at *
                          split
                          · exact absurd rfl hk
                          · exact OwnKids.kept hG hg5 (by omega)
                          · exact (hg5.block _ (in_heap hG) (by intro e; injection e with e; omega)).trans hG
                          · trivial
                        · match j, hj, hw, hF with
                          | 0, _, _, hF => exact hF
                          | 1, _, _, hF => exact hF
                          | 2, _, _, hF => exact hF
                          | 3, hj, _, _ => exact absurd rfl hj
                          | 4, _, hw, _ => exact (PG.waits_no (by kernel_rfl) hw).elim
                          | 5, _, _, hF => obtain ⟨x, h1, h2⟩ := hF; exact ⟨x, h1, h2.kept hg5 (by omega)⟩
                          | 6, _, _, hF => exact hF
                          | 7, _, _, hF => obtain ⟨x, v, h1, h2, h3⟩ := hF; exact ⟨x, v, h1, h2.kept hg5 (by omega), (hg5.block _ (in_heap h3) (by intro e; injection e with e; omega)).trans h3⟩
                          | _ + 8, _, _, _ => trivial
                      · obtain rfl := Option.some.inj (show some _ = some o from ho)
                        refine PG.shown_val rfl fun a w4 hr T => ?_
                        obtain ⟨x, h53, hx1, hx2, hx3⟩ := T.at_ 3 111 (by kernel_rfl) (by kernel_rfl)
                        have hO7 : OwnKids w4 bs (.slice A7 ln c7) Lk := T.yet 5 (by kernel_rfl)
                        have hz4 : bs ≤ w4.heap.size := Nat.le_trans hbs hr.size
                        have hb4 : Below w4.heap.size w4 (w4.alloc (.cells x.cells.toArray 24)) := (Below.refl _ _).alloc (Nat.le_refl _) _
                        refine ⟨.slice (some ⟨w4.heap.size, 0, none⟩) 1 1, w4.alloc (.cells x.cells.toArray 24), by simp only [execOp, List.map_toArray, List.map_cons, List.map_nil, h53]; simp [go_sem, Kr.cells, rcs], out_below hb4 (by omega), ⟨x, w4.heap.size, rfl, hx1, hx2.below hb4, by simpa using Rd.lit w4 x.cells.toArray 24, by omega, by simp, fun e => by have := own_block_lt hO7.own _ e; omega⟩, fun k hk hG => hG.below hb4, fun j v hj hw hF => hF.below hb4⟩
                      · obtain rfl := Option.some.inj (show some _ = some o from ho)
                        refine PG.shown_val rfl fun a w4 hr T => ?_
                        have h49 : a.eval (.tmp 109) = .slice A7 ln c7 := T.at_ 1 109 (by kernel_rfl) (by kernel_rfl)
                        obtain ⟨x, q, h54, hx1, hx2, hx3, hx4, hx5, hx6⟩ := T.at_ 4 112 (by kernel_rfl) (by kernel_rfl)
                        have hO7 : OwnKids w4 bs (.slice A7 ln c7) Lk := T.own
                        have hz4 : bs ≤ w4.heap.size := Nat.le_trans hbs hr.size
                        obtain ⟨v', w', r1', r2', r3'⟩ := appKid (ty := 22) hO7 hx2 hx3 HLK.out (by omega)
                        have hne : ∀ k, k < bs → ((.slice A7 ln c7) : Value).ownBlock ≠ some k := fun k hk e => by have := own_block_ge hO7.own k e; omega
                        refine ⟨v', w', by simp only [execOp, resolve, invoke, builtin, Sem.run_bind, Sem.run_pure, Result.andThen_ok, List.map_toArray, List.map_cons, List.map_nil, h49, h54, r1'], ⟨r3'.grown.os, r3'.grown.tape, r3'.grown.output, r3'.grown.size, fun k h1 h2 h3 => r3'.grown.block k (by omega) (Ne.symm (hne k h1))⟩, ⟨x, hx1, r2'⟩, fun k hk hG => ?_, fun j v hj hw hF => ?_⟩
                        · unfold DG at *
                          split
                          · exact DSt.grew hG hO7 r3' (by omega)
                          · exact absurd rfl hk
                          · exact (r3'.grown.block _ (in_heap hG) (Ne.symm (hne _ (by omega)))).trans hG
                          · trivial
                        · match j, hj, hw, hF with
                          | 0, _, _, hF => exact hF
                          | 1, _, _, hF => exact hF
                          | 2, _, _, hF => exact hF
                          | 3, _, _, hF => obtain ⟨y, h1, h2, h3, h4⟩ := hF; exact ⟨y, h1, h2, h3.app r3', h4.grew hO7 r3' (by omega)⟩
                          | 4, _, _, hF => obtain ⟨y, p, h1, h2, h3, h4, h5, h6, h7⟩ := hF; exact ⟨y, p, h1, h2, h3.app r3', h4.block9 (r3'.grown.block p h6 (Ne.symm h7)), h5, Nat.lt_of_lt_of_le h6 r3'.grown.size, h7⟩
                          | 5, hj, _, _ => exact absurd rfl hj
                          | 6, _, _, hF => exact hF
                          | 7, _, hw, _ => exact (PG.waits_no (by kernel_rfl) hw).elim
                          | _ + 8, _, _, _ => trivial
                      · obtain rfl := Option.some.inj (show some _ = some o from ho)
                        refine PG.shown_val rfl fun a w4 hr T => ?_
                        have h5 : a.eval (.tmp 8) = .pointer (some ⟨g, 0, none⟩) := T.was 8 (by kernel_rfl)
                        exact ⟨.pointer (some ⟨g, 4, none⟩), w4, by simp only [execOp, h5]; simp [go_sem], PG.Post.pure (out_goes P g bs) rfl⟩
                      · obtain rfl := Option.some.inj (show some _ = some o from ho)
                        refine PG.shown_skip rfl fun a w4 hr T => ?_
                        have h56 : a.eval (.tmp 114) = .pointer (some ⟨g, 4, none⟩) := T.at_ 6 114 (by kernel_rfl) (by kernel_rfl)
                        obtain ⟨x, hx1, hx2⟩ := T.at_ 5 113 (by kernel_rfl) (by kernel_rfl)
                        have hO : w4.heap[g]? = some (.cells #[.int .i64 1, .int .i64 0, .string ⟨#[]⟩, .string ⟨#[]⟩, .slice A7 ln c7] 24) := T.own
                        have hz4 : bs ≤ w4.heap.size := Nat.le_trans hbs hr.size
                        obtain ⟨Ar, cr, hv7, _, _⟩ := own_rd hx2.own
                        rw [hv7] at hx2
                        have c4 : w4.cell? ⟨g, 4, none⟩ = some (.slice A7 ln c7) := cell_of_row _ _ 4 _ _ (0, 0) hO
                        have f4 : w4.frozen? ⟨g, 4, none⟩ = false := pfrz hO
                        have hst : Out P g bs w4 (w4.setCell ⟨g, 4, none⟩ (.slice Ar (Lk ++ [x]).length cr)) := ⟨rfl, rfl, rfl, by simp, fun k h1 h2 h3 => Below.heap_setCell w4 _ _ k (by simpa using h3)⟩
                        refine ⟨w4.setCell ⟨g, 4, none⟩ (.slice Ar (Lk ++ [x]).length cr), by simp only [execOp, h56, hv7]; simp [go_sem, c4, f4], hst, ⟨x, .slice Ar (Lk ++ [x]).length cr, hx1, hx2.set (by omega), heap_setCell_same _ _ 4 _ _ _ hO⟩, fun k hk hG => ?_, fun j v hj hw hF => ?_⟩
                        · unfold DG at *
                          split
                          · exact dst_wide hG (by omega) _
                          · exact OwnKids.set hG (by omega)
                          · exact absurd rfl hk
                          · trivial
                        · match j, hj, hw, hF with
                          | 0, _, _, hF => exact hF
                          | 1, _, _, hF => exact hF
                          | 2, _, _, hF => exact hF
                          | 3, _, _, hF => obtain ⟨y, h1, h2, h3, h4⟩ := hF; exact ⟨y, h1, h2, h3.set (by omega), dst_wide h4 (by omega) _⟩
                          | 4, _, _, hF => obtain ⟨y, p, h1, h2, h3, h4, h5, h6, h7⟩ := hF; exact ⟨y, p, h1, h2, h3.set (by omega), h4.block9 (Below.heap_setCell w4 _ _ p (by simp; omega)), h5, by simpa using h6, h7⟩
                          | 5, _, _, hF => obtain ⟨y, h1, h2⟩ := hF; exact ⟨y, h1, h2.set (by omega)⟩
                          | 6, _, _, hF => exact hF
                          | 7, hj, _, _ => exact absurd rfl hj
                          | _ + 8, _, _, _ => trivial
                      · cases ho
                    · rw [← hww8d]
                      intro x w5 hr hf he
                      obtain ⟨x5, hx5, hx5t, hx5k, hx5r⟩ := hf 3 _ 111 rfl rfl
                      obtain ⟨_, y, V', hyt, hyo, hyx⟩ := he 7 _ rfl rfl
                      have hz5 := hr.size
                      have GS5 : Hid (RoSt W w5 P g s L (Wm.pol f (Wm.tok l3).rest).st #[.int .i64 1, .int .i64 0, .string ⟨#[]⟩, .string ⟨#[]⟩, V']) := Lib.hid ⟨(hr.block _ (by omega) (by omega) (by omega)).trans ((hbd.block _ (in_heap GS8.out.z)).trans GS8.out.z), hyx, hx5r, ⟨hr.os.trans (hbd.os.trans GS8.out.gr.os), hr.tape.trans (hbd.tape.trans GS8.out.gr.tape), hr.output.trans (hbd.output.trans GS8.out.gr.output), Nat.le_trans GS8.out.gr.size (Nat.le_trans hbd.size hr.size), fun k hk hne => (hr.block k (by omega) (fun e => hne (by rw [e])) (by omega)).trans ((hbd.block k (by have := GS8.out.gr.size; omega)).trans (GS8.out.gr.block k hk hne))⟩⟩
                      have HO5 := Lib.hid hyo
                      have HYT := Lib.hid hyt
                      have HB5 := Lib.hid hzd
                      clear hf he hr hx5 hx5t hx5k hx5r hyo hyx hyt
                      simp only [PG.putAll, Act.put, List.setIfInBounds_toArray, List.set_cons_zero, List.set_cons_succ]
                      obtain ⟨A9, c9, hV9, _, _⟩ := own_rd HO5.out.own
                      subst hV9
                      have hz9 := Nat.le_trans hbs hz5
                      go_wp2_with fail
                      go_roundw
                      case rel => exact ⟨_, _, _, _, _, _, _, _, _, _, _, _, _, _, Lib.hid ⟨_, Lk ++ [y], A9, c9, HO5.out, GS5.out, HINV2.out y HYT.out, hz9⟩, rfl⟩
                      case measure => exact HMS.out _ GS5.out.r
                  | false =>
                    have HPK := Lib.hid (dpolK12_out (f := f) (p := Wm.pol f) (l := (Wm.tok l).rest) 1 (by decide) H40.out H41N.out (Lk.map Kr.t) (HINV.out.endD hb))
                    have hd2 := sign_not hb
                    rw [hb, hd2] at HSC
                    have HSK := Lib.hid (fun (w : World) (hw : DSt w P s L st2) => dsign_any s L P 41 ⟨#[41]⟩ rfl st2 w HLL.out HS.out hw)
                    clear hb hd2
                    cases hb : Wm.signB 41 st2 with
                    | true =>
                      rw [hb] at HSK
                      have HST := Lib.hid (HPK.out.1 hb)
                      clear hb
                      go_wp2_with (first
                        | (have hd := done6; clear done6; go_at_call 39; (with_reducible refine (Lib.hid (HSK.out _ GS6.out.r)).out.mono ?_); rintro e7 w7 ⟨rfl, hr7, hg7⟩; have GS7 := Lib.hid (GS6.out.call hg7 hr7 hP HGG.out); have HO7 := Lib.hid (HO6.out.kept hg7 hPb); have hbz := Nat.le_trans hbz hg7.size; clear hr7 hg7; clear x0 x1 x2 x3 x4 xf0 xf1 xf2 xf3 xf4 y0 y1 y2 y3 y4 yf0 yf1 yf2 yf3 yf4; have HX7 := Lib.hid GS7.out.x; have HZ7 := Lib.hid GS7.out.z; have x0 : w7.cell? ⟨g, 0, none⟩ = some (.int .i64 1) := cell_of_row _ _ 0 _ _ (0, 0) HX7.out; have x1 : w7.cell? ⟨g, 1, none⟩ = some (.int .i64 0) := cell_of_row _ _ 1 _ _ (0, 0) HX7.out; have x2 : w7.cell? ⟨g, 2, none⟩ = some (.string ⟨#[]⟩) := cell_of_row _ _ 2 _ _ (0, 0) HX7.out; have x3 : w7.cell? ⟨g, 3, none⟩ = some (.string ⟨#[]⟩) := cell_of_row _ _ 3 _ _ (0, 0) HX7.out; have x4 : w7.cell? ⟨g, 4, none⟩ = some (.slice A7 ln c7) := cell_of_row _ _ 4 _ _ (0, 0) HX7.out; have xf0 : w7.frozen? ⟨g, 0, none⟩ = false := pfrz HX7.out; have xf1 : w7.frozen? ⟨g, 1, none⟩ = false := pfrz HX7.out; have xf2 : w7.frozen? ⟨g, 2, none⟩ = false := pfrz HX7.out; have xf3 : w7.frozen? ⟨g, 3, none⟩ = false := pfrz HX7.out; have xf4 : w7.frozen? ⟨g, 4, none⟩ = false := pfrz HX7.out; have y0 : w7.cell? ⟨W.heap.size, 0, none⟩ = some (.int .i64 0) := cell_of_row _ _ 0 _ _ (0, 0) HZ7.out; have y1 : w7.cell? ⟨W.heap.size, 1, none⟩ = some (.int .i64 0) := cell_of_row _ _ 1 _ _ (0, 0) HZ7.out; have y2 : w7.cell? ⟨W.heap.size, 2, none⟩ = some (.string ⟨#[]⟩) := cell_of_row _ _ 2 _ _ (0, 0) HZ7.out; have y3 : w7.cell? ⟨W.heap.size, 3, none⟩ = some (.string ⟨#[]⟩) := cell_of_row _ _ 3 _ _ (0, 0) HZ7.out; have y4 : w7.cell? ⟨W.heap.size, 4, none⟩ = some (.slice none 0 0) := cell_of_row _ _ 4 _ _ (0, 0) HZ7.out; have yf0 : w7.frozen? ⟨W.heap.size, 0, none⟩ = false := pfrz HZ7.out; have yf1 : w7.frozen? ⟨W.heap.size, 1, none⟩ = false := pfrz HZ7.out; have yf2 : w7.frozen? ⟨W.heap.size, 2, none⟩ = false := pfrz HZ7.out; have yf3 : w7.frozen? ⟨W.heap.size, 3, none⟩ = false := pfrz HZ7.out; have yf4 : w7.frozen? ⟨W.heap.size, 4, none⟩ = false := pfrz HZ7.out; have done7 := trivial)
                        | (have hd := done5; clear done5; go_at_call 39; (with_reducible refine HSC.out.mono ?_); rintro e6 w6 ⟨rfl, hr6, hg6⟩; have GS6 := Lib.hid (GS.out.call hg6 hr6 hP HGG.out); have HO6 := Lib.hid (HO.out.kept hg6 hPb); have hbz := Nat.le_trans hbz hg6.size; clear hr6 hg6; clear x0 x1 x2 x3 x4 xf0 xf1 xf2 xf3 xf4 y0 y1 y2 y3 y4 yf0 yf1 yf2 yf3 yf4; have HX6 := Lib.hid GS6.out.x; have HZ6 := Lib.hid GS6.out.z; have x0 : w6.cell? ⟨g, 0, none⟩ = some (.int .i64 1) := cell_of_row _ _ 0 _ _ (0, 0) HX6.out; have x1 : w6.cell? ⟨g, 1, none⟩ = some (.int .i64 0) := cell_of_row _ _ 1 _ _ (0, 0) HX6.out; have x2 : w6.cell? ⟨g, 2, none⟩ = some (.string ⟨#[]⟩) := cell_of_row _ _ 2 _ _ (0, 0) HX6.out; have x3 : w6.cell? ⟨g, 3, none⟩ = some (.string ⟨#[]⟩) := cell_of_row _ _ 3 _ _ (0, 0) HX6.out; have x4 : w6.cell? ⟨g, 4, none⟩ = some (.slice A7 ln c7) := cell_of_row _ _ 4 _ _ (0, 0) HX6.out; have xf0 : w6.frozen? ⟨g, 0, none⟩ = false := pfrz HX6.out; have xf1 : w6.frozen? ⟨g, 1, none⟩ = false := pfrz HX6.out; have xf2 : w6.frozen? ⟨g, 2, none⟩ = false := pfrz HX6.out; have xf3 : w6.frozen? ⟨g, 3, none⟩ = false := pfrz HX6.out; have xf4 : w6.frozen? ⟨g, 4, none⟩ = false := pfrz HX6.out; have y0 : w6.cell? ⟨W.heap.size, 0, none⟩ = some (.int .i64 0) := cell_of_row _ _ 0 _ _ (0, 0) HZ6.out; have y1 : w6.cell? ⟨W.heap.size, 1, none⟩ = some (.int .i64 0) := cell_of_row _ _ 1 _ _ (0, 0) HZ6.out; have y2 : w6.cell? ⟨W.heap.size, 2, none⟩ = some (.string ⟨#[]⟩) := cell_of_row _ _ 2 _ _ (0, 0) HZ6.out; have y3 : w6.cell? ⟨W.heap.size, 3, none⟩ = some (.string ⟨#[]⟩) := cell_of_row _ _ 3 _ _ (0, 0) HZ6.out; have y4 : w6.cell? ⟨W.heap.size, 4, none⟩ = some (.slice none 0 0) := cell_of_row _ _ 4 _ _ (0, 0) HZ6.out; have yf0 : w6.frozen? ⟨W.heap.size, 0, none⟩ = false := pfrz HZ6.out; have yf1 : w6.frozen? ⟨W.heap.size, 1, none⟩ = false := pfrz HZ6.out; have yf2 : w6.frozen? ⟨W.heap.size, 2, none⟩ = false := pfrz HZ6.out; have yf3 : w6.frozen? ⟨W.heap.size, 3, none⟩ = false := pfrz HZ6.out; have yf4 : w6.frozen? ⟨W.heap.size, 4, none⟩ = false := pfrz HZ6.out; have done6 := trivial))
                      have HFIN := dfin5 GS7.out.r GS7.out.gr hP GS7.out.z (.int .i64 1) (.int .i64 0) (.string ⟨#[]⟩) (.string ⟨#[]⟩) (.slice A7 ln c7)
                      have hrw := HFIN.2.2.2.2
                      have q0 : (((((w7.setCell ⟨W.heap.size, 0, none⟩ (.int .i64 1)).setCell ⟨W.heap.size, 1, none⟩ (.int .i64 0)).setCell ⟨W.heap.size, 2, none⟩ (.string ⟨#[]⟩)).setCell ⟨W.heap.size, 3, none⟩ (.string ⟨#[]⟩)).setCell ⟨W.heap.size, 4, none⟩ (.slice A7 ln c7)).cell? ⟨W.heap.size, 0, none⟩ = some (.int .i64 1) := cell_of_row _ _ 0 _ _ (0, 0) hrw
                      have q1 : (((((w7.setCell ⟨W.heap.size, 0, none⟩ (.int .i64 1)).setCell ⟨W.heap.size, 1, none⟩ (.int .i64 0)).setCell ⟨W.heap.size, 2, none⟩ (.string ⟨#[]⟩)).setCell ⟨W.heap.size, 3, none⟩ (.string ⟨#[]⟩)).setCell ⟨W.heap.size, 4, none⟩ (.slice A7 ln c7)).cell? ⟨W.heap.size, 1, none⟩ = some (.int .i64 0) := cell_of_row _ _ 1 _ _ (0, 0) hrw
                      have q2 : (((((w7.setCell ⟨W.heap.size, 0, none⟩ (.int .i64 1)).setCell ⟨W.heap.size, 1, none⟩ (.int .i64 0)).setCell ⟨W.heap.size, 2, none⟩ (.string ⟨#[]⟩)).setCell ⟨W.heap.size, 3, none⟩ (.string ⟨#[]⟩)).setCell ⟨W.heap.size, 4, none⟩ (.slice A7 ln c7)).cell? ⟨W.heap.size, 2, none⟩ = some (.string ⟨#[]⟩) := cell_of_row _ _ 2 _ _ (0, 0) hrw
                      have q3 : (((((w7.setCell ⟨W.heap.size, 0, none⟩ (.int .i64 1)).setCell ⟨W.heap.size, 1, none⟩ (.int .i64 0)).setCell ⟨W.heap.size, 2, none⟩ (.string ⟨#[]⟩)).setCell ⟨W.heap.size, 3, none⟩ (.string ⟨#[]⟩)).setCell ⟨W.heap.size, 4, none⟩ (.slice A7 ln c7)).cell? ⟨W.heap.size, 3, none⟩ = some (.string ⟨#[]⟩) := cell_of_row _ _ 3 _ _ (0, 0) hrw
                      have q4 : (((((w7.setCell ⟨W.heap.size, 0, none⟩ (.int .i64 1)).setCell ⟨W.heap.size, 1, none⟩ (.int .i64 0)).setCell ⟨W.heap.size, 2, none⟩ (.string ⟨#[]⟩)).setCell ⟨W.heap.size, 3, none⟩ (.string ⟨#[]⟩)).setCell ⟨W.heap.size, 4, none⟩ (.slice A7 ln c7)).cell? ⟨W.heap.size, 4, none⟩ = some (.slice A7 ln c7) := cell_of_row _ _ 4 _ _ (0, 0) hrw
                      refine bodyPost_ret (v := .agg #[.int .i64 1, .int .i64 0, .string ⟨#[]⟩, .string ⟨#[]⟩, .slice A7 ln c7]) (by simp [results, Tryd.results20, go_sem, q0, q1, q2, q3, q4]) rfl ?_
                      obtain ⟨A8, c8, hV8, hT8⟩ := HO7.out.tree 1 0 ⟨#[]⟩ ⟨#[]⟩ (by omega) (by omega) (Nat.zero_le _) (Nat.zero_le _)
                      injection hV8 with e1 e2 e3
                      rw [← e2] at hT8
                      subst e1 e3
                      have hb5 := HB6.out
                      have hb6 := HGG.out
                      rw [HRES.out]
                      exact ⟨_, rcs 1 0 ⟨#[]⟩ ⟨#[]⟩ A7 ln c7, rfl, (hT8.heap fun q hq => HFIN.2.2.1 q (by omega)).imp (fun q hq => ⟨by omega, by rw [HFIN.2.2.2.1]; exact hq.2⟩), by rw [HST.out]; exact HFIN.1, HPK.out.2.2, HFIN.2.1⟩
                    | false =>
                      rw [hb] at HSK
                      have HST := Lib.hid (HPK.out.2.1 hb)
                      clear hb
                      go_wp2_with (first
                        | (have hd := done7; clear done7; go_at_call 22; (with_reducible refine (dfail_any s L P _ _ HLL.out HS.out GS7.out.r).mono ?_); rintro e8 w8 ⟨rfl, hr8, hg8⟩; have GS8 := Lib.hid (GS7.out.call hg8 hr8 hP HGG.out); have HO8 := Lib.hid (HO7.out.kept hg8 hPb); clear hr8 hg8; clear x0 x1 x2 x3 x4 xf0 xf1 xf2 xf3 xf4 y0 y1 y2 y3 y4 yf0 yf1 yf2 yf3 yf4; have HX8 := Lib.hid GS8.out.x; have HZ8 := Lib.hid GS8.out.z; have x0 : w8.cell? ⟨g, 0, none⟩ = some (.int .i64 1) := cell_of_row _ _ 0 _ _ (0, 0) HX8.out; have x1 : w8.cell? ⟨g, 1, none⟩ = some (.int .i64 0) := cell_of_row _ _ 1 _ _ (0, 0) HX8.out; have x2 : w8.cell? ⟨g, 2, none⟩ = some (.string ⟨#[]⟩) := cell_of_row _ _ 2 _ _ (0, 0) HX8.out; have x3 : w8.cell? ⟨g, 3, none⟩ = some (.string ⟨#[]⟩) := cell_of_row _ _ 3 _ _ (0, 0) HX8.out; have x4 : w8.cell? ⟨g, 4, none⟩ = some (.slice A7 ln c7) := cell_of_row _ _ 4 _ _ (0, 0) HX8.out; have xf0 : w8.frozen? ⟨g, 0, none⟩ = false := pfrz HX8.out; have xf1 : w8.frozen? ⟨g, 1, none⟩ = false := pfrz HX8.out; have xf2 : w8.frozen? ⟨g, 2, none⟩ = false := pfrz HX8.out; have xf3 : w8.frozen? ⟨g, 3, none⟩ = false := pfrz HX8.out; have xf4 : w8.frozen? ⟨g, 4, none⟩ = false := pfrz HX8.out; have y0 : w8.cell? ⟨W.heap.size, 0, none⟩ = some (.int .i64 0) := cell_of_row _ _ 0 _ _ (0, 0) HZ8.out; have y1 : w8.cell? ⟨W.heap.size, 1, none⟩ = some (.int .i64 0) := cell_of_row _ _ 1 _ _ (0, 0) HZ8.out; have y2 : w8.cell? ⟨W.heap.size, 2, none⟩ = some (.string ⟨#[]⟩) := cell_of_row _ _ 2 _ _ (0, 0) HZ8.out; have y3 : w8.cell? ⟨W.heap.size, 3, none⟩ = some (.string ⟨#[]⟩) := cell_of_row _ _ 3 _ _ (0, 0) HZ8.out; have y4 : w8.cell? ⟨W.heap.size, 4, none⟩ = some (.slice none 0 0) := cell_of_row _ _ 4 _ _ (0, 0) HZ8.out; have yf0 : w8.frozen? ⟨W.heap.size, 0, none⟩ = false := pfrz HZ8.out; have yf1 : w8.frozen? ⟨W.heap.size, 1, none⟩ = false := pfrz HZ8.out; have yf2 : w8.frozen? ⟨W.heap.size, 2, none⟩ = false := pfrz HZ8.out; have yf3 : w8.frozen? ⟨W.heap.size, 3, none⟩ = false := pfrz HZ8.out; have yf4 : w8.frozen? ⟨W.heap.size, 4, none⟩ = false := pfrz HZ8.out; have done8 := trivial)
                        | (have hd := done6; clear done6; go_at_call 39; (with_reducible refine (Lib.hid (HSK.out _ GS6.out.r)).out.mono ?_); rintro e7 w7 ⟨rfl, hr7, hg7⟩; have GS7 := Lib.hid (GS6.out.call hg7 hr7 hP HGG.out); have HO7 := Lib.hid (HO6.out.kept hg7 hPb); have hbz := Nat.le_trans hbz hg7.size; clear hr7 hg7; clear x0 x1 x2 x3 x4 xf0 xf1 xf2 xf3 xf4 y0 y1 y2 y3 y4 yf0 yf1 yf2 yf3 yf4; have HX7 := Lib.hid GS7.out.x; have HZ7 := Lib.hid GS7.out.z; have x0 : w7.cell? ⟨g, 0, none⟩ = some (.int .i64 1) := cell_of_row _ _ 0 _ _ (0, 0) HX7.out; have x1 : w7.cell? ⟨g, 1, none⟩ = some (.int .i64 0) := cell_of_row _ _ 1 _ _ (0, 0) HX7.out; have x2 : w7.cell? ⟨g, 2, none⟩ = some (.string ⟨#[]⟩) := cell_of_row _ _ 2 _ _ (0, 0) HX7.out; have x3 : w7.cell? ⟨g, 3, none⟩ = some (.string ⟨#[]⟩) := cell_of_row _ _ 3 _ _ (0, 0) HX7.out; have x4 : w7.cell? ⟨g, 4, none⟩ = some (.slice A7 ln c7) := cell_of_row _ _ 4 _ _ (0, 0) HX7.out; have xf0 : w7.frozen? ⟨g, 0, none⟩ = false := pfrz HX7.out; have xf1 : w7.frozen? ⟨g, 1, none⟩ = false := pfrz HX7.out; have xf2 : w7.frozen? ⟨g, 2, none⟩ = false := pfrz HX7.out; have xf3 : w7.frozen? ⟨g, 3, none⟩ = false := pfrz HX7.out; have xf4 : w7.frozen? ⟨g, 4, none⟩ = false := pfrz HX7.out; have y0 : w7.cell? ⟨W.heap.size, 0, none⟩ = some (.int .i64 0) := cell_of_row _ _ 0 _ _ (0, 0) HZ7.out; have y1 : w7.cell? ⟨W.heap.size, 1, none⟩ = some (.int .i64 0) := cell_of_row _ _ 1 _ _ (0, 0) HZ7.out; have y2 : w7.cell? ⟨W.heap.size, 2, none⟩ = some (.string ⟨#[]⟩) := cell_of_row _ _ 2 _ _ (0, 0) HZ7.out; have y3 : w7.cell? ⟨W.heap.size, 3, none⟩ = some (.string ⟨#[]⟩) := cell_of_row _ _ 3 _ _ (0, 0) HZ7.out; have y4 : w7.cell? ⟨W.heap.size, 4, none⟩ = some (.slice none 0 0) := cell_of_row _ _ 4 _ _ (0, 0) HZ7.out; have yf0 : w7.frozen? ⟨W.heap.size, 0, none⟩ = false := pfrz HZ7.out; have yf1 : w7.frozen? ⟨W.heap.size, 1, none⟩ = false := pfrz HZ7.out; have yf2 : w7.frozen? ⟨W.heap.size, 2, none⟩ = false := pfrz HZ7.out; have yf3 : w7.frozen? ⟨W.heap.size, 3, none⟩ = false := pfrz HZ7.out; have yf4 : w7.frozen? ⟨W.heap.size, 4, none⟩ = false := pfrz HZ7.out; have done7 := trivial)
                        | (have hd := done5; clear done5; go_at_call 39; (with_reducible refine HSC.out.mono ?_); rintro e6 w6 ⟨rfl, hr6, hg6⟩; have GS6 := Lib.hid (GS.out.call hg6 hr6 hP HGG.out); have HO6 := Lib.hid (HO.out.kept hg6 hPb); have hbz := Nat.le_trans hbz hg6.size; clear hr6 hg6; clear x0 x1 x2 x3 x4 xf0 xf1 xf2 xf3 xf4 y0 y1 y2 y3 y4 yf0 yf1 yf2 yf3 yf4; have HX6 := Lib.hid GS6.out.x; have HZ6 := Lib.hid GS6.out.z; have x0 : w6.cell? ⟨g, 0, none⟩ = some (.int .i64 1) := cell_of_row _ _ 0 _ _ (0, 0) HX6.out; have x1 : w6.cell? ⟨g, 1, none⟩ = some (.int .i64 0) := cell_of_row _ _ 1 _ _ (0, 0) HX6.out; have x2 : w6.cell? ⟨g, 2, none⟩ = some (.string ⟨#[]⟩) := cell_of_row _ _ 2 _ _ (0, 0) HX6.out; have x3 : w6.cell? ⟨g, 3, none⟩ = some (.string ⟨#[]⟩) := cell_of_row _ _ 3 _ _ (0, 0) HX6.out; have x4 : w6.cell? ⟨g, 4, none⟩ = some (.slice A7 ln c7) := cell_of_row _ _ 4 _ _ (0, 0) HX6.out; have xf0 : w6.frozen? ⟨g, 0, none⟩ = false := pfrz HX6.out; have xf1 : w6.frozen? ⟨g, 1, none⟩ = false := pfrz HX6.out; have xf2 : w6.frozen? ⟨g, 2, none⟩ = false := pfrz HX6.out; have xf3 : w6.frozen? ⟨g, 3, none⟩ = false := pfrz HX6.out; have xf4 : w6.frozen? ⟨g, 4, none⟩ = false := pfrz HX6.out; have y0 : w6.cell? ⟨W.heap.size, 0, none⟩ = some (.int .i64 0) := cell_of_row _ _ 0 _ _ (0, 0) HZ6.out; have y1 : w6.cell? ⟨W.heap.size, 1, none⟩ = some (.int .i64 0) := cell_of_row _ _ 1 _ _ (0, 0) HZ6.out; have y2 : w6.cell? ⟨W.heap.size, 2, none⟩ = some (.string ⟨#[]⟩) := cell_of_row _ _ 2 _ _ (0, 0) HZ6.out; have y3 : w6.cell? ⟨W.heap.size, 3, none⟩ = some (.string ⟨#[]⟩) := cell_of_row _ _ 3 _ _ (0, 0) HZ6.out; have y4 : w6.cell? ⟨W.heap.size, 4, none⟩ = some (.slice none 0 0) := cell_of_row _ _ 4 _ _ (0, 0) HZ6.out; have yf0 : w6.frozen? ⟨W.heap.size, 0, none⟩ = false := pfrz HZ6.out; have yf1 : w6.frozen? ⟨W.heap.size, 1, none⟩ = false := pfrz HZ6.out; have yf2 : w6.frozen? ⟨W.heap.size, 2, none⟩ = false := pfrz HZ6.out; have yf3 : w6.frozen? ⟨W.heap.size, 3, none⟩ = false := pfrz HZ6.out; have yf4 : w6.frozen? ⟨W.heap.size, 4, none⟩ = false := pfrz HZ6.out; have done6 := trivial))
                      have HFIN := dfin5 GS8.out.r GS8.out.gr hP GS8.out.z (.int .i64 1) (.int .i64 0) (.string ⟨#[]⟩) (.string ⟨#[]⟩) (.slice A7 ln c7)
                      have hrw := HFIN.2.2.2.2
                      have q0 : (((((w8.setCell ⟨W.heap.size, 0, none⟩ (.int .i64 1)).setCell ⟨W.heap.size, 1, none⟩ (.int .i64 0)).setCell ⟨W.heap.size, 2, none⟩ (.string ⟨#[]⟩)).setCell ⟨W.heap.size, 3, none⟩ (.string ⟨#[]⟩)).setCell ⟨W.heap.size, 4, none⟩ (.slice A7 ln c7)).cell? ⟨W.heap.size, 0, none⟩ = some (.int .i64 1) := cell_of_row _ _ 0 _ _ (0, 0) hrw
                      have q1 : (((((w8.setCell ⟨W.heap.size, 0, none⟩ (.int .i64 1)).setCell ⟨W.heap.size, 1, none⟩ (.int .i64 0)).setCell ⟨W.heap.size, 2, none⟩ (.string ⟨#[]⟩)).setCell ⟨W.heap.size, 3, none⟩ (.string ⟨#[]⟩)).setCell ⟨W.heap.size, 4, none⟩ (.slice A7 ln c7)).cell? ⟨W.heap.size, 1, none⟩ = some (.int .i64 0) := cell_of_row _ _ 1 _ _ (0, 0) hrw
                      have q2 : (((((w8.setCell ⟨W.heap.size, 0, none⟩ (.int .i64 1)).setCell ⟨W.heap.size, 1, none⟩ (.int .i64 0)).setCell ⟨W.heap.size, 2, none⟩ (.string ⟨#[]⟩)).setCell ⟨W.heap.size, 3, none⟩ (.string ⟨#[]⟩)).setCell ⟨W.heap.size, 4, none⟩ (.slice A7 ln c7)).cell? ⟨W.heap.size, 2, none⟩ = some (.string ⟨#[]⟩) := cell_of_row _ _ 2 _ _ (0, 0) hrw
                      have q3 : (((((w8.setCell ⟨W.heap.size, 0, none⟩ (.int .i64 1)).setCell ⟨W.heap.size, 1, none⟩ (.int .i64 0)).setCell ⟨W.heap.size, 2, none⟩ (.string ⟨#[]⟩)).setCell ⟨W.heap.size, 3, none⟩ (.string ⟨#[]⟩)).setCell ⟨W.heap.size, 4, none⟩ (.slice A7 ln c7)).cell? ⟨W.heap.size, 3, none⟩ = some (.string ⟨#[]⟩) := cell_of_row _ _ 3 _ _ (0, 0) hrw
                      have q4 : (((((w8.setCell ⟨W.heap.size, 0, none⟩ (.int .i64 1)).setCell ⟨W.heap.size, 1, none⟩ (.int .i64 0)).setCell ⟨W.heap.size, 2, none⟩ (.string ⟨#[]⟩)).setCell ⟨W.heap.size, 3, none⟩ (.string ⟨#[]⟩)).setCell ⟨W.heap.size, 4, none⟩ (.slice A7 ln c7)).cell? ⟨W.heap.size, 4, none⟩ = some (.slice A7 ln c7) := cell_of_row _ _ 4 _ _ (0, 0) hrw
                      refine bodyPost_ret (v := .agg #[.int .i64 1, .int .i64 0, .string ⟨#[]⟩, .string ⟨#[]⟩, .slice A7 ln c7]) (by simp [results, Tryd.results20, go_sem, q0, q1, q2, q3, q4]) rfl ?_
                      obtain ⟨A8, c8, hV8, hT8⟩ := HO8.out.tree 1 0 ⟨#[]⟩ ⟨#[]⟩ (by omega) (by omega) (Nat.zero_le _) (Nat.zero_le _)
                      injection hV8 with e1 e2 e3
                      rw [← e2] at hT8
                      subst e1 e3
                      have hb5 := HB6.out
                      have hb6 := HGG.out
                      rw [HRES.out]
                      exact ⟨_, rcs 1 0 ⟨#[]⟩ ⟨#[]⟩ A7 ln c7, rfl, (hT8.heap fun q hq => HFIN.2.2.1 q (by omega)).imp (fun q hq => ⟨by omega, by rw [HFIN.2.2.2.1]; exact hq.2⟩), by rw [HST.out]; exact HFIN.1, HPK.out.2.2, HFIN.2.1⟩

          · have hv : vx = 2 := hv
            have k1 : ((vx : Int) == 1) = false := by rw [beq_eq_false_iff_ne]; omega
            have m1 : (vx == 1) = false := by rw [beq_eq_false_iff_ne]; omega
            have k2 : ((vx : Int) == 2) = true := by rw [beq_iff_eq]; omega
            have m2 : (vx == 2) = true := by rw [beq_iff_eq]; omega
            have e3 : ((vx : Int) == 3) = false := by rw [beq_eq_false_iff_ne]; omega
            have n3 : ((vx : Int) != 3) = true := by simp [bne, e3]

            by_cases h41 : (Wm.tok (Wm.tok (Wm.tok l).rest).rest).is 41 = true
            · have HRES : Hid (Wm.pol (f + 1) l = .ok (.mk 2 0 ⟨#[]⟩ ⟨#[]⟩ []) (Wm.tok (Wm.tok (Wm.tok l).rest).rest).rest) := Lib.hid (by rw [HPOL.out, hv]; unfold Wm.polK; rw [if_pos H40.out]; exact if_pos ⟨(by decide : 2 ≠ 3), h41⟩)
              have HT1 : Hid (Wm.signB 41 (.at_ (Wm.tok (Wm.tok l).rest).rest) = true) := Lib.hid (by unfold Wm.signB; exact h41)
              have HT2 : Hid (Wm.signD 41 (.at_ (Wm.tok (Wm.tok l).rest).rest) = .at_ (Wm.tok (Wm.tok (Wm.tok l).rest).rest).rest) := Lib.hid (by unfold Wm.signD; exact if_pos h41)
              have HVK := Lib.hid hv
              clear h41 hv
              go_wp2_with (first
                | (have hd := done3; clear done3; go_at_call 39; (with_reducible refine HSH.out.mono ?_); rintro e7 w6 ⟨rfl, hr6, hg6⟩; have GS6 := Lib.hid (GS3.out.call hg6 hr6 hP HGG.out); clear hr6 hg6; have HX6 := Lib.hid GS6.out.x; have HZ6 := Lib.hid GS6.out.z; clear y0 y1 y2 y3 y4 yf0 yf1 yf2 yf3 yf4 x0 x1 x2 x3 x4 xf0 xf1 xf2 xf3 xf4; have x0 : w6.cell? ⟨g, 0, none⟩ = some (.int .i64 (vx : Int)) := cell_of_row _ _ 0 _ _ (0, 0) HX6.out; have x1 : w6.cell? ⟨g, 1, none⟩ = some (.int .i64 0) := cell_of_row _ _ 1 _ _ (0, 0) HX6.out; have x2 : w6.cell? ⟨g, 2, none⟩ = some (.string ⟨#[]⟩) := cell_of_row _ _ 2 _ _ (0, 0) HX6.out; have x3 : w6.cell? ⟨g, 3, none⟩ = some (.string ⟨#[]⟩) := cell_of_row _ _ 3 _ _ (0, 0) HX6.out; have x4 : w6.cell? ⟨g, 4, none⟩ = some (.slice none 0 0) := cell_of_row _ _ 4 _ _ (0, 0) HX6.out; have xf0 : w6.frozen? ⟨g, 0, none⟩ = false := pfrz HX6.out; have xf1 : w6.frozen? ⟨g, 1, none⟩ = false := pfrz HX6.out; have xf2 : w6.frozen? ⟨g, 2, none⟩ = false := pfrz HX6.out; have xf3 : w6.frozen? ⟨g, 3, none⟩ = false := pfrz HX6.out; have xf4 : w6.frozen? ⟨g, 4, none⟩ = false := pfrz HX6.out; have y0 : w6.cell? ⟨W.heap.size, 0, none⟩ = some (.int .i64 0) := cell_of_row _ _ 0 _ _ (0, 0) HZ6.out; have y1 : w6.cell? ⟨W.heap.size, 1, none⟩ = some (.int .i64 0) := cell_of_row _ _ 1 _ _ (0, 0) HZ6.out; have y2 : w6.cell? ⟨W.heap.size, 2, none⟩ = some (.string ⟨#[]⟩) := cell_of_row _ _ 2 _ _ (0, 0) HZ6.out; have y3 : w6.cell? ⟨W.heap.size, 3, none⟩ = some (.string ⟨#[]⟩) := cell_of_row _ _ 3 _ _ (0, 0) HZ6.out; have y4 : w6.cell? ⟨W.heap.size, 4, none⟩ = some (.slice none 0 0) := cell_of_row _ _ 4 _ _ (0, 0) HZ6.out; have yf0 : w6.frozen? ⟨W.heap.size, 0, none⟩ = false := pfrz HZ6.out; have yf1 : w6.frozen? ⟨W.heap.size, 1, none⟩ = false := pfrz HZ6.out; have yf2 : w6.frozen? ⟨W.heap.size, 2, none⟩ = false := pfrz HZ6.out; have yf3 : w6.frozen? ⟨W.heap.size, 3, none⟩ = false := pfrz HZ6.out; have yf4 : w6.frozen? ⟨W.heap.size, 4, none⟩ = false := pfrz HZ6.out; have done6 := trivial)
                | (have hd := done2; clear done2; go_at_call 39; (with_reducible refine HSG.out.mono ?_); rintro e6 w3 ⟨rfl, hr3, hg3⟩; have GS3 := Lib.hid (GS2.out.call hg3 hr3 hP HGG.out); clear hr3 hg3; have HX3 := Lib.hid GS3.out.x; have HZ3 := Lib.hid GS3.out.z; clear y0 y1 y2 y3 y4 yf0 yf1 yf2 yf3 yf4 x0 x1 x2 x3 x4 xf0 xf1 xf2 xf3 xf4; have x0 : w3.cell? ⟨g, 0, none⟩ = some (.int .i64 (vx : Int)) := cell_of_row _ _ 0 _ _ (0, 0) HX3.out; have x1 : w3.cell? ⟨g, 1, none⟩ = some (.int .i64 0) := cell_of_row _ _ 1 _ _ (0, 0) HX3.out; have x2 : w3.cell? ⟨g, 2, none⟩ = some (.string ⟨#[]⟩) := cell_of_row _ _ 2 _ _ (0, 0) HX3.out; have x3 : w3.cell? ⟨g, 3, none⟩ = some (.string ⟨#[]⟩) := cell_of_row _ _ 3 _ _ (0, 0) HX3.out; have x4 : w3.cell? ⟨g, 4, none⟩ = some (.slice none 0 0) := cell_of_row _ _ 4 _ _ (0, 0) HX3.out; have xf0 : w3.frozen? ⟨g, 0, none⟩ = false := pfrz HX3.out; have xf1 : w3.frozen? ⟨g, 1, none⟩ = false := pfrz HX3.out; have xf2 : w3.frozen? ⟨g, 2, none⟩ = false := pfrz HX3.out; have xf3 : w3.frozen? ⟨g, 3, none⟩ = false := pfrz HX3.out; have xf4 : w3.frozen? ⟨g, 4, none⟩ = false := pfrz HX3.out; have y0 : w3.cell? ⟨W.heap.size, 0, none⟩ = some (.int .i64 0) := cell_of_row _ _ 0 _ _ (0, 0) HZ3.out; have y1 : w3.cell? ⟨W.heap.size, 1, none⟩ = some (.int .i64 0) := cell_of_row _ _ 1 _ _ (0, 0) HZ3.out; have y2 : w3.cell? ⟨W.heap.size, 2, none⟩ = some (.string ⟨#[]⟩) := cell_of_row _ _ 2 _ _ (0, 0) HZ3.out; have y3 : w3.cell? ⟨W.heap.size, 3, none⟩ = some (.string ⟨#[]⟩) := cell_of_row _ _ 3 _ _ (0, 0) HZ3.out; have y4 : w3.cell? ⟨W.heap.size, 4, none⟩ = some (.slice none 0 0) := cell_of_row _ _ 4 _ _ (0, 0) HZ3.out; have yf0 : w3.frozen? ⟨W.heap.size, 0, none⟩ = false := pfrz HZ3.out; have yf1 : w3.frozen? ⟨W.heap.size, 1, none⟩ = false := pfrz HZ3.out; have yf2 : w3.frozen? ⟨W.heap.size, 2, none⟩ = false := pfrz HZ3.out; have yf3 : w3.frozen? ⟨W.heap.size, 3, none⟩ = false := pfrz HZ3.out; have yf4 : w3.frozen? ⟨W.heap.size, 4, none⟩ = false := pfrz HZ3.out; have HSH := Lib.hid (dsign_any s L P 41 ⟨#[41]⟩ rfl _ _ HLL.out HS.out GS3.out.r); rw [HT1.out, HT2.out] at HSH; have done3 := trivial))
              have GS7 : Hid (RoSt W w6 P g s L (.at_ (Wm.tok (Wm.tok (Wm.tok l).rest).rest).rest) #[.int .i64 2, .int .i64 0, .string ⟨#[]⟩, .string ⟨#[]⟩, .slice none 0 0]) := Lib.hid (by have h := GS6.out; rw [show (vx : Int) = 2 from by have := HVK.out; omega] at h; exact h)
              have HFIN := dfin5 GS7.out.r GS7.out.gr hP GS7.out.z (.int .i64 2) (.int .i64 0) (.string ⟨#[]⟩) (.string ⟨#[]⟩) (.slice none 0 0)
              have hrw := HFIN.2.2.2.2
              have q0 : (((((w6.setCell ⟨W.heap.size, 0, none⟩ (.int .i64 2)).setCell ⟨W.heap.size, 1, none⟩ (.int .i64 0)).setCell ⟨W.heap.size, 2, none⟩ (.string ⟨#[]⟩)).setCell ⟨W.heap.size, 3, none⟩ (.string ⟨#[]⟩)).setCell ⟨W.heap.size, 4, none⟩ (.slice none 0 0)).cell? ⟨W.heap.size, 0, none⟩ = some (.int .i64 2) := cell_of_row _ _ 0 _ _ (0, 0) hrw
              have q1 : (((((w6.setCell ⟨W.heap.size, 0, none⟩ (.int .i64 2)).setCell ⟨W.heap.size, 1, none⟩ (.int .i64 0)).setCell ⟨W.heap.size, 2, none⟩ (.string ⟨#[]⟩)).setCell ⟨W.heap.size, 3, none⟩ (.string ⟨#[]⟩)).setCell ⟨W.heap.size, 4, none⟩ (.slice none 0 0)).cell? ⟨W.heap.size, 1, none⟩ = some (.int .i64 0) := cell_of_row _ _ 1 _ _ (0, 0) hrw
              have q2 : (((((w6.setCell ⟨W.heap.size, 0, none⟩ (.int .i64 2)).setCell ⟨W.heap.size, 1, none⟩ (.int .i64 0)).setCell ⟨W.heap.size, 2, none⟩ (.string ⟨#[]⟩)).setCell ⟨W.heap.size, 3, none⟩ (.string ⟨#[]⟩)).setCell ⟨W.heap.size, 4, none⟩ (.slice none 0 0)).cell? ⟨W.heap.size, 2, none⟩ = some (.string ⟨#[]⟩) := cell_of_row _ _ 2 _ _ (0, 0) hrw
              have q3 : (((((w6.setCell ⟨W.heap.size, 0, none⟩ (.int .i64 2)).setCell ⟨W.heap.size, 1, none⟩ (.int .i64 0)).setCell ⟨W.heap.size, 2, none⟩ (.string ⟨#[]⟩)).setCell ⟨W.heap.size, 3, none⟩ (.string ⟨#[]⟩)).setCell ⟨W.heap.size, 4, none⟩ (.slice none 0 0)).cell? ⟨W.heap.size, 3, none⟩ = some (.string ⟨#[]⟩) := cell_of_row _ _ 3 _ _ (0, 0) hrw
              have q4 : (((((w6.setCell ⟨W.heap.size, 0, none⟩ (.int .i64 2)).setCell ⟨W.heap.size, 1, none⟩ (.int .i64 0)).setCell ⟨W.heap.size, 2, none⟩ (.string ⟨#[]⟩)).setCell ⟨W.heap.size, 3, none⟩ (.string ⟨#[]⟩)).setCell ⟨W.heap.size, 4, none⟩ (.slice none 0 0)).cell? ⟨W.heap.size, 4, none⟩ = some (.slice none 0 0) := cell_of_row _ _ 4 _ _ (0, 0) hrw
              refine bodyPost_ret (v := .agg #[.int .i64 2, .int .i64 0, .string ⟨#[]⟩, .string ⟨#[]⟩, .slice none 0 0]) (by simp [results, Tryd.results20, go_sem, q0, q1, q2, q3, q4]) rfl ?_
              rw [HRES.out]

              exact ⟨.mk 2 0 ⟨#[]⟩ ⟨#[]⟩ [], rcs 2 0 ⟨#[]⟩ ⟨#[]⟩ none 0 0, rfl, RdP.leaf _ _ 2 0 ⟨#[]⟩ ⟨#[]⟩ (by omega) (by omega) (Nat.zero_le _) (Nat.zero_le _), HFIN.1, (fun t' r e => by injection e), HFIN.2.1⟩

            · have HT1 : Hid (Wm.signB 41 (.at_ (Wm.tok (Wm.tok l).rest).rest) = false) := Lib.hid (by unfold Wm.signB; simpa using h41)
              have HT2 : Hid (Wm.signD 41 (.at_ (Wm.tok (Wm.tok l).rest).rest) = .at_ (Wm.tok (Wm.tok l).rest).rest) := Lib.hid (by unfold Wm.signD; exact if_neg h41)
              have H41N := Lib.hid h41
              have HVK := Lib.hid hv
              clear h41 hv
              go_wp2_with (first
                | (have hd := done3; clear done3; go_at_call 39; (with_reducible refine HSH.out.mono ?_); rintro e7 w6 ⟨rfl, hr6, hg6⟩; have GS6 := Lib.hid (GS3.out.call hg6 hr6 hP HGG.out); clear hr6 hg6; have HX6 := Lib.hid GS6.out.x; have HZ6 := Lib.hid GS6.out.z; clear y0 y1 y2 y3 y4 yf0 yf1 yf2 yf3 yf4 x0 x1 x2 x3 x4 xf0 xf1 xf2 xf3 xf4; have x0 : w6.cell? ⟨g, 0, none⟩ = some (.int .i64 (vx : Int)) := cell_of_row _ _ 0 _ _ (0, 0) HX6.out; have x1 : w6.cell? ⟨g, 1, none⟩ = some (.int .i64 0) := cell_of_row _ _ 1 _ _ (0, 0) HX6.out; have x2 : w6.cell? ⟨g, 2, none⟩ = some (.string ⟨#[]⟩) := cell_of_row _ _ 2 _ _ (0, 0) HX6.out; have x3 : w6.cell? ⟨g, 3, none⟩ = some (.string ⟨#[]⟩) := cell_of_row _ _ 3 _ _ (0, 0) HX6.out; have x4 : w6.cell? ⟨g, 4, none⟩ = some (.slice none 0 0) := cell_of_row _ _ 4 _ _ (0, 0) HX6.out; have xf0 : w6.frozen? ⟨g, 0, none⟩ = false := pfrz HX6.out; have xf1 : w6.frozen? ⟨g, 1, none⟩ = false := pfrz HX6.out; have xf2 : w6.frozen? ⟨g, 2, none⟩ = false := pfrz HX6.out; have xf3 : w6.frozen? ⟨g, 3, none⟩ = false := pfrz HX6.out; have xf4 : w6.frozen? ⟨g, 4, none⟩ = false := pfrz HX6.out; have y0 : w6.cell? ⟨W.heap.size, 0, none⟩ = some (.int .i64 0) := cell_of_row _ _ 0 _ _ (0, 0) HZ6.out; have y1 : w6.cell? ⟨W.heap.size, 1, none⟩ = some (.int .i64 0) := cell_of_row _ _ 1 _ _ (0, 0) HZ6.out; have y2 : w6.cell? ⟨W.heap.size, 2, none⟩ = some (.string ⟨#[]⟩) := cell_of_row _ _ 2 _ _ (0, 0) HZ6.out; have y3 : w6.cell? ⟨W.heap.size, 3, none⟩ = some (.string ⟨#[]⟩) := cell_of_row _ _ 3 _ _ (0, 0) HZ6.out; have y4 : w6.cell? ⟨W.heap.size, 4, none⟩ = some (.slice none 0 0) := cell_of_row _ _ 4 _ _ (0, 0) HZ6.out; have yf0 : w6.frozen? ⟨W.heap.size, 0, none⟩ = false := pfrz HZ6.out; have yf1 : w6.frozen? ⟨W.heap.size, 1, none⟩ = false := pfrz HZ6.out; have yf2 : w6.frozen? ⟨W.heap.size, 2, none⟩ = false := pfrz HZ6.out; have yf3 : w6.frozen? ⟨W.heap.size, 3, none⟩ = false := pfrz HZ6.out; have yf4 : w6.frozen? ⟨W.heap.size, 4, none⟩ = false := pfrz HZ6.out; have done6 := trivial)
                | (have hd := done2; clear done2; go_at_call 39; (with_reducible refine HSG.out.mono ?_); rintro e6 w3 ⟨rfl, hr3, hg3⟩; have GS3 := Lib.hid (GS2.out.call hg3 hr3 hP HGG.out); clear hr3 hg3; have HX3 := Lib.hid GS3.out.x; have HZ3 := Lib.hid GS3.out.z; clear y0 y1 y2 y3 y4 yf0 yf1 yf2 yf3 yf4 x0 x1 x2 x3 x4 xf0 xf1 xf2 xf3 xf4; have x0 : w3.cell? ⟨g, 0, none⟩ = some (.int .i64 (vx : Int)) := cell_of_row _ _ 0 _ _ (0, 0) HX3.out; have x1 : w3.cell? ⟨g, 1, none⟩ = some (.int .i64 0) := cell_of_row _ _ 1 _ _ (0, 0) HX3.out; have x2 : w3.cell? ⟨g, 2, none⟩ = some (.string ⟨#[]⟩) := cell_of_row _ _ 2 _ _ (0, 0) HX3.out; have x3 : w3.cell? ⟨g, 3, none⟩ = some (.string ⟨#[]⟩) := cell_of_row _ _ 3 _ _ (0, 0) HX3.out; have x4 : w3.cell? ⟨g, 4, none⟩ = some (.slice none 0 0) := cell_of_row _ _ 4 _ _ (0, 0) HX3.out; have xf0 : w3.frozen? ⟨g, 0, none⟩ = false := pfrz HX3.out; have xf1 : w3.frozen? ⟨g, 1, none⟩ = false := pfrz HX3.out; have xf2 : w3.frozen? ⟨g, 2, none⟩ = false := pfrz HX3.out; have xf3 : w3.frozen? ⟨g, 3, none⟩ = false := pfrz HX3.out; have xf4 : w3.frozen? ⟨g, 4, none⟩ = false := pfrz HX3.out; have y0 : w3.cell? ⟨W.heap.size, 0, none⟩ = some (.int .i64 0) := cell_of_row _ _ 0 _ _ (0, 0) HZ3.out; have y1 : w3.cell? ⟨W.heap.size, 1, none⟩ = some (.int .i64 0) := cell_of_row _ _ 1 _ _ (0, 0) HZ3.out; have y2 : w3.cell? ⟨W.heap.size, 2, none⟩ = some (.string ⟨#[]⟩) := cell_of_row _ _ 2 _ _ (0, 0) HZ3.out; have y3 : w3.cell? ⟨W.heap.size, 3, none⟩ = some (.string ⟨#[]⟩) := cell_of_row _ _ 3 _ _ (0, 0) HZ3.out; have y4 : w3.cell? ⟨W.heap.size, 4, none⟩ = some (.slice none 0 0) := cell_of_row _ _ 4 _ _ (0, 0) HZ3.out; have yf0 : w3.frozen? ⟨W.heap.size, 0, none⟩ = false := pfrz HZ3.out; have yf1 : w3.frozen? ⟨W.heap.size, 1, none⟩ = false := pfrz HZ3.out; have yf2 : w3.frozen? ⟨W.heap.size, 2, none⟩ = false := pfrz HZ3.out; have yf3 : w3.frozen? ⟨W.heap.size, 3, none⟩ = false := pfrz HZ3.out; have yf4 : w3.frozen? ⟨W.heap.size, 4, none⟩ = false := pfrz HZ3.out; have HSH := Lib.hid (dsign_any s L P 41 ⟨#[41]⟩ rfl _ _ HLL.out HS.out GS3.out.r); rw [HT1.out, HT2.out] at HSH; have done3 := trivial))
              have HOW27 : Hid (∀ d : World, Below w6.heap.size w6 d → d = w6.drew → OwnKids d d.heap.size (.slice none 0 0) []) := Lib.hid (fun d _ _ => OwnKids.nil _ _)
              have HLK : Hid (([] : List Kr).length ≤ 1000000) := Lib.hid (Nat.zero_le _)
              obtain ⟨w6d, hww6d⟩ : ∃ w, w = w6.drew := ⟨_, rfl⟩
              have hbd : Below w6.heap.size w6 w6d := by rw [hww6d]; exact ⟨rfl, rfl, rfl, Nat.le_refl _, fun _ _ => rfl⟩
              have hzd : g < w6d.heap.size := Nat.lt_of_lt_of_le (in_heap GS6.out.x) hbd.size
              have hbs : w6d.heap.size ≤ w6d.heap.size := Nat.le_refl _
              have hgg := HGG.out
              refine PG.wp_region_persG (R := Out P g w6d.heap.size) (G := DG P g w6d.heap.size s L (.slice none 0 0) [] (.at_ (Wm.tok (Wm.tok l).rest).rest) (vx : Int)) (by kernel_rfl) (PG.formed_of (by kernel_rfl)) (out_goes P g w6d.heap.size) ?_ (DF P g w6d.heap.size s L (.slice none 0 0) [] (Wm.pol f (Wm.tok (Wm.tok l).rest).rest) (vx : Int)) ?_ ?_
              · rw [← hww6d]
                intro k
                unfold DG
                split
                · exact DSt.below GS6.out.r hbd GS6.out.r.lt
                · exact HOW27.out w6d hbd hww6d
                · exact (hbd.block _ (in_heap GS6.out.x)).trans GS6.out.x
                · trivial
              · rw [← hww6d]
                intro i o ho
                rcases i with _ | _ | _ | _ | _ | _ | _ | _ | i
                · obtain rfl := Option.some.inj (show some _ = some o from ho)
                  refine PG.shown_val rfl fun a w4 hr T => ?_
                  have h5 : a.eval (.tmp 8) = .pointer (some ⟨g, 0, none⟩) := T.was 8 (by kernel_rfl)
                  exact ⟨.pointer (some ⟨g, 4, none⟩), w4, by simp only [execOp, h5]; simp [go_sem], PG.Post.pure (out_goes P g w6d.heap.size) rfl⟩
                · obtain rfl := Option.some.inj (show some _ = some o from ho)
                  refine PG.shown_val rfl fun a w4 hr T => ?_
                  have h48 : a.eval (.tmp 94) = .pointer (some ⟨g, 4, none⟩) := T.at_ 0 94 (by kernel_rfl) (by kernel_rfl)
                  have hO : w4.heap[g]? = some (.cells #[.int .i64 (vx : Int), .int .i64 0, .string ⟨#[]⟩, .string ⟨#[]⟩, .slice none 0 0] 24) := T.yet 7 (by kernel_rfl)
                  have c4 : w4.cell? ⟨g, 4, none⟩ = some (.slice none 0 0) := cell_of_row _ _ 4 _ _ (0, 0) hO
                  exact ⟨.slice none 0 0, w4, by simp only [execOp, h48]; simp [go_sem, c4], PG.Post.pure (out_goes P g w6d.heap.size) rfl⟩
                · obtain rfl := Option.some.inj (show some _ = some o from ho)
                  refine PG.shown_val rfl fun a w4 hr T => ?_
                  have h0 : a.eval (.tmp 0) = .pointer (some ⟨P, 0, none⟩) := T.was 0 (by kernel_rfl)
                  exact ⟨.pointer (some ⟨P, 0, none⟩), w4, by simp only [execOp, h0]; simp [go_sem], PG.Post.pure (out_goes P g w6d.heap.size) rfl⟩
                · obtain rfl := Option.some.inj (show some _ = some o from ho)
                  refine PG.shown_call rfl 20 fun a w4 hr T => ?_
                  have h50 : a.eval (.tmp 96) = .pointer (some ⟨P, 0, none⟩) := T.at_ 2 96 (by kernel_rfl) (by kernel_rfl)
                  have hR5 : DSt w4 P s L (.at_ (Wm.tok (Wm.tok l).rest).rest) := T.own
                  have hO7 : OwnKids w4 w6d.heap.size (.slice none 0 0) [] := T.yet 5 (by kernel_rfl)
                  have hz4 : w6d.heap.size ≤ w4.heap.size := Nat.le_trans hbs hr.size
                  refine ⟨#[.pointer (some ⟨P, 0, none⟩)], by simp only [execOp, resolve, List.map_toArray, List.map_cons, List.map_nil, h50]; simp [go_sem, Act.eval], ?_⟩
                  refine (HIH.out (Wm.tok (Wm.tok l).rest).rest w4 HLST.out hR5).mono fun e w5 hh => ?_
                  obtain ⟨t, cs, rfl, hp5, hr5, ht5, hg5⟩ := hh
                  obtain ⟨k9, n9, y9, v9, A9, m9, c9, rfl⟩ := hp5.inv
                  refine ⟨_, rfl, out_grown hg5 (by omega), ⟨⟨t, k9, n9, y9, v9, A9, m9, c9⟩, rfl, ht5, hp5.imp (fun q hq => ⟨by omega, hq.2, fun e => by have := own_block_lt hO7.own q e; omega⟩), hr5⟩, fun k hk hG => ?_, fun j v hj hw hF => ?_⟩
                  · unfold DG at *
                    split
                    · exact absurd rfl hk
                    · exact OwnKids.kept hG hg5 (by omega)
                    · exact (hg5.block _ (in_heap hG) (by intro e; injection e with e; omega)).trans hG
                    · trivial
                  · match j, hj, hw, hF with
                    | 0, _, _, hF => exact hF
                    | 1, _, _, hF => exact hF
                    | 2, _, _, hF => exact hF
                    | 3, hj, _, _ => exact absurd rfl hj
                    | 4, _, hw, _ => exact (PG.waits_no (by kernel_rfl) hw).elim
                    | 5, _, _, hF => obtain ⟨x, h1, h2⟩ := hF; exact ⟨x, h1, h2.kept hg5 (by omega)⟩
                    | 6, _, _, hF => exact hF
                    | 7, _, _, hF => obtain ⟨x, v, h1, h2, h3⟩ := hF; exact ⟨x, v, h1, h2.kept hg5 (by omega), (hg5.block _ (in_heap h3) (by intro e; injection e with e; omega)).trans h3⟩
                    | _ + 8, _, _, _ => trivial
                · obtain rfl := Option.some.inj (show some _ = some o from ho)
                  refine PG.shown_val rfl fun a w4 hr T => ?_
                  obtain ⟨x, h53, hx1, hx2, hx3⟩ := T.at_ 3 97 (by kernel_rfl) (by kernel_rfl)
                  have hO7 : OwnKids w4 w6d.heap.size (.slice none 0 0) [] := T.yet 5 (by kernel_rfl)
                  have hz4 : w6d.heap.size ≤ w4.heap.size := Nat.le_trans hbs hr.size
                  have hb4 : Below w4.heap.size w4 (w4.alloc (.cells x.cells.toArray 24)) := (Below.refl _ _).alloc (Nat.le_refl _) _
                  refine ⟨.slice (some ⟨w4.heap.size, 0, none⟩) 1 1, w4.alloc (.cells x.cells.toArray 24), by simp only [execOp, List.map_toArray, List.map_cons, List.map_nil, h53]; simp [go_sem, Kr.cells, rcs], out_below hb4 (by omega), ⟨x, w4.heap.size, rfl, hx1, hx2.below hb4, by simpa using Rd.lit w4 x.cells.toArray 24, by omega, by simp, fun e => by have := own_block_lt hO7.own _ e; omega⟩, fun k hk hG => hG.below hb4, fun j v hj hw hF => hF.below hb4⟩
                · obtain rfl := Option.some.inj (show some _ = some o from ho)
                  refine PG.shown_val rfl fun a w4 hr T => ?_
                  have h49 : a.eval (.tmp 95) = .slice none 0 0 := T.at_ 1 95 (by kernel_rfl) (by kernel_rfl)
                  obtain ⟨x, q, h54, hx1, hx2, hx3, hx4, hx5, hx6⟩ := T.at_ 4 98 (by kernel_rfl) (by kernel_rfl)
                  have hO7 : OwnKids w4 w6d.heap.size (.slice none 0 0) [] := T.own
                  have hz4 : w6d.heap.size ≤ w4.heap.size := Nat.le_trans hbs hr.size
                  obtain ⟨v', w', r1', r2', r3'⟩ := appKid (ty := 22) hO7 hx2 hx3 HLK.out (by omega)
                  have hne : ∀ k, k < w6d.heap.size → ((.slice none 0 0) : Value).ownBlock ≠ some k := fun k hk e => by have := own_block_ge hO7.own k e; omega
                  refine ⟨v', w', by simp only [execOp, resolve, invoke, builtin, Sem.run_bind, Sem.run_pure, Result.andThen_ok, List.map_toArray, List.map_cons, List.map_nil, h49, h54, r1'], ⟨r3'.grown.os, r3'.grown.tape, r3'.grown.output, r3'.grown.size, fun k h1 h2 h3 => r3'.grown.block k (by omega) (Ne.symm (hne k h1))⟩, ⟨x, hx1, r2'⟩, fun k hk hG => ?_, fun j v hj hw hF => ?_⟩
                  · unfold DG at *
                    split
                    · exact DSt.grew hG hO7 r3' (by omega)
                    · exact absurd rfl hk
                    · exact (r3'.grown.block _ (in_heap hG) (Ne.symm (hne _ (by omega)))).trans hG
                    · trivial
                  · match j, hj, hw, hF with
                    | 0, _, _, hF => exact hF
                    | 1, _, _, hF => exact hF
                    | 2, _, _, hF => exact hF
                    | 3, _, _, hF => obtain ⟨y, h1, h2, h3, h4⟩ := hF; exact ⟨y, h1, h2, h3.app r3', h4.grew hO7 r3' (by omega)⟩
                    | 4, _, _, hF => obtain ⟨y, p, h1, h2, h3, h4, h5, h6, h7⟩ := hF; exact ⟨y, p, h1, h2, h3.app r3', h4.block9 (r3'.grown.block p h6 (Ne.symm h7)), h5, Nat.lt_of_lt_of_le h6 r3'.grown.size, h7⟩
                    | 5, hj, _, _ => exact absurd rfl hj
                    | 6, _, _, hF => exact hF
                    | 7, _, hw, _ => exact (PG.waits_no (by kernel_rfl) hw).elim
                    | _ + 8, _, _, _ => trivial
                · obtain rfl := Option.some.inj (show some _ = some o from ho)
                  refine PG.shown_val rfl fun a w4 hr T => ?_
                  have h5 : a.eval (.tmp 8) = .pointer (some ⟨g, 0, none⟩) := T.was 8 (by kernel_rfl)
                  exact ⟨.pointer (some ⟨g, 4, none⟩), w4, by simp only [execOp, h5]; simp [go_sem], PG.Post.pure (out_goes P g w6d.heap.size) rfl⟩
                · obtain rfl := Option.some.inj (show some _ = some o from ho)
                  refine PG.shown_skip rfl fun a w4 hr T => ?_
                  have h56 : a.eval (.tmp 100) = .pointer (some ⟨g, 4, none⟩) := T.at_ 6 100 (by kernel_rfl) (by kernel_rfl)
                  obtain ⟨x, hx1, hx2⟩ := T.at_ 5 99 (by kernel_rfl) (by kernel_rfl)
                  have hO : w4.heap[g]? = some (.cells #[.int .i64 (vx : Int), .int .i64 0, .string ⟨#[]⟩, .string ⟨#[]⟩, .slice none 0 0] 24) := T.own
                  have hz4 : w6d.heap.size ≤ w4.heap.size := Nat.le_trans hbs hr.size
                  obtain ⟨Ar, cr, hv7, _, _⟩ := own_rd hx2.own
                  rw [hv7] at hx2
                  have c4 : w4.cell? ⟨g, 4, none⟩ = some (.slice none 0 0) := cell_of_row _ _ 4 _ _ (0, 0) hO
                  have f4 : w4.frozen? ⟨g, 4, none⟩ = false := pfrz hO
                  have hst : Out P g w6d.heap.size w4 (w4.setCell ⟨g, 4, none⟩ (.slice Ar ([] ++ [x]).length cr)) := ⟨rfl, rfl, rfl, by simp, fun k h1 h2 h3 => Below.heap_setCell w4 _ _ k (by simpa using h3)⟩
                  refine ⟨w4.setCell ⟨g, 4, none⟩ (.slice Ar ([] ++ [x]).length cr), by simp only [execOp, h56, hv7]; simp [go_sem, c4, f4], hst, ⟨x, .slice Ar ([] ++ [x]).length cr, hx1, hx2.set (by omega), heap_setCell_same _ _ 4 _ _ _ hO⟩, fun k hk hG => ?_, fun j v hj hw hF => ?_⟩
                  · unfold DG at *
                    split
                    · exact dst_wide hG (by omega) _
                    · exact OwnKids.set hG (by omega)
                    · exact absurd rfl hk
                    · trivial
                  · match j, hj, hw, hF with
                    | 0, _, _, hF => exact hF
                    | 1, _, _, hF => exact hF
                    | 2, _, _, hF => exact hF
                    | 3, _, _, hF => obtain ⟨y, h1, h2, h3, h4⟩ := hF; exact ⟨y, h1, h2, h3.set (by omega), dst_wide h4 (by omega) _⟩
                    | 4, _, _, hF => obtain ⟨y, p, h1, h2, h3, h4, h5, h6, h7⟩ := hF; exact ⟨y, p, h1, h2, h3.set (by omega), h4.block9 (Below.heap_setCell w4 _ _ p (by simp; omega)), h5, by simpa using h6, h7⟩
                    | 5, _, _, hF => obtain ⟨y, h1, h2⟩ := hF; exact ⟨y, h1, h2.set (by omega)⟩
                    | 6, _, _, hF => exact hF
                    | 7, hj, _, _ => exact absurd rfl hj
                    | _ + 8, _, _, _ => trivial
                · cases ho
              · rw [← hww6d]
                intro x w5 hr hf he
                obtain ⟨x5, hx5, hx5t, hx5k, hx5r⟩ := hf 3 _ 97 rfl rfl
                obtain ⟨_, y, V', hyt, hyo, hyx⟩ := he 7 _ rfl rfl
                have hz5 := hr.size
                have GS5 : Hid (RoSt W w5 P g s L (Wm.pol f (Wm.tok (Wm.tok l).rest).rest).st #[.int .i64 (vx : Int), .int .i64 0, .string ⟨#[]⟩, .string ⟨#[]⟩, V']) := Lib.hid ⟨(hr.block _ (by omega) (by omega) (by omega)).trans ((hbd.block _ (in_heap GS6.out.z)).trans GS6.out.z), hyx, hx5r, ⟨hr.os.trans (hbd.os.trans GS6.out.gr.os), hr.tape.trans (hbd.tape.trans GS6.out.gr.tape), hr.output.trans (hbd.output.trans GS6.out.gr.output), Nat.le_trans GS6.out.gr.size (Nat.le_trans hbd.size hr.size), fun k hk hne => (hr.block k (by omega) (fun e => hne (by rw [e])) (by omega)).trans ((hbd.block k (by have := GS6.out.gr.size; omega)).trans (GS6.out.gr.block k hk hne))⟩⟩
                have HO5 := Lib.hid hyo
                have HYT := Lib.hid hyt
                have HB5 := Lib.hid hzd
                clear hf he hr hx5 hx5t hx5k hx5r hyo hyx hyt
                simp only [PG.putAll, Act.put, List.setIfInBounds_toArray, List.set_cons_zero, List.set_cons_succ]
                have HRES : Hid (Wm.pol (f + 1) l = Wm.polK (Wm.pol f) 2 f (Wm.tok l).rest) := Lib.hid (by rw [HPOL.out, HVK.out])
                rw [show (vx : Int) = 2 from by have := HVK.out; omega] at GS5
                obtain ⟨bs, hbs0⟩ : ∃ n, n = w6d.heap.size := ⟨_, rfl⟩
                rw [← hbs0] at HO5 HB5 hz5
                have HB6 := Lib.hid HB5.out
                have hPb : P < bs := by have h1 := HB6.out; have h2 := HGG.out; omega
                have hKL : KL W w5 P g bs 2 f s L (Wm.kids (Wm.pol f) 1 f (Wm.tok (Wm.tok l).rest).rest) := by
                  obtain ⟨A9, c9, hV9, _, _⟩ := own_rd HO5.out.own
                  subst hV9
                  exact ⟨_, _, A9, c9, HO5.out, GS5.out, KInv.first HLST.out HYT.out, hz5⟩
                have HKL := Lib.hid hKL
                clear hKL HO5 HB5 GS5 HYT hz5 hzd hbs hgg
                clear k1 m1
                try clear k2 m2
                try clear n3 e3
                go_wp2_with fail
                go_loopw [101] (fun _ wr => Hid (KL W wr P g bs 2 f s L (Wm.kids (Wm.pol f) 1 f (Wm.tok (Wm.tok l).rest).rest))) (fun _ wr => dmeas wr P s.size)
                case atStart => exact HKL
                case round =>
                  have HREL := hrel
                  clear hrel HKL
                  obtain ⟨st2, Lk, A7, c7, ho, hgs, hinv, hbz⟩ := HREL.out
                  clear HREL
                  obtain ⟨ln, hln⟩ : ∃ k, Lk.length = k := ⟨_, rfl⟩
                  rw [hln] at ho hgs
                  have HLK : Hid (Lk.length ≤ 1000000) := Lib.hid (by have := hinv.len; omega)
                  have HO := Lib.hid ho
                  have GS := Lib.hid hgs
                  have HINV := Lib.hid hinv
                  clear ho hgs hinv hln
                  have HX9 := Lib.hid GS.out.x
                  have HZ9 := Lib.hid GS.out.z
                  have x0 : wr.cell? ⟨g, 0, none⟩ = some (.int .i64 2) := cell_of_row _ _ 0 _ _ (0, 0) HX9.out
                  have x1 : wr.cell? ⟨g, 1, none⟩ = some (.int .i64 0) := cell_of_row _ _ 1 _ _ (0, 0) HX9.out
                  have x2 : wr.cell? ⟨g, 2, none⟩ = some (.string ⟨#[]⟩) := cell_of_row _ _ 2 _ _ (0, 0) HX9.out
                  have x3 : wr.cell? ⟨g, 3, none⟩ = some (.string ⟨#[]⟩) := cell_of_row _ _ 3 _ _ (0, 0) HX9.out
                  have x4 : wr.cell? ⟨g, 4, none⟩ = some (.slice A7 ln c7) := cell_of_row _ _ 4 _ _ (0, 0) HX9.out
                  have xf0 : wr.frozen? ⟨g, 0, none⟩ = false := pfrz HX9.out
                  have xf1 : wr.frozen? ⟨g, 1, none⟩ = false := pfrz HX9.out
                  have xf2 : wr.frozen? ⟨g, 2, none⟩ = false := pfrz HX9.out
                  have xf3 : wr.frozen? ⟨g, 3, none⟩ = false := pfrz HX9.out
                  have xf4 : wr.frozen? ⟨g, 4, none⟩ = false := pfrz HX9.out
                  have y0 : wr.cell? ⟨W.heap.size, 0, none⟩ = some (.int .i64 0) := cell_of_row _ _ 0 _ _ (0, 0) HZ9.out
                  have y1 : wr.cell? ⟨W.heap.size, 1, none⟩ = some (.int .i64 0) := cell_of_row _ _ 1 _ _ (0, 0) HZ9.out
                  have y2 : wr.cell? ⟨W.heap.size, 2, none⟩ = some (.string ⟨#[]⟩) := cell_of_row _ _ 2 _ _ (0, 0) HZ9.out
                  have y3 : wr.cell? ⟨W.heap.size, 3, none⟩ = some (.string ⟨#[]⟩) := cell_of_row _ _ 3 _ _ (0, 0) HZ9.out
                  have y4 : wr.cell? ⟨W.heap.size, 4, none⟩ = some (.slice none 0 0) := cell_of_row _ _ 4 _ _ (0, 0) HZ9.out
                  have yf0 : wr.frozen? ⟨W.heap.size, 0, none⟩ = false := pfrz HZ9.out
                  have yf1 : wr.frozen? ⟨W.heap.size, 1, none⟩ = false := pfrz HZ9.out
                  have yf2 : wr.frozen? ⟨W.heap.size, 2, none⟩ = false := pfrz HZ9.out
                  have yf3 : wr.frozen? ⟨W.heap.size, 3, none⟩ = false := pfrz HZ9.out
                  have yf4 : wr.frozen? ⟨W.heap.size, 4, none⟩ = false := pfrz HZ9.out
                  have HSC := Lib.hid (dsign_any s L P 44 ⟨#[44]⟩ rfl _ _ HLL.out HS.out GS.out.r)
                  have done5 := trivial
                  cases hb : Wm.signB 44 st2 with
                  | true =>
                    obtain ⟨l3, rfl, h44⟩ := sign_at hb
                    have h2 : Wm.signD 44 (.at_ l3) = .at_ (Wm.tok l3).rest := if_pos h44
                    rw [hb, h2] at HSC
                    have HINV2 : Hid (∀ x : Kr, (∀ t' r, Wm.pol f (Wm.tok l3).rest = .ok t' r → x.t = t') → KInv f (Wm.kids (Wm.pol f) 1 f (Wm.tok (Wm.tok l).rest).rest) (Lk ++ [x]) (Wm.pol f (Wm.tok l3).rest).st) := Lib.hid (fun x hx => HINV.out.step h44 hx)
                    have HMS : Hid (∀ w', DSt w' P s L (Wm.pol f (Wm.tok l3).rest).st → dmeas w' P s.size < dmeas wr P s.size) := Lib.hid (fun w' hw => dmeas_step HLL.out GS.out.r h44 hw)
                    have HLST : Hid ((Wm.tok l3).rest.length < f) := Lib.hid (by
                      obtain ⟨m, _, _, _, h4⟩ := HINV.out
                      have := (Wm.tok_rest l3).len
                      omega)
                    clear hb h2 h44
                    go_wp2_with (have hd := done5; clear done5; go_at_call 39; (with_reducible refine HSC.out.mono ?_); rintro e8 w8 ⟨rfl, hr8, hg8⟩; have GS8 := Lib.hid (GS.out.call hg8 hr8 hP HGG.out); have HO8 := Lib.hid (HO.out.kept hg8 hPb); have hbz := Nat.le_trans hbz hg8.size; clear hr8 hg8; clear x0 x1 x2 x3 x4 xf0 xf1 xf2 xf3 xf4 y0 y1 y2 y3 y4 yf0 yf1 yf2 yf3 yf4; have HX8 := Lib.hid GS8.out.x; have HZ8 := Lib.hid GS8.out.z; have x0 : w8.cell? ⟨g, 0, none⟩ = some (.int .i64 2) := cell_of_row _ _ 0 _ _ (0, 0) HX8.out; have x1 : w8.cell? ⟨g, 1, none⟩ = some (.int .i64 0) := cell_of_row _ _ 1 _ _ (0, 0) HX8.out; have x2 : w8.cell? ⟨g, 2, none⟩ = some (.string ⟨#[]⟩) := cell_of_row _ _ 2 _ _ (0, 0) HX8.out; have x3 : w8.cell? ⟨g, 3, none⟩ = some (.string ⟨#[]⟩) := cell_of_row _ _ 3 _ _ (0, 0) HX8.out; have x4 : w8.cell? ⟨g, 4, none⟩ = some (.slice A7 ln c7) := cell_of_row _ _ 4 _ _ (0, 0) HX8.out; have xf0 : w8.frozen? ⟨g, 0, none⟩ = false := pfrz HX8.out; have xf1 : w8.frozen? ⟨g, 1, none⟩ = false := pfrz HX8.out; have xf2 : w8.frozen? ⟨g, 2, none⟩ = false := pfrz HX8.out; have xf3 : w8.frozen? ⟨g, 3, none⟩ = false := pfrz HX8.out; have xf4 : w8.frozen? ⟨g, 4, none⟩ = false := pfrz HX8.out; have y0 : w8.cell? ⟨W.heap.size, 0, none⟩ = some (.int .i64 0) := cell_of_row _ _ 0 _ _ (0, 0) HZ8.out; have y1 : w8.cell? ⟨W.heap.size, 1, none⟩ = some (.int .i64 0) := cell_of_row _ _ 1 _ _ (0, 0) HZ8.out; have y2 : w8.cell? ⟨W.heap.size, 2, none⟩ = some (.string ⟨#[]⟩) := cell_of_row _ _ 2 _ _ (0, 0) HZ8.out; have y3 : w8.cell? ⟨W.heap.size, 3, none⟩ = some (.string ⟨#[]⟩) := cell_of_row _ _ 3 _ _ (0, 0) HZ8.out; have y4 : w8.cell? ⟨W.heap.size, 4, none⟩ = some (.slice none 0 0) := cell_of_row _ _ 4 _ _ (0, 0) HZ8.out; have yf0 : w8.frozen? ⟨W.heap.size, 0, none⟩ = false := pfrz HZ8.out; have yf1 : w8.frozen? ⟨W.heap.size, 1, none⟩ = false := pfrz HZ8.out; have yf2 : w8.frozen? ⟨W.heap.size, 2, none⟩ = false := pfrz HZ8.out; have yf3 : w8.frozen? ⟨W.heap.size, 3, none⟩ = false := pfrz HZ8.out; have yf4 : w8.frozen? ⟨W.heap.size, 4, none⟩ = false := pfrz HZ8.out; have done6 := trivial)
                    have HOW29 : Hid (∀ d : World, Below w8.heap.size w8 d → d = w8.drew → OwnKids d bs (.slice A7 ln c7) Lk) := Lib.hid (fun d hd _ => HO8.out.below hd)
                    have hgb : g < bs := HB6.out
                    obtain ⟨w8d, hww8d⟩ : ∃ w, w = w8.drew := ⟨_, rfl⟩
                    have hbd : Below w8.heap.size w8 w8d := by rw [hww8d]; exact ⟨rfl, rfl, rfl, Nat.le_refl _, fun _ _ => rfl⟩
                    have hzd : g < w8d.heap.size := Nat.lt_of_lt_of_le (in_heap GS8.out.x) hbd.size
                    have hbs : bs ≤ w8d.heap.size := Nat.le_trans hbz hbd.size
                    have hgg := HGG.out
                    refine PG.wp_region_persG (R := Out P g bs) (G := DG P g bs s L (.slice A7 ln c7) Lk (.at_ (Wm.tok l3).rest) 2) (by kernel_rfl) (PG.formed_of (by kernel_rfl)) (out_goes P g bs) ?_ (DF P g bs s L (.slice A7 ln c7) Lk (Wm.pol f (Wm.tok l3).rest) 2) ?_ ?_
                    · rw [← hww8d]
                      intro k
                      unfold DG
                      split
                      · exact DSt.below GS8.out.r hbd GS8.out.r.lt
                      · exact HOW29.out w8d hbd hww8d
                      · exact (hbd.block _ (in_heap GS8.out.x)).trans GS8.out.x
                      · trivial
                    · rw [← hww8d]
                      intro i o ho
                      rcases i with _ | _ | _ | _ | _ | _ | _ | _ | i
                      · obtain rfl := Option.some.inj (show some _ = some o from ho)
                        refine PG.shown_val rfl fun a w4 hr T => ?_
                        have h5 : a.eval (.tmp 8) = .pointer (some ⟨g, 0, none⟩) := T.was 8 (by kernel_rfl)
                        exact ⟨.pointer (some ⟨g, 4, none⟩), w4, by simp only [execOp, h5]; simp [go_sem], PG.Post.pure (out_goes P g bs) rfl⟩
                      · obtain rfl := Option.some.inj (show some _ = some o from ho)
                        refine PG.shown_val rfl fun a w4 hr T => ?_
                        have h48 : a.eval (.tmp 108) = .pointer (some ⟨g, 4, none⟩) := T.at_ 0 108 (by kernel_rfl) (by kernel_rfl)
                        have hO : w4.heap[g]? = some (.cells #[.int .i64 2, .int .i64 0, .string ⟨#[]⟩, .string ⟨#[]⟩, .slice A7 ln c7] 24) := T.yet 7 (by kernel_rfl)
                        have c4 : w4.cell? ⟨g, 4, none⟩ = some (.slice A7 ln c7) := cell_of_row _ _ 4 _ _ (0, 0) hO
                        exact ⟨.slice A7 ln c7, w4, by simp only [execOp, h48]; simp [go_sem, c4], PG.Post.pure (out_goes P g bs) rfl⟩
                      · obtain rfl := Option.some.inj (show some _ = some o from ho)
                        refine PG.shown_val rfl fun a w4 hr T => ?_
                        have h0 : a.eval (.tmp 0) = .pointer (some ⟨P, 0, none⟩) := T.was 0 (by kernel_rfl)
                        exact ⟨.pointer (some ⟨P, 0, none⟩), w4, by simp only [execOp, h0]; simp [go_sem], PG.Post.pure (out_goes P g bs) rfl⟩
                      · obtain rfl := Option.some.inj (show some _ = some o from ho)
                        refine PG.shown_call rfl 20 fun a w4 hr T => ?_
                        have h50 : a.eval (.tmp 110) = .pointer (some ⟨P, 0, none⟩) := T.at_ 2 110 (by kernel_rfl) (by kernel_rfl)
                        have hR5 : DSt w4 P s L (.at_ (Wm.tok l3).rest) := T.own
                        have hO7 : OwnKids w4 bs (.slice A7 ln c7) Lk := T.yet 5 (by kernel_rfl)
                        have hz4 : bs ≤ w4.heap.size := Nat.le_trans hbs hr.size
                        refine ⟨#[.pointer (some ⟨P, 0, none⟩)], by simp only [execOp, resolve, List.map_toArray, List.map_cons, List.map_nil, h50]; simp [go_sem, Act.eval], ?_⟩
                        refine (HIH.out (Wm.tok l3).rest w4 HLST.out hR5).mono fun e w5 hh => ?_
                        obtain ⟨t, cs, rfl, hp5, hr5, ht5, hg5⟩ := hh
                        obtain ⟨k9, n9, y9, v9, A9, m9, c9, rfl⟩ := hp5.inv
                        refine ⟨_, rfl, out_grown hg5 (by omega), ⟨⟨t, k9, n9, y9, v9, A9, m9, c9⟩, rfl, ht5, hp5.imp (fun q hq => ⟨by omega, hq.2, fun e => by have := own_block_lt hO7.own q e; omega⟩), hr5⟩, fun k hk hG => ?_, fun j v hj hw hF => ?_⟩
                        · unfold DG at *
                          split
                          · exact absurd rfl hk
                          · exact OwnKids.kept hG hg5 (by omega)
                          · exact (hg5.block _ (in_heap hG) (by intro e; injection e with e; omega)).trans hG
                          · trivial
                        · match j, hj, hw, hF with
                          | 0, _, _, hF => exact hF
                          | 1, _, _, hF => exact hF
                          | 2, _, _, hF => exact hF
                          | 3, hj, _, _ => exact absurd rfl hj
                          | 4, _, hw, _ => exact (PG.waits_no (by kernel_rfl) hw).elim
                          | 5, _, _, hF => obtain ⟨x, h1, h2⟩ := hF; exact ⟨x, h1, h2.kept hg5 (by omega)⟩
                          | 6, _, _, hF => exact hF
                          | 7, _, _, hF => obtain ⟨x, v, h1, h2, h3⟩ := hF; exact ⟨x, v, h1, h2.kept hg5 (by omega), (hg5.block _ (in_heap h3) (by intro e; injection e with e; omega)).trans h3⟩
                          | _ + 8, _, _, _ => trivial
                      · obtain rfl := Option.some.inj (show some _ = some o from ho)
                        refine PG.shown_val rfl fun a w4 hr T => ?_
                        obtain ⟨x, h53, hx1, hx2, hx3⟩ := T.at_ 3 111 (by kernel_rfl) (by kernel_rfl)
                        have hO7 : OwnKids w4 bs (.slice A7 ln c7) Lk := T.yet 5 (by kernel_rfl)
                        have hz4 : bs ≤ w4.heap.size := Nat.le_trans hbs hr.size
                        have hb4 : Below w4.heap.size w4 (w4.alloc (.cells x.cells.toArray 24)) := (Below.refl _ _).alloc (Nat.le_refl _) _
                        refine ⟨.slice (some ⟨w4.heap.size, 0, none⟩) 1 1, w4.alloc (.cells x.cells.toArray 24), by simp only [execOp, List.map_toArray, List.map_cons, List.map_nil, h53]; simp [go_sem, Kr.cells, rcs], out_below hb4 (by omega), ⟨x, w4.heap.size, rfl, hx1, hx2.below hb4, by simpa using Rd.lit w4 x.cells.toArray 24, by omega, by simp, fun e => by have := own_block_lt hO7.own _ e; omega⟩, fun k hk hG => hG.below hb4, fun j v hj hw hF => hF.below hb4⟩
                      · obtain rfl := Option.some.inj (show some _ = some o from ho)
                        refine PG.shown_val rfl fun a w4 hr T => ?_
                        have h49 : a.eval (.tmp 109) = .slice A7 ln c7 := T.at_ 1 109 (by kernel_rfl) (by kernel_rfl)
                        obtain ⟨x, q, h54, hx1, hx2, hx3, hx4, hx5, hx6⟩ := T.at_ 4 112 (by kernel_rfl) (by kernel_rfl)
                        have hO7 : OwnKids w4 bs (.slice A7 ln c7) Lk := T.own
                        have hz4 : bs ≤ w4.heap.size := Nat.le_trans hbs hr.size
                        obtain ⟨v', w', r1', r2', r3'⟩ := appKid (ty := 22) hO7 hx2 hx3 HLK.out (by omega)
                        have hne : ∀ k, k < bs → ((.slice A7 ln c7) : Value).ownBlock ≠ some k := fun k hk e => by have := own_block_ge hO7.own k e; omega
                        refine ⟨v', w', by simp only [execOp, resolve, invoke, builtin, Sem.run_bind, Sem.run_pure, Result.andThen_ok, List.map_toArray, List.map_cons, List.map_nil, h49, h54, r1'], ⟨r3'.grown.os, r3'.grown.tape, r3'.grown.output, r3'.grown.size, fun k h1 h2 h3 => r3'.grown.block k (by omega) (Ne.symm (hne k h1))⟩, ⟨x, hx1, r2'⟩, fun k hk hG => ?_, fun j v hj hw hF => ?_⟩
                        · unfold DG at *
                          split
                          · exact DSt.grew hG hO7 r3' (by omega)
                          · exact absurd rfl hk
                          · exact (r3'.grown.block _ (in_heap hG) (Ne.symm (hne _ (by omega)))).trans hG
                          · trivial
                        · match j, hj, hw, hF with
                          | 0, _, _, hF => exact hF
                          | 1, _, _, hF => exact hF
                          | 2, _, _, hF => exact hF
                          | 3, _, _, hF => obtain ⟨y, h1, h2, h3, h4⟩ := hF; exact ⟨y, h1, h2, h3.app r3', h4.grew hO7 r3' (by omega)⟩
                          | 4, _, _, hF => obtain ⟨y, p, h1, h2, h3, h4, h5, h6, h7⟩ := hF; exact ⟨y, p, h1, h2, h3.app r3', h4.block9 (r3'.grown.block p h6 (Ne.symm h7)), h5, Nat.lt_of_lt_of_le h6 r3'.grown.size, h7⟩
                          | 5, hj, _, _ => exact absurd rfl hj
                          | 6, _, _, hF => exact hF
                          | 7, _, hw, _ => exact (PG.waits_no (by kernel_rfl) hw).elim
                          | _ + 8, _, _, _ => trivial
                      · obtain rfl := Option.some.inj (show some _ = some o from ho)
                        refine PG.shown_val rfl fun a w4 hr T => ?_
                        have h5 : a.eval (.tmp 8) = .pointer (some ⟨g, 0, none⟩) := T.was 8 (by kernel_rfl)
                        exact ⟨.pointer (some ⟨g, 4, none⟩), w4, by simp only [execOp, h5]; simp [go_sem], PG.Post.pure (out_goes P g bs) rfl⟩
                      · obtain rfl := Option.some.inj (show some _ = some o from ho)
                        refine PG.shown_skip rfl fun a w4 hr T => ?_
                        have h56 : a.eval (.tmp 114) = .pointer (some ⟨g, 4, none⟩) := T.at_ 6 114 (by kernel_rfl) (by kernel_rfl)
                        obtain ⟨x, hx1, hx2⟩ := T.at_ 5 113 (by kernel_rfl) (by kernel_rfl)
                        have hO : w4.heap[g]? = some (.cells #[.int .i64 2, .int .i64 0, .string ⟨#[]⟩, .string ⟨#[]⟩, .slice A7 ln c7] 24) := T.own
                        have hz4 : bs ≤ w4.heap.size := Nat.le_trans hbs hr.size
                        obtain ⟨Ar, cr, hv7, _, _⟩ := own_rd hx2.own
                        rw [hv7] at hx2
                        have c4 : w4.cell? ⟨g, 4, none⟩ = some (.slice A7 ln c7) := cell_of_row _ _ 4 _ _ (0, 0) hO
                        have f4 : w4.frozen? ⟨g, 4, none⟩ = false := pfrz hO
                        have hst : Out P g bs w4 (w4.setCell ⟨g, 4, none⟩ (.slice Ar (Lk ++ [x]).length cr)) := ⟨rfl, rfl, rfl, by simp, fun k h1 h2 h3 => Below.heap_setCell w4 _ _ k (by simpa using h3)⟩
                        refine ⟨w4.setCell ⟨g, 4, none⟩ (.slice Ar (Lk ++ [x]).length cr), by simp only [execOp, h56, hv7]; simp [go_sem, c4, f4], hst, ⟨x, .slice Ar (Lk ++ [x]).length cr, hx1, hx2.set (by omega), heap_setCell_same _ _ 4 _ _ _ hO⟩, fun k hk hG => ?_, fun j v hj hw hF => ?_⟩
                        · unfold DG at *
                          split
                          · exact dst_wide hG (by omega) _
                          · exact OwnKids.set hG (by omega)
                          · exact absurd rfl hk
                          · trivial
                        · match j, hj, hw, hF with
                          | 0, _, _, hF => exact hF
                          | 1, _, _, hF => exact hF
                          | 2, _, _, hF => exact hF
                          | 3, _, _, hF => obtain ⟨y, h1, h2, h3, h4⟩ := hF; exact ⟨y, h1, h2, h3.set (by omega), dst_wide h4 (by omega) _⟩
                          | 4, _, _, hF => obtain ⟨y, p, h1, h2, h3, h4, h5, h6, h7⟩ := hF; exact ⟨y, p, h1, h2, h3.set (by omega), h4.block9 (Below.heap_setCell w4 _ _ p (by simp; omega)), h5, by simpa using h6, h7⟩
                          | 5, _, _, hF => obtain ⟨y, h1, h2⟩ := hF; exact ⟨y, h1, h2.set (by omega)⟩
                          | 6, _, _, hF => exact hF
                          | 7, hj, _, _ => exact absurd rfl hj
                          | _ + 8, _, _, _ => trivial
                      · cases ho
                    · rw [← hww8d]
                      intro x w5 hr hf he
                      obtain ⟨x5, hx5, hx5t, hx5k, hx5r⟩ := hf 3 _ 111 rfl rfl
                      obtain ⟨_, y, V', hyt, hyo, hyx⟩ := he 7 _ rfl rfl
                      have hz5 := hr.size
                      have GS5 : Hid (RoSt W w5 P g s L (Wm.pol f (Wm.tok l3).rest).st #[.int .i64 2, .int .i64 0, .string ⟨#[]⟩, .string ⟨#[]⟩, V']) := Lib.hid ⟨(hr.block _ (by omega) (by omega) (by omega)).trans ((hbd.block _ (in_heap GS8.out.z)).trans GS8.out.z), hyx, hx5r, ⟨hr.os.trans (hbd.os.trans GS8.out.gr.os), hr.tape.trans (hbd.tape.trans GS8.out.gr.tape), hr.output.trans (hbd.output.trans GS8.out.gr.output), Nat.le_trans GS8.out.gr.size (Nat.le_trans hbd.size hr.size), fun k hk hne => (hr.block k (by omega) (fun e => hne (by rw [e])) (by omega)).trans ((hbd.block k (by have := GS8.out.gr.size; omega)).trans (GS8.out.gr.block k hk hne))⟩⟩
                      have HO5 := Lib.hid hyo
                      have HYT := Lib.hid hyt
                      have HB5 := Lib.hid hzd
                      clear hf he hr hx5 hx5t hx5k hx5r hyo hyx hyt
                      simp only [PG.putAll, Act.put, List.setIfInBounds_toArray, List.set_cons_zero, List.set_cons_succ]
                      obtain ⟨A9, c9, hV9, _, _⟩ := own_rd HO5.out.own
                      subst hV9
                      have hz9 := Nat.le_trans hbs hz5
                      go_wp2_with fail
                      go_roundw
                      case rel => exact ⟨_, _, _, _, _, _, _, _, _, _, _, _, _, _, Lib.hid ⟨_, Lk ++ [y], A9, c9, HO5.out, GS5.out, HINV2.out y HYT.out, hz9⟩, rfl⟩
                      case measure => exact HMS.out _ GS5.out.r
                  | false =>
                    have HPK := Lib.hid (dpolK12_out (f := f) (p := Wm.pol f) (l := (Wm.tok l).rest) 2 (by decide) H40.out H41N.out (Lk.map Kr.t) (HINV.out.endD hb))
                    have hd2 := sign_not hb
                    rw [hb, hd2] at HSC
                    have HSK := Lib.hid (fun (w : World) (hw : DSt w P s L st2) => dsign_any s L P 41 ⟨#[41]⟩ rfl st2 w HLL.out HS.out hw)
                    clear hb hd2
                    cases hb : Wm.signB 41 st2 with
                    | true =>
                      rw [hb] at HSK
                      have HST := Lib.hid (HPK.out.1 hb)
                      clear hb
                      go_wp2_with (first
                        | (have hd := done6; clear done6; go_at_call 39; (with_reducible refine (Lib.hid (HSK.out _ GS6.out.r)).out.mono ?_); rintro e7 w7 ⟨rfl, hr7, hg7⟩; have GS7 := Lib.hid (GS6.out.call hg7 hr7 hP HGG.out); have HO7 := Lib.hid (HO6.out.kept hg7 hPb); have hbz := Nat.le_trans hbz hg7.size; clear hr7 hg7; clear x0 x1 x2 x3 x4 xf0 xf1 xf2 xf3 xf4 y0 y1 y2 y3 y4 yf0 yf1 yf2 yf3 yf4; have HX7 := Lib.hid GS7.out.x; have HZ7 := Lib.hid GS7.out.z; have x0 : w7.cell? ⟨g, 0, none⟩ = some (.int .i64 2) := cell_of_row _ _ 0 _ _ (0, 0) HX7.out; have x1 : w7.cell? ⟨g, 1, none⟩ = some (.int .i64 0) := cell_of_row _ _ 1 _ _ (0, 0) HX7.out; have x2 : w7.cell? ⟨g, 2, none⟩ = some (.string ⟨#[]⟩) := cell_of_row _ _ 2 _ _ (0, 0) HX7.out; have x3 : w7.cell? ⟨g, 3, none⟩ = some (.string ⟨#[]⟩) := cell_of_row _ _ 3 _ _ (0, 0) HX7.out; have x4 : w7.cell? ⟨g, 4, none⟩ = some (.slice A7 ln c7) := cell_of_row _ _ 4 _ _ (0, 0) HX7.out; have xf0 : w7.frozen? ⟨g, 0, none⟩ = false := pfrz HX7.out; have xf1 : w7.frozen? ⟨g, 1, none⟩ = false := pfrz HX7.out; have xf2 : w7.frozen? ⟨g, 2, none⟩ = false := pfrz HX7.out; have xf3 : w7.frozen? ⟨g, 3, none⟩ = false := pfrz HX7.out; have xf4 : w7.frozen? ⟨g, 4, none⟩ = false := pfrz HX7.out; have y0 : w7.cell? ⟨W.heap.size, 0, none⟩ = some (.int .i64 0) := cell_of_row _ _ 0 _ _ (0, 0) HZ7.out; have y1 : w7.cell? ⟨W.heap.size, 1, none⟩ = some (.int .i64 0) := cell_of_row _ _ 1 _ _ (0, 0) HZ7.out; have y2 : w7.cell? ⟨W.heap.size, 2, none⟩ = some (.string ⟨#[]⟩) := cell_of_row _ _ 2 _ _ (0, 0) HZ7.out; have y3 : w7.cell? ⟨W.heap.size, 3, none⟩ = some (.string ⟨#[]⟩) := cell_of_row _ _ 3 _ _ (0, 0) HZ7.out; have y4 : w7.cell? ⟨W.heap.size, 4, none⟩ = some (.slice none 0 0) := cell_of_row _ _ 4 _ _ (0, 0) HZ7.out; have yf0 : w7.frozen? ⟨W.heap.size, 0, none⟩ = false := pfrz HZ7.out; have yf1 : w7.frozen? ⟨W.heap.size, 1, none⟩ = false := pfrz HZ7.out; have yf2 : w7.frozen? ⟨W.heap.size, 2, none⟩ = false := pfrz HZ7.out; have yf3 : w7.frozen? ⟨W.heap.size, 3, none⟩ = false := pfrz HZ7.out; have yf4 : w7.frozen? ⟨W.heap.size, 4, none⟩ = false := pfrz HZ7.out; have done7 := trivial)
                        | (have hd := done5; clear done5; go_at_call 39; (with_reducible refine HSC.out.mono ?_); rintro e6 w6 ⟨rfl, hr6, hg6⟩; have GS6 := Lib.hid (GS.out.call hg6 hr6 hP HGG.out); have HO6 := Lib.hid (HO.out.kept hg6 hPb); have hbz := Nat.le_trans hbz hg6.size; clear hr6 hg6; clear x0 x1 x2 x3 x4 xf0 xf1 xf2 xf3 xf4 y0 y1 y2 y3 y4 yf0 yf1 yf2 yf3 yf4; have HX6 := Lib.hid GS6.out.x; have HZ6 := Lib.hid GS6.out.z; have x0 : w6.cell? ⟨g, 0, none⟩ = some (.int .i64 2) := cell_of_row _ _ 0 _ _ (0, 0) HX6.out; have x1 : w6.cell? ⟨g, 1, none⟩ = some (.int .i64 0) := cell_of_row _ _ 1 _ _ (0, 0) HX6.out; have x2 : w6.cell? ⟨g, 2, none⟩ = some (.string ⟨#[]⟩) := cell_of_row _ _ 2 _ _ (0, 0) HX6.out; have x3 : w6.cell? ⟨g, 3, none⟩ = some (.string ⟨#[]⟩) := cell_of_row _ _ 3 _ _ (0, 0) HX6.out; have x4 : w6.cell? ⟨g, 4, none⟩ = some (.slice A7 ln c7) := cell_of_row _ _ 4 _ _ (0, 0) HX6.out; have xf0 : w6.frozen? ⟨g, 0, none⟩ = false := pfrz HX6.out; have xf1 : w6.frozen? ⟨g, 1, none⟩ = false := pfrz HX6.out; have xf2 : w6.frozen? ⟨g, 2, none⟩ = false := pfrz HX6.out; have xf3 : w6.frozen? ⟨g, 3, none⟩ = false := pfrz HX6.out; have xf4 : w6.frozen? ⟨g, 4, none⟩ = false := pfrz HX6.out; have y0 : w6.cell? ⟨W.heap.size, 0, none⟩ = some (.int .i64 0) := cell_of_row _ _ 0 _ _ (0, 0) HZ6.out; have y1 : w6.cell? ⟨W.heap.size, 1, none⟩ = some (.int .i64 0) := cell_of_row _ _ 1 _ _ (0, 0) HZ6.out; have y2 : w6.cell? ⟨W.heap.size, 2, none⟩ = some (.string ⟨#[]⟩) := cell_of_row _ _ 2 _ _ (0, 0) HZ6.out; have y3 : w6.cell? ⟨W.heap.size, 3, none⟩ = some (.string ⟨#[]⟩) := cell_of_row _ _ 3 _ _ (0, 0) HZ6.out; have y4 : w6.cell? ⟨W.heap.size, 4, none⟩ = some (.slice none 0 0) := cell_of_row _ _ 4 _ _ (0, 0) HZ6.out; have yf0 : w6.frozen? ⟨W.heap.size, 0, none⟩ = false := pfrz HZ6.out; have yf1 : w6.frozen? ⟨W.heap.size, 1, none⟩ = false := pfrz HZ6.out; have yf2 : w6.frozen? ⟨W.heap.size, 2, none⟩ = false := pfrz HZ6.out; have yf3 : w6.frozen? ⟨W.heap.size, 3, none⟩ = false := pfrz HZ6.out; have yf4 : w6.frozen? ⟨W.heap.size, 4, none⟩ = false := pfrz HZ6.out; have done6 := trivial))
                      have HFIN := dfin5 GS7.out.r GS7.out.gr hP GS7.out.z (.int .i64 2) (.int .i64 0) (.string ⟨#[]⟩) (.string ⟨#[]⟩) (.slice A7 ln c7)
                      have hrw := HFIN.2.2.2.2
                      have q0 : (((((w7.setCell ⟨W.heap.size, 0, none⟩ (.int .i64 2)).setCell ⟨W.heap.size, 1, none⟩ (.int .i64 0)).setCell ⟨W.heap.size, 2, none⟩ (.string ⟨#[]⟩)).setCell ⟨W.heap.size, 3, none⟩ (.string ⟨#[]⟩)).setCell ⟨W.heap.size, 4, none⟩ (.slice A7 ln c7)).cell? ⟨W.heap.size, 0, none⟩ = some (.int .i64 2) := cell_of_row _ _ 0 _ _ (0, 0) hrw
                      have q1 : (((((w7.setCell ⟨W.heap.size, 0, none⟩ (.int .i64 2)).setCell ⟨W.heap.size, 1, none⟩ (.int .i64 0)).setCell ⟨W.heap.size, 2, none⟩ (.string ⟨#[]⟩)).setCell ⟨W.heap.size, 3, none⟩ (.string ⟨#[]⟩)).setCell ⟨W.heap.size, 4, none⟩ (.slice A7 ln c7)).cell? ⟨W.heap.size, 1, none⟩ = some (.int .i64 0) := cell_of_row _ _ 1 _ _ (0, 0) hrw
                      have q2 : (((((w7.setCell ⟨W.heap.size, 0, none⟩ (.int .i64 2)).setCell ⟨W.heap.size, 1, none⟩ (.int .i64 0)).setCell ⟨W.heap.size, 2, none⟩ (.string ⟨#[]⟩)).setCell ⟨W.heap.size, 3, none⟩ (.string ⟨#[]⟩)).setCell ⟨W.heap.size, 4, none⟩ (.slice A7 ln c7)).cell? ⟨W.heap.size, 2, none⟩ = some (.string ⟨#[]⟩) := cell_of_row _ _ 2 _ _ (0, 0) hrw
                      have q3 : (((((w7.setCell ⟨W.heap.size, 0, none⟩ (.int .i64 2)).setCell ⟨W.heap.size, 1, none⟩ (.int .i64 0)).setCell ⟨W.heap.size, 2, none⟩ (.string ⟨#[]⟩)).setCell ⟨W.heap.size, 3, none⟩ (.string ⟨#[]⟩)).setCell ⟨W.heap.size, 4, none⟩ (.slice A7 ln c7)).cell? ⟨W.heap.size, 3, none⟩ = some (.string ⟨#[]⟩) := cell_of_row _ _ 3 _ _ (0, 0) hrw
                      have q4 : (((((w7.setCell ⟨W.heap.size, 0, none⟩ (.int .i64 2)).setCell ⟨W.heap.size, 1, none⟩ (.int .i64 0)).setCell ⟨W.heap.size, 2, none⟩ (.string ⟨#[]⟩)).setCell ⟨W.heap.size, 3, none⟩ (.string ⟨#[]⟩)).setCell ⟨W.heap.size, 4, none⟩ (.slice A7 ln c7)).cell? ⟨W.heap.size, 4, none⟩ = some (.slice A7 ln c7) := cell_of_row _ _ 4 _ _ (0, 0) hrw
                      refine bodyPost_ret (v := .agg #[.int .i64 2, .int .i64 0, .string ⟨#[]⟩, .string ⟨#[]⟩, .slice A7 ln c7]) (by simp [results, Tryd.results20, go_sem, q0, q1, q2, q3, q4]) rfl ?_
                      obtain ⟨A8, c8, hV8, hT8⟩ := HO7.out.tree 2 0 ⟨#[]⟩ ⟨#[]⟩ (by omega) (by omega) (Nat.zero_le _) (Nat.zero_le _)
                      injection hV8 with e1 e2 e3
                      rw [← e2] at hT8
                      subst e1 e3
                      have hb5 := HB6.out
                      have hb6 := HGG.out
                      rw [HRES.out]
                      exact ⟨_, rcs 2 0 ⟨#[]⟩ ⟨#[]⟩ A7 ln c7, rfl, (hT8.heap fun q hq => HFIN.2.2.1 q (by omega)).imp (fun q hq => ⟨by omega, by rw [HFIN.2.2.2.1]; exact hq.2⟩), by rw [HST.out]; exact HFIN.1, HPK.out.2.2, HFIN.2.1⟩
                    | false =>
                      rw [hb] at HSK
                      have HST := Lib.hid (HPK.out.2.1 hb)
                      clear hb
                      go_wp2_with (first
                        | (have hd := done7; clear done7; go_at_call 22; (with_reducible refine (dfail_any s L P _ _ HLL.out HS.out GS7.out.r).mono ?_); rintro e8 w8 ⟨rfl, hr8, hg8⟩; have GS8 := Lib.hid (GS7.out.call hg8 hr8 hP HGG.out); have HO8 := Lib.hid (HO7.out.kept hg8 hPb); clear hr8 hg8; clear x0 x1 x2 x3 x4 xf0 xf1 xf2 xf3 xf4 y0 y1 y2 y3 y4 yf0 yf1 yf2 yf3 yf4; have HX8 := Lib.hid GS8.out.x; have HZ8 := Lib.hid GS8.out.z; have x0 : w8.cell? ⟨g, 0, none⟩ = some (.int .i64 2) := cell_of_row _ _ 0 _ _ (0, 0) HX8.out; have x1 : w8.cell? ⟨g, 1, none⟩ = some (.int .i64 0) := cell_of_row _ _ 1 _ _ (0, 0) HX8.out; have x2 : w8.cell? ⟨g, 2, none⟩ = some (.string ⟨#[]⟩) := cell_of_row _ _ 2 _ _ (0, 0) HX8.out; have x3 : w8.cell? ⟨g, 3, none⟩ = some (.string ⟨#[]⟩) := cell_of_row _ _ 3 _ _ (0, 0) HX8.out; have x4 : w8.cell? ⟨g, 4, none⟩ = some (.slice A7 ln c7) := cell_of_row _ _ 4 _ _ (0, 0) HX8.out; have xf0 : w8.frozen? ⟨g, 0, none⟩ = false := pfrz HX8.out; have xf1 : w8.frozen? ⟨g, 1, none⟩ = false := pfrz HX8.out; have xf2 : w8.frozen? ⟨g, 2, none⟩ = false := pfrz HX8.out; have xf3 : w8.frozen? ⟨g, 3, none⟩ = false := pfrz HX8.out; have xf4 : w8.frozen? ⟨g, 4, none⟩ = false := pfrz HX8.out; have y0 : w8.cell? ⟨W.heap.size, 0, none⟩ = some (.int .i64 0) := cell_of_row _ _ 0 _ _ (0, 0) HZ8.out; have y1 : w8.cell? ⟨W.heap.size, 1, none⟩ = some (.int .i64 0) := cell_of_row _ _ 1 _ _ (0, 0) HZ8.out; have y2 : w8.cell? ⟨W.heap.size, 2, none⟩ = some (.string ⟨#[]⟩) := cell_of_row _ _ 2 _ _ (0, 0) HZ8.out; have y3 : w8.cell? ⟨W.heap.size, 3, none⟩ = some (.string ⟨#[]⟩) := cell_of_row _ _ 3 _ _ (0, 0) HZ8.out; have y4 : w8.cell? ⟨W.heap.size, 4, none⟩ = some (.slice none 0 0) := cell_of_row _ _ 4 _ _ (0, 0) HZ8.out; have yf0 : w8.frozen? ⟨W.heap.size, 0, none⟩ = false := pfrz HZ8.out; have yf1 : w8.frozen? ⟨W.heap.size, 1, none⟩ = false := pfrz HZ8.out; have yf2 : w8.frozen? ⟨W.heap.size, 2, none⟩ = false := pfrz HZ8.out; have yf3 : w8.frozen? ⟨W.heap.size, 3, none⟩ = false := pfrz HZ8.out; have yf4 : w8.frozen? ⟨W.heap.size, 4, none⟩ = false := pfrz HZ8.out; have done8 := trivial)
                        | (have hd := done6; clear done6; go_at_call 39; (with_reducible refine (Lib.hid (HSK.out _ GS6.out.r)).out.mono ?_); rintro e7 w7 ⟨rfl, hr7, hg7⟩; have GS7 := Lib.hid (GS6.out.call hg7 hr7 hP HGG.out); have HO7 := Lib.hid (HO6.out.kept hg7 hPb); have hbz := Nat.le_trans hbz hg7.size; clear hr7 hg7; clear x0 x1 x2 x3 x4 xf0 xf1 xf2 xf3 xf4 y0 y1 y2 y3 y4 yf0 yf1 yf2 yf3 yf4; have HX7 := Lib.hid GS7.out.x; have HZ7 := Lib.hid GS7.out.z; have x0 : w7.cell? ⟨g, 0, none⟩ = some (.int .i64 2) := cell_of_row _ _ 0 _ _ (0, 0) HX7.out; have x1 : w7.cell? ⟨g, 1, none⟩ = some (.int .i64 0) := cell_of_row _ _ 1 _ _ (0, 0) HX7.out; have x2 : w7.cell? ⟨g, 2, none⟩ = some (.string ⟨#[]⟩) := cell_of_row _ _ 2 _ _ (0, 0) HX7.out; have x3 : w7.cell? ⟨g, 3, none⟩ = some (.string ⟨#[]⟩) := cell_of_row _ _ 3 _ _ (0, 0) HX7.out; have x4 : w7.cell? ⟨g, 4, none⟩ = some (.slice A7 ln c7) := cell_of_row _ _ 4 _ _ (0, 0) HX7.out; have xf0 : w7.frozen? ⟨g, 0, none⟩ = false := pfrz HX7.out; have xf1 : w7.frozen? ⟨g, 1, none⟩ = false := pfrz HX7.out; have xf2 : w7.frozen? ⟨g, 2, none⟩ = false := pfrz HX7.out; have xf3 : w7.frozen? ⟨g, 3, none⟩ = false := pfrz HX7.out; have xf4 : w7.frozen? ⟨g, 4, none⟩ = false := pfrz HX7.out; have y0 : w7.cell? ⟨W.heap.size, 0, none⟩ = some (.int .i64 0) := cell_of_row _ _ 0 _ _ (0, 0) HZ7.out; have y1 : w7.cell? ⟨W.heap.size, 1, none⟩ = some (.int .i64 0) := cell_of_row _ _ 1 _ _ (0, 0) HZ7.out; have y2 : w7.cell? ⟨W.heap.size, 2, none⟩ = some (.string ⟨#[]⟩) := cell_of_row _ _ 2 _ _ (0, 0) HZ7.out; have y3 : w7.cell? ⟨W.heap.size, 3, none⟩ = some (.string ⟨#[]⟩) := cell_of_row _ _ 3 _ _ (0, 0) HZ7.out; have y4 : w7.cell? ⟨W.heap.size, 4, none⟩ = some (.slice none 0 0) := cell_of_row _ _ 4 _ _ (0, 0) HZ7.out; have yf0 : w7.frozen? ⟨W.heap.size, 0, none⟩ = false := pfrz HZ7.out; have yf1 : w7.frozen? ⟨W.heap.size, 1, none⟩ = false := pfrz HZ7.out; have yf2 : w7.frozen? ⟨W.heap.size, 2, none⟩ = false := pfrz HZ7.out; have yf3 : w7.frozen? ⟨W.heap.size, 3, none⟩ = false := pfrz HZ7.out; have yf4 : w7.frozen? ⟨W.heap.size, 4, none⟩ = false := pfrz HZ7.out; have done7 := trivial)
                        | (have hd := done5; clear done5; go_at_call 39; (with_reducible refine HSC.out.mono ?_); rintro e6 w6 ⟨rfl, hr6, hg6⟩; have GS6 := Lib.hid (GS.out.call hg6 hr6 hP HGG.out); have HO6 := Lib.hid (HO.out.kept hg6 hPb); have hbz := Nat.le_trans hbz hg6.size; clear hr6 hg6; clear x0 x1 x2 x3 x4 xf0 xf1 xf2 xf3 xf4 y0 y1 y2 y3 y4 yf0 yf1 yf2 yf3 yf4; have HX6 := Lib.hid GS6.out.x; have HZ6 := Lib.hid GS6.out.z; have x0 : w6.cell? ⟨g, 0, none⟩ = some (.int .i64 2) := cell_of_row _ _ 0 _ _ (0, 0) HX6.out; have x1 : w6.cell? ⟨g, 1, none⟩ = some (.int .i64 0) := cell_of_row _ _ 1 _ _ (0, 0) HX6.out; have x2 : w6.cell? ⟨g, 2, none⟩ = some (.string ⟨#[]⟩) := cell_of_row _ _ 2 _ _ (0, 0) HX6.out; have x3 : w6.cell? ⟨g, 3, none⟩ = some (.string ⟨#[]⟩) := cell_of_row _ _ 3 _ _ (0, 0) HX6.out; have x4 : w6.cell? ⟨g, 4, none⟩ = some (.slice A7 ln c7) := cell_of_row _ _ 4 _ _ (0, 0) HX6.out; have xf0 : w6.frozen? ⟨g, 0, none⟩ = false := pfrz HX6.out; have xf1 : w6.frozen? ⟨g, 1, none⟩ = false := pfrz HX6.out; have xf2 : w6.frozen? ⟨g, 2, none⟩ = false := pfrz HX6.out; have xf3 : w6.frozen? ⟨g, 3, none⟩ = false := pfrz HX6.out; have xf4 : w6.frozen? ⟨g, 4, none⟩ = false := pfrz HX6.out; have y0 : w6.cell? ⟨W.heap.size, 0, none⟩ = some (.int .i64 0) := cell_of_row _ _ 0 _ _ (0, 0) HZ6.out; have y1 : w6.cell? ⟨W.heap.size, 1, none⟩ = some (.int .i64 0) := cell_of_row _ _ 1 _ _ (0, 0) HZ6.out; have y2 : w6.cell? ⟨W.heap.size, 2, none⟩ = some (.string ⟨#[]⟩) := cell_of_row _ _ 2 _ _ (0, 0) HZ6.out; have y3 : w6.cell? ⟨W.heap.size, 3, none⟩ = some (.string ⟨#[]⟩) := cell_of_row _ _ 3 _ _ (0, 0) HZ6.out; have y4 : w6.cell? ⟨W.heap.size, 4, none⟩ = some (.slice none 0 0) := cell_of_row _ _ 4 _ _ (0, 0) HZ6.out; have yf0 : w6.frozen? ⟨W.heap.size, 0, none⟩ = false := pfrz HZ6.out; have yf1 : w6.frozen? ⟨W.heap.size, 1, none⟩ = false := pfrz HZ6.out; have yf2 : w6.frozen? ⟨W.heap.size, 2, none⟩ = false := pfrz HZ6.out; have yf3 : w6.frozen? ⟨W.heap.size, 3, none⟩ = false := pfrz HZ6.out; have yf4 : w6.frozen? ⟨W.heap.size, 4, none⟩ = false := pfrz HZ6.out; have done6 := trivial))
                      have HFIN := dfin5 GS8.out.r GS8.out.gr hP GS8.out.z (.int .i64 2) (.int .i64 0) (.string ⟨#[]⟩) (.string ⟨#[]⟩) (.slice A7 ln c7)
                      have hrw := HFIN.2.2.2.2
                      have q0 : (((((w8.setCell ⟨W.heap.size, 0, none⟩ (.int .i64 2)).setCell ⟨W.heap.size, 1, none⟩ (.int .i64 0)).setCell ⟨W.heap.size, 2, none⟩ (.string ⟨#[]⟩)).setCell ⟨W.heap.size, 3, none⟩ (.string ⟨#[]⟩)).setCell ⟨W.heap.size, 4, none⟩ (.slice A7 ln c7)).cell? ⟨W.heap.size, 0, none⟩ = some (.int .i64 2) := cell_of_row _ _ 0 _ _ (0, 0) hrw
                      have q1 : (((((w8.setCell ⟨W.heap.size, 0, none⟩ (.int .i64 2)).setCell ⟨W.heap.size, 1, none⟩ (.int .i64 0)).setCell ⟨W.heap.size, 2, none⟩ (.string ⟨#[]⟩)).setCell ⟨W.heap.size, 3, none⟩ (.string ⟨#[]⟩)).setCell ⟨W.heap.size, 4, none⟩ (.slice A7 ln c7)).cell? ⟨W.heap.size, 1, none⟩ = some (.int .i64 0) := cell_of_row _ _ 1 _ _ (0, 0) hrw
                      have q2 : (((((w8.setCell ⟨W.heap.size, 0, none⟩ (.int .i64 2)).setCell ⟨W.heap.size, 1, none⟩ (.int .i64 0)).setCell ⟨W.heap.size, 2, none⟩ (.string ⟨#[]⟩)).setCell ⟨W.heap.size, 3, none⟩ (.string ⟨#[]⟩)).setCell ⟨W.heap.size, 4, none⟩ (.slice A7 ln c7)).cell? ⟨W.heap.size, 2, none⟩ = some (.string ⟨#[]⟩) := cell_of_row _ _ 2 _ _ (0, 0) hrw
                      have q3 : (((((w8.setCell ⟨W.heap.size, 0, none⟩ (.int .i64 2)).setCell ⟨W.heap.size, 1, none⟩ (.int .i64 0)).setCell ⟨W.heap.size, 2, none⟩ (.string ⟨#[]⟩)).setCell ⟨W.heap.size, 3, none⟩ (.string ⟨#[]⟩)).setCell ⟨W.heap.size, 4, none⟩ (.slice A7 ln c7)).cell? ⟨W.heap.size, 3, none⟩ = some (.string ⟨#[]⟩) := cell_of_row _ _ 3 _ _ (0, 0) hrw
                      have q4 : (((((w8.setCell ⟨W.heap.size, 0, none⟩ (.int .i64 2)).setCell ⟨W.heap.size, 1, none⟩ (.int .i64 0)).setCell ⟨W.heap.size, 2, none⟩ (.string ⟨#[]⟩)).setCell ⟨W.heap.size, 3, none⟩ (.string ⟨#[]⟩)).setCell ⟨W.heap.size, 4, none⟩ (.slice A7 ln c7)).cell? ⟨W.heap.size, 4, none⟩ = some (.slice A7 ln c7) := cell_of_row _ _ 4 _ _ (0, 0) hrw
                      refine bodyPost_ret (v := .agg #[.int .i64 2, .int .i64 0, .string ⟨#[]⟩, .string ⟨#[]⟩, .slice A7 ln c7]) (by simp [results, Tryd.results20, go_sem, q0, q1, q2, q3, q4]) rfl ?_
                      obtain ⟨A8, c8, hV8, hT8⟩ := HO8.out.tree 2 0 ⟨#[]⟩ ⟨#[]⟩ (by omega) (by omega) (Nat.zero_le _) (Nat.zero_le _)
                      injection hV8 with e1 e2 e3
                      rw [← e2] at hT8
                      subst e1 e3
                      have hb5 := HB6.out
                      have hb6 := HGG.out
                      rw [HRES.out]
                      exact ⟨_, rcs 2 0 ⟨#[]⟩ ⟨#[]⟩ A7 ln c7, rfl, (hT8.heap fun q hq => HFIN.2.2.1 q (by omega)).imp (fun q hq => ⟨by omega, by rw [HFIN.2.2.2.1]; exact hq.2⟩), by rw [HST.out]; exact HFIN.1, HPK.out.2.2, HFIN.2.1⟩

          · have hv : vx = 3 := hv
            have k1 : ((vx : Int) == 1) = false := by rw [beq_eq_false_iff_ne]; omega
            have m1 : (vx == 1) = false := by rw [beq_eq_false_iff_ne]; omega
            have k2 : ((vx : Int) == 2) = false := by rw [beq_eq_false_iff_ne]; omega
            have m2 : (vx == 2) = false := by rw [beq_eq_false_iff_ne]; omega
            have k3 : ((vx : Int) == 3) = true := by rw [beq_iff_eq]; omega
            have m3 : (vx == 3) = true := by rw [beq_iff_eq]; omega
            have n3 : ((vx : Int) != 3) = false := by simp [hv]

            have HV3 := Lib.hid hv
            clear hv
            go_wp2_with (have hd := done2; clear done2; go_at_call 39; (with_reducible refine HSG.out.mono ?_); rintro e6 w3 ⟨rfl, hr3, hg3⟩; have GS3 := Lib.hid (GS2.out.call hg3 hr3 hP HGG.out); clear hr3 hg3; have HX3 := Lib.hid GS3.out.x; have HZ3 := Lib.hid GS3.out.z; clear y0 y1 y2 y3 y4 yf0 yf1 yf2 yf3 yf4 x0 x1 x2 x3 x4 xf0 xf1 xf2 xf3 xf4; have x0 : w3.cell? ⟨g, 0, none⟩ = some (.int .i64 (vx : Int)) := cell_of_row _ _ 0 _ _ (0, 0) HX3.out; have x1 : w3.cell? ⟨g, 1, none⟩ = some (.int .i64 0) := cell_of_row _ _ 1 _ _ (0, 0) HX3.out; have x2 : w3.cell? ⟨g, 2, none⟩ = some (.string ⟨#[]⟩) := cell_of_row _ _ 2 _ _ (0, 0) HX3.out; have x3 : w3.cell? ⟨g, 3, none⟩ = some (.string ⟨#[]⟩) := cell_of_row _ _ 3 _ _ (0, 0) HX3.out; have x4 : w3.cell? ⟨g, 4, none⟩ = some (.slice none 0 0) := cell_of_row _ _ 4 _ _ (0, 0) HX3.out; have xf0 : w3.frozen? ⟨g, 0, none⟩ = false := pfrz HX3.out; have xf1 : w3.frozen? ⟨g, 1, none⟩ = false := pfrz HX3.out; have xf2 : w3.frozen? ⟨g, 2, none⟩ = false := pfrz HX3.out; have xf3 : w3.frozen? ⟨g, 3, none⟩ = false := pfrz HX3.out; have xf4 : w3.frozen? ⟨g, 4, none⟩ = false := pfrz HX3.out; have y0 : w3.cell? ⟨W.heap.size, 0, none⟩ = some (.int .i64 0) := cell_of_row _ _ 0 _ _ (0, 0) HZ3.out; have y1 : w3.cell? ⟨W.heap.size, 1, none⟩ = some (.int .i64 0) := cell_of_row _ _ 1 _ _ (0, 0) HZ3.out; have y2 : w3.cell? ⟨W.heap.size, 2, none⟩ = some (.string ⟨#[]⟩) := cell_of_row _ _ 2 _ _ (0, 0) HZ3.out; have y3 : w3.cell? ⟨W.heap.size, 3, none⟩ = some (.string ⟨#[]⟩) := cell_of_row _ _ 3 _ _ (0, 0) HZ3.out; have y4 : w3.cell? ⟨W.heap.size, 4, none⟩ = some (.slice none 0 0) := cell_of_row _ _ 4 _ _ (0, 0) HZ3.out; have yf0 : w3.frozen? ⟨W.heap.size, 0, none⟩ = false := pfrz HZ3.out; have yf1 : w3.frozen? ⟨W.heap.size, 1, none⟩ = false := pfrz HZ3.out; have yf2 : w3.frozen? ⟨W.heap.size, 2, none⟩ = false := pfrz HZ3.out; have yf3 : w3.frozen? ⟨W.heap.size, 3, none⟩ = false := pfrz HZ3.out; have yf4 : w3.frozen? ⟨W.heap.size, 4, none⟩ = false := pfrz HZ3.out; have done3 := trivial)
            have HOW27 : Hid (∀ d : World, Below w3.heap.size w3 d → d = w3.drew → OwnKids d d.heap.size (.slice none 0 0) []) := Lib.hid (fun d _ _ => OwnKids.nil _ _)
            have HLK : Hid (([] : List Kr).length ≤ 1000000) := Lib.hid (Nat.zero_le _)
            obtain ⟨w3d, hww3d⟩ : ∃ w, w = w3.drew := ⟨_, rfl⟩
            have hbd : Below w3.heap.size w3 w3d := by rw [hww3d]; exact ⟨rfl, rfl, rfl, Nat.le_refl _, fun _ _ => rfl⟩
            have hzd : g < w3d.heap.size := Nat.lt_of_lt_of_le (in_heap GS3.out.x) hbd.size
            have hbs : w3d.heap.size ≤ w3d.heap.size := Nat.le_refl _
            have hgg := HGG.out
            refine PG.wp_region_persG (R := Out P g w3d.heap.size) (G := DG P g w3d.heap.size s L (.slice none 0 0) [] (.at_ (Wm.tok (Wm.tok l).rest).rest) (vx : Int)) (by kernel_rfl) (PG.formed_of (by kernel_rfl)) (out_goes P g w3d.heap.size) ?_ (DF P g w3d.heap.size s L (.slice none 0 0) [] (Wm.pol f (Wm.tok (Wm.tok l).rest).rest) (vx : Int)) ?_ ?_
            · rw [← hww3d]
              intro k
              unfold DG
              split
              · exact DSt.below GS3.out.r hbd GS3.out.r.lt
              · exact HOW27.out w3d hbd hww3d
              · exact (hbd.block _ (in_heap GS3.out.x)).trans GS3.out.x
              · trivial
            · rw [← hww3d]
              intro i o ho
              rcases i with _ | _ | _ | _ | _ | _ | _ | _ | i
              · obtain rfl := Option.some.inj (show some _ = some o from ho)
                refine PG.shown_val rfl fun a w4 hr T => ?_
                have h5 : a.eval (.tmp 8) = .pointer (some ⟨g, 0, none⟩) := T.was 8 (by kernel_rfl)
                exact ⟨.pointer (some ⟨g, 4, none⟩), w4, by simp only [execOp, h5]; simp [go_sem], PG.Post.pure (out_goes P g w3d.heap.size) rfl⟩
              · obtain rfl := Option.some.inj (show some _ = some o from ho)
                refine PG.shown_val rfl fun a w4 hr T => ?_
                have h48 : a.eval (.tmp 94) = .pointer (some ⟨g, 4, none⟩) := T.at_ 0 94 (by kernel_rfl) (by kernel_rfl)
                have hO : w4.heap[g]? = some (.cells #[.int .i64 (vx : Int), .int .i64 0, .string ⟨#[]⟩, .string ⟨#[]⟩, .slice none 0 0] 24) := T.yet 7 (by kernel_rfl)
                have c4 : w4.cell? ⟨g, 4, none⟩ = some (.slice none 0 0) := cell_of_row _ _ 4 _ _ (0, 0) hO
                exact ⟨.slice none 0 0, w4, by simp only [execOp, h48]; simp [go_sem, c4], PG.Post.pure (out_goes P g w3d.heap.size) rfl⟩
              · obtain rfl := Option.some.inj (show some _ = some o from ho)
                refine PG.shown_val rfl fun a w4 hr T => ?_
                have h0 : a.eval (.tmp 0) = .pointer (some ⟨P, 0, none⟩) := T.was 0 (by kernel_rfl)
                exact ⟨.pointer (some ⟨P, 0, none⟩), w4, by simp only [execOp, h0]; simp [go_sem], PG.Post.pure (out_goes P g w3d.heap.size) rfl⟩
              · obtain rfl := Option.some.inj (show some _ = some o from ho)
                refine PG.shown_call rfl 20 fun a w4 hr T => ?_
                have h50 : a.eval (.tmp 96) = .pointer (some ⟨P, 0, none⟩) := T.at_ 2 96 (by kernel_rfl) (by kernel_rfl)
                have hR5 : DSt w4 P s L (.at_ (Wm.tok (Wm.tok l).rest).rest) := T.own
                have hO7 : OwnKids w4 w3d.heap.size (.slice none 0 0) [] := T.yet 5 (by kernel_rfl)
                have hz4 : w3d.heap.size ≤ w4.heap.size := Nat.le_trans hbs hr.size
                refine ⟨#[.pointer (some ⟨P, 0, none⟩)], by simp only [execOp, resolve, List.map_toArray, List.map_cons, List.map_nil, h50]; simp [go_sem, Act.eval], ?_⟩
                refine (HIH.out (Wm.tok (Wm.tok l).rest).rest w4 HLST.out hR5).mono fun e w5 hh => ?_
                obtain ⟨t, cs, rfl, hp5, hr5, ht5, hg5⟩ := hh
                obtain ⟨k9, n9, y9, v9, A9, m9, c9, rfl⟩ := hp5.inv
                refine ⟨_, rfl, out_grown hg5 (by omega), ⟨⟨t, k9, n9, y9, v9, A9, m9, c9⟩, rfl, ht5, hp5.imp (fun q hq => ⟨by omega, hq.2, fun e => by have := own_block_lt hO7.own q e; omega⟩), hr5⟩, fun k hk hG => ?_, fun j v hj hw hF => ?_⟩
                · unfold DG at *
                  split
                  · exact absurd rfl hk
                  · exact OwnKids.kept hG hg5 (by omega)
                  · exact (hg5.block _ (in_heap hG) (by intro e; injection e with e; omega)).trans hG
                  · trivial
                · match j, hj, hw, hF with
                  | 0, _, _, hF => exact hF
                  | 1, _, _, hF => exact hF
                  | 2, _, _, hF => exact hF
                  | 3, hj, _, _ => exact absurd rfl hj
                  | 4, _, hw, _ => exact (PG.waits_no (by kernel_rfl) hw).elim
                  | 5, _, _, hF => obtain ⟨x, h1, h2⟩ := hF; exact ⟨x, h1, h2.kept hg5 (by omega)⟩
                  | 6, _, _, hF => exact hF
                  | 7, _, _, hF => obtain ⟨x, v, h1, h2, h3⟩ := hF; exact ⟨x, v, h1, h2.kept hg5 (by omega), (hg5.block _ (in_heap h3) (by intro e; injection e with e; omega)).trans h3⟩
                  | _ + 8, _, _, _ => trivial
              · obtain rfl := Option.some.inj (show some _ = some o from ho)
                refine PG.shown_val rfl fun a w4 hr T => ?_
                obtain ⟨x, h53, hx1, hx2, hx3⟩ := T.at_ 3 97 (by kernel_rfl) (by kernel_rfl)
                have hO7 : OwnKids w4 w3d.heap.size (.slice none 0 0) [] := T.yet 5 (by kernel_rfl)
                have hz4 : w3d.heap.size ≤ w4.heap.size := Nat.le_trans hbs hr.size
                have hb4 : Below w4.heap.size w4 (w4.alloc (.cells x.cells.toArray 24)) := (Below.refl _ _).alloc (Nat.le_refl _) _
                refine ⟨.slice (some ⟨w4.heap.size, 0, none⟩) 1 1, w4.alloc (.cells x.cells.toArray 24), by simp only [execOp, List.map_toArray, List.map_cons, List.map_nil, h53]; simp [go_sem, Kr.cells, rcs], out_below hb4 (by omega), ⟨x, w4.heap.size, rfl, hx1, hx2.below hb4, by simpa using Rd.lit w4 x.cells.toArray 24, by omega, by simp, fun e => by have := own_block_lt hO7.own _ e; omega⟩, fun k hk hG => hG.below hb4, fun j v hj hw hF => hF.below hb4⟩
              · obtain rfl := Option.some.inj (show some _ = some o from ho)
                refine PG.shown_val rfl fun a w4 hr T => ?_
                have h49 : a.eval (.tmp 95) = .slice none 0 0 := T.at_ 1 95 (by kernel_rfl) (by kernel_rfl)
                obtain ⟨x, q, h54, hx1, hx2, hx3, hx4, hx5, hx6⟩ := T.at_ 4 98 (by kernel_rfl) (by kernel_rfl)
                have hO7 : OwnKids w4 w3d.heap.size (.slice none 0 0) [] := T.own
                have hz4 : w3d.heap.size ≤ w4.heap.size := Nat.le_trans hbs hr.size
                obtain ⟨v', w', r1', r2', r3'⟩ := appKid (ty := 22) hO7 hx2 hx3 HLK.out (by omega)
                have hne : ∀ k, k < w3d.heap.size → ((.slice none 0 0) : Value).ownBlock ≠ some k := fun k hk e => by have := own_block_ge hO7.own k e; omega
                refine ⟨v', w', by simp only [execOp, resolve, invoke, builtin, Sem.run_bind, Sem.run_pure, Result.andThen_ok, List.map_toArray, List.map_cons, List.map_nil, h49, h54, r1'], ⟨r3'.grown.os, r3'.grown.tape, r3'.grown.output, r3'.grown.size, fun k h1 h2 h3 => r3'.grown.block k (by omega) (Ne.symm (hne k h1))⟩, ⟨x, hx1, r2'⟩, fun k hk hG => ?_, fun j v hj hw hF => ?_⟩
                · unfold DG at *
                  split
                  · exact DSt.grew hG hO7 r3' (by omega)
                  · exact absurd rfl hk
                  · exact (r3'.grown.block _ (in_heap hG) (Ne.symm (hne _ (by omega)))).trans hG
                  · trivial
                · match j, hj, hw, hF with
                  | 0, _, _, hF => exact hF
                  | 1, _, _, hF => exact hF
                  | 2, _, _, hF => exact hF
                  | 3, _, _, hF => obtain ⟨y, h1, h2, h3, h4⟩ := hF; exact ⟨y, h1, h2, h3.app r3', h4.grew hO7 r3' (by omega)⟩
                  | 4, _, _, hF => obtain ⟨y, p, h1, h2, h3, h4, h5, h6, h7⟩ := hF; exact ⟨y, p, h1, h2, h3.app r3', h4.block9 (r3'.grown.block p h6 (Ne.symm h7)), h5, Nat.lt_of_lt_of_le h6 r3'.grown.size, h7⟩
                  | 5, hj, _, _ => exact absurd rfl hj
                  | 6, _, _, hF => exact hF
                  | 7, _, hw, _ => exact (PG.waits_no (by kernel_rfl) hw).elim
                  | _ + 8, _, _, _ => trivial
              · obtain rfl := Option.some.inj (show some _ = some o from ho)
                refine PG.shown_val rfl fun a w4 hr T => ?_
                have h5 : a.eval (.tmp 8) = .pointer (some ⟨g, 0, none⟩) := T.was 8 (by kernel_rfl)
                exact ⟨.pointer (some ⟨g, 4, none⟩), w4, by simp only [execOp, h5]; simp [go_sem], PG.Post.pure (out_goes P g w3d.heap.size) rfl⟩
              · obtain rfl := Option.some.inj (show some _ = some o from ho)
                refine PG.shown_skip rfl fun a w4 hr T => ?_
                have h56 : a.eval (.tmp 100) = .pointer (some ⟨g, 4, none⟩) := T.at_ 6 100 (by kernel_rfl) (by kernel_rfl)
                obtain ⟨x, hx1, hx2⟩ := T.at_ 5 99 (by kernel_rfl) (by kernel_rfl)
                have hO : w4.heap[g]? = some (.cells #[.int .i64 (vx : Int), .int .i64 0, .string ⟨#[]⟩, .string ⟨#[]⟩, .slice none 0 0] 24) := T.own
                have hz4 : w3d.heap.size ≤ w4.heap.size := Nat.le_trans hbs hr.size
                obtain ⟨Ar, cr, hv7, _, _⟩ := own_rd hx2.own
                rw [hv7] at hx2
                have c4 : w4.cell? ⟨g, 4, none⟩ = some (.slice none 0 0) := cell_of_row _ _ 4 _ _ (0, 0) hO
                have f4 : w4.frozen? ⟨g, 4, none⟩ = false := pfrz hO
                have hst : Out P g w3d.heap.size w4 (w4.setCell ⟨g, 4, none⟩ (.slice Ar ([] ++ [x]).length cr)) := ⟨rfl, rfl, rfl, by simp, fun k h1 h2 h3 => Below.heap_setCell w4 _ _ k (by simpa using h3)⟩
                refine ⟨w4.setCell ⟨g, 4, none⟩ (.slice Ar ([] ++ [x]).length cr), by simp only [execOp, h56, hv7]; simp [go_sem, c4, f4], hst, ⟨x, .slice Ar ([] ++ [x]).length cr, hx1, hx2.set (by omega), heap_setCell_same _ _ 4 _ _ _ hO⟩, fun k hk hG => ?_, fun j v hj hw hF => ?_⟩
                · unfold DG at *
                  split
                  · exact dst_wide hG (by omega) _
                  · exact OwnKids.set hG (by omega)
                  · exact absurd rfl hk
                  · trivial
                · match j, hj, hw, hF with
                  | 0, _, _, hF => exact hF
                  | 1, _, _, hF => exact hF
                  | 2, _, _, hF => exact hF
                  | 3, _, _, hF => obtain ⟨y, h1, h2, h3, h4⟩ := hF; exact ⟨y, h1, h2, h3.set (by omega), dst_wide h4 (by omega) _⟩
                  | 4, _, _, hF => obtain ⟨y, p, h1, h2, h3, h4, h5, h6, h7⟩ := hF; exact ⟨y, p, h1, h2, h3.set (by omega), h4.block9 (Below.heap_setCell w4 _ _ p (by simp; omega)), h5, by simpa using h6, h7⟩
                  | 5, _, _, hF => obtain ⟨y, h1, h2⟩ := hF; exact ⟨y, h1, h2.set (by omega)⟩
                  | 6, _, _, hF => exact hF
                  | 7, hj, _, _ => exact absurd rfl hj
                  | _ + 8, _, _, _ => trivial
              · cases ho
            · rw [← hww3d]
              intro x w5 hr hf he
              obtain ⟨x5, hx5, hx5t, hx5k, hx5r⟩ := hf 3 _ 97 rfl rfl
              obtain ⟨_, y, V', hyt, hyo, hyx⟩ := he 7 _ rfl rfl
              have hz5 := hr.size
              have GS5 : Hid (RoSt W w5 P g s L (Wm.pol f (Wm.tok (Wm.tok l).rest).rest).st #[.int .i64 (vx : Int), .int .i64 0, .string ⟨#[]⟩, .string ⟨#[]⟩, V']) := Lib.hid ⟨(hr.block _ (by omega) (by omega) (by omega)).trans ((hbd.block _ (in_heap GS3.out.z)).trans GS3.out.z), hyx, hx5r, ⟨hr.os.trans (hbd.os.trans GS3.out.gr.os), hr.tape.trans (hbd.tape.trans GS3.out.gr.tape), hr.output.trans (hbd.output.trans GS3.out.gr.output), Nat.le_trans GS3.out.gr.size (Nat.le_trans hbd.size hr.size), fun k hk hne => (hr.block k (by omega) (fun e => hne (by rw [e])) (by omega)).trans ((hbd.block k (by have := GS3.out.gr.size; omega)).trans (GS3.out.gr.block k hk hne))⟩⟩
              have HO5 := Lib.hid hyo
              have HYT := Lib.hid hyt
              have HB5 := Lib.hid hzd
              clear hf he hr hx5 hx5t hx5k hx5r hyo hyx hyt
              simp only [PG.putAll, Act.put, List.setIfInBounds_toArray, List.set_cons_zero, List.set_cons_succ]
              have HRES : Hid (Wm.pol (f + 1) l = Wm.polK (Wm.pol f) 3 f (Wm.tok l).rest) := Lib.hid (by rw [HPOL.out, HV3.out])
              obtain ⟨A7, c7, hV7, hT7⟩ := HO5.out.tree 3 0 ⟨#[]⟩ ⟨#[]⟩ (by omega) (by omega) (Nat.zero_le _) (Nat.zero_le _)
              clear hT7
              replace hV7 : V' = .slice A7 1 c7 := hV7
              subst hV7
              have HPK := Lib.hid (dpolK3_out (f := f) (p := Wm.pol f) (l := (Wm.tok l).rest) H40.out y.t HYT.out)
              rw [show (vx : Int) = 3 from by have := HV3.out; omega] at GS5
              have HX5 := Lib.hid GS5.out.x
              have HZ5 := Lib.hid GS5.out.z
              have x0 : w5.cell? ⟨g, 0, none⟩ = some (.int .i64 3) := cell_of_row _ _ 0 _ _ (0, 0) HX5.out
              have x1 : w5.cell? ⟨g, 1, none⟩ = some (.int .i64 0) := cell_of_row _ _ 1 _ _ (0, 0) HX5.out
              have x2 : w5.cell? ⟨g, 2, none⟩ = some (.string ⟨#[]⟩) := cell_of_row _ _ 2 _ _ (0, 0) HX5.out
              have x3 : w5.cell? ⟨g, 3, none⟩ = some (.string ⟨#[]⟩) := cell_of_row _ _ 3 _ _ (0, 0) HX5.out
              have x4 : w5.cell? ⟨g, 4, none⟩ = some (.slice A7 1 c7) := cell_of_row _ _ 4 _ _ (0, 0) HX5.out
              have xf0 : w5.frozen? ⟨g, 0, none⟩ = false := pfrz HX5.out
              have xf1 : w5.frozen? ⟨g, 1, none⟩ = false := pfrz HX5.out
              have xf2 : w5.frozen? ⟨g, 2, none⟩ = false := pfrz HX5.out
              have xf3 : w5.frozen? ⟨g, 3, none⟩ = false := pfrz HX5.out
              have xf4 : w5.frozen? ⟨g, 4, none⟩ = false := pfrz HX5.out
              have y0 : w5.cell? ⟨W.heap.size, 0, none⟩ = some (.int .i64 0) := cell_of_row _ _ 0 _ _ (0, 0) HZ5.out
              have y1 : w5.cell? ⟨W.heap.size, 1, none⟩ = some (.int .i64 0) := cell_of_row _ _ 1 _ _ (0, 0) HZ5.out
              have y2 : w5.cell? ⟨W.heap.size, 2, none⟩ = some (.string ⟨#[]⟩) := cell_of_row _ _ 2 _ _ (0, 0) HZ5.out
              have y3 : w5.cell? ⟨W.heap.size, 3, none⟩ = some (.string ⟨#[]⟩) := cell_of_row _ _ 3 _ _ (0, 0) HZ5.out
              have y4 : w5.cell? ⟨W.heap.size, 4, none⟩ = some (.slice none 0 0) := cell_of_row _ _ 4 _ _ (0, 0) HZ5.out
              have yf0 : w5.frozen? ⟨W.heap.size, 0, none⟩ = false := pfrz HZ5.out
              have yf1 : w5.frozen? ⟨W.heap.size, 1, none⟩ = false := pfrz HZ5.out
              have yf2 : w5.frozen? ⟨W.heap.size, 2, none⟩ = false := pfrz HZ5.out
              have yf3 : w5.frozen? ⟨W.heap.size, 3, none⟩ = false := pfrz HZ5.out
              have yf4 : w5.frozen? ⟨W.heap.size, 4, none⟩ = false := pfrz HZ5.out
              have HSK := Lib.hid (dsign_any s L P 41 ⟨#[41]⟩ rfl _ _ HLL.out HS.out GS5.out.r)
              have hP3 : P < w3d.heap.size := by omega
              clear k1 k2 k3 m1 m2 m3 n3
              go_wp2_with fail
              go_loopw [101] (fun _ wr => wr = w5) (fun _ _ => 0)
              case atStart => rfl
              case round =>
                subst hrel
                have done5 := trivial
                cases hb : Wm.signB 41 (Wm.pol f (Wm.tok (Wm.tok l).rest).rest).st with
                | true =>
                  rw [hb] at HSK
                  have HST := Lib.hid (HPK.out.1 hb)
                  clear hb
                  go_wp2_with (have hd := done5; clear done5; go_at_call 39; (with_reducible refine HSK.out.mono ?_); rintro e6 w6 ⟨rfl, hr6, hg6⟩; have GS6 := Lib.hid (GS5.out.call hg6 hr6 hP HGG.out); have HO6 := Lib.hid (HO5.out.kept hg6 hP3); clear hr6 hg6; clear x0 x1 x2 x3 x4 xf0 xf1 xf2 xf3 xf4 y0 y1 y2 y3 y4 yf0 yf1 yf2 yf3 yf4; have HX6 := Lib.hid GS6.out.x; have HZ6 := Lib.hid GS6.out.z; have x0 : w6.cell? ⟨g, 0, none⟩ = some (.int .i64 3) := cell_of_row _ _ 0 _ _ (0, 0) HX6.out; have x1 : w6.cell? ⟨g, 1, none⟩ = some (.int .i64 0) := cell_of_row _ _ 1 _ _ (0, 0) HX6.out; have x2 : w6.cell? ⟨g, 2, none⟩ = some (.string ⟨#[]⟩) := cell_of_row _ _ 2 _ _ (0, 0) HX6.out; have x3 : w6.cell? ⟨g, 3, none⟩ = some (.string ⟨#[]⟩) := cell_of_row _ _ 3 _ _ (0, 0) HX6.out; have x4 : w6.cell? ⟨g, 4, none⟩ = some (.slice A7 1 c7) := cell_of_row _ _ 4 _ _ (0, 0) HX6.out; have xf0 : w6.frozen? ⟨g, 0, none⟩ = false := pfrz HX6.out; have xf1 : w6.frozen? ⟨g, 1, none⟩ = false := pfrz HX6.out; have xf2 : w6.frozen? ⟨g, 2, none⟩ = false := pfrz HX6.out; have xf3 : w6.frozen? ⟨g, 3, none⟩ = false := pfrz HX6.out; have xf4 : w6.frozen? ⟨g, 4, none⟩ = false := pfrz HX6.out; have y0 : w6.cell? ⟨W.heap.size, 0, none⟩ = some (.int .i64 0) := cell_of_row _ _ 0 _ _ (0, 0) HZ6.out; have y1 : w6.cell? ⟨W.heap.size, 1, none⟩ = some (.int .i64 0) := cell_of_row _ _ 1 _ _ (0, 0) HZ6.out; have y2 : w6.cell? ⟨W.heap.size, 2, none⟩ = some (.string ⟨#[]⟩) := cell_of_row _ _ 2 _ _ (0, 0) HZ6.out; have y3 : w6.cell? ⟨W.heap.size, 3, none⟩ = some (.string ⟨#[]⟩) := cell_of_row _ _ 3 _ _ (0, 0) HZ6.out; have y4 : w6.cell? ⟨W.heap.size, 4, none⟩ = some (.slice none 0 0) := cell_of_row _ _ 4 _ _ (0, 0) HZ6.out; have yf0 : w6.frozen? ⟨W.heap.size, 0, none⟩ = false := pfrz HZ6.out; have yf1 : w6.frozen? ⟨W.heap.size, 1, none⟩ = false := pfrz HZ6.out; have yf2 : w6.frozen? ⟨W.heap.size, 2, none⟩ = false := pfrz HZ6.out; have yf3 : w6.frozen? ⟨W.heap.size, 3, none⟩ = false := pfrz HZ6.out; have yf4 : w6.frozen? ⟨W.heap.size, 4, none⟩ = false := pfrz HZ6.out; have done6 := trivial)
                  have HFIN := dfin5 GS6.out.r GS6.out.gr hP GS6.out.z (.int .i64 3) (.int .i64 0) (.string ⟨#[]⟩) (.string ⟨#[]⟩) (.slice A7 1 c7)
                  have hrw := HFIN.2.2.2.2
                  have q0 : (((((w6.setCell ⟨W.heap.size, 0, none⟩ (.int .i64 3)).setCell ⟨W.heap.size, 1, none⟩ (.int .i64 0)).setCell ⟨W.heap.size, 2, none⟩ (.string ⟨#[]⟩)).setCell ⟨W.heap.size, 3, none⟩ (.string ⟨#[]⟩)).setCell ⟨W.heap.size, 4, none⟩ (.slice A7 1 c7)).cell? ⟨W.heap.size, 0, none⟩ = some (.int .i64 3) := cell_of_row _ _ 0 _ _ (0, 0) hrw
                  have q1 : (((((w6.setCell ⟨W.heap.size, 0, none⟩ (.int .i64 3)).setCell ⟨W.heap.size, 1, none⟩ (.int .i64 0)).setCell ⟨W.heap.size, 2, none⟩ (.string ⟨#[]⟩)).setCell ⟨W.heap.size, 3, none⟩ (.string ⟨#[]⟩)).setCell ⟨W.heap.size, 4, none⟩ (.slice A7 1 c7)).cell? ⟨W.heap.size, 1, none⟩ = some (.int .i64 0) := cell_of_row _ _ 1 _ _ (0, 0) hrw
                  have q2 : (((((w6.setCell ⟨W.heap.size, 0, none⟩ (.int .i64 3)).setCell ⟨W.heap.size, 1, none⟩ (.int .i64 0)).setCell ⟨W.heap.size, 2, none⟩ (.string ⟨#[]⟩)).setCell ⟨W.heap.size, 3, none⟩ (.string ⟨#[]⟩)).setCell ⟨W.heap.size, 4, none⟩ (.slice A7 1 c7)).cell? ⟨W.heap.size, 2, none⟩ = some (.string ⟨#[]⟩) := cell_of_row _ _ 2 _ _ (0, 0) hrw
                  have q3 : (((((w6.setCell ⟨W.heap.size, 0, none⟩ (.int .i64 3)).setCell ⟨W.heap.size, 1, none⟩ (.int .i64 0)).setCell ⟨W.heap.size, 2, none⟩ (.string ⟨#[]⟩)).setCell ⟨W.heap.size, 3, none⟩ (.string ⟨#[]⟩)).setCell ⟨W.heap.size, 4, none⟩ (.slice A7 1 c7)).cell? ⟨W.heap.size, 3, none⟩ = some (.string ⟨#[]⟩) := cell_of_row _ _ 3 _ _ (0, 0) hrw
                  have q4 : (((((w6.setCell ⟨W.heap.size, 0, none⟩ (.int .i64 3)).setCell ⟨W.heap.size, 1, none⟩ (.int .i64 0)).setCell ⟨W.heap.size, 2, none⟩ (.string ⟨#[]⟩)).setCell ⟨W.heap.size, 3, none⟩ (.string ⟨#[]⟩)).setCell ⟨W.heap.size, 4, none⟩ (.slice A7 1 c7)).cell? ⟨W.heap.size, 4, none⟩ = some (.slice A7 1 c7) := cell_of_row _ _ 4 _ _ (0, 0) hrw
                  refine bodyPost_ret (v := .agg #[.int .i64 3, .int .i64 0, .string ⟨#[]⟩, .string ⟨#[]⟩, .slice A7 1 c7]) (by simp [results, Tryd.results20, go_sem, q0, q1, q2, q3, q4]) rfl ?_
                  obtain ⟨A8, c8, hV8, hT8⟩ := HO6.out.tree 3 0 ⟨#[]⟩ ⟨#[]⟩ (by omega) (by omega) (Nat.zero_le _) (Nat.zero_le _)
                  injection hV8 with e1 e2 e3
                  subst e1 e3
                  have hb5 := HB5.out
                  have hb6 := HGG.out
                  rw [HRES.out]
                  exact ⟨_, rcs 3 0 ⟨#[]⟩ ⟨#[]⟩ A7 1 c7, rfl, (hT8.heap fun q hq => HFIN.2.2.1 q (by omega)).imp (fun q hq => ⟨by omega, by rw [HFIN.2.2.2.1]; exact hq.2⟩), by rw [HST.out]; exact HFIN.1, HPK.out.2.2, HFIN.2.1⟩
                | false =>
                  rw [hb] at HSK
                  have HST := Lib.hid (HPK.out.2.1 hb)
                  clear hb
                  go_wp2_with (first
                    | (have hd := done6; clear done6; go_at_call 22; (with_reducible refine (dfail_any s L P _ _ HLL.out HS.out GS6.out.r).mono ?_); rintro e7 w7 ⟨rfl, hr7, hg7⟩; have GS7 := Lib.hid (GS6.out.call hg7 hr7 hP HGG.out); have HO7 := Lib.hid (HO6.out.kept hg7 hP3); clear hr7 hg7; clear x0 x1 x2 x3 x4 xf0 xf1 xf2 xf3 xf4 y0 y1 y2 y3 y4 yf0 yf1 yf2 yf3 yf4; have HX7 := Lib.hid GS7.out.x; have HZ7 := Lib.hid GS7.out.z; have x0 : w7.cell? ⟨g, 0, none⟩ = some (.int .i64 3) := cell_of_row _ _ 0 _ _ (0, 0) HX7.out; have x1 : w7.cell? ⟨g, 1, none⟩ = some (.int .i64 0) := cell_of_row _ _ 1 _ _ (0, 0) HX7.out; have x2 : w7.cell? ⟨g, 2, none⟩ = some (.string ⟨#[]⟩) := cell_of_row _ _ 2 _ _ (0, 0) HX7.out; have x3 : w7.cell? ⟨g, 3, none⟩ = some (.string ⟨#[]⟩) := cell_of_row _ _ 3 _ _ (0, 0) HX7.out; have x4 : w7.cell? ⟨g, 4, none⟩ = some (.slice A7 1 c7) := cell_of_row _ _ 4 _ _ (0, 0) HX7.out; have xf0 : w7.frozen? ⟨g, 0, none⟩ = false := pfrz HX7.out; have xf1 : w7.frozen? ⟨g, 1, none⟩ = false := pfrz HX7.out; have xf2 : w7.frozen? ⟨g, 2, none⟩ = false := pfrz HX7.out; have xf3 : w7.frozen? ⟨g, 3, none⟩ = false := pfrz HX7.out; have xf4 : w7.frozen? ⟨g, 4, none⟩ = false := pfrz HX7.out; have y0 : w7.cell? ⟨W.heap.size, 0, none⟩ = some (.int .i64 0) := cell_of_row _ _ 0 _ _ (0, 0) HZ7.out; have y1 : w7.cell? ⟨W.heap.size, 1, none⟩ = some (.int .i64 0) := cell_of_row _ _ 1 _ _ (0, 0) HZ7.out; have y2 : w7.cell? ⟨W.heap.size, 2, none⟩ = some (.string ⟨#[]⟩) := cell_of_row _ _ 2 _ _ (0, 0) HZ7.out; have y3 : w7.cell? ⟨W.heap.size, 3, none⟩ = some (.string ⟨#[]⟩) := cell_of_row _ _ 3 _ _ (0, 0) HZ7.out; have y4 : w7.cell? ⟨W.heap.size, 4, none⟩ = some (.slice none 0 0) := cell_of_row _ _ 4 _ _ (0, 0) HZ7.out; have yf0 : w7.frozen? ⟨W.heap.size, 0, none⟩ = false := pfrz HZ7.out; have yf1 : w7.frozen? ⟨W.heap.size, 1, none⟩ = false := pfrz HZ7.out; have yf2 : w7.frozen? ⟨W.heap.size, 2, none⟩ = false := pfrz HZ7.out; have yf3 : w7.frozen? ⟨W.heap.size, 3, none⟩ = false := pfrz HZ7.out; have yf4 : w7.frozen? ⟨W.heap.size, 4, none⟩ = false := pfrz HZ7.out; have done7 := trivial)
                    | (have hd := done5; clear done5; go_at_call 39; (with_reducible refine HSK.out.mono ?_); rintro e6 w6 ⟨rfl, hr6, hg6⟩; have GS6 := Lib.hid (GS5.out.call hg6 hr6 hP HGG.out); have HO6 := Lib.hid (HO5.out.kept hg6 hP3); clear hr6 hg6; clear x0 x1 x2 x3 x4 xf0 xf1 xf2 xf3 xf4 y0 y1 y2 y3 y4 yf0 yf1 yf2 yf3 yf4; have HX6 := Lib.hid GS6.out.x; have HZ6 := Lib.hid GS6.out.z; have x0 : w6.cell? ⟨g, 0, none⟩ = some (.int .i64 3) := cell_of_row _ _ 0 _ _ (0, 0) HX6.out; have x1 : w6.cell? ⟨g, 1, none⟩ = some (.int .i64 0) := cell_of_row _ _ 1 _ _ (0, 0) HX6.out; have x2 : w6.cell? ⟨g, 2, none⟩ = some (.string ⟨#[]⟩) := cell_of_row _ _ 2 _ _ (0, 0) HX6.out; have x3 : w6.cell? ⟨g, 3, none⟩ = some (.string ⟨#[]⟩) := cell_of_row _ _ 3 _ _ (0, 0) HX6.out; have x4 : w6.cell? ⟨g, 4, none⟩ = some (.slice A7 1 c7) := cell_of_row _ _ 4 _ _ (0, 0) HX6.out; have xf0 : w6.frozen? ⟨g, 0, none⟩ = false := pfrz HX6.out; have xf1 : w6.frozen? ⟨g, 1, none⟩ = false := pfrz HX6.out; have xf2 : w6.frozen? ⟨g, 2, none⟩ = false := pfrz HX6.out; have xf3 : w6.frozen? ⟨g, 3, none⟩ = false := pfrz HX6.out; have xf4 : w6.frozen? ⟨g, 4, none⟩ = false := pfrz HX6.out; have y0 : w6.cell? ⟨W.heap.size, 0, none⟩ = some (.int .i64 0) := cell_of_row _ _ 0 _ _ (0, 0) HZ6.out; have y1 : w6.cell? ⟨W.heap.size, 1, none⟩ = some (.int .i64 0) := cell_of_row _ _ 1 _ _ (0, 0) HZ6.out; have y2 : w6.cell? ⟨W.heap.size, 2, none⟩ = some (.string ⟨#[]⟩) := cell_of_row _ _ 2 _ _ (0, 0) HZ6.out; have y3 : w6.cell? ⟨W.heap.size, 3, none⟩ = some (.string ⟨#[]⟩) := cell_of_row _ _ 3 _ _ (0, 0) HZ6.out; have y4 : w6.cell? ⟨W.heap.size, 4, none⟩ = some (.slice none 0 0) := cell_of_row _ _ 4 _ _ (0, 0) HZ6.out; have yf0 : w6.frozen? ⟨W.heap.size, 0, none⟩ = false := pfrz HZ6.out; have yf1 : w6.frozen? ⟨W.heap.size, 1, none⟩ = false := pfrz HZ6.out; have yf2 : w6.frozen? ⟨W.heap.size, 2, none⟩ = false := pfrz HZ6.out; have yf3 : w6.frozen? ⟨W.heap.size, 3, none⟩ = false := pfrz HZ6.out; have yf4 : w6.frozen? ⟨W.heap.size, 4, none⟩ = false := pfrz HZ6.out; have done6 := trivial))
                  have HFIN := dfin5 GS7.out.r GS7.out.gr hP GS7.out.z (.int .i64 3) (.int .i64 0) (.string ⟨#[]⟩) (.string ⟨#[]⟩) (.slice A7 1 c7)
                  have hrw := HFIN.2.2.2.2
                  have q0 : (((((w7.setCell ⟨W.heap.size, 0, none⟩ (.int .i64 3)).setCell ⟨W.heap.size, 1, none⟩ (.int .i64 0)).setCell ⟨W.heap.size, 2, none⟩ (.string ⟨#[]⟩)).setCell ⟨W.heap.size, 3, none⟩ (.string ⟨#[]⟩)).setCell ⟨W.heap.size, 4, none⟩ (.slice A7 1 c7)).cell? ⟨W.heap.size, 0, none⟩ = some (.int .i64 3) := cell_of_row _ _ 0 _ _ (0, 0) hrw
                  have q1 : (((((w7.setCell ⟨W.heap.size, 0, none⟩ (.int .i64 3)).setCell ⟨W.heap.size, 1, none⟩ (.int .i64 0)).setCell ⟨W.heap.size, 2, none⟩ (.string ⟨#[]⟩)).setCell ⟨W.heap.size, 3, none⟩ (.string ⟨#[]⟩)).setCell ⟨W.heap.size, 4, none⟩ (.slice A7 1 c7)).cell? ⟨W.heap.size, 1, none⟩ = some (.int .i64 0) := cell_of_row _ _ 1 _ _ (0, 0) hrw
                  have q2 : (((((w7.setCell ⟨W.heap.size, 0, none⟩ (.int .i64 3)).setCell ⟨W.heap.size, 1, none⟩ (.int .i64 0)).setCell ⟨W.heap.size, 2, none⟩ (.string ⟨#[]⟩)).setCell ⟨W.heap.size, 3, none⟩ (.string ⟨#[]⟩)).setCell ⟨W.heap.size, 4, none⟩ (.slice A7 1 c7)).cell? ⟨W.heap.size, 2, none⟩ = some (.string ⟨#[]⟩) := cell_of_row _ _ 2 _ _ (0, 0) hrw
                  have q3 : (((((w7.setCell ⟨W.heap.size, 0, none⟩ (.int .i64 3)).setCell ⟨W.heap.size, 1, none⟩ (.int .i64 0)).setCell ⟨W.heap.size, 2, none⟩ (.string ⟨#[]⟩)).setCell ⟨W.heap.size, 3, none⟩ (.string ⟨#[]⟩)).setCell ⟨W.heap.size, 4, none⟩ (.slice A7 1 c7)).cell? ⟨W.heap.size, 3, none⟩ = some (.string ⟨#[]⟩) := cell_of_row _ _ 3 _ _ (0, 0) hrw
                  have q4 : (((((w7.setCell ⟨W.heap.size, 0, none⟩ (.int .i64 3)).setCell ⟨W.heap.size, 1, none⟩ (.int .i64 0)).setCell ⟨W.heap.size, 2, none⟩ (.string ⟨#[]⟩)).setCell ⟨W.heap.size, 3, none⟩ (.string ⟨#[]⟩)).setCell ⟨W.heap.size, 4, none⟩ (.slice A7 1 c7)).cell? ⟨W.heap.size, 4, none⟩ = some (.slice A7 1 c7) := cell_of_row _ _ 4 _ _ (0, 0) hrw
                  refine bodyPost_ret (v := .agg #[.int .i64 3, .int .i64 0, .string ⟨#[]⟩, .string ⟨#[]⟩, .slice A7 1 c7]) (by simp [results, Tryd.results20, go_sem, q0, q1, q2, q3, q4]) rfl ?_
                  obtain ⟨A8, c8, hV8, hT8⟩ := HO7.out.tree 3 0 ⟨#[]⟩ ⟨#[]⟩ (by omega) (by omega) (Nat.zero_le _) (Nat.zero_le _)
                  injection hV8 with e1 e2 e3
                  subst e1 e3
                  have hb5 := HB5.out
                  have hb6 := HGG.out
                  rw [HRES.out]
                  exact ⟨_, rcs 3 0 ⟨#[]⟩ ⟨#[]⟩ A7 1 c7, rfl, (hT8.heap fun q hq => HFIN.2.2.1 q (by omega)).imp (fun q hq => ⟨by omega, by rw [HFIN.2.2.2.1]; exact hq.2⟩), by rw [HST.out]; exact HFIN.1, HPK.out.2.2, HFIN.2.1⟩

        · have HRES : Hid (Wm.pol (f + 1) l = .bad (Wm.tok (Wm.tok l).rest).from_) := Lib.hid (by rw [HPOL.out]; unfold Wm.polK; exact if_neg h40)
          have hs0 : Wm.signB 40 (.at_ (Wm.tok l).rest) = false := by unfold Wm.signB; simpa using h40
          have hs1 : Wm.signD 40 (.at_ (Wm.tok l).rest) = .at_ (Wm.tok l).rest := by unfold Wm.signD; exact if_neg h40
          have HSG := Lib.hid (dsign_any s L P 40 ⟨#[40]⟩ rfl _ _ HLL.out HS.out GS2.out.r)
          rw [hs0, hs1] at HSG
          clear hs0 hs1 h40
          have done2 := trivial
          rcases HKV.out with rfl | rfl | rfl
          all_goals
            go_wp2_with (first
              | (have hd := done3; clear done3; go_at_call 22; (with_reducible refine (dfail_any s L P (.at_ (Wm.tok l).rest) _ HLL.out HS.out GS3.out.r).mono ?_); rintro e4 w4 ⟨rfl, hr4, hg4⟩; have GS4 := Lib.hid (GS3.out.call hg4 hr4 hP HGG.out); clear hr4 hg4; have HZ4 := Lib.hid GS4.out.z; clear y0 y1 y2 y3 y4 yf0 yf1 yf2 yf3 yf4 x0 x1 x2 x3 x4 xf0 xf1 xf2 xf3 xf4; have y0 : w4.cell? ⟨W.heap.size, 0, none⟩ = some (.int .i64 0) := cell_of_row _ _ 0 _ _ (0, 0) HZ4.out; have y1 : w4.cell? ⟨W.heap.size, 1, none⟩ = some (.int .i64 0) := cell_of_row _ _ 1 _ _ (0, 0) HZ4.out; have y2 : w4.cell? ⟨W.heap.size, 2, none⟩ = some (.string ⟨#[]⟩) := cell_of_row _ _ 2 _ _ (0, 0) HZ4.out; have y3 : w4.cell? ⟨W.heap.size, 3, none⟩ = some (.string ⟨#[]⟩) := cell_of_row _ _ 3 _ _ (0, 0) HZ4.out; have y4 : w4.cell? ⟨W.heap.size, 4, none⟩ = some (.slice none 0 0) := cell_of_row _ _ 4 _ _ (0, 0) HZ4.out; have yf0 : w4.frozen? ⟨W.heap.size, 0, none⟩ = false := pfrz HZ4.out; have yf1 : w4.frozen? ⟨W.heap.size, 1, none⟩ = false := pfrz HZ4.out; have yf2 : w4.frozen? ⟨W.heap.size, 2, none⟩ = false := pfrz HZ4.out; have yf3 : w4.frozen? ⟨W.heap.size, 3, none⟩ = false := pfrz HZ4.out; have yf4 : w4.frozen? ⟨W.heap.size, 4, none⟩ = false := pfrz HZ4.out; have done4 := trivial)
              | (have hd := done2; clear done2; go_at_call 39; (with_reducible refine HSG.out.mono ?_); rintro e6 w3 ⟨rfl, hr3, hg3⟩; have GS3 := Lib.hid (GS2.out.call hg3 hr3 hP HGG.out); clear hr3 hg3; have done3 := trivial))
            have HFIN := dfin5 GS4.out.r GS4.out.gr hP GS4.out.z (.int .i64 0) (.int .i64 0) (.string ⟨#[]⟩) (.string ⟨#[]⟩) (.slice none 0 0)
            have hrw := HFIN.2.2.2.2
            have q0 : (((((w4.setCell ⟨W.heap.size, 0, none⟩ (.int .i64 0)).setCell ⟨W.heap.size, 1, none⟩ (.int .i64 0)).setCell ⟨W.heap.size, 2, none⟩ (.string ⟨#[]⟩)).setCell ⟨W.heap.size, 3, none⟩ (.string ⟨#[]⟩)).setCell ⟨W.heap.size, 4, none⟩ (.slice none 0 0)).cell? ⟨W.heap.size, 0, none⟩ = some (.int .i64 0) := cell_of_row _ _ 0 _ _ (0, 0) hrw
            have q1 : (((((w4.setCell ⟨W.heap.size, 0, none⟩ (.int .i64 0)).setCell ⟨W.heap.size, 1, none⟩ (.int .i64 0)).setCell ⟨W.heap.size, 2, none⟩ (.string ⟨#[]⟩)).setCell ⟨W.heap.size, 3, none⟩ (.string ⟨#[]⟩)).setCell ⟨W.heap.size, 4, none⟩ (.slice none 0 0)).cell? ⟨W.heap.size, 1, none⟩ = some (.int .i64 0) := cell_of_row _ _ 1 _ _ (0, 0) hrw
            have q2 : (((((w4.setCell ⟨W.heap.size, 0, none⟩ (.int .i64 0)).setCell ⟨W.heap.size, 1, none⟩ (.int .i64 0)).setCell ⟨W.heap.size, 2, none⟩ (.string ⟨#[]⟩)).setCell ⟨W.heap.size, 3, none⟩ (.string ⟨#[]⟩)).setCell ⟨W.heap.size, 4, none⟩ (.slice none 0 0)).cell? ⟨W.heap.size, 2, none⟩ = some (.string ⟨#[]⟩) := cell_of_row _ _ 2 _ _ (0, 0) hrw
            have q3 : (((((w4.setCell ⟨W.heap.size, 0, none⟩ (.int .i64 0)).setCell ⟨W.heap.size, 1, none⟩ (.int .i64 0)).setCell ⟨W.heap.size, 2, none⟩ (.string ⟨#[]⟩)).setCell ⟨W.heap.size, 3, none⟩ (.string ⟨#[]⟩)).setCell ⟨W.heap.size, 4, none⟩ (.slice none 0 0)).cell? ⟨W.heap.size, 3, none⟩ = some (.string ⟨#[]⟩) := cell_of_row _ _ 3 _ _ (0, 0) hrw
            have q4 : (((((w4.setCell ⟨W.heap.size, 0, none⟩ (.int .i64 0)).setCell ⟨W.heap.size, 1, none⟩ (.int .i64 0)).setCell ⟨W.heap.size, 2, none⟩ (.string ⟨#[]⟩)).setCell ⟨W.heap.size, 3, none⟩ (.string ⟨#[]⟩)).setCell ⟨W.heap.size, 4, none⟩ (.slice none 0 0)).cell? ⟨W.heap.size, 4, none⟩ = some (.slice none 0 0) := cell_of_row _ _ 4 _ _ (0, 0) hrw
            refine bodyPost_ret (v := .agg #[.int .i64 0, .int .i64 0, .string ⟨#[]⟩, .string ⟨#[]⟩, .slice none 0 0]) (by simp [results, Tryd.results20, go_sem, q0, q1, q2, q3, q4]) rfl ?_
            rw [HRES.out]

            exact ⟨.mk 0 0 ⟨#[]⟩ ⟨#[]⟩ [], rcs 0 0 ⟨#[]⟩ ⟨#[]⟩ none 0 0, rfl, RdP.leaf _ _ 0 0 ⟨#[]⟩ ⟨#[]⟩ (by omega) (by omega) (Nat.zero_le _) (Nat.zero_le _), HFIN.1, (fun t' r e => by cases e), HFIN.2.1⟩
      · have HVX2 := Lib.hid hv
        have hv3 : vx ≤ 9 := hky9
        have HRES : Hid (Wm.pol (f + 1) l = Wm.polN vx (Wm.tok l).rest) := Lib.hid (by rw [Wm.pol, if_neg (by rw [HKY.out]; omega), if_neg (by rw [HKY.out]; omega), if_neg (by rw [HKY.out]; omega), if_neg (by rw [HKY.out]; omega), HKY.out])
        have k0 : ((vx : Int) == 0) = false := by rw [beq_eq_false_iff_ne]; omega
        have m0 : (vx == 0) = false := by rw [beq_eq_false_iff_ne]; omega
        have k1 : ((vx : Int) == 1) = false := by rw [beq_eq_false_iff_ne]; omega
        have m1 : (vx == 1) = false := by rw [beq_eq_false_iff_ne]; omega
        have k2 : ((vx : Int) == 2) = false := by rw [beq_eq_false_iff_ne]; omega
        have m2 : (vx == 2) = false := by rw [beq_eq_false_iff_ne]; omega
        have k3 : ((vx : Int) == 3) = false := by rw [beq_eq_false_iff_ne]; omega
        have m3 : (vx == 3) = false := by rw [beq_eq_false_iff_ne]; omega
        have k5 : ((vx : Int) == 5) = false := by rw [beq_eq_false_iff_ne]; omega
        have m5 : (vx == 5) = false := by rw [beq_eq_false_iff_ne]; omega
        have k6 : ((vx : Int) == 6) = false := by rw [beq_eq_false_iff_ne]; omega
        have m6 : (vx == 6) = false := by rw [beq_eq_false_iff_ne]; omega
        clear hv
        have c0 : wr.cell? ⟨W.heap.size, 0, none⟩ = some (.int .i64 0) := cell_of_row _ _ 0 _ _ (0, 0) HGS.out.z
        have c1 : wr.cell? ⟨W.heap.size, 1, none⟩ = some (.int .i64 0) := cell_of_row _ _ 1 _ _ (0, 0) HGS.out.z
        have c2 : wr.cell? ⟨W.heap.size, 2, none⟩ = some (.string ⟨#[]⟩) := cell_of_row _ _ 2 _ _ (0, 0) HGS.out.z
        have c3 : wr.cell? ⟨W.heap.size, 3, none⟩ = some (.string ⟨#[]⟩) := cell_of_row _ _ 3 _ _ (0, 0) HGS.out.z
        have c4 : wr.cell? ⟨W.heap.size, 4, none⟩ = some (.slice none 0 0) := cell_of_row _ _ 4 _ _ (0, 0) HGS.out.z
        have cf0 : wr.frozen? ⟨W.heap.size, 0, none⟩ = false := pfrz HGS.out.z
        have cf1 : wr.frozen? ⟨W.heap.size, 1, none⟩ = false := pfrz HGS.out.z
        have cf2 : wr.frozen? ⟨W.heap.size, 2, none⟩ = false := pfrz HGS.out.z
        have cf3 : wr.frozen? ⟨W.heap.size, 3, none⟩ = false := pfrz HGS.out.z
        have cf4 : wr.frozen? ⟨W.heap.size, 4, none⟩ = false := pfrz HGS.out.z
        have GS2 := Lib.hid (HGS.out.read hP HGG.out HRA.out (Wm.Suf.trans (Wm.tok_ok l).rests (Wm.tok_ok l).froms))
        have HX2 := Lib.hid GS2.out.x
        have x0 : (wr.setCell ⟨P, 1, none⟩ (.int .i64 (ra : Int))).cell? ⟨g, 0, none⟩ = some (.int .i64 (vx : Int)) := cell_of_row _ _ 0 _ _ (0, 0) HX2.out
        have x1 : (wr.setCell ⟨P, 1, none⟩ (.int .i64 (ra : Int))).cell? ⟨g, 1, none⟩ = some (.int .i64 0) := cell_of_row _ _ 1 _ _ (0, 0) HX2.out
        have x2 : (wr.setCell ⟨P, 1, none⟩ (.int .i64 (ra : Int))).cell? ⟨g, 2, none⟩ = some (.string ⟨#[]⟩) := cell_of_row _ _ 2 _ _ (0, 0) HX2.out
        have x3 : (wr.setCell ⟨P, 1, none⟩ (.int .i64 (ra : Int))).cell? ⟨g, 3, none⟩ = some (.string ⟨#[]⟩) := cell_of_row _ _ 3 _ _ (0, 0) HX2.out
        have x4 : (wr.setCell ⟨P, 1, none⟩ (.int .i64 (ra : Int))).cell? ⟨g, 4, none⟩ = some (.slice none 0 0) := cell_of_row _ _ 4 _ _ (0, 0) HX2.out
        have xf0 : (wr.setCell ⟨P, 1, none⟩ (.int .i64 (ra : Int))).frozen? ⟨g, 0, none⟩ = false := pfrz HX2.out
        have xf1 : (wr.setCell ⟨P, 1, none⟩ (.int .i64 (ra : Int))).frozen? ⟨g, 1, none⟩ = false := pfrz HX2.out
        have xf2 : (wr.setCell ⟨P, 1, none⟩ (.int .i64 (ra : Int))).frozen? ⟨g, 2, none⟩ = false := pfrz HX2.out
        have xf3 : (wr.setCell ⟨P, 1, none⟩ (.int .i64 (ra : Int))).frozen? ⟨g, 3, none⟩ = false := pfrz HX2.out
        have xf4 : (wr.setCell ⟨P, 1, none⟩ (.int .i64 (ra : Int))).frozen? ⟨g, 4, none⟩ = false := pfrz HX2.out
        have HZ2 := Lib.hid GS2.out.z
        have y0 : (wr.setCell ⟨P, 1, none⟩ (.int .i64 (ra : Int))).cell? ⟨W.heap.size, 0, none⟩ = some (.int .i64 0) := cell_of_row _ _ 0 _ _ (0, 0) HZ2.out
        have y1 : (wr.setCell ⟨P, 1, none⟩ (.int .i64 (ra : Int))).cell? ⟨W.heap.size, 1, none⟩ = some (.int .i64 0) := cell_of_row _ _ 1 _ _ (0, 0) HZ2.out
        have y2 : (wr.setCell ⟨P, 1, none⟩ (.int .i64 (ra : Int))).cell? ⟨W.heap.size, 2, none⟩ = some (.string ⟨#[]⟩) := cell_of_row _ _ 2 _ _ (0, 0) HZ2.out
        have y3 : (wr.setCell ⟨P, 1, none⟩ (.int .i64 (ra : Int))).cell? ⟨W.heap.size, 3, none⟩ = some (.string ⟨#[]⟩) := cell_of_row _ _ 3 _ _ (0, 0) HZ2.out
        have y4 : (wr.setCell ⟨P, 1, none⟩ (.int .i64 (ra : Int))).cell? ⟨W.heap.size, 4, none⟩ = some (.slice none 0 0) := cell_of_row _ _ 4 _ _ (0, 0) HZ2.out
        have yf0 : (wr.setCell ⟨P, 1, none⟩ (.int .i64 (ra : Int))).frozen? ⟨W.heap.size, 0, none⟩ = false := pfrz HZ2.out
        have yf1 : (wr.setCell ⟨P, 1, none⟩ (.int .i64 (ra : Int))).frozen? ⟨W.heap.size, 1, none⟩ = false := pfrz HZ2.out
        have yf2 : (wr.setCell ⟨P, 1, none⟩ (.int .i64 (ra : Int))).frozen? ⟨W.heap.size, 2, none⟩ = false := pfrz HZ2.out
        have yf3 : (wr.setCell ⟨P, 1, none⟩ (.int .i64 (ra : Int))).frozen? ⟨W.heap.size, 3, none⟩ = false := pfrz HZ2.out
        have yf4 : (wr.setCell ⟨P, 1, none⟩ (.int .i64 (ra : Int))).frozen? ⟨W.heap.size, 4, none⟩ = false := pfrz HZ2.out
        have HTV := Lib.hid (takeV_dig (l := (Wm.tok l).rest))
        obtain ⟨wd, hwd⟩ : ∃ v, Wm.takeV 2 (.at_ (Wm.tok l).rest) = v := ⟨_, rfl⟩
        rw [hwd] at HTV
        have HWD := Lib.hid hwd
        obtain ⟨sw, hsw⟩ : ∃ t, t = S8 wd := ⟨_, rfl⟩
        have HDAT := Lib.hid (show sw.data.toList = wd from by rw [hsw]; rfl)
        obtain ⟨m, hm⟩ : ∃ m, wd.length = m := ⟨_, rfl⟩
        have HM := Lib.hid hm
        have hsz : sw.size = m := by rw [hsw, ← hm]; simp [S8, ByteArray.size]
        have hm10 : m ≤ 10 := by rw [← hm]; exact HTV.out.1
        have HTAKE := Lib.hid (dtake_any s L P 2 2 rfl _ _ HLL.out HS.out GS2.out.r (by decide))
        rw [hwd, ← hsw] at HTAKE
        have HN0 : Hid ((0 : Nat) = Wm.num (wd.take 0)) := Lib.hid rfl
        clear hwd hsw hm
        go_wp2_with (go_at_call 40; (with_reducible refine HTAKE.out.mono ?_); rintro e3 w3 ⟨rfl, hr3, hg3⟩; have GS3 := Lib.hid (GS2.out.call hg3 hr3 hP HGG.out); clear hr3 hg3)
        go_loopw [11] (fun x wr => ∃ (j z : Nat), x = .int .i64 (j : Int) ∧ j ≤ m ∧ z < 10000000000 ∧ Hid (z = Wm.num (wd.take j)) ∧ Hid (RoSt W wr P g s L (Wm.takeD 2 (.at_ (Wm.tok l).rest)) #[.int .i64 (vx : Int), .int .i64 (z : Int), .string ⟨#[]⟩, .string ⟨#[]⟩, .slice none 0 0])) (fun x _ => m - (intOf x).toNat)
        case atStart => exact ⟨0, 0, rfl, by omega, by omega, HN0, GS3⟩
        case round =>
          obtain ⟨j, z, rfl, hj, hz, HZ, HGJ⟩ := hrel
          clear x0 x1 x2 x3 x4 xf0 xf1 xf2 xf3 xf4 y0 y1 y2 y3 y4 yf0 yf1 yf2 yf3 yf4
          have HXJ := Lib.hid HGJ.out.x
          have HZJ := Lib.hid HGJ.out.z
          have x0 : wr.cell? ⟨g, 0, none⟩ = some (.int .i64 (vx : Int)) := cell_of_row _ _ 0 _ _ (0, 0) HXJ.out
          have x1 : wr.cell? ⟨g, 1, none⟩ = some (.int .i64 (z : Int)) := cell_of_row _ _ 1 _ _ (0, 0) HXJ.out
          have x2 : wr.cell? ⟨g, 2, none⟩ = some (.string ⟨#[]⟩) := cell_of_row _ _ 2 _ _ (0, 0) HXJ.out
          have x3 : wr.cell? ⟨g, 3, none⟩ = some (.string ⟨#[]⟩) := cell_of_row _ _ 3 _ _ (0, 0) HXJ.out
          have x4 : wr.cell? ⟨g, 4, none⟩ = some (.slice none 0 0) := cell_of_row _ _ 4 _ _ (0, 0) HXJ.out
          have xf0 : wr.frozen? ⟨g, 0, none⟩ = false := pfrz HXJ.out
          have xf1 : wr.frozen? ⟨g, 1, none⟩ = false := pfrz HXJ.out
          have xf2 : wr.frozen? ⟨g, 2, none⟩ = false := pfrz HXJ.out
          have xf3 : wr.frozen? ⟨g, 3, none⟩ = false := pfrz HXJ.out
          have xf4 : wr.frozen? ⟨g, 4, none⟩ = false := pfrz HXJ.out
          have y0 : wr.cell? ⟨W.heap.size, 0, none⟩ = some (.int .i64 0) := cell_of_row _ _ 0 _ _ (0, 0) HZJ.out
          have y1 : wr.cell? ⟨W.heap.size, 1, none⟩ = some (.int .i64 0) := cell_of_row _ _ 1 _ _ (0, 0) HZJ.out
          have y2 : wr.cell? ⟨W.heap.size, 2, none⟩ = some (.string ⟨#[]⟩) := cell_of_row _ _ 2 _ _ (0, 0) HZJ.out
          have y3 : wr.cell? ⟨W.heap.size, 3, none⟩ = some (.string ⟨#[]⟩) := cell_of_row _ _ 3 _ _ (0, 0) HZJ.out
          have y4 : wr.cell? ⟨W.heap.size, 4, none⟩ = some (.slice none 0 0) := cell_of_row _ _ 4 _ _ (0, 0) HZJ.out
          have yf0 : wr.frozen? ⟨W.heap.size, 0, none⟩ = false := pfrz HZJ.out
          have yf1 : wr.frozen? ⟨W.heap.size, 1, none⟩ = false := pfrz HZJ.out
          have yf2 : wr.frozen? ⟨W.heap.size, 2, none⟩ = false := pfrz HZJ.out
          have yf3 : wr.frozen? ⟨W.heap.size, 3, none⟩ = false := pfrz HZJ.out
          have yf4 : wr.frozen? ⟨W.heap.size, 4, none⟩ = false := pfrz HZJ.out
          by_cases hlt : j < m
          · obtain ⟨d, hd⟩ : ∃ d, wd[j]? = some d := ⟨_, List.getElem?_eq_getElem (by rw [HM.out]; exact hlt)⟩
            have hdd := HTV.out.2 d (List.mem_of_getElem? hd)
            have hxx := run_byte (T := 9) Tryd.underlying9 (show sw.data.toList[j]? = some d from by rw [HDAT.out]; exact hd)
            have hn1 := num_snoc (wd.take j) d
            have htk : wd.take (j + 1) = wd.take j ++ [d] := by rw [List.take_add_one, hd]; rfl
            rw [← htk, ← HZ.out] at hn1
            have hb1 : Wm.num (wd.take (j + 1)) < 10000000000 := by
              have h1 := Wm.num_lt (wd.take (j + 1)) (fun x hx => HTV.out.2 x (List.mem_of_mem_take hx))
              have h2 : (wd.take (j + 1)).length ≤ 10 := by rw [List.length_take]; omega
              have h3 : 10 ^ (wd.take (j + 1)).length ≤ 10 ^ 10 := Nat.pow_le_pow_right (by decide) h2
              have h4 : (10 : Nat) ^ 10 = 10000000000 := by decide
              omega
            unfold Wm.digt at hdd
            simp only [Bool.and_eq_true, decide_eq_true_eq] at hdd
            obtain ⟨y, hy⟩ : ∃ y : Nat, y = d.toNat - 48 := ⟨_, rfl⟩
            have hyd : (d.toNat : Int) = (y : Int) + 48 := by omega
            rw [← hy] at hn1
            rw [hn1] at hb1
            have hy9 : y ≤ 9 := by omega
            have HN1 := Lib.hid hn1
            have HB1 := Lib.hid hb1
            rw [hyd] at hxx
            have HGN := Lib.hid (HGJ.out.set hP HGG.out 1 (.int .i64 (10 * (z : Int) + (y : Int))))
            clear hd hdd htk hn1 hb1 hy hyd
            go_wp2_with fail
            go_region
            go_wp2_with fail
            go_roundw
            case rel =>
              refine ⟨j + 1, z * 10 + y, by go_num, by omega, HB1.out, Lib.hid HN1.out.symm, Lib.hid ?_⟩
              have e : ((z * 10 + y : Nat) : Int) = 10 * (z : Int) + (y : Int) := by omega
              rw [e]
              exact HGN.out.drewN 1
            case measure => simp [intOf]; omega
          · obtain rfl : j = m := by omega
            have HZE : Hid (z = Wm.num (Wm.takeV 2 (.at_ (Wm.tok l).rest))) := Lib.hid (by rw [HWD.out, HZ.out, List.take_of_length_le (by rw [HM.out]; omega)])
            go_wp2_with fail
            have HFIN := dfin5 HGJ.out.r HGJ.out.gr hP HGJ.out.z (.int .i64 (vx : Int)) (.int .i64 (z : Int)) (.string ⟨#[]⟩) (.string ⟨#[]⟩) (.slice none 0 0)
            have hrw := HFIN.2.2.2.2
            have q0 : (((((wr.setCell ⟨W.heap.size, 0, none⟩ (.int .i64 (vx : Int))).setCell ⟨W.heap.size, 1, none⟩ (.int .i64 (z : Int))).setCell ⟨W.heap.size, 2, none⟩ (.string ⟨#[]⟩)).setCell ⟨W.heap.size, 3, none⟩ (.string ⟨#[]⟩)).setCell ⟨W.heap.size, 4, none⟩ (.slice none 0 0)).cell? ⟨W.heap.size, 0, none⟩ = some (.int .i64 (vx : Int)) := cell_of_row _ _ 0 _ _ (0, 0) hrw
            have q1 : (((((wr.setCell ⟨W.heap.size, 0, none⟩ (.int .i64 (vx : Int))).setCell ⟨W.heap.size, 1, none⟩ (.int .i64 (z : Int))).setCell ⟨W.heap.size, 2, none⟩ (.string ⟨#[]⟩)).setCell ⟨W.heap.size, 3, none⟩ (.string ⟨#[]⟩)).setCell ⟨W.heap.size, 4, none⟩ (.slice none 0 0)).cell? ⟨W.heap.size, 1, none⟩ = some (.int .i64 (z : Int)) := cell_of_row _ _ 1 _ _ (0, 0) hrw
            have q2 : (((((wr.setCell ⟨W.heap.size, 0, none⟩ (.int .i64 (vx : Int))).setCell ⟨W.heap.size, 1, none⟩ (.int .i64 (z : Int))).setCell ⟨W.heap.size, 2, none⟩ (.string ⟨#[]⟩)).setCell ⟨W.heap.size, 3, none⟩ (.string ⟨#[]⟩)).setCell ⟨W.heap.size, 4, none⟩ (.slice none 0 0)).cell? ⟨W.heap.size, 2, none⟩ = some (.string ⟨#[]⟩) := cell_of_row _ _ 2 _ _ (0, 0) hrw
            have q3 : (((((wr.setCell ⟨W.heap.size, 0, none⟩ (.int .i64 (vx : Int))).setCell ⟨W.heap.size, 1, none⟩ (.int .i64 (z : Int))).setCell ⟨W.heap.size, 2, none⟩ (.string ⟨#[]⟩)).setCell ⟨W.heap.size, 3, none⟩ (.string ⟨#[]⟩)).setCell ⟨W.heap.size, 4, none⟩ (.slice none 0 0)).cell? ⟨W.heap.size, 3, none⟩ = some (.string ⟨#[]⟩) := cell_of_row _ _ 3 _ _ (0, 0) hrw
            have q4 : (((((wr.setCell ⟨W.heap.size, 0, none⟩ (.int .i64 (vx : Int))).setCell ⟨W.heap.size, 1, none⟩ (.int .i64 (z : Int))).setCell ⟨W.heap.size, 2, none⟩ (.string ⟨#[]⟩)).setCell ⟨W.heap.size, 3, none⟩ (.string ⟨#[]⟩)).setCell ⟨W.heap.size, 4, none⟩ (.slice none 0 0)).cell? ⟨W.heap.size, 4, none⟩ = some (.slice none 0 0) := cell_of_row _ _ 4 _ _ (0, 0) hrw
            refine bodyPost_ret (v := .agg #[.int .i64 (vx : Int), .int .i64 (z : Int), .string ⟨#[]⟩, .string ⟨#[]⟩, .slice none 0 0]) (by simp [results, Tryd.results20, go_sem, q0, q1, q2, q3, q4]) rfl ?_
            rw [HRES.out]

            have HPN := dpolN_out (l := (Wm.tok l).rest) vx HZE.out
            exact ⟨.mk (vx : Int) (z : Int) ⟨#[]⟩ ⟨#[]⟩ [], rcs (vx : Int) (z : Int) ⟨#[]⟩ ⟨#[]⟩ none 0 0, rfl, RdP.leaf _ _ (vx : Int) (z : Int) ⟨#[]⟩ ⟨#[]⟩ (by omega) (by omega) (Nat.zero_le _) (Nat.zero_le _), by rw [HPN.1]; exact HFIN.1, HPN.2, HFIN.2.1⟩


end Go.Proofs.YtgiahfjndononaaDoor
