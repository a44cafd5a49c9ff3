/- What the document's rule needs of the list of kids: plain facts. -/
import Derived.Test.YtgiahfjndononaaDoorPpb
import Derived.Test.YtgiahfjndononaaDoorPoh
namespace Go.Proofs.YtgiahfjndononaaDoor
open Go.RowKit
set_option linter.unusedVariables false
set_option linter.unusedSimpArgs false
set_option maxRecDepth 100000

/-- How far the document's parser still may read: nothing once it failed. -/
def dmeas (w : World) (P n : Nat) : Nat :=
  match w.cell? ⟨P, 2, none⟩, w.cell? ⟨P, 1, none⟩ with
  | some (.int _ b), some (.int _ a) => if 0 ≤ b then 0 else n + 1 - a.toNat
  | _, _ => 0
theorem dmeas_at {w : World} {P : Nat} {s : ByteArray} {L l : List UInt8} (hL : s.data.toList = L) (h : DSt w P s L (.at_ l)) : dmeas w P s.size = l.length + 1 := by
  have h1 := h.2.len
  have h2 := list_len s L hL
  have hr := h.1
  unfold DRow at hr
  have c1 : w.cell? ⟨P, 1, none⟩ = some (.int .i64 ((s.size - l.length : Nat) : Int)) := cell_of_row _ _ 1 _ _ (0, 0) hr
  have c2 : w.cell? ⟨P, 2, none⟩ = some (.int .i64 (-1)) := cell_of_row _ _ 2 _ _ (0, 0) hr
  unfold dmeas
  rw [c1, c2]
  simp
  omega
theorem dmeas_bad {w : World} {P : Nat} {s : ByteArray} {L e : List UInt8} (h : DSt w P s L (.bad e)) : dmeas w P s.size = 0 := by
  obtain ⟨⟨a, ha, hr⟩, _⟩ := h
  unfold DRow at hr
  have c1 : w.cell? ⟨P, 1, none⟩ = some (.int .i64 (a : Int)) := cell_of_row _ _ 1 _ _ (0, 0) hr
  have c2 : w.cell? ⟨P, 2, none⟩ = some (.int .i64 ((s.size - e.length : Nat) : Int)) := cell_of_row _ _ 2 _ _ (0, 0) hr
  unfold dmeas
  rw [c1, c2]
  simp only
  rw [if_pos (by omega)]
theorem sign_at {c : UInt8} {st : Wm.St} (h : Wm.signB c st = true) : ∃ l, st = .at_ l ∧ (Wm.tok l).is c = true := by
  cases st with
  | bad e => cases h
  | at_ l => exact ⟨l, rfl, h⟩
theorem sign_not {c : UInt8} {st : Wm.St} (h : Wm.signB c st = false) : Wm.signD c st = st := by
  cases st with
  | bad e => rfl
  | at_ l =>
    have h' : (Wm.tok l).is c = false := h
    unfold Wm.signD
    simp only
    rw [if_neg (by rw [h']; decide)]
/-- One kid more: the measure falls. -/
theorem dmeas_step {w w' : World} {P f : Nat} {s : ByteArray} {L l : List UInt8} (hL : s.data.toList = L) (h : DSt w P s L (.at_ l)) (h44 : (Wm.tok l).is 44 = true) (h2 : DSt w' P s L (Wm.pol f (Wm.tok l).rest).st) : dmeas w' P s.size < dmeas w P s.size := by
  rw [dmeas_at hL h]
  cases hp : Wm.pol f (Wm.tok l).rest with
  | bad e =>
    rw [hp] at h2
    rw [dmeas_bad h2]
    omega
  | ok t r =>
    rw [hp] at h2
    rw [dmeas_at hL h2]
    have h3 := Wm.pol_short f _ t r hp
    have h4 := (Wm.tok_rest l).len
    omega
theorem KInv.endD {f : Nat} {res : Wm.Res (List Rt)} {Lk : List Kr} {st : Wm.St} (h : KInv f res Lk st) (hs : Wm.signB 44 st = false) : res.st = st ∧ ∀ ts r, res = .ok ts r → Lk.map Kr.t = ts := by
  cases st with
  | bad e => rw [h.1]; exact ⟨rfl, fun ts r e => by cases e⟩
  | at_ l => rw [h.end_ hs]; exact ⟨rfl, fun ts r e => by injection e⟩
theorem dpolK12_out {p : List UInt8 → Wm.Res Rt} {f : Nat} {l : List UInt8} (k : Nat) (hk : k ≠ 3) (h : (Wm.tok l).is 40 = true) (h41 : ¬ (Wm.tok (Wm.tok l).rest).is 41 = true) {st : Wm.St} (ts : List Rt) (hr : (Wm.kids p 1 f (Wm.tok l).rest).st = st ∧ ∀ ts' r, Wm.kids p 1 f (Wm.tok l).rest = .ok ts' r → ts = ts') :
    (Wm.signB 41 st = true → (Wm.polK p k f l).st = Wm.signD 41 st) ∧ (Wm.signB 41 st = false → (Wm.polK p k f l).st = Wm.failS (Wm.signD 41 st)) ∧ ∀ t' r, Wm.polK p k f l = .ok t' r → (Rt.mk (k : Int) 0 ⟨#[]⟩ ⟨#[]⟩ ts) = t' := by
  obtain ⟨hst, ht⟩ := hr
  unfold Wm.polK
  rw [if_pos h, if_neg (fun e => h41 e.2)]
  have hkk : Wm.kids p k f (Wm.tok l).rest = Wm.kids p 1 f (Wm.tok l).rest := by
    unfold Wm.kids
    cases p (Wm.tok l).rest with
    | bad e => rfl
    | ok t r => simp only; rw [if_neg hk, if_neg (by decide)]
  rw [hkk]
  subst hst
  cases hr : Wm.kids p 1 f (Wm.tok l).rest with
  | bad e => exact ⟨fun e1 => absurd e1 (by simp [Wm.signB, Wm.Res.st]), fun _ => rfl, fun t' r e => by cases e⟩
  | ok rs r0 =>
    have h0 := ht rs r0 hr
    simp only [Wm.close, Wm.Res.st, Wm.signB, Wm.signD]
    by_cases h2 : (Wm.tok r0).is 41 = true
    · rw [if_pos h2, if_pos h2, h0]
      exact ⟨fun _ => rfl, fun e => absurd h2 (by rw [e]; decide), fun t' r e => by injection e⟩
    · rw [if_neg h2, if_neg h2]
      exact ⟨fun e => absurd e h2, fun _ => rfl, fun t' r e => by cases e⟩
def DPolOut (res : Wm.Res Rt) (P : Nat) (s : ByteArray) (L : List UInt8) (W : World) (e : Ending) (w' : World) : Prop :=
  ∃ t cs, e = .returned (.agg cs.toArray) ∧ RdP w' (fun b => W.heap.size ≤ b ∧ b < w'.heap.size) t cs ∧ DSt w' P s L res.st ∧ (∀ t' r, res = .ok t' r → t = t') ∧ W.grownBy w' (some P)
def DRuleCalls (f P : Nat) (s : ByteArray) (L : List UInt8) : Prop := ∀ (l : List UInt8) (w : World), l.length < f → DSt w P s L (.at_ l) → Calls Tryd.prog 20 #[.pointer (some ⟨P, 0, none⟩)] w (DPolOut (Wm.pol f l) P s L w)
end Go.Proofs.YtgiahfjndononaaDoor
