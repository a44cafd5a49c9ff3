/- What is written of a policy, with blanks between its tokens, is read as it. -/
import Derived.Test.YtgiahfjndononaaDoorPom
import Derived.Test.YtgiahfjndononaaDoorRo
namespace Go.Proofs.YtgiahfjndononaaDoor
open Go.RowKit
set_option linter.unusedVariables false
set_option linter.unusedSimpArgs false
set_option maxRecDepth 100000

namespace Wm
def Bln (l : List UInt8) : Prop := ∀ c ∈ l, blank c = true
/-- Nothing that a word or a number before it would go on with. -/
def Stp : List UInt8 → Prop
  | [] => True
  | c :: _ => lettr c = false ∧ digt c = false
theorem bln_nil : Bln [] := fun c h => by cases h
theorem bln_app {a b : List UInt8} (h : Bln a) (k : Bln b) : Bln (a ++ b) := fun c hc => by
  rcases List.mem_append.1 hc with h1 | h1
  · exact h c h1
  · exact k c h1
theorem blank_stop {c : UInt8} (h : blank c = true) : lettr c = false ∧ digt c = false := by
  unfold blank at h
  simp only [Bool.or_eq_true, beq_iff_eq] at h
  rcases h with rfl | rfl <;> decide
theorem sgn_stop {c : UInt8} (h : sgn c = true) : lettr c = false ∧ digt c = false ∧ blank c = false := by
  unfold sgn at h
  simp only [Bool.or_eq_true, beq_iff_eq] at h
  rcases h with (rfl | rfl) | rfl <;> decide
theorem stp_bln {a r : List UInt8} (h : Bln a) (k : Stp r) : Stp (a ++ r) := by
  cases a with
  | nil => exact k
  | cons c a => exact blank_stop (h c (by simp))
theorem drop_bln {a r : List UInt8} (h : Bln a) : (a ++ r).dropWhile blank = r.dropWhile blank := by
  induction a with
  | nil => rfl
  | cons c a ih => rw [List.cons_append, List.dropWhile_cons, if_pos (h c (by simp)), ih (fun d hd => h d (by simp [hd]))]
theorem tok_bln {a r : List UInt8} (h : Bln a) : tok (a ++ r) = tok r := by
  unfold tok
  rw [drop_bln h]
theorem take_all {p : UInt8 → Bool} {w r : List UInt8} (h : ∀ c ∈ w, p c = true) (k : ∀ c x, r = c :: x → p c = false) : (w ++ r).takeWhile p = w ∧ (w ++ r).dropWhile p = r := by
  induction w with
  | nil =>
    cases r with
    | nil => exact ⟨rfl, rfl⟩
    | cons c x => simp [List.takeWhile_cons, List.dropWhile_cons, k c x rfl]
  | cons c w ih =>
    have h1 := ih (fun d hd => h d (by simp [hd]))
    rw [List.cons_append, List.takeWhile_cons, List.dropWhile_cons, if_pos (h c (by simp)), if_pos (h c (by simp)), h1.1, h1.2]
    exact ⟨rfl, rfl⟩
theorem lettr_not {c : UInt8} (h : lettr c = true) : blank c = false ∧ digt c = false ∧ sgn c = false ∧ c ≠ 34 ∧ c ≠ 32 := by
  unfold lettr at h
  simp only [Bool.and_eq_true, decide_eq_true_eq] at h
  have e : ∀ d : UInt8, c = d → c.toNat = d.toNat := fun d e => by rw [e]
  refine ⟨?_, ?_, ?_, fun e1 => ?_, fun e1 => ?_⟩
  · unfold blank
    rw [Bool.or_eq_false_iff, beq_eq_false_iff_ne, beq_eq_false_iff_ne]
    exact ⟨fun e1 => by have := e _ e1; simp at this; omega, fun e1 => by have := e _ e1; simp at this; omega⟩
  · unfold digt
    rw [Bool.and_eq_false_iff]
    right
    exact decide_eq_false (by omega)
  · unfold sgn
    simp only [Bool.or_eq_false_iff, beq_eq_false_iff_ne]
    exact ⟨⟨fun e1 => by have := e _ e1; simp at this; omega, fun e1 => by have := e _ e1; simp at this; omega⟩, fun e1 => by have := e _ e1; simp at this; omega⟩
  · have := e _ e1; simp at this; omega
  · have := e _ e1; simp at this; omega
theorem digt_not {c : UInt8} (h : digt c = true) : blank c = false ∧ lettr c = false ∧ sgn c = false ∧ c ≠ 34 ∧ c ≠ 32 := by
  unfold digt at h
  simp only [Bool.and_eq_true, decide_eq_true_eq] at h
  have e : ∀ d : UInt8, c = d → c.toNat = d.toNat := fun d e => by rw [e]
  refine ⟨?_, ?_, ?_, fun e1 => ?_, fun e1 => ?_⟩
  · unfold blank
    rw [Bool.or_eq_false_iff, beq_eq_false_iff_ne, beq_eq_false_iff_ne]
    exact ⟨fun e1 => by have := e _ e1; simp at this; omega, fun e1 => by have := e _ e1; simp at this; omega⟩
  · unfold lettr
    rw [Bool.and_eq_false_iff]
    left
    exact decide_eq_false (by omega)
  · unfold sgn
    simp only [Bool.or_eq_false_iff, beq_eq_false_iff_ne]
    exact ⟨⟨fun e1 => by have := e _ e1; simp at this; omega, fun e1 => by have := e _ e1; simp at this; omega⟩, fun e1 => by have := e _ e1; simp at this; omega⟩
  · have := e _ e1; simp at this; omega
  · have := e _ e1; simp at this; omega
theorem stp_letter {r : List UInt8} (h : Stp r) : ∀ c x, r = c :: x → lettr c = false := fun c x e => by subst e; exact h.1
theorem stp_digit {r : List UInt8} (h : Stp r) : ∀ c x, r = c :: x → digt c = false := fun c x e => by subst e; exact h.2
theorem tok_word {w r : List UInt8} (hne : w ≠ []) (h : ∀ c ∈ w, lettr c = true) (k : ∀ c x, r = c :: x → lettr c = false) : tok (w ++ r) = ⟨1, w, w ++ r, r⟩ := by
  have ht := take_all h k
  cases w with
  | nil => exact absurd rfl hne
  | cons c w =>
    have hc := h c (by simp)
    unfold tok
    rw [List.cons_append, List.dropWhile_cons, if_neg (by rw [(lettr_not hc).1]; decide), tok1, if_pos hc]
    rw [List.cons_append] at ht
    rw [ht.1, ht.2]
theorem tok_numb {w r : List UInt8} (hne : w ≠ []) (h : ∀ c ∈ w, digt c = true) (k : ∀ c x, r = c :: x → digt c = false) (h10 : w.length ≤ 10) (h0 : w.length = 1 ∨ w.head? ≠ some 48) : tok (w ++ r) = ⟨2, w, w ++ r, r⟩ := by
  have ht := take_all h k
  cases w with
  | nil => exact absurd rfl hne
  | cons c w =>
    have hc := h c (by simp)
    unfold tok
    rw [List.cons_append, List.dropWhile_cons, if_neg (by rw [(digt_not hc).1]; decide), tok1, if_neg (by rw [(digt_not hc).2.1]; decide), if_pos hc]
    rw [List.cons_append] at ht
    unfold tokN
    rw [ht.1, ht.2]
    rw [if_neg]
    rw [Bool.or_eq_true, Bool.and_eq_true, decide_eq_true_eq, decide_eq_true_eq]
    rintro (h1 | ⟨h1, h2⟩)
    · omega
    · rcases h0 with h0 | h0
      · omega
      · exact h0 (by rw [beq_iff_eq] at h2; rw [h2]; rfl)
theorem tok_sign {c : UInt8} {r : List UInt8} (h : sgn c = true) : tok (c :: r) = ⟨4, [c], c :: r, r⟩ := by
  have hs := sgn_stop h
  unfold tok
  rw [List.dropWhile_cons, if_neg (by rw [hs.2.2]; decide), tok1, if_neg (by rw [hs.1]; decide), if_neg (by rw [hs.2.1]; decide), if_pos h]
theorem txt_esc' : ∀ (s r : List UInt8), txt (esc s ++ 34 :: r) = some (s, r)
  | [], r => by
    rw [esc, List.nil_append]
    cases r <;> simp [txt]
  | c :: s, r => by
    have ih := txt_esc' s r
    rw [esc]
    by_cases h : c = 34 ∨ c = 92
    · rw [if_pos h]
      show txt (92 :: c :: (esc s ++ 34 :: r)) = _
      rw [txt, if_neg (by decide), if_pos rfl, ih]
      rfl
    · rw [if_neg h]
      show txt (c :: (esc s ++ 34 :: r)) = _
      have h1 : c ≠ 34 := fun e => h (.inl e)
      have h2 : c ≠ 92 := fun e => h (.inr e)
      cases hx : esc s ++ 34 :: r with
      | nil => simp at hx
      | cons d x =>
        rw [txt, if_neg h1, if_neg h2, ← hx, ih]
        rfl
theorem tok_quo (s r : List UInt8) : tok (quo s ++ r) = ⟨3, s, quo s ++ r, r⟩ := by
  have h := txt_esc' s r
  unfold tok quo
  rw [List.cons_append, List.append_assoc]
  show tok1 (List.dropWhile blank (34 :: (esc s ++ 34 :: r))) = _
  rw [List.dropWhile_cons, if_neg (by decide), tok1, if_neg (by decide), if_neg (by decide), if_neg (by decide), if_pos rfl]
  unfold tokT
  rw [h]
  rfl
theorem wd_letters : ∀ k, k ≤ 9 → ∀ c ∈ wd k, lettr c = true := by
  intro k hk
  rcases (show k = 0 ∨ k = 1 ∨ k = 2 ∨ k = 3 ∨ k = 4 ∨ k = 5 ∨ k = 6 ∨ k = 7 ∨ k = 8 ∨ k = 9 from by omega) with rfl | rfl | rfl | rfl | rfl | rfl | rfl | rfl | rfl | rfl <;> decide
theorem wd_ne : ∀ k, 1 ≤ k → k ≤ 9 → wd k ≠ [] := by
  intro k h1 hk
  rcases (show k = 1 ∨ k = 2 ∨ k = 3 ∨ k = 4 ∨ k = 5 ∨ k = 6 ∨ k = 7 ∨ k = 8 ∨ k = 9 from by omega) with rfl | rfl | rfl | rfl | rfl | rfl | rfl | rfl | rfl <;> decide
theorem kw_of (k : Nat) (h1 : 1 ≤ k) (h2 : k ≤ 9) : kw (wd k) = k := by
  rcases (show k = 1 ∨ k = 2 ∨ k = 3 ∨ k = 4 ∨ k = 5 ∨ k = 6 ∨ k = 7 ∨ k = 8 ∨ k = 9 from by omega) with rfl | rfl | rfl | rfl | rfl | rfl | rfl | rfl | rfl <;> decide
/-- The digits of a number. -/
theorem dec_digits (n : Nat) : (∀ c ∈ Lib.decDigits n, digt c = true) ∧ Lib.decDigits n ≠ [] ∧ ((Lib.decDigits n).length = 1 ∨ (Lib.decDigits n).head? ≠ some 48) ∧ num (Lib.decDigits n) = n := by
  have hd : ∀ k, k < 10 → digt (UInt8.ofNat (48 + k)) = true ∧ (UInt8.ofNat (48 + k)).toNat - 48 = k ∧ (0 < k → UInt8.ofNat (48 + k) ≠ 48) := fun k hk => by
    rcases (show k = 0 ∨ k = 1 ∨ k = 2 ∨ k = 3 ∨ k = 4 ∨ k = 5 ∨ k = 6 ∨ k = 7 ∨ k = 8 ∨ k = 9 from by omega) with rfl | rfl | rfl | rfl | rfl | rfl | rfl | rfl | rfl | rfl <;> decide
  induction n using Nat.strongRecOn with
  | _ n ih =>
    by_cases h : n < 10
    · have h1 := hd n h
      rw [Lib.decDigits, dif_pos h]
      refine ⟨fun c hc => by rw [List.mem_singleton] at hc; rw [hc]; exact h1.1, by simp, .inl rfl, ?_⟩
      unfold num
      simp only [List.foldl_cons, List.foldl_nil]
      omega
    · have h1 := hd (n % 10) (by omega)
      have h2 := ih (n / 10) (by omega)
      rw [Lib.decDigits, dif_neg h]
      refine ⟨fun c hc => ?_, by simp, .inr ?_, ?_⟩
      · rcases List.mem_append.1 hc with hc | hc
        · exact h2.1 c hc
        · rw [List.mem_singleton] at hc; rw [hc]; exact h1.1
      · rcases h2.2.2.1 with h3 | h3
        · have h4 : n / 10 < 10 := by
            rcases Nat.lt_or_ge (n / 10) 10 with h5 | h5
            · exact h5
            · rw [Lib.decDigits, dif_neg (by omega)] at h3
              have h6 := (ih (n / 10 / 10) (by omega)).2.1
              simp at h3
              exact absurd h3 h6
          have h5 := hd (n / 10) h4
          rw [Lib.decDigits, dif_pos h4]
          intro e
          exact h5.2.2 (by omega) (Option.some.inj e)
        · rw [List.head?_append]
          cases hh : (Lib.decDigits (n / 10)).head? with
          | none => rw [List.head?_eq_none_iff] at hh; exact absurd hh h2.2.1
          | some c => rw [hh] at h3; simpa using h3
      · have h3 := h2.2.2.2
        unfold num at *
        rw [List.foldl_append, h3]
        simp only [List.foldl_cons, List.foldl_nil]
        omega
/-- Blanks laid between: what stands for the byte at that place. -/
def spc (h : Nat → UInt8 → List UInt8) : Nat → List UInt8 → List UInt8
  | _, [] => []
  | i, c :: l => h i c ++ spc h (i + 1) l
theorem spc_app (h : Nat → UInt8 → List UInt8) : ∀ (a b : List UInt8) (i : Nat), spc h i (a ++ b) = spc h i a ++ spc h (i + a.length) b
  | [], b, i => by simp [spc]
  | c :: a, b, i => by
    rw [List.cons_append, spc, spc, spc_app h a b (i + 1), List.append_assoc, List.length_cons, Nat.add_assoc, Nat.add_comm 1]
/-- Blanks around signs, and behind a blank; nothing else turns. -/
structure Gap (h : Nat → UInt8 → List UInt8) : Prop where
  other : ∀ i c, sgn c = false → c ≠ 32 → h i c = [c]
  sign : ∀ i c, sgn c = true → ∃ a b, Bln a ∧ Bln b ∧ h i c = a ++ c :: b
  space : ∀ i, ∃ b, Bln b ∧ h i 32 = 32 :: b
theorem spc_same {h : Nat → UInt8 → List UInt8} : ∀ (l : List UInt8) (i : Nat), (∀ c ∈ l, ∀ j, h j c = [c]) → spc h i l = l
  | [], i, _ => rfl
  | c :: l, i, hl => by rw [spc, hl c (by simp) i, spc_same l (i + 1) (fun d hd => hl d (by simp [hd]))]; rfl
theorem gap_sign {h : Nat → UInt8 → List UInt8} (g : Gap h) (i : Nat) (c : UInt8) (hc : sgn c = true) (l : List UInt8) : ∃ a b, Bln a ∧ Bln b ∧ spc h i (c :: l) = a ++ c :: (b ++ spc h (i + 1) l) := by
  obtain ⟨a, b, h1, h2, h3⟩ := g.sign i c hc
  exact ⟨a, b, h1, h2, by rw [spc, h3]; simp⟩
theorem gap_space {h : Nat → UInt8 → List UInt8} (g : Gap h) (i : Nat) (l : List UInt8) : ∃ b, Bln b ∧ spc h i (32 :: l) = b ++ spc h (i + 1) l := by
  obtain ⟨b, h1, h2⟩ := g.space i
  exact ⟨32 :: b, fun c hc => by rcases List.mem_cons.1 hc with rfl | hc; decide; exact h1 c hc, by rw [spc, h2]⟩
theorem gap_letters {h : Nat → UInt8 → List UInt8} (g : Gap h) (i : Nat) {w : List UInt8} (hw : ∀ c ∈ w, lettr c = true) : spc h i w = w := spc_same w i fun c hc j => g.other j c (lettr_not (hw c hc)).2.2.1 (lettr_not (hw c hc)).2.2.2.2
theorem gap_digits {h : Nat → UInt8 → List UInt8} (g : Gap h) (i : Nat) {w : List UInt8} (hw : ∀ c ∈ w, digt c = true) : spc h i w = w := spc_same w i fun c hc j => g.other j c (digt_not (hw c hc)).2.2.1 (digt_not (hw c hc)).2.2.2.2
mutual
def noAt : Rt → Bool
  | .mk k _ _ _ kids => !(k == 6) && noAtL kids
def noAtL : List Rt → Bool
  | [] => true
  | r :: rs => noAt r && noAtL rs
end
theorem tok_key {w r : List UInt8} {k : Nat} (h1 : 1 ≤ k) (h2 : k ≤ 9) (hw : w = wd k) (hr : ∀ c x, r = c :: x → lettr c = false) {b : List UInt8} (hb : Bln b) : (tok (b ++ (w ++ r))).key = k ∧ (tok (b ++ (w ++ r))).rest = r := by
  subst hw
  rw [tok_bln hb, tok_word (wd_ne k h1 h2) (wd_letters k h2) hr]
  exact ⟨by unfold Tk.key; rw [if_pos rfl]; exact kw_of k h1 h2, rfl⟩
theorem stp_lead {a : List UInt8} {c : UInt8} {r : List UInt8} (ha : Bln a) (hc : sgn c = true) : Stp (a ++ c :: r) := stp_bln ha ⟨(sgn_stop hc).1, (sgn_stop hc).2.1⟩
theorem is_sign {a : List UInt8} {c : UInt8} {r : List UInt8} (ha : Bln a) (hc : sgn c = true) : (tok (a ++ c :: r)).rest = r ∧ ∀ d, (tok (a ++ c :: r)).is d = decide (c = d) := by
  rw [tok_bln ha, tok_sign hc]
  refine ⟨rfl, fun d => ?_⟩
  unfold Tk.is
  simp
theorem one_kids {k n : Int} {key val : ByteArray} {m : Nat} (h : oneR k n key val m = true) : (k = 5 → n = 0 ∧ key = ⟨#[]⟩ ∧ val = ⟨#[]⟩ ∧ m = 0) ∧ (k = 6 → n = 0 ∧ m = 0 ∧ key.size ≤ 16 ∧ val.size ≤ 16) ∧ (k = 1 ∨ k = 2 → n = 0 ∧ key = ⟨#[]⟩ ∧ val = ⟨#[]⟩) ∧ (k = 3 → n = 0 ∧ m = 1 ∧ key = ⟨#[]⟩ ∧ val = ⟨#[]⟩) ∧ (k = 4 ∨ k = 7 ∨ k = 8 ∨ k = 9 → 0 ≤ n ∧ n ≤ 1073741824 ∧ m = 0 ∧ key = ⟨#[]⟩ ∧ val = ⟨#[]⟩) := by
  have hem : ∀ s : ByteArray, s.toList.isEmpty = true → s = ⟨#[]⟩ := fun s hs => by
    obtain ⟨⟨l⟩⟩ := s
    rw [ByteArray.toList_mk] at hs
    cases l with
    | nil => rfl
    | cons c l => simp at hs
  unfold oneR at h
  by_cases h6 : (k == 6) = true
  · rw [if_pos h6] at h
    have e6 := eq_of_beq h6
    subst e6
    simp at h
    exact ⟨fun e => by omega, fun _ => ⟨h.1, by omega, by omega, by omega⟩, fun e => by omega, fun e => by omega, fun e => by omega⟩
  · rw [if_neg h6] at h
    rw [Bool.and_eq_true, Bool.and_eq_true] at h
    have hk := hem key h.1
    have hv := hem val h.2.1
    have h3 := h.2.2
    refine ⟨fun e => ?_, fun e => ?_, fun e => ?_, fun e => ?_, fun e => ?_⟩
    · subst e; simp at h3; exact ⟨h3.1, hk, hv, by omega⟩
    · subst e; simp at h6
    · rcases e with rfl | rfl <;> (simp at h3; exact ⟨h3, hk, hv⟩)
    · subst e; simp at h3; exact ⟨h3.1, by omega, hk, hv⟩
    · rcases e with rfl | rfl | rfl | rfl <;> (simp [gmost] at h3; exact ⟨by omega, by omega, by omega, hk, hv⟩)
end Wm
end Go.Proofs.YtgiahfjndononaaDoor
