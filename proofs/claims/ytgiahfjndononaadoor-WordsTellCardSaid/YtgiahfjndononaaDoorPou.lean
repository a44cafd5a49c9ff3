/- What a text begins with is read the same, whatever stands behind it; and what is read of a beginning of a policy. -/
import Derived.Test.YtgiahfjndononaaDoorPot
namespace Go.Proofs.YtgiahfjndononaaDoor
open Go.RowKit
set_option linter.unusedVariables false
set_option linter.unusedSimpArgs false
set_option maxRecDepth 100000

namespace Wm
theorem dw_app (p : UInt8 → Bool) : ∀ (l x : List UInt8), l.dropWhile p ≠ [] → (l ++ x).dropWhile p = l.dropWhile p ++ x ∧ (l ++ x).takeWhile p = l.takeWhile p
  | [], x, h => absurd rfl h
  | c :: l, x, h => by
    rw [List.cons_append, List.dropWhile_cons, List.dropWhile_cons, List.takeWhile_cons, List.takeWhile_cons]
    rw [List.dropWhile_cons] at h
    by_cases hc : p c = true
    · rw [if_pos hc] at h
      have h1 := dw_app p l x h
      rw [if_pos hc, if_pos hc, if_pos hc, if_pos hc, h1.1, h1.2]
      exact ⟨rfl, rfl⟩
    · rw [if_neg hc, if_neg hc, if_neg hc, if_neg hc]
      exact ⟨rfl, rfl⟩
theorem txt_app (x : List UInt8) : ∀ (n : Nat) (l a b : List UInt8), l.length ≤ n → txt l = some (a, b) → txt (l ++ x) = some (a, b ++ x)
  | n, [], a, b, _, h => by simp [txt] at h
  | 0, _ :: _, a, b, h, _ => by simp at h
  | n + 1, [c], a, b, _, h => by
    rw [txt] at h
    split at h
    · rename_i hc
      simp at h
      obtain ⟨rfl, rfl⟩ := h
      subst hc
      cases x <;> simp [txt]
    · cases h
  | n + 1, c :: d :: r, a, b, hn, h => by
    simp only [List.length_cons] at hn
    rw [txt] at h
    show txt (c :: d :: (r ++ x)) = _
    rw [txt]
    split at h
    · rename_i hc
      rw [if_pos hc]
      simp at h
      obtain ⟨rfl, rfl⟩ := h
      rfl
    · rename_i hc
      rw [if_neg hc]
      split at h
      · rename_i h92
        rw [if_pos h92]
        rw [Option.map_eq_some_iff] at h
        obtain ⟨⟨a', b'⟩, h1, h2⟩ := h
        simp only [Prod.mk.injEq] at h2
        obtain ⟨rfl, rfl⟩ := h2
        rw [txt_app x n r a' b' (by omega) h1]
        rfl
      · rename_i h92
        rw [if_neg h92]
        rw [Option.map_eq_some_iff] at h
        obtain ⟨⟨a', b'⟩, h1, h2⟩ := h
        simp only [Prod.mk.injEq] at h2
        obtain ⟨rfl, rfl⟩ := h2
        have := txt_app x n (d :: r) a' b' (by simp only [List.length_cons]; omega) h1
        rw [show d :: (r ++ x) = d :: r ++ x from rfl, this]
        rfl
theorem tok1_app {l : List UInt8} (x : List UInt8) (h : (tok1 l).kind = 3 ∨ (tok1 l).kind = 4 ∨ (((tok1 l).kind = 1 ∨ (tok1 l).kind = 2) ∧ (tok1 l).rest ≠ [])) : tok1 (l ++ x) = ⟨(tok1 l).kind, (tok1 l).say, (tok1 l).from_ ++ x, (tok1 l).rest ++ x⟩ := by
  cases l with
  | nil => simp [tok1] at h
  | cons c r =>
    rw [List.cons_append, tok1, tok1] at *
    by_cases h1 : lettr c = true
    · simp only [if_pos h1] at h ⊢
      have hr : (c :: r).dropWhile lettr ≠ [] := by simpa using h
      have := dw_app lettr (c :: r) x hr
      rw [List.cons_append] at this
      rw [this.1, this.2]
      rfl
    · simp only [if_neg h1] at h ⊢
      by_cases h2 : digt c = true
      · simp only [if_pos h2] at h ⊢
        unfold tokN at h ⊢
        by_cases h3 : (decide (10 < ((c :: r).takeWhile digt).length) || (decide (1 < ((c :: r).takeWhile digt).length) && c == 48)) = true
        · simp only [if_pos h3] at h
          simp at h
        · simp only [if_neg h3] at h ⊢
          have hr : (c :: r).dropWhile digt ≠ [] := by simpa using h
          have := dw_app digt (c :: r) x hr
          rw [List.cons_append] at this
          rw [this.1, this.2, if_neg h3]
          rfl
      · simp only [if_neg h2] at h ⊢
        by_cases h3 : sgn c = true
        · simp only [if_pos h3]
          rfl
        · simp only [if_neg h3] at h ⊢
          by_cases h4 : c = 34
          · simp only [if_pos h4] at h ⊢
            unfold tokT at h ⊢
            cases ht : txt r with
            | none => rw [ht] at h; simp at h
            | some p =>
              obtain ⟨a, b⟩ := p
              rw [txt_app x _ r a b (Nat.le_refl _) ht]
              rfl
          · simp only [if_neg h4] at h
            simp at h
theorem tok1_from (l : List UInt8) (h : (tok1 l).kind ≠ 0) : l ≠ [] := fun e => by subst e; exact h rfl
theorem tok_app {l : List UInt8} (x : List UInt8) (h : (tok l).kind = 3 ∨ (tok l).kind = 4 ∨ (((tok l).kind = 1 ∨ (tok l).kind = 2) ∧ (tok l).rest ≠ [])) : tok (l ++ x) = ⟨(tok l).kind, (tok l).say, (tok l).from_ ++ x, (tok l).rest ++ x⟩ := by
  unfold tok at h ⊢
  have hne : l.dropWhile blank ≠ [] := tok1_from _ (by rcases h with h | h | ⟨h | h, _⟩ <;> omega)
  rw [(dw_app blank l x hne).1]
  exact tok1_app x h
theorem tok_word1 {l : List UInt8} (x : List UInt8) (h : (tok l).kind = 1) : (tok (l ++ x)).kind = 1 := by
  unfold tok at h ⊢
  have hne : l.dropWhile blank ≠ [] := tok1_from _ (by omega)
  rw [(dw_app blank l x hne).1]
  cases hl : l.dropWhile blank with
  | nil => exact absurd hl hne
  | cons c r =>
    rw [hl] at h
    rw [List.cons_append, tok1]
    rw [tok1] at h
    by_cases h1 : lettr c = true
    · rw [if_pos h1]
    · rw [if_neg h1] at h
      exfalso
      by_cases h2 : digt c = true
      · rw [if_pos h2] at h; unfold tokN at h; split at h <;> simp at h
      · rw [if_neg h2] at h
        by_cases h3 : sgn c = true
        · rw [if_pos h3] at h; simp at h
        · rw [if_neg h3] at h
          by_cases h4 : c = 34
          · rw [if_pos h4] at h; unfold tokT at h; split at h <;> simp at h
          · rw [if_neg h4] at h; simp at h
theorem tok_nil : tok [] = ⟨0, [], [], []⟩ := rfl
theorem is_app {l : List UInt8} {c : UInt8} (x : List UInt8) (h : (tok l).is c = true) : (tok (l ++ x)).rest = (tok l).rest ++ x ∧ ∀ d, (tok (l ++ x)).is d = (tok l).is d := by
  have hk := is_kind h
  rw [tok_app x (.inr (.inl hk))]
  exact ⟨rfl, fun d => rfl⟩
def cls : Rt → Prop
  | .mk k _ _ _ _ => k = 1 ∨ k = 2 ∨ k = 3 ∨ k = 6
theorem more_app (x : List UInt8) {p p' : List UInt8 → Res Rt} (hp : ∀ l t r, p l = .ok t r → r ≠ [] → p' (l ++ x) = .ok t (r ++ x)) : ∀ (m m' : Nat) (acc rs : List Rt) (l l3 : List UInt8), m ≤ m' → more p m acc l = .ok rs l3 → (tok l3).is 41 = true → more p' m' acc (l ++ x) = .ok rs (l3 ++ x)
  | 0, _, _, _, _, _, _, h, _ => by rw [more] at h; cases h
  | m + 1, m', acc, rs, l, l3, hm, h, h41 => by
    obtain ⟨m', rfl⟩ : ∃ k, m' = k + 1 := ⟨m' - 1, by omega⟩
    rw [more] at h ⊢
    by_cases h44 : (tok l).is 44 = true
    · have ha := is_app x h44
      rw [if_pos h44] at h
      rw [if_pos (by rw [ha.2]; exact h44), ha.1]
      cases hq : p (tok l).rest with
      | bad e => rw [hq] at h; cases h
      | ok r l2 =>
        rw [hq] at h
        simp only at h
        have hne : l2 ≠ [] := by
          intro e
          subst e
          cases m with
          | zero => rw [more] at h; cases h
          | succ m =>
            rw [more, tok_nil, if_neg (by decide)] at h
            injection h with _ h
            subst h
            rw [tok_nil] at h41
            exact absurd h41 (by decide)
        rw [hp _ _ _ hq hne]
        exact more_app x hp m m' (acc ++ [r]) rs l2 l3 (by omega) h h41
    · rw [if_neg h44] at h
      injection h with e1 e2
      subst e1 e2
      have ha := is_app x h41
      rw [if_neg (by rw [ha.2]; exact h44)]
theorem more_ne {p : List UInt8 → Res Rt} {m : Nat} {acc rs : List Rt} {l l3 : List UInt8} (h : more p m acc l = .ok rs l3) (h41 : (tok l3).is 41 = true) : l ≠ [] := by
  intro e
  subst e
  cases m with
  | zero => rw [more] at h; cases h
  | succ m =>
    rw [more, tok_nil, if_neg (by decide)] at h
    injection h with _ h
    subst h
    rw [tok_nil] at h41
    exact absurd h41 (by decide)
theorem kind_rest {l : List UInt8} (h : (tok l).kind ≠ 0) : l ≠ [] := fun e => by subst e; exact h rfl
theorem pol_app : ∀ (f : Nat) (l : List UInt8) (t : Rt) (r : List UInt8), pol f l = .ok t r → (r ≠ [] ∨ cls t) → ∀ (f' : Nat) (x : List UInt8), f ≤ f' → pol f' (l ++ x) = .ok t (r ++ x)
  | 0, l, t, r, h, _, _, _, _ => by rw [pol] at h; cases h
  | f + 1, l, t, r, h, hc, f', x, hf => by
    obtain ⟨f', rfl⟩ : ∃ k, f' = k + 1 := ⟨f' - 1, by omega⟩
    have hk1 := pol_kind h
    obtain ⟨k, hk⟩ : ∃ k, (tok l).key = k := ⟨_, rfl⟩
    have hk9 := key_le (tok l)
    have hk0 : k ≠ 0 := by
      intro e
      rw [pol, if_pos (by omega)] at h
      cases h
    have hkey : (tok l).rest ≠ [] → (tok (l ++ x)).key = k ∧ (tok (l ++ x)).rest = (tok l).rest ++ x := fun hr => by
      rw [tok_app x (.inr (.inr ⟨.inl hk1, hr⟩))]
      exact ⟨hk, rfl⟩
    rcases (show k = 5 ∨ k = 6 ∨ (1 ≤ k ∧ k ≤ 3) ∨ (k = 4 ∨ (7 ≤ k ∧ k ≤ 9)) from by omega) with rfl | rfl | hk2 | hk2
    · rw [pol5 hk] at h
      injection h with e1 e2
      subst e1 e2
      have hr : (tok l).rest ≠ [] := by
        rcases hc with hc | hc
        · exact hc
        · simp [cls] at hc
      have h2 := hkey hr
      rw [pol5 h2.1, h2.2]
    · rw [pol6 hk] at h
      unfold polA at h
      by_cases h3 : (tok (tok l).rest).kind = 3
      · rw [if_pos h3] at h
        by_cases h4 : (tok (tok (tok l).rest).rest).kind = 3
        · rw [if_pos h4] at h
          injection h with e1 e2
          subst e1 e2
          have h2 := hkey (kind_rest (by omega))
          rw [pol6 h2.1, h2.2]
          unfold polA
          rw [tok_app x (.inl h3)]
          simp only
          rw [if_pos h3, tok_app x (.inl h4)]
          simp only
          rw [if_pos h4]
        · rw [if_neg h4] at h; cases h
      · rw [if_neg h3] at h; cases h
    · rw [polIn hk hk2] at h
      unfold polK at h
      by_cases h40 : (tok (tok l).rest).is 40 = true
      · rw [if_pos h40] at h
        have h2 := hkey (kind_rest (by have := is_kind h40; omega))
        have ha := is_app x h40
        rw [polIn h2.1 hk2, h2.2]
        unfold polK
        rw [if_pos (by rw [ha.2]; exact h40), ha.1]
        by_cases h41 : k ≠ 3 ∧ (tok (tok (tok l).rest).rest).is 41 = true
        · rw [if_pos h41] at h
          injection h with e1 e2
          subst e1 e2
          have hb := is_app x h41.2
          rw [if_pos ⟨h41.1, by rw [hb.2]; exact h41.2⟩, hb.1]
        · rw [if_neg h41] at h
          unfold kids at h ⊢
          cases hq : pol f (tok (tok l).rest).rest with
          | bad e => rw [hq] at h; simp [close] at h
          | ok r0 l2 =>
            rw [hq] at h
            simp only at h
            have hkd := tok_word1 x (pol_kind hq)
            rw [if_neg (fun e => by have := is_kind e.2; omega)]
            have hfin : ∀ (rs : List Rt) (l3 : List UInt8), close k (.ok rs l3) = .ok t r → (tok l3).is 41 = true ∧ close k (.ok rs (l3 ++ x)) = .ok t (r ++ x) := fun rs l3 h => by
              unfold close at h ⊢
              simp only at h ⊢
              by_cases hq : (tok l3).is 41 = true
              · rw [if_pos hq] at h
                injection h with e1 e2
                subst e1 e2
                have hb := is_app x hq
                rw [if_pos (by rw [hb.2]; exact hq), hb.1]
                exact ⟨hq, rfl⟩
              · rw [if_neg hq] at h; cases h
            by_cases h3 : k = 3
            · rw [if_pos h3] at h
              have hz := hfin _ _ h
              have hne : l2 ≠ [] := fun e => by subst e; have := hz.1; rw [tok_nil] at this; exact absurd this (by decide)
              rw [pol_app f _ _ _ hq (.inl hne) f' x (by omega)]
              simp only
              rw [if_pos h3]
              exact hz.2
            · rw [if_neg h3] at h
              cases hm : more (pol f) f [r0] l2 with
              | bad e => rw [hm] at h; simp [close] at h
              | ok rs l3 =>
                rw [hm] at h
                have hz := hfin _ _ h
                have hne := more_ne hm hz.1
                rw [pol_app f _ _ _ hq (.inl hne) f' x (by omega)]
                simp only
                rw [if_neg h3, more_app x (fun l t r hl hr => pol_app f l t r hl (.inl hr) f' x (by omega)) f f' [r0] rs l2 l3 (by omega) hm hz.1]
                exact hz.2
      · rw [if_neg h40] at h; cases h
    · rw [polNu hk hk2] at h
      unfold polN at h
      by_cases h2 : (tok (tok l).rest).kind = 2
      · rw [if_pos h2] at h
        injection h with e1 e2
        subst e1 e2
        have hr : (tok (tok l).rest).rest ≠ [] := by
          rcases hc with hc | hc
          · exact hc
          · simp [cls] at hc; omega
        have h3 := hkey (kind_rest (by omega))
        rw [polNu h3.1 hk2, h3.2]
        unfold polN
        rw [tok_app x (.inr (.inr ⟨.inr h2, hr⟩))]
        simp only
        rw [if_pos h2]
      · rw [if_neg h2] at h; cases h
end Wm
end Go.Proofs.YtgiahfjndononaaDoor
