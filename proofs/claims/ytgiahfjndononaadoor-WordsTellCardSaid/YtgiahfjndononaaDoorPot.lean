/- What is written of a policy, with blanks between its tokens, is read as it. -/
import Derived.Test.YtgiahfjndononaaDoorPos
import Derived.Test.YtgiahfjndononaaDoorGr
namespace Go.Proofs.YtgiahfjndononaaDoor
open Go.RowKit
set_option linter.unusedVariables false
set_option linter.unusedSimpArgs false
set_option maxRecDepth 100000

namespace Wm
theorem pol_kind {f : Nat} {l : List UInt8} {t : Rt} {r : List UInt8} (h : pol f l = .ok t r) : (tok l).kind = 1 := by
  cases f with
  | zero => cases h
  | succ f =>
    rw [pol] at h
    by_cases h0 : (tok l).key = 0
    · rw [if_pos h0] at h; cases h
    · exact key_pos h0
theorem pol5 {f : Nat} {l : List UInt8} (h : (tok l).key = 5) : pol (f + 1) l = .ok (.mk 5 0 ⟨#[]⟩ ⟨#[]⟩ []) (tok l).rest := by
  rw [pol, if_neg (by rw [h]; decide), if_pos h]
theorem pol6 {f : Nat} {l : List UInt8} (h : (tok l).key = 6) : pol (f + 1) l = polA (tok l).rest := by
  rw [pol, if_neg (by rw [h]; decide), if_neg (by rw [h]; decide), if_pos h]
theorem polIn {f k : Nat} {l : List UInt8} (h : (tok l).key = k) (hk : 1 ≤ k ∧ k ≤ 3) : pol (f + 1) l = polK (pol f) k f (tok l).rest := by
  rw [pol, if_neg (by omega), if_neg (by omega), if_neg (by omega), if_pos (by omega), h]
theorem polNu {f k : Nat} {l : List UInt8} (h : (tok l).key = k) (hk : k = 4 ∨ (7 ≤ k ∧ k ≤ 9)) : pol (f + 1) l = polN k (tok l).rest := by
  rw [pol, if_neg (by omega), if_neg (by omega), if_neg (by omega), if_neg (by omega), h]
section
variable {h : Nat → UInt8 → List UInt8} (g : Gap h)
include g
theorem stp_T (i : Nat) (l : List Rt) {a y : List UInt8} (ha : Bln a) : Stp (spc h i (shwT l) ++ (a ++ 41 :: y)) := by
  cases l with
  | nil => rw [shwT_nil]; exact stp_lead ha (by decide)
  | cons x l =>
    rw [shwT_cons]
    obtain ⟨a1, b1, h1, h2, h3⟩ := gap_sign g i 44 (by decide) (32 :: (shw x ++ shwT l))
    rw [h3, List.append_assoc, List.cons_append]
    exact stp_lead h1 (by decide)
theorem spc_len (i : Nat) : ∀ (l : List Rt), l.length ≤ (spc h i (shwT l)).length := by
  have hone : ∀ (w : List UInt8) (i : Nat), w.length ≤ (spc h i w).length := by
    intro w
    induction w with
    | nil => intro i; simp [spc]
    | cons c w ih =>
      intro i
      rw [spc, List.length_append, List.length_cons]
      have h1 := ih (i + 1)
      have h2 : 1 ≤ (h i c).length := by
        by_cases hs : sgn c = true
        · obtain ⟨a, b, _, _, e⟩ := g.sign i c hs
          rw [e]; simp; omega
        · by_cases h32 : c = 32
          · obtain ⟨b, _, e⟩ := g.space i
            rw [h32, e]; simp
          · rw [g.other i c (by simpa using hs) h32]; simp
      omega
  intro l
  refine Nat.le_trans ?_ (hone _ i)
  induction l with
  | nil => simp
  | cons x l ih => rw [shwT_cons]; simp; omega
omit g in
theorem dig_len10 {n : Nat} (hn : n ≤ 1073741824) : (Lib.decDigits n).length ≤ 10 := by
  have nd : ∀ (m u : Nat), m < Lib.nDigits u → 1 ≤ u → 10 ^ m ≤ u := by
    intro m
    induction m with
    | zero => intro u _ h; simpa using h
    | succ m ih =>
      intro u h5 h6
      by_cases h7 : u < 10
      · rw [Lib.nDigits_small h7] at h5; omega
      · rw [Lib.nDigits_big h7] at h5
        have := ih (u / 10) (by omega) (by omega)
        rw [Nat.pow_succ]
        omega
  rw [Lib.decDigits_length]
  rcases Nat.eq_zero_or_pos n with rfl | hp
  · rw [Lib.nDigits_small (by omega)]; omega
  · rcases Nat.lt_or_ge 10 (Lib.nDigits n) with h2 | h2
    · have := nd 10 n h2 hp
      have h8 : (10 : Nat) ^ 10 = 10000000000 := by decide
      omega
    · exact h2
mutual
theorem pol_spc : (t : Rt) → ∀ (f i : Nat) (bl r : List UInt8), t.all = true → (noAt t = true ∨ ∀ i c, h i c = [c]) → Bln bl → Stp r → (bl ++ (spc h i (shw t) ++ r)).length < f → ∃ q, Bln q ∧ pol f (bl ++ (spc h i (shw t) ++ r)) = .ok t (q ++ r)
  | .mk k n key val kids, f, i, bl, r, ha, hn, hb, hr, hf => by
    rw [Rt.all_mk, Bool.and_eq_true] at ha
    obtain ⟨h1, h2⟩ := ha
    have hrg := one_range h1
    obtain ⟨o5, o6, o1, o3, on⟩ := one_kids h1
    obtain ⟨f, rfl⟩ : ∃ f0, f = f0 + 1 := ⟨f - 1, by omega⟩
    have hs := shw_mk k n key val kids
    rcases (show k = 5 ∨ k = 6 ∨ (k = 1 ∨ k = 2 ∨ k = 3) ∨ (k = 4 ∨ k = 7 ∨ k = 8 ∨ k = 9) from by omega) with rfl | rfl | hk | hk
    · obtain ⟨rfl, rfl, rfl, hm⟩ := o5 rfl
      have hk0 := List.length_eq_zero_iff.1 hm
      subst hk0
      have hs2 : shw (.mk 5 0 ⟨#[]⟩ ⟨#[]⟩ []) = wd 5 := by rw [hs]; simp
      rw [hs2, gap_letters g i (wd_letters 5 (by decide))]
      have hk := tok_key (k := 5) (by decide) (by decide) rfl (stp_letter hr) hb
      exact ⟨[], bln_nil, by rw [pol5 hk.1, hk.2]; rfl⟩
    · obtain ⟨rfl, hm, _, _⟩ := o6 rfl
      have hk0 := List.length_eq_zero_iff.1 hm
      subst hk0
      have hid : ∀ i c, h i c = [c] := by
        rcases hn with hn | hn
        · rw [noAt] at hn; simp at hn
        · exact hn
      have hs2 : shw (.mk 6 0 key val []) = wd 6 ++ (32 :: (quo key.data.toList ++ (32 :: quo val.data.toList))) := by rw [hs]; simp
      rw [hs2, spc_same _ i (fun c _ j => hid j c), List.append_assoc]
      have hk := tok_key (k := 6) (by decide) (by decide) rfl (r := (32 :: (quo key.data.toList ++ (32 :: quo val.data.toList))) ++ r) (fun c x e => by injection e with e _; rw [← e]; decide) hb
      refine ⟨[], bln_nil, ?_⟩
      rw [pol6 hk.1, hk.2]
      have hb32 : Bln [32] := fun c hc => by rw [List.mem_singleton] at hc; rw [hc]; decide
      have e1 : (32 :: (quo key.data.toList ++ (32 :: quo val.data.toList))) ++ r = [32] ++ (quo key.data.toList ++ ([32] ++ (quo val.data.toList ++ r))) := by simp
      have t1 : tok ((32 :: (quo key.data.toList ++ (32 :: quo val.data.toList))) ++ r) = ⟨3, key.data.toList, quo key.data.toList ++ ([32] ++ (quo val.data.toList ++ r)), [32] ++ (quo val.data.toList ++ r)⟩ := by rw [e1, tok_bln hb32, tok_quo]
      have t2 : tok ([32] ++ (quo val.data.toList ++ r)) = ⟨3, val.data.toList, quo val.data.toList ++ r, r⟩ := by rw [tok_bln hb32, tok_quo]
      unfold polA
      rw [t1, if_pos rfl]
      simp only
      rw [t2, if_pos rfl]
      rfl
    · have hkk : ∃ kk : Nat, k = (kk : Int) ∧ 1 ≤ kk ∧ kk ≤ 3 := ⟨k.toNat, by omega, by omega, by omega⟩
      obtain ⟨kk, rfl, hk1, hk2⟩ := hkk
      obtain ⟨rfl, rfl, rfl⟩ : n = 0 ∧ key = ⟨#[]⟩ ∧ val = ⟨#[]⟩ := by
        rcases hk with e | e | e
        · exact o1 (.inl e)
        · exact o1 (.inr e)
        · have := o3 e; exact ⟨this.1, this.2.2.1, this.2.2.2⟩
      have hn' : noAtL kids = true ∨ ∀ i c, h i c = [c] := by
        rcases hn with hn | hn
        · rw [noAt, Bool.and_eq_true] at hn; exact .inl hn.2
        · exact .inr hn
      have hs2 : shw (.mk (kk : Int) 0 ⟨#[]⟩ ⟨#[]⟩ kids) = wd kk ++ (40 :: (shwL kids ++ [41])) := by
        rw [hs]
        rcases (show kk = 1 ∨ kk = 2 ∨ kk = 3 from by omega) with rfl | rfl | rfl <;> rfl
      obtain ⟨a, b, ha1, hb1, e1⟩ := gap_sign g (i + (wd kk).length) 40 (by decide) (shwL kids ++ [41])
      obtain ⟨a', b', ha2, hb2, e2⟩ := gap_sign g (i + (wd kk).length + 1 + (shwL kids).length) 41 (by decide) []
      have etxt : bl ++ (spc h i (shw (.mk (kk : Int) 0 ⟨#[]⟩ ⟨#[]⟩ kids)) ++ r) = bl ++ (wd kk ++ (a ++ 40 :: (b ++ (spc h (i + (wd kk).length + 1) (shwL kids) ++ (a' ++ 41 :: (b' ++ r)))))) := by
        rw [hs2, spc_app, gap_letters g i (wd_letters kk (by omega)), e1, spc_app, e2]
        simp [spc]
      rw [etxt] at hf ⊢
      have hst : Stp (a ++ 40 :: (b ++ (spc h (i + (wd kk).length + 1) (shwL kids) ++ (a' ++ 41 :: (b' ++ r))))) := stp_lead ha1 (by decide)
      have hk := tok_key (k := kk) hk1 (by omega) rfl (stp_letter hst) hb
      rw [polIn hk.1 ⟨hk1, hk2⟩, hk.2]
      have hsg := is_sign (r := b ++ (spc h (i + (wd kk).length + 1) (shwL kids) ++ (a' ++ 41 :: (b' ++ r)))) ha1 (c := 40) (by decide)
      unfold polK
      rw [if_pos (by rw [hsg.2]; rfl), hsg.1]
      have hcl := is_sign (r := b' ++ r) ha2 (c := 41) (by decide)
      cases kids with
      | nil =>
        rw [shwL_nil, show spc h (i + (wd kk).length + 1) [] = [] from rfl, List.nil_append]
        have h41 := is_sign (r := b' ++ r) (bln_app hb1 ha2) (c := 41) (by decide)
        rw [List.append_assoc] at h41
        have h3 : kk ≠ 3 := by
          intro e
          subst e
          have := (o3 rfl).2.1
          simp at this
        refine ⟨b', hb2, ?_⟩
        rw [if_pos ⟨h3, by rw [h41.2]; rfl⟩, h41.1]
      | cons x xs =>
        rw [allL, Bool.and_eq_true] at h2
        rw [shwL_cons, spc_app]
        have hnx : noAt x = true ∨ ∀ i c, h i c = [c] := by
          rcases hn' with e | e
          · rw [noAtL, Bool.and_eq_true] at e; exact .inl e.1
          · exact .inr e
        have hnxs : noAtL xs = true ∨ ∀ i c, h i c = [c] := by
          rcases hn' with e | e
          · rw [noAtL, Bool.and_eq_true] at e; exact .inl e.2
          · exact .inr e
        rw [shwL_cons, spc_app] at hf
        have hlen : (b ++ (spc h (i + (wd kk).length + 1) (shw x) ++ (spc h (i + (wd kk).length + 1 + (shw x).length) (shwT xs) ++ (a' ++ 41 :: (b' ++ r))))).length < f := by
          simp only [List.length_append, List.length_cons] at hf ⊢
          omega
        obtain ⟨q, hq, hp⟩ := pol_spc x f (i + (wd kk).length + 1) b _ h2.1 hnx hb1 (stp_T g (i + (wd kk).length + 1 + (shw x).length) xs ha2) hlen
        rw [List.append_assoc (spc h (i + (wd kk).length + 1) (shw x))]
        have hkind := pol_kind hp
        rw [if_neg (fun e => by have := is_kind e.2; omega)]
        unfold kids
        rw [hp]
        simp only
        have hlen2 : (q ++ (spc h (i + (wd kk).length + 1 + (shw x).length) (shwT xs) ++ (a' ++ 41 :: (b' ++ r)))).length < f := by
          have := pol_short _ _ _ _ hp
          omega
        by_cases h3 : kk = 3
        · subst h3
          have hxs : xs = [] := by
            have := (o3 rfl).2.1
            simp at this
            exact this
          subst hxs
          refine ⟨b', hb2, ?_⟩
          rw [if_pos rfl, shwT_nil]
          show close 3 (.ok [x] (q ++ (a' ++ 41 :: (b' ++ r)))) = _
          have hc := is_sign (r := b' ++ r) (bln_app hq ha2) (c := 41) (by decide)
          rw [List.append_assoc] at hc
          unfold close
          simp only
          rw [if_pos (by rw [hc.2]; rfl), hc.1]
        · rw [if_neg h3]
          have hxl : xs.length < f := by
            have := spc_len g (i + (wd kk).length + 1 + (shw x).length) xs
            simp only [List.length_append] at hlen2
            omega
          obtain ⟨q', hq', hm⟩ := more_spc xs f f (i + (wd kk).length + 1 + (shw x).length) [x] q a' (b' ++ r) h2.2 hnxs hq ha2 hlen2 hxl
          rw [hm]
          have hc := is_sign (r := b' ++ r) (bln_app hq' ha2) (c := 41) (by decide)
          rw [List.append_assoc] at hc
          refine ⟨b', hb2, ?_⟩
          unfold close
          simp only
          rw [if_pos (by rw [hc.2]; rfl), hc.1]
          rfl
    · have hkk : ∃ kk : Nat, k = (kk : Int) ∧ (kk = 4 ∨ (7 ≤ kk ∧ kk ≤ 9)) := ⟨k.toNat, by omega, by omega⟩
      obtain ⟨kk, rfl, hk1⟩ := hkk
      obtain ⟨hn0, hn1, hm, rfl, rfl⟩ := on hk
      have hk0 := List.length_eq_zero_iff.1 hm
      subst hk0
      obtain ⟨nn, rfl⟩ : ∃ nn : Nat, n = (nn : Int) := ⟨n.toNat, by omega⟩
      have hs2 : shw (.mk (kk : Int) (nn : Int) ⟨#[]⟩ ⟨#[]⟩ []) = wd kk ++ (32 :: Lib.decDigits nn) := by
        rw [hs]
        rcases (show kk = 4 ∨ kk = 7 ∨ kk = 8 ∨ kk = 9 from by omega) with rfl | rfl | rfl | rfl <;> rfl
      have hdd := dec_digits nn
      obtain ⟨b, hb1, e1⟩ := gap_space g (i + (wd kk).length) (Lib.decDigits nn)
      have etxt : bl ++ (spc h i (shw (.mk (kk : Int) (nn : Int) ⟨#[]⟩ ⟨#[]⟩ [])) ++ r) = bl ++ (wd kk ++ (b ++ (Lib.decDigits nn ++ r))) := by
        rw [hs2, spc_app, gap_letters g i (wd_letters kk (by omega)), e1, gap_digits g _ hdd.1]
        simp
      rw [etxt]
      have hst : ∀ c x, b ++ (Lib.decDigits nn ++ r) = c :: x → lettr c = false := by
        intro c x e
        cases b with
        | nil =>
          cases hq : Lib.decDigits nn with
          | nil => exact absurd hq hdd.2.1
          | cons d y =>
            rw [hq, List.nil_append, List.cons_append] at e
            injection e with e _
            rw [← e]
            exact (digt_not (hdd.1 d (by rw [hq]; simp))).2.1
        | cons d y =>
          rw [List.cons_append] at e
          injection e with e _
          rw [← e]
          exact (blank_stop (hb1 d (by simp))).1
      have hk := tok_key (k := kk) (by omega) (by omega) rfl hst hb
      refine ⟨[], bln_nil, ?_⟩
      rw [polNu hk.1 hk1, hk.2]
      unfold polN
      rw [tok_bln hb1, tok_numb hdd.2.1 hdd.1 (stp_digit hr) (dig_len10 (by omega)) hdd.2.2.1, if_pos rfl]
      simp only
      rw [hdd.2.2.2]
      rfl
theorem more_spc : (l : List Rt) → ∀ (f m i : Nat) (acc : List Rt) (bl a y : List UInt8), allL l = true → (noAtL l = true ∨ ∀ i c, h i c = [c]) → Bln bl → Bln a → (bl ++ (spc h i (shwT l) ++ (a ++ 41 :: y))).length < f → l.length < m → ∃ q, Bln q ∧ more (pol f) m acc (bl ++ (spc h i (shwT l) ++ (a ++ 41 :: y))) = .ok (acc ++ l) (q ++ (a ++ 41 :: y))
  | [], f, m, i, acc, bl, a, y, _, _, hb, ha, hf, hm => by
    obtain ⟨m, rfl⟩ : ∃ m0, m = m0 + 1 := ⟨m - 1, by omega⟩
    have hc := is_sign (r := y) (bln_app hb ha) (c := 41) (by decide)
    rw [List.append_assoc] at hc
    refine ⟨bl, hb, ?_⟩
    rw [shwT_nil, more]
    show (if (tok (bl ++ (a ++ 41 :: y))).is 44 = true then _ else _) = _
    rw [if_neg (by rw [hc.2]; decide), List.append_nil]
    rfl
  | x :: xs, f, m, i, acc, bl, a, y, hall, hn, hb, ha, hf, hm => by
    obtain ⟨m, rfl⟩ : ∃ m0, m = m0 + 1 := ⟨m - 1, by omega⟩
    rw [allL, Bool.and_eq_true] at hall
    have hnx : noAt x = true ∨ ∀ i c, h i c = [c] := by
      rcases hn with e | e
      · rw [noAtL, Bool.and_eq_true] at e; exact .inl e.1
      · exact .inr e
    have hnxs : noAtL xs = true ∨ ∀ i c, h i c = [c] := by
      rcases hn with e | e
      · rw [noAtL, Bool.and_eq_true] at e; exact .inl e.2
      · exact .inr e
    obtain ⟨a1, b1, ha1, hb1, e1⟩ := gap_sign g i 44 (by decide) (32 :: (shw x ++ shwT xs))
    obtain ⟨b2, hb2, e2⟩ := gap_space g (i + 1) (shw x ++ shwT xs)
    have etxt : bl ++ (spc h i (shwT (x :: xs)) ++ (a ++ 41 :: y)) = (bl ++ a1) ++ 44 :: ((b1 ++ b2) ++ (spc h (i + 1 + 1) (shw x) ++ (spc h (i + 1 + 1 + (shw x).length) (shwT xs) ++ (a ++ 41 :: y)))) := by
      rw [shwT_cons, e1, e2, spc_app]
      simp
    rw [etxt] at hf ⊢
    have hc := is_sign (r := (b1 ++ b2) ++ (spc h (i + 1 + 1) (shw x) ++ (spc h (i + 1 + 1 + (shw x).length) (shwT xs) ++ (a ++ 41 :: y)))) (bln_app hb ha1) (c := 44) (by decide)
    rw [more, if_pos (by rw [hc.2]; rfl), hc.1]
    have hlen : ((b1 ++ b2) ++ (spc h (i + 1 + 1) (shw x) ++ (spc h (i + 1 + 1 + (shw x).length) (shwT xs) ++ (a ++ 41 :: y)))).length < f := by
      simp only [List.length_append, List.length_cons] at hf ⊢
      omega
    obtain ⟨q, hq, hp⟩ := pol_spc x f (i + 1 + 1) (b1 ++ b2) _ hall.1 hnx (bln_app hb1 hb2) (stp_T g (i + 1 + 1 + (shw x).length) xs ha) hlen
    rw [hp]
    simp only
    have hlen2 : (q ++ (spc h (i + 1 + 1 + (shw x).length) (shwT xs) ++ (a ++ 41 :: y))).length < f := by
      have := pol_short _ _ _ _ hp
      omega
    obtain ⟨q', hq', hm'⟩ := more_spc xs f m (i + 1 + 1 + (shw x).length) (acc ++ [x]) q a y hall.2 hnxs hq ha hlen2 (by simp at hm; omega)
    exact ⟨q', hq', by rw [hm']; simp⟩
end
end
end Wm
end Go.Proofs.YtgiahfjndononaaDoor
