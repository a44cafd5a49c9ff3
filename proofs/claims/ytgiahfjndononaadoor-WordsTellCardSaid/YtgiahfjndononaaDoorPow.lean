/- Which policy a written text is, with blanks, or cut. -/
import Derived.Test.YtgiahfjndononaaDoorPou
import Derived.Test.YtgiahfjndononaaDoorPoi
namespace Go.Proofs.YtgiahfjndononaaDoor
open Go.RowKit
set_option linter.unusedVariables false
set_option linter.unusedSimpArgs false
set_option maxRecDepth 100000

namespace Wm
theorem id_gap : Gap (fun _ c => [c]) := ⟨fun _ _ _ _ => rfl, fun _ c _ => ⟨[], [], bln_nil, bln_nil, rfl⟩, fun _ => ⟨[], bln_nil, rfl⟩⟩
theorem tok_blank {q : List UInt8} (h : Bln q) : (tok q).kind = 0 := by
  have := tok_bln (r := []) h
  rw [List.append_nil] at this
  rw [this]
  rfl
theorem stp_blank {q : List UInt8} (h : Bln q) : Stp q := by
  cases q with
  | nil => trivial
  | cons c q => exact blank_stop (h c (by simp))
theorem ans_of {t : Rt} {l q : List UInt8} (ht : t.right = true) (hl : l.length ≤ 2000) (h : pol (l.length + 1) l = .ok t q) (hq : Bln q) : ans l = (t, -1, 0) := by
  unfold ans
  rw [if_neg (by omega), h]
  unfold endR
  simp only
  rw [if_pos (tok_blank hq)]
  unfold ansR
  simp only
  rw [if_pos ht]
theorem ans_pad {t : Rt} {A B : List UInt8} (ht : t.right = true) (hA : Bln A) (hB : Bln B) (hl : (A ++ (shw t ++ B)).length ≤ 2000) : ans (A ++ (shw t ++ B)) = (t, -1, 0) := by
  have hall := (t.right_iff.1 ht).2.2
  have e : spc (fun _ c => [c]) 0 (shw t) = shw t := spc_same _ 0 (fun _ _ _ => rfl)
  obtain ⟨q, hq, hp⟩ := pol_spc id_gap t ((A ++ (shw t ++ B)).length + 1) 0 A B hall (.inr fun _ _ => rfl) hA (stp_blank hB) (by rw [e]; omega)
  rw [e] at hp
  exact ans_of ht hl hp (bln_app hq hB)
theorem ans_spc {h : Nat → UInt8 → List UInt8} (g : Gap h) {t : Rt} (ht : t.right = true) (hn : noAt t = true) (hl : (spc h 0 (shw t)).length ≤ 2000) : ans (spc h 0 (shw t)) = (t, -1, 0) := by
  have hall := (t.right_iff.1 ht).2.2
  obtain ⟨q, hq, hp⟩ := pol_spc g t ((spc h 0 (shw t)).length + 1) 0 [] [] hall (.inl hn) bln_nil trivial (by simp)
  simp only [List.nil_append, List.append_nil] at hp
  exact ans_of ht hl hp hq
def kd : Rt → Int
  | .mk k _ _ _ _ => k
theorem pol_kd {f : Nat} {l : List UInt8} {t : Rt} {r : List UInt8} (h : pol f l = .ok t r) : kd t = ((tok l).key : Int) ∧ (tok l).key ≠ 0 := by
  cases f with
  | zero => rw [pol] at h; cases h
  | succ f =>
    obtain ⟨k, hk⟩ : ∃ k, (tok l).key = k := ⟨_, rfl⟩
    have hk9 := key_le (tok l)
    have hk0 : k ≠ 0 := by
      intro e
      rw [pol, if_pos (by omega)] at h
      cases h
    rw [hk]
    refine ⟨?_, hk0⟩
    rcases (show k = 5 ∨ k = 6 ∨ (1 ≤ k ∧ k ≤ 3) ∨ (k = 4 ∨ (7 ≤ k ∧ k ≤ 9)) from by omega) with rfl | rfl | hk2 | hk2
    · rw [pol5 hk] at h
      injection h with e1 e2
      subst e1
      rfl
    · rw [pol6 hk] at h
      unfold polA at h
      split at h
      · split at h
        · injection h with e1 e2
          subst e1
          rfl
        · cases h
      · cases h
    · rw [polIn hk hk2] at h
      unfold polK at h
      split at h
      · split at h
        · injection h with e1 e2
          subst e1
          rfl
        · cases hq : kids (pol f) k f (tok (tok l).rest).rest with
          | bad e => rw [hq] at h; simp [close] at h
          | ok rs l3 =>
            rw [hq] at h
            unfold close at h
            simp only at h
            split at h
            · injection h with e1 e2
              subst e1
              rfl
            · cases h
      · cases h
    · rw [polNu hk hk2] at h
      unfold polN at h
      split at h
      · injection h with e1 e2
        subst e1
        rfl
      · cases h
/-- What stands behind a policy's word. -/
def tail : Rt → List UInt8
  | .mk k n key val kids => if (k == 5) = true then [] else if (k == 6) = true then 32 :: (quo key.data.toList ++ (32 :: quo val.data.toList)) else if (k == 1 || k == 2 || k == 3) = true then 40 :: (shwL kids ++ [41]) else 32 :: Lib.decDigits n.toNat
theorem shw_tail (t : Rt) : shw t = wd (kd t).toNat ++ tail t := by
  obtain ⟨k, n, key, val, kids⟩ := t
  rw [shw_mk]
  rfl
theorem tail_stop (t : Rt) : ∀ c x, tail t = c :: x → lettr c = false := by
  obtain ⟨k, n, key, val, kids⟩ := t
  intro c x h
  rw [tail] at h
  by_cases h5 : (k == 5) = true
  · rw [if_pos h5] at h; cases h
  · rw [if_neg h5] at h
    by_cases h6 : (k == 6) = true
    · rw [if_pos h6] at h
      injection h with h _
      rw [← h]; decide
    · rw [if_neg h6] at h
      by_cases h7 : (k == 1 || k == 2 || k == 3) = true
      · rw [if_pos h7] at h
        injection h with h _
        rw [← h]; decide
      · rw [if_neg h7] at h
        injection h with h _
        rw [← h]; decide
theorem kw_cut : ∀ k, 1 ≤ k → k ≤ 9 → ∀ m, m < (wd k).length → kw ((wd k).take m) = 0 := by
  intro k h1 h2 m hm
  have h4 : (wd k).length ≤ 4 := by unfold wd; split <;> simp
  rcases (show k = 1 ∨ k = 2 ∨ k = 3 ∨ k = 4 ∨ k = 5 ∨ k = 6 ∨ k = 7 ∨ k = 8 ∨ k = 9 from by omega) with rfl | rfl | rfl | rfl | rfl | rfl | rfl | rfl | rfl <;>
    (rcases (show m = 0 ∨ m = 1 ∨ m = 2 ∨ m = 3 from by omega) with rfl | rfl | rfl | rfl <;> first | decide | (exfalso; revert hm; decide))
theorem key_cut {t : Rt} {p x : List UInt8} (hk : 1 ≤ kd t ∧ kd t ≤ 9) (h : p ++ x = shw t) (hx : x ≠ []) : (tok p).key = 0 ∨ ∃ c, p = wd (kd t).toNat ++ c ∧ tail t = c ++ x ∧ (tok p).key = (kd t).toNat ∧ (tok p).rest = c := by
  rw [shw_tail] at h
  obtain ⟨k, hkk⟩ : ∃ k, (kd t).toNat = k := ⟨_, rfl⟩
  rw [hkk] at h ⊢
  rcases List.append_eq_append_iff.1 h with ⟨a, ha, hxa⟩ | ⟨c, hc, hxc⟩
  · by_cases hane : a = []
    · right
      subst hane
      refine ⟨[], by rw [List.append_nil] at ha ⊢; exact ha.symm, by rw [hxa]; rfl, ?_⟩
      rw [List.append_nil] at ha
      have := tok_key (k := k) (by omega) (by omega) rfl (r := []) (fun c x e => by cases e) bln_nil
      rw [List.nil_append, List.append_nil, ha] at this
      exact this
    · left
      have hpl : p.length < (wd k).length := by rw [ha]; have := List.length_pos_iff.2 hane; simp; omega
      have hpt : p = (wd k).take p.length := by rw [ha]; simp
      have hkw := kw_cut k (by omega) (by omega) p.length hpl
      rw [← hpt] at hkw
      cases hp : p with
      | nil => rfl
      | cons d y =>
        rw [← hp]
        have ht := tok_word (w := p) (r := []) (by rw [hp]; simp) (fun c hc => wd_letters k (by omega) c (by rw [ha]; simp [hc])) (fun c x e => by cases e)
        rw [List.append_nil] at ht
        rw [ht]
        unfold Tk.key
        rw [if_pos rfl]
        exact hkw
  · right
    refine ⟨c, hc, hxc, ?_⟩
    have hst : ∀ d y, c = d :: y → lettr d = false := fun d y e => tail_stop t d (y ++ x) (by rw [hxc, e]; rfl)
    have := tok_key (k := k) (by omega) (by omega) rfl (r := c) hst bln_nil
    rw [List.nil_append, ← hc] at this
    exact this
theorem num_mono : ∀ (x : List UInt8) (a : Nat), a ≤ x.foldl (fun a b => a * 10 + (b.toNat - 48)) a
  | [], a => Nat.le_refl _
  | c :: x, a => by
    rw [List.foldl_cons]
    refine Nat.le_trans ?_ (num_mono x _)
    omega
theorem endR_bad {f : Nat} {p e : List UInt8} (h : endR (pol f p) = .bad e) : e.length ≤ p.length := by
  have hp := pol_ok f p
  cases hq : pol f p with
  | bad e' =>
    rw [hq] at h hp
    injection h with h
    subst h
    exact Suf.len hp
  | ok t r =>
    rw [hq] at h hp
    unfold endR at h
    simp only at h
    split at h
    · cases h
    · injection h with h
      subst h
      exact Nat.le_trans (tok_ok r).froms.len (Nat.le_of_lt hp.2)
theorem ans_bad {p e : List UInt8} (hl : p.length ≤ 2000) (h : endR (pol (p.length + 1) p) = .bad e) : ∃ z : Nat, ans p = (nilR, (z : Int), 2) ∧ z ≤ p.length := by
  have := endR_bad h
  refine ⟨p.length - e.length, ?_, by omega⟩
  unfold ans
  rw [if_neg (by omega), h]
  unfold ansR
  simp only
  rw [show (p.length : Int) - (e.length : Int) = ((p.length - e.length : Nat) : Int) from by omega]
theorem endR_ok {r : Res Rt} {t : Rt} {l : List UInt8} (h : endR r = .ok t l) : ∃ q, r = .ok t q ∧ (tok q).kind = 0 := by
  cases r with
  | bad e => cases h
  | ok t' q =>
    unfold endR at h
    simp only at h
    split at h
    · injection h with h _
      subst h
      exact ⟨q, rfl, by assumption⟩
    · cases h
def numk (t : Rt) : Prop := kd t = 4 ∨ kd t = 7 ∨ kd t = 8 ∨ kd t = 9
theorem ans_cut {t : Rt} {p x : List UInt8} (ht : t.right = true) (h : p ++ x = shw t) (hx : x ≠ []) (hl : p.length ≤ 2000) : (∃ z : Nat, ans p = (nilR, (z : Int), 2) ∧ z ≤ p.length) ∨ (numk t ∧ (ans p).2.2 = 0) := by
  have hall := (t.right_iff.1 ht).2.2
  have hkd : 1 ≤ kd t ∧ kd t ≤ 9 := by
    obtain ⟨k, n, key, val, kids⟩ := t
    rw [Rt.all_mk, Bool.and_eq_true] at hall
    exact one_range hall.1
  cases hR : endR (pol (p.length + 1) p) with
  | bad e => exact .inl (ans_bad hl hR)
  | ok t' e =>
    obtain ⟨q, hp, hq⟩ := endR_ok hR
    have hkd2 := pol_kd hp
    rcases key_cut hkd h hx with hk | ⟨c, hc, htl, hk, hrest⟩
    · exact absurd hk hkd2.2
    · by_cases hcl : cls t'
      · exfalso
        obtain ⟨F, hF⟩ : ∃ F, F = p.length + 1 + (shw t).length + 1 := ⟨_, rfl⟩
        have h1 := pol_app _ _ _ _ hp (.inr hcl) F x (by omega)
        have e : spc (fun _ c => [c]) 0 (shw t) = shw t := spc_same _ 0 (fun _ _ _ => rfl)
        obtain ⟨q2, hq2, h2⟩ := pol_spc id_gap t F 0 [] [] hall (.inr fun _ _ => rfl) bln_nil trivial (by rw [e]; simp; omega)
        rw [e, List.nil_append, List.append_nil, List.append_nil, ← h, h1] at h2
        injection h2 with e1 e2
        have hxb : Bln x := fun d hd => hq2 d (by rw [← e2]; simp [hd])
        have hlast : ∃ y d, shw t = y ++ [d] ∧ blank d = false := by
          rw [e1] at hcl
          obtain ⟨k, n, key, val, kids⟩ := t
          rw [shw_mk]
          rcases hcl with rfl | rfl | rfl | rfl
          · exact ⟨wd 1 ++ (40 :: shwL kids), 41, by simp, by decide⟩
          · exact ⟨wd 2 ++ (40 :: shwL kids), 41, by simp, by decide⟩
          · exact ⟨wd 3 ++ (40 :: shwL kids), 41, by simp, by decide⟩
          · exact ⟨wd 6 ++ (32 :: (quo key.data.toList ++ (32 :: (34 :: esc val.data.toList)))), 34, by simp [quo], by decide⟩
        obtain ⟨y, d, hy, hd⟩ := hlast
        rw [hy] at h
        rcases List.eq_nil_or_concat x with e0 | ⟨x', z, e0⟩
        · exact hx e0
        rw [List.concat_eq_append] at e0
        rw [e0, ← List.append_assoc] at h
        have h3 := congrArg List.getLast? h
        simp at h3
        have h4 := hxb d (by rw [e0, ← h3]; simp)
        rw [hd] at h4
        cases h4
      · right
        have hnk : numk t := by
          unfold numk
          have h5 : kd t ≠ 5 := by
            intro e5
            obtain ⟨k, n, key, val, kids⟩ := t
            have e6 : k = 5 := e5
            subst e6
            rw [show tail (.mk 5 n key val kids) = [] from rfl] at htl
            exact hx (List.append_eq_nil_iff.1 htl.symm).2
          obtain ⟨k', n', key', val', kids'⟩ := t'
          have e7 : k' = ((tok p).key : Int) := hkd2.1
          unfold cls at hcl
          omega
        refine ⟨hnk, ?_⟩
        obtain ⟨k, n, key, val, kids⟩ := t
        rw [Rt.all_mk, Bool.and_eq_true] at hall
        have hone := hall.1
        have hkk : k = 4 ∨ k = 7 ∨ k = 8 ∨ k = 9 := hnk
        obtain ⟨_, _, _, _, on⟩ := one_kids hone
        obtain ⟨hn0, hn1, hm, rfl, rfl⟩ := on hkk
        have hk0 := List.length_eq_zero_iff.1 hm
        subst hk0
        obtain ⟨nn, rfl⟩ : ∃ nn : Nat, n = (nn : Int) := ⟨n.toNat, by omega⟩
        have htl2 : tail (.mk k (nn : Int) ⟨#[]⟩ ⟨#[]⟩ []) = 32 :: Lib.decDigits nn := by
          unfold tail
          rcases hkk with rfl | rfl | rfl | rfl <;> rfl
        rw [htl2] at htl
        have hdd := dec_digits nn
        have hkn : (tok p).key = k.toNat := hk
        have hkb : k.toNat = 4 ∨ (7 ≤ k.toNat ∧ k.toNat ≤ 9) := by omega
        rw [polNu hkn hkb, hrest] at hp
        cases hcd : c with
        | nil =>
          exfalso
          rw [hcd] at hp
          unfold polN at hp
          rw [tok_nil, if_neg (by decide)] at hp
          cases hp
        | cons c0 d =>
          rw [hcd] at htl hp
          injection htl with e1 e2
          subst e1
          replace e2 : Lib.decDigits nn = d ++ x := e2
          have hb32 : Bln [32] := fun c hc => by rw [List.mem_singleton] at hc; rw [hc]; decide
          have htd : tok (32 :: d) = tok d := tok_bln (a := [32]) hb32
          cases hd : d with
          | nil =>
            exfalso
            rw [hd] at hp
            unfold polN at hp
            rw [show tok (32 :: ([] : List UInt8)) = tok [] from tok_bln (a := [32]) hb32, tok_nil, if_neg (by decide)] at hp
            cases hp
          | cons d0 d1 =>
            have hdn : d ≠ [] := by rw [hd]; simp
            have hdl : d.length ≤ 10 := by
              have h1 := dig_len10 (n := nn) (by omega)
              rw [e2] at h1
              simp at h1
              omega
            have htk := tok_numb (w := d) (r := []) hdn (fun c hc => hdd.1 c (by rw [e2]; simp [hc])) (fun c x e => by cases e) hdl (by
              rcases hdd.2.2.1 with h1 | h1
              · exfalso
                rw [e2] at h1
                have := List.length_pos_iff.2 hdn
                have := List.length_pos_iff.2 hx
                simp at h1
                omega
              · right
                rw [e2, hd] at h1
                rw [hd]
                exact h1)
            rw [List.append_nil] at htk
            unfold polN at hp
            rw [htd, htk, if_pos rfl] at hp
            injection hp with e3 e4
            have hle : num d ≤ nn := by
              have h1 := num_mono x (num d)
              rw [← hdd.2.2.2, e2]
              unfold num at *
              rw [List.foldl_append]
              exact h1
            have hri : t'.right = true := by
              rw [← e3, Rt.right_iff]
              refine ⟨by rw [Rt.hgt_mk]; simp [hgtL], by rw [Rt.cnt_mk]; simp [cntL], ?_⟩
              rw [Rt.all_mk, Bool.and_eq_true]
              refine ⟨?_, rfl⟩
              rw [show ((k.toNat : Nat) : Int) = k from by omega]
              unfold oneR at hone ⊢
              rcases hkk with rfl | rfl | rfl | rfl <;> (simp [gmost, gok] at hone ⊢; omega)
            unfold ans
            rw [if_neg (by omega), hR]
            unfold ansR
            simp only
            rw [if_pos hri]
theorem num_last {t : Rt} (h : numk t) : ∃ y d, shw t = y ++ [d] ∧ digt d = true := by
  obtain ⟨k, n, key, val, kids⟩ := t
  have hdd := dec_digits n.toNat
  have hl : Lib.decDigits n.toNat = (Lib.decDigits n.toNat).dropLast ++ [(Lib.decDigits n.toNat).getLast hdd.2.1] := (List.dropLast_concat_getLast hdd.2.1).symm
  refine ⟨wd k.toNat ++ (32 :: (Lib.decDigits n.toNat).dropLast), (Lib.decDigits n.toNat).getLast hdd.2.1, ?_, hdd.1 _ (List.getLast_mem _)⟩
  rw [shw_tail]
  have htl : tail (.mk k n key val kids) = 32 :: Lib.decDigits n.toNat := by
    unfold tail
    have hk : k = 4 ∨ k = 7 ∨ k = 8 ∨ k = 9 := h
    rcases hk with rfl | rfl | rfl | rfl <;> rfl
  rw [htl]
  show wd k.toNat ++ _ = _
  conv => lhs; rw [hl]
  simp
end Wm
end Go.Proofs.YtgiahfjndononaaDoor
