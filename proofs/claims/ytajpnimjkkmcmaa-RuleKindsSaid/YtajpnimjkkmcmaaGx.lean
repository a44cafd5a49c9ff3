/- Plain: more behind turns nothing of what was read; no beginning of a policy is one, and none with more behind. -/
import Derived.Test.YtajpnimjkkmcmaaGr
import Derived.Test.YtajpnimjkkmcmaaGd
namespace Go.Proofs.Ytajpnimjkkmcmaa
open Go.RowKit
set_option linter.unusedVariables false
set_option linter.unusedSimpArgs false
set_option maxRecDepth 100000

theorem mi_auxE (m : List UInt8) : ∀ (l : List UInt8) (i acc : Nat), (Mi.getAux i acc l).2.2 = true → Mi.getAux i acc (l ++ m) = Mi.getAux i acc l
  | [], _, _, h => by simp [Mi.getAux] at h
  | c :: r, i, acc, h => by
    rw [List.cons_append]
    unfold Mi.getAux at h ⊢
    split at h
    · cases h
    · rename_i h1
      rw [if_neg h1, if_neg h1]
      split at h
      · rename_i h2
        rw [if_pos h2, if_pos h2]
        exact mi_auxE m r _ _ h
      · rename_i h2
        rw [if_neg h2, if_neg h2]
theorem mi_getE (l m : List UInt8) (h : (Mi.get l).2.2 = true) : Mi.get (l ++ m) = Mi.get l := mi_auxE m l 0 0 h
theorem mi_textE (l m : List UInt8) (h : (Mi.gettext l).2.2 = true) : Mi.gettext (l ++ m) = Mi.gettext l := by
  unfold Mi.gettext at h
  split at h
  · rename_i hc
    have hg := mi_getE l m hc.1
    have hl := Mi.get_len l
    unfold Mi.gettext
    rw [hg, if_pos hc, if_pos ⟨hc.1, by rw [List.length_append]; have := hc.2; omega⟩]
    congr 1
    rw [List.drop_append_of_le_length hl, List.take_append_of_le_length (by rw [List.length_drop]; exact hc.2)]
  · cases h
theorem mi_textL (l : List UInt8) : (Mi.gettext l).2.1 ≤ l.length := by
  unfold Mi.gettext
  have := Mi.get_len l
  split
  · rename_i h
    (try simp only)
    omega
  · exact Nat.zero_le _
def XExt {α : Type} (f : Rm.R → α × Rm.R) : Prop := ∀ r m, (f r).2.2 = false → r.2 = false ∧ f (r.1 ++ m, r.2) = ((f r).1, ((f r).2.1 ++ m, (f r).2.2))
theorem wideX : XExt Rm.wide := fun r m h => by
  unfold Rm.wide at h ⊢
  split at h
  · rename_i hg
    refine ⟨h, ?_⟩
    simp only
    rw [mi_getE _ m hg, if_pos hg, if_pos hg, List.drop_append_of_le_length (Mi.get_len _)]
  · cases h
theorem textX : XExt Rm.text := fun r m h => by
  unfold Rm.text at h ⊢
  split at h
  · rename_i hg
    refine ⟨h, ?_⟩
    simp only
    rw [mi_textE _ m hg, if_pos hg, if_pos hg, List.drop_append_of_le_length (mi_textL _)]
  · cases h
theorem numX : XExt Rm.num := fun r m h => by
  unfold Rm.num at h ⊢
  split at h
  · cases h
  · rename_i hg
    obtain ⟨h1, h2⟩ := wideX r m h
    refine ⟨h1, ?_⟩
    rw [h2]
    simp only
    rw [if_neg hg, if_neg hg]
theorem byteX : XExt Rm.byte := fun r m h => by
  obtain ⟨l, b⟩ := r
  cases l with
  | nil => cases h
  | cons c l => exact ⟨h, rfl⟩
theorem rulLX {f : Rm.R → Rt × Rm.R} (hf : XExt f) : ∀ (n : Nat) (r : Rm.R) (acc : List Rt) (m : List UInt8), (Rm.rulL f n r acc).2.2 = false → r.2 = false ∧ Rm.rulL f n (r.1 ++ m, r.2) acc = ((Rm.rulL f n r acc).1, ((Rm.rulL f n r acc).2.1 ++ m, (Rm.rulL f n r acc).2.2))
  | 0, r, acc, m, h => ⟨h, rfl⟩
  | n + 1, r, acc, m, h => by
    by_cases hr : r.2 = true
    · rw [Rm.rulL, if_pos hr] at h
      simp only at h
      rw [hr] at h
      cases h
    · rw [Rm.rulL, if_neg hr] at h
      obtain ⟨h1, h2⟩ := rulLX hf n (f r).2 _ m h
      obtain ⟨h3, h4⟩ := hf r m h1
      refine ⟨h3, ?_⟩
      rw [Rm.rulL, if_neg (show ¬ (r.1 ++ m, r.2).2 = true from hr), Rm.rulL, if_neg hr, h4]
      exact h2
theorem rulX : ∀ d, XExt (Rm.rul d)
  | 0 => fun r m h => by
    rw [Rm.rul] at h
    cases h
  | d + 1 => fun r m h => by
    rw [Rm.rul] at h ⊢
    split at h
    · rename_i c5
      obtain ⟨h1, h2⟩ := byteX r m h
      refine ⟨h1, ?_⟩
      rw [Rm.rul, h2]
      simp only
      rw [if_pos c5, if_pos c5]
    · rename_i c5
      split at h
      · rename_i c6
        obtain ⟨h1, h2⟩ := textX _ m h
        obtain ⟨h3, h4⟩ := textX _ m h1
        obtain ⟨h5, h6⟩ := byteX r m h3
        refine ⟨h5, ?_⟩
        rw [Rm.rul, h6]
        simp only
        rw [if_neg c5, if_pos c6, if_neg c5, if_pos c6, h4]
        simp only
        rw [h2]
      · rename_i c6
        split at h
        · rename_i c123
          obtain ⟨h1, h2⟩ := rulLX (rulX d) _ _ _ m h
          obtain ⟨h3, h4⟩ := numX _ m h1
          obtain ⟨h5, h6⟩ := byteX r m h3
          refine ⟨h5, ?_⟩
          rw [Rm.rul, h6]
          simp only
          rw [if_neg c5, if_neg c6, if_pos c123, if_neg c5, if_neg c6, if_pos c123, h4]
          simp only
          rw [h2]
        · rename_i c123
          obtain ⟨h3, h4⟩ := numX _ m h
          obtain ⟨h5, h6⟩ := byteX r m h3
          refine ⟨h5, ?_⟩
          rw [Rm.rul, h6]
          simp only
          rw [if_neg c5, if_neg c6, if_neg c123, if_neg c5, if_neg c6, if_neg c123, h4]
theorem reads_cut {t : Rt} (h : t.right = true) (i : Nat) (hi : i < t.bts.length) : reads (t.bts.take i) = false := by
  obtain ⟨h1, h2, h3⟩ := (t.right_iff).1 h
  have hb := Rt.back t 5 [] h3 h1 (by omega)
  rw [List.append_nil] at hb
  cases hx : reads (t.bts.take i)
  · rfl
  · unfold reads at hx
    simp only [Bool.and_eq_true, Bool.not_eq_true', decide_eq_true_eq] at hx
    obtain ⟨⟨e1, e2⟩, _⟩ := hx
    have he := (rulX 5 (t.bts.take i, false) (t.bts.drop i) e1).2
    simp only [List.take_append_drop] at he
    rw [hb] at he
    have h4 := congrArg (fun x => x.2.1.length) he
    simp only [List.length_append, e2, List.length_nil, List.length_drop] at h4
    omega
theorem reads_more {t : Rt} (h : t.right = true) (x : UInt8) (m : List UInt8) : reads (t.bts ++ x :: m) = false := by
  obtain ⟨h1, h2, h3⟩ := (t.right_iff).1 h
  have hb := Rt.back t 5 (x :: m) h3 h1 (by omega)
  unfold reads
  rw [hb]
  simp
end Go.Proofs.Ytajpnimjkkmcmaa
