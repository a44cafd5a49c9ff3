/- A span read back as it was written, and from no beginning of it: plain. -/
import Derived.Test.YtchcjbapbdfhkaaRf
namespace Go.Proofs.Ytchcjbapbdfhkaa
open Go.RowKit
set_option linter.unusedVariables false
set_option maxRecDepth 100000

namespace Mi
theorem getAux_ext (m : List UInt8) : ∀ (l : List UInt8) (i acc : Nat), (getAux i acc l).2.2 = true → getAux i acc (l ++ m) = getAux i acc l
  | [], _, _, h => by simp [getAux] at h
  | c :: r, i, acc, h => by
    rw [List.cons_append]
    unfold getAux at h ⊢
    split at h
    · cases h
    · rename_i h1
      rw [if_neg h1, if_neg h1]
      split at h
      · rename_i h2
        rw [if_pos h2, if_pos h2]
        exact getAux_ext m r _ _ h
      · rename_i h2
        rw [if_neg h2, if_neg h2]
theorem get_ext (l m : List UInt8) (h : (get l).2.2 = true) : get (l ++ m) = get l := getAux_ext m l 0 0 h
theorem gettext_ext (l m : List UInt8) (h : (gettext l).2.2 = true) : gettext (l ++ m) = gettext l := by
  unfold gettext at h
  split at h
  · rename_i hc
    have hg := get_ext l m hc.1
    have hl := get_len l
    unfold gettext
    rw [hg, if_pos hc, if_pos ⟨hc.1, by rw [List.length_append]; have := hc.2; omega⟩]
    congr 1
    rw [List.drop_append_of_le_length hl, List.take_append_of_le_length (by rw [List.length_drop]; exact hc.2)]
  · cases h
theorem gettext_le (l : List UInt8) : (gettext l).2.1 ≤ l.length := by
  unfold gettext
  have := get_len l
  split
  · rename_i h
    (try simp only)
    omega
  · exact Nat.zero_le _
end Mi
namespace Rm
theorem wide_put (n : Nat) (m : List UInt8) (b : Bool) (h : n < 18446744073709551616) : wide (Mi.put n ++ m, b) = (n, (m, b)) := by
  unfold wide
  rw [Mi.get_put n m h]
  simp
theorem text_put (s m : List UInt8) (b : Bool) (h : s.length < 18446744073709551616) : text (Mi.text s ++ m, b) = (s, (m, b)) := by
  unfold text
  rw [Mi.gettext_text s m h]
  simp
theorem num_put (n : Nat) (m : List UInt8) (b : Bool) (h : n ≤ 9223372036854775807) : num (Mi.put n ++ m, b) = (n, (m, b)) := by
  unfold num
  rw [wide_put n m b (by omega), if_neg (by simp only; omega)]
theorem flag_put (x : Bool) (m : List UInt8) (b : Bool) : Rm.flag (Go.Proofs.Ytchcjbapbdfhkaa.flag x ++ m, b) = (x, (m, b)) := by
  have e : Go.Proofs.Ytchcjbapbdfhkaa.flag x = Mi.put (if x then 1 else 0) := by cases x <;> decide
  unfold Rm.flag
  rw [e, num_put _ m b (by cases x <;> simp)]
  cases x <;> simp
theorem S8_list (s : ByteArray) : S8 s.data.toList = s := by cases s; rfl
theorem atl_put : ∀ (l : List (ByteArray × ByteArray)) (f : Nat) (m : List UInt8) (acc : List (ByteArray × ByteArray)), l.length ≤ f → (∀ a ∈ l, a.1.size < 18446744073709551616 ∧ a.2.size < 18446744073709551616) → atl f l.length (encA l ++ m, false) acc = ((m, false), acc ++ l)
  | [], 0, m, acc, _, _ => by simp [atl, encA]
  | [], f + 1, m, acc, _, _ => by simp [atl, encA]
  | a :: l, 0, m, acc, h, _ => by simp at h
  | a :: l, f + 1, m, acc, h, ha => by
    have h1 := ha a (by simp)
    unfold atl
    rw [if_pos ⟨by simp, rfl⟩]
    have e : encA (a :: l) ++ m = Mi.text a.1.data.toList ++ (Mi.text a.2.data.toList ++ (encA l ++ m)) := by simp [encA, List.append_assoc]
    rw [e, text_put _ _ _ (by rw [size_list]; exact h1.1)]
    simp only
    rw [text_put _ _ _ (by rw [size_list]; exact h1.2)]
    simp only [S8_list, List.length_cons, Nat.add_sub_cancel]
    rw [atl_put l f m _ (by simpa using h) (fun x hx => ha x (by simp [hx]))]
    simp
/-- As it was written, whatever stands behind it. -/
theorem span_put {s : Sp} (hok : s.ok) (hr : right s = true) (m : List UInt8) : Rm.span (enc s ++ m, false) = (s, (m, false)) := by
  obtain ⟨r1, r2, r3, r4, r5, r6, r7⟩ := right_parts hr
  have hn := sp_nat hok hr
  have q4 := (nameB_len r1).2
  have q5 := (nameB_len r2).2
  have q8 := rightAts_len r7
  have hat : ∀ a ∈ s.ats, a.1.size < 18446744073709551616 ∧ a.2.size < 18446744073709551616 := fun a ha => by
    obtain ⟨k, hk⟩ := List.getElem?_of_mem ha
    have := okAt_len r7 hk
    omega
  have h0 := hok.hi
  have h1 := hok.lo
  have h2 := hok.id
  have h3 := hok.pa
  have e0 : p0 (enc s ++ m, false) = (s.hi.toNat, (enc s ++ m).drop (Mi.put s.hi.toNat).length, false) := by
    unfold p0
    have : enc s ++ m = Mi.put s.hi.toNat ++ ((enc s ++ m).drop (Mi.put s.hi.toNat).length) := by
      unfold enc
      rw [List.append_assoc, List.drop_left]
    conv => lhs; rw [this]
    rw [wide_put _ _ _ (by omega)]
  have d0 : (enc s ++ m).drop (Mi.put s.hi.toNat).length = Mi.put s.lo.toNat ++ (Mi.put s.id.toNat ++ (Mi.put s.pa.toNat ++ (Mi.text s.sv.data.toList ++ (Mi.text s.op.data.toList ++ (Mi.put s.st.toNat ++ (Mi.put s.du.toNat ++ (Go.Proofs.Ytchcjbapbdfhkaa.flag s.er ++ (Mi.put s.ats.length ++ (encA s.ats ++ m))))))))) := by
    unfold enc
    rw [List.append_assoc, List.drop_left]
    simp only [List.append_assoc]
  rw [d0] at e0
  have e1 := congrArg (fun x => wide x.2) e0
  simp only [wide_put _ _ _ (show s.lo.toNat < 18446744073709551616 by omega)] at e1
  change p1 _ = _ at e1
  have e2 := congrArg (fun x => wide x.2) e1
  simp only [wide_put _ _ _ (show s.id.toNat < 18446744073709551616 by omega)] at e2
  change p2 _ = _ at e2
  have e3 := congrArg (fun x => wide x.2) e2
  simp only [wide_put _ _ _ (show s.pa.toNat < 18446744073709551616 by omega)] at e3
  change p3 _ = _ at e3
  have e4 := congrArg (fun x => text x.2) e3
  simp only [text_put _ _ _ (show s.sv.data.toList.length < 18446744073709551616 by rw [size_list]; omega)] at e4
  change p4 _ = _ at e4
  have e5 := congrArg (fun x => text x.2) e4
  simp only [text_put _ _ _ (show s.op.data.toList.length < 18446744073709551616 by rw [size_list]; omega)] at e5
  change p5 _ = _ at e5
  have e6 := congrArg (fun x => num x.2) e5
  simp only [num_put _ _ _ (show s.st.toNat ≤ 9223372036854775807 by omega)] at e6
  change p6 _ = _ at e6
  have e7 := congrArg (fun x => num x.2) e6
  simp only [num_put _ _ _ (show s.du.toNat ≤ 9223372036854775807 by omega)] at e7
  change p7 _ = _ at e7
  have e8 := congrArg (fun x => Rm.flag x.2) e7
  simp only [flag_put] at e8
  change p8 _ = _ at e8
  have e9 := congrArg (fun x => num x.2) e8
  simp only [num_put _ _ _ (show s.ats.length ≤ 9223372036854775807 by omega)] at e9
  change p9 _ = _ at e9
  have ea : pa (enc s ++ m, false) = ((m, false), s.ats) := by
    unfold pa
    rw [e9, atl_put s.ats 5 m [] (by omega) hat]
    simp
  have eraw : raw (enc s ++ m, false) = s := by
    unfold raw
    rw [e0, e1, e2, e3, e4, e5, e6, e7, e8, ea]
    simp only [S8_list]
    exact hn.symm
  unfold span
  rw [ea, eraw, if_pos ⟨rfl, hr⟩]

/-- More behind turns nothing. -/
def Ext {α : Type} (f : R → α × R) : Prop := ∀ r m, (f r).2.2 = false → f (r.1 ++ m, r.2) = ((f r).1, ((f r).2.1 ++ m, (f r).2.2))
/-- What is bad stays so. -/
def Stays {α : Type} (f : R → α × R) : Prop := ∀ r, (f r).2.2 = false → r.2 = false
theorem wide_stays : Stays wide := fun r h => by
  unfold wide at h
  split at h
  · exact h
  · cases h
theorem text_stays : Stays text := fun r h => by
  unfold text at h
  split at h
  · exact h
  · cases h
theorem num_stays : Stays num := fun r h => by
  unfold num at h
  split at h
  · cases h
  · exact wide_stays r h
theorem flag_stays : Stays Rm.flag := fun r h => by
  unfold Rm.flag at h
  simp only at h
  split at h
  · cases h
  · exact num_stays r h
theorem wide_ext : Ext wide := fun r m h => by
  unfold wide at h ⊢
  split at h
  · rename_i hg
    simp only
    rw [Mi.get_ext _ m hg, if_pos hg, if_pos hg, List.drop_append_of_le_length (Mi.get_len _)]
  · cases h
theorem text_ext : Ext text := fun r m h => by
  unfold text at h ⊢
  split at h
  · rename_i hg
    simp only
    rw [Mi.gettext_ext _ m hg, if_pos hg, if_pos hg, List.drop_append_of_le_length (Mi.gettext_le _)]
  · cases h
theorem num_ext : Ext num := fun r m h => by
  unfold num at h ⊢
  split at h
  · cases h
  · rename_i hg
    rw [wide_ext r m h]
    simp only
    rw [if_neg hg, if_neg hg]
theorem flag_ext : Ext Rm.flag := fun r m h => by
  unfold Rm.flag at h ⊢
  simp only at h ⊢
  split at h
  · cases h
  · rename_i hg
    rw [num_ext r m h]
    simp only
    rw [if_neg hg, if_neg hg]
theorem atl_stays : ∀ (f n : Nat) (r : R) (acc : List (ByteArray × ByteArray)), (atl f n r acc).1.2 = false → r.2 = false
  | 0, _, _, _, h => h
  | f + 1, n, r, acc, h => by
    unfold atl at h
    split at h
    · rename_i hc
      exact hc.2
    · exact h
theorem atl_ext (m : List UInt8) : ∀ (f n : Nat) (r : R) (acc : List (ByteArray × ByteArray)), (atl f n r acc).1.2 = false → atl f n (r.1 ++ m, r.2) acc = (((atl f n r acc).1.1 ++ m, false), (atl f n r acc).2)
  | 0, _, r, _, h => by
    unfold atl at h ⊢
    simp only at h ⊢
    rw [h]
  | f + 1, n, r, acc, h => by
    unfold atl at h ⊢
    split at h
    · rename_i hc
      have h2 := atl_stays _ _ _ _ h
      have h1 := text_stays _ h2
      rw [if_pos (show 0 < n ∧ (r.1 ++ m, r.2).2 = false from hc), if_pos hc, text_ext r m h1]
      simp only
      have e2 := text_ext (text r).2 m h2
      rw [e2]
      simp only
      have := atl_ext m f (n - 1) (text (text r).2).2 (acc ++ [(S8 (text r).1, S8 (text (text r).2).1)]) h
      exact this
    · rename_i hc
      rw [if_neg (show ¬ (0 < n ∧ (r.1 ++ m, r.2).2 = false) from hc), if_neg hc]
      simp only at h ⊢
      rw [h]
theorem atl_ext2 (m : List UInt8) (f : Nat) (q q2 : Nat × R) (h : q2 = (q.1, (q.2.1 ++ m, q.2.2))) (ha : (atl f q.1 q.2 []).1.2 = false) : atl f q2.1 q2.2 [] = (((atl f q.1 q.2 []).1.1 ++ m, false), (atl f q.1 q.2 []).2) := by
  subst h
  exact atl_ext m f q.1 q.2 [] ha
theorem ite_ext (m : List UInt8) (q q2 : R × List (ByteArray × ByteArray)) (s s2 : Sp) (hq : q2 = ((q.1.1 ++ m, false), q.2)) (hs : s2 = s) (ha : q.1.2 = false) (hr : right s = true) :
    (if q2.1.2 = false ∧ right s2 = true then (s2, q2.1) else (zero, fail)) = ((if q.1.2 = false ∧ right s = true then (s, q.1) else (zero, fail)).1, ((if q.1.2 = false ∧ right s = true then (s, q.1) else (zero, fail)).2.1 ++ m, false)) := by
  subst hq
  subst hs
  rw [if_pos (show ((q.1.1 ++ m, false), q.2).1.2 = false ∧ right s2 = true from ⟨rfl, hr⟩), if_pos ⟨ha, hr⟩]
theorem span_ext (r : R) (m : List UInt8) (h : (Rm.span r).2.2 = false) : Rm.span (r.1 ++ m, r.2) = ((Rm.span r).1, ((Rm.span r).2.1 ++ m, false)) := by
  unfold span at h
  split at h
  · rename_i hc
    obtain ⟨ha, hr⟩ := hc
    have h9 : (p9 r).2.2 = false := by unfold pa at ha; exact atl_stays _ _ _ _ ha
    have h8 : (p8 r).2.2 = false := by unfold p9 at h9; exact num_stays _ h9
    have h7 : (p7 r).2.2 = false := by unfold p8 at h8; exact flag_stays _ h8
    have h6 : (p6 r).2.2 = false := by unfold p7 at h7; exact num_stays _ h7
    have h5 : (p5 r).2.2 = false := by unfold p6 at h6; exact num_stays _ h6
    have h4 : (p4 r).2.2 = false := by unfold p5 at h5; exact text_stays _ h5
    have h3 : (p3 r).2.2 = false := by unfold p4 at h4; exact text_stays _ h4
    have h2 : (p2 r).2.2 = false := by unfold p3 at h3; exact wide_stays _ h3
    have h1 : (p1 r).2.2 = false := by unfold p2 at h2; exact wide_stays _ h2
    have h0 : (p0 r).2.2 = false := by unfold p1 at h1; exact wide_stays _ h1
    have e0 : p0 (r.1 ++ m, r.2) = ((p0 r).1, ((p0 r).2.1 ++ m, (p0 r).2.2)) := by unfold p0 at h0 ⊢; exact wide_ext r m h0
    have e1 : p1 (r.1 ++ m, r.2) = ((p1 r).1, ((p1 r).2.1 ++ m, (p1 r).2.2)) := by unfold p1 at h1 ⊢; rw [e0]; exact wide_ext (p0 r).2 m h1
    have e2 : p2 (r.1 ++ m, r.2) = ((p2 r).1, ((p2 r).2.1 ++ m, (p2 r).2.2)) := by unfold p2 at h2 ⊢; rw [e1]; exact wide_ext (p1 r).2 m h2
    have e3 : p3 (r.1 ++ m, r.2) = ((p3 r).1, ((p3 r).2.1 ++ m, (p3 r).2.2)) := by unfold p3 at h3 ⊢; rw [e2]; exact wide_ext (p2 r).2 m h3
    have e4 : p4 (r.1 ++ m, r.2) = ((p4 r).1, ((p4 r).2.1 ++ m, (p4 r).2.2)) := by unfold p4 at h4 ⊢; rw [e3]; exact text_ext (p3 r).2 m h4
    have e5 : p5 (r.1 ++ m, r.2) = ((p5 r).1, ((p5 r).2.1 ++ m, (p5 r).2.2)) := by unfold p5 at h5 ⊢; rw [e4]; exact text_ext (p4 r).2 m h5
    have e6 : p6 (r.1 ++ m, r.2) = ((p6 r).1, ((p6 r).2.1 ++ m, (p6 r).2.2)) := by unfold p6 at h6 ⊢; rw [e5]; exact num_ext (p5 r).2 m h6
    have e7 : p7 (r.1 ++ m, r.2) = ((p7 r).1, ((p7 r).2.1 ++ m, (p7 r).2.2)) := by unfold p7 at h7 ⊢; rw [e6]; exact num_ext (p6 r).2 m h7
    have e8 : p8 (r.1 ++ m, r.2) = ((p8 r).1, ((p8 r).2.1 ++ m, (p8 r).2.2)) := by unfold p8 at h8 ⊢; rw [e7]; exact flag_ext (p7 r).2 m h8
    have e9 : p9 (r.1 ++ m, r.2) = ((p9 r).1, ((p9 r).2.1 ++ m, (p9 r).2.2)) := by unfold p9 at h9 ⊢; rw [e8]; exact num_ext (p8 r).2 m h9
    have ea : pa (r.1 ++ m, r.2) = (((pa r).1.1 ++ m, false), (pa r).2) := by
      unfold pa at ha ⊢
      exact atl_ext2 m 5 (p9 r) _ e9 ha
    have er : raw (r.1 ++ m, r.2) = raw r := by
      unfold raw
      rw [e0, e1, e2, e3, e4, e5, e6, e7, e8, ea]
    unfold span
    exact ite_ext m (pa r) _ (raw r) _ ea er ha hr
  · cases h
/-- From no beginning of it. -/
theorem span_cut {s : Sp} (hok : s.ok) (hr : right s = true) (k : Nat) (hk : k < (enc s).length) : (Rm.span ((enc s).take k, false)).2.2 = true := by
  cases h : (Rm.span ((enc s).take k, false)).2.2 with
  | true => rfl
  | false =>
    exfalso
    have h1 := span_ext ((enc s).take k, false) ((enc s).drop k) h
    simp only [List.take_append_drop] at h1
    have h2 := span_put hok hr []
    rw [List.append_nil, h1] at h2
    have h3 := congrArg (fun x => x.2.1.length) h2
    simp only [List.length_append, List.length_drop, List.length_nil] at h3
    omega
/-- No one is the beginning of another one. -/
theorem span_apart {s t : Sp} (hs : s.ok) (hr : right s = true) (ht : t.ok) (hq : right t = true) (x : List UInt8) (h : enc t = enc s ++ x) : s = t ∧ x = [] := by
  have h1 := span_put hs hr x
  have h2 := span_put ht hq []
  rw [List.append_nil, h, h1] at h2
  injection h2 with h3 h4
  injection h4 with h5 h6
  exact ⟨h3, h5⟩
end Rm
end Go.Proofs.Ytchcjbapbdfhkaa
