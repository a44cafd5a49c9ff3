/- Plain: the bytes of a policy, and how they are read back. -/
import Derived.Test.YtgiahfjndononaaDoorRo
import Derived.Test.YtgiahfjndononaaDoorRd
namespace Go.Proofs.YtgiahfjndononaaDoor
open Go.RowKit
set_option linter.unusedVariables false
set_option linter.unusedSimpArgs false
set_option maxRecDepth 100000

mutual
def Rt.bts : Rt → List UInt8
  | .mk k n key val kids => UInt8.ofNat k.toNat :: (if (k == 5) = true then [] else if (k == 6) = true then Mi.text key.data.toList ++ Mi.text val.data.toList else if (k == 1 || k == 2 || k == 3) = true then Mi.put kids.length ++ btsL kids else Mi.put n.toNat)
def btsL : List Rt → List UInt8
  | [] => []
  | r :: rs => r.bts ++ btsL rs
end
theorem Rt.bts_mk (k n : Int) (key val : ByteArray) (kids : List Rt) : (Rt.mk k n key val kids).bts = UInt8.ofNat k.toNat :: (if (k == 5) = true then [] else if (k == 6) = true then Mi.text key.data.toList ++ Mi.text val.data.toList else if (k == 1 || k == 2 || k == 3) = true then Mi.put kids.length ++ btsL kids else Mi.put n.toNat) := by rw [Rt.bts]
theorem btsL_add (a b : List Rt) : btsL (a ++ b) = btsL a ++ btsL b := by
  induction a with
  | nil => simp [btsL]
  | cons r a ih => rw [List.cons_append, btsL, btsL, ih, List.append_assoc]
theorem btsL_take {l : List Rt} {j : Nat} {r : Rt} (h : l[j]? = some r) : btsL (l.take (j + 1)) = btsL (l.take j) ++ r.bts := by
  rw [List.take_add_one, h, btsL_add]
  simp [btsL]
theorem Rt.bts_ne (t : Rt) : 0 < t.bts.length := by
  obtain ⟨k, n, key, val, kids⟩ := t
  rw [Rt.bts_mk]
  simp
namespace Rm
def byte (r : R) : UInt8 × R := match r.1 with
  | [] => (0, fail)
  | c :: l => (c, (l, r.2))
def rulL (f : R → Rt × R) : Nat → R → List Rt → List Rt × R
  | 0, r, acc => (acc, r)
  | n + 1, r, acc => if r.2 = true then (acc, r) else rulL f n (f r).2 (acc ++ [(f r).1])
/-- A policy no deeper than so, as the code reads it. -/
def rul : Nat → R → Rt × R
  | 0, _ => (.mk 0 0 ⟨#[]⟩ ⟨#[]⟩ [], fail)
  | d + 1, r =>
    if ((((byte r).1.toNat : Nat) : Int) == 5) = true then (.mk ((byte r).1.toNat : Nat) 0 ⟨#[]⟩ ⟨#[]⟩ [], (byte r).2)
    else if ((((byte r).1.toNat : Nat) : Int) == 6) = true then (.mk ((byte r).1.toNat : Nat) 0 (S8 (text (byte r).2).1) (S8 (text (text (byte r).2).2).1) [], (text (text (byte r).2).2).2)
    else if ((((byte r).1.toNat : Nat) : Int) == 1 || (((byte r).1.toNat : Nat) : Int) == 2 || (((byte r).1.toNat : Nat) : Int) == 3) = true then (.mk ((byte r).1.toNat : Nat) 0 ⟨#[]⟩ ⟨#[]⟩ (rulL (rul d) (num (byte r).2).1 (num (byte r).2).2 []).1, (rulL (rul d) (num (byte r).2).1 (num (byte r).2).2 []).2)
    else (.mk ((byte r).1.toNat : Nat) (num (byte r).2).1 ⟨#[]⟩ ⟨#[]⟩ [], (num (byte r).2).2)
end Rm
theorem empty_of {s : ByteArray} (h : s.toList.isEmpty = true) : s = ⟨#[]⟩ := by
  have h1 := ba_len s
  rw [List.isEmpty_iff.1 h] at h1
  simp at h1
  obtain ⟨⟨l⟩⟩ := s
  cases l with
  | nil => rfl
  | cons x l => simp [ByteArray.size] at h1
theorem wide_put (n : Nat) (m : List UInt8) (h : n < 18446744073709551616) : Rm.wide (Mi.put n ++ m, false) = (n, (m, false)) := by
  unfold Rm.wide
  rw [Mi.get_put n m h]
  simp
theorem num_put (n : Nat) (m : List UInt8) (h : n ≤ 9223372036854775807) : Rm.num (Mi.put n ++ m, false) = (n, (m, false)) := by
  unfold Rm.num
  rw [wide_put n m (by omega), if_neg (by simpa using h)]
theorem text_put (s m : List UInt8) (h : s.length < 18446744073709551616) : Rm.text (Mi.text s ++ m, false) = (s, (m, false)) := by
  unfold Rm.text
  rw [Mi.gettext_text s m h]
  simp
theorem S8_back (s : ByteArray) : S8 s.data.toList = s := by
  obtain ⟨⟨l⟩⟩ := s
  simp [S8]
theorem kinds_byte {k : Int} (h : 1 ≤ k ∧ k ≤ 9) : (((UInt8.ofNat k.toNat).toNat : Nat) : Int) = k := by
  rw [UInt8.toNat_ofNat']
  omega
theorem one_range {k n : Int} {key val : ByteArray} {m : Nat} (h : oneR k n key val m = true) : 1 ≤ k ∧ k ≤ 9 := by
  unfold oneR gok at h
  split at h
  · simp_all
  · simp only [Bool.and_eq_true] at h
    obtain ⟨_, _, h⟩ := h
    split at h
    · simp_all
    · split at h
      · simp_all
      · split at h
        · simp_all
        · split at h
          · simp_all
          · simp at h
            omega
mutual
theorem Rt.back : ∀ (t : Rt) (d : Nat) (m : List UInt8), t.all = true → t.hgt ≤ d → t.cnt ≤ 9223372036854775807 → Rm.rul d (t.bts ++ m, false) = (t, (m, false))
  | .mk k n key val kids, 0, m, ha, hh, hc => by rw [Rt.hgt_mk] at hh; omega
  | .mk k n key val kids, d + 1, m, ha, hh, hc => by
    rw [Rt.hgt_mk] at hh
    rw [Rt.cnt_mk] at hc
    rw [Rt.all_mk, Bool.and_eq_true] at ha
    obtain ⟨h1, h2⟩ := ha
    have hr := one_range h1
    have hkb := kinds_byte hr
    have hB : ∀ X : List UInt8, Rm.byte (UInt8.ofNat k.toNat :: X, false) = (UInt8.ofNat k.toNat, (X, false)) := fun X => rfl
    rw [Rt.bts_mk]
    unfold oneR at h1
    by_cases c6 : k = 6
    · subst c6
      simp only [beq_self_eq_true, if_true, Bool.and_eq_true, decide_eq_true_eq, beq_iff_eq] at h1
      obtain ⟨e1, e2, e3, e4, e5⟩ := h1
      have ek : kids = [] := List.length_eq_zero_iff.1 (by omega)
      subst e1 ek
      have s1 : key.data.toList.length = key.size := size_list key
      have s2 : val.data.toList.length = val.size := size_list val
      rw [if_neg (by decide), if_pos (by decide), List.cons_append, List.append_assoc, Rm.rul, hB]
      simp only [hkb]
      rw [if_neg (by decide), if_pos (by decide)]
      rw [text_put _ _ (by omega)]
      simp only
      rw [text_put _ _ (by omega), S8_back, S8_back]
    · rw [if_neg (by simpa using c6)] at h1
      simp only [Bool.and_eq_true] at h1
      obtain ⟨e1, e2, e3⟩ := h1
      have e1 := empty_of e1
      have e2 := empty_of e2
      subst e1 e2
      have c6' : ¬ ((k == 6) = true) := by simpa using c6
      by_cases c5 : k = 5
      · subst c5
        simp at e3
        have ek : kids = [] := e3.2
        obtain ⟨e3, _⟩ := e3
        subst e3 ek
        rw [if_pos (by decide), List.cons_append, List.nil_append, Rm.rul, hB]
        simp only [hkb]
        rw [if_pos (by decide)]
      · have c5' : ¬ ((k == 5) = true) := by simpa using c5
        by_cases c123 : k = 1 ∨ k = 2 ∨ k = 3
        · have c' : (k == 1 || k == 2 || k == 3) = true := by simp; omega
          have en : n = 0 := by rcases c123 with rfl | rfl | rfl <;> simp at e3 <;> simp [e3]
          subst en
          rw [if_neg c5', if_neg c6', if_pos c', List.cons_append, List.append_assoc, Rm.rul, hB]
          simp only [hkb]
          have hl : kids.length ≤ cntL kids := len_le_cnt kids
          rw [if_neg c5', if_neg c6', if_pos c', num_put _ _ (by omega)]
          simp only
          rw [backL kids d m [] h2 (by omega) (by omega)]
          simp
        · have c' : ¬ ((k == 1 || k == 2 || k == 3) = true) := by simp; omega
          have d1 : k ≠ 1 := by omega
          have d2 : k ≠ 2 := by omega
          have d3 : k ≠ 3 := by omega
          simp [d1, d2, d3, c5, gok, gmost] at e3
          have ek : kids = [] := e3.2.2.2
          have hn : 0 ≤ n ∧ n ≤ 9223372036854775807 := by
            refine ⟨e3.2.1, ?_⟩
            have h9 := e3.2.2.1
            split at h9 <;> (try split at h9) <;> (try split at h9) <;> (try split at h9) <;> omega
          subst ek
          rw [if_neg c5', if_neg c6', if_neg c', List.cons_append, Rm.rul, hB]
          simp only [hkb]
          rw [if_neg c5', if_neg c6', if_neg c', num_put _ _ (by omega)]
          simp
          omega
theorem backL : ∀ (l : List Rt) (d : Nat) (m : List UInt8) (acc : List Rt), allL l = true → hgtL l ≤ d → cntL l ≤ 9223372036854775807 → Rm.rulL (Rm.rul d) l.length (btsL l ++ m, false) acc = (acc ++ l, (m, false))
  | [], d, m, acc, _, _, _ => by simp [Rm.rulL, btsL]
  | r :: rs, d, m, acc, ha, hh, hc => by
    rw [allL, Bool.and_eq_true] at ha
    rw [hgtL] at hh
    rw [cntL] at hc
    rw [List.length_cons, Rm.rulL, if_neg (by simp), btsL, List.append_assoc, Rt.back r d _ ha.1 (by omega) (by omega)]
    simp only
    rw [backL rs d m _ ha.2 (by omega) (by omega), List.append_assoc]
    rfl
theorem len_le_cnt : ∀ (l : List Rt), l.length ≤ cntL l
  | [] => by simp [cntL]
  | r :: rs => by
    have := len_le_cnt rs
    obtain ⟨k, n, key, val, kids⟩ := r
    rw [cntL, List.length_cons, Rt.cnt_mk]
    omega
end
end Go.Proofs.YtgiahfjndononaaDoor
