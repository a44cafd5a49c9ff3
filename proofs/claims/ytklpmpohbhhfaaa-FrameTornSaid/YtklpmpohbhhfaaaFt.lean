/- Plain mathematics of records that were turned, or cut. No Go in sight. -/
import Derived.Test.YtklpmpohbhhfaaaFs
namespace Go.Proofs.Ytklpmpohbhhfaaa.Fm
open Go.RowKit
set_option linter.unusedVariables false

theorem recs_append (a b : List (List UInt8)) : recs (a ++ b) = recs a ++ recs b := by simp [recs]
theorem recs_snoc (l : List (List UInt8)) (k : Nat) (h : k < l.length) : recs (l.take (k + 1)) = recs (l.take k) ++ rec (l.getD k []) := by
  rw [List.take_succ_eq_append_getElem h, recs_append]
  simp [recs, List.getD, h]
theorem recs_parts (l : List (List UInt8)) (k : Nat) (h : k < l.length) : recs l = recs (l.take k) ++ (rec (l.getD k []) ++ recs (l.drop (k + 1))) := by
  conv => lhs; rw [← List.take_append_drop (k + 1) l]
  rw [recs_append, recs_snoc l k h, List.append_assoc]
theorem put_small (n : Nat) (h : n ≤ 127) : (Mi.put n).length = 1 := by
  rw [Mi.put_step n (by omega), if_neg (by omega)]
  rfl
theorem rec_small (p : List UInt8) (h : p.length ≤ 127) : (rec p).length = 5 + p.length := by
  rw [rec_len, put_small _ h]
theorem recs_le (l : List (List UInt8)) (m : Nat) (h : ∀ p ∈ l, p.length ≤ m) : (recs l).length ≤ l.length * (m + 14) := by
  induction l with
  | nil => simp [recs]
  | cons p r ih =>
    have h1 := ih (fun q hq => h q (by simp [hq]))
    have h2 := h p (by simp)
    have h3 := (Mi.put_len p.length).2
    have e : recs (p :: r) = rec p ++ recs r := by simp [recs]
    rw [e, List.length_append, rec_len, List.length_cons, Nat.add_mul]
    omega
theorem set_in (X Y : List UInt8) (j : Nat) (y : UInt8) : (X ++ Y).set (X.length + j) y = X ++ Y.set j y := by
  rw [List.set_append, if_neg (by omega)]
  congr 2; omega
theorem get_in (X Y : List UInt8) (j : Nat) : (X ++ Y).getD (X.length + j) 0 = Y.getD j 0 := by
  simp only [List.getD]
  rw [List.getElem?_append_right (by omega), Nat.add_sub_cancel_left]
theorem flip_at (p : List UInt8) (m bit : Nat) (hb : bit < 8) : Cm.flip p (8 * m + bit) = p.set m (p.getD m 0 ^^^ UInt8.ofNat (2 ^ bit)) := by
  unfold Cm.flip Cm.bitb
  rw [show (8 * m + bit) / 8 = m from by omega, show (8 * m + bit) % 8 = bit from by omega]

theorem turned (l : List (List UInt8)) (k m bit : Nat) (hk : k < l.length) (hm : m < (l.getD k []).length) (hb : bit < 8) (hl : ∀ p ∈ l, p.length ≤ 100) :
    (recs (l.take k)).length + 5 + m < (recs l).length ∧
    splits ((recs l).set ((recs (l.take k)).length + 5 + m) ((recs l).getD ((recs (l.take k)).length + 5 + m) 0 ^^^ UInt8.ofNat (2 ^ bit))) = (l.take k, (recs (l.take k)).length) := by
  have hp := recs_parts l k hk
  have hpm : l.getD k [] ∈ l := by simp [List.getD, hk]
  have hpl := hl _ hpm
  have hs := rec_small (l.getD k []) (by omega)
  have hlen : (recs l).length = (recs (l.take k)).length + (5 + (l.getD k []).length + (recs (l.drop (k + 1))).length) := by
    rw [hp, List.length_append, List.length_append, hs]
  refine ⟨by omega, ?_⟩
  have hput := put_small (l.getD k []).length (by omega)
  generalize hP : l.getD k [] = p at *
  have hset : (recs l).set ((recs (l.take k)).length + 5 + m) ((recs l).getD ((recs (l.take k)).length + 5 + m) 0 ^^^ UInt8.ofNat (2 ^ bit)) =
      recs (l.take k) ++ (Mi.put p.length ++ (Cm.le4 (Cm.sum p) ++ Cm.flip p (8 * m + bit)) ++ recs (l.drop (k + 1))) := by
    rw [hp, Nat.add_assoc, set_in, get_in]
    congr 1
    have e : rec p ++ recs (l.drop (k + 1)) = (Mi.put p.length ++ Cm.le4 (Cm.sum p)) ++ (p ++ recs (l.drop (k + 1))) := by simp [rec]
    have e5 : (Mi.put p.length ++ Cm.le4 (Cm.sum p)).length = 5 := by rw [List.length_append, hput, le4_len]
    rw [e]
    have e6 : 5 + m = (Mi.put p.length ++ Cm.le4 (Cm.sum p)).length + m := by omega
    rw [e6, set_in, get_in, List.set_append, if_pos hm, flip_at p m bit hb]
    have e7 : (p ++ recs (l.drop (k + 1))).getD m 0 = p.getD m 0 := by simp [List.getD, List.getElem?_append_left hm]
    rw [e7]
    simp [List.append_assoc]
  rw [hset]
  have hfl : (Cm.flip p (8 * m + bit)).length = p.length := Cm.flip_len _ _
  have hno := first_turned p (Cm.flip p (8 * m + bit)) (recs (l.drop (k + 1))) hfl (by omega) (Cm.one_ne p _ (by omega))
  unfold splits
  rw [split_recs _ _ _ ?_ ?_ ?_]
  · have h1 : ∀ q : List (List UInt8), q.length ≤ (recs q).length := by
      intro q
      induction q with
      | nil => simp
      | cons a r ih =>
        have e : recs (a :: r) = rec a ++ recs r := by simp [recs]
        have := rec_len a
        rw [e, List.length_append, List.length_cons]
        have := (Mi.put_len a.length).1
        omega
    have := h1 (l.take k)
    rw [List.length_append]
    omega
  · intro q hq
    have := hl q (List.mem_of_mem_take hq)
    omega
  · rw [hno]
end Go.Proofs.Ytklpmpohbhhfaaa.Fm
