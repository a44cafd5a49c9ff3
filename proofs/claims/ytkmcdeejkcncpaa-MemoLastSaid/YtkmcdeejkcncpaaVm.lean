/- Plain mathematics of verdicts remembered: a verdict is two numbers and a bool. No Go in sight. -/
import Derived.WalkKit
namespace Go.Proofs.Ytkmcdeejkcncpaa.Vm
open Go.RowKit
abbrev V := Nat × Nat × Bool
def same (a b : V) : Bool := a.1 == b.1 && a.2.1 == b.2.1
def enc (v : V) : List Value := [.int .u64 v.1, .int .u64 v.2.1, .bool v.2.2]
def encs (l : List V) : List Value := l.flatMap enc
/-- All of them but those on v's trace, behind v. -/
def ahead (v : V) (l : List V) : List V := v :: l.filter fun o => !same o v
def put (l : List V) (v : V) (m : Nat) : List V := (ahead v l).take m
/-- The first verdict on a trace. -/
def find : List V → Nat → Nat → Bool × Bool
  | [], _, _ => (false, false)
  | v :: r, h, t => if v.1 = h ∧ v.2.1 = t then (v.2.2, true) else find r h t

theorem encs_len (l : List V) : (encs l).length = l.length * 3 := by
  induction l with
  | nil => rfl
  | cons v r ih => simp only [encs, List.flatMap_cons, List.length_append, List.length_cons, enc, List.length_nil] at *; omega
theorem encs_append (a b : List V) : encs (a ++ b) = encs a ++ encs b := by simp [encs]
theorem encs_take (l : List V) (k : Nat) : (encs l).take (k * 3) = encs (l.take k) := by
  induction l generalizing k with
  | nil => simp [encs]
  | cons v r ih =>
    rcases k with _ | k
    · simp [encs]
    · have := ih k
      have e : encs (v :: r) = enc v ++ encs r := by simp [encs]
      have e2 : encs ((v :: r).take (k + 1)) = enc v ++ encs (r.take k) := by simp [encs]
      rw [e, e2, List.take_append, ← this]
      have h3 : (enc v).length = 3 := rfl
      rw [List.take_of_length_le (by omega), h3]
      congr 2
      omega
theorem encs_at (l : List V) (k : Nat) (h : k < l.length) : (encs l)[k * 3]? = some (.int .u64 (l[k]).1) ∧ (encs l)[k * 3 + 1]? = some (.int .u64 (l[k]).2.1) ∧ (encs l)[k * 3 + 2]? = some (.bool (l[k]).2.2) := by
  induction l generalizing k with
  | nil => simp at h
  | cons v r ih =>
    have e : encs (v :: r) = [.int .u64 v.1, .int .u64 v.2.1, .bool v.2.2] ++ encs r := by simp [encs, enc]
    rcases k with _ | k
    · rw [e]; simp
    · have := ih k (by simpa using h)
      rw [e]
      simp only [List.getElem_cons_succ]
      rw [List.getElem?_append_right (by simp; omega), List.getElem?_append_right (by simp; omega), List.getElem?_append_right (by simp; omega)]
      simp only [List.length_cons, List.length_nil]
      rw [show (k + 1) * 3 - (0 + 1 + 1 + 1) = k * 3 from by omega, show (k + 1) * 3 + 1 - (0 + 1 + 1 + 1) = k * 3 + 1 from by omega, show (k + 1) * 3 + 2 - (0 + 1 + 1 + 1) = k * 3 + 2 from by omega]
      exact this
theorem ahead_len (v : V) (l : List V) : (ahead v l).length ≤ l.length + 1 := by
  simp only [ahead, List.length_cons]
  have := List.length_filter_le (fun o => !same o v) l
  omega
theorem ahead_snoc (v : V) (l : List V) (k : Nat) (h : k < l.length) : ahead v (l.take (k + 1)) = ahead v (l.take k) ++ (if same l[k] v then [] else [l[k]]) := by
  unfold ahead
  rw [List.take_succ_eq_append_getElem h, List.filter_append, List.cons_append]
  congr 2
  by_cases hs : same l[k] v = true
  · simp [hs]
  · simp [hs]
end Go.Proofs.Ytkmcdeejkcncpaa.Vm
