/- Policies as texts: how one is written. -/
import Derived.Test.YtgiahfjndononaaDoorPoq
import Derived.Lib.ItoaMem
namespace Go.Proofs.YtgiahfjndononaaDoor
open Go.RowKit
set_option linter.unusedVariables false
set_option linter.unusedSimpArgs false
set_option maxRecDepth 100000

namespace Wm
def esc : List UInt8 → List UInt8
  | [] => []
  | c :: r => if c = 34 ∨ c = 92 then 92 :: c :: esc r else c :: esc r
def quo (l : List UInt8) : List UInt8 := 34 :: (esc l ++ [34])
mutual
def shw : Rt → List UInt8
  | .mk k n key val kids => wd k.toNat ++ (if (k == 5) = true then [] else if (k == 6) = true then 32 :: (quo key.data.toList ++ (32 :: quo val.data.toList)) else if (k == 1 || k == 2 || k == 3) = true then 40 :: (shwL kids ++ [41]) else 32 :: Lib.decDigits n.toNat)
def shwL : List Rt → List UInt8
  | [] => []
  | r :: rs => shw r ++ shwT rs
def shwT : List Rt → List UInt8
  | [] => []
  | r :: rs => 44 :: 32 :: (shw r ++ shwT rs)
end
theorem shw_mk (k n : Int) (key val : ByteArray) (kids : List Rt) : shw (.mk k n key val kids) = wd k.toNat ++ (if (k == 5) = true then [] else if (k == 6) = true then 32 :: (quo key.data.toList ++ (32 :: quo val.data.toList)) else if (k == 1 || k == 2 || k == 3) = true then 40 :: (shwL kids ++ [41]) else 32 :: Lib.decDigits n.toNat) := by rw [shw]
theorem shwL_nil : shwL [] = [] := by rw [shwL]
theorem shwL_cons (r : Rt) (rs : List Rt) : shwL (r :: rs) = shw r ++ shwT rs := by rw [shwL]
theorem shwT_cons (r : Rt) (rs : List Rt) : shwT (r :: rs) = 44 :: 32 :: (shw r ++ shwT rs) := by rw [shwT]
theorem shwT_nil : shwT [] = [] := by rw [shwT]
theorem shwT_snoc (l : List Rt) (r : Rt) : shwT (l ++ [r]) = shwT l ++ 44 :: 32 :: shw r := by
  induction l with
  | nil => rw [List.nil_append, shwT_cons, shwT_nil]; simp
  | cons x l ih => rw [List.cons_append, shwT_cons, shwT_cons, ih]; simp
theorem shwL_one (r : Rt) : shwL [r] = shw r := by rw [shwL_cons, shwT_nil]; simp
theorem shwL_snoc (l : List Rt) (r : Rt) (h : l ≠ []) : shwL (l ++ [r]) = shwL l ++ 44 :: 32 :: shw r := by
  cases l with
  | nil => exact absurd rfl h
  | cons x l => rw [List.cons_append, shwL_cons, shwL_cons, shwT_snoc]; simp
theorem shwL_app (a b : List Rt) : (shwL a).length ≤ (shwL (a ++ b)).length := by
  induction b generalizing a with
  | nil => simp
  | cons r b ih =>
    rw [show a ++ r :: b = (a ++ [r]) ++ b by simp]
    refine Nat.le_trans ?_ (ih (a ++ [r]))
    cases a with
    | nil => rw [shwL_nil]; simp
    | cons x a => rw [shwL_snoc _ _ (by simp)]; simp
theorem esc_len : ∀ l : List UInt8, (esc l).length ≤ 2 * l.length
  | [] => by simp [esc]
  | c :: r => by
    have := esc_len r
    rw [esc]
    split <;> simp only [List.length_cons] <;> omega
theorem esc_app (a : List UInt8) (b : List UInt8) : esc (a ++ b) = esc a ++ esc b := by
  induction a with
  | nil => simp [esc]
  | cons c a ih =>
    rw [List.cons_append, esc, esc, ih]
    split <;> simp
theorem quo_len (l : List UInt8) : (quo l).length ≤ 2 * l.length + 2 := by
  unfold quo
  have := esc_len l
  simp
  omega
end Wm
end Go.Proofs.YtgiahfjndononaaDoor
