/- A file, and its like under another name: what calls leave (plain). -/
import Derived.Test.YtbdiamhhlabojaaDoorUv
namespace Go.Proofs.YtbdiamhhlabojaaDoor
open Go.RowKit
set_option linter.unusedVariables false
set_option linter.unusedSimpArgs false
set_option maxRecDepth 100000

structure Pr (f t : ByteArray) : Prop where
  lt : cmpT f t < 0
  gt : ¬ cmpT t f < 0
  ne : cmpT t f ≠ 0
  fne : (f.toList == ([] : List UInt8)) = false
  tne : (t.toList == ([] : List UInt8)) = false
  ft : (f.toList == t.toList) = false
theorem pr_f : Pr ⟨#[102]⟩ ⟨#[102, 46, 116, 109, 112]⟩ := ⟨by decide +kernel, by decide +kernel, by decide +kernel, by decide +kernel, by decide +kernel, by decide +kernel⟩
theorem pr_x : Pr ⟨#[120]⟩ ⟨#[120, 46, 116, 109, 112]⟩ := ⟨by decide +kernel, by decide +kernel, by decide +kernel, by decide +kernel, by decide +kernel, by decide +kernel⟩
def shA (f : ByteArray) (A : Option (List UInt8)) : List Lg := match A with | none => [] | some x => [(f, x, (x.length : Int))]
def shB (t : ByteArray) (B : Option (List UInt8 × Int)) : List Lg := match B with | none => [] | some y => [(t, y.1, y.2)]
def shL (f t : ByteArray) (A : Option (List UInt8)) (B : Option (List UInt8 × Int)) : List Lg := shA f A ++ shB t B
def gS (f t : ByteArray) (rm us : Int) (fu : Bool) (lf : Int) (A : Option (List UInt8)) (B : Option (List UInt8 × Int)) : Dg := ⟨rm, us, shL f t A B, fu, lf⟩
def lenA (A : Option (List UInt8)) : Nat := match A with | none => 0 | some _ => 1
def bytA (A : Option (List UInt8)) : Nat := match A with | none => 0 | some x => x.length
def bytB (B : Option (List UInt8 × Int)) : Nat := match B with | none => 0 | some y => y.1.length
def okB (B : Option (List UInt8 × Int)) : Prop := ∀ y, B = some y → 0 ≤ y.2 ∧ y.2 ≤ (y.1.length : Int)
theorem shL_sort {f t : ByteArray} (hp : Pr f t) (A : Option (List UInt8)) (B : Option (List UInt8 × Int)) : SortG (shL f t A B) := by
  cases A with
  | none =>
    cases B with
    | none => exact List.Pairwise.nil
    | some y =>
      show SortG [(t, y.1, y.2)]
      exact List.pairwise_singleton _ _
  | some x =>
    cases B with
    | none =>
      show SortG [(f, x, (x.length : Int))]
      exact List.pairwise_singleton _ _
    | some y =>
      show SortG [(f, x, (x.length : Int)), (t, y.1, y.2)]
      exact List.pairwise_cons.2 ⟨fun z hz => by rw [List.mem_singleton] at hz; subst hz; exact hp.lt, List.pairwise_singleton _ _⟩
theorem shL_len (f t : ByteArray) (A : Option (List UInt8)) (B : Option (List UInt8 × Int)) : (shL f t A B).length ≤ 2 := by
  cases A with
  | none =>
    cases B with
    | none => exact Nat.zero_le 2
    | some y => exact (show 1 ≤ 2 by decide)
  | some x =>
    cases B with
    | none => exact (show 1 ≤ 2 by decide)
    | some y => exact (show 2 ≤ 2 by decide)
theorem shL_mem {f t : ByteArray} (hp : Pr f t) {A : Option (List UInt8)} {B : Option (List UInt8 × Int)} {z : Lg} (h : z ∈ shL f t A B) : (∃ x, A = some x ∧ z = (f, x, (x.length : Int))) ∨ ∃ y, B = some y ∧ z = (t, y.1, y.2) := by
  rcases List.mem_append.1 h with h | h
  · cases A with
    | none => cases h
    | some x => exact .inl ⟨x, rfl, List.mem_singleton.1 h⟩
  · cases B with
    | none => cases h
    | some y => exact .inr ⟨y, rfl, List.mem_singleton.1 h⟩
theorem gS_ok {f t : ByteArray} (hp : Pr f t) (rm us : Int) (fu : Bool) (lf : Int) (A : Option (List UInt8)) (B : Option (List UInt8 × Int)) (h0 : 0 ≤ rm ∧ rm ≤ 9223372036854775807) (h1 : 0 ≤ us ∧ us ≤ 4611686018427387904) (h2 : -9223372036854775807 ≤ lf ∧ lf ≤ 9223372036854775807) (hA : bytA A ≤ 2147483648) (hB : bytB B ≤ 2147483648) : (gS f t rm us fu lf A B).ok :=
  ⟨h1, h0, h2, shL_sort hp A B, Nat.le_trans (shL_len f t A B) (by decide), fun z hz => by
    rcases shL_mem hp hz with ⟨x, rfl, rfl⟩ | ⟨y, rfl, rfl⟩
    · exact hA
    · exact hB⟩
theorem hit_sf {f t : ByteArray} (hp : Pr f t) (A : Option (List UInt8)) (B : Option (List UInt8 × Int)) : hitG (shL f t A B) f = A.isSome := by
  cases A with
  | some x => exact first_hit (shL_sort hp (some x) B)
  | none =>
    cases B with
    | none => rfl
    | some y =>
      have e : posG (shL f t none (some y)) f = 0 := by
        unfold posG shL shA shB
        rw [List.nil_append, List.countP_cons_of_neg (by simpa using hp.gt)]; rfl
      unfold hitG
      rw [e]
      show Option.any _ (some _) = false
      simp [hp.ne]
theorem pos_sf {f t : ByteArray} (hp : Pr f t) (x : List UInt8) (B : Option (List UInt8 × Int)) : posG (shL f t (some x) B) f = 0 := first_pos (shL_sort hp (some x) B)
theorem all_t {f t : ByteArray} (hp : Pr f t) (A : Option (List UInt8)) : ∀ z ∈ shL f t A none, cmpT z.1 t < 0 := fun z hz => by
  rcases shL_mem hp hz with ⟨x, rfl, rfl⟩ | ⟨y, h, _⟩
  · exact hp.lt
  · cases h
theorem put_t {f t : ByteArray} (hp : Pr f t) (rm us : Int) (fu : Bool) (lf : Int) (A : Option (List UInt8)) (b : List UInt8) : ((gS f t rm us fu lf A none).put t b).burnt = gS f t rm (us + b.length) fu (if fu = true then lf - 1 else lf) A (some (b, 0)) := by
  unfold Dg.put Dg.burnt gS
  have e : putL (shL f t A none) t b = shL f t A (some (b, 0)) := by
    rw [put_all (all_t hp A) b]
    unfold shL shB
    rw [List.append_nil]
  simp only [e]
theorem pos_t {f t : ByteArray} (hp : Pr f t) (A : Option (List UInt8)) (y : List UInt8 × Int) : posG (shL f t A (some y)) t = lenA A := by
  cases A with
  | none => exact first_pos (shL_sort hp none (some y))
  | some x =>
    unfold posG shL shA shB lenA
    rw [List.singleton_append, List.countP_cons_of_pos (by simpa using hp.lt), List.countP_cons_of_neg (by simp [cmp_rr])]
    rfl
theorem hit_t {f t : ByteArray} (hp : Pr f t) (A : Option (List UInt8)) (y : List UInt8 × Int) : hitG (shL f t A (some y)) t = true := by
  unfold hitG
  rw [pos_t hp]
  cases A <;> simp [shL, shA, shB, lenA, cmp_rr]
theorem at_t {f t : ByteArray} (hp : Pr f t) (A : Option (List UInt8)) (y : List UInt8 × Int) : (shL f t A (some y))[lenA A]? = some (t, y.1, y.2) := by
  cases A <;> rfl
theorem sync_t {f t : ByteArray} (hp : Pr f t) (rm us : Int) (fu : Bool) (lf : Int) (A : Option (List UInt8)) (b : List UInt8) : ((gS f t rm us fu lf A (some (b, 0))).synced (lenA A) (t, b, 0)).burnt = gS f t rm us fu (if fu = true then lf - 1 else lf) A (some (b, (b.length : Int))) := by
  cases A <;> rfl
theorem crash_s {f t : ByteArray} (hp : Pr f t) (ps : List Int) (A : Option (List UInt8)) (B : Option (List UInt8 × Int)) (hB : okB B) : ∃ B', crashN ps 0 (shL f t A B) = shL f t A B' ∧ bytB B' ≤ bytB B := by
  have hf : ∀ (p : Int) (x : List UInt8), crashX p (f, x, (x.length : Int)) = (f, x, (x.length : Int)) := fun p x => by
    have e1 : cutE p (f, x, (x.length : Int)) = (x.length : Int) := by
      unfold cutE
      show (x.length : Int) + min (max p 0) ((x.length : Int) - x.length) = _
      omega
    unfold crashX
    rw [e1, Int.toNat_natCast]
    show (f, x.take x.length, _) = _
    rw [List.take_length]
  have ht : ∀ (p : Int) (y : List UInt8 × Int), crashX p (t, y.1, y.2) = (t, y.1.take (cutE p (t, y.1, y.2)).toNat, cutE p (t, y.1, y.2)) := fun p y => rfl
  cases A with
  | none =>
    cases B with
    | none => exact ⟨none, rfl, Nat.le_refl _⟩
    | some y => exact ⟨some (y.1.take (cutE (ps.getD 0 0) (t, y.1, y.2)).toNat, cutE (ps.getD 0 0) (t, y.1, y.2)), rfl, by show (List.take _ y.1).length ≤ y.1.length; rw [List.length_take]; exact Nat.min_le_right _ _⟩
  | some x =>
    cases B with
    | none =>
      refine ⟨none, ?_, Nat.le_refl _⟩
      show [crashX _ _] = _
      rw [hf]; rfl
    | some y =>
      refine ⟨some (y.1.take (cutE (ps.getD 1 0) (t, y.1, y.2)).toNat, cutE (ps.getD 1 0) (t, y.1, y.2)), ?_, by show (List.take _ y.1).length ≤ y.1.length; rw [List.length_take]; exact Nat.min_le_right _ _⟩
      show [crashX _ _, crashX _ _] = _
      rw [hf]; rfl
theorem sure_s {f t : ByteArray} (hp : Pr f t) {A : Option (List UInt8)} {B : Option (List UInt8 × Int)} (hB : okB B) : ∀ z ∈ shL f t A B, sureOk z := fun z hz => by
  rcases shL_mem hp hz with ⟨x, rfl, rfl⟩ | ⟨y, rfl, rfl⟩
  · exact ⟨by show (0 : Int) ≤ (x.length : Int); omega, by show (x.length : Int) ≤ (x.length : Int); omega⟩
  · exact hB y rfl
theorem sum_s {f t : ByteArray} (hp : Pr f t) (A : Option (List UInt8)) (B : Option (List UInt8 × Int)) : sumD (shL f t A B) = (bytA A : Int) + (bytB B : Int) := by
  cases A <;> cases B <;> simp [sumD, shL, shA, shB, bytA, bytB]
end Go.Proofs.YtbdiamhhlabojaaDoor
