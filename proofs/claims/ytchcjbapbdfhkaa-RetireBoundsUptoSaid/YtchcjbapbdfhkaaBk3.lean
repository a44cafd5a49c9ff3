/- SpanBack: a span is read as it was written, whatever stands behind it, and from no beginning of it. -/
import Derived.Test.YtchcjbapbdfhkaaAl3
import Derived.Test.YtchcjbapbdfhkaaRr
namespace Go.Proofs.Ytchcjbapbdfhkaa
open Go.RowKit
set_option linter.unusedVariables false
set_option maxRecDepth 100000

theorem encA_len : ∀ (l : List (ByteArray × ByteArray)), (∀ a ∈ l, a.1.size ≤ 16 ∧ a.2.size ≤ 16) → (encA l).length ≤ 52 * l.length
  | [], _ => by simp [encA]
  | a :: l, h => by
    have h1 := encA_len l (fun x hx => h x (by simp [hx]))
    have h2 := h a (by simp)
    have h3 := text_len a.1 h2.1
    have h4 := text_len a.2 h2.2
    have e : encA (a :: l) = (Mi.text a.1.data.toList ++ Mi.text a.2.data.toList) ++ encA l := rfl
    rw [e, List.length_append, List.length_append, List.length_cons]
    omega
theorem enc_len {s : Sp} (hr : right s = true) : 0 < (enc s).length ∧ (enc s).length ≤ 400 := by
  obtain ⟨r1, r2, r3, r4, r5, r6, r7⟩ := right_parts hr
  have q4 := text_len s.sv (nameB_len r1).2
  have q5 := text_len s.op (nameB_len r2).2
  have q8 := rightAts_len r7
  have hat : ∀ a ∈ s.ats, a.1.size ≤ 16 ∧ a.2.size ≤ 16 := fun a ha => by
    obtain ⟨k, hk⟩ := List.getElem?_of_mem ha
    exact okAt_len r7 hk
  have q9 := encA_len s.ats hat
  have l0 := Mi.put_len s.hi.toNat
  have l1 := Mi.put_len s.lo.toNat
  have l2 := Mi.put_len s.id.toNat
  have l3 := Mi.put_len s.pa.toNat
  have l6 := Mi.put_len s.st.toNat
  have l7 := Mi.put_len s.du.toNat
  have l9 := Mi.put_len s.ats.length
  have l8 : (flag s.er).length = 1 := rfl
  unfold enc
  simp only [List.length_append]
  omega
end Go.Proofs.Ytchcjbapbdfhkaa
