/- For every three batches and every number: EdgesAny answers true: in whichever order they come the edges are the same, and ordered. Conditions: none. -/
import Derived.Test.YtcnbbnjdgmlccaaVy
import Derived.Test.YtcnbbnjdgmlccaaRows
import Derived.Test.YtcnbbnjdgmlccaaChecked
import Derived.Test.YtcnbbnjdgmlccaaBs
namespace Go.Proofs.Ytcnbbnjdgmlccaa.P_EdgesAny
open Go.ChangeShapes Go.WideShapes Go.ChangeAt Go.RowKit
set_option linter.unusedVariables false
theorem own : ownKnob Try.prog.godebug = none := by kernel_rfl
theorem laidOut : laidOutB Try.prog = true := by kernel_rfl
theorem readable : ∀ t ∈ Try.f3.params.toList, Try.prog.readableRec t = true ∧ t < Try.prog.types.size := by
  rw [Try.params3]
  intro t ht
  simp only [List.mem_cons, List.not_mem_nil, or_false] at ht
  rcases ht with rfl | rfl | rfl | rfl <;> exact ⟨by kernel_rfl, of_decide_eq_true (by kernel_rfl)⟩
theorem walk (w : World) (aA : Option Addr) (a : List Ls) (an ac : Nat) (ea : an = a.length) (ra : RdSps w w.heap.size aA a) (la : an ≤ ac) (ma : ac ≤ maxLen) (bA : Option Addr) (b : List Ls) (bn bc : Nat) (eb : bn = b.length) (rb : RdSps w w.heap.size bA b) (lb : bn ≤ bc) (mb : bc ≤ maxLen) (cA : Option Addr) (c : List Ls) (cn cc : Nat) (ec : cn = c.length) (rc : RdSps w w.heap.size cA c) (lc : cn ≤ cc) (mc : cc ≤ maxLen) (m : Int) (wm : (Lit.int .i64 m).wf = true) :
    Calls Try.prog 3 #[.slice aA an ac, .slice bA bn bc, .slice cA cn cc, .int .i64 m] w fun e w' => e = .returned (.bool true) ∧ Below w.heap.size w w' := by
  have hm : -9223372036854775808 ≤ m ∧ m ≤ 9223372036854775807 := by
    have e1 : IntKind.i64.min = -9223372036854775808 := by decide
    have e2 : IntKind.i64.max = 9223372036854775807 := by decide
    simp [Lit.wf, e1, e2] at wm
    exact wm
  exact any11 aA bA cA an bn cn ac bc cc a b c m w ea eb ec ra rb rc (Nat.le_trans la ma) (Nat.le_trans lb mb) (Nat.le_trans lc mc) hm
set_option maxRecDepth 100000 in
theorem lifted (os : Os) (started : os.Started) (H : Type) (enc : TypeId × Value → H) :
    ReturnsInHanded {} Try.checked os 3 .any (Rows.edgesAnySpec.pre6 enc Try.prog Try.f3 Rows.edgesAnyRow.domain false) (Rows.edgesAnySpec.post enc Try.prog Try.f3 false true false false) := by
  refine returnsInHanded_of_change (C := Try.checked) own started (by kernel_rfl) Try.func3
    (ChangeSpec.witness6 (enc := enc) (C := Try.checked) false ⟨#[], #[.slice none 0 0, .slice none 0 0, .slice none 0 0, .int .i64 0], []⟩ 8 (by kernel_rfl) (by kernel_rfl) (by kernel_rfl) (by kernel_rfl)) ?_
  intro W base args ds gs before hval0 hW hcnd _
  have hval : ∀ (j : Nat) t v, Try.f3.params[j]? = some t → args[j]? = some v → Value.okWide Try.prog W .any base t v := hval0
  have hW' := hW
  obtain ⟨p, q, hA0, hV, rfl, hfz, hnd⟩ := hW
  have hA : DataW.TrodAll enc Try.prog W 0 (fun _ => true) true Try.f3.params.toList args.toList ds p := hA0
  rw [Try.params3] at hA hval
  obtain ⟨v0, vs0, d0, ds0, p0, q0, hargs, rfl, rfl, h0, r0⟩ := trodAll_cons hA
  obtain ⟨v1, vs1, d1, ds1, p1, q1, rfl, rfl, rfl, h1, r1⟩ := trodAll_cons r0
  obtain ⟨v2, vs2, d2, ds2, p2, q2, rfl, rfl, rfl, h2, r2⟩ := trodAll_cons r1
  obtain ⟨v3, vs3, d3, ds3, p3, q3, rfl, rfl, rfl, h3, r3⟩ := trodAll_cons r2
  obtain ⟨rfl, rfl, rfl⟩ := trodAll_nil r3
  obtain rfl : args = #[v0, v1, v2, v3] := by cases args; simp_all
  obtain ⟨rfl, rfl⟩ := trodVars_none hV
  obtain ⟨aA, a, an, ac, rfl, ea, ra, la, ma⟩ := open_spansN (hval 0 22 v0 rfl rfl) h0
  obtain ⟨bA, b, bn, bc, rfl, eb, rb, lb, mb⟩ := open_spansN (hval 1 22 v1 rfl rfl) h1
  obtain ⟨cA, c, cn, cc, rfl, ec, rc, lc, mc⟩ := open_spansN (hval 2 22 v2 rfl rfl) h2
  obtain ⟨m, rfl, _, _, wm⟩ := open_int Try.underlying3 (hval 3 3 v3 rfl rfl) h3
  refine (walk W aA a an ac ea ra la ma bA b bn bc eb rb lb mb cA c cn cc ec rc lc mc m wm).mono fun e W' ⟨he, hg⟩ => ?_
  subst he
  exact ⟨_, rfl, post_law laidOut readable rfl rfl Try.underlying4 hW' rfl rfl rfl hg⟩

theorem proved : Rows.EdgesAnySaid :=
  OpenClaim.holds_of_wide 3 Try.f3 rfl rfl rfl rfl rfl rfl rfl ⟨rfl, rfl, rfl, rfl, rfl⟩ rfl rfl rfl rfl rfl (by kernel_rfl) Try.func3 (by kernel_rfl)
    (of_decide_eq_true (by kernel_rfl)) (by unfold Func.isWrapper; first | (rw [if_pos (by decide +kernel)]; kernel_rfl) | (rw [if_neg (by decide +kernel)]; exact ⟨rfl, rfl⟩))
    (fun os started H enc _ => lifted os started H enc)
end Go.Proofs.Ytcnbbnjdgmlccaa.P_EdgesAny
