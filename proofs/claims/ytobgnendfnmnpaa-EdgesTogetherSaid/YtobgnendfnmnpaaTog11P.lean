/- For every two batches, every trace and every number: EdgesTogether answers true: batches of unlike traces count as one batch of both, and who calls is looked for in the batch alone. Conditions: none. -/
import Derived.Test.YtobgnendfnmnpaaWe
import Derived.Test.YtobgnendfnmnpaaRows
import Derived.Test.YtobgnendfnmnpaaChecked
import Derived.Test.YtobgnendfnmnpaaBs
namespace Go.Proofs.Ytobgnendfnmnpaa.P_EdgesTogether
open Go.ChangeShapes Go.WideShapes Go.ChangeAt Go.RowKit
set_option linter.unusedVariables false
theorem own : ownKnob Try.prog.godebug = none := by kernel_rfl
theorem laidOut : laidOutB Try.prog = true := by kernel_rfl
theorem readable : ∀ t ∈ Try.f4.params.toList, Try.prog.readableRec t = true ∧ t < Try.prog.types.size := by
  rw [Try.params4]
  intro t ht
  simp only [List.mem_cons, List.not_mem_nil, or_false] at ht
  rcases ht with rfl | rfl | rfl | rfl <;> exact ⟨by kernel_rfl, of_decide_eq_true (by kernel_rfl)⟩
theorem walk (w : World) (aA : Option Addr) (a : List Ls) (an ac : Nat) (ea : an = a.length) (ra : RdSps w w.heap.size aA a) (la : an ≤ ac) (ma : ac ≤ maxLen) (bA : Option Addr) (b : List Ls) (bn bc : Nat) (eb : bn = b.length) (rb : RdSps w w.heap.size bA b) (lb : bn ≤ bc) (mb : bc ≤ maxLen) (th tl : Nat) (wt : th < 18446744073709551616 ∧ tl < 18446744073709551616) (m : Int) (wm : (Lit.int .i64 m).wf = true) :
    Calls Try.prog 4 #[.slice aA an ac, .slice bA bn bc, .agg #[.int .u64 th, .int .u64 tl], .int .i64 m] w fun e w' => e = .returned (.bool true) ∧ Below w.heap.size w w' := by
  have hm : -9223372036854775808 ≤ m ∧ m ≤ 9223372036854775807 := by
    have e1 : IntKind.i64.min = -9223372036854775808 := by decide
    have e2 : IntKind.i64.max = 9223372036854775807 := by decide
    simp [Lit.wf, e1, e2] at wm
    exact wm
  exact together11 aA bA an bn ac bc a b th tl m w ea eb ra rb (Nat.le_trans la ma) (Nat.le_trans lb mb) (by omega) (by omega) hm
set_option maxRecDepth 100000 in
theorem lifted (os : Os) (started : os.Started) (H : Type) (enc : TypeId × Value → H) :
    ReturnsInHanded {} Try.checked os 4 .any (Rows.edgesTogetherSpec.pre6 enc Try.prog Try.f4 Rows.edgesTogetherRow.domain false) (Rows.edgesTogetherSpec.post enc Try.prog Try.f4 false true false false) := by
  refine returnsInHanded_of_change (C := Try.checked) own started (by kernel_rfl) Try.func4
    (ChangeSpec.witness6 (enc := enc) (C := Try.checked) false ⟨#[], #[.slice none 0 0, .slice none 0 0, .agg #[.int .u64 0, .int .u64 0], .int .i64 0], []⟩ 8 (by kernel_rfl) (by kernel_rfl) (by kernel_rfl) (by kernel_rfl)) ?_
  intro W base args ds gs before hval0 hW hcnd _
  have hval : ∀ (j : Nat) t v, Try.f4.params[j]? = some t → args[j]? = some v → Value.okWide Try.prog W .any base t v := hval0
  have hW' := hW
  obtain ⟨p, q, hA0, hV, rfl, hfz, hnd⟩ := hW
  have hA : DataW.TrodAll enc Try.prog W 0 (fun _ => true) true Try.f4.params.toList args.toList ds p := hA0
  rw [Try.params4] at hA hval
  obtain ⟨v0, vs0, d0, ds0, p0, q0, hargs, rfl, rfl, h0, r0⟩ := trodAll_cons hA
  obtain ⟨v1, vs1, d1, ds1, p1, q1, rfl, rfl, rfl, h1, r1⟩ := trodAll_cons r0
  obtain ⟨v2, vs2, d2, ds2, p2, q2, rfl, rfl, rfl, h2, r2⟩ := trodAll_cons r1
  obtain ⟨v3, vs3, d3, ds3, p3, q3, rfl, rfl, rfl, h3, r3⟩ := trodAll_cons r2
  obtain ⟨rfl, rfl, rfl⟩ := trodAll_nil r3
  obtain rfl : args = #[v0, v1, v2, v3] := by cases args; simp_all
  obtain ⟨rfl, rfl⟩ := trodVars_none hV
  obtain ⟨aA, a, an, ac, rfl, ea, ra, la, ma⟩ := open_spansN (hval 0 25 v0 rfl rfl) h0
  obtain ⟨bA, b, bn, bc, rfl, eb, rb, lb, mb⟩ := open_spansN (hval 1 25 v1 rfl rfl) h1
  obtain ⟨th, tl, rfl, wt⟩ := open_trace2 (hval 2 30 v2 rfl rfl) h2
  obtain ⟨m, rfl, _, _, wm⟩ := open_int Try.underlying3 (hval 3 3 v3 rfl rfl) h3
  refine (walk W aA a an ac ea ra la ma bA b bn bc eb rb lb mb th tl wt m wm).mono fun e W' ⟨he, hg⟩ => ?_
  subst he
  exact ⟨_, rfl, post_law laidOut readable rfl rfl Try.underlying4 hW' rfl rfl rfl hg⟩

theorem proved : Rows.EdgesTogetherSaid :=
  OpenClaim.holds_of_wide 4 Try.f4 rfl rfl rfl rfl rfl rfl rfl ⟨rfl, rfl, rfl, rfl, rfl⟩ rfl rfl rfl rfl rfl (by kernel_rfl) Try.func4 (by kernel_rfl)
    (of_decide_eq_true (by kernel_rfl)) (by unfold Func.isWrapper; first | (rw [if_pos (by decide +kernel)]; kernel_rfl) | (rw [if_neg (by decide +kernel)]; exact ⟨rfl, rfl⟩))
    (fun os started H enc _ => lifted os started H enc)
end Go.Proofs.Ytobgnendfnmnpaa.P_EdgesTogether
