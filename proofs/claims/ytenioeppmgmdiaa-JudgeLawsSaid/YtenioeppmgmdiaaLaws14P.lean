/- For every two policies, every episode and every number: JudgeLaws answers true: not keeps what is not kept, all is both, and any one of both. Conditions: none. -/
import Derived.Test.YtenioeppmgmdiaaKl
import Derived.Test.YtenioeppmgmdiaaOq
import Derived.Test.YtenioeppmgmdiaaRows
import Derived.Test.YtenioeppmgmdiaaChecked
import Derived.Test.YtenioeppmgmdiaaBs
namespace Go.Proofs.Ytenioeppmgmdiaa.P_JudgeLaws
open Go.ChangeShapes Go.WideShapes Go.ChangeAt Go.RowKit
set_option linter.unusedVariables false
theorem own : ownKnob Try.prog.godebug = none := by kernel_rfl
theorem laidOut : laidOutB Try.prog = true := by kernel_rfl
theorem readable : ∀ t ∈ Try.f4.params.toList, Try.prog.readableRec t = true ∧ t < Try.prog.types.size := by
  rw [Try.params4]
  intro t ht
  simp only [List.mem_cons, List.not_mem_nil, or_false] at ht
  rcases ht with rfl | rfl | rfl | rfl <;> exact ⟨by kernel_rfl, of_decide_eq_true (by kernel_rfl)⟩
theorem walk (w : World) (r : Rt) (rc : List Value) (rr : RdR w w.heap.size r rc) (s : Rt) (sc : List Value) (rs : RdR w w.heap.size s sc) (e : Le) (re : RdSps w w.heap.size e.A e.l) (oe : e.ok) (kept : Int) (wkept : (Lit.int .i64 kept).wf = true) :
    Calls Try.prog 4 #[.agg rc.toArray, .agg sc.toArray, .agg e.cells.toArray, .int .i64 kept] w fun e w' => e = .returned (.bool true) ∧ Below w.heap.size w w' := by
  obtain ⟨hi, lo, f, la, su, el, eA, ec⟩ := e
  obtain ⟨h1, h2⟩ := (show (0 ≤ hi ∧ hi ≤ 18446744073709551615) ∧ (0 ≤ lo ∧ lo ≤ 18446744073709551615) from ⟨oe.hi, oe.lo⟩)
  obtain ⟨hi, rfl⟩ := Int.eq_ofNat_of_zero_le h1.1
  obtain ⟨lo, rfl⟩ := Int.eq_ofNat_of_zero_le h2.1
  exact laws14 r s rc sc hi lo f la su eA el el.length ec kept w rr rs (by omega) (by omega) rfl re (Nat.le_trans oe.cap.1 oe.cap.2)
set_option maxRecDepth 100000 in
theorem lifted (os : Os) (started : os.Started) (H : Type) (enc : TypeId × Value → H) :
    ReturnsInHanded {} Try.checked os 4 .any (Rows.judgeLawsSpec.pre6 enc Try.prog Try.f4 Rows.judgeLawsRow.domain false) (Rows.judgeLawsSpec.post enc Try.prog Try.f4 false true false false) := by
  refine returnsInHanded_of_change (C := Try.checked) own started (by kernel_rfl) Try.func4
    (ChangeSpec.witness6 (enc := enc) (C := Try.checked) false ⟨#[], #[.agg #[.int .i64 0, .int .i64 0, .string ByteArray.empty, .string ByteArray.empty, .slice none 0 0], .agg #[.int .i64 0, .int .i64 0, .string ByteArray.empty, .string ByteArray.empty, .slice none 0 0], .agg #[.int .u64 0, .int .u64 0, .int .i64 0, .int .i64 0, .bool false, .slice none 0 0], .int .i64 0], []⟩ 8 (by kernel_rfl) (by kernel_rfl) (by kernel_rfl) (by kernel_rfl)) ?_
  intro W base args ds gs before hval0 hW hcnd _
  have hval : ∀ (j : Nat) t v, Try.f4.params[j]? = some t → args[j]? = some v → Value.okWide Try.prog W .any base t v := hval0
  have hW' := hW
  obtain ⟨p, q, hA0, hV, rfl, hfz, hnd⟩ := hW
  have hA : DataW.TrodAll enc Try.prog W 0 (fun _ => true) true Try.f4.params.toList args.toList ds p := hA0
  rw [Try.params4] at hA hval
  obtain ⟨v0, vs0, d0, ds0, p0, q0, hargs, rfl, rfl, h0, r0⟩ := trodAll_cons hA
  obtain ⟨v1, vs1, d1, ds1, p1, q1, rfl, rfl, rfl, h1, r1⟩ := trodAll_cons r0
  obtain ⟨v2, vs2, d2, ds2, p2, q2, rfl, rfl, rfl, h2, r2⟩ := trodAll_cons r1
  obtain ⟨v3, vs3, d3, ds3, p3, q3, rfl, rfl, rfl, h3, r3⟩ := trodAll_cons r2
  obtain ⟨rfl, rfl, rfl⟩ := trodAll_nil r3
  obtain rfl : args = #[v0, v1, v2, v3] := by cases args; simp_all
  obtain ⟨rfl, rfl⟩ := trodVars_none hV
  obtain ⟨r, rc, rfl, rr⟩ := open_rule (hval 0 24 v0 rfl rfl) h0
  obtain ⟨s, sc, rfl, rs⟩ := open_rule (hval 1 24 v1 rfl rfl) h1
  obtain ⟨e, rfl, re, oe⟩ := open_ep (hval 2 30 v2 rfl rfl) h2
  obtain ⟨kept, rfl, _, _, wkept⟩ := open_int Try.underlying3 (hval 3 3 v3 rfl rfl) h3
  refine (walk W r rc rr s sc rs e re oe kept wkept).mono fun e W' ⟨he, hg⟩ => ?_
  subst he
  exact ⟨_, rfl, post_law laidOut readable rfl rfl Try.underlying4 hW' rfl rfl rfl hg⟩

theorem proved : Rows.JudgeLawsSaid :=
  OpenClaim.holds_of_wide 4 Try.f4 rfl rfl rfl rfl rfl rfl rfl ⟨rfl, rfl, rfl, rfl, rfl⟩ rfl rfl rfl rfl rfl (by kernel_rfl) Try.func4 (by kernel_rfl)
    (of_decide_eq_true (by kernel_rfl)) (by unfold Func.isWrapper; first | (rw [if_pos (by decide +kernel)]; kernel_rfl) | (rw [if_neg (by decide +kernel)]; exact ⟨rfl, rfl⟩))
    (fun os started H enc _ => lifted os started H enc)
end Go.Proofs.Ytenioeppmgmdiaa.P_JudgeLaws
