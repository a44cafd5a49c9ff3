/- For every two spans: SpanApart answers true: no two spans are written as one, and none is the beginning of another one. Conditions: none. -/
import Derived.Test.YthkclgkbidhmbaaAp3
import Derived.Test.YthkclgkbidhmbaaRows
import Derived.Test.YthkclgkbidhmbaaChecked
import Derived.Test.YthkclgkbidhmbaaRow
namespace Go.Proofs.Ythkclgkbidhmbaa.P_SpanApart
open Go.ChangeShapes Go.WideShapes Go.ChangeAt Go.RowKit
set_option linter.unusedVariables false
theorem own : ownKnob Try.prog.godebug = none := by kernel_rfl
theorem laidOut : laidOutB Try.prog = true := by kernel_rfl
theorem readable : ∀ t ∈ Try.f7.params.toList, Try.prog.readableRec t = true ∧ t < Try.prog.types.size := by
  rw [Try.params7]
  intro t ht
  simp only [List.mem_cons, List.not_mem_nil, or_false] at ht
  rcases ht with rfl | rfl <;> exact ⟨by kernel_rfl, of_decide_eq_true (by kernel_rfl)⟩
theorem walk (w : World) (s : Ls) (rs : RdL w w.heap.size s) (t : Ls) (rt : RdL w w.heap.size t) :
    Calls Try.prog 7 #[.agg s.cells.toArray, .agg t.cells.toArray] w fun e w' => e = .returned (.bool true) ∧ Below w.heap.size w w' := by
  obtain ⟨⟨x0, x1, x2, x3, x4, x5, x6, x7, x8, ats⟩, xA, xc⟩ := s
  obtain ⟨⟨y0, y1, y2, y3, y4, y5, y6, y7, y8, bts⟩, yA, yc⟩ := t
  cases hr : right ⟨x0, x1, x2, x3, x4, x5, x6, x7, x8, ats⟩ with
  | false => exact apart_out x0 x1 x2 x3 x4 x5 x6 x7 x8 ats xA xc ats.length y0 y1 y2 y3 y4 y5 y6 y7 y8 bts yA yc bts.length w rfl rfl rs rt (.inl hr)
  | true =>
    cases hq : right ⟨y0, y1, y2, y3, y4, y5, y6, y7, y8, bts⟩ with
    | false => exact apart_out x0 x1 x2 x3 x4 x5 x6 x7 x8 ats xA xc ats.length y0 y1 y2 y3 y4 y5 y6 y7 y8 bts yA yc bts.length w rfl rfl rs rt (.inr hq)
    | true => exact apart_in x0 x1 x2 x3 x4 x5 x6 x7 x8 ats xA xc ats.length y0 y1 y2 y3 y4 y5 y6 y7 y8 bts yA yc bts.length w rfl rfl rs rt hr hq
set_option maxRecDepth 100000 in
theorem lifted (os : Os) (started : os.Started) (H : Type) (enc : TypeId × Value → H) :
    ReturnsInHanded {} Try.checked os 7 .any (Rows.spanApartSpec.pre6 enc Try.prog Try.f7 Rows.spanApartRow.domain false) (Rows.spanApartSpec.post enc Try.prog Try.f7 false true false false) := by
  refine returnsInHanded_of_change (C := Try.checked) own started (by kernel_rfl) Try.func7
    (ChangeSpec.witness6 (enc := enc) (C := Try.checked) false ⟨#[], #[.agg #[.int .u64 0, .int .u64 0, .int .u64 0, .int .u64 0, .string ByteArray.empty, .string ByteArray.empty, .int .i64 0, .int .i64 0, .bool false, .slice none 0 0], .agg #[.int .u64 0, .int .u64 0, .int .u64 0, .int .u64 0, .string ByteArray.empty, .string ByteArray.empty, .int .i64 0, .int .i64 0, .bool false, .slice none 0 0]], []⟩ 8 (by kernel_rfl) (by kernel_rfl) (by kernel_rfl) (by kernel_rfl)) ?_
  intro W base args ds gs before hval0 hW hcnd _
  have hval : ∀ (j : Nat) t v, Try.f7.params[j]? = some t → args[j]? = some v → Value.okWide Try.prog W .any base t v := hval0
  have hW' := hW
  obtain ⟨p, q, hA0, hV, rfl, hfz, hnd⟩ := hW
  have hA : DataW.TrodAll enc Try.prog W 0 (fun _ => true) true Try.f7.params.toList args.toList ds p := hA0
  rw [Try.params7] at hA hval
  obtain ⟨v0, vs0, d0, ds0, p0, q0, hargs, rfl, rfl, h0, r0⟩ := trodAll_cons hA
  obtain ⟨v1, vs1, d1, ds1, p1, q1, rfl, rfl, rfl, h1, r1⟩ := trodAll_cons r0
  obtain ⟨rfl, rfl, rfl⟩ := trodAll_nil r1
  obtain rfl : args = #[v0, v1] := by cases args; simp_all
  obtain ⟨rfl, rfl⟩ := trodVars_none hV
  obtain ⟨s, rfl, rs⟩ := open_span (hval 0 36 v0 rfl rfl) h0
  obtain ⟨t, rfl, rt⟩ := open_span (hval 1 36 v1 rfl rfl) h1
  refine (walk W s rs t rt).mono fun e W' ⟨he, hg⟩ => ?_
  subst he
  exact ⟨_, rfl, post_law laidOut readable rfl rfl Try.underlying4 hW' rfl rfl rfl hg⟩

theorem proved : Rows.SpanApartSaid :=
  OpenClaim.holds_of_wide 7 Try.f7 rfl rfl rfl rfl rfl rfl rfl ⟨rfl, rfl, rfl, rfl, rfl⟩ rfl rfl rfl rfl rfl (by kernel_rfl) Try.func7 (by kernel_rfl)
    (of_decide_eq_true (by kernel_rfl)) (by unfold Func.isWrapper; first | (rw [if_pos (by decide +kernel)]; kernel_rfl) | (rw [if_neg (by decide +kernel)]; exact ⟨rfl, rfl⟩))
    (fun os started H enc _ => lifted os started H enc)
end Go.Proofs.Ythkclgkbidhmbaa.P_SpanApart
