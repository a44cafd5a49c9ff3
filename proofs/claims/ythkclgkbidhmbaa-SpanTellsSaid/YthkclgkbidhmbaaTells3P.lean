/- For every two spans and all bytes: SpanTells answers true: which spans may be, how any is written, which any bytes begin with, and which two are one. Conditions: none. -/
import Derived.Test.YthkclgkbidhmbaaTl3
import Derived.Test.YthkclgkbidhmbaaRows
import Derived.Test.YthkclgkbidhmbaaChecked
import Derived.Test.YthkclgkbidhmbaaRow
namespace Go.Proofs.Ythkclgkbidhmbaa.P_SpanTells
open Go.ChangeShapes Go.WideShapes Go.ChangeAt Go.RowKit
set_option linter.unusedVariables false
theorem own : ownKnob Try.prog.godebug = none := by kernel_rfl
theorem laidOut : laidOutB Try.prog = true := by kernel_rfl
theorem readable : ∀ t ∈ Try.f4.params.toList, Try.prog.readableRec t = true ∧ t < Try.prog.types.size := by
  rw [Try.params4]
  intro t ht
  simp only [List.mem_cons, List.not_mem_nil, or_false] at ht
  rcases ht with rfl | rfl | rfl <;> exact ⟨by kernel_rfl, of_decide_eq_true (by kernel_rfl)⟩
theorem walk (w : World) (s : Ls) (rs : RdL w w.heap.size s) (t : Ls) (rt : RdL w w.heap.size t) (bA : Option Addr) (b : List UInt8) (bc : Nat) (rb : Rd w w.heap.size bA (b.map B8)) (lb : b.length ≤ bc) (mb : bc ≤ maxLen) :
    Calls Try.prog 4 #[.agg s.cells.toArray, .agg t.cells.toArray, .slice bA b.length bc] w fun e w' => e = .returned (.bool true) ∧ Below w.heap.size w w' := by
  obtain ⟨⟨x0, x1, x2, x3, x4, x5, x6, x7, x8, ats⟩, xA, xc⟩ := s
  obtain ⟨⟨y0, y1, y2, y3, y4, y5, y6, y7, y8, bts⟩, yA, yc⟩ := t
  by_cases ho : few ⟨x0, x1, x2, x3, x4, x5, x6, x7, x8, ats⟩ = false ∨ few ⟨y0, y1, y2, y3, y4, y5, y6, y7, y8, bts⟩ = false ∨ 500 < b.length
  · exact tell3_out x0 x1 x2 x3 x4 x5 x6 x7 x8 ats xA xc ats.length y0 y1 y2 y3 y4 y5 y6 y7 y8 bts yA yc bts.length bA b b.length bc w rfl rfl rs rt rfl ho
  · have h1 : few ⟨x0, x1, x2, x3, x4, x5, x6, x7, x8, ats⟩ = true := by
      cases hr : few ⟨x0, x1, x2, x3, x4, x5, x6, x7, x8, ats⟩ with
      | false => exact absurd (.inl hr) ho
      | true => rfl
    have h2 : few ⟨y0, y1, y2, y3, y4, y5, y6, y7, y8, bts⟩ = true := by
      cases hr : few ⟨y0, y1, y2, y3, y4, y5, y6, y7, y8, bts⟩ with
      | false => exact absurd (.inr (.inl hr)) ho
      | true => rfl
    exact tell3_in x0 x1 x2 x3 x4 x5 x6 x7 x8 ats xA xc ats.length y0 y1 y2 y3 y4 y5 y6 y7 y8 bts yA yc bts.length bA b b.length bc w rfl rfl rs rt rfl rb lb mb (by omega) h1 h2
set_option maxRecDepth 100000 in
theorem lifted (os : Os) (started : os.Started) (H : Type) (enc : TypeId × Value → H) :
    ReturnsInHanded {} Try.checked os 4 .any (Rows.spanTellsSpec.pre6 enc Try.prog Try.f4 Rows.spanTellsRow.domain false) (Rows.spanTellsSpec.post enc Try.prog Try.f4 false true false false) := by
  refine returnsInHanded_of_change (C := Try.checked) own started (by kernel_rfl) Try.func4
    (ChangeSpec.witness6 (enc := enc) (C := Try.checked) false ⟨#[], #[.agg #[.int .u64 0, .int .u64 0, .int .u64 0, .int .u64 0, .string ByteArray.empty, .string ByteArray.empty, .int .i64 0, .int .i64 0, .bool false, .slice none 0 0], .agg #[.int .u64 0, .int .u64 0, .int .u64 0, .int .u64 0, .string ByteArray.empty, .string ByteArray.empty, .int .i64 0, .int .i64 0, .bool false, .slice none 0 0], .slice none 0 0], []⟩ 8 (by kernel_rfl) (by kernel_rfl) (by kernel_rfl) (by kernel_rfl)) ?_
  intro W base args ds gs before hval0 hW hcnd _
  have hval : ∀ (j : Nat) t v, Try.f4.params[j]? = some t → args[j]? = some v → Value.okWide Try.prog W .any base t v := hval0
  have hW' := hW
  obtain ⟨p, q, hA0, hV, rfl, hfz, hnd⟩ := hW
  have hA : DataW.TrodAll enc Try.prog W 0 (fun _ => true) true Try.f4.params.toList args.toList ds p := hA0
  rw [Try.params4] at hA hval
  obtain ⟨v0, vs0, d0, ds0, p0, q0, hargs, rfl, rfl, h0, r0⟩ := trodAll_cons hA
  obtain ⟨v1, vs1, d1, ds1, p1, q1, rfl, rfl, rfl, h1, r1⟩ := trodAll_cons r0
  obtain ⟨v2, vs2, d2, ds2, p2, q2, rfl, rfl, rfl, h2, r2⟩ := trodAll_cons r1
  obtain ⟨rfl, rfl, rfl⟩ := trodAll_nil r2
  obtain rfl : args = #[v0, v1, v2] := by cases args; simp_all
  obtain ⟨rfl, rfl⟩ := trodVars_none hV
  obtain ⟨s, rfl, rs⟩ := open_span (hval 0 36 v0 rfl rfl) h0
  obtain ⟨t, rfl, rt⟩ := open_span (hval 1 36 v1 rfl rfl) h1
  have lt2 : ∀ x ∈ p2, x.block < W.heap.size := by obtain ⟨m, hm⟩ := h2; exact DataW.trod_lt m _ _ _ hm
  obtain ⟨bA, b, bc, rfl, rb, lb, mb⟩ := open_bytes Try.underlying22 Try.underlying5 (by kernel_rfl) (hval 2 22 v2 rfl rfl) h2 lt2
  refine (walk W s rs t rt bA b bc rb lb mb).mono fun e W' ⟨he, hg⟩ => ?_
  subst he
  exact ⟨_, rfl, post_law laidOut readable rfl rfl Try.underlying4 hW' rfl rfl rfl hg⟩

theorem proved : Rows.SpanTellsSaid :=
  OpenClaim.holds_of_wide 4 Try.f4 rfl rfl rfl rfl rfl rfl rfl ⟨rfl, rfl, rfl, rfl, rfl⟩ rfl rfl rfl rfl rfl (by kernel_rfl) Try.func4 (by kernel_rfl)
    (of_decide_eq_true (by kernel_rfl)) (by unfold Func.isWrapper; first | (rw [if_pos (by decide +kernel)]; kernel_rfl) | (rw [if_neg (by decide +kernel)]; exact ⟨rfl, rfl⟩))
    (fun os started H enc _ => lifted os started H enc)
end Go.Proofs.Ythkclgkbidhmbaa.P_SpanTells
