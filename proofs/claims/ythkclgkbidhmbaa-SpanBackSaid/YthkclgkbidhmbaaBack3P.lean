/- For every span, all bytes behind it and every cut: SpanBack answers true: a span is read as it was written, whatever stands behind it, and from no beginning of it. Conditions: none. -/
import Derived.Test.YthkclgkbidhmbaaBk3
import Derived.Test.YthkclgkbidhmbaaRows
import Derived.Test.YthkclgkbidhmbaaChecked
import Derived.Test.YthkclgkbidhmbaaRow
namespace Go.Proofs.Ythkclgkbidhmbaa.P_SpanBack
open Go.ChangeShapes Go.WideShapes Go.ChangeAt Go.RowKit
set_option linter.unusedVariables false
theorem own : ownKnob Try.prog.godebug = none := by kernel_rfl
theorem laidOut : laidOutB Try.prog = true := by kernel_rfl
theorem readable : ∀ t ∈ Try.f5.params.toList, Try.prog.readableRec t = true ∧ t < Try.prog.types.size := by
  rw [Try.params5]
  intro t ht
  simp only [List.mem_cons, List.not_mem_nil, or_false] at ht
  rcases ht with rfl | rfl | rfl <;> exact ⟨by kernel_rfl, of_decide_eq_true (by kernel_rfl)⟩
theorem walk (w : World) (s : Ls) (rs : RdL w w.heap.size s) (moreA : Option Addr) (more : List UInt8) (morec : Nat) (rmore : Rd w w.heap.size moreA (more.map B8)) (lmore : more.length ≤ morec) (mmore : morec ≤ maxLen) (cut : Int) (wcut : (Lit.int .i64 cut).wf = true) :
    Calls Try.prog 5 #[.agg s.cells.toArray, .slice moreA more.length morec, .int .i64 cut] w fun e w' => e = .returned (.bool true) ∧ Below w.heap.size w w' := by
  obtain ⟨⟨x0, x1, x2, x3, x4, x5, x6, x7, x8, ats⟩, xA, xc⟩ := s
  by_cases ho : right ⟨x0, x1, x2, x3, x4, x5, x6, x7, x8, ats⟩ = false ∨ 100 < more.length ∨ cut < 0
  · exact back3_out x0 x1 x2 x3 x4 x5 x6 x7 x8 ats xA xc ats.length moreA more more.length morec cut w rfl rs rfl ho
  · have hri : right ⟨x0, x1, x2, x3, x4, x5, x6, x7, x8, ats⟩ = true := by
      cases hr : right ⟨x0, x1, x2, x3, x4, x5, x6, x7, x8, ats⟩ with
      | false => exact absurd (.inl hr) ho
      | true => rfl
    obtain ⟨c, rfl⟩ := Int.eq_ofNat_of_zero_le (show 0 ≤ cut by omega)
    have hb := bounds_i64 wcut
    exact back3_in x0 x1 x2 x3 x4 x5 x6 x7 x8 ats xA xc ats.length moreA more more.length morec c w rfl rs rfl rmore (by omega) (by omega) hri
set_option maxRecDepth 100000 in
theorem lifted (os : Os) (started : os.Started) (H : Type) (enc : TypeId × Value → H) :
    ReturnsInHanded {} Try.checked os 5 .any (Rows.spanBackSpec.pre6 enc Try.prog Try.f5 Rows.spanBackRow.domain false) (Rows.spanBackSpec.post enc Try.prog Try.f5 false true false false) := by
  refine returnsInHanded_of_change (C := Try.checked) own started (by kernel_rfl) Try.func5
    (ChangeSpec.witness6 (enc := enc) (C := Try.checked) false ⟨#[], #[.agg #[.int .u64 0, .int .u64 0, .int .u64 0, .int .u64 0, .string ByteArray.empty, .string ByteArray.empty, .int .i64 0, .int .i64 0, .bool false, .slice none 0 0], .slice none 0 0, .int .i64 0], []⟩ 8 (by kernel_rfl) (by kernel_rfl) (by kernel_rfl) (by kernel_rfl)) ?_
  intro W base args ds gs before hval0 hW hcnd _
  have hval : ∀ (j : Nat) t v, Try.f5.params[j]? = some t → args[j]? = some v → Value.okWide Try.prog W .any base t v := hval0
  have hW' := hW
  obtain ⟨p, q, hA0, hV, rfl, hfz, hnd⟩ := hW
  have hA : DataW.TrodAll enc Try.prog W 0 (fun _ => true) true Try.f5.params.toList args.toList ds p := hA0
  rw [Try.params5] at hA hval
  obtain ⟨v0, vs0, d0, ds0, p0, q0, hargs, rfl, rfl, h0, r0⟩ := trodAll_cons hA
  obtain ⟨v1, vs1, d1, ds1, p1, q1, rfl, rfl, rfl, h1, r1⟩ := trodAll_cons r0
  obtain ⟨v2, vs2, d2, ds2, p2, q2, rfl, rfl, rfl, h2, r2⟩ := trodAll_cons r1
  obtain ⟨rfl, rfl, rfl⟩ := trodAll_nil r2
  obtain rfl : args = #[v0, v1, v2] := by cases args; simp_all
  obtain ⟨rfl, rfl⟩ := trodVars_none hV
  obtain ⟨s, rfl, rs⟩ := open_span (hval 0 36 v0 rfl rfl) h0
  have lt1 : ∀ x ∈ p1, x.block < W.heap.size := by obtain ⟨m, hm⟩ := h1; exact DataW.trod_lt m _ _ _ hm
  obtain ⟨moreA, more, morec, rfl, rmore, lmore, mmore⟩ := open_bytes Try.underlying22 Try.underlying5 (by kernel_rfl) (hval 1 22 v1 rfl rfl) h1 lt1
  obtain ⟨cut, rfl, _, _, wcut⟩ := open_int Try.underlying3 (hval 2 3 v2 rfl rfl) h2
  refine (walk W s rs moreA more morec rmore lmore mmore cut wcut).mono fun e W' ⟨he, hg⟩ => ?_
  subst he
  exact ⟨_, rfl, post_law laidOut readable rfl rfl Try.underlying4 hW' rfl rfl rfl hg⟩

theorem proved : Rows.SpanBackSaid :=
  OpenClaim.holds_of_wide 5 Try.f5 rfl rfl rfl rfl rfl rfl rfl ⟨rfl, rfl, rfl, rfl, rfl⟩ rfl rfl rfl rfl rfl (by kernel_rfl) Try.func5 (by kernel_rfl)
    (of_decide_eq_true (by kernel_rfl)) (by unfold Func.isWrapper; first | (rw [if_pos (by decide +kernel)]; kernel_rfl) | (rw [if_neg (by decide +kernel)]; exact ⟨rfl, rfl⟩))
    (fun os started H enc _ => lifted os started H enc)
end Go.Proofs.Ythkclgkbidhmbaa.P_SpanBack
