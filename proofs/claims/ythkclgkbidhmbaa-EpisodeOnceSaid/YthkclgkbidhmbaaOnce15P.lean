/- For every list of numbers, every number and every trace: EpisodeOnce answers true: of spans with one Id the first alone is there, in order, however they are shared out. Conditions: none. -/
import Derived.Test.YthkclgkbidhmbaaOi
import Derived.Test.YthkclgkbidhmbaaRows
import Derived.Test.YthkclgkbidhmbaaChecked
import Derived.Test.YthkclgkbidhmbaaRow
namespace Go.Proofs.Ythkclgkbidhmbaa.P_EpisodeOnce
open Go.ChangeShapes Go.WideShapes Go.ChangeAt Go.RowKit
set_option linter.unusedVariables false
theorem own : ownKnob Try.prog.godebug = none := by kernel_rfl
theorem laidOut : laidOutB Try.prog = true := by kernel_rfl
theorem readable : ∀ t ∈ Try.f9.params.toList, Try.prog.readableRec t = true ∧ t < Try.prog.types.size := by
  rw [Try.params9]
  intro t ht
  simp only [List.mem_cons, List.not_mem_nil, or_false] at ht
  rcases ht with rfl | rfl | rfl <;> exact ⟨by kernel_rfl, of_decide_eq_true (by kernel_rfl)⟩
theorem walk (w : World) (lA : Option Addr) (l : List Int) (lc : Nat) (rl : Rd w w.heap.size lA (l.map (Value.int .i64))) (ll : l.length ≤ lc) (ml : lc ≤ maxLen) (wl : ∀ n ∈ l, (Lit.int .i64 n).wf = true) (per : Int) (wper : (Lit.int .i64 per).wf = true) (th tl : Nat) (wt : th < 18446744073709551616 ∧ tl < 18446744073709551616) :
    Calls Try.prog 9 #[.slice lA l.length lc, .int .i64 per, .agg #[.int .u64 th, .int .u64 tl]] w fun e w' => e = .returned (.bool true) ∧ Below w.heap.size w w' := by
  by_cases ho : 60 < l.length ∨ per < 1 ∨ 20 < per
  · exact once_out lA l.length lc per th tl w ho
  · exact once_in lA l l.length lc w.heap.size per th tl w rfl rl (Nat.le_refl _) (by omega) (by omega) (by omega) (fun x hx => ⟨(bounds_i64 (wl x hx)).1, (bounds_i64 (wl x hx)).2⟩) ⟨by omega, by omega⟩ ⟨by omega, by omega⟩
set_option maxRecDepth 100000 in
theorem lifted (os : Os) (started : os.Started) (H : Type) (enc : TypeId × Value → H) :
    ReturnsInHanded {} Try.checked os 9 .any (Rows.episodeOnceSpec.pre6 enc Try.prog Try.f9 Rows.episodeOnceRow.domain false) (Rows.episodeOnceSpec.post enc Try.prog Try.f9 false true false false) := by
  refine returnsInHanded_of_change (C := Try.checked) own started (by kernel_rfl) Try.func9
    (ChangeSpec.witness6 (enc := enc) (C := Try.checked) false ⟨#[], #[.slice none 0 0, .int .i64 0, .agg #[.int .u64 0, .int .u64 0]], []⟩ 8 (by kernel_rfl) (by kernel_rfl) (by kernel_rfl) (by kernel_rfl)) ?_
  intro W base args ds gs before hval0 hW hcnd _
  have hval : ∀ (j : Nat) t v, Try.f9.params[j]? = some t → args[j]? = some v → Value.okWide Try.prog W .any base t v := hval0
  have hW' := hW
  obtain ⟨p, q, hA0, hV, rfl, hfz, hnd⟩ := hW
  have hA : DataW.TrodAll enc Try.prog W 0 (fun _ => true) true Try.f9.params.toList args.toList ds p := hA0
  rw [Try.params9] at hA hval
  obtain ⟨v0, vs0, d0, ds0, p0, q0, hargs, rfl, rfl, h0, r0⟩ := trodAll_cons hA
  obtain ⟨v1, vs1, d1, ds1, p1, q1, rfl, rfl, rfl, h1, r1⟩ := trodAll_cons r0
  obtain ⟨v2, vs2, d2, ds2, p2, q2, rfl, rfl, rfl, h2, r2⟩ := trodAll_cons r1
  obtain ⟨rfl, rfl, rfl⟩ := trodAll_nil r2
  obtain rfl : args = #[v0, v1, v2] := by cases args; simp_all
  obtain ⟨rfl, rfl⟩ := trodVars_none hV
  have lt0 : ∀ x ∈ p0, x.block < W.heap.size := by obtain ⟨m, hm⟩ := h0; exact DataW.trod_lt m _ _ _ hm
  obtain ⟨lA, l, lc, rfl, rl, ll, ml, wl⟩ := open_row Try.underlying61 Try.underlying3 (by kernel_rfl) (hval 0 61 v0 rfl rfl) h0 lt0
  obtain ⟨per, rfl, _, _, wper⟩ := open_int Try.underlying3 (hval 1 3 v1 rfl rfl) h1
  obtain ⟨th, tl, rfl, wt⟩ := open_trace2 (hval 2 33 v2 rfl rfl) h2
  refine (walk W lA l lc rl ll ml wl per wper th tl wt).mono fun e W' ⟨he, hg⟩ => ?_
  subst he
  exact ⟨_, rfl, post_law laidOut readable rfl rfl Try.underlying4 hW' rfl rfl rfl hg⟩

theorem proved : Rows.EpisodeOnceSaid :=
  OpenClaim.holds_of_wide 9 Try.f9 rfl rfl rfl rfl rfl rfl rfl ⟨rfl, rfl, rfl, rfl, rfl⟩ rfl rfl rfl rfl rfl (by kernel_rfl) Try.func9 (by kernel_rfl)
    (of_decide_eq_true (by kernel_rfl)) (by unfold Func.isWrapper; first | (rw [if_pos (by decide +kernel)]; kernel_rfl) | (rw [if_neg (by decide +kernel)]; exact ⟨rfl, rfl⟩))
    (fun os started H enc _ => lifted os started H enc)
end Go.Proofs.Ythkclgkbidhmbaa.P_EpisodeOnce
