/- For every row of services and every row of flags: EdgesChain answers true: of spans that call one another in a row there is an edge where the service turns. Conditions: none. -/
import Derived.Test.YtobgnendfnmnpaaWd
import Derived.Test.YtobgnendfnmnpaaOpB
import Derived.Test.YtobgnendfnmnpaaRows
import Derived.Test.YtobgnendfnmnpaaChecked
import Derived.Test.YtobgnendfnmnpaaBs
namespace Go.Proofs.Ytobgnendfnmnpaa.P_EdgesChain
open Go.ChangeShapes Go.WideShapes Go.ChangeAt Go.RowKit
set_option linter.unusedVariables false
theorem own : ownKnob Try.prog.godebug = none := by kernel_rfl
theorem laidOut : laidOutB Try.prog = true := by kernel_rfl
theorem readable : ∀ t ∈ Try.f3.params.toList, Try.prog.readableRec t = true ∧ t < Try.prog.types.size := by
  rw [Try.params3]
  intro t ht
  simp only [List.mem_cons, List.not_mem_nil, or_false] at ht
  rcases ht with rfl | rfl <;> exact ⟨by kernel_rfl, of_decide_eq_true (by kernel_rfl)⟩
theorem walk (w : World) (sA : Option Addr) (s : List Int) (sc : Nat) (rs : Rd w w.heap.size sA (s.map (Value.int .i64))) (ls : s.length ≤ sc) (ms : sc ≤ maxLen) (ws : ∀ n ∈ s, (Lit.int .i64 n).wf = true) (eA : Option Addr) (e : List Bool) (en ec : Nat) (ee : en = e.length) (re : Rd w w.heap.size eA (e.map Value.bool)) (le : en ≤ ec) (me : ec ≤ maxLen) :
    Calls Try.prog 3 #[.slice sA s.length sc, .slice eA en ec] w fun e w' => e = .returned (.bool true) ∧ Below w.heap.size w w' := by
  exact chain11 sA eA s e s.length sc en ec w rfl ee rs re (Nat.le_trans ls ms) (Nat.le_trans le me)
set_option maxRecDepth 100000 in
theorem lifted (os : Os) (started : os.Started) (H : Type) (enc : TypeId × Value → H) :
    ReturnsInHanded {} Try.checked os 3 .any (Rows.edgesChainSpec.pre6 enc Try.prog Try.f3 Rows.edgesChainRow.domain false) (Rows.edgesChainSpec.post enc Try.prog Try.f3 false true false false) := by
  refine returnsInHanded_of_change (C := Try.checked) own started (by kernel_rfl) Try.func3
    (ChangeSpec.witness6 (enc := enc) (C := Try.checked) false ⟨#[], #[.slice none 0 0, .slice none 0 0], []⟩ 8 (by kernel_rfl) (by kernel_rfl) (by kernel_rfl) (by kernel_rfl)) ?_
  intro W base args ds gs before hval0 hW hcnd _
  have hval : ∀ (j : Nat) t v, Try.f3.params[j]? = some t → args[j]? = some v → Value.okWide Try.prog W .any base t v := hval0
  have hW' := hW
  obtain ⟨p, q, hA0, hV, rfl, hfz, hnd⟩ := hW
  have hA : DataW.TrodAll enc Try.prog W 0 (fun _ => true) true Try.f3.params.toList args.toList ds p := hA0
  rw [Try.params3] at hA hval
  obtain ⟨v0, vs0, d0, ds0, p0, q0, hargs, rfl, rfl, h0, r0⟩ := trodAll_cons hA
  obtain ⟨v1, vs1, d1, ds1, p1, q1, rfl, rfl, rfl, h1, r1⟩ := trodAll_cons r0
  obtain ⟨rfl, rfl, rfl⟩ := trodAll_nil r1
  obtain rfl : args = #[v0, v1] := by cases args; simp_all
  obtain ⟨rfl, rfl⟩ := trodVars_none hV
  have lt0 : ∀ x ∈ p0, x.block < W.heap.size := by obtain ⟨m, hm⟩ := h0; exact DataW.trod_lt m _ _ _ hm
  obtain ⟨sA, s, sc, rfl, rs, ls, ms, ws⟩ := open_row Try.underlying22 Try.underlying3 (by kernel_rfl) (hval 0 22 v0 rfl rfl) h0 lt0
  have lt1 : ∀ x ∈ p1, x.block < W.heap.size := by obtain ⟨m, hm⟩ := h1; exact DataW.trod_lt m _ _ _ hm
  obtain ⟨eA, e, en, ec, rfl, ee, re, le, me⟩ := open_truths (hval 1 23 v1 rfl rfl) h1 lt1
  refine (walk W sA s sc rs ls ms ws eA e en ec ee re le me).mono fun e W' ⟨he, hg⟩ => ?_
  subst he
  exact ⟨_, rfl, post_law laidOut readable rfl rfl Try.underlying4 hW' rfl rfl rfl hg⟩

theorem proved : Rows.EdgesChainSaid :=
  OpenClaim.holds_of_wide 3 Try.f3 rfl rfl rfl rfl rfl rfl rfl ⟨rfl, rfl, rfl, rfl, rfl⟩ rfl rfl rfl rfl rfl (by kernel_rfl) Try.func3 (by kernel_rfl)
    (of_decide_eq_true (by kernel_rfl)) (by unfold Func.isWrapper; first | (rw [if_pos (by decide +kernel)]; kernel_rfl) | (rw [if_neg (by decide +kernel)]; exact ⟨rfl, rfl⟩))
    (fun os started H enc _ => lifted os started H enc)
end Go.Proofs.Ytobgnendfnmnpaa.P_EdgesChain
