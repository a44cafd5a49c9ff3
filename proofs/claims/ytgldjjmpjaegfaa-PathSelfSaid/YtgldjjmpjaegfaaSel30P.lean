/- For any two rows of numbers and any number: PathSelf answers true: a span is busy itself for no longer than it lasts, for all of it if it has no kids, and, millisecond by millisecond, where none of them is. Conditions: none. -/
import Derived.Test.YtgldjjmpjaegfaaPhm
import Derived.Test.YtgldjjmpjaegfaaRows
import Derived.Test.YtgldjjmpjaegfaaChecked
import Derived.Test.YtgldjjmpjaegfaaBs
namespace Go.Proofs.Ytgldjjmpjaegfaa.P_PathSelf
open Go.ChangeShapes Go.WideShapes Go.ChangeAt Go.RowKit
set_option linter.unusedVariables false
set_option maxRecDepth 100000
theorem own : ownKnob Try.prog.godebug = none := by kernel_rfl
theorem laidOut : laidOutB Try.prog = true := by kernel_rfl
theorem readable : ∀ t ∈ Try.f9.params.toList, Try.prog.readableRec t = true ∧ t < Try.prog.types.size := by
  rw [Try.params9]
  intro t ht
  simp only [List.mem_cons, List.not_mem_nil, or_false] at ht
  rcases ht with rfl | rfl | rfl <;> exact ⟨by kernel_rfl, of_decide_eq_true (by kernel_rfl)⟩
theorem walk (w : World) (dA : Option Addr) (d : List Int) (dc : Nat) (rd : Rd w w.heap.size dA (d.map (Value.int .i64))) (ld : d.length ≤ dc) (md : dc ≤ maxLen) (wd : ∀ n ∈ d, (Lit.int .i64 n).wf = true) (sA : Option Addr) (s : List Int) (sc : Nat) (rs : Rd w w.heap.size sA (s.map (Value.int .i64))) (ls : s.length ≤ sc) (ms : sc ≤ maxLen) (ws : ∀ n ∈ s, (Lit.int .i64 n).wf = true) (own : Int) (wown : (Lit.int .i64 own).wf = true) :
    Calls Try.prog 9 #[.slice dA d.length dc, .slice sA s.length sc, .int .i64 own] w fun e w' => e = .returned (.bool true) ∧ Below w.heap.size w w' := by
  exact self30 dA d d.length dc sA s s.length sc own w rd rfl (Nat.le_trans ld md) rs rfl (Nat.le_trans ls ms) (fun x hx => bounds_i64 (wd x hx)) (fun x hx => bounds_i64 (ws x hx))
set_option maxRecDepth 100000 in
theorem lifted (os : Os) (started : os.Started) (H : Type) (enc : TypeId × Value → H) :
    ReturnsInHanded {} Try.checked os 9 .any (Rows.pathSelfSpec.pre6 enc Try.prog Try.f9 Rows.pathSelfRow.domain false) (Rows.pathSelfSpec.post enc Try.prog Try.f9 false true false false) := by
  refine returnsInHanded_of_change (C := Try.checked) own started (by kernel_rfl) Try.func9
    (ChangeSpec.witness6 (enc := enc) (C := Try.checked) false ⟨#[], #[.slice none 0 0, .slice none 0 0, .int .i64 0], []⟩ 8 (by kernel_rfl) (by kernel_rfl) (by kernel_rfl) (by kernel_rfl)) ?_
  intro W base args ds gs before hval0 hW hcnd _
  have hval : ∀ (j : Nat) t v, Try.f9.params[j]? = some t → args[j]? = some v → Value.okWide Try.prog W .any base t v := hval0
  have hW' := hW
  obtain ⟨p, q, hA0, hV, rfl, hfz, hnd⟩ := hW
  have hA : DataW.TrodAll enc Try.prog W 0 (fun _ => true) true Try.f9.params.toList args.toList ds p := hA0
  rw [Try.params9] at hA hval
  obtain ⟨v0, vs0, d0, ds0, p0, q0, hargs, rfl, rfl, h0, r0⟩ := trodAll_cons hA
  obtain ⟨v1, vs1, d1, ds1, p1, q1, rfl, rfl, rfl, h1, r1⟩ := trodAll_cons r0
  obtain ⟨v2, vs2, d2, ds2, p2, q2, rfl, rfl, rfl, h2, r2⟩ := trodAll_cons r1
  obtain ⟨rfl, rfl, rfl⟩ := trodAll_nil r2
  obtain rfl : args = #[v0, v1, v2] := by cases args; simp_all
  obtain ⟨rfl, rfl⟩ := trodVars_none hV
  have lt0 : ∀ x ∈ p0, x.block < W.heap.size := by obtain ⟨m, hm⟩ := h0; exact DataW.trod_lt m _ _ _ hm
  obtain ⟨dA, d, dc, rfl, rd, ld, md, wd⟩ := open_row Try.underlying26 Try.underlying3 (by kernel_rfl) (hval 0 26 v0 rfl rfl) h0 lt0
  have lt1 : ∀ x ∈ p1, x.block < W.heap.size := by obtain ⟨m, hm⟩ := h1; exact DataW.trod_lt m _ _ _ hm
  obtain ⟨sA, s, sc, rfl, rs, ls, ms, ws⟩ := open_row Try.underlying26 Try.underlying3 (by kernel_rfl) (hval 1 26 v1 rfl rfl) h1 lt1
  obtain ⟨own, rfl, _, _, wown⟩ := open_int Try.underlying3 (hval 2 3 v2 rfl rfl) h2
  refine (walk W dA d dc rd ld md wd sA s sc rs ls ms ws own wown).mono fun e W' ⟨he, hg⟩ => ?_
  subst he
  exact ⟨_, rfl, post_law laidOut readable rfl rfl Try.underlying4 hW' rfl rfl rfl hg⟩

theorem proved : Rows.PathSelfSaid :=
  OpenClaim.holds_of_wide 9 Try.f9 rfl rfl rfl rfl rfl rfl rfl ⟨rfl, rfl, rfl, rfl, rfl⟩ rfl rfl rfl rfl rfl (by kernel_rfl) Try.func9 (by kernel_rfl)
    (of_decide_eq_true (by kernel_rfl)) (by unfold Func.isWrapper; first | (rw [if_pos (by decide +kernel)]; kernel_rfl) | (rw [if_neg (by decide +kernel)]; exact ⟨rfl, rfl⟩))
    (fun os started H enc _ => lifted os started H enc)
end Go.Proofs.Ytgldjjmpjaegfaa.P_PathSelf
