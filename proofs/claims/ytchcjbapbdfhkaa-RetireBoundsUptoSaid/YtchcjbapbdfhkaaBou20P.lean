/- For every list of blocks and every three numbers: RetireBounds answers true: what stays is young enough and few enough, and whoever goes is too old or the oldest. Conditions: of what comes in no more than 1,048,576 values and letters in all. -/
import Derived.Test.YtchcjbapbdfhkaaBqt
import Derived.Test.YtchcjbapbdfhkaaBqz
import Derived.Test.YtchcjbapbdfhkaaRows
import Derived.Test.YtchcjbapbdfhkaaChecked
import Derived.Test.YtchcjbapbdfhkaaBs
import Derived.JoinedCond
namespace Go.Proofs.Ytchcjbapbdfhkaa.P_RetireBounds
open Go.ChangeShapes Go.WideShapes Go.ChangeAt Go.RowKit
set_option linter.unusedVariables false
theorem own : ownKnob Try.prog.godebug = none := by kernel_rfl
theorem laidOut : laidOutB Try.prog = true := by kernel_rfl
theorem readable : ∀ t ∈ Try.f12.params.toList, Try.prog.readableRec t = true ∧ t < Try.prog.types.size := by
  rw [Try.params12]
  intro t ht
  simp only [List.mem_cons, List.not_mem_nil, or_false] at ht
  rcases ht with rfl | rfl | rfl | rfl <;> exact ⟨by kernel_rfl, of_decide_eq_true (by kernel_rfl)⟩
theorem walk (w : World) (lA : Option Addr) (l : List Bl) (ln lc : Nat) (el : ln = l.length) (rl : RdBls w w.heap.size lA l) (ol : ∀ x ∈ l, x.ok) (ll : ln ≤ lc) (ml : lc ≤ maxLen) (bl : ∀ x ∈ l, x.l.length ≤ 1048576) (now : Int) (wnow : (Lit.int .i64 now).wf = true) (keep : Int) (wkeep : (Lit.int .i64 keep).wf = true) (budget : Int) (wbudget : (Lit.int .i64 budget).wf = true) :
    Calls Try.prog 12 #[.slice lA ln lc, .int .i64 now, .int .i64 keep, .int .i64 budget] w fun e w' => e = .returned (.bool true) ∧ Below w.heap.size w w' := by
  exact bounds20 lA l ln lc now keep budget w el rl ol bl
set_option maxRecDepth 100000 in
theorem contract (H : Type) (enc : TypeId × Value → H) (W : World) (base : Nat) (args : Array Value) (ds gs : List (DataW H)) (before : List MemPlace)
    (hval0 : ∀ (j : Nat) t v, Try.f12.params[j]? = some t → args[j]? = some v → Value.okWide Try.prog W .any base t v)
    (hW : DataW.Whole enc Try.prog Try.f12.params.toList Rows.retireBoundsSpec.vars false W args.toList ds gs before) (hk : Rows.uptoSmall H (ds ++ gs) = true) :
    Calls Try.prog 12 args W fun e W' => ∃ v, e = .returned v ∧ Rows.retireBoundsSpec.post enc Try.prog Try.f12 false true false false W args v W' := by
  have hval := hval0
  have hW' := hW
  obtain ⟨p, q, hA0, hV, rfl, hfz, hnd⟩ := hW
  have hA : DataW.TrodAll enc Try.prog W 0 (fun _ => true) true Try.f12.params.toList args.toList ds p := hA0
  rw [Try.params12] at hA hval
  obtain ⟨v0, vs0, d0, ds0, p0, q0, hargs, rfl, rfl, h0, r0⟩ := trodAll_cons hA
  obtain ⟨v1, vs1, d1, ds1, p1, q1, rfl, rfl, rfl, h1, r1⟩ := trodAll_cons r0
  obtain ⟨v2, vs2, d2, ds2, p2, q2, rfl, rfl, rfl, h2, r2⟩ := trodAll_cons r1
  obtain ⟨v3, vs3, d3, ds3, p3, q3, rfl, rfl, rfl, h3, r3⟩ := trodAll_cons r2
  obtain ⟨rfl, rfl, rfl⟩ := trodAll_nil r3
  obtain rfl : args = #[v0, v1, v2, v3] := by cases args; simp_all
  obtain ⟨rfl, rfl⟩ := trodVars_none hV
  obtain ⟨lA, l, ln, lc, rfl, el, rl, ol, ll, ml, bl'⟩ := open_bls (hval 0 59 v0 rfl rfl) h0
  have bl : ∀ x ∈ l, x.l.length ≤ 1048576 := fun x hx => Nat.le_trans (ub_bls (bl' x hx)) (ub_all hk (d := d0) (by simp))
  obtain ⟨now, rfl, _, _, wnow⟩ := open_int Try.underlying3 (hval 1 3 v1 rfl rfl) h1
  obtain ⟨keep, rfl, _, _, wkeep⟩ := open_int Try.underlying3 (hval 2 3 v2 rfl rfl) h2
  obtain ⟨budget, rfl, _, _, wbudget⟩ := open_int Try.underlying3 (hval 3 3 v3 rfl rfl) h3
  refine (walk W lA l ln lc el rl ol ll ml bl now wnow keep wkeep budget wbudget).mono fun e W' ⟨he, hg⟩ => ?_
  subst he
  exact ⟨_, rfl, post_law laidOut readable rfl rfl Try.underlying4 hW' rfl rfl rfl hg⟩
set_option maxRecDepth 100000 in
theorem lifted (os : Os) (started : os.Started) (H : Type) (enc : TypeId × Value → H) (F : Stop.Interp) :
    ReturnsInHanded {} Try.checked os 12 .any ((Rows.OpenSpec.upto Rows.retireBoundsSpec).pre6 enc Try.prog Try.f12 Rows.retireBoundsUptoRow.domain false) (((Rows.OpenSpec.upto Rows.retireBoundsSpec).at F).post enc Try.prog Try.f12 false true false false) := by
  refine returnsInHanded_of_cond (C := Try.checked) (s := Rows.OpenSpec.upto Rows.retireBoundsSpec) (k := Rows.uptoSmall) rfl own started (by kernel_rfl) Try.func12
    (OpenSpec.witness (enc := enc) (C := Try.checked) (s := Rows.OpenSpec.upto Rows.retireBoundsSpec) (k := Rows.uptoSmall) rfl false ⟨#[], #[.slice none 0 0, .int .i64 0, .int .i64 0, .int .i64 0], []⟩ 8 (by kernel_rfl) (by kernel_rfl) (by kernel_rfl)
      (x := ([.nil, .lit (.int .i64 0), .lit (.int .i64 0), .lit (.int .i64 0)], [], [])) (by kernel_rfl) rfl (by kernel_rfl)) ?_
  intro W base args ds gs before hval hW _ hk _
  exact contract H enc W base args ds gs before hval hW hk
theorem proved : Rows.RetireBoundsUptoSaid :=
  OpenClaim.holds_of_cond 12 Try.f12 rfl rfl rfl rfl rfl rfl rfl ⟨rfl, rfl, rfl, rfl, rfl⟩ rfl rfl rfl rfl rfl (by kernel_rfl) Try.func12 (by kernel_rfl)
    (of_decide_eq_true (by kernel_rfl)) (by unfold Func.isWrapper; first | (rw [if_pos (by decide +kernel)]; kernel_rfl) | (rw [if_neg (by decide +kernel)]; exact ⟨rfl, rfl⟩))
    (fun os started H enc _ F => lifted os started H enc F)
end Go.Proofs.Ytchcjbapbdfhkaa.P_RetireBounds
