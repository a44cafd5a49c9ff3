/- For every list of episodes, every span, every three numbers and every truth: BufferTells answers true: Put, Oldest, Close and Count answer as the document does. Conditions: none. -/
import Derived.Test.YtenioeppmgmdiaaBt
import Derived.Test.YtenioeppmgmdiaaOe
import Derived.Test.YtenioeppmgmdiaaRows
import Derived.Test.YtenioeppmgmdiaaChecked
import Derived.Test.YtenioeppmgmdiaaBs
namespace Go.Proofs.Ytenioeppmgmdiaa.P_BufferTells
open Go.ChangeShapes Go.WideShapes Go.ChangeAt Go.RowKit
set_option linter.unusedVariables false
theorem own : ownKnob Try.prog.godebug = none := by kernel_rfl
theorem laidOut : laidOutB Try.prog = true := by kernel_rfl
theorem readable : ∀ t ∈ Try.f6.params.toList, Try.prog.readableRec t = true ∧ t < Try.prog.types.size := by
  rw [Try.params6]
  intro t ht
  simp only [List.mem_cons, List.not_mem_nil, or_false] at ht
  rcases ht with rfl | rfl | rfl | rfl | rfl | rfl <;> exact ⟨by kernel_rfl, of_decide_eq_true (by kernel_rfl)⟩
theorem walk (w : World) (lA : Option Addr) (l : List Le) (ln lc : Nat) (el : ln = l.length) (rl : RdEps w w.heap.size lA l) (ol : ∀ e ∈ l, e.ok) (ll : ln ≤ lc) (ml : lc ≤ maxLen) (s : Ls) (rs : RdL w w.heap.size s) (now : Int) (wnow : (Lit.int .i64 now).wf = true) (sure : Bool) (idle : Int) (widle : (Lit.int .i64 idle).wf = true) (age : Int) (wage : (Lit.int .i64 age).wf = true) :
    Calls Try.prog 6 #[.slice lA ln lc, .agg s.cells.toArray, .int .i64 now, .bool sure, .int .i64 idle, .int .i64 age] w fun e w' => e = .returned (.bool true) ∧ Below w.heap.size w w' := by
  obtain ⟨⟨x0, x1, x2, x3, x4, x5, x6, x7, x8, ats⟩, xA, xc⟩ := s
  exact tells16 lA l ln lc x0 x1 x2 x3 x4 x5 x6 x7 x8 ats xA ats.length xc now sure idle age w el rl ol ll ml rfl rs ⟨(bounds_i64 wnow).1, (bounds_i64 wnow).2⟩
set_option maxRecDepth 100000 in
theorem lifted (os : Os) (started : os.Started) (H : Type) (enc : TypeId × Value → H) :
    ReturnsInHanded {} Try.checked os 6 .any (Rows.bufferTellsSpec.pre6 enc Try.prog Try.f6 Rows.bufferTellsRow.domain false) (Rows.bufferTellsSpec.post enc Try.prog Try.f6 false true false false) := by
  refine returnsInHanded_of_change (C := Try.checked) own started (by kernel_rfl) Try.func6
    (ChangeSpec.witness6 (enc := enc) (C := Try.checked) false ⟨#[], #[.slice none 0 0, .agg #[.int .u64 0, .int .u64 0, .int .u64 0, .int .u64 0, .string ByteArray.empty, .string ByteArray.empty, .int .i64 0, .int .i64 0, .bool false, .slice none 0 0], .int .i64 0, .bool false, .int .i64 0, .int .i64 0], []⟩ 8 (by kernel_rfl) (by kernel_rfl) (by kernel_rfl) (by kernel_rfl)) ?_
  intro W base args ds gs before hval0 hW hcnd _
  have hval : ∀ (j : Nat) t v, Try.f6.params[j]? = some t → args[j]? = some v → Value.okWide Try.prog W .any base t v := hval0
  have hW' := hW
  obtain ⟨p, q, hA0, hV, rfl, hfz, hnd⟩ := hW
  have hA : DataW.TrodAll enc Try.prog W 0 (fun _ => true) true Try.f6.params.toList args.toList ds p := hA0
  rw [Try.params6] at hA hval
  obtain ⟨v0, vs0, d0, ds0, p0, q0, hargs, rfl, rfl, h0, r0⟩ := trodAll_cons hA
  obtain ⟨v1, vs1, d1, ds1, p1, q1, rfl, rfl, rfl, h1, r1⟩ := trodAll_cons r0
  obtain ⟨v2, vs2, d2, ds2, p2, q2, rfl, rfl, rfl, h2, r2⟩ := trodAll_cons r1
  obtain ⟨v3, vs3, d3, ds3, p3, q3, rfl, rfl, rfl, h3, r3⟩ := trodAll_cons r2
  obtain ⟨v4, vs4, d4, ds4, p4, q4, rfl, rfl, rfl, h4, r4⟩ := trodAll_cons r3
  obtain ⟨v5, vs5, d5, ds5, p5, q5, rfl, rfl, rfl, h5, r5⟩ := trodAll_cons r4
  obtain ⟨rfl, rfl, rfl⟩ := trodAll_nil r5
  obtain rfl : args = #[v0, v1, v2, v3, v4, v5] := by cases args; simp_all
  obtain ⟨rfl, rfl⟩ := trodVars_none hV
  obtain ⟨lA, l, ln, lc, rfl, el, rl, ol, ll, ml⟩ := open_eps (hval 0 39 v0 rfl rfl) h0
  obtain ⟨s, rfl, rs⟩ := open_span (hval 1 42 v1 rfl rfl) h1
  obtain ⟨now, rfl, _, _, wnow⟩ := open_int Try.underlying3 (hval 2 3 v2 rfl rfl) h2
  obtain ⟨sure, rfl, _, _⟩ := open_bool Try.underlying4 (hval 3 4 v3 rfl rfl) h3
  obtain ⟨idle, rfl, _, _, widle⟩ := open_int Try.underlying3 (hval 4 3 v4 rfl rfl) h4
  obtain ⟨age, rfl, _, _, wage⟩ := open_int Try.underlying3 (hval 5 3 v5 rfl rfl) h5
  refine (walk W lA l ln lc el rl ol ll ml s rs now wnow sure idle widle age wage).mono fun e W' ⟨he, hg⟩ => ?_
  subst he
  exact ⟨_, rfl, post_law laidOut readable rfl rfl Try.underlying4 hW' rfl rfl rfl hg⟩

theorem proved : Rows.BufferTellsSaid :=
  OpenClaim.holds_of_wide 6 Try.f6 rfl rfl rfl rfl rfl rfl rfl ⟨rfl, rfl, rfl, rfl, rfl⟩ rfl rfl rfl rfl rfl (by kernel_rfl) Try.func6 (by kernel_rfl)
    (of_decide_eq_true (by kernel_rfl)) (by unfold Func.isWrapper; first | (rw [if_pos (by decide +kernel)]; kernel_rfl) | (rw [if_neg (by decide +kernel)]; exact ⟨rfl, rfl⟩))
    (fun os started H enc _ => lifted os started H enc)
end Go.Proofs.Ytenioeppmgmdiaa.P_BufferTells
