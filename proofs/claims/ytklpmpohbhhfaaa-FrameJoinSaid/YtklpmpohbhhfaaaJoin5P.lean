/- For all two rows of lists of bytes, and any byte: FrameJoin answers true: the records of two rows, one behind the other, are those of both, and what is none between them ends it. Conditions: none. -/
import Derived.Test.YtklpmpohbhhfaaaJoin5
import Derived.Test.YtklpmpohbhhfaaaOpS
import Derived.Test.YtklpmpohbhhfaaaRow
namespace Go.Proofs.Ytklpmpohbhhfaaa.P_FrameJoin
open Go.ChangeShapes Go.WideShapes Go.ChangeAt Go.RowKit
set_option linter.unusedVariables false
theorem own : ownKnob Try.prog.godebug = none := by kernel_rfl
theorem laidOut : laidOutB Try.prog = true := by kernel_rfl
theorem readable : ∀ t ∈ Try.f5.params.toList, Try.prog.readableRec t = true ∧ t < Try.prog.types.size := by
  rw [Try.params5]
  intro t ht
  simp only [List.mem_cons, List.not_mem_nil, or_false] at ht
  rcases ht with rfl | rfl | rfl <;> exact ⟨by kernel_rfl, of_decide_eq_true (by kernel_rfl)⟩
theorem walk (w : World) (aA : Option Addr) (a : List (List UInt8)) (an ac : Nat) (ea : an = a.length) (ra : Rds w w.heap.size aA a) (la : an ≤ ac) (ma : ac ≤ maxLen) (bA : Option Addr) (b : List (List UInt8)) (bn bc : Nat) (eb : bn = b.length) (rb : Rds w w.heap.size bA b) (lb : bn ≤ bc) (mb : bc ≤ maxLen) (j : Int) (wj : (Lit.int .u8 j).wf = true) :
    Calls Try.prog 5 #[.slice aA an ac, .slice bA bn bc, .int .u8 j] w fun e w' => e = .returned (.bool true) ∧ Below w.heap.size w w' := by
  have hj := bounds_u8 wj
  obtain ⟨j, rfl⟩ := Int.eq_ofNat_of_zero_le hj.1
  by_cases h : 12 < an ∨ 12 < bn
  · exact join5_out aA an ac bA bn bc j w h (by omega) (by omega)
  · exact join5_in aA a an ac bA b bn bc j w ea eb la lb (by omega) (by omega) (by omega) ra rb
set_option maxRecDepth 100000 in
theorem lifted (os : Os) (started : os.Started) (H : Type) (enc : TypeId × Value → H) :
    ReturnsInHanded {} Try.checked os 5 .any (Rows.frameJoinSpec.pre6 enc Try.prog Try.f5 Rows.frameJoinRow.domain false) (Rows.frameJoinSpec.post enc Try.prog Try.f5 false true false false) := by
  refine returnsInHanded_of_change (C := Try.checked) own started (by kernel_rfl) Try.func5
    (ChangeSpec.witness6 (enc := enc) (C := Try.checked) false ⟨#[], #[.slice none 0 0, .slice none 0 0, .int .u8 0], []⟩ 8 (by kernel_rfl) (by kernel_rfl) (by kernel_rfl) (by kernel_rfl)) ?_
  intro W base args ds gs before hval0 hW hcnd _
  have hval : ∀ (j : Nat) t v, Try.f5.params[j]? = some t → args[j]? = some v → Value.okWide Try.prog W .any base t v := hval0
  have hW' := hW
  obtain ⟨p, q, hA0, hV, rfl, hfz, hnd⟩ := hW
  have hA : DataW.TrodAll enc Try.prog W 0 (fun _ => true) true Try.f5.params.toList args.toList ds p := hA0
  rw [Try.params5] at hA hval
  obtain ⟨v0, vs0, d0, ds0, p0, q0, hargs, rfl, rfl, h0, r0⟩ := trodAll_cons hA
  obtain ⟨v1, vs1, d1, ds1, p1, q1, rfl, rfl, rfl, h1, r1⟩ := trodAll_cons r0
  obtain ⟨v2, vs2, d2, ds2, p2, q2, rfl, rfl, rfl, h2, r2⟩ := trodAll_cons r1
  obtain ⟨rfl, rfl, rfl⟩ := trodAll_nil r2
  obtain rfl : args = #[v0, v1, v2] := by cases args; simp_all
  obtain ⟨rfl, rfl⟩ := trodVars_none hV
  have lt0 : ∀ x ∈ p0, x.block < W.heap.size := by obtain ⟨m, hm⟩ := h0; exact DataW.trod_lt m _ _ _ hm
  obtain ⟨aA, a, an, ac, rfl, ea, ra, la, ma⟩ := open_lists (hval 0 24 v0 rfl rfl) h0 lt0
  have lt1 : ∀ x ∈ p1, x.block < W.heap.size := by obtain ⟨m, hm⟩ := h1; exact DataW.trod_lt m _ _ _ hm
  obtain ⟨bA, b, bn, bc, rfl, eb, rb, lb, mb⟩ := open_lists (hval 1 24 v1 rfl rfl) h1 lt1
  obtain ⟨j, rfl, _, _, wj⟩ := open_int Try.underlying5 (hval 2 5 v2 rfl rfl) h2
  refine (walk W aA a an ac ea ra la ma bA b bn bc eb rb lb mb j wj).mono fun e W' ⟨he, hg⟩ => ?_
  subst he
  exact ⟨_, rfl, post_law laidOut readable rfl rfl Try.underlying4 hW' rfl rfl rfl hg⟩

theorem proved : Rows.FrameJoinSaid :=
  OpenClaim.holds_of_wide 5 Try.f5 rfl rfl rfl rfl rfl rfl rfl ⟨rfl, rfl, rfl, rfl, rfl⟩ rfl rfl rfl rfl rfl (by kernel_rfl) Try.func5 (by kernel_rfl)
    (of_decide_eq_true (by kernel_rfl)) (by unfold Func.isWrapper; first | (rw [if_pos (by decide +kernel)]; kernel_rfl) | (rw [if_neg (by decide +kernel)]; exact ⟨rfl, rfl⟩))
    (fun os started H enc _ => lifted os started H enc)
end Go.Proofs.Ytklpmpohbhhfaaa.P_FrameJoin
