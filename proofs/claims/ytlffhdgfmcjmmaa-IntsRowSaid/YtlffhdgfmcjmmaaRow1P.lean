/- For all numbers and texts: IntsRow answers true: numbers and texts one behind the other are read one behind the other. Conditions: none. -/
import Derived.Test.YtlffhdgfmcjmmaaRow1
import Derived.Test.YtlffhdgfmcjmmaaRow
namespace Go.Proofs.Ytlffhdgfmcjmmaa.P_IntsRow
open Go.ChangeShapes Go.WideShapes Go.ChangeAt Go.RowKit
set_option linter.unusedVariables false
theorem own : ownKnob Try.prog.godebug = none := by kernel_rfl
theorem laidOut : laidOutB Try.prog = true := by kernel_rfl
theorem readable : ∀ t ∈ Try.f6.params.toList, Try.prog.readableRec t = true ∧ t < Try.prog.types.size := by
  rw [Try.params6]
  intro t ht
  simp only [List.mem_cons, List.not_mem_nil, or_false] at ht
  rcases ht with rfl | rfl <;> exact ⟨by kernel_rfl, of_decide_eq_true (by kernel_rfl)⟩
theorem walk (w : World) (aA : Option Addr) (a : List Int) (ac : Nat) (ra : Rd w w.heap.size aA (a.map (Value.int .u64))) (la : a.length ≤ ac) (ma : ac ≤ maxLen) (wa : ∀ n ∈ a, (Lit.int .u64 n).wf = true) (bA : Option Addr) (b : List ByteArray) (bc : Nat) (rb : Rd w w.heap.size bA (b.map Value.string)) (lb : b.length ≤ bc) (mb : bc ≤ maxLen) (wb : ∀ s ∈ b, s.size ≤ maxLen) :
    Calls Try.prog 6 #[.slice aA a.length ac, .slice bA b.length bc] w fun e w' => e = .returned (.bool true) ∧ Below w.heap.size w w' := by
  by_cases h : 20 < a.length ∨ 20 < b.length
  · exact row_out aA bA a.length ac b.length bc w h (by omega) (by omega)
  · exact row_in aA bA a b ac bc w (by omega) (by omega) ra rb (fun z hz => bounds_u64 (wa z hz)) wb
set_option maxRecDepth 100000 in
theorem lifted (os : Os) (started : os.Started) (H : Type) (enc : TypeId × Value → H) :
    ReturnsInHanded {} Try.checked os 6 .any (Rows.intsRowSpec.pre6 enc Try.prog Try.f6 Rows.intsRowRow.domain false) (Rows.intsRowSpec.post enc Try.prog Try.f6 false true false false) := by
  refine returnsInHanded_of_change (C := Try.checked) own started (by kernel_rfl) Try.func6
    (ChangeSpec.witness6 (enc := enc) (C := Try.checked) false ⟨#[], #[.slice none 0 0, .slice none 0 0], []⟩ 8 (by kernel_rfl) (by kernel_rfl) (by kernel_rfl) (by kernel_rfl)) ?_
  intro W base args ds gs before hval0 hW hcnd _
  have hval : ∀ (j : Nat) t v, Try.f6.params[j]? = some t → args[j]? = some v → Value.okWide Try.prog W .any base t v := hval0
  have hW' := hW
  obtain ⟨p, q, hA0, hV, rfl, hfz, hnd⟩ := hW
  have hA : DataW.TrodAll enc Try.prog W 0 (fun _ => true) true Try.f6.params.toList args.toList ds p := hA0
  rw [Try.params6] at hA hval
  obtain ⟨v0, vs0, d0, ds0, p0, q0, hargs, rfl, rfl, h0, r0⟩ := trodAll_cons hA
  obtain ⟨v1, vs1, d1, ds1, p1, q1, rfl, rfl, rfl, h1, r1⟩ := trodAll_cons r0
  obtain ⟨rfl, rfl, rfl⟩ := trodAll_nil r1
  obtain rfl : args = #[v0, v1] := by cases args; simp_all
  obtain ⟨rfl, rfl⟩ := trodVars_none hV
  have lt0 : ∀ x ∈ p0, x.block < W.heap.size := by obtain ⟨m, hm⟩ := h0; exact DataW.trod_lt m _ _ _ hm
  obtain ⟨aA, a, ac, rfl, ra, la, ma, wa⟩ := open_row Try.underlying35 Try.underlying23 (by kernel_rfl) (hval 0 35 v0 rfl rfl) h0 lt0
  have lt1 : ∀ x ∈ p1, x.block < W.heap.size := by obtain ⟨m, hm⟩ := h1; exact DataW.trod_lt m _ _ _ hm
  obtain ⟨bA, b, bc, rfl, rb, lb, mb, wb⟩ := open_texts Try.underlying36 Try.underlying9 (by kernel_rfl) (hval 1 36 v1 rfl rfl) h1 lt1
  refine (walk W aA a ac ra la ma wa bA b bc rb lb mb wb).mono fun e W' ⟨he, hg⟩ => ?_
  subst he
  exact ⟨_, rfl, post_law laidOut readable rfl rfl Try.underlying4 hW' rfl rfl rfl hg⟩

theorem proved : Rows.IntsRowSaid :=
  OpenClaim.holds_of_wide 6 Try.f6 rfl rfl rfl rfl rfl rfl rfl ⟨rfl, rfl, rfl, rfl, rfl⟩ rfl rfl rfl rfl rfl (by kernel_rfl) Try.func6 (by kernel_rfl)
    (of_decide_eq_true (by kernel_rfl)) (by unfold Func.isWrapper; first | (rw [if_pos (by decide +kernel)]; kernel_rfl) | (rw [if_neg (by decide +kernel)]; exact ⟨rfl, rfl⟩))
    (fun os started H enc _ => lifted os started H enc)
end Go.Proofs.Ytlffhdgfmcjmmaa.P_IntsRow
