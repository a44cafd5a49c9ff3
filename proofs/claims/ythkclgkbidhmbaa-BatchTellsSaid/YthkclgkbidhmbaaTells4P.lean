/- For every list of spans and all bytes: BatchTells answers true: how any batch is written, and which any bytes are. Conditions: none. -/
import Derived.Test.YthkclgkbidhmbaaTl4
import Derived.Test.YthkclgkbidhmbaaRows
import Derived.Test.YthkclgkbidhmbaaChecked
import Derived.Test.YthkclgkbidhmbaaBs
namespace Go.Proofs.Ythkclgkbidhmbaa.P_BatchTells
open Go.ChangeShapes Go.WideShapes Go.ChangeAt Go.RowKit
set_option linter.unusedVariables false
theorem own : ownKnob Try.prog.godebug = none := by kernel_rfl
theorem laidOut : laidOutB Try.prog = true := by kernel_rfl
theorem readable : ∀ t ∈ Try.f12.params.toList, Try.prog.readableRec t = true ∧ t < Try.prog.types.size := by
  rw [Try.params12]
  intro t ht
  simp only [List.mem_cons, List.not_mem_nil, or_false] at ht
  rcases ht with rfl | rfl <;> exact ⟨by kernel_rfl, of_decide_eq_true (by kernel_rfl)⟩
theorem walk (w : World) (lA : Option Addr) (l : List Ls) (ln lc : Nat) (el : ln = l.length) (rl : RdSps w w.heap.size lA l) (ll : ln ≤ lc) (ml : lc ≤ maxLen) (bA : Option Addr) (b : List UInt8) (bc : Nat) (rb : Rd w w.heap.size bA (b.map B8)) (lb : b.length ≤ bc) (mb : bc ≤ maxLen) :
    Calls Try.prog 12 #[.slice lA ln lc, .slice bA b.length bc] w fun e w' => e = .returned (.bool true) ∧ Below w.heap.size w w' := by
  by_cases ho : fewAll l = false ∨ 1000 < b.length
  · exact tell4_out lA bA l b ln lc b.length bc w el rl (Nat.le_trans ll ml) ho
  · have h1 : fewAll l = true := by
      cases hr : fewAll l with
      | false => exact absurd (.inl hr) ho
      | true => rfl
    cases hrl : rightL l with
    | false => exact tell4_no lA bA l b ln lc b.length bc w el rl (Nat.le_trans ll ml) ll rfl rb lb mb (by omega) h1 hrl
    | true => exact tell4_yes lA bA l b ln lc b.length bc w el rl (Nat.le_trans ll ml) ll rfl rb lb mb (by omega) h1 hrl
set_option maxRecDepth 100000 in
theorem lifted (os : Os) (started : os.Started) (H : Type) (enc : TypeId × Value → H) :
    ReturnsInHanded {} Try.checked os 12 .any (Rows.batchTellsSpec.pre6 enc Try.prog Try.f12 Rows.batchTellsRow.domain false) (Rows.batchTellsSpec.post enc Try.prog Try.f12 false true false false) := by
  refine returnsInHanded_of_change (C := Try.checked) own started (by kernel_rfl) Try.func12
    (ChangeSpec.witness6 (enc := enc) (C := Try.checked) false ⟨#[], #[.slice none 0 0, .slice none 0 0], []⟩ 8 (by kernel_rfl) (by kernel_rfl) (by kernel_rfl) (by kernel_rfl)) ?_
  intro W base args ds gs before hval0 hW hcnd _
  have hval : ∀ (j : Nat) t v, Try.f12.params[j]? = some t → args[j]? = some v → Value.okWide Try.prog W .any base t v := hval0
  have hW' := hW
  obtain ⟨p, q, hA0, hV, rfl, hfz, hnd⟩ := hW
  have hA : DataW.TrodAll enc Try.prog W 0 (fun _ => true) true Try.f12.params.toList args.toList ds p := hA0
  rw [Try.params12] at hA hval
  obtain ⟨v0, vs0, d0, ds0, p0, q0, hargs, rfl, rfl, h0, r0⟩ := trodAll_cons hA
  obtain ⟨v1, vs1, d1, ds1, p1, q1, rfl, rfl, rfl, h1, r1⟩ := trodAll_cons r0
  obtain ⟨rfl, rfl, rfl⟩ := trodAll_nil r1
  obtain rfl : args = #[v0, v1] := by cases args; simp_all
  obtain ⟨rfl, rfl⟩ := trodVars_none hV
  obtain ⟨lA, l, ln, lc, rfl, el, rl, ll, ml⟩ := open_spansN (hval 0 51 v0 rfl rfl) h0
  have lt1 : ∀ x ∈ p1, x.block < W.heap.size := by obtain ⟨m, hm⟩ := h1; exact DataW.trod_lt m _ _ _ hm
  obtain ⟨bA, b, bc, rfl, rb, lb, mb⟩ := open_bytes Try.underlying22 Try.underlying5 (by kernel_rfl) (hval 1 22 v1 rfl rfl) h1 lt1
  refine (walk W lA l ln lc el rl ll ml bA b bc rb lb mb).mono fun e W' ⟨he, hg⟩ => ?_
  subst he
  exact ⟨_, rfl, post_law laidOut readable rfl rfl Try.underlying4 hW' rfl rfl rfl hg⟩

theorem proved : Rows.BatchTellsSaid :=
  OpenClaim.holds_of_wide 12 Try.f12 rfl rfl rfl rfl rfl rfl rfl ⟨rfl, rfl, rfl, rfl, rfl⟩ rfl rfl rfl rfl rfl (by kernel_rfl) Try.func12 (by kernel_rfl)
    (of_decide_eq_true (by kernel_rfl)) (by unfold Func.isWrapper; first | (rw [if_pos (by decide +kernel)]; kernel_rfl) | (rw [if_neg (by decide +kernel)]; exact ⟨rfl, rfl⟩))
    (fun os started H enc _ => lifted os started H enc)
end Go.Proofs.Ythkclgkbidhmbaa.P_BatchTells
