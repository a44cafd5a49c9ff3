/- For every list of spans, every cut and every bit: BatchTorn answers true: no beginning of a batch is one, none with more behind, and none of which a bit was turned. Conditions: none. -/
import Derived.Test.YthkclgkbidhmbaaToa
import Derived.Test.YthkclgkbidhmbaaTob
import Derived.Test.YthkclgkbidhmbaaToc
import Derived.Test.YthkclgkbidhmbaaTod
import Derived.Test.YthkclgkbidhmbaaRows
import Derived.Test.YthkclgkbidhmbaaChecked
import Derived.Test.YthkclgkbidhmbaaBs
namespace Go.Proofs.Ythkclgkbidhmbaa.P_BatchTorn
open Go.ChangeShapes Go.WideShapes Go.ChangeAt Go.RowKit
set_option linter.unusedVariables false
theorem own : ownKnob Try.prog.godebug = none := by kernel_rfl
theorem laidOut : laidOutB Try.prog = true := by kernel_rfl
theorem readable : ∀ t ∈ Try.f13.params.toList, Try.prog.readableRec t = true ∧ t < Try.prog.types.size := by
  rw [Try.params13]
  intro t ht
  simp only [List.mem_cons, List.not_mem_nil, or_false] at ht
  rcases ht with rfl | rfl | rfl <;> exact ⟨by kernel_rfl, of_decide_eq_true (by kernel_rfl)⟩
theorem walk (w : World) (lA : Option Addr) (l : List Ls) (ln lc : Nat) (el : ln = l.length) (rl : RdSps w w.heap.size lA l) (ll : ln ≤ lc) (ml : lc ≤ maxLen) (cut : Int) (wcut : (Lit.int .i64 cut).wf = true) (bit : Int) (wbit : (Lit.int .i64 bit).wf = true) :
    Calls Try.prog 13 #[.slice lA ln lc, .int .i64 cut, .int .i64 bit] w fun e w' => e = .returned (.bool true) ∧ Below w.heap.size w w' := by
  by_cases ho : fewAll l = false ∨ rightL l = false ∨ cut < 0 ∨ bit < 0
  · exact torn4_out lA l ln lc cut bit w el rl (Nat.le_trans ll ml) ho
  · have h1 : fewAll l = true := by
      cases hr : fewAll l with
      | false => exact absurd (.inl hr) ho
      | true => rfl
    have h2 : rightL l = true := by
      cases hr : rightL l with
      | false => exact absurd (.inr (.inl hr)) ho
      | true => rfl
    have hb := bounds_i64 wcut
    have hb2 := bounds_i64 wbit
    obtain ⟨cut, rfl⟩ := Int.eq_ofNat_of_zero_le (show 0 ≤ cut by omega)
    obtain ⟨bit, rfl⟩ := Int.eq_ofNat_of_zero_le (show 0 ≤ bit by omega)
    have hcb : cut ≤ 9223372036854775807 ∧ bit ≤ 9223372036854775807 := ⟨by omega, by omega⟩
    cases hke : Bm.okB ((batchBytes l).take (cut % (batchBytes l).length)) <;> cases hkf : Bm.okB (batchBytes l ++ [0])
    · exact torn4_d lA l ln lc cut bit w el rl (Nat.le_trans ll ml) h1 h2 hcb hke hkf
    · exact torn4_c lA l ln lc cut bit w el rl (Nat.le_trans ll ml) h1 h2 hcb hke hkf
    · exact torn4_b lA l ln lc cut bit w el rl (Nat.le_trans ll ml) h1 h2 hcb hke hkf
    · exact torn4_a lA l ln lc cut bit w el rl (Nat.le_trans ll ml) h1 h2 hcb hke hkf
set_option maxRecDepth 100000 in
theorem lifted (os : Os) (started : os.Started) (H : Type) (enc : TypeId × Value → H) :
    ReturnsInHanded {} Try.checked os 13 .any (Rows.batchTornSpec.pre6 enc Try.prog Try.f13 Rows.batchTornRow.domain false) (Rows.batchTornSpec.post enc Try.prog Try.f13 false true false false) := by
  refine returnsInHanded_of_change (C := Try.checked) own started (by kernel_rfl) Try.func13
    (ChangeSpec.witness6 (enc := enc) (C := Try.checked) false ⟨#[], #[.slice none 0 0, .int .i64 0, .int .i64 0], []⟩ 8 (by kernel_rfl) (by kernel_rfl) (by kernel_rfl) (by kernel_rfl)) ?_
  intro W base args ds gs before hval0 hW hcnd _
  have hval : ∀ (j : Nat) t v, Try.f13.params[j]? = some t → args[j]? = some v → Value.okWide Try.prog W .any base t v := hval0
  have hW' := hW
  obtain ⟨p, q, hA0, hV, rfl, hfz, hnd⟩ := hW
  have hA : DataW.TrodAll enc Try.prog W 0 (fun _ => true) true Try.f13.params.toList args.toList ds p := hA0
  rw [Try.params13] at hA hval
  obtain ⟨v0, vs0, d0, ds0, p0, q0, hargs, rfl, rfl, h0, r0⟩ := trodAll_cons hA
  obtain ⟨v1, vs1, d1, ds1, p1, q1, rfl, rfl, rfl, h1, r1⟩ := trodAll_cons r0
  obtain ⟨v2, vs2, d2, ds2, p2, q2, rfl, rfl, rfl, h2, r2⟩ := trodAll_cons r1
  obtain ⟨rfl, rfl, rfl⟩ := trodAll_nil r2
  obtain rfl : args = #[v0, v1, v2] := by cases args; simp_all
  obtain ⟨rfl, rfl⟩ := trodVars_none hV
  obtain ⟨lA, l, ln, lc, rfl, el, rl, ll, ml⟩ := open_spansN (hval 0 51 v0 rfl rfl) h0
  obtain ⟨cut, rfl, _, _, wcut⟩ := open_int Try.underlying3 (hval 1 3 v1 rfl rfl) h1
  obtain ⟨bit, rfl, _, _, wbit⟩ := open_int Try.underlying3 (hval 2 3 v2 rfl rfl) h2
  refine (walk W lA l ln lc el rl ll ml cut wcut bit wbit).mono fun e W' ⟨he, hg⟩ => ?_
  subst he
  exact ⟨_, rfl, post_law laidOut readable rfl rfl Try.underlying4 hW' rfl rfl rfl hg⟩

theorem proved : Rows.BatchTornSaid :=
  OpenClaim.holds_of_wide 13 Try.f13 rfl rfl rfl rfl rfl rfl rfl ⟨rfl, rfl, rfl, rfl, rfl⟩ rfl rfl rfl rfl rfl (by kernel_rfl) Try.func13 (by kernel_rfl)
    (of_decide_eq_true (by kernel_rfl)) (by unfold Func.isWrapper; first | (rw [if_pos (by decide +kernel)]; kernel_rfl) | (rw [if_neg (by decide +kernel)]; exact ⟨rfl, rfl⟩))
    (fun os started H enc _ => lifted os started H enc)
end Go.Proofs.Ythkclgkbidhmbaa.P_BatchTorn
