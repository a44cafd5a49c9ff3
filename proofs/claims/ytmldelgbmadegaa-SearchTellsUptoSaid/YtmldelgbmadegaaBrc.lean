/- slices.SortFunc of traces, whatever their number. -/
import Derived.Test.YtmldelgbmadegaaBrb
import Derived.Test.YtmldelgbmadegaaBrl
import Derived.Test.YtmldelgbmadegaaBrk
namespace Go.Proofs.Ytmldelgbmadegaa
open Go.RowKit Go.Shelf Go.Lib Go.Sort
set_option linter.unusedVariables false
set_option linter.unusedSimpArgs false
set_option maxRecDepth 100000

theorem lt_ordC (a b : Tc) : ltOf ordC a b = decide (ordC a b < 0) := rfl
theorem swoC : SWO (ltOf ordC) where
  irrefl x := by rw [lt_ordC]; exact decide_eq_false (fun h => ltC_irr x ((ordT_neg x x).1 h))
  trans x y z h1 h2 := by rw [lt_ordC] at *; exact decide_eq_true ((ordT_neg _ _).2 (ltC_trans ((ordT_neg _ _).1 (of_decide_eq_true h1)) ((ordT_neg _ _).1 (of_decide_eq_true h2))))
  ntrans x y z h1 h2 := by
    rw [lt_ordC] at *
    have h1 := fun h => of_decide_eq_false h1 ((ordT_neg _ _).2 h)
    have h2 := fun h => of_decide_eq_false h2 ((ordT_neg _ _).2 h)
    refine decide_eq_false fun h3 => ?_
    have h3 := (ordT_neg _ _).1 h3
    rcases ltC_tri y x with k | k | k
    · first | exact h1 k | exact h2 (ltC_trans k h3) | exact h2 (ltC_trans h3 k)
    · subst k; first | exact h2 h3 | exact h1 h3
    · first | exact h1 k | exact h2 (ltC_trans k h3) | exact h2 (ltC_trans h3 k)
theorem trc_one1 (t : Tc) : ∀ u ∈ trC t, u.oneCell' = true := by
  intro u hu
  simp only [trC, List.mem_cons, List.not_mem_nil, or_false] at hu
  rcases hu with rfl | rfl <;> rfl
theorem trc_one (l : List Tc) : ∀ u ∈ l.flatMap trC, u.oneCell' = true := by
  intro u hu
  obtain ⟨e, _, hu⟩ := List.mem_flatMap.1 hu
  exact trc_one1 e u hu
theorem tr_eg : ∀ args w, (callFunc 69 args).run Try.prog w = .ok (.enter 69 args) w := enters_of Try.func69 (by kernel_rfl) rfl
theorem trsort_any {w : World} {base n : Nat} {v : Value} {l : List Tc} (hn : n = l.length) (h : w.ownsRow base 28 2 v n (l.flatMap trC)) (hbase : base ≤ w.heap.size) (hsm : n ≤ 1000000) :
    Calls Try.prog 113 #[v, .func (.func 69) #[] #[]] w fun e w' => ∃ l', e = .returned (.tuple #[]) ∧ w'.ownsRow base 28 2 v n (l'.flatMap trC) ∧ l'.Perm l ∧ SrtC l' ∧ _root_.Go.RowKit.Below base w w' := by
  rcases h.2 with ⟨rfl, h0⟩ | ⟨g, cap, cur, rfl, hg, hb, hc, hm, hcs, ht⟩
  · subst h0
    have hl : l = [] := List.eq_nil_of_length_eq_zero hn.symm
    subst hl
    have hS := AnyF.slices_SortFunc_none (P := Try.prog) (ρ := laysTr_ren) laysTr none 0 (.func (.func 69) #[] #[]) w
    change Calls Try.prog 113 _ _ _ at hS
    refine hS.mono ?_
    rintro e w' ⟨rfl, rfl⟩
    exact ⟨[], rfl, h, List.Perm.refl _, fun i j a b _ ha => by simp at ha, _root_.Go.RowKit.Below.refl _ _⟩
  · have hF : (flatK trC 2 l.toArray).size = n * 2 := by rw [size_flatK, hn]; simp
    have hlen : l.toArray.size = n := by rw [hn]; simp
    have hH : HoldsK trC 2 w g 0 l.toArray := holds_ownK hb (by rw [hF, flatK_list trc_len]; exact ht)
    have hgl : g < w.heap.size := (Array.getElem?_eq_some_iff.1 hb).1
    have hS := AnyQ.slices_SortFunc laysTr 2 Try.isAgg28 Try.sizeOf28 trC trc_len (fun x v hv => trc_one1 x v hv) ordC swoC 69 #[] g 0 cap l.toArray w tr_eg (fun _ _ _ _ x y => border_calls x y _) hH hgl (by rw [hlen]; omega)
    change Calls Try.prog 113 _ _ _ at hS
    rw [hlen] at hS
    refine hS.mono ?_
    rintro e w' ⟨rfl, d', m, os, hp, hs, rfl⟩
    obtain ⟨p1, _, p3⟩ := hp
    have hd : d'.size = n := by rw [p1, hlen]
    have hperm : d'.toList.Perm l := by
      have e1 : d'.extract 0 n = d' := by rw [← hd]; exact Array.extract_size
      have e2 : l.toArray.extract 0 n = l.toArray := by rw [← hlen]; exact Array.extract_size
      rw [e1, e2] at p3
      exact p3
    have hsort : SrtC d'.toList := fun i j a b hij ha hb hlt => by
      have hj : j < n := by rw [← hd]; exact (List.getElem?_eq_some_iff.1 hb).1
      have h3 := hs i j (Nat.zero_le _) hij hj
      rw [getElem!_pos d' j (by omega), getElem!_pos d' i (by omega)] at h3
      have ea : d'[i]'(by omega) = a := by have := (List.getElem?_eq_some_iff.1 ha).2; simpa using this
      have eb : d'[j]'(by omega) = b := by have := (List.getElem?_eq_some_iff.1 hb).2; simpa using this
      rw [ea, eb] at h3
      exact of_decide_eq_false h3 ((ordT_neg _ _).2 hlt)
    have hF2 : (flatK trC 2 d').size = n * 2 := by rw [size_flatK, hd]
    have hfl : (flatK trC 2 d').toList = d'.toList.flatMap trC := by
      have := flatK_list trc_len d'.toList
      rw [Array.toArray_toList] at this
      exact this
    refine ⟨d'.toList, rfl, ?_, hperm, hsort, below_putK _ hg hbase⟩
    have := ownsRow_putK (m := m) (os := os) hg hb hc hm hcs hF2
    rw [hfl] at this
    exact this
end Go.Proofs.Ytmldelgbmadegaa
