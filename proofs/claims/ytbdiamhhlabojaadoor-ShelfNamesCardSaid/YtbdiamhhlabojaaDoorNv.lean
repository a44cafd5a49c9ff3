/- ShelfNames: how files are named, and that no two numbers have one name. -/
import Derived.Test.YtbdiamhhlabojaaDoorNu
import Derived.Test.YtbdiamhhlabojaaDoorHc
namespace Go.Proofs.YtbdiamhhlabojaaDoor
open Go.RowKit
set_option linter.unusedVariables false
set_option linter.unusedSimpArgs false
set_option maxRecDepth 100000

theorem toList_inj {a b : ByteArray} (h : a.toList = b.toList) : a = b := by
  have e : ∀ s : ByteArray, s.toList = s.data.toList := fun s => by
    obtain ⟨⟨l⟩⟩ := s
    exact ByteArray.toList_mk l
  rw [e, e] at h
  exact ByteArray.ext (Array.toList_inj.mp h)
set_option maxHeartbeats 16000000 in
theorem names24 (a0 b0 : Int) (w : World) (ha : a0 ≤ 9223372036854775807) (hb : b0 ≤ 9223372036854775807) (hT : Lib.TabIs Tryd.prog w "internal/strconv.uint64pow10" .u64 Lib.pow10Tab) : Calls Tryd.prog 8 #[.int .i64 a0, .int .i64 b0] w fun e w' => e = .returned (.bool true) ∧ Below w.heap.size w w' := by
  have HT := Lib.hid hT
  clear hT
  by_cases h1 : a0 < 0
  · have d1 : decide (a0 < 0) = true := decide_eq_true h1
    have d2 : decide (0 ≤ a0) = false := decide_eq_false (by omega)
    have NB := Lib.hid (blocknm_neg a0 h1)
    have NS := Lib.hid (snapnm_neg a0 h1)
    clear h1
    go_enter Tryd.func8, Tryd.ntmps8
    go_wp2_with (first
      | (go_at_call 24; (with_reducible refine (alive24_calls _).mono ?_); rintro e w0 ⟨rfl, hb0⟩; have HB0 := Lib.hid hb0; have HT := Lib.hid (tab_below HT.out hb0); clear hb0)
      | (go_at_call 36; (with_reducible refine (NB.out _).mono ?_); rintro e w1 ⟨rfl, hw⟩; subst hw)
      | (go_at_call 37; (with_reducible refine (NS.out _).mono ?_); rintro e w1 ⟨rfl, hw⟩; subst hw))
    go_ret
    exact ⟨rfl, HB0.out⟩
  · have d1 : decide (a0 < 0) = false := decide_eq_false h1
    have d2 : decide (0 ≤ a0) = true := decide_eq_true (by omega)
    by_cases h2 : b0 < 0
    · have d3 : decide (b0 < 0) = true := decide_eq_true h2
      clear h1 h2
      go_enter Tryd.func8, Tryd.ntmps8
      go_wp2_with (go_at_call 24; (with_reducible refine (alive24_calls _).mono ?_); rintro e w0 ⟨rfl, hb0⟩; have HB0 := Lib.hid hb0; have HT := Lib.hid (tab_below HT.out hb0); clear hb0)
      go_ret
      exact ⟨rfl, HB0.out⟩
    · have d3 : decide (b0 < 0) = false := decide_eq_false h2
      obtain ⟨a, rfl⟩ := Int.eq_ofNat_of_zero_le (show 0 ≤ a0 by omega)
      obtain ⟨b, rfl⟩ := Int.eq_ofNat_of_zero_le (show 0 ≤ b0 by omega)
      have ha' : a ≤ 9223372036854775807 := by omega
      have hb' : b ≤ 9223372036854775807 := by omega
      have KBA := Lib.hid (fun V (hV : Lib.TabIs Tryd.prog V "internal/strconv.uint64pow10" .u64 Lib.pow10Tab) => blocknm_any a ha' V hV)
      have KSA := Lib.hid (fun V (hV : Lib.TabIs Tryd.prog V "internal/strconv.uint64pow10" .u64 Lib.pow10Tab) => snapnm_any a ha' V hV)
      have KBB := Lib.hid (fun V (hV : Lib.TabIs Tryd.prog V "internal/strconv.uint64pow10" .u64 Lib.pow10Tab) => blocknm_any b hb' V hV)
      have KSB := Lib.hid (fun V (hV : Lib.TabIs Tryd.prog V "internal/strconv.uint64pow10" .u64 Lib.pow10Tab) => snapnm_any b hb' V hV)
      have KNA := Lib.hid (show ∀ V, Calls Tryd.prog 38 #[.string ⟨#[98]⟩, .int .i64 (a : Int)] V fun e w' => e = .returned (.string (nmU cB a)) ∧ w' = V from fun V => refname_any cB (Nat.le_refl 1) a ha' V)
      have KNB := Lib.hid (show ∀ V, Calls Tryd.prog 38 #[.string ⟨#[115]⟩, .int .i64 (b : Int)] V fun e w' => e = .returned (.string (nmU cS b)) ∧ w' = V from fun V => refname_any cS (Nat.le_refl 1) b hb' V)
      have ja : a ≠ b → nmU cB a ≠ nmU cB b := fun h e => h (nmU_inj e)
      have jb : a ≠ b → nmU cS a ≠ nmU cS b := fun h e => h (nmU_inj e)
      have jn := nmU_ne a a
      have je1 : a = b → nmU cB a = nmU cB b := fun h => by rw [h]
      have je2 : a = b → nmU cS a = nmU cS b := fun h => by rw [h]
      generalize nmU cB a = sa at *
      generalize nmU cS a = ta at *
      generalize nmU cB b = sb at *
      generalize nmU cS b = tb at *
      have hn1 : ¬ sa = ta := jn
      have hn2 : decide (sa = ta) = false := decide_eq_false jn
      have hn3 : (sa.toList == ta.toList) = false := by
        rw [beq_eq_false_iff_ne]
        exact fun h => jn (toList_inj h)
      clear h1 h2 ha hb ha' hb' jn
      by_cases hab : a = b
      · have e1 := je1 hab
        have e2 := je2 hab
        clear ja jb je1 je2
        subst hab
        subst e1
        subst e2
        go_enter Tryd.func8, Tryd.ntmps8
        go_wp2_with (first
          | (go_at_call 24; (with_reducible refine (alive24_calls _).mono ?_); rintro e w0 ⟨rfl, hb0⟩; have HB0 := Lib.hid hb0; have HT := Lib.hid (tab_below HT.out hb0); clear hb0)
          | (go_at_call 36; (with_reducible refine (KBA.out _ HT.out).mono ?_); rintro e wq ⟨rfl, hb⟩; have HT := Lib.hid (tab_below HT.out hb); have HB0 := Lib.hid (HB0.out.trans (hb.mono HB0.out.size)); clear hb)
          | (go_at_call 37; (with_reducible refine (KSA.out _ HT.out).mono ?_); rintro e wq ⟨rfl, hb⟩; have HT := Lib.hid (tab_below HT.out hb); have HB0 := Lib.hid (HB0.out.trans (hb.mono HB0.out.size)); clear hb)
          | (go_at_call 38; (with_reducible refine (KNA.out _).mono ?_); rintro e wq ⟨rfl, hwq⟩; subst hwq)
          | (go_at_call 38; (with_reducible refine (KNB.out _).mono ?_); rintro e wq ⟨rfl, hwq⟩; subst hwq))
        go_ret
        exact ⟨rfl, HB0.out⟩
      · have n1 := ja hab
        have n2 := jb hab
        have hs1 : ¬ sa = sb := n1
        have hs2 : decide (sa = sb) = false := decide_eq_false n1
        have hs3 : (sa.toList == sb.toList) = false := by
          rw [beq_eq_false_iff_ne]
          exact fun h => n1 (toList_inj h)
        have ht1 : ¬ ta = tb := n2
        have ht2 : decide (ta = tb) = false := decide_eq_false n2
        have ht3 : (ta.toList == tb.toList) = false := by
          rw [beq_eq_false_iff_ne]
          exact fun h => n2 (toList_inj h)
        have hab3 : ((a : Int) == (b : Int)) = false := by rw [beq_eq_false_iff_ne]; exact fun h => hab (Int.ofNat.inj h)
        clear ja jb je1 je2
        go_enter Tryd.func8, Tryd.ntmps8
        go_wp2_with (first
          | (go_at_call 24; (with_reducible refine (alive24_calls _).mono ?_); rintro e w0 ⟨rfl, hb0⟩; have HB0 := Lib.hid hb0; have HT := Lib.hid (tab_below HT.out hb0); clear hb0)
          | (go_at_call 36; (with_reducible refine (KBA.out _ HT.out).mono ?_); rintro e wq ⟨rfl, hb⟩; have HT := Lib.hid (tab_below HT.out hb); have HB0 := Lib.hid (HB0.out.trans (hb.mono HB0.out.size)); clear hb)
          | (go_at_call 37; (with_reducible refine (KSA.out _ HT.out).mono ?_); rintro e wq ⟨rfl, hb⟩; have HT := Lib.hid (tab_below HT.out hb); have HB0 := Lib.hid (HB0.out.trans (hb.mono HB0.out.size)); clear hb)
          | (go_at_call 36; (with_reducible refine (KBB.out _ HT.out).mono ?_); rintro e wq ⟨rfl, hb⟩; have HT := Lib.hid (tab_below HT.out hb); have HB0 := Lib.hid (HB0.out.trans (hb.mono HB0.out.size)); clear hb)
          | (go_at_call 37; (with_reducible refine (KSB.out _ HT.out).mono ?_); rintro e wq ⟨rfl, hb⟩; have HT := Lib.hid (tab_below HT.out hb); have HB0 := Lib.hid (HB0.out.trans (hb.mono HB0.out.size)); clear hb)
          | (go_at_call 38; (with_reducible refine (KNA.out _).mono ?_); rintro e wq ⟨rfl, hwq⟩; subst hwq)
          | (go_at_call 38; (with_reducible refine (KNB.out _).mono ?_); rintro e wq ⟨rfl, hwq⟩; subst hwq))
        go_ret
        exact ⟨rfl, HB0.out⟩
end Go.Proofs.YtbdiamhhlabojaaDoor
