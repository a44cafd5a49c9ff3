/- The document's RightSpans. -/
import Derived.Test.YtgldjjmpjaegfaaRr
import Derived.Test.YtgldjjmpjaegfaaFew
namespace Go.Proofs.Ytgldjjmpjaegfaa
open Go.RowKit
set_option linter.unusedVariables false
set_option maxRecDepth 100000

set_option maxHeartbeats 8000000 in
theorem rightspans_any (A : Option Addr) (l : List Ls) (n c B : Nat) (w : World) (hn : n = l.length) (hy : RdSps w B A l) (hB : B ≤ w.heap.size) (hl : n ≤ maxLen) :
    Calls Try.prog 29 #[.slice A n c] w fun e w' => e = .returned (.bool (l.all fun x => right x.s)) ∧ Below w.heap.size w w' := by
  simp only [maxLen] at hl
  have HN := Lib.hid hn
  have HF : Hid ((l.all fun x => right x.s) = l.all fun x => right x.s) := Lib.hid rfl
  generalize hfw : (l.all fun x => right x.s) = fw at *
  have HQ : Hid (fw = l.all fun x => right x.s) := Lib.hid hfw.symm
  have HY := Lib.hid hy
  clear hy hn hfw HF
  go_enter Try.func29, Try.ntmps29
  go_wp2_with fail
  go_loopw [3] (fun i wr => ∃ k : Nat, i = .int .i64 k ∧ k ≤ n ∧ Hid ((l.take k).all (fun x => right x.s) = true) ∧ Hid (Below w.heap.size w wr)) (fun i _ => n - (intOf i).toNat)
  case atStart => exact ⟨0, rfl, by omega, Lib.hid (by simp), Lib.hid (Below.refl _ _)⟩
  case round =>
    obtain ⟨k, rfl, hk, HK, HB⟩ := hrel
    by_cases hlt : k < n
    · obtain ⟨x, hx⟩ : ∃ x, l[k]? = some x := ⟨_, List.getElem?_eq_getElem (by rw [← HN.out]; exact hlt)⟩
      have HR : Hid (RdSps wr B A l) := Lib.hid (HY.out.below (HB.out.mono hB))
      obtain ⟨a, ha, _, hc, hl2⟩ := HR.out.at_ hx
      subst ha
      obtain ⟨⟨x0, x1, x2, x3, x4, x5, x6, x7, x8, ats⟩, xA, xc⟩ := x
      have c0 := hc 0 _ rfl
      have c1 := cell_far (hc 1 _ rfl) (by omega)
      have c2 := cell_far (hc 2 _ rfl) (by omega)
      have c3 := cell_far (hc 3 _ rfl) (by omega)
      have c4 := cell_far (hc 4 _ rfl) (by omega)
      have c5 := cell_far (hc 5 _ rfl) (by omega)
      have c6 := cell_far (hc 6 _ rfl) (by omega)
      have c7 := cell_far (hc 7 _ rfl) (by omega)
      have c8 := cell_far (hc 8 _ rfl) (by omega)
      obtain ⟨m, hm⟩ : ∃ m, m = ats.length := ⟨_, rfl⟩
      have c9 : wr.cell? ⟨(a.add (k * 10)).block, (a.add (k * 10)).off + 9, none⟩ = some (.slice xA m xc) := by rw [hm]; exact cell_far (hc 9 _ rfl) (by omega)
      simp only [Nat.add_zero] at c0
      have HX := Lib.hid hx
      have F := Lib.hid (rightspan_lit x0 x1 x2 x3 x4 x5 x6 x7 x8 ats xA xc m B wr hm hl2 (Nat.le_trans hB HB.out.size))
      clear hc hl2 hx hm
      cases hfx : right ⟨x0, x1, x2, x3, x4, x5, x6, x7, x8, ats⟩
      · have HP := Lib.hid (all_not (fun x : Ls => right x.s) l k _ HX.out hfx)
        simp only [hfx] at F
        clear hfx
        go_wp2_with (go_at_call 36; (with_reducible refine (F.out).mono ?_); rintro e w1 ⟨rfl, hb1⟩; have HB1 := Lib.hid (HB.out.trans (hb1.mono HB.out.size)); clear hb1)
        go_ret
        exact ⟨by rw [HQ.out, HP.out] <;> rfl, HB1.out⟩
      · have HP := Lib.hid (all_take_succ (fun x : Ls => right x.s) l k _ HX.out HK.out hfx)
        simp only [hfx] at F
        clear hfx
        go_wp2_with (go_at_call 36; (with_reducible refine (F.out).mono ?_); rintro e w1 ⟨rfl, hb1⟩; have HB1 := Lib.hid (HB.out.trans (hb1.mono HB.out.size)); clear hb1)
        go_roundw
        case rel => exact ⟨k + 1, by go_num, by omega, HP, HB1⟩
        case measure => simp [intOf]; omega
    · obtain rfl : k = n := by omega
      have HP : Hid ((l.all fun x => right x.s) = true) := Lib.hid (by have := HK.out; rwa [List.take_of_length_le (by rw [← HN.out]; exact Nat.le_refl _)] at this)
      go_wp2_with fail
      go_ret
      exact ⟨by rw [HQ.out, HP.out] <;> rfl, HB.out⟩
end Go.Proofs.Ytgldjjmpjaegfaa
