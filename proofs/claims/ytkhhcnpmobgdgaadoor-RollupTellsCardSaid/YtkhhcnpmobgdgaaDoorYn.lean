/- Chapter 10's example. -/
import Derived.Test.YtkhhcnpmobgdgaaDoorYm
namespace Go.Proofs.YtkhhcnpmobgdgaaDoor
open Go.RowKit
set_option linter.unusedVariables false
set_option linter.unusedSimpArgs false
set_option maxRecDepth 100000

def alS : Sp := ⟨0, 0, 0, 0, ⟨#[97]⟩, ⟨#[98]⟩, 70, 0, false, []⟩
theorem alS_rows : addS [] alS 9 = [⟨⟨0, 1, ⟨#[97]⟩, ⟨#[98]⟩⟩, joinC [] (cS alS) 9⟩, ⟨⟨1, 0, ⟨#[97]⟩, ⟨#[98]⟩⟩, joinC [] (cS alS) 9⟩, ⟨⟨2, 0, ⟨#[97]⟩, ⟨#[98]⟩⟩, joinC [] (cS alS) 9⟩] := by
  unfold addS
  rw [if_pos (by decide)]
  rfl
theorem alS_one : (joinC [] (cS alS) 9).getD 0 0 = 1 := by decide
set_option maxHeartbeats 4000000 in
theorem alive10_calls (w : World) (T : Bnds w) (TL : Lens w) : Calls Tryd.prog 10 #[] w fun e w' => e = .returned (.bool true) ∧ Below w.heap.size w w' := by
  have hy : RdL w w.heap.size ⟨alS, none, 0⟩ := ⟨Rd.nil, ⟨Nat.le_refl _, by decide⟩, ⟨by decide, by decide, by decide, by decide, by decide, by decide, by decide, by decide, ⟨by decide, fun a ha => by cases ha⟩⟩⟩
  have AC := Lib.hid (radd_any none [] 0 0 w.heap.size 0 0 0 0 ⟨#[97]⟩ ⟨#[98]⟩ 70 0 false [] none 0 0 9 w rfl Rd.nil (fun r hr => by cases hr) List.Pairwise.nil rfl hy (Nat.le_refl _) T TL (by decide) (by decide))
  have hrw : addS [] ⟨0, 0, 0, 0, ⟨#[97]⟩, ⟨#[98]⟩, 70, 0, false, []⟩ 9 = addS [] alS 9 := rfl
  rw [hrw] at AC
  obtain ⟨RL, hRL⟩ : ∃ RL, RL = addS [] alS 9 := ⟨_, rfl⟩
  rw [← hRL] at AC
  have hl3 : RL.length = 3 := by rw [hRL, alS_rows]; rfl
  rw [hl3] at AC
  have HRL := Lib.hid hRL
  clear hrw hRL hl3 hy
  go_enter Tryd.func10, Tryd.ntmps10
  go_upto_region 2 with (go_at_call 14; (with_reducible refine AC.out.mono ?_); rintro ex w1 ⟨v1, rfl, ho1, hb1⟩; have HO1 := Lib.hid ho1; have HB1 := Lib.hid hb1; clear ho1 hb1)
  obtain ⟨A1, c1, rfl, _, hrd⟩ := own_rd HO1.out
  obtain ⟨g, rfl, _, hbg, hgw, hnc, hcm, cur, hcur, hcs⟩ := own_parts HO1.out (by decide)
  have h0 : RL[0]? = some ⟨⟨0, 1, ⟨#[97]⟩, ⟨#[98]⟩⟩, joinC [] (cS alS) 9⟩ := by rw [HRL.out, alS_rows]; rfl
  have h2 : RL[2]? = some ⟨⟨2, 0, ⟨#[97]⟩, ⟨#[98]⟩⟩, joinC [] (cS alS) 9⟩ := by rw [HRL.out, alS_rows]; rfl
  have z1 : w1.cell? ⟨g, 1, none⟩ = some (.int .i64 1) := by
    rw [(own_cells HO1.out 1 (by decide)).2.1, show (1 : Nat) = 0 * 14 + 1 from rfl, flatMap_at _ 14 rcells_len RL 0 1 (by decide), h0]; rfl
  have z2 : w1.cell? ⟨g, 32, none⟩ = some (.int .i64 1) := by
    rw [(own_cells HO1.out 32 (by decide)).2.1, show (32 : Nat) = 2 * 14 + 4 from rfl, flatMap_at _ 14 rcells_len RL 2 4 (by decide), h2]
    show some (Value.int .i64 ((joinC [] (cS alS) 9).getD 0 0)) = _
    rw [alS_one]
  have FC := Lib.hid (rfind_any none [] 0 0 w1.heap.size ⟨#[97]⟩ ⟨#[98]⟩ 0 w1 rfl Rd.nil (Nat.le_refl _) (by decide))
  have HG := Lib.hid hgw
  have Z := Lib.hid (fun (W : World) (h : Below w1.heap.size w1 W) => show W.cell? ⟨g, 1, none⟩ = some (.int .i64 1) ∧ W.cell? ⟨g, 32, none⟩ = some (.int .i64 1) from ⟨(h.cell (p := ⟨g, 1, none⟩) HG.out).trans z1, (h.cell (p := ⟨g, 32, none⟩) HG.out).trans z2⟩)
  clear hrd h0 h2 z1 z2 hcur hcs hgw hcm hbg
  go_wp2_with (go_at_call 18; (with_reducible refine FC.out.mono ?_); rintro ex w2 ⟨A2, c2, rfl, _, hb2⟩; obtain ⟨q1, q2⟩ := Z.out w2 hb2; have HB2 := Lib.hid hb2; clear hb2)
  go_ret
  exact ⟨rfl, HB1.out.trans (HB2.out.mono HB1.out.size)⟩
end Go.Proofs.YtkhhcnpmobgdgaaDoor
