/- tree.Parents: of each ring the least has no parent, of the others whom they name. -/
import Derived.Test.YtgldjjmpjaegfaaSym
import Derived.Deep.DeepCutAuto
import Derived.Deep.Cut
namespace Go.Proofs.Ytgldjjmpjaegfaa
open Go.RowKit Go.Maps
set_option linter.unusedVariables false
set_option linter.unusedSimpArgs false
set_option maxRecDepth 100000

theorem namedM_plain (l : List Ls) : Sy.Plain (namedM l) l.length := fun v z h => by
  have hv := (List.getElem?_eq_some_iff.1 h).1
  rw [namedM_len] at hv
  rw [namedM_at (List.getElem?_eq_getElem hv)] at h
  injection h with h
  cases ho : namedO (l.map fun x => x.s.id) (l[v]).s.pa v with
  | none => rw [ho] at h; simp only [plO] at h; omega
  | some j => have := (namedO_lt ho).1; rw [ho] at h; simp only [plO] at h; rw [List.length_map] at this; omega
theorem Inv_plain {N P : List Int} {W : List Nat} {n i : Nat} (I : Sy.Inv N P W n i) (hN : Sy.Plain N n) : Sy.Plain P n := fun v z h => by
  rcases I.or v with h1 | ⟨h1, _⟩
  · exact hN v z (by rw [← h1]; exact h)
  · rw [h] at h1; injection h1 with h1; omega
set_option maxHeartbeats 16000000 in
theorem parents_any (l : List Ls) (A : Option Addr) (n c B : Nat) (w : World) (hS : RdSps w B A l) (hB : B ≤ w.heap.size) (hn : n = l.length) (hsm : n ≤ 100000) :
    Calls Try.prog 13 #[.slice A n c] w fun e w' => ∃ g P, e = .returned (.slice (some ⟨g, 0, none⟩) n n) ∧ Sy.ParOf (namedM l) P ∧ w'.ownsRow w.heap.size 3 1 (.slice (some ⟨g, 0, none⟩) n n) n (P.map encZ) ∧ Below w.heap.size w w' := by
  have NA := Lib.hid (named_any l A n c B w hS hB hn hsm)
  have hNL := namedM_len l
  have hNP := namedM_plain l
  rw [← hn] at hNL hNP
  generalize namedM l = N at *
  have HNL := Lib.hid hNL
  have HNP := Lib.hid hNP
  clear hS hB hn hNL hNP
  go_enter Try.func13, Try.ntmps13
  go_upto_region 2 with (go_at_call 30; (with_reducible refine NA.out.mono ?_); rintro ex w1 ⟨gp, rfl, ho1, hb1⟩; have HO1 := Lib.hid ho1; have HB1 := Lib.hid hb1; clear ho1 hb1)
  clear NA
  obtain ⟨W5, hrun, hown, hbl, hsz⟩ := make_intN n hsm w1
  obtain ⟨b0, hb0⟩ : ∃ b0, b0 = w.heap.size := ⟨_, rfl⟩
  have HB0 := Lib.hid hb0
  have hz1 := HB1.out.size
  have hgp := own_baseY HO1.out
  rw [← hb0] at HO1 HB1
  have hwz : ((List.replicate n (0 : Int)).map encZ) = (List.replicate n 0).map encN := by rw [List.map_replicate, List.map_replicate]; rfl
  rw [hwz] at hown
  have HOW0 := Lib.hid (own_mono hown (base' := b0) (by omega))
  have HOP0 := Lib.hid (own_below HO1.out hbl)
  have HB5 := Lib.hid (HB1.out.trans (hbl.mono (by omega)))
  have HG := Lib.hid (show gp ≠ w1.heap.size ∧ b0 ≤ gp ∧ b0 ≤ w1.heap.size from ⟨by omega, by omega, by omega⟩)
  clear hown hbl hsz hb0 hz1 hgp HO1 HB1 hwz
  go_upto_region 4 with fail
  generalize hgw : w1.heap.size = gw at *
  clear hgw hrun
  go_loopw [15] (fun vi wq => ∃ (i : Nat) (P : List Int) (W : List Nat), vi = .int .i64 (i : Int) ∧ i ≤ n ∧ Hid (Sy.Inv N P W n i) ∧ Hid (wq.ownsRow b0 3 1 (.slice (some ⟨gp, 0, none⟩) n n) n ((P).map encZ)) ∧ Hid (wq.ownsRow b0 3 1 (.slice (some ⟨gw, 0, none⟩) n n) n ((W).map encN)) ∧ Hid (Below b0 w wq)) (fun vi _ => n - (intOf vi).toNat)
  case atStart => exact ⟨0, N, List.replicate n 0, rfl, Nat.zero_le _, Lib.hid (Sy.Inv.start HNL.out), HOP0, HOW0, HB5⟩
  clear HOP0 HOW0 HB5
  case round =>
    obtain ⟨i, P, W, rfl, hi, HI, HOP, HOW, HB⟩ := hrel
    by_cases hlt : i < n
    · have d0 : decide ((i : Int) < (n : Int)) = true := decide_eq_true (by omega)
      have d1 : decide (i < n) = true := decide_eq_true hlt
      have HLT := Lib.hid hlt
      clear hlt hi
      go_wp2_with fail
      clear d0 d1
      generalize wr = wz at *
      go_loopw [6] (fun va wq => ∃ (k : Nat) (W' : List Nat) (z : Int), va = .int .i64 z ∧ Hid (z = plO (Sy.it (Sy.pf N) k i)) ∧ Hid (Sy.Wk N W W' n i k) ∧ Hid (wq.ownsRow b0 3 1 (.slice (some ⟨gp, 0, none⟩) n n) n ((P).map encZ)) ∧ Hid (wq.ownsRow b0 3 1 (.slice (some ⟨gw, 0, none⟩) n n) n ((W').map encN)) ∧ Hid (Below b0 w wq)) (fun _ wq => zc wq gw n)
      case atStart => exact ⟨0, W, (i : Int), rfl, Lib.hid rfl, Lib.hid (Sy.Wk.start HI.out.lw), HOP, HOW, HB⟩
      clear HOP HOW HB
      case round =>
        obtain ⟨k, W', z, rfl, HZ, HWK, HOP, HOW, HB⟩ := hrel
        obtain ⟨i1, hi1⟩ : ∃ i1, i1 = i + 1 := ⟨_, rfl⟩
        have e1 : IntKind.i64.wrap ((i : Int) + 1) = (i1 : Int) := by rw [IntKind.wrap_i64] <;> (have := HLT.out; omega)
        have HI1 := Lib.hid hi1
        clear hi1
        cases hk : Sy.it (Sy.pf N) k i with
        | none =>
          obtain rfl : z = -1 := by rw [HZ.out, hk]; rfl
          have HIN := Lib.hid (Sy.Wk.inv_none HI.out HWK.out hk)
          clear hk
          go_wp2_with fail
          go_roundw
          case rel => exact ⟨i1, P, W', rfl, (by have := HLT.out; have := HI1.out; omega), (by rw [HI1.out]; exact HIN), HOP, HOW, HB⟩
          case measure => have := HLT.out; have := HI1.out; simp [intOf]; omega
        | some v =>
          obtain rfl : z = (v : Int) := by rw [HZ.out, hk]; rfl
          have hv := it_lt HNP.out HLT.out k hk
          obtain ⟨x, hx⟩ : ∃ x, W'[v]? = some x := ⟨_, List.getElem?_eq_getElem (by rw [HWK.out.lw]; exact hv)⟩
          have b1 : ((v : Int) == -1) = false := beq_eq_false_iff_ne.2 (by omega)
          have v0 : (0 : Int) ≤ (v : Int) := by omega
          have v1 : (v : Int) < (n : Int) := by omega
          obtain ⟨x0, x1⟩ := own_atN HOW.out hx
          by_cases hx0 : x = 0
          · have b2 : ((x : Int) == 0) = true := beq_iff_eq.2 (by omega)
            have b3 : (x == 0) = true := beq_iff_eq.2 hx0
            rw [hx0] at hx
            have hPN := Sy.Wk.same HI.out HWK.out v hx
            obtain ⟨z2, hz2⟩ : ∃ z2, N[v]? = some z2 := ⟨_, List.getElem?_eq_getElem (by rw [HNL.out]; exact hv)⟩
            rw [hz2] at hPN
            obtain ⟨p0, _⟩ := own_atZ HOP.out hPN
            have HZ2 := Lib.hid (show z2 = plO (Sy.it (Sy.pf N) (k + 1) i) from by
              show z2 = plO ((Sy.it (Sy.pf N) k i).bind _)
              rw [hk]; exact Sy.pf_at HNP.out hz2)
            have HWK2 := Lib.hid (show Sy.Wk N W (W'.set v i1) n i (k + 1) from by rw [HI1.out]; exact HWK.out.next hk hx)
            have hne : gp ≠ gw := HG.out.1
            have HOP2 := Lib.hid (own_elseZ HOP.out HOW.out hne hv (.int .i64 (i1 : Int)))
            have HOW2 := Lib.hid (own_setN HOW.out hv i1)
            have HB2 := Lib.hid (HB.out.setCell (p := ⟨gw, v, none⟩) HG.out.2.2 (.int .i64 (i1 : Int)))
            have HZC := Lib.hid (zc_less HOW.out HOW2.out (by rw [HI1.out]) hx)
            clear hk hv hx hPN hz2 hx0
            go_wp2_with fail
            go_roundw
            case rel => exact ⟨k + 1, W'.set v i1, z2, rfl, HZ2, HWK2, HOP2, HOW2, HB2⟩
            case measure => exact HZC.out
          · have b2 : ((x : Int) == 0) = false := beq_eq_false_iff_ne.2 (by omega)
            have b3 : (x == 0) = false := beq_eq_false_iff_ne.2 hx0
            by_cases hxi : x = i1
            · have hxv : W'[v]? = some (i + 1) := by rw [hx, hxi, HI1.out]
              have hsame := Sy.Wk.ring_same HI.out HWK.out hk hxv
              have hcon := it_congr (P := P) (N := N) (v := v) (fun q u h => (hsame q u h).2)
              obtain ⟨j, hj, hji, hring⟩ := Sy.Wk.ring HI.out HWK.out hk hxv
              obtain ⟨m, hm, hmv, hmin⟩ := Sy.first_back (f := Sy.pf P) (v := v) ⟨k - j, by omega, by rw [hcon]; exact hring⟩
              have LC := Lib.hid ((leastring_any P b0 gp n n v m wr HOP.out (Inv_plain HI.out HNP.out) hm hmv hmin hsm).mono (fun e w' h => And.intro h.1 h.2.symm))
              obtain ⟨⟨q, hq⟩, hle⟩ := Sy.lst_all hm hmv
              obtain ⟨r, hr⟩ : ∃ r, r = Sy.lst (Sy.pf P) v (m - 1) := ⟨_, rfl⟩
              rw [← hr] at LC hq hle
              rw [hcon] at hq
              have HIN := Lib.hid (Sy.Wk.inv_ring HI.out HWK.out hk hxv hq (fun a u hu => hle a u (by rw [hcon]; exact hu)))
              have hrn : r < n := it_lt HNP.out hv q hq
              have b4 : ((x : Int) == (i1 : Int)) = true := beq_iff_eq.2 (by omega)
              have b5 : (x == i1) = true := beq_iff_eq.2 hxi
              have r0 : (0 : Int) ≤ (r : Int) := by omega
              have r1 : (r : Int) < (n : Int) := by omega
              obtain ⟨z3, hz3⟩ : ∃ z3, P[r]? = some z3 := ⟨_, List.getElem?_eq_getElem (by rw [HI.out.lp]; exact hrn)⟩
              obtain ⟨y0, y1⟩ := own_atZ HOP.out hz3
              have HOP2 := Lib.hid (show (wr.setCell ⟨gp, r, none⟩ (.int .i64 (-1))).ownsRow b0 3 1 (.slice (some ⟨gp, 0, none⟩) n n) n ((P.set r (-1)).map encZ) from by
                have h := (own_set HOP.out hrn (.int .i64 (-1))).2.2.1
                rw [List.map_set]; exact h)
              have HOW2 := Lib.hid (own_elseZ HOW.out HOP.out (fun e => HG.out.1 e.symm) hrn (.int .i64 (-1)))
              have HB2 := Lib.hid (HB.out.setCell (p := ⟨gp, r, none⟩) HG.out.2.1 (.int .i64 (-1)))
              clear hk hv hx hxv hsame hcon hj hji hring hm hmv hmin hq hle hr hrn hz3 hx0 hxi
              go_wp2_with (go_at_call 31; (with_reducible refine LC.out.mono ?_); rintro ex w7 ⟨rfl, hw7⟩; subst hw7)
              go_roundw
              case rel => exact ⟨i1, P.set r (-1), W', rfl, (by have := HLT.out; have := HI1.out; omega), (by rw [HI1.out]; exact HIN), HOP2, HOW2, HB2⟩
              case measure => have := HLT.out; have := HI1.out; simp [intOf]; omega
            · have HIN := Lib.hid (Sy.Wk.inv_old HI.out HWK.out hk hx hx0 (by rw [← HI1.out]; exact hxi))
              have b4 : ((x : Int) == (i1 : Int)) = false := beq_eq_false_iff_ne.2 (by omega)
              have b5 : (x == i1) = false := beq_eq_false_iff_ne.2 hxi
              clear hk hv hx hxi hx0
              go_wp2_with fail
              go_roundw
              case rel => exact ⟨i1, P, W', rfl, (by have := HLT.out; have := HI1.out; omega), (by rw [HI1.out]; exact HIN), HOP, HOW, HB⟩
              case measure => have := HLT.out; have := HI1.out; simp [intOf]; omega
    · obtain rfl : i = n := by omega
      have d0 : decide ((i : Int) < (i : Int)) = false := decide_eq_false (by omega)
      have d1 : decide (i < i) = false := decide_eq_false (by omega)
      clear hlt hi
      go_wp2_with fail
      go_ret
      exact ⟨gp, P, rfl, HI.out.fin HNL.out, by rw [← HB0.out]; exact HOP.out, by rw [← HB0.out]; exact HB.out⟩
end Go.Proofs.Ytgldjjmpjaegfaa
