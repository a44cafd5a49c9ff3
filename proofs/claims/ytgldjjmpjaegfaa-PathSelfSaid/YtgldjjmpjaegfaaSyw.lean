/- tree.Sizes: how many spans each one and all below it are. -/
import Derived.Test.YtgldjjmpjaegfaaSyv
import Derived.RegionTactic
import Derived.ChangeAlike
import Derived.BigRegion
namespace Go.Proofs.Ytgldjjmpjaegfaa
open Go.RowKit Go.Maps
set_option linter.unusedVariables false
set_option linter.unusedSimpArgs false
set_option maxRecDepth 100000

theorem rev_at {P : List Int} {n k i : Nat} {O : List Nat} (hO : Sy.Ost P n O []) (hx : O.reverse[k]? = some i) :
    i < n ∧ i ∉ O.reverse.take k ∧ parN P n i ≠ i ∧ parN P n i ∉ O.reverse.take k ∧ (∀ y ∈ O.reverse.take k, y < n) ∧ (∀ y ∈ O.reverse.take k, parN P n y ≠ y) ∧ O.reverse.take (k + 1) = O.reverse.take k ++ [i] := by
  have hlt : ∀ y ∈ O, y < n := fun y hy => hO.lt y (by rw [List.append_nil]; exact hy)
  have hnd : O.Nodup := by have := hO.nd; rwa [List.append_nil] at this
  have hne : ∀ y ∈ O, parN P n y ≠ y := fun y hy e => by
    obtain ⟨O1, O2, e1⟩ := List.append_of_mem hy
    rcases hO.up O1 y O2 e1 with u | u
    · have := hlt y hy; omega
    · rw [e] at u
      rw [e1, List.nodup_append] at hnd
      exact hnd.2.2 y u y List.mem_cons_self rfl
  have hk := (List.getElem?_eq_some_iff.1 hx).1
  have hi : i ∈ O := List.mem_reverse.1 (List.mem_of_getElem? hx)
  have hsub : ∀ y ∈ O.reverse.take k, y ∈ O := fun y hy => List.mem_reverse.1 (List.mem_of_mem_take hy)
  have hsp : O = (O.reverse.drop (k + 1)).reverse ++ i :: (O.reverse.take k).reverse := by
    have h1 := List.take_append_drop k O.reverse
    rw [List.drop_eq_getElem_cons hk, (List.getElem?_eq_some_iff.1 hx).2] at h1
    have h2 := congrArg List.reverse h1
    rw [List.reverse_reverse, List.reverse_append, List.reverse_cons, List.append_assoc] at h2
    exact h2.symm
  have hnd2 := hnd
  rw [hsp, List.nodup_append, List.nodup_cons] at hnd2
  have hup := hO.up _ _ _ hsp
  refine ⟨hlt i hi, fun hm => hnd2.2.1.1 (List.mem_reverse.2 hm), hne i hi, fun hm => ?_, fun y hy => hlt y (hsub y hy), fun y hy => hne y (hsub y hy), by rw [List.take_add_one, hx]; rfl⟩
  rcases hup with u | u
  · have := hlt _ (hsub _ hm); omega
  · exact hnd2.2.2 _ u _ (List.mem_cons_of_mem _ (List.mem_reverse.2 hm)) rfl
set_option maxHeartbeats 16000000 in
theorem sizes_any (l : List Ls) (A : Option Addr) (n c B : Nat) (w : World) (hS : RdSps w B A l) (hB : B ≤ w.heap.size) (hn : n = l.length) (hsm : n ≤ 100000) :
    Calls Try.prog 19 #[.slice A n c] w fun e w' => ∃ g P M O S, e = .returned (.slice (some ⟨g, 0, none⟩) n n) ∧ Sy.ParOf (namedM l) P ∧ Bys l M ∧ O = Sy.ordM (kidsL P n M) n (M.filter fun i => parN P n i == n) ∧ Sy.Ost P n O [] ∧ Sy.Szt P n O.reverse S ∧ w'.ownsRow w.heap.size 3 1 (.slice (some ⟨g, 0, none⟩) n n) n (S.map encN) ∧ Below w.heap.size w w' := by
  have PA := Lib.hid (parents_any l A n c B w hS hB hn hsm)
  have HSs := Lib.hid hS
  have HBB := Lib.hid hB
  have HN := Lib.hid hn
  have hNP := namedM_plain l
  rw [← hn] at hNP
  have HNP := Lib.hid hNP
  clear hS hB hn hNP
  go_enter Try.func19, Try.ntmps19
  go_upto_region 2 with (go_at_call 13; (with_reducible refine PA.out.mono ?_); rintro ex w1 ⟨gp, P, rfl, hp1, ho1, hb1⟩; have HP1 := Lib.hid hp1; have HO1 := Lib.hid ho1; have HB1 := Lib.hid hb1; clear hp1 ho1 hb1)
  clear PA
  obtain ⟨W5, hrun, hown, hbl, hsz⟩ := make_intN n hsm w1
  have hz1 := HB1.out.size
  have BS := Lib.hid (order_any l A n c B W5 ((HSs.out.below (HB1.out.mono HBB.out)).below (hbl.mono (Nat.le_trans HBB.out hz1))) (by have := HBB.out; omega) HN.out hsm)
  have RCG := Lib.hid (show ∀ (w2 : World) (A9 : Option Addr) (c9 : Nat) (O : List Nat), w2.ownsRow W5.heap.size 3 1 (.slice A9 n c9) n (O.map encN) → Calls Try.prog 33 #[.slice A9 n c9] w2 fun e w' => ∃ A' c', e = .returned (.slice A' n c') ∧ w'.ownsRow w2.heap.size 3 1 (.slice A' n c') n (O.reverse.map encN) ∧ Below w2.heap.size w2 w' from fun w2 A9 c9 O h => by
    obtain ⟨A8, c8, e8, _, hr⟩ := own_rd h
    injection e8 with e8 _ _
    subst e8
    have hl := h.1
    rw [List.length_map] at hl
    exact reversed_any A9 O n c9 w2.heap.size w2 (by omega) hr (Nat.le_refl _) (by omega))
  have HOG := Lib.hid hown
  have HBL := Lib.hid hbl
  have HSZ := Lib.hid (And.intro hz1 hsz)
  clear hown hbl hsz hz1
  go_upto_region 4 with (first
    | (go_at_call 15; (with_reducible refine BS.out.mono ?_); rintro ex w2 ⟨A9, c9, P9, M9, O, rfl, hp9, hby9, ho9, hos9, hown9, hb9⟩; have HB2 := Lib.hid hb9; have HOS9 := Lib.hid hos9; have HP9 := Lib.hid hp9; have HBY9 := Lib.hid hby9; have HOO9 := Lib.hid ho9; have RC := Lib.hid (RCG.out w2 A9 c9 O hown9); clear hp9 hby9 ho9 hos9 hown9 hb9)
    | (go_at_call 33; (with_reducible refine RC.out.mono ?_); rintro ex w3 ⟨A7, c7, rfl, ho7, hb7⟩; have HO2 := Lib.hid ho7; have HB3 := Lib.hid hb7; clear ho7 hb7))
  clear RC RCG
  obtain rfl : P = P9 := parOf_ext HP1.out HP9.out
  have HOS := HOS9
  have HPP := Lib.hid (show Sy.Plain P n from fun v z h => by
    by_cases hl : Sy.LR (Sy.pf (namedM l)) v
    · rw [(HP1.out.2 v).1 hl] at h; injection h with h; omega
    · rw [(HP1.out.2 v).2 hl] at h; exact HNP.out v z h)
  have HNL := Lib.hid (show (namedM l).length = n from by rw [namedM_len, ← HN.out])
  have HPL := Lib.hid (show P.length = n from by rw [HP1.out.1, HNL.out])
  obtain ⟨b0, hb0⟩ : ∃ b0, b0 = w.heap.size := ⟨_, rfl⟩
  have HB0 := Lib.hid hb0
  obtain ⟨gk, hgk⟩ : ∃ gk, gk = w1.heap.size := ⟨_, rfl⟩
  have hz := HSZ.out
  have hgp := own_baseY HO1.out
  have hs2 := HB2.out.size
  have hs3 := HB3.out.size
  have HBW2 := Lib.hid (show Below b0 w w3 from by rw [hb0]; exact ((HB1.out.trans (HBL.out.mono (by omega))).trans (HB2.out.mono (by omega))).trans (HB3.out.mono (by omega)))
  have hwz : ((List.replicate n (0 : Int)).map encZ) = (List.replicate n 0).map encN := by rw [List.map_replicate, List.map_replicate]; rfl
  have hog := HOG.out
  rw [hwz] at hog
  have HOD2 := Lib.hid (own_mono (own_below (own_below hog HB2.out) HB3.out) (base' := b0) (by omega))
  have HOP2 := Lib.hid (own_mono (own_below (own_below (own_below HO1.out HBL.out) HB2.out) HB3.out) (base' := b0) (by omega))
  have HOO2 := Lib.hid (own_mono HO2.out (base' := b0) (by omega))
  have HG := Lib.hid (show gp ≠ gk ∧ b0 ≤ gk from by omega)
  have HGO := Lib.hid (show ∀ g, (Value.slice A7 n c7).ownBlock = some g → g ≠ gk from fun g hg => by have := own_block_ge HO2.out g hg; omega)
  rw [← hgk] at HOD2
  clear HO1 HO2 HOG HBL HB1 HB2 HB3 HSZ hz hgp hs2 hs3 BS hb0 hwz hog HP9
  rw [← hgk]
  clear hgk hrun
  obtain ⟨R, hR⟩ : ∃ R, R = O.reverse := ⟨_, rfl⟩
  have HRR := Lib.hid hR
  rw [← hR] at HOO2
  clear hR
  go_loopw [16] (fun vi wq => ∃ (k : Nat) (S : List Nat), vi = .int .i64 (k : Int) ∧ k ≤ n ∧ Hid (Sy.Szt P n (R.take k) S) ∧ Hid (wq.ownsRow b0 3 1 (.slice (some ⟨gk, 0, none⟩) n n) n (S.map encN)) ∧ Hid (wq.ownsRow b0 3 1 (.slice (some ⟨gp, 0, none⟩) n n) n (P.map encZ)) ∧ Hid (wq.ownsRow b0 3 1 (.slice A7 n c7) n (R.map encN)) ∧ Hid (Below b0 w wq)) (fun vi _ => n - (intOf vi).toNat)
  case atStart => exact ⟨0, _, rfl, Nat.zero_le _, Lib.hid (Sy.Szt.start P n), HOD2, HOP2, HOO2, HBW2⟩
  clear HOD2 HOP2 HOO2 HBW2
  case round =>
    obtain ⟨k, S, rfl, hk, HS, HOD, HOP, HOO, HB⟩ := hrel
    by_cases hlt : k < n
    · obtain ⟨go, hgo, _, _⟩ := own_placeY HOO.out (by omega)
      subst hgo
      have hne : go ≠ gk := HGO.out go rfl
      have hrl : R.length = n := own_lenN HOO.out
      obtain ⟨x, hx⟩ : ∃ x, R[k]? = some x := ⟨_, List.getElem?_eq_getElem (by omega)⟩
      have hra := rev_at HOS.out (by rw [← HRR.out]; exact hx)
      rw [← HRR.out] at hra
      obtain ⟨hxn, q1, q2, q3, q4, q5, htk⟩ := hra
      obtain ⟨si, hsi, hsk, hA, hB2⟩ := HS.out.step hxn q1 q2 q3 q4 q5
      rw [List.length_take, hrl, Nat.min_eq_left (by omega)] at hsk
      have hpf := parN_pf HPP.out HPL.out hxn
      obtain ⟨o0, _⟩ := own_atN HOO.out hx
      obtain ⟨s1, hs1⟩ : ∃ s1, s1 = si + 1 := ⟨_, rfl⟩
      rw [← hs1] at hA hB2
      rw [← htk] at hA hB2
      obtain ⟨y0, y1⟩ := own_atN HOD.out hsi
      have HLT := Lib.hid hlt
      have x0 : (0 : Int) ≤ (x : Int) := by omega
      have x1 : (x : Int) < (n : Int) := by omega
      have k0 : (0 : Int) ≤ (k : Int) := by omega
      have k1 : (k : Int) < (n : Int) := by omega
      have e1 : IntKind.i64.wrap ((si : Int) + 1) = (s1 : Int) := by rw [IntKind.wrap_i64] <;> omega
      have HOD2 := Lib.hid (own_setN HOD.out hxn s1)
      have HOP2 := Lib.hid (own_elseZ HOP.out HOD.out HG.out.1 hxn (.int .i64 (s1 : Int)))
      have HOO2 := Lib.hid (own_elseZ HOO.out HOD.out hne hxn (.int .i64 (s1 : Int)))
      have HB2 := Lib.hid (HB.out.setCell (p := ⟨gk, x, none⟩) HG.out.2 (.int .i64 (s1 : Int)))
      cases hu : Sy.pf P x with
      | none =>
        have HS1 := Lib.hid (hA (hpf.1 hu).1)
        obtain ⟨p0, _⟩ := own_atZ HOP2.out (hpf.1 hu).2
        clear hpf hu hx hxn hrl hlt hk q1 q2 q3 q4 q5 htk hsi hsk hA hB2 hs1
        go_wp2_with fail
        go_roundw
        case rel => exact ⟨k + 1, S.set x s1, by go_num, HLT.out, HS1, HOD2, HOP2, HOO2, HB2⟩
        case measure => have := HLT.out; simp [intOf]; omega
      | some u =>
        obtain ⟨hpu, hun, hpc⟩ := hpf.2 u hu
        rw [hpu] at hB2
        obtain ⟨sp, hsp⟩ : ∃ sp, S[u]? = some sp := ⟨_, List.getElem?_eq_getElem (by rw [HS.out.len]; exact hun)⟩
        obtain ⟨hspk, hB3⟩ := hB2 sp hun hsp
        rw [List.length_take, hrl, Nat.min_eq_left (by omega)] at hspk
        obtain ⟨s2, hs2⟩ : ∃ s2, s2 = sp + s1 := ⟨_, rfl⟩
        rw [← hs2] at hB3
        have HS1 := Lib.hid hB3
        have hxu : x ≠ u := fun e => q2 (by rw [hpu, e])
        obtain ⟨p0, _⟩ := own_atZ HOP2.out hpc
        obtain ⟨t0, t1⟩ := own_atN HOD2.out (i := u) (x := sp) (by rw [List.getElem?_set_ne hxu]; exact hsp)
        obtain ⟨v0, v1⟩ := own_atN HOD2.out (i := x) (x := s1) (List.getElem?_set_self (by rw [HS.out.len]; exact hxn))
        have e2 : IntKind.i64.wrap ((sp : Int) + (s1 : Int)) = (s2 : Int) := by rw [IntKind.wrap_i64] <;> omega
        have b1 : ((u : Int) == -1) = false := beq_eq_false_iff_ne.2 (by omega)
        have u0 : (0 : Int) ≤ (u : Int) := by omega
        have u1 : (u : Int) < (n : Int) := by omega
        have HUN := Lib.hid hun
        have HNE := Lib.hid hne
        clear hpf hu hx hxn hrl hlt hk q1 q2 q3 q4 q5 htk hsi hsk hA hB2 hB3 hs1 hs2 hpu hun hpc hsp hspk hxu hne
        go_upto_region 7 with fail
        clear y0 y1 e1
        generalize wr.setCell ⟨gk, x, none⟩ (.int .i64 (s1 : Int)) = w5 at *
        go_upto_region 8 with fail
        go_region
        obtain ⟨w9, hw9⟩ : ∃ w9, w9 = (w5.setCell ⟨gk, u, none⟩ (.int .i64 (s2 : Int))).drew := ⟨_, rfl⟩
        rw [← hw9]
        have HOD3 := Lib.hid (show w9.ownsRow b0 3 1 (.slice (some ⟨gk, 0, none⟩) n n) n (((S.set x s1).set u s2).map encN) from by
          rw [hw9]; have h := own_setN HOD2.out HUN.out s2; with_reducible exact own_drewY h)
        have HOP3 := Lib.hid (show w9.ownsRow b0 3 1 (.slice (some ⟨gp, 0, none⟩) n n) n (P.map encZ) from by
          rw [hw9]; have h := own_elseZ HOP2.out HOD2.out HG.out.1 HUN.out (.int .i64 (s2 : Int)); with_reducible exact own_drewY h)
        have HOO3 := Lib.hid (show w9.ownsRow b0 3 1 (.slice (some ⟨go, 0, none⟩) n c7) n (R.map encN) from by
          rw [hw9]; have h := own_elseZ HOO2.out HOD2.out HNE.out HUN.out (.int .i64 (s2 : Int)); with_reducible exact own_drewY h)
        have HB3 := Lib.hid (show Below b0 w w9 from by
          rw [hw9]; have h := HB2.out.setCell (p := ⟨gk, u, none⟩) HG.out.2 (.int .i64 (s2 : Int)); with_reducible exact Below.drewY h)
        clear hw9 t0 t1 v0 v1 p0 HOD2 HOP2 HOO2 HB2
        go_wp2_with fail
        go_roundw
        case rel => exact ⟨k + 1, (S.set x s1).set u s2, by go_num, HLT.out, HS1, HOD3, HOP3, HOO3, HB3⟩
        case measure => have := HLT.out; simp [intOf]; omega
    · obtain rfl : k = n := by omega
      go_wp2_with fail
      go_ret
      have hrl : R.length = k := by have := HOO.out.1; rw [List.length_map] at this; omega
      have h9 := HS.out
      rw [List.take_of_length_le (by omega), HRR.out] at h9
      exact ⟨gk, P, M9, O, S, rfl, HP1.out, HBY9.out, HOO9.out, HOS.out, h9, by rw [← HB0.out]; exact HOD.out, by rw [← HB0.out]; exact HB.out⟩
end Go.Proofs.Ytgldjjmpjaegfaa
