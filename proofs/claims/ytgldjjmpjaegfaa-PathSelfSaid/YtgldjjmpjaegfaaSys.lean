/- tree.Depths: how many parents are above each span. -/
import Derived.Test.YtgldjjmpjaegfaaSyr
namespace Go.Proofs.Ytgldjjmpjaegfaa
open Go.RowKit Go.Maps
set_option linter.unusedVariables false
set_option linter.unusedSimpArgs false
set_option maxRecDepth 100000

theorem parOf_ext {N P Q : List Int} (h : Sy.ParOf N P) (k : Sy.ParOf N Q) : P = Q := by
  apply List.ext_getElem?
  intro v
  by_cases hl : Sy.LR (Sy.pf N) v
  · rw [(h.2 v).1 hl, (k.2 v).1 hl]
  · rw [(h.2 v).2 hl, (k.2 v).2 hl]
/-- What depths of the first k of the order are. -/
structure Dst (P : List Int) (n : Nat) (O : List Nat) (D : List Nat) (k : Nat) : Prop where
  len : D.length = n
  got : ∀ x ∈ O.take k, D[x]? = some (match Sy.pf P x with | none => 0 | some u => (D[u]?).getD 0 + 1)
  not : ∀ x, x < n → x ∉ O.take k → D[x]? = some 0
  le : ∀ x d : Nat, D[x]? = some d → d ≤ k
theorem Dst.start (P : List Int) (n : Nat) (O : List Nat) : Dst P n O (List.replicate n 0) 0 := by
  refine ⟨List.length_replicate, fun x hx => ?_, fun x hx _ => ?_, fun x d h => ?_⟩
  · rw [List.take_zero] at hx; cases hx
  · rw [List.getElem?_replicate, if_pos hx]
  · obtain ⟨_, h2⟩ := List.getElem?_eq_some_iff.1 h
    rw [List.getElem_replicate] at h2; omega
theorem parN_pf {P : List Int} {n x : Nat} (hp : Sy.Plain P n) (hL : P.length = n) (hx : x < n) : (Sy.pf P x = none → parN P n x = n ∧ P[x]? = some (-1)) ∧ ∀ u, Sy.pf P x = some u → parN P n x = u ∧ u < n ∧ P[x]? = some (u : Int) := by
  obtain ⟨z, hz⟩ : ∃ z, P[x]? = some z := ⟨_, List.getElem?_eq_getElem (by omega)⟩
  refine ⟨fun h => ?_, fun u h => ?_⟩
  · unfold Sy.pf at h
    rw [hz] at h
    simp only at h
    split at h
    · rename_i e
      unfold parN
      rw [hz]
      exact ⟨by simp [e], by rw [e]⟩
    · cases h
  · obtain ⟨h1, h2⟩ := pf_cell hp h
    refine ⟨?_, h2, h1⟩
    unfold parN
    rw [h1]
    simp only
    rw [if_neg (by omega)]; omega
theorem Dst.step {P : List Int} {n k x : Nat} {O D : List Nat} (h : Dst P n O D k) (hO : Sy.Ost P n O []) (hp : Sy.Plain P n) (hL : P.length = n) (hx : O[k]? = some x) :
    (Sy.pf P x = none → Dst P n O D (k + 1)) ∧ ∀ u d, Sy.pf P x = some u → D[u]? = some d → Dst P n O (D.set x (d + 1)) (k + 1) := by
  have hk := (List.getElem?_eq_some_iff.1 hx).1
  have ht : O.take (k + 1) = O.take k ++ [x] := by rw [List.take_add_one, hx]; rfl
  have hsp : O = O.take k ++ x :: O.drop (k + 1) := by
    have e := (List.getElem?_eq_some_iff.1 hx).2
    have h1 := List.take_append_drop k O
    rw [List.drop_eq_getElem_cons hk, e] at h1
    exact h1.symm
  have hnd : O.Nodup := by have := hO.nd; rwa [List.append_nil] at this
  have hxn : x < n := hO.lt x (by rw [List.append_nil]; exact List.mem_of_getElem? hx)
  have hxk : x ∉ O.take k := fun hm => by
    rw [hsp, List.nodup_append] at hnd
    exact hnd.2.2 x hm x List.mem_cons_self rfl
  have hup := hO.up _ _ _ hsp
  refine ⟨fun hn => ⟨h.len, fun y hy => ?_, fun y hy hm => ?_, fun y d hd => Nat.le_succ_of_le (h.le y d hd)⟩, fun u d hu hd => ⟨by rw [List.length_set]; exact h.len, fun y hy => ?_, fun y hy hm => ?_, fun y e he => ?_⟩⟩
  · rw [ht] at hy
    rcases List.mem_append.1 hy with m | m
    · exact h.got y m
    · rw [List.mem_singleton] at m
      subst m
      rw [hn]; exact h.not y hxn hxk
  · rw [ht] at hm
    exact h.not y hy fun m => hm (List.mem_append_left _ m)
  · have hpx := (parN_pf hp hL hxn).2 u hu
    have huk : u ∈ O.take k := by
      rcases hup with e | e
      · omega
      · rw [hpx.1] at e; exact e
    have hxu : x ≠ u := fun e => hxk (by rw [e]; exact huk)
    have hxl : x < D.length := by rw [h.len]; exact hxn
    rw [ht] at hy
    rcases List.mem_append.1 hy with m | m
    · have hxy : x ≠ y := fun e => hxk (by rw [e]; exact m)
      rw [List.getElem?_set_ne hxy, h.got y m]
      cases hq : Sy.pf P y with
      | none => rfl
      | some u2 =>
        have hyn : y < n := hO.lt y (by rw [List.append_nil]; exact List.mem_of_mem_take m)
        have hpy := (parN_pf hp hL hyn).2 u2 hq
        have hx2 : x ≠ u2 := fun e => by
          obtain ⟨O1, O2, e1⟩ := List.append_of_mem m
          have h3 := hO.up O1 y (O2 ++ O.drop k) (by
            have := List.take_append_drop k O
            rw [e1] at this
            rw [List.append_assoc, List.cons_append] at this
            exact this.symm)
          rw [hpy.1] at h3
          rcases h3 with h3 | h3
          · omega
          · exact hxk (by rw [e, e1]; exact List.mem_append_left _ h3)
        simp only
        rw [List.getElem?_set_ne hx2]
    · rw [List.mem_singleton] at m
      subst m
      rw [List.getElem?_set_self hxl, hu]
      simp only
      rw [List.getElem?_set_ne hxu, hd]; rfl
  · rw [ht] at hm
    have hxy : x ≠ y := fun e => hm (List.mem_append_right _ (by rw [e]; exact List.mem_singleton.2 rfl))
    rw [List.getElem?_set_ne hxy]
    exact h.not y hy fun m => hm (List.mem_append_left _ m)
  · by_cases e1 : x = y
    · subst e1
      rw [List.getElem?_set_self (by rw [h.len]; exact hxn)] at he
      injection he with he
      have := h.le u d hd
      omega
    · rw [List.getElem?_set_ne e1] at he
      exact Nat.le_succ_of_le (h.le y e he)
/-- How many parents are above each. -/
def DepOf (P : List Int) (n : Nat) (D : List Nat) : Prop := D.length = n ∧ ∀ x, x < n → D[x]? = some (match Sy.pf P x with | none => 0 | some u => (D[u]?).getD 0 + 1)
set_option maxHeartbeats 16000000 in
theorem depths_any (l : List Ls) (A : Option Addr) (n c B : Nat) (w : World) (hS : RdSps w B A l) (hB : B ≤ w.heap.size) (hn : n = l.length) (hsm : n ≤ 100000) :
    Calls Try.prog 17 #[.slice A n c] w fun e w' => ∃ g P D, e = .returned (.slice (some ⟨g, 0, none⟩) n n) ∧ Sy.ParOf (namedM l) P ∧ DepOf P n D ∧ w'.ownsRow w.heap.size 3 1 (.slice (some ⟨g, 0, none⟩) n n) n (D.map encN) ∧ Below w.heap.size w w' := by
  have PA := Lib.hid (parents_any l A n c B w hS hB hn hsm)
  have HSs := Lib.hid hS
  have HBB := Lib.hid hB
  have HN := Lib.hid hn
  have hNP := namedM_plain l
  rw [← hn] at hNP
  have HNP := Lib.hid hNP
  clear hS hB hn hNP
  go_enter Try.func17, Try.ntmps17
  go_upto_region 2 with (go_at_call 13; (with_reducible refine PA.out.mono ?_); rintro ex w1 ⟨gp, P, rfl, hp1, ho1, hb1⟩; have HP1 := Lib.hid hp1; have HO1 := Lib.hid ho1; have HB1 := Lib.hid hb1; clear hp1 ho1 hb1)
  clear PA
  obtain ⟨W5, hrun, hown, hbl, hsz⟩ := make_intN n hsm w1
  have hz1 := HB1.out.size
  have BS := Lib.hid (order_any l A n c B W5 ((HSs.out.below (HB1.out.mono HBB.out)).below (hbl.mono (Nat.le_trans HBB.out hz1))) (by have := HBB.out; omega) HN.out hsm)
  have HOG := Lib.hid hown
  have HBL := Lib.hid hbl
  have HSZ := Lib.hid (And.intro hz1 hsz)
  clear hown hbl hsz hz1
  go_upto_region 4 with (go_at_call 15; (with_reducible refine BS.out.mono ?_); rintro ex w2 ⟨A9, c9, P9, M9, O, rfl, hp9, hby9, ho9, hos9, hown9, hb9⟩; have HO2 := Lib.hid hown9; have HB2 := Lib.hid hb9; have HOS9 := Lib.hid hos9; have HP9 := Lib.hid hp9; clear hp9 hby9 ho9 hos9 hown9 hb9)
  have HOS := Lib.hid (show Sy.Ost P n O [] from by rw [parOf_ext HP1.out HP9.out]; exact HOS9.out)
  have HPP := Lib.hid (show Sy.Plain P n from fun v z h => by
    by_cases hl : Sy.LR (Sy.pf (namedM l)) v
    · rw [(HP1.out.2 v).1 hl] at h; injection h with h; omega
    · rw [(HP1.out.2 v).2 hl] at h; exact HNP.out v z h)
  have HNL := Lib.hid (show (namedM l).length = n from by rw [namedM_len, ← HN.out])
  have HPL := Lib.hid (show P.length = n from by rw [HP1.out.1, HNL.out])
  obtain ⟨b0, hb0⟩ : ∃ b0, b0 = w.heap.size := ⟨_, rfl⟩
  have HB0 := Lib.hid hb0
  obtain ⟨gk, hgk⟩ : ∃ gk, gk = w1.heap.size := ⟨_, rfl⟩
  have hz := HSZ.out
  have hgp := own_baseY HO1.out
  have hs2 := HB2.out.size
  have HBW2 := Lib.hid (show Below b0 w w2 from by rw [hb0]; exact (HB1.out.trans (HBL.out.mono (by omega))).trans (HB2.out.mono (by omega)))
  have hwz : ((List.replicate n (0 : Int)).map encZ) = (List.replicate n 0).map encN := by rw [List.map_replicate, List.map_replicate]; rfl
  have hog := HOG.out
  rw [hwz] at hog
  have HOD2 := Lib.hid (own_mono (own_below hog HB2.out) (base' := b0) (by omega))
  have HOP2 := Lib.hid (own_mono (own_below (own_below HO1.out HBL.out) HB2.out) (base' := b0) (by omega))
  have HOO2 := Lib.hid (own_mono HO2.out (base' := b0) (by omega))
  have HG := Lib.hid (show gp ≠ gk ∧ b0 ≤ gk from by omega)
  have HGO := Lib.hid (show ∀ g, (Value.slice A9 n c9).ownBlock = some g → g ≠ gk from fun g hg => by have := own_block_ge HO2.out g hg; omega)
  rw [← hgk] at HOD2
  clear HO1 HO2 HOG HBL HB1 HB2 HSZ hz hgp hs2 BS hb0 hwz hog HP9 HOS9
  rw [← hgk]
  clear hgk hrun
  go_loopw [15] (fun vi wq => ∃ (k : Nat) (D : List Nat), vi = .int .i64 (k : Int) ∧ k ≤ n ∧ Hid (Dst P n O D k) ∧ Hid (wq.ownsRow b0 3 1 (.slice (some ⟨gk, 0, none⟩) n n) n (D.map encN)) ∧ Hid (wq.ownsRow b0 3 1 (.slice (some ⟨gp, 0, none⟩) n n) n (P.map encZ)) ∧ Hid (wq.ownsRow b0 3 1 (.slice A9 n c9) n (O.map encN)) ∧ Hid (Below b0 w wq)) (fun vi _ => n - (intOf vi).toNat)
  case atStart => exact ⟨0, _, rfl, Nat.zero_le _, Lib.hid (Dst.start P n O), HOD2, HOP2, HOO2, HBW2⟩
  clear HOD2 HOP2 HOO2 HBW2
  case round =>
    obtain ⟨k, D, rfl, hk, HD, HOD, HOP, HOO, HB⟩ := hrel
    by_cases hlt : k < n
    · obtain ⟨go, hgo, _, _⟩ := own_placeY HOO.out (by omega)
      subst hgo
      have hne : go ≠ gk := HGO.out go rfl
      have hol : O.length = n := own_lenN HOO.out
      obtain ⟨x, hx⟩ : ∃ x, O[k]? = some x := ⟨_, List.getElem?_eq_getElem (by omega)⟩
      have hxn : x < n := HOS.out.lt x (by rw [List.append_nil]; exact List.mem_of_getElem? hx)
      obtain ⟨o0, _⟩ := own_atN HOO.out hx
      have hst := HD.out.step HOS.out HPP.out HPL.out hx
      have hpf := parN_pf HPP.out HPL.out hxn
      have HLT := Lib.hid hlt
      have x0 : (0 : Int) ≤ (x : Int) := by omega
      have x1 : (x : Int) < (n : Int) := by omega
      have k0 : (0 : Int) ≤ (k : Int) := by omega
      have k1 : (k : Int) < (n : Int) := by omega
      obtain ⟨k9, hk9⟩ : ∃ k9, k9 = k + 1 := ⟨_, rfl⟩
      have HK9 := Lib.hid hk9
      cases hu : Sy.pf P x with
      | none =>
        have HD1 := Lib.hid (hst.1 hu)
        obtain ⟨p0, _⟩ := own_atZ HOP.out (hpf.1 hu).2
        clear hst hpf hu hx hxn hol hlt hk hk9
        go_wp2_with fail
        go_roundw
        case rel => exact ⟨k + 1, D, by go_num, HLT.out, HD1, HOD, HOP, HOO, HB⟩
        case measure => have := HLT.out; simp [intOf]; omega
      | some u =>
        obtain ⟨_, hun, hpu⟩ := hpf.2 u hu
        obtain ⟨d, hd⟩ : ∃ d, D[u]? = some d := ⟨_, List.getElem?_eq_getElem (by rw [HD.out.len]; exact hun)⟩
        have hdk := HD.out.le u d hd
        obtain ⟨d1, hd1⟩ : ∃ d1, d1 = d + 1 := ⟨_, rfl⟩
        have HD1 := Lib.hid (show Dst P n O (D.set x d1) (k + 1) from by rw [hd1]; exact hst.2 u d hu hd)
        obtain ⟨y, hy⟩ : ∃ y, D[x]? = some y := ⟨_, List.getElem?_eq_getElem (by rw [HD.out.len]; exact hxn)⟩
        obtain ⟨p0, _⟩ := own_atZ HOP.out hpu
        obtain ⟨q0, _⟩ := own_atN HOD.out hd
        obtain ⟨y0, y1⟩ := own_atN HOD.out hy
        have e1 : IntKind.i64.wrap ((d : Int) + 1) = (d1 : Int) := by rw [IntKind.wrap_i64] <;> omega
        have b1 : ((u : Int) == -1) = false := beq_eq_false_iff_ne.2 (by omega)
        have u0 : (0 : Int) ≤ (u : Int) := by omega
        have u1 : (u : Int) < (n : Int) := by omega
        have HOD2 := Lib.hid (own_setN HOD.out hxn d1)
        have HOP2 := Lib.hid (own_elseZ HOP.out HOD.out HG.out.1 hxn (.int .i64 (d1 : Int)))
        have HOO2 := Lib.hid (own_elseZ HOO.out HOD.out hne hxn (.int .i64 (d1 : Int)))
        have HB2 := Lib.hid (HB.out.setCell (p := ⟨gk, x, none⟩) HG.out.2 (.int .i64 (d1 : Int)))
        clear hst hpf hu hx hxn hol hlt hk hk9 hun hpu hd hdk hd1 hy
        go_wp2_with fail
        go_roundw
        case rel => exact ⟨k + 1, D.set x d1, by go_num, HLT.out, HD1, HOD2, HOP2, HOO2, HB2⟩
        case measure => have := HLT.out; simp [intOf]; omega
    · obtain rfl : k = n := by omega
      go_wp2_with fail
      go_ret
      have hol : O.length = k := by have := HOO.out.1; rw [List.length_map] at this; omega
      have hall := HOS.out.fin HP1.out HNL.out HPP.out HPL.out
      exact ⟨gk, P, D, rfl, HP1.out, ⟨HD.out.len, fun x hx => HD.out.got x (by rw [List.take_of_length_le (by omega)]; exact (hall x).2 hx)⟩, by rw [← HB0.out]; exact HOD.out, by rw [← HB0.out]; exact HB.out⟩
end Go.Proofs.Ytgldjjmpjaegfaa
