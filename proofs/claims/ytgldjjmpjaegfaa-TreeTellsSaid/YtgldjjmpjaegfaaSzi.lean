/- The document's below, walked. -/
import Derived.Test.YtgldjjmpjaegfaaSzh
namespace Go.Proofs.Ytgldjjmpjaegfaa
open Go.RowKit Go.Maps
set_option linter.unusedVariables false
set_option linter.unusedSimpArgs false
set_option maxRecDepth 100000

theorem KO.app {w : World} {b i j m c : Nat} {C : List Value} {K : List (List Nat)} {vi : Value} {A : Option Addr} {Li Lj : List Nat} (ty : TypeId) (h : KO w b C K) (hi : C[i]? = some vi) (hLi : K[i]? = some Li) (hj : C[j]? = some (.slice A m c)) (hLj : K[j]? = some Lj) (hm : m = Lj.length) (hn : Li.length + Lj.length ≤ 1000000) (hb : b ≤ w.heap.size) :
    ∃ v' w', (Builtin.append_ #[26, 26] ty #[vi, .slice A m c]).run Try.prog w = .ok v' w' ∧ (KO w' b (C.set i v') (K.set i (Li ++ Lj)) ∧ Grew w w' vi v' ∧ ∃ A' c', v' = .slice A' (Li.length + Lj.length) c') := by
  obtain ⟨h1, h2⟩ := h.own i vi Li hi hLi
  obtain ⟨h3, h4⟩ := h.own j _ Lj hj hLj
  obtain ⟨A9, c9, e9, _, hrd⟩ := own_rd h4
  injection e9 with e9 e10 e11
  subst e9
  obtain ⟨v', w', r1, r2, r3⟩ := appIs (ty := ty) (m := m) (c := c) h2 hrd hm (by omega) hb
  rw [← List.map_append, hm] at r2
  obtain ⟨A5, c5, e5, _, _⟩ := own_rd r2
  exact ⟨v', w', r1, h.put hi hLi r3 (by rw [List.length_append]) r2, r3, A5, c5, e5⟩
theorem KO.ge {w : World} {b i : Nat} {C : List Value} {K : List (List Nat)} {v : Value} {L : List Nat} (h : KO w b C K) (hi : C[i]? = some v) (hL : K[i]? = some L) : ∀ k, v.ownBlock = some k → b ≤ k := own_block_ge (h.own i v L hi hL).2
theorem KO.one {w : World} {b n c : Nat} {A : Option Addr} {L : List Nat} (h : w.ownsRow b 3 1 (.slice A n c) n (L.map encN)) (hn : n = L.length) : KO w b [.slice A n c] [L] := by
  subst hn
  refine ⟨rfl, fun j v L' hv hL => ?_, fun j j' v v' hne hv hv' => ?_⟩
  · cases j with
    | zero => injection hv with hv; injection hL with hL; subst hv hL; exact ⟨⟨A, c, rfl⟩, h⟩
    | succ j => cases hv
  · cases j with
    | zero => cases j' with
      | zero => exact absurd rfl hne
      | succ j' => cases hv'
    | succ j => cases hv
def hdZ (z : Int) : List Nat := if z = -1 then [] else [z.toNat]
/-- What the document's below hands back. -/
def BelowOf (Q : List Nat) (g : Nat → Nat) (w : World) (e : Ending) (w' : World) : Prop := ∃ v1 v2, e = .returned (.tuple #[v1, v2]) ∧ KO w' w.heap.size [v1, v2] [Q, Q.map g] ∧ Below w.heap.size w w'
set_option maxHeartbeats 16000000 in
theorem refbelow_any (l : List Ls) (lA : Option Addr) (sn sc B : Nat) (P : List Int) (pA : Option Addr) (pc : Nat) (M O0 : List Nat) (hF : Sy.Fo l sn P M O0) (g : Nat → Nat) (hg : ∀ x, g x ≤ 1000) (hsm : sn ≤ 1000) :
    ∀ (m : Nat) (z : Int) (O' : List Nat) (deep : Nat) (w : World), RdSps w B lA l → Rd w B pA (P.map encZ) → B ≤ w.heap.size → (z = -1 ∨ (0 ≤ z ∧ z < sn)) → Sy.Run (fun x => M.filter fun q => parN P sn q == x) (M.filter fun q => parN P sn q == Sy.ofZ sn z) O' → O'.length ≤ m → O'.length ≤ 1000 → deep ≤ 1000 → (z = -1 → ∀ y ∈ (M.filter fun q => parN P sn q == Sy.ofZ sn z), g y = deep) → (0 ≤ z → g z.toNat = deep) → (∀ x ∈ hdZ z ++ O', ∀ y ∈ (M.filter fun q => parN P sn q == x), g y = g x + 1) →
    Calls Try.prog 34 #[.slice lA sn sc, .slice pA sn pc, .int .i64 z, .int .i64 (deep : Int)] w (BelowOf (hdZ z ++ O') g w) := by
  have HF := Lib.hid hF
  have HG := Lib.hid hg
  clear hF hg
  intro m
  induction m using Nat.strongRecOn with
  | _ m IH =>
  intro z O' deep w hS hP hB hz hrun hlen hlen2 hdeep hg1 hg2 hgk
  have HIH := Lib.hid IH
  obtain ⟨b0, hb0⟩ : ∃ b0, b0 = w.heap.size := ⟨_, rfl⟩
  have HSQ := Lib.hid (show ∀ W, Below b0 w W → RdSps W B lA l from fun W h => hS.below (h.mono (by rw [hb0]; exact hB)))
  have HPQ := Lib.hid (show ∀ W, Below b0 w W → Rd W B pA (P.map encZ) from fun W h => hP.below (h.mono (by rw [hb0]; exact hB)))
  have HSB := Lib.hid (show ∀ W, Below b0 w W → b0 ≤ W.heap.size from fun W h => by have := h.size; omega)
  have HBB := Lib.hid (show ∀ W, Below b0 w W → B ≤ W.heap.size from fun W h => by have := h.size; omega)
  have HB0 := Lib.hid hb0
  have HKM := Lib.hid (Sy.KidS.of HF.out.ln HF.out.bys HF.out.plain HF.out.pl hz)
  have HRUN := Lib.hid hrun
  have HLEN := Lib.hid (And.intro hlen hlen2)
  have HGK := Lib.hid hgk
  have KC := fun (W : World) (h : Below b0 w W) => Lib.hid (refkids_any l lA sn sc B P pA pc z W (HSQ.out W h) (HPQ.out W h) (HBB.out W h) HF.out.ln HF.out.pl hsm)
  obtain ⟨Tk, hTk⟩ : ∃ Tk, Tk = M.filter fun q => parN P sn q == Sy.ofZ sn z := ⟨_, rfl⟩
  have HTK := Lib.hid hTk
  have HDP := Lib.hid hdeep
  have HNV := Lib.hid (show ∀ (hd : List Nat) (d1 : Nat), (∀ y ∈ Tk, g y = d1) → d1 ≤ 1001 → True from fun _ _ _ _ => trivial)
  clear IH hS hP hB hrun hlen hlen2 hgk hb0 HNV
  rcases hz with rfl | hz
  · have HD1 := Lib.hid (show (∀ y ∈ Tk, g y = deep) ∧ deep ≤ 1001 from ⟨fun y hy => hg1 rfl y (by rw [← hTk]; exact hy), by omega⟩)
    have hhd : hdZ (-1) = [] := by unfold hdZ; rw [if_pos rfl]
    have HHD := Lib.hid (show hdZ (-1) = [] from hhd)
    have d0 : decide ((0 : Int) ≤ (-1 : Int)) = false := by decide
    clear hg1 hg2 hTk hhd hdeep
    go_enter Try.func34, Try.ntmps34
    go_upto_region 6 with fail
    clear d0
    have HKO : Hid (KO w b0 [.slice none 0 0, .slice none 0 0] [hdZ (-1), (hdZ (-1)).map g]) := Lib.hid (KO.two _ _ HHD.out (by rw [HHD.out]; rfl))
    have HB1 : Hid (Below b0 w w) := Lib.hid (Below.refl _ _)
    have HDL : Hid (deep + 0 = deep) := Lib.hid rfl
    go_upto_region 7 with (go_at_call 39; (with_reducible refine (KC _ HB1.out).out.mono ?_); rintro ex w5 ⟨A5, c5, K, rfl, hk5, ho5, hb5⟩; have HK5 := Lib.hid hk5; have HO5 := Lib.hid ho5; have HB5 := Lib.hid hb5; clear hk5 ho5 hb5)
    clear KC
    obtain rfl : K = Tk := by rw [HTK.out]; exact HK5.out.eq HKM.out
    have HKT : Hid (KO w5 b0 [.slice none 0 0, .slice none 0 0, .slice A5 K.length c5] [hdZ (-1), (hdZ (-1)).map g, K]) := Lib.hid (HKO.out.join HB5.out (show KO w5 w.heap.size [.slice A5 K.length c5] [K] from KO.one HO5.out rfl) (HSB.out _ HB1.out))
    have HB6 := Lib.hid (HB1.out.trans (HB5.out.mono (HSB.out _ HB1.out)))
    have HKL := Lib.hid (show ∀ t ∈ K, t < sn from fun t ht => ((HK5.out.mem t).1 ht).1)
    have HR0 : Hid (Sy.Run (fun x => M.filter fun q => parN P sn q == x) K O') := Lib.hid (by rw [HTK.out]; exact HRUN.out)
    obtain ⟨tn, htn⟩ : ∃ tn, tn = K.length := ⟨_, rfl⟩
    rw [← htn] at HKT ⊢
    have HTN := Lib.hid htn
    have htl : K.length ≤ sn := HK5.out.len
    have htl2 : tn ≤ 1000 := by omega
    clear HKO HO5 HB5 HK5 HRUN HTK htl htn HB1
    go_upto_region 8 with fail
    go_loopw [10, 11, 13] (fun v1 v2 vj wq => ∃ (j : Nat) (O1 O2 : List Nat) (n1 : Nat) (A1 A2 : Option Addr) (c1 c2 : Nat), v1 = .slice A1 n1 c1 ∧ v2 = .slice A2 n1 c2 ∧ vj = .int .i64 (j : Int) ∧ Hid (j ≤ tn) ∧ Hid (n1 = (hdZ (-1) ++ O1).length) ∧ Hid (O' = O1 ++ O2) ∧ Hid (Sy.Run (fun x => M.filter fun q => parN P sn q == x) (K.drop j) O2) ∧ Hid (KO wq b0 [.slice A1 n1 c1, .slice A2 n1 c2, .slice A5 tn c5] [hdZ (-1) ++ O1, (hdZ (-1) ++ O1).map g, K]) ∧ Hid (Below b0 w wq)) (fun _ _ vj _ => tn - (intOf vj).toNat)
    case atStart => exact ⟨0, [], O', _, _, _, _, _, rfl, rfl, rfl, Lib.hid (Nat.zero_le _), Lib.hid (by rw [List.append_nil, HHD.out]; rfl), Lib.hid rfl, HR0, by rw [List.append_nil]; exact HKT, HB6⟩
    clear HKT HB6 HR0
    case round =>
      obtain ⟨j, O1, O2, n1, A1, A2, c1, c2, rfl, rfl, rfl, HJ, HN1, HOO, HR, HKO, HB⟩ := hrel
      by_cases hlt : j < tn
      · as_aux_lemma =>
        have d0 : decide ((j : Int) < (tn : Int)) = true := decide_eq_true (by omega)
        have d1' : decide (j < tn) = true := decide_eq_true hlt
        have i0 : (0 : Int) ≤ (j : Int) := by omega
        have i1 : (j : Int) < (tn : Int) := by omega
        obtain ⟨j9, hj9⟩ : ∃ j9, j9 = j + 1 := ⟨_, rfl⟩
        have e1 : IntKind.i64.wrap ((j : Int) + 1) = (j9 : Int) := by rw [IntKind.wrap_i64] <;> omega
        obtain ⟨t, ht⟩ : ∃ t, K[j]? = some t := ⟨_, List.getElem?_eq_getElem (by rw [← HTN.out]; exact hlt)⟩
        have htn := HKL.out t (List.mem_of_getElem? ht)
        have hoT := (HKO.out.own 2 _ _ rfl rfl).2
        rw [← HTN.out] at hoT
        obtain ⟨gT, rfl, _, _, _, _, _, _⟩ := own_parts hoT (by omega)
        obtain ⟨p0, _⟩ := own_atN hoT ht
        have hdrop : K.drop j = t :: K.drop (j + 1) := by
          have h := List.getElem?_eq_some_iff.1 ht
          rw [List.drop_eq_getElem_cons h.1, h.2]
        have hR := HR.out
        rw [hdrop] at hR
        obtain ⟨Ot, O3, hO23, hRt, hR3⟩ := hR.split [t] (K.drop (j + 1)) rfl
        have hRt2 : ∃ Ot', Ot = t :: Ot' ∧ Sy.Run (fun x => M.filter fun q => parN P sn q == x) (M.filter fun q => parN P sn q == t) Ot' := by
          cases hRt with
          | cons h => rw [List.append_nil] at h; exact ⟨_, rfl, h⟩
        obtain ⟨Ot', rfl, hRt3⟩ := hRt2
        have hof : Sy.ofZ sn (t : Int) = t := by unfold Sy.ofZ; rw [if_neg (by omega)]; rfl
        have hht : hdZ (t : Int) = [t] := by unfold hdZ; rw [if_neg (by omega)]; rfl
        have hlen := HLEN.out
        have hOO := HOO.out
        have hll : O'.length = O1.length + (Ot'.length + 1 + O3.length) := by rw [hOO, hO23]; simp; omega
        have hn1 := HN1.out
        have htk : t ∈ K := List.mem_of_getElem? ht
        have IHC := Lib.hid (HIH.out Ot'.length (by omega) (t : Int) Ot' deep wr (HSQ.out _ HB.out) (HPQ.out _ HB.out) (HBB.out _ HB.out) (.inr ⟨by omega, by omega⟩) (by rw [hof]; exact hRt3) (Nat.le_refl _) (by omega) (by have := HG.out t; rw [HD1.out.1 t htk] at this; exact this) (fun e => by omega) (fun _ => HD1.out.1 t htk) (fun x hx y hy => HGK.out x (by
          rw [hht] at hx
          rw [hOO, hO23]
          refine List.mem_append_right _ (List.mem_append_right _ (List.mem_append_left _ ?_))
          simpa using hx) y hy))
        rw [hht, show [t] ++ Ot' = t :: Ot' from rfl] at IHC
        have HN2 := Lib.hid (show (hdZ (-1) ++ O1).length + (Ot'.length + 1) ≤ 100000 from by
          have hh : (hdZ (-1)).length ≤ 1 := by rw [HHD.out]; simp
          rw [List.length_append]; omega)
        have HO23 := Lib.hid hO23
        have HR3 := Lib.hid hR3
        have HJ9 := Lib.hid hj9
        have HLT := Lib.hid hlt
        clear hj9 hlt ht htn hoT hdrop hR hO23 hRt hR3 hRt3 hof hht hlen hOO hll hn1 htk
        go_upto_region 11 with (go_at_call 34; (with_reducible refine IHC.out.mono ?_); rintro ex w7 ⟨x7, y7, rfl, hk7, hb7⟩; have HK7 := Lib.hid hk7; have HB7 := Lib.hid hb7; clear hk7 hb7)
        clear IHC d0 d1'
        have HKJ : Hid (KO w7 b0 [.slice A1 n1 c1, .slice A2 n1 c2, .slice (some ⟨gT, 0, none⟩) tn c5, x7, y7] [hdZ (-1) ++ O1, (hdZ (-1) ++ O1).map g, K, t :: Ot', (t :: Ot').map g]) := Lib.hid (HKO.out.join HB7.out HK7.out (HSB.out _ HB.out))
        have HB8 := Lib.hid (HB.out.trans (HB7.out.mono (HSB.out _ HB.out)))
        obtain ⟨⟨A7, c7, rfl⟩, _⟩ := HK7.out.own 0 x7 _ rfl rfl
        obtain ⟨⟨A8, c8, rfl⟩, _⟩ := HK7.out.own 1 y7 _ rfl rfl
        obtain ⟨nt, hnt⟩ : ∃ nt, nt = (t :: Ot').length := ⟨_, rfl⟩
        have hnt2 : ((t :: Ot').map g).length = nt := by rw [List.length_map, hnt]
        rw [hnt2] at HKJ ⊢
        rw [← hnt] at HKJ ⊢
        have HNT := Lib.hid hnt
        have hntb : nt ≤ 100000 := by have := HN2.out; rw [hnt, List.length_cons]; omega
        have AP1 := Lib.hid (fun ty => KO.app ty HKJ.out (i := 0) (j := 3) rfl rfl rfl rfl (by rw [HNT.out]) (by have := HN2.out; rw [List.length_cons]; omega) (HSB.out _ HB8.out))
        clear hnt hnt2 HK7 HB7 HKO HB
        go_upto_region 12 with (at_builtin; (refine wpList_app rfl (.tmp 49) (.tmp 50) _ _ rfl rfl rfl (AP1.out _) ?_); rintro v9 w9 ⟨hk9, hg9, A9, c9, rfl⟩; have HK9 := Lib.hid hk9; have HG9 := Lib.hid hg9; clear hk9 hg9)
        have HB9 := Lib.hid (HG9.out.below HB8.out (HSB.out _ HB8.out) (KO.ge HKJ.out (i := 0) rfl rfl))
        clear AP1 HKJ HG9 HB8
        have AP2 := Lib.hid (fun ty => KO.app ty HK9.out (i := 1) (j := 4) rfl rfl rfl rfl (by rw [List.length_map, HNT.out]) (by have := HN2.out; rw [List.length_map, List.length_map, List.length_cons]; omega) (HSB.out _ HB9.out))
        go_wp2_with (at_builtin; (refine wpList_app rfl (.tmp 52) (.tmp 53) _ _ rfl rfl rfl (AP2.out _) ?_); rintro v10 w10 ⟨hk10, hg10, A10, c10, rfl⟩; have HK10 := Lib.hid hk10; have HG10 := Lib.hid hg10; clear hk10 hg10)
        have HB10 := Lib.hid (HG10.out.below HB9.out (HSB.out _ HB9.out) (KO.ge HK9.out (i := 1) rfl rfl))
        clear AP2 HK9 HG10 HB9
        have HKF : Hid (KO w10 b0 [.slice A9 ((hdZ (-1) ++ O1).length + (t :: Ot').length) c9, .slice A10 (((hdZ (-1) ++ O1).map g).length + ((t :: Ot').map g).length) c10, .slice (some ⟨gT, 0, none⟩) tn c5] [hdZ (-1) ++ (O1 ++ t :: Ot'), (hdZ (-1) ++ (O1 ++ t :: Ot')).map g, K]) := Lib.hid (by
          have h : KO w10 b0 ([.slice A9 ((hdZ (-1) ++ O1).length + (t :: Ot').length) c9, .slice A10 (((hdZ (-1) ++ O1).map g).length + ((t :: Ot').map g).length) c10, .slice (some ⟨gT, 0, none⟩) tn c5] ++ [.slice A7 nt c7, .slice A8 nt c8]) ([(hdZ (-1) ++ O1) ++ (t :: Ot'), (hdZ (-1) ++ O1).map g ++ (t :: Ot').map g, K] ++ [t :: Ot', (t :: Ot').map g]) := HK10.out
          have h2 := h.left rfl
          rw [← List.map_append, List.append_assoc] at h2
          exact h2)
        clear HK10
        have e2 : (hdZ (-1) ++ O1).length + (t :: Ot').length = (hdZ (-1)).length + O1.length + (Ot'.length + 1) := by rw [List.length_append, List.length_cons]
        have e3 : ((hdZ (-1) ++ O1).map g).length + ((t :: Ot').map g).length = (hdZ (-1)).length + O1.length + (Ot'.length + 1) := by rw [List.length_map, List.length_map, List.length_append, List.length_cons]
        rw [e2, e3] at HKF
        go_roundw
        case rel => exact ⟨j9, O1 ++ t :: Ot', O3, _, A9, A10, c9, c10, rfl, rfl, by first | rfl | go_num, Lib.hid (by have := HLT.out; have := HJ9.out; omega), Lib.hid (by simp only [List.length_append, List.length_cons]; omega), Lib.hid (by rw [HOO.out, HO23.out, List.append_assoc]), by rw [HJ9.out]; exact HR3, HKF, HB10⟩
        case measure => have := HLT.out; have := HJ9.out; simp [intOf]; omega
      · as_aux_lemma =>
        obtain rfl : tn = j := by have := HJ.out; omega
        have d0 : decide ((tn : Int) < (tn : Int)) = false := decide_eq_false (by omega)
        have d1' : decide (tn < tn) = false := decide_eq_false (by omega)
        have hO2 : O2 = [] := by
          have h := HR.out
          rw [List.drop_eq_nil_of_le (by rw [← HTN.out]; exact Nat.le_refl _)] at h
          cases h; rfl
        have HOE : Hid (O1 = O') := Lib.hid (by rw [HOO.out, hO2, List.append_nil])
        clear hlt hO2
        go_wp2_with fail
        go_ret2
        refine ⟨_, _, rfl, ?_, by rw [← HB0.out]; exact HB.out⟩
        rw [← HOE.out, ← HB0.out]
        exact KO.left (C2 := [.slice A5 tn c5]) (K2 := [K]) HKO.out rfl
  · obtain ⟨x, rfl⟩ : ∃ x : Nat, z = (x : Int) := ⟨z.toNat, by omega⟩
    have hhd : hdZ (x : Int) = [x] := by unfold hdZ; rw [if_neg (by omega)]; rfl
    have hx1 : sn = sn := rfl
    have HHD := Lib.hid hhd
    have hof : Sy.ofZ sn (x : Int) = x := by unfold Sy.ofZ; rw [if_neg (by omega)]; rfl
    obtain ⟨d1, hd1⟩ : ∃ d1, d1 = deep + 1 := ⟨_, rfl⟩
    have HD1 := Lib.hid (show (∀ y ∈ Tk, g y = d1) ∧ d1 ≤ 1001 from ⟨fun y hy => by
      rw [HGK.out x (by rw [hhd]; exact List.mem_append_left _ List.mem_cons_self) y (by rw [hTk, hof] at hy; exact hy), hd1]
      have h := hg2 (by omega)
      rw [show ((x : Int)).toNat = x from rfl] at h
      rw [h], by omega⟩)
    have hgx : g x = deep := by
      have h := hg2 (by omega)
      rw [show ((x : Int)).toNat = x from rfl] at h
      exact h
    have e0 : IntKind.i64.wrap ((deep : Int) + 1) = (d1 : Int) := by rw [IntKind.wrap_i64] <;> omega
    have d0 : decide ((0 : Int) ≤ (x : Int)) = true := decide_eq_true (by omega)
    have AP1 := Lib.hid (fun ty => appI1 (ty := ty) (World.ownsRow_nil w b0 3 1) (x : Int) #[.int .i64 (x : Int)] rfl (by omega) (HSB.out w (Below.refl _ _)))
    have HGX := Lib.hid hgx
    clear hg1 hg2 hTk hhd hof hd1 hgx hz hx1 hdeep
    go_enter Try.func34, Try.ntmps34
    go_upto_region 4 with (at_builtin; (refine wpList_app rfl (.tmp 18) (.tmp 20) _ _ rfl rfl rfl (AP1.out _) ?_); rintro v3 w3 ⟨ho3, hg3⟩; have HO3 := Lib.hid ho3; have HG3 := Lib.hid hg3; clear ho3 hg3)
    have HB3 := Lib.hid (HG3.out.below (Below.refl b0 w) (HSB.out w (Below.refl _ _)) (by intro k hk; simp [Value.ownBlock] at hk))
    obtain ⟨A3, c3, rfl, _, _⟩ := own_rd HO3.out
    have AP2 := Lib.hid (fun ty => appI1 (ty := ty) (World.ownsRow_nil w3 w3.heap.size 3 1) (deep : Int) #[.int .i64 (deep : Int)] rfl (by omega) (Nat.le_refl _))
    clear AP1
    go_upto_region 6 with (at_builtin; (refine wpList_app rfl (.tmp 22) (.tmp 24) _ _ rfl rfl rfl (AP2.out _) ?_); rintro v4 w4 ⟨ho4, hg4⟩; have HO4 := Lib.hid ho4; have HG4 := Lib.hid hg4; clear ho4 hg4)
    obtain ⟨A4, c4, rfl, _, _⟩ := own_rd HO4.out
    have HKO : Hid (KO w4 b0 [.slice A3 1 c3, .slice A4 1 c4] [hdZ (x : Int), (hdZ (x : Int)).map g]) := Lib.hid (by
      rw [HHD.out, show [x].map g = [deep] by rw [List.map_singleton, HGX.out]]
      have k1 : KO w3 b0 [.slice A3 1 c3] [[x]] := KO.one HO3.out rfl
      have k2 : KO w4 w3.heap.size [.slice A4 1 c4] [[deep]] := KO.one HO4.out rfl
      exact k1.join HG4.out.new k2 (HSB.out _ HB3.out))
    have HB1 := Lib.hid (HB3.out.trans (HG4.out.new.mono (HSB.out _ HB3.out)))
    clear AP2 HO3 HG3 HO4 HG4 d0 e0
    go_upto_region 7 with (go_at_call 39; (with_reducible refine (KC _ HB1.out).out.mono ?_); rintro ex w5 ⟨A5, c5, K, rfl, hk5, ho5, hb5⟩; have HK5 := Lib.hid hk5; have HO5 := Lib.hid ho5; have HB5 := Lib.hid hb5; clear hk5 ho5 hb5)
    clear KC
    obtain rfl : K = Tk := by rw [HTK.out]; exact HK5.out.eq HKM.out
    have HKT : Hid (KO w5 b0 [.slice A3 1 c3, .slice A4 1 c4, .slice A5 K.length c5] [hdZ (x : Int), (hdZ (x : Int)).map g, K]) := Lib.hid (HKO.out.join HB5.out (show KO w5 w4.heap.size [.slice A5 K.length c5] [K] from KO.one HO5.out rfl) (HSB.out _ HB1.out))
    have HB6 := Lib.hid (HB1.out.trans (HB5.out.mono (HSB.out _ HB1.out)))
    have HKL := Lib.hid (show ∀ t ∈ K, t < sn from fun t ht => ((HK5.out.mem t).1 ht).1)
    have HR0 : Hid (Sy.Run (fun x => M.filter fun q => parN P sn q == x) K O') := Lib.hid (by rw [HTK.out]; exact HRUN.out)
    obtain ⟨tn, htn⟩ : ∃ tn, tn = K.length := ⟨_, rfl⟩
    rw [← htn] at HKT ⊢
    have HTN := Lib.hid htn
    have htl : K.length ≤ sn := HK5.out.len
    have htl2 : tn ≤ 1000 := by omega
    clear HKO HO5 HB5 HK5 HRUN HTK htl htn HB1
    go_upto_region 8 with fail
    go_loopw [10, 11, 13] (fun v1 v2 vj wq => ∃ (j : Nat) (O1 O2 : List Nat) (n1 : Nat) (A1 A2 : Option Addr) (c1 c2 : Nat), v1 = .slice A1 n1 c1 ∧ v2 = .slice A2 n1 c2 ∧ vj = .int .i64 (j : Int) ∧ Hid (j ≤ tn) ∧ Hid (n1 = (hdZ (x : Int) ++ O1).length) ∧ Hid (O' = O1 ++ O2) ∧ Hid (Sy.Run (fun x => M.filter fun q => parN P sn q == x) (K.drop j) O2) ∧ Hid (KO wq b0 [.slice A1 n1 c1, .slice A2 n1 c2, .slice A5 tn c5] [hdZ (x : Int) ++ O1, (hdZ (x : Int) ++ O1).map g, K]) ∧ Hid (Below b0 w wq)) (fun _ _ vj _ => tn - (intOf vj).toNat)
    case atStart => exact ⟨0, [], O', _, _, _, _, _, rfl, rfl, rfl, Lib.hid (Nat.zero_le _), Lib.hid (by rw [List.append_nil, HHD.out]; rfl), Lib.hid rfl, HR0, by rw [List.append_nil]; exact HKT, HB6⟩
    clear HKT HB6 HR0
    case round =>
      obtain ⟨j, O1, O2, n1, A1, A2, c1, c2, rfl, rfl, rfl, HJ, HN1, HOO, HR, HKO, HB⟩ := hrel
      by_cases hlt : j < tn
      · as_aux_lemma =>
        have d0 : decide ((j : Int) < (tn : Int)) = true := decide_eq_true (by omega)
        have d1' : decide (j < tn) = true := decide_eq_true hlt
        have i0 : (0 : Int) ≤ (j : Int) := by omega
        have i1 : (j : Int) < (tn : Int) := by omega
        obtain ⟨j9, hj9⟩ : ∃ j9, j9 = j + 1 := ⟨_, rfl⟩
        have e1 : IntKind.i64.wrap ((j : Int) + 1) = (j9 : Int) := by rw [IntKind.wrap_i64] <;> omega
        obtain ⟨t, ht⟩ : ∃ t, K[j]? = some t := ⟨_, List.getElem?_eq_getElem (by rw [← HTN.out]; exact hlt)⟩
        have htn := HKL.out t (List.mem_of_getElem? ht)
        have hoT := (HKO.out.own 2 _ _ rfl rfl).2
        rw [← HTN.out] at hoT
        obtain ⟨gT, rfl, _, _, _, _, _, _⟩ := own_parts hoT (by omega)
        obtain ⟨p0, _⟩ := own_atN hoT ht
        have hdrop : K.drop j = t :: K.drop (j + 1) := by
          have h := List.getElem?_eq_some_iff.1 ht
          rw [List.drop_eq_getElem_cons h.1, h.2]
        have hR := HR.out
        rw [hdrop] at hR
        obtain ⟨Ot, O3, hO23, hRt, hR3⟩ := hR.split [t] (K.drop (j + 1)) rfl
        have hRt2 : ∃ Ot', Ot = t :: Ot' ∧ Sy.Run (fun x => M.filter fun q => parN P sn q == x) (M.filter fun q => parN P sn q == t) Ot' := by
          cases hRt with
          | cons h => rw [List.append_nil] at h; exact ⟨_, rfl, h⟩
        obtain ⟨Ot', rfl, hRt3⟩ := hRt2
        have hof : Sy.ofZ sn (t : Int) = t := by unfold Sy.ofZ; rw [if_neg (by omega)]; rfl
        have hht : hdZ (t : Int) = [t] := by unfold hdZ; rw [if_neg (by omega)]; rfl
        have hlen := HLEN.out
        have hOO := HOO.out
        have hll : O'.length = O1.length + (Ot'.length + 1 + O3.length) := by rw [hOO, hO23]; simp; omega
        have hn1 := HN1.out
        have htk : t ∈ K := List.mem_of_getElem? ht
        have IHC := Lib.hid (HIH.out Ot'.length (by omega) (t : Int) Ot' d1 wr (HSQ.out _ HB.out) (HPQ.out _ HB.out) (HBB.out _ HB.out) (.inr ⟨by omega, by omega⟩) (by rw [hof]; exact hRt3) (Nat.le_refl _) (by omega) (by have := HG.out t; rw [HD1.out.1 t htk] at this; exact this) (fun e => by omega) (fun _ => HD1.out.1 t htk) (fun x hx y hy => HGK.out x (by
          rw [hht] at hx
          rw [hOO, hO23]
          refine List.mem_append_right _ (List.mem_append_right _ (List.mem_append_left _ ?_))
          simpa using hx) y hy))
        rw [hht, show [t] ++ Ot' = t :: Ot' from rfl] at IHC
        have HN2 := Lib.hid (show (hdZ (x : Int) ++ O1).length + (Ot'.length + 1) ≤ 100000 from by
          have hh : (hdZ (x : Int)).length ≤ 1 := by rw [HHD.out]; simp
          rw [List.length_append]; omega)
        have HO23 := Lib.hid hO23
        have HR3 := Lib.hid hR3
        have HJ9 := Lib.hid hj9
        have HLT := Lib.hid hlt
        clear hj9 hlt ht htn hoT hdrop hR hO23 hRt hR3 hRt3 hof hht hlen hOO hll hn1 htk
        go_upto_region 11 with (go_at_call 34; (with_reducible refine IHC.out.mono ?_); rintro ex w7 ⟨x7, y7, rfl, hk7, hb7⟩; have HK7 := Lib.hid hk7; have HB7 := Lib.hid hb7; clear hk7 hb7)
        clear IHC d0 d1'
        have HKJ : Hid (KO w7 b0 [.slice A1 n1 c1, .slice A2 n1 c2, .slice (some ⟨gT, 0, none⟩) tn c5, x7, y7] [hdZ (x : Int) ++ O1, (hdZ (x : Int) ++ O1).map g, K, t :: Ot', (t :: Ot').map g]) := Lib.hid (HKO.out.join HB7.out HK7.out (HSB.out _ HB.out))
        have HB8 := Lib.hid (HB.out.trans (HB7.out.mono (HSB.out _ HB.out)))
        obtain ⟨⟨A7, c7, rfl⟩, _⟩ := HK7.out.own 0 x7 _ rfl rfl
        obtain ⟨⟨A8, c8, rfl⟩, _⟩ := HK7.out.own 1 y7 _ rfl rfl
        obtain ⟨nt, hnt⟩ : ∃ nt, nt = (t :: Ot').length := ⟨_, rfl⟩
        have hnt2 : ((t :: Ot').map g).length = nt := by rw [List.length_map, hnt]
        rw [hnt2] at HKJ ⊢
        rw [← hnt] at HKJ ⊢
        have HNT := Lib.hid hnt
        have hntb : nt ≤ 100000 := by have := HN2.out; rw [hnt, List.length_cons]; omega
        have AP1 := Lib.hid (fun ty => KO.app ty HKJ.out (i := 0) (j := 3) rfl rfl rfl rfl (by rw [HNT.out]) (by have := HN2.out; rw [List.length_cons]; omega) (HSB.out _ HB8.out))
        clear hnt hnt2 HK7 HB7 HKO HB
        go_upto_region 12 with (at_builtin; (refine wpList_app rfl (.tmp 49) (.tmp 50) _ _ rfl rfl rfl (AP1.out _) ?_); rintro v9 w9 ⟨hk9, hg9, A9, c9, rfl⟩; have HK9 := Lib.hid hk9; have HG9 := Lib.hid hg9; clear hk9 hg9)
        have HB9 := Lib.hid (HG9.out.below HB8.out (HSB.out _ HB8.out) (KO.ge HKJ.out (i := 0) rfl rfl))
        clear AP1 HKJ HG9 HB8
        have AP2 := Lib.hid (fun ty => KO.app ty HK9.out (i := 1) (j := 4) rfl rfl rfl rfl (by rw [List.length_map, HNT.out]) (by have := HN2.out; rw [List.length_map, List.length_map, List.length_cons]; omega) (HSB.out _ HB9.out))
        go_wp2_with (at_builtin; (refine wpList_app rfl (.tmp 52) (.tmp 53) _ _ rfl rfl rfl (AP2.out _) ?_); rintro v10 w10 ⟨hk10, hg10, A10, c10, rfl⟩; have HK10 := Lib.hid hk10; have HG10 := Lib.hid hg10; clear hk10 hg10)
        have HB10 := Lib.hid (HG10.out.below HB9.out (HSB.out _ HB9.out) (KO.ge HK9.out (i := 1) rfl rfl))
        clear AP2 HK9 HG10 HB9
        have HKF : Hid (KO w10 b0 [.slice A9 ((hdZ (x : Int) ++ O1).length + (t :: Ot').length) c9, .slice A10 (((hdZ (x : Int) ++ O1).map g).length + ((t :: Ot').map g).length) c10, .slice (some ⟨gT, 0, none⟩) tn c5] [hdZ (x : Int) ++ (O1 ++ t :: Ot'), (hdZ (x : Int) ++ (O1 ++ t :: Ot')).map g, K]) := Lib.hid (by
          have h : KO w10 b0 ([.slice A9 ((hdZ (x : Int) ++ O1).length + (t :: Ot').length) c9, .slice A10 (((hdZ (x : Int) ++ O1).map g).length + ((t :: Ot').map g).length) c10, .slice (some ⟨gT, 0, none⟩) tn c5] ++ [.slice A7 nt c7, .slice A8 nt c8]) ([(hdZ (x : Int) ++ O1) ++ (t :: Ot'), (hdZ (x : Int) ++ O1).map g ++ (t :: Ot').map g, K] ++ [t :: Ot', (t :: Ot').map g]) := HK10.out
          have h2 := h.left rfl
          rw [← List.map_append, List.append_assoc] at h2
          exact h2)
        clear HK10
        have e2 : (hdZ (x : Int) ++ O1).length + (t :: Ot').length = (hdZ (x : Int)).length + O1.length + (Ot'.length + 1) := by rw [List.length_append, List.length_cons]
        have e3 : ((hdZ (x : Int) ++ O1).map g).length + ((t :: Ot').map g).length = (hdZ (x : Int)).length + O1.length + (Ot'.length + 1) := by rw [List.length_map, List.length_map, List.length_append, List.length_cons]
        rw [e2, e3] at HKF
        go_roundw
        case rel => exact ⟨j9, O1 ++ t :: Ot', O3, _, A9, A10, c9, c10, rfl, rfl, by first | rfl | go_num, Lib.hid (by have := HLT.out; have := HJ9.out; omega), Lib.hid (by simp only [List.length_append, List.length_cons]; omega), Lib.hid (by rw [HOO.out, HO23.out, List.append_assoc]), by rw [HJ9.out]; exact HR3, HKF, HB10⟩
        case measure => have := HLT.out; have := HJ9.out; simp [intOf]; omega
      · as_aux_lemma =>
        obtain rfl : tn = j := by have := HJ.out; omega
        have d0 : decide ((tn : Int) < (tn : Int)) = false := decide_eq_false (by omega)
        have d1' : decide (tn < tn) = false := decide_eq_false (by omega)
        have hO2 : O2 = [] := by
          have h := HR.out
          rw [List.drop_eq_nil_of_le (by rw [← HTN.out]; exact Nat.le_refl _)] at h
          cases h; rfl
        have HOE : Hid (O1 = O') := Lib.hid (by rw [HOO.out, hO2, List.append_nil])
        clear hlt hO2
        go_wp2_with fail
        go_ret2
        refine ⟨_, _, rfl, ?_, by rw [← HB0.out]; exact HB.out⟩
        rw [← HOE.out, ← HB0.out]
        exact KO.left (C2 := [.slice A5 tn c5]) (K2 := [K]) HKO.out rfl
end Go.Proofs.Ytgldjjmpjaegfaa
