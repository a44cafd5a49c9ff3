/- Chapter 30, path: Critical, the code's and the document's. -/
import Derived.Test.YtgldjjmpjaegfaaPhb
namespace Go.Proofs.Ytgldjjmpjaegfaa
open Go.RowKit Go.Maps
set_option linter.unusedVariables false
set_option linter.unusedSimpArgs false
set_option maxRecDepth 100000

namespace Sy
/-- The way down, each time to the latest. -/
def critM (K : Nat → List Nat) (E : Nat → Int) : Nat → List Nat → List Nat
  | 0, _ => []
  | _ + 1, [] => []
  | f + 1, x :: r => bestL E (x :: r) :: critM K E f (K (bestL E (x :: r)))
theorem critM_nil (K : Nat → List Nat) (E : Nat → Int) (f : Nat) : critM K E f [] = [] := by cases f <;> rfl
theorem critM_step {K : Nat → List Nat} {E : Nat → Int} {f : Nat} {T : List Nat} (h : T ≠ []) : critM K E (f + 1) T = bestL E T :: critM K E f (K (bestL E T)) := by
  cases T with
  | nil => exact absurd rfl h
  | cons x r => rfl
end Sy
/-- What Critical answers. -/
def CritOf (l : List Ls) (n : Nat) (X : List Nat) : Prop := ((l.all fun x => right x.s) = false ∧ X = []) ∨ ((l.all fun x => right x.s) = true ∧ ∃ P M O, Sy.Fo l n P M O ∧ X = Sy.critM (fun x => M.filter fun q => parN P n q == x) (En l) (n + 2) (M.filter fun q => parN P n q == n))
theorem crit_eq {l : List Ls} {n : Nat} {X Y : List Nat} (h : CritOf l n X) (k : CritOf l n Y) : X = Y := by
  rcases h with ⟨h1, h2⟩ | ⟨h1, P, M, O, hF, h2⟩ <;> rcases k with ⟨k1, k2⟩ | ⟨k1, P', M', O', hF', k2⟩
  · rw [h2, k2]
  · rw [h1] at k1; cases k1
  · rw [h1] at k1; cases k1
  · have e := parOf_ext hF.par hF'.par
    subst e
    have e2 := Sy.bys_eq hF.bys hF'.bys
    subst e2
    rw [h2, k2]
theorem kid_dep {l : List Ls} {n : Nat} {P : List Int} {M O : List Nat} {g : Nat → Nat} (hF : Sy.Fo l n P M O) (hg : Sy.Dg P n g) {i q : Nat} (hi : i < n) (hq : g i = q) : ∀ t ∈ M.filter fun q => parN P n q == i, t < n ∧ g t = q + 1 := fun t ht => ⟨((Sy.kid_mem hF.all).1 ht).1, by rw [hg.down hF.all hi ht, hq]⟩
theorem root_dep {l : List Ls} {n : Nat} {P : List Int} {M O : List Nat} {g : Nat → Nat} (hF : Sy.Fo l n P M O) (hg : Sy.Dg P n g) : ∀ t ∈ M.filter fun q => parN P n q == n, t < n ∧ g t = 0 := fun t ht => by
  obtain ⟨h1, h2⟩ := (Sy.kid_mem hF.all).1 ht
  exact ⟨h1, hg.root t h1 h2⟩
set_option maxHeartbeats 16000000 in
theorem critical_any (l : List Ls) (A : Option Addr) (n c B : Nat) (w : World) (hS : RdSps w B A l) (hB : B ≤ w.heap.size) (hn : n = l.length) (hsm : n ≤ 500) :
    Calls Try.prog 25 #[.slice A n c] w fun e w' => ∃ A' q c' X, e = .returned (.slice A' q c') ∧ q = X.length ∧ X.length ≤ 600 ∧ CritOf l n X ∧ w'.ownsRow w.heap.size 3 1 (.slice A' q c') q (X.map encN) ∧ Below w.heap.size w w' := by
  have RC := Lib.hid (pright_any A l n c B w hn hS hB (by omega))
  have HN := Lib.hid hn
  have HS := Lib.hid hS
  have KC := fun (W : World) (h : Below w.heap.size w W) => Lib.hid (kids_any l A n c B W (hS.below (h.mono hB)) (Nat.le_trans hB h.size) hn (by omega))
  obtain ⟨fb, hfb⟩ : ∃ fb, fb = l.all fun x => right x.s := ⟨_, rfl⟩
  rw [← hfb] at RC
  have HFB := Lib.hid hfb
  clear hn hS hfb
  cases fb
  · go_enter Try.func25, Try.ntmps25
    go_wp2_with (go_at_call 37; (with_reducible refine RC.out.mono ?_); rintro ex w1 ⟨rfl, hb1⟩; have HB1 := Lib.hid hb1; clear hb1)
    go_ret
    exact ⟨none, 0, 0, [], rfl, rfl, Nat.zero_le _, .inl ⟨HFB.out.symm, rfl⟩, World.ownsRow_nil _ _ _ _, HB1.out⟩
  · have i0n : (0 : Int) ≤ (n : Int) := by omega
    have i1n : (n : Int) < ((n + 1 : Nat) : Int) := by omega
    go_enter Try.func25, Try.ntmps25
    go_upto_region 5 with (first
      | (go_at_call 37; (with_reducible refine RC.out.mono ?_); rintro ex w1 ⟨rfl, hb1⟩; have HB1 := Lib.hid hb1; clear hb1)
      | (go_at_call 32; (with_reducible refine (KC _ HB1.out).out.mono ?_); rintro ex w3 ⟨gk, C, P, M, bK, rfl, hp3, hm3, hbk3, hko3, ho3, hb3⟩; have HP := Lib.hid hp3; have HM := Lib.hid hm3; have HKO := Lib.hid hko3; have HO := Lib.hid ho3; have HB3 := Lib.hid (HB1.out.trans (hb3.mono HB1.out.size)); clear hp3 hm3 hbk3 hko3 ho3 hb3))
    clear RC KC
    have hF := Sy.fo_of HN.out HP.out HM.out
    obtain ⟨O, hO⟩ : ∃ O, O = Sy.ordM (kidsL P n M) n (M.filter fun i => parN P n i == n) := ⟨_, rfl⟩
    rw [← hO] at hF
    obtain ⟨g, hg⟩ := hF.dep
    have HF := Lib.hid hF
    have HG := Lib.hid hg
    clear hF hO hg
    have hcl : C.length = n + 1 := by have := HKO.out.len; rw [kidsL_len] at this; exact this
    have HCELL : Hid (∀ (W : World) (x : Nat), Below w3.heap.size w3 W → x ≤ n → ∃ A2 c2, W.cell? ⟨gk, x, none⟩ = some (.slice A2 (M.filter fun q => parN P n q == x).length c2) ∧ Rd W w3.heap.size A2 ((M.filter fun q => parN P n q == x).map encN)) := Lib.hid (fun W x hW hx => by
      obtain ⟨v, hv⟩ : ∃ v, C[x]? = some v := ⟨_, List.getElem?_eq_getElem (by omega)⟩
      obtain ⟨⟨A2, c2, rfl⟩, h2⟩ := HKO.out.own x v _ hv (kidsL_at M hx)
      refine ⟨A2, c2, ?_, (own_read h2 (Nat.le_refl _)).below hW⟩
      have h3 := (own_cells HO.out x (by omega)).2.1
      rw [hv] at h3
      rw [show W.cell? ⟨gk, x, none⟩ = w3.cell? ⟨gk, x, none⟩ from hW.cell (show (⟨gk, x, none⟩ : Addr).block < w3.heap.size from (own_baseY HO.out).2)]
      exact h3)
    obtain ⟨A2, c2, p2, r2⟩ := HCELL.out w3 n (Below.refl _ _) (Nat.le_refl _)
    have HR2 := Lib.hid r2
    have HSB := Lib.hid (show ∀ W, Below w3.heap.size w3 W → w3.heap.size ≤ W.heap.size from fun W h => h.size)
    have HSQ := Lib.hid (show ∀ W, Below w3.heap.size w3 W → RdSps W B A l from fun W h => HS.out.below ((HB3.out.trans (h.mono HB3.out.size)).mono hB))
    have HBQ := Lib.hid (show ∀ W, Below w3.heap.size w3 W → Below w.heap.size w W from fun W h => HB3.out.trans (h.mono HB3.out.size))
    have HZ3 := Lib.hid (show w.heap.size ≤ w3.heap.size ∧ B ≤ w3.heap.size from ⟨HB3.out.size, Nat.le_trans hB HB3.out.size⟩)
    have HK3 := Lib.hid (Below.refl w3.heap.size w3)
    clear hcl HKO HO HB1 HB3 r2 HS HP HM
    generalize w3.heap.size = b3 at *
    go_upto_region 6 with fail
    clear p2
    go_loopw [4, 5] (fun vo vt wq => ∃ (q tn : Nat) (X T : List Nat) (A1 A2 : Option Addr) (c1 c2 : Nat), vo = .slice A1 q c1 ∧ vt = .slice A2 tn c2 ∧ Hid (q = X.length ∧ tn = T.length ∧ q ≤ n + 1) ∧ Hid (Rd wq b3 A2 (T.map encN)) ∧ Hid (∀ t ∈ T, t < n ∧ g t = q) ∧ Hid (T.length ≤ n) ∧ Hid (X ++ Sy.critM (fun x => M.filter fun q => parN P n q == x) (En l) (n + 2 - q) T = Sy.critM (fun x => M.filter fun q => parN P n q == x) (En l) (n + 2) (M.filter fun q => parN P n q == n)) ∧ Hid (wq.ownsRow b3 3 1 (.slice A1 q c1) q (X.map encN)) ∧ Hid (Below b3 w3 wq)) (fun vo _ _ => n + 2 - lenV vo)
    case atStart => exact ⟨0, _, [], _, none, A2, 0, c2, rfl, rfl, Lib.hid ⟨rfl, rfl, Nat.zero_le _⟩, HR2, Lib.hid (root_dep HF.out HG.out), Lib.hid (Sy.nd_le n _ (HF.out.all.nd.filter _) fun x hx => ((Sy.kid_mem HF.out.all).1 hx).1), Lib.hid rfl, Lib.hid (World.ownsRow_nil _ _ _ _), HK3⟩
    clear HR2 HK3
    case round =>
      obtain ⟨q, tn, X, T, A1, A2, c1, c2, rfl, rfl, HQ, HR, HT, HTL, HX, HOW, HB⟩ := hrel
      rcases Nat.eq_zero_or_pos tn with h0 | h0
      · as_aux_lemma =>
        subst h0
        have hT : T = [] := List.eq_nil_of_length_eq_zero (by have := HQ.out; omega)
        subst hT
        go_wp2_with fail
        go_ret
        have h := HX.out
        rw [Sy.critM_nil, List.append_nil] at h
        exact ⟨A1, q, c1, X, rfl, HQ.out.1, by have := HQ.out; omega, .inr ⟨HFB.out.symm, P, M, O, HF.out, h⟩, own_mono HOW.out HZ3.out.1, HBQ.out _ HB.out⟩
      · as_aux_lemma =>
        have hTne : T ≠ [] := fun e => by have := HQ.out; rw [e] at this; simp at this; omega
        obtain ⟨i, hi⟩ : ∃ i, i = Sy.bestL (En l) T := ⟨_, rfl⟩
        have him : i ∈ T := by rw [hi]; exact Sy.bestL_mem hTne
        obtain ⟨hin, hgi⟩ := HT.out i him
        have hqn : q ≤ n := by have := HG.out.le i; omega
        have LC := Lib.hid (latest_any l A n c B T A2 tn c2 b3 wr (HSQ.out _ HB.out) (Nat.le_trans HZ3.out.2 (HSB.out _ HB.out)) HN.out HR.out (HSB.out _ HB.out) HQ.out.2.1 h0 (fun t ht => (HT.out t ht).1) (by omega) (by have := HTL.out; have := HQ.out; omega))
        rw [← hi] at LC
        have i0 : (0 : Int) ≤ (i : Int) := by omega
        have i1 : (i : Int) < ((n + 1 : Nat) : Int) := by omega
        have i3 : (i : Int) < (n : Int) + 1 := by omega
        have d0 : decide ((0 : Int) < (tn : Int)) = true := decide_eq_true (by omega)
        have d1 : decide (0 < tn) = true := decide_eq_true h0
        have HIN := Lib.hid (show i < n ∧ g i = q ∧ q ≤ n from ⟨hin, hgi, hqn⟩)
        have HXN := Lib.hid (show (X ++ [i]) ++ Sy.critM (fun x => M.filter fun q => parN P n q == x) (En l) (n + 2 - (q + 1)) (M.filter fun q => parN P n q == i) = Sy.critM (fun x => M.filter fun q => parN P n q == x) (En l) (n + 2) (M.filter fun q => parN P n q == n) from by
          rw [← HX.out, show n + 2 - q = (n + 2 - (q + 1)) + 1 by omega, Sy.critM_step hTne, ← hi, List.append_assoc]
          rfl)
        clear hTne hi him hin hgi hqn h0
        go_upto_region 8 with (go_at_call 38; (with_reducible refine LC.out.mono ?_); rintro ex w5 ⟨rfl, hb5⟩; have HB5 := Lib.hid (HB.out.trans (hb5.mono (HSB.out _ HB.out))); have HOW5 := Lib.hid (own_below HOW.out hb5); clear hb5)
        clear LC d0 d1
        have APP := Lib.hid (fun ty => appI1 (ty := ty) HOW5.out (i : Int) #[.int .i64 (i : Int)] rfl (by have := HIN.out; omega) (HSB.out _ HB5.out))
        go_upto_region 9 with (at_builtin; (refine wpList_app rfl (.tmp 23) (.tmp 25) _ _ rfl rfl rfl (APP.out _) ?_); rintro v6 w6 ⟨ho6, hg6⟩; have HB6 := Lib.hid (hg6.below HB5.out (HSB.out _ HB5.out) (own_block_ge HOW5.out)); obtain ⟨A6, c6, rfl, _, _⟩ := own_rd ho6; have HO6 := Lib.hid ho6; clear ho6 hg6)
        clear APP
        obtain ⟨A3, c3, p3, r3⟩ := HCELL.out w6 i HB6.out (by have := HIN.out; omega)
        have HR3 := Lib.hid r3
        have a3 : (⟨gk, 0, none⟩ : Addr).add i = ⟨gk, i, none⟩ := by rw [Addr.add_lit, Nat.zero_add]
        clear r3
        go_wp2_with fail
        go_roundw
        case rel => exact ⟨q + 1, _, X ++ [i], _, A6, A3, c6, c3, rfl, rfl, Lib.hid ⟨by rw [List.length_append, ← HQ.out.1]; rfl, rfl, by have := HIN.out; omega⟩, HR3, Lib.hid (kid_dep HF.out HG.out HIN.out.1 HIN.out.2.1), Lib.hid (Sy.nd_le n _ (HF.out.all.nd.filter _) fun x hx => ((Sy.kid_mem HF.out.all).1 hx).1), HXN, Lib.hid (by rw [List.map_append]; exact HO6.out), HB6⟩
        case measure => have := HIN.out; simp [lenV]; omega
end Go.Proofs.Ytgldjjmpjaegfaa
