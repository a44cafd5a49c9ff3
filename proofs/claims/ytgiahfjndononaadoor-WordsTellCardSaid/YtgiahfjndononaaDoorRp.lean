/- Recursions over a policy: the document's nodes, all, RightRule; the code's Right; how great it is; whether it has nots or rates. -/
import Derived.Test.YtgiahfjndononaaDoorRo
namespace Go.Proofs.YtgiahfjndononaaDoor
open Go.RowKit
set_option linter.unusedVariables false
set_option linter.unusedSimpArgs false
set_option maxRecDepth 100000

mutual
def Rt.plain : Rt → Bool
  | .mk k n key val kids => plainL kids && (!(k == 3) && !(k == 9))
def plainL : List Rt → Bool
  | [] => true
  | r :: rs => r.plain && plainL rs
end
theorem Rt.plain_mk (k n : Int) (key val : ByteArray) (kids : List Rt) : (Rt.mk k n key val kids).plain = (plainL kids && (!(k == 3) && !(k == 9))) := by rw [Rt.plain]
theorem plainL_iff (l : List Rt) : plainL l = true ↔ ∀ r ∈ l, r.plain = true := by
  induction l with
  | nil => simp [plainL]
  | cons r l ih => rw [plainL, Bool.and_eq_true, ih]; simp
theorem allL_kid {l : List Rt} {j : Nat} {r : Rt} (hr : l[j]? = some r) (h : r.all = false) : allL l = false := by
  cases hh : allL l
  · rfl
  · rw [(allL_iff l).1 hh r (List.mem_of_getElem? hr)] at h; cases h
theorem plainL_kid {l : List Rt} {j : Nat} {r : Rt} (hr : l[j]? = some r) (h : r.plain = false) : plainL l = false := by
  cases hh : plainL l
  · rfl
  · rw [(plainL_iff l).1 hh r (List.mem_of_getElem? hr)] at h; cases h

set_option maxHeartbeats 16000000 in
theorem refnodes_rec {w : World} {B : Nat} {t : Rt} {c : List Value} (h : RdR w B t c) : ∀ (m : Nat) (W : World), m ≤ 5 → Below B w W → B ≤ W.heap.size →
    Calls Tryd.prog 25 #[.agg c.toArray, .int .i64 (m : Int)] W fun e w' => ∃ N : Nat, e = .returned (.int .i64 (N : Int)) ∧ N ≤ 21 + 20 * m ∧ 1 ≤ N ∧ (N ≤ 20 → t.hgt ≤ m ∧ N = t.cnt) ∧ (t.hgt ≤ m → t.cnt ≤ 20 → N ≤ 20) ∧ Below W.heap.size W w' := by
  induction h with
  | mk k n key val kids kA kc cs h1 h2 h3 h4 h5 h6 hrow hkid ih =>
    intro m W hm hW hBW
    have HROW := Lib.hid hrow
    have HKID := Lib.hid hkid
    have IH := Lib.hid ih
    have HW := Lib.hid hW
    have HBW := Lib.hid hBW
    clear hrow hkid ih hW hBW
    obtain ⟨q, hq⟩ : ∃ q, kids.length = q := ⟨_, rfl⟩
    have HQ := Lib.hid hq
    simp only [maxLen] at h5 h6
    simp only [rcs, hq]
    rw [hq] at h5
    have HHG := Lib.hid (Rt.hgt_mk k n key val kids)
    have HCT := Lib.hid (Rt.cnt_mk k n key val kids)
    generalize (Rt.mk k n key val kids).hgt = hg at *
    generalize (Rt.mk k n key val kids).cnt = ct at *
    clear hq h1 h2 h3 h4
    rcases m with _ | m
    · go_enter Tryd.func25, Tryd.ntmps25
      go_wp2_with fail
      go_ret
      exact ⟨21, rfl, by omega, by omega, by omega, by have := HHG.out; omega, (Below.refl _ _).alloc (Nat.le_refl _) _⟩
    · have hmc : ((m + 1 : Nat) : Int) = (m : Int) + 1 := by omega
      rw [hmc]
      clear hmc
      have hmz : (((m : Int) + 1) == 0) = false := by rw [beq_eq_false_iff_ne]; omega
      go_enter Tryd.func25, Tryd.ntmps25
      go_wp2_with fail
      have HBX0 := (Below.refl W.heap.size W).alloc (Nat.le_refl _) (.cells #[.int .i64 k, .int .i64 n, .string key, .string val, .slice kA q kc] 24)
      have r0 := heap_alloc_new W (.cells #[.int .i64 k, .int .i64 n, .string key, .string val, .slice kA q kc] 24)
      have hz0 : W.heap.size < (W.alloc (.cells #[.int .i64 k, .int .i64 n, .string key, .string val, .slice kA q kc] 24)).heap.size := by simp
      generalize hWX : W.alloc (.cells #[.int .i64 k, .int .i64 n, .string key, .string val, .slice kA q kc] 24) = WX at *
      have s0 : WX.cell? ⟨W.heap.size, 0, none⟩ = some (.int .i64 k) := cell_of_row _ _ 0 _ _ (0, 0) r0
      have s1 : WX.cell? ⟨W.heap.size, 1, none⟩ = some (.int .i64 n) := cell_of_row _ _ 1 _ _ (0, 0) r0
      have s2 : WX.cell? ⟨W.heap.size, 2, none⟩ = some (.string key) := cell_of_row _ _ 2 _ _ (0, 0) r0
      have s3 : WX.cell? ⟨W.heap.size, 3, none⟩ = some (.string val) := cell_of_row _ _ 3 _ _ (0, 0) r0
      have s4 : WX.cell? ⟨W.heap.size, 4, none⟩ = some (.slice kA q kc) := cell_of_row _ _ 4 _ _ (0, 0) r0
      have HS := Lib.hid (show ∀ V, Below WX.heap.size WX V → (V.cell? ⟨W.heap.size, 0, none⟩ = some (.int .i64 k) ∧ V.cell? ⟨W.heap.size, 1, none⟩ = some (.int .i64 n) ∧ V.cell? ⟨W.heap.size, 2, none⟩ = some (.string key) ∧ V.cell? ⟨W.heap.size, 3, none⟩ = some (.string val) ∧ V.cell? ⟨W.heap.size, 4, none⟩ = some (.slice kA q kc)) ∧ Below W.heap.size W V ∧ W.heap.size < V.heap.size from
        fun V hV => ⟨⟨(hV.cell (p := ⟨W.heap.size, 0, none⟩) hz0).trans s0, (hV.cell (p := ⟨W.heap.size, 1, none⟩) hz0).trans s1, (hV.cell (p := ⟨W.heap.size, 2, none⟩) hz0).trans s2, (hV.cell (p := ⟨W.heap.size, 3, none⟩) hz0).trans s3, (hV.cell (p := ⟨W.heap.size, 4, none⟩) hz0).trans s4⟩, HBX0.trans (hV.mono (Nat.le_of_lt hz0)), Nat.lt_of_lt_of_le hz0 hV.size⟩)
      clear r0 hWX

      go_loopw [5, 6] (fun x i wr => ∃ (y j : Nat), x = .int .i64 (y : Int) ∧ i = .int .i64 (j : Int) ∧ j ≤ q ∧ y ≤ 41 + 20 * m ∧ 1 ≤ y ∧ Hid ((y ≤ 20 → y = 1 + cntL (kids.take j) ∧ ∀ r ∈ kids.take j, r.hgt ≤ m) ∧ (hg ≤ m + 1 → ct ≤ 20 → y = 1 + cntL (kids.take j))) ∧ Hid (Below WX.heap.size WX wr)) (fun _ i _ => q - (intOf i).toNat)
      case atStart => exact ⟨1, 0, rfl, rfl, by omega, by omega, by omega, Lib.hid ⟨by simp [cntL], by simp [cntL]⟩, Lib.hid (Below.refl _ _)⟩
      case round =>
        obtain ⟨y, j, rfl, rfl, hj, hy1, hy2, HY, HBB⟩ := hrel
        obtain ⟨⟨t0, t1, t2, t3, t4⟩, hb, hzr⟩ := HS.out wr HBB.out
        have HB := Lib.hid hb
        have hcs : (j < q ∧ y ≤ 20) ∨ (j < q ∧ 20 < y) ∨ j = q := by omega
        rcases hcs with ⟨hlt, hle⟩ | ⟨hlt, hgt⟩ | heq
        · clear hb
          obtain ⟨r, hr⟩ : ∃ r, kids[j]? = some r := ⟨_, List.getElem?_eq_getElem (by rw [HQ.out]; exact hlt)⟩
          have hww : Below B w wr := HW.out.trans (HB.out.mono HBW.out)
          obtain ⟨a, k', n', key', val', A', q', qc', ha, hab, hrr, ec, c0, c1, c2, c3, c4⟩ := kid_cells (HROW.out.keep fun _ hp => hww.cell hp) (fun i r h => (HKID.out i r h).low hww) hr
          have hBwr : B ≤ wr.heap.size := Nat.le_trans HBW.out HB.out.size
          have I := IH.out j r hr m wr (by omega) hww hBwr
          rw [ec] at I
          simp only [rcs] at I
          have HI := Lib.hid I
          have HR := Lib.hid hr
          subst ha
          clear I hr hww hrr ec hBwr hab
          go_wp2_with (go_at_call 25; (with_reducible refine HI.out.mono ?_); rintro e w2 ⟨N, rfl, hN1, hN2, hN3, hN4, hb2⟩; have HB2 := Lib.hid hb2; have HN3 := Lib.hid hN3; have HN4 := Lib.hid hN4; clear hb2 hN3 hN4)
          go_roundw
          case rel =>
            have hrm := List.mem_of_getElem? HR.out
            have hge := cntL_ge HR.out
            refine ⟨y + N, j + 1, by go_num, by go_num, by omega, by omega, by omega, Lib.hid ⟨?_, ?_⟩, Lib.hid (HBB.out.trans (HB2.out.mono HBB.out.size))⟩
            · intro h20
              obtain ⟨e1, e2⟩ := HY.out.1 (by omega)
              obtain ⟨f1, f2⟩ := HN3.out (by omega)
              exact ⟨by rw [cntL_take HR.out, e1, f2]; omega, mem_take_succ HR.out e2 f1⟩
            · intro g1 g2
              have e1 := HY.out.2 g1 g2
              have hg2 : r.hgt ≤ m := by
                have := (hgtL_le kids _).1 (Nat.le_refl _) r hrm
                have := HHG.out
                omega
              have hc2 : r.cnt ≤ 20 := by have := HCT.out; omega
              obtain ⟨f1, f2⟩ := HN3.out (HN4.out hg2 hc2)
              rw [cntL_take HR.out, e1, f2]
              omega
          case measure => simp [intOf]; omega
        · have HF : Hid (¬ (hg ≤ m + 1 ∧ ct ≤ 20)) := Lib.hid (by
            rintro ⟨g1, g2⟩
            have e1 := HY.out.2 g1 g2
            have h2 := cntL_add (kids.take j) (kids.drop j)
            rw [List.take_append_drop] at h2
            have := HCT.out
            omega)
          go_wp2_with fail
          go_ret
          exact ⟨y, rfl, by omega, by omega, by omega, fun a b => absurd ⟨a, b⟩ HF.out, hb⟩
        · subst heq
          have HF := Lib.hid (show (y ≤ 20 → hg ≤ m + 1 ∧ y = ct) ∧ (hg ≤ m + 1 → ct ≤ 20 → y ≤ 20) from by
            have hy := HY.out
            rw [List.take_of_length_le (by rw [HQ.out]; exact Nat.le_refl _)] at hy
            refine ⟨fun h20 => ?_, fun a b => ?_⟩
            · obtain ⟨e1, e2⟩ := hy.1 h20
              have := (hgtL_le kids m).2 e2
              exact ⟨by rw [HHG.out]; omega, by rw [HCT.out]; omega⟩
            · have := hy.2 a b
              have := HCT.out
              omega)
          go_wp2_with fail
          go_ret
          exact ⟨y, rfl, by omega, by omega, HF.out.1, HF.out.2, hb⟩

set_option maxHeartbeats 16000000 in
theorem refall_rec {w : World} {B : Nat} {t : Rt} {c : List Value} (h : RdR w B t c) : ∀ (W : World), Below B w W → B ≤ W.heap.size →
    Calls Tryd.prog 26 #[.agg c.toArray] W fun e w' => e = .returned (.bool t.all) ∧ Below W.heap.size W w' := by
  induction h with
  | mk k n key val kids kA kc cs h1 h2 h3 h4 h5 h6 hrow hkid ih =>
    intro W hW hBW
    have HROW := Lib.hid hrow
    have HKID := Lib.hid hkid
    have IH := Lib.hid ih
    have HW := Lib.hid hW
    have HBW := Lib.hid hBW
    clear hrow hkid ih hW hBW
    obtain ⟨q, hq⟩ : ∃ q, kids.length = q := ⟨_, rfl⟩
    have HQ := Lib.hid hq
    have h5' := h5
    have h6' := h6
    simp only [maxLen] at h6
    have RN := Lib.hid (fun V => one_all k n key val kA kids.length kc V h3 h4 h5' h6')
    generalize ho : oneR k n key val kids.length = oo at RN
    have HO := Lib.hid ho
    clear ho
    simp only [rcs, hq] at RN ⊢
    have HMD := Lib.hid (Rt.all_mk k n key val kids)
    generalize (Rt.mk k n key val kids).all = md at *
    rw [hq] at h5
    clear hq h1 h2 h3 h4 h5'
    cases oo
    · go_enter Tryd.func26, Tryd.ntmps26
      go_wp2_with (go_at_call 46; (with_reducible refine (RN.out _).mono ?_); rintro e w1 ⟨rfl, hb1⟩; have HB1 := Lib.hid hb1; clear hb1)
      go_ret
      exact ⟨by rw [HMD.out, HO.out]; simp, ((Below.refl _ _).alloc (Nat.le_refl _) _).trans (HB1.out.mono (by simp))⟩
    · go_enter Tryd.func26, Tryd.ntmps26
      go_wp2_with (go_at_call 46; (with_reducible refine (RN.out _).mono ?_); rintro e w1 ⟨rfl, hb1⟩; have HSTART := Lib.hid hb1; clear hb1)
      have HBX0 := (Below.refl W.heap.size W).alloc (Nat.le_refl _) (.cells #[.int .i64 k, .int .i64 n, .string key, .string val, .slice kA q kc] 24)
      have r0 := heap_alloc_new W (.cells #[.int .i64 k, .int .i64 n, .string key, .string val, .slice kA q kc] 24)
      have hz0 : W.heap.size < (W.alloc (.cells #[.int .i64 k, .int .i64 n, .string key, .string val, .slice kA q kc] 24)).heap.size := by simp
      generalize hWX : W.alloc (.cells #[.int .i64 k, .int .i64 n, .string key, .string val, .slice kA q kc] 24) = WX at *
      have s0 : WX.cell? ⟨W.heap.size, 0, none⟩ = some (.int .i64 k) := cell_of_row _ _ 0 _ _ (0, 0) r0
      have s1 : WX.cell? ⟨W.heap.size, 1, none⟩ = some (.int .i64 n) := cell_of_row _ _ 1 _ _ (0, 0) r0
      have s2 : WX.cell? ⟨W.heap.size, 2, none⟩ = some (.string key) := cell_of_row _ _ 2 _ _ (0, 0) r0
      have s3 : WX.cell? ⟨W.heap.size, 3, none⟩ = some (.string val) := cell_of_row _ _ 3 _ _ (0, 0) r0
      have s4 : WX.cell? ⟨W.heap.size, 4, none⟩ = some (.slice kA q kc) := cell_of_row _ _ 4 _ _ (0, 0) r0
      have HS := Lib.hid (show ∀ V, Below WX.heap.size WX V → (V.cell? ⟨W.heap.size, 0, none⟩ = some (.int .i64 k) ∧ V.cell? ⟨W.heap.size, 1, none⟩ = some (.int .i64 n) ∧ V.cell? ⟨W.heap.size, 2, none⟩ = some (.string key) ∧ V.cell? ⟨W.heap.size, 3, none⟩ = some (.string val) ∧ V.cell? ⟨W.heap.size, 4, none⟩ = some (.slice kA q kc)) ∧ Below W.heap.size W V ∧ W.heap.size < V.heap.size from
        fun V hV => ⟨⟨(hV.cell (p := ⟨W.heap.size, 0, none⟩) hz0).trans s0, (hV.cell (p := ⟨W.heap.size, 1, none⟩) hz0).trans s1, (hV.cell (p := ⟨W.heap.size, 2, none⟩) hz0).trans s2, (hV.cell (p := ⟨W.heap.size, 3, none⟩) hz0).trans s3, (hV.cell (p := ⟨W.heap.size, 4, none⟩) hz0).trans s4⟩, HBX0.trans (hV.mono (Nat.le_of_lt hz0)), Nat.lt_of_lt_of_le hz0 hV.size⟩)
      clear r0 hWX
      go_loopw [3] (fun i wr => ∃ (j : Nat), i = .int .i64 (j : Int) ∧ j ≤ q ∧ Hid (∀ r ∈ kids.take j, r.all = true) ∧ Hid (Below WX.heap.size WX wr)) (fun i _ => q - (intOf i).toNat)
      case atStart => exact ⟨0, rfl, by omega, Lib.hid (by simp), HSTART⟩
      case round =>
        obtain ⟨j, rfl, hj, HY, HBB⟩ := hrel
        obtain ⟨⟨t0, t1, t2, t3, t4⟩, hb, hzr⟩ := HS.out wr HBB.out
        have HB := Lib.hid hb
        by_cases hlt : j < q
        · clear hb
          obtain ⟨r, hr⟩ : ∃ r, kids[j]? = some r := ⟨_, List.getElem?_eq_getElem (by rw [HQ.out]; exact hlt)⟩
          have hww : Below B w wr := HW.out.trans (HB.out.mono HBW.out)
          obtain ⟨a, k', n', key', val', A', q', qc', ha, hab, hrr, ec, c0, c1, c2, c3, c4⟩ := kid_cells (HROW.out.keep fun _ hp => hww.cell hp) (fun i r h => (HKID.out i r h).low hww) hr
          have hBwr : B ≤ wr.heap.size := Nat.le_trans HBW.out HB.out.size
          have I := IH.out j r hr wr hww hBwr
          rw [ec] at I
          simp only [rcs] at I
          have HI := Lib.hid I
          have HR := Lib.hid hr
          subst ha
          clear I hr hww hrr ec hBwr hab
          generalize hz : r.all = z at HI
          have HZ := Lib.hid hz
          clear hz
          cases z
          · have HF := Lib.hid (allL_kid HR.out HZ.out)
            go_wp2_with (go_at_call 26; (with_reducible refine HI.out.mono ?_); rintro e w2 ⟨rfl, hb2⟩; have HB2 := Lib.hid hb2; clear hb2)
            go_ret
            exact ⟨by rw [HMD.out, HF.out]; simp, HB.out.trans (HB2.out.mono HB.out.size)⟩
          · go_wp2_with (go_at_call 26; (with_reducible refine HI.out.mono ?_); rintro e w2 ⟨rfl, hb2⟩; have HB2 := Lib.hid hb2; clear hb2)
            go_roundw
            case rel => exact ⟨j + 1, by go_num, by omega, Lib.hid (mem_take_succ HR.out HY.out HZ.out), Lib.hid (HBB.out.trans (HB2.out.mono HBB.out.size))⟩
            case measure => simp [intOf]; omega
        · obtain rfl : j = q := by omega
          have HF : Hid (allL kids = true) := Lib.hid (by
            have hy := HY.out
            rw [List.take_of_length_le (by rw [HQ.out]; exact Nat.le_refl _)] at hy
            exact (allL_iff kids).2 hy)
          go_wp2_with fail
          go_ret
          exact ⟨by rw [HMD.out, HO.out, HF.out]; rfl, hb⟩


set_option maxHeartbeats 4000000 in
theorem right_all {w : World} {B : Nat} {t : Rt} {c : List Value} (h : RdR w B t c) (W : World) (hW : Below B w W) (hB : B ≤ W.heap.size) :
    Calls Tryd.prog 19 #[.agg c.toArray] W fun e w' => e = .returned (.bool t.right) ∧ Below W.heap.size W w' := by
  have N := Lib.hid (fun V hV => nodes_rec h 1 20 V (by omega) (by omega) (by omega) (by omega) (hW.trans (hV.mono hB)) (Nat.le_trans hB (Below.size hV)))
  obtain ⟨k, n, key, val, kids, kA, kc, rfl, rfl⟩ := h.inv
  change Calls Tryd.prog 19 _ W fun e w' => e = .returned (.bool (okk _ 1 20)) ∧ _
  generalize hok : okk (.mk k n key val kids) 1 20 = ok at *
  generalize (if ok = true then ((Rt.mk k n key val kids).cnt : Int) else 0) = rv at *
  clear hok h hW hB
  simp only [rcs] at *
  go_enter Tryd.func19, Tryd.ntmps19
  go_wp2_with (go_at_call 37; (with_reducible refine (N.out _ ((Below.refl _ _).alloc (Nat.le_refl _) _)).mono ?_); rintro e w1 ⟨rfl, hb1⟩; have HB1 := Lib.hid hb1; clear hb1)
  go_ret
  exact ⟨rfl, ((Below.refl _ _).alloc (Nat.le_refl _) _).trans (HB1.out.mono (by simp))⟩
set_option maxHeartbeats 4000000 in
theorem refright_all {w : World} {B : Nat} {t : Rt} {c : List Value} (h : RdR w B t c) (W : World) (hW : Below B w W) (hB : B ≤ W.heap.size) :
    Calls Tryd.prog 15 #[.agg c.toArray] W fun e w' => e = .returned (.bool t.right) ∧ Below W.heap.size W w' := by
  have N := Lib.hid (fun V (hV : Below W.heap.size W V) => (show Calls Tryd.prog 25 #[.agg c.toArray, .int .i64 5] V _ from refnodes_rec h 5 V (by omega) (hW.trans (hV.mono hB)) (Nat.le_trans hB (Below.size hV))))
  have A := Lib.hid (fun V hV => refall_rec h V (hW.trans (hV.mono hB)) (Nat.le_trans hB (Below.size hV)))
  have HR := Lib.hid (t.right_iff)
  generalize t.right = ri at *
  generalize t.all = al at *
  generalize t.hgt = hg at *
  generalize t.cnt = ct at *
  obtain ⟨k, n, key, val, kids, kA, kc, rfl, rfl⟩ := h.inv
  clear h hW hB
  simp only [rcs] at *
  go_enter Tryd.func15, Tryd.ntmps15
  go_wp2_with (first
    | (go_at_call 26; (with_reducible refine (A.out _ HB1.out).mono ?_); rintro e w2 ⟨rfl, hb2⟩; have HB2 := Lib.hid hb2; clear hb2)
    | (go_at_call 25; (with_reducible refine (N.out _ ((Below.refl _ _).alloc (Nat.le_refl _) _)).mono ?_); rintro e w1 ⟨M, rfl, hM1, hM2, hM3, hM4, hb1⟩; obtain ⟨hc, hf⟩ := bcell hb1; have HB1 := Lib.hid (((Below.refl W.heap.size W).alloc (Nat.le_refl _) _).trans (hb1.mono (by simp))); have HM3 := Lib.hid hM3; have HM4 := Lib.hid hM4; clear hb1 hM3 hM4))
  · have HF := Lib.hid (HM3.out (by omega))
    go_ret
    refine ⟨?_, HB1.out.trans (HB2.out.mono HB1.out.size)⟩
    have h1 := HR.out
    have h2 := HF.out
    rw [show ri = al from by
      cases al
      · cases ri
        · rfl
        · exact absurd (h1.1 rfl).2.2 (by simp)
      · exact h1.2 ⟨h2.1, by omega, rfl⟩]
    simp
  · have HF : Hid (ri = false) := Lib.hid (by
      have h1 := HR.out
      cases ri
      · rfl
      · have := HM4.out (h1.1 rfl).1 (h1.1 rfl).2.1
        omega)
    go_ret
    exact ⟨by rw [HF.out]; simp, HB1.out⟩

mutual
def Rt.sz : Rt → Nat → Nat
  | .mk _ _ key val kids, d => if 30 < d ∨ 100 < key.size ∨ 100 < val.size then 1000 else szL kids d 1
def szL : List Rt → Nat → Nat → Nat
  | [], _, n => n
  | r :: rs, d, n => if n < 1000 then szL rs d (n + r.sz (d + 1)) else n
end
theorem Rt.sz_mk (k n : Int) (key val : ByteArray) (kids : List Rt) (d : Nat) : (Rt.mk k n key val kids).sz d = if 30 < d ∨ 100 < key.size ∨ 100 < val.size then 1000 else szL kids d 1 := by rw [Rt.sz]
theorem szL_big {l : List Rt} {d n : Nat} (h : 1000 ≤ n) : szL l d n = n := by
  cases l with
  | nil => rw [szL]
  | cons r l => rw [szL, if_neg (by omega)]
theorem szL_drop {l : List Rt} {j : Nat} {r : Rt} (h : l[j]? = some r) {d n : Nat} (hn : n < 1000) : szL (l.drop j) d n = szL (l.drop (j + 1)) d (n + r.sz (d + 1)) := by
  have hj : j < l.length := by
    rcases Nat.lt_or_ge j l.length with h1 | h1
    · exact h1
    · rw [List.getElem?_eq_none h1] at h; cases h
  rw [List.getElem?_eq_getElem hj] at h
  rw [List.drop_eq_getElem_cons hj, szL, if_pos hn]
  injection h with h
  rw [h]
def few13 (t : Rt) : Bool := decide (t.sz 0 ≤ 100)

set_option maxHeartbeats 16000000 in
theorem size_rec {w : World} {B : Nat} {t : Rt} {c : List Value} (h : RdR w B t c) : ∀ (d : Nat) (W : World), d ≤ 31 → Below B w W → B ≤ W.heap.size →
    Calls Tryd.prog 16 #[.agg c.toArray, .int .i64 (d : Int)] W fun e w' => e = .returned (.int .i64 ((t.sz d : Nat) : Int)) ∧ t.sz d ≤ 1000 + 1000 * (31 - d) ∧ Below W.heap.size W w' := by
  induction h with
  | mk k n key val kids kA kc cs h1 h2 h3 h4 h5 h6 hrow hkid ih =>
    intro d W hm hW hBW
    have HROW := Lib.hid hrow
    have HKID := Lib.hid hkid
    have IH := Lib.hid ih
    have HW := Lib.hid hW
    have HBW := Lib.hid hBW
    clear hrow hkid ih hW hBW
    obtain ⟨q, hq⟩ : ∃ q, kids.length = q := ⟨_, rfl⟩
    have HQ := Lib.hid hq
    simp only [maxLen] at h3 h4 h5 h6
    simp only [rcs, hq]
    rw [hq] at h5
    have HSZ := Lib.hid (Rt.sz_mk k n key val kids d)
    generalize (Rt.mk k n key val kids).sz d = SZ at *
    clear hq h1 h2
    have hcs : 30 < d ∨ (d ≤ 30 ∧ 100 < key.size) ∨ (d ≤ 30 ∧ key.size ≤ 100 ∧ 100 < val.size) ∨ (d ≤ 30 ∧ key.size ≤ 100 ∧ val.size ≤ 100) := by omega
    rcases hcs with g1 | ⟨g1, g2⟩ | ⟨g1, g2, g3⟩ | ⟨g1, g2, g3⟩
    iterate 3
      · go_enter Tryd.func16, Tryd.ntmps16
        go_wp2_with fail
        go_ret
        have e1 : SZ = 1000 := by rw [HSZ.out]; simp; omega
        exact ⟨by rw [e1] <;> rfl, by omega, (Below.refl _ _).alloc (Nat.le_refl _) _⟩
    · go_enter Tryd.func16, Tryd.ntmps16
      go_wp2_with fail
      have HBX0 := (Below.refl W.heap.size W).alloc (Nat.le_refl _) (.cells #[.int .i64 k, .int .i64 n, .string key, .string val, .slice kA q kc] 24)
      have r0 := heap_alloc_new W (.cells #[.int .i64 k, .int .i64 n, .string key, .string val, .slice kA q kc] 24)
      have hz0 : W.heap.size < (W.alloc (.cells #[.int .i64 k, .int .i64 n, .string key, .string val, .slice kA q kc] 24)).heap.size := by simp
      generalize hWX : W.alloc (.cells #[.int .i64 k, .int .i64 n, .string key, .string val, .slice kA q kc] 24) = WX at *
      have s0 : WX.cell? ⟨W.heap.size, 0, none⟩ = some (.int .i64 k) := cell_of_row _ _ 0 _ _ (0, 0) r0
      have s1 : WX.cell? ⟨W.heap.size, 1, none⟩ = some (.int .i64 n) := cell_of_row _ _ 1 _ _ (0, 0) r0
      have s2 : WX.cell? ⟨W.heap.size, 2, none⟩ = some (.string key) := cell_of_row _ _ 2 _ _ (0, 0) r0
      have s3 : WX.cell? ⟨W.heap.size, 3, none⟩ = some (.string val) := cell_of_row _ _ 3 _ _ (0, 0) r0
      have s4 : WX.cell? ⟨W.heap.size, 4, none⟩ = some (.slice kA q kc) := cell_of_row _ _ 4 _ _ (0, 0) r0
      have HS := Lib.hid (show ∀ V, Below WX.heap.size WX V → (V.cell? ⟨W.heap.size, 0, none⟩ = some (.int .i64 k) ∧ V.cell? ⟨W.heap.size, 1, none⟩ = some (.int .i64 n) ∧ V.cell? ⟨W.heap.size, 2, none⟩ = some (.string key) ∧ V.cell? ⟨W.heap.size, 3, none⟩ = some (.string val) ∧ V.cell? ⟨W.heap.size, 4, none⟩ = some (.slice kA q kc)) ∧ Below W.heap.size W V ∧ W.heap.size < V.heap.size from
        fun V hV => ⟨⟨(hV.cell (p := ⟨W.heap.size, 0, none⟩) hz0).trans s0, (hV.cell (p := ⟨W.heap.size, 1, none⟩) hz0).trans s1, (hV.cell (p := ⟨W.heap.size, 2, none⟩) hz0).trans s2, (hV.cell (p := ⟨W.heap.size, 3, none⟩) hz0).trans s3, (hV.cell (p := ⟨W.heap.size, 4, none⟩) hz0).trans s4⟩, HBX0.trans (hV.mono (Nat.le_of_lt hz0)), Nat.lt_of_lt_of_le hz0 hV.size⟩)
      clear r0 hWX

      go_loopw [5, 6] (fun x i wr => ∃ (y j : Nat), x = .int .i64 (y : Int) ∧ i = .int .i64 (j : Int) ∧ j ≤ q ∧ y ≤ 1000 + 1000 * (31 - d) ∧ Hid (SZ = szL (kids.drop j) d y) ∧ Hid (Below WX.heap.size WX wr)) (fun _ i _ => q - (intOf i).toNat)
      case atStart => exact ⟨1, 0, rfl, rfl, by omega, by omega, Lib.hid (by rw [HSZ.out, if_neg (by omega)]; rfl), Lib.hid (Below.refl _ _)⟩
      case round =>
        obtain ⟨y, j, rfl, rfl, hj, hy1, HY, HBB⟩ := hrel
        obtain ⟨⟨t0, t1, t2, t3, t4⟩, hb, hzr⟩ := HS.out wr HBB.out
        have HB := Lib.hid hb
        have hcs : (j < q ∧ y < 1000) ∨ (j < q ∧ 1000 ≤ y) ∨ j = q := by omega
        rcases hcs with ⟨hlt, hle⟩ | ⟨hlt, hgt⟩ | heq
        · clear hb
          obtain ⟨r, hr⟩ : ∃ r, kids[j]? = some r := ⟨_, List.getElem?_eq_getElem (by rw [HQ.out]; exact hlt)⟩
          have hww : Below B w wr := HW.out.trans (HB.out.mono HBW.out)
          obtain ⟨a, k', n', key', val', A', q', qc', ha, hab, hrr, ec, c0, c1, c2, c3, c4⟩ := kid_cells (HROW.out.keep fun _ hp => hww.cell hp) (fun i r h => (HKID.out i r h).low hww) hr
          have hBwr : B ≤ wr.heap.size := Nat.le_trans HBW.out HB.out.size
          have I := IH.out j r hr (d + 1) wr (by omega) hww hBwr
          rw [ec] at I
          simp only [rcs] at I
          have hmc : ((d + 1 : Nat) : Int) = (d : Int) + 1 := by omega
          rw [hmc] at I
          generalize hNN : r.sz (d + 1) = N at I
          have HNN := Lib.hid hNN
          have HI := Lib.hid I
          have HR := Lib.hid hr
          subst ha
          clear hNN
          clear I hr hww hrr ec hBwr hab hmc
          go_wp2_with (go_at_call 16; (with_reducible refine HI.out.mono ?_); rintro e w2 ⟨rfl, hN1, hb2⟩; have HB2 := Lib.hid hb2; clear hb2)
          go_roundw
          case rel => exact ⟨y + N, j + 1, by go_num, by go_num, by omega, by omega, Lib.hid (by rw [HY.out, szL_drop HR.out hle, HNN.out]), Lib.hid (HBB.out.trans (HB2.out.mono HBB.out.size))⟩
          case measure => simp [intOf]; omega
        · have HF := Lib.hid (HY.out.trans (szL_big hgt))
          go_wp2_with fail
          go_ret
          exact ⟨by rw [HF.out]; rfl, by rw [HF.out]; exact hy1, hb⟩
        · subst heq
          have HF := Lib.hid (show SZ = y from by rw [HY.out, List.drop_eq_nil_of_le (by rw [HQ.out]; exact Nat.le_refl _), szL])
          go_wp2_with fail
          go_ret
          exact ⟨by rw [HF.out]; rfl, by rw [HF.out]; exact hy1, hb⟩

set_option maxHeartbeats 4000000 in
theorem few13_any {w : World} {B : Nat} {t : Rt} {c : List Value} (h : RdR w B t c) (W : World) (hW : Below B w W) (hB : B ≤ W.heap.size) :
    Calls Tryd.prog 8 #[.agg c.toArray] W fun e w' => e = .returned (.bool (few13 t)) ∧ Below W.heap.size W w' := by
  have N := Lib.hid (fun V (hV : Below W.heap.size W V) => (show Calls Tryd.prog 16 #[.agg c.toArray, .int .i64 0] V _ from size_rec h 0 V (by omega) (hW.trans (hV.mono hB)) (Nat.le_trans hB (Below.size hV))))
  have HSZ := Lib.hid (show few13 t = decide (t.sz 0 ≤ 100) from rfl)
  generalize few13 t = fw at *
  generalize t.sz 0 = SZ at *
  obtain ⟨k, n, key, val, kids, kA, kc, rfl, rfl⟩ := h.inv
  clear h hW hB
  simp only [rcs] at *
  go_enter Tryd.func8, Tryd.ntmps8
  go_wp2_with (go_at_call 16; (with_reducible refine (N.out _ ((Below.refl _ _).alloc (Nat.le_refl _) _)).mono ?_); rintro e w1 ⟨rfl, hM1, hb1⟩; have HB1 := Lib.hid hb1; clear hb1)
  all_goals
    go_ret
    exact ⟨by rw [HSZ.out]; first | (simp_all; done) | (simp_all; omega), ((Below.refl _ _).alloc (Nat.le_refl _) _).trans (HB1.out.mono (by simp))⟩

end Go.Proofs.YtgiahfjndononaaDoor
