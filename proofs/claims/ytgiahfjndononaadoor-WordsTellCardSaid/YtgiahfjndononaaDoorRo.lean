/- Which policies are right: how many nodes, how deep, each node as its kind asks; the code's walk and the document's. -/
import Derived.Test.YtgiahfjndononaaDoorRn
namespace Go.Proofs.YtgiahfjndononaaDoor
open Go.RowKit
set_option linter.unusedVariables false
set_option linter.unusedSimpArgs false
set_option maxRecDepth 100000

mutual
def Rt.cnt : Rt → Nat
  | .mk _ _ _ _ kids => 1 + cntL kids
def cntL : List Rt → Nat
  | [] => 0
  | r :: rs => r.cnt + cntL rs
end
mutual
def Rt.hgt : Rt → Nat
  | .mk _ _ _ _ kids => 1 + hgtL kids
def hgtL : List Rt → Nat
  | [] => 0
  | r :: rs => max r.hgt (hgtL rs)
end
mutual
def Rt.all : Rt → Bool
  | .mk k n key val kids => oneR k n key val kids.length && allL kids
def allL : List Rt → Bool
  | [] => true
  | r :: rs => r.all && allL rs
end
theorem Rt.cnt_mk (k n : Int) (key val : ByteArray) (kids : List Rt) : (Rt.mk k n key val kids).cnt = 1 + cntL kids := by rw [Rt.cnt]
theorem Rt.hgt_mk (k n : Int) (key val : ByteArray) (kids : List Rt) : (Rt.mk k n key val kids).hgt = 1 + hgtL kids := by rw [Rt.hgt]
theorem Rt.all_mk (k n : Int) (key val : ByteArray) (kids : List Rt) : (Rt.mk k n key val kids).all = (oneR k n key val kids.length && allL kids) := by rw [Rt.all]
theorem cntL_add (a b : List Rt) : cntL (a ++ b) = cntL a + cntL b := by
  induction a with
  | nil => simp [cntL]
  | cons r a ih => rw [List.cons_append, cntL, cntL, ih]; omega
theorem hgtL_le (l : List Rt) (m : Nat) : hgtL l ≤ m ↔ ∀ r ∈ l, r.hgt ≤ m := by
  induction l with
  | nil => simp [hgtL]
  | cons r l ih => rw [hgtL, Nat.max_le, ih]; simp
theorem allL_iff (l : List Rt) : allL l = true ↔ ∀ r ∈ l, r.all = true := by
  induction l with
  | nil => simp [allL]
  | cons r l ih => rw [allL, Bool.and_eq_true, ih]; simp
theorem cntL_take {l : List Rt} {j : Nat} {r : Rt} (h : l[j]? = some r) : cntL (l.take (j + 1)) = cntL (l.take j) + r.cnt := by
  rw [List.take_add_one, h, cntL_add]
  simp [cntL]
theorem cntL_ge {l : List Rt} {j : Nat} {r : Rt} (h : l[j]? = some r) : cntL (l.take j) + r.cnt ≤ cntL l := by
  rw [← cntL_take h]
  have h2 := cntL_add (l.take (j + 1)) (l.drop (j + 1))
  rw [List.take_append_drop] at h2
  omega
theorem mem_take_succ {α : Type} {l : List α} {j : Nat} {r : α} (h : l[j]? = some r) {p : α → Prop} (h1 : ∀ x ∈ l.take j, p x) (h2 : p r) : ∀ x ∈ l.take (j + 1), p x := by
  rw [List.take_add_one, h]
  intro x hx
  rcases List.mem_append.1 hx with hx | hx
  · exact h1 x hx
  · simp at hx
    subst hx
    exact h2
/-- Right, at this depth (one more than those above), with no more nodes than that. -/
def okk (t : Rt) (d m : Int) : Bool := decide (d + (t.hgt : Int) ≤ 6) && (decide ((t.cnt : Int) ≤ m) && t.all)
def Rt.right (t : Rt) : Bool := okk t 1 20
theorem okk_true {k n : Int} {key val : ByteArray} {kids : List Rt} {d m : Int} (hd : d ≤ 5) (hone : oneR k n key val kids.length = true) (hc : 1 + (cntL kids : Int) ≤ m) (hk : ∀ r ∈ kids, d + 1 + (r.hgt : Int) ≤ 6 ∧ r.all = true) : okk (.mk k n key val kids) d m = true := by
  have ha : allL kids = true := (allL_iff kids).2 fun r hr => (hk r hr).2
  have hh : hgtL kids ≤ (5 - d).toNat := (hgtL_le kids _).2 fun r hr => by have := (hk r hr).1; omega
  unfold okk
  rw [Rt.hgt_mk, Rt.cnt_mk, Rt.all_mk, hone, ha]
  simp
  omega
theorem okk_one {k n : Int} {key val : ByteArray} {kids : List Rt} {d m : Int} (hone : oneR k n key val kids.length = false) : okk (.mk k n key val kids) d m = false := by
  unfold okk
  rw [Rt.all_mk, hone]
  simp
theorem okk_deep {k n : Int} {key val : ByteArray} {kids : List Rt} {d m : Int} (hd : 5 < d) : okk (.mk k n key val kids) d m = false := by
  unfold okk
  rw [Rt.hgt_mk]
  simp
  omega
theorem okk_many {k n : Int} {key val : ByteArray} {kids : List Rt} {d m : Int} (hd : m < 1) : okk (.mk k n key val kids) d m = false := by
  unfold okk
  rw [Rt.cnt_mk]
  simp
  omega
theorem okk_kid {k n : Int} {key val : ByteArray} {kids : List Rt} {d m y : Int} {j : Nat} {r : Rt} (hr : kids[j]? = some r) (hy : y = 1 + (cntL (kids.take j) : Int)) (h : okk r (d + 1) (m - y) = false) : okk (.mk k n key val kids) d m = false := by
  have hmem := List.mem_of_getElem? hr
  have hg := cntL_ge hr
  cases hh : okk (.mk k n key val kids) d m
  · rfl
  · exfalso
    unfold okk at hh h
    rw [Rt.hgt_mk, Rt.cnt_mk, Rt.all_mk] at hh
    simp only [Bool.and_eq_true, decide_eq_true_eq] at hh
    obtain ⟨a1, a2, a3, a4⟩ := hh
    have b1 := (hgtL_le kids _).1 (Nat.le_refl _) r hmem
    have b2 := (allL_iff kids).1 a4 r hmem
    rw [b2] at h
    simp at h
    omega
theorem Rt.right_iff (t : Rt) : t.right = true ↔ t.hgt ≤ 5 ∧ t.cnt ≤ 20 ∧ t.all = true := by
  unfold Rt.right okk
  simp only [Bool.and_eq_true, decide_eq_true_eq]
  constructor
  · rintro ⟨h1, h2, h3⟩
    exact ⟨by omega, by omega, h3⟩
  · rintro ⟨h1, h2, h3⟩
    exact ⟨by omega, by omega, h3⟩

set_option maxHeartbeats 16000000 in
theorem nodes_rec {w : World} {B : Nat} {t : Rt} {c : List Value} (h : RdR w B t c) : ∀ (d m : Int) (W : World), 0 ≤ d → d ≤ 6 → 0 ≤ m → m ≤ 20 → Below B w W → B ≤ W.heap.size →
    Calls Tryd.prog 37 #[.agg c.toArray, .int .i64 d, .int .i64 m] W fun e w' => e = .returned (.tuple #[.int .i64 (if okk t d m = true then (t.cnt : Int) else 0), .bool (okk t d m)]) ∧ Below W.heap.size W w' := by
  induction h with
  | mk k n key val kids kA kc cs h1 h2 h3 h4 h5 h6 hrow hkid ih =>
    intro d m W hd0 hd hm0 hm hW hBW
    have RN := Lib.hid (fun V => rnode_all k n key val kA kids.length kc V h3 h4 h5 h6)
    generalize ho : oneR k n key val kids.length = oo at RN
    have HO := Lib.hid ho
    have HROW := Lib.hid hrow
    have HKID := Lib.hid hkid
    have IH := Lib.hid ih
    have HW := Lib.hid hW
    have HBW := Lib.hid hBW
    clear ho hrow hkid ih hW hBW
    simp only [maxLen] at h5 h6
    obtain ⟨q, hq⟩ : ∃ q, kids.length = q := ⟨_, rfl⟩
    have HQ := Lib.hid hq
    simp only [rcs, hq] at RN ⊢
    rw [hq] at h5
    generalize hok : okk (.mk k n key val kids) d m = ok at *
    have HOK := Lib.hid hok
    generalize hct : (Rt.mk k n key val kids).cnt = ct at *
    have HCT := Lib.hid hct
    generalize hrv : (if ok = true then (ct : Int) else 0) = rv at *
    have HRV := Lib.hid hrv
    clear hq hok hct hrv h1 h2 h3 h4
    have hcase : 5 < d ∨ (d ≤ 5 ∧ m < 1) ∨ (d ≤ 5 ∧ 1 ≤ m) := by omega
    rcases hcase with g1 | ⟨g1, g2⟩ | ⟨g1, g2⟩
    · have HF : Hid (ok = false) := Lib.hid (by rw [← HOK.out]; exact okk_deep g1)
      go_enter Tryd.func37, Tryd.ntmps37
      go_wp2_with fail
      go_ret2
      exact ⟨by rw [← HRV.out, HF.out]; rfl, (Below.refl _ _).alloc (Nat.le_refl _) _⟩
    · have HF : Hid (ok = false) := Lib.hid (by rw [← HOK.out]; exact okk_many g2)
      go_enter Tryd.func37, Tryd.ntmps37
      go_wp2_with fail
      go_ret2
      exact ⟨by rw [← HRV.out, HF.out]; rfl, (Below.refl _ _).alloc (Nat.le_refl _) _⟩
    cases oo
    · have HF : Hid (ok = false) := Lib.hid (by rw [← HOK.out]; exact okk_one HO.out)
      go_enter Tryd.func37, Tryd.ntmps37
      go_wp2_with (go_at_call 48; (with_reducible refine (RN.out _).mono ?_); rintro e w1 ⟨rfl, hb1⟩; have HB1 := Lib.hid hb1; clear hb1)
      go_ret2
      exact ⟨by rw [← HRV.out, HF.out]; rfl, ((Below.refl _ _).alloc (Nat.le_refl _) _).trans (HB1.out.mono (by simp))⟩
    · go_enter Tryd.func37, Tryd.ntmps37
      go_wp2_with (go_at_call 48; (with_reducible refine (RN.out _).mono ?_); rintro e w1 ⟨rfl, hb1⟩; obtain ⟨hc, hf⟩ := bcell hb1; have HB1 := Lib.hid (((Below.refl W.heap.size W).alloc (Nat.le_refl _) _).trans (hb1.mono (by simp))); clear hb1)
      clear hc hf
      have HBX : Hid (Below W.heap.size W w1) := HB1
      clear HB1 RN
      go_loopw [8, 27] (fun x i wr => ∃ (y : Int) (j : Nat), x = .int .i64 y ∧ i = .int .i64 j ∧ j ≤ q ∧ 1 ≤ y ∧ y ≤ m ∧ Hid (y = 1 + (cntL (kids.take j) : Int) ∧ (∀ r ∈ kids.take j, d + 1 + (r.hgt : Int) ≤ 6 ∧ r.all = true)) ∧ Hid (Below W.heap.size W wr)) (fun _ i _ => q - (intOf i).toNat)
      case atStart => exact ⟨1, 0, rfl, rfl, by omega, by omega, by omega, Lib.hid ⟨by simp [cntL], by simp⟩, HBX⟩
      case round =>
        obtain ⟨y, j, rfl, rfl, hj, hy1, hy2, HY, HB⟩ := hrel
        by_cases hlt : j < q
        · obtain ⟨r, hr⟩ : ∃ r, kids[j]? = some r := ⟨_, List.getElem?_eq_getElem (by rw [HQ.out]; exact hlt)⟩
          have hww : Below B w wr := HW.out.trans (HB.out.mono HBW.out)
          obtain ⟨a, k', n', key', val', A', q', qc', ha, hab, hrr, ec, c0, c1, c2, c3, c4⟩ := kid_cells (HROW.out.keep fun _ hp => hww.cell hp) (fun i r h => (HKID.out i r h).low hww) hr
          have hBwr : B ≤ wr.heap.size := Nat.le_trans HBW.out HB.out.size
          have I := IH.out j r hr (d + 1) (m - y)
          rw [ec] at I
          simp only [rcs] at I
          have HI : Hid (∀ V, Below wr.heap.size wr V → Calls Tryd.prog 37 #[.agg #[.int .i64 k', .int .i64 n', .string key', .string val', .slice A' q' qc'], .int .i64 (d + 1), .int .i64 (m - y)] V fun e w' => e = .returned (.tuple #[.int .i64 (if okk r (d + 1) (m - y) = true then (r.cnt : Int) else 0), .bool (okk r (d + 1) (m - y))]) ∧ Below V.heap.size V w') :=
            Lib.hid (fun V hV => I V (by omega) (by omega) (by omega) (by omega) (hww.trans (hV.mono hBwr)) (Nat.le_trans hBwr hV.size))
          clear I
          subst ha
          have HR := Lib.hid hr
          have hab2 : a.block < wr.heap.size := by omega
          clear hr hww hrr ec hBwr hab
          generalize hz : okk r (d + 1) (m - y) = z at HI
          have HZ := Lib.hid hz
          clear hz
          generalize hcr : (r.cnt : Int) = cr at HI
          have HCR := Lib.hid hcr
          have hcr0 : 0 ≤ cr := by omega
          clear hcr
          cases z
          · have HF : Hid (ok = false) := Lib.hid (by rw [← HOK.out]; exact okk_kid HR.out HY.out.1 HZ.out)
            simp only [Bool.false_eq_true, if_false] at HI
            go_wp2_with (go_at_call 37; (with_reducible refine (HI.out _ ((Below.refl _ _).alloc (Nat.le_refl _) _)).mono ?_); rintro e w2 ⟨rfl, hb2⟩; have HB2 := Lib.hid hb2; clear hb2)
            go_ret2
            refine ⟨by rw [← HRV.out, HF.out]; rfl, HB.out.trans (Below.trans ((Below.refl _ _).alloc (Nat.le_refl _) _) (HB2.out.mono ?_) |>.mono HB.out.size)⟩
            simp
          · simp only [if_true] at HI
            have hm2 : cr ≤ m - y := by
              have h := HZ.out
              unfold okk at h
              simp only [Bool.and_eq_true, decide_eq_true_eq] at h
              rw [HCR.out] at h
              exact h.2.1
            go_wp2_with (go_at_call 37; (with_reducible refine (HI.out _ ((Below.refl _ _).alloc (Nat.le_refl _) _)).mono ?_); rintro e w2 ⟨rfl, hb2⟩; have HB2 := Lib.hid hb2; clear hb2)
            go_roundw
            case rel =>
              refine ⟨y + cr, j + 1, by go_num, by go_num, by omega, by omega, by omega, Lib.hid ⟨?_, ?_⟩, Lib.hid (HB.out.trans (Below.trans ((Below.refl _ _).alloc (Nat.le_refl _) _) (HB2.out.mono (by simp)) |>.mono HB.out.size))⟩
              · rw [cntL_take HR.out, HY.out.1, ← HCR.out]
                omega
              · have h := HZ.out
                unfold okk at h
                simp only [Bool.and_eq_true, decide_eq_true_eq] at h
                exact mem_take_succ HR.out HY.out.2 ⟨h.1, h.2.2⟩
            case measure => simp [intOf]; omega
        · obtain rfl : j = q := by omega
          have HF : Hid (ok = true ∧ y = (ct : Int)) := Lib.hid (by
            have hy := HY.out
            rw [List.take_of_length_le (by rw [HQ.out]; exact Nat.le_refl _)] at hy
            refine ⟨by rw [← HOK.out]; exact okk_true g1 HO.out (by omega) hy.2, ?_⟩
            rw [← HCT.out, Rt.cnt_mk, hy.1]
            omega)
          go_wp2_with fail
          go_ret2
          exact ⟨by rw [← HRV.out, HF.out.1, HF.out.2]; rfl, HB.out⟩
end Go.Proofs.YtgiahfjndononaaDoor
