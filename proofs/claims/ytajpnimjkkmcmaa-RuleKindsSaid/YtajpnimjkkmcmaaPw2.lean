/- The document's addRule, RuleBytes. -/
import Derived.Test.YtajpnimjkkmcmaaPv
import Derived.Deep.RegionHeld3
namespace Go.Proofs.Ytajpnimjkkmcmaa
open Go.RowKit
set_option linter.unusedVariables false
set_option linter.unusedSimpArgs false
set_option maxRecDepth 100000

set_option maxHeartbeats 16000000 in
theorem addrule_rec {w : World} {B : Nat} {t : Rt} {c : List Value} (h : RdR w B t c) : ∀ (base : Nat) (v : Value) (l : List UInt8) (W : World), t.all = true → Below B w W → B ≤ base → base ≤ W.heap.size → W.ownsRow base 5 1 v l.length (l.map B8) → l.length + t.bts.length ≤ 1000000 →
    Calls Try.prog 49 #[v, .agg c.toArray] W (PutOf base v (l ++ t.bts) W) := by
  induction h with
  | mk k n key val kids kA kc cs g1 g2 g3 g4 g5 g6 hrow hkid ih =>
    intro base v l W hall hW hBb hbW hown hlen
    rw [Rt.all_mk, Bool.and_eq_true] at hall
    obtain ⟨hone, hkall⟩ := hall
    have hkinds : k = 1 ∨ k = 2 ∨ k = 3 ∨ k = 4 ∨ k = 5 ∨ k = 6 ∨ k = 7 ∨ k = 8 ∨ k = 9 := by have := one_range hone; omega
    have HONE := Lib.hid hone
    have HKA := Lib.hid hkall
    have HROW := Lib.hid hrow
    have HKID := Lib.hid hkid
    have IH := Lib.hid ih
    have HW := Lib.hid hW
    have HBB := Lib.hid hBb
    have HBW := Lib.hid hbW
    have HO := Lib.hid hown
    have HBT := Lib.hid (Rt.bts_mk k n key val kids)
    have HLEN := Lib.hid hlen
    obtain ⟨m, hm⟩ : ∃ m, kids.length = m := ⟨_, rfl⟩
    have HQ := Lib.hid hm
    simp only [rcs, hm] at ⊢
    rw [hm] at g5
    simp only [maxLen] at g6
    have hkl : key.size ≤ maxLen := g3
    clear hone hkall hrow hkid ih hW hBb hbW hown hlen hm g1 g2 g3 g4
    rcases hkinds with rfl | rfl | rfl | rfl | rfl | rfl | rfl | rfl | rfl
    · have HBX := Lib.hid ((Below.refl W.heap.size W).alloc (Nat.le_refl _) (.cells #[.int .i64 1, .int .i64 n, .string key, .string val, .slice kA m kc] 43))
      have HR0 := Lib.hid (heap_alloc_new W (.cells #[.int .i64 1, .int .i64 n, .string key, .string val, .slice kA m kc] 43))
      have HOX := Lib.hid (HO.out.alloc (.cells #[.int .i64 1, .int .i64 n, .string key, .string val, .slice kA m kc] 43))
      have HZX := Lib.hid (show base ≤ (W.alloc (.cells #[.int .i64 1, .int .i64 n, .string key, .string val, .slice kA m kc] 43)).heap.size from Nat.le_trans HBW.out HBX.out.size)
      have HGX : Hid (∀ w' v', Grew (W.alloc (.cells #[.int .i64 1, .int .i64 n, .string key, .string val, .slice kA m kc] 43)) w' v v' → Grew W w' v v') := Lib.hid (fun w' v' h => h.alloc)
      have HA := Lib.hid (fun ty => app1c (ty := ty) (y := 1) (x := UInt8.ofNat (1 : Int).toNat) HOX.out rfl HZX.out (by have := HLEN.out; omega) (show (W.alloc (.cells #[.int .i64 1, .int .i64 n, .string key, .string val, .slice kA m kc] 43)).heap.size = W.heap.size + 1 from by simp))
      go_enter Try.func49, Try.ntmps49
      go_wp2_with (first
        | (have hd := done1; clear done1; go_at_call 68; (with_reducible refine (rput_calls base _ _ m _ HO1.out HZ1.out (by have := HLEN.out; simp only [List.length_append, List.length_singleton]; omega) (by omega)).mono ?_); rintro e w2 ⟨v2, rfl, ho2, hg2⟩; have HR2 := Lib.hid (box_grew HO1.out hg2 HR1.out (by decide)); have HO2 := Lib.hid ho2; have HG2 := Lib.hid (HG1.out.trans hg2); have HZ2 := Lib.hid (Nat.le_trans HZ1.out hg2.grown.size); (try clear c0 c1 c2 c3 c4); have c0 : w2.cell? ⟨W.heap.size, 0, none⟩ = some (.int .i64 1) := cell_of_row _ _ 0 _ _ (0, 0) HR2.out; have c1 : w2.cell? ⟨W.heap.size, 1, none⟩ = some (.int .i64 n) := cell_of_row _ _ 1 _ _ (0, 0) HR2.out; have c2 : w2.cell? ⟨W.heap.size, 2, none⟩ = some (.string key) := cell_of_row _ _ 2 _ _ (0, 0) HR2.out; have c3 : w2.cell? ⟨W.heap.size, 3, none⟩ = some (.string val) := cell_of_row _ _ 3 _ _ (0, 0) HR2.out; have c4 : w2.cell? ⟨W.heap.size, 4, none⟩ = some (.slice kA m kc) := cell_of_row _ _ 4 _ _ (0, 0) HR2.out; clear ho2 hg2)
        | (at_builtin; go_loud ((refine wpList_app rfl (.tmp 6) (.tmp 10) _ _ rfl rfl rfl (HA.out _) ?_); rintro v1 w1 ⟨ho1, hg1⟩; have HR1 := Lib.hid (box_grew HOX.out hg1 HR0.out (by decide)); have HO1 := Lib.hid (show w1.ownsRow base 5 1 v1 (l ++ [UInt8.ofNat (1 : Int).toNat]).length ((l ++ [UInt8.ofNat (1 : Int).toNat]).map B8) from (by have h := ho1; simp only [List.length_append, List.length_singleton]; exact h)); have HG1 := Lib.hid (HGX.out _ _ hg1); have HZ1 := Lib.hid (Nat.le_trans HZX.out hg1.grown.size); have c0 : w1.cell? ⟨W.heap.size, 0, none⟩ = some (.int .i64 1) := cell_of_row _ _ 0 _ _ (0, 0) HR1.out; have c1 : w1.cell? ⟨W.heap.size, 1, none⟩ = some (.int .i64 n) := cell_of_row _ _ 1 _ _ (0, 0) HR1.out; have c2 : w1.cell? ⟨W.heap.size, 2, none⟩ = some (.string key) := cell_of_row _ _ 2 _ _ (0, 0) HR1.out; have c3 : w1.cell? ⟨W.heap.size, 3, none⟩ = some (.string val) := cell_of_row _ _ 3 _ _ (0, 0) HR1.out; have c4 : w1.cell? ⟨W.heap.size, 4, none⟩ = some (.slice kA m kc) := cell_of_row _ _ 4 _ _ (0, 0) HR1.out; clear ho1 hg1; have done1 := trivial)))
      obtain ⟨hd, HHD⟩ : ∃ hd, Hid (hd = l ++ [UInt8.ofNat (1 : Int).toNat] ++ Mi.put m) := ⟨_, Lib.hid rfl⟩
      have HBT2 : Hid (l ++ (Rt.mk 1 n key val kids).bts = hd ++ btsL kids) := Lib.hid (by rw [HBT.out, HHD.out, ← HQ.out]; simp)
      have HO3 : Hid (w2.ownsRow base 5 1 v2 (hd ++ btsL (kids.take 0)).length ((hd ++ btsL (kids.take 0)).map B8)) := Lib.hid (by have h := HO2.out; rw [HHD.out]; simpa [btsL] using h)
      go_loopw [0, 5] (fun b i wr => ∃ (j : Nat), i = .int .i64 (j : Int) ∧ j ≤ m ∧ Hid (wr.ownsRow base 5 1 b (hd ++ btsL (kids.take j)).length ((hd ++ btsL (kids.take j)).map B8)) ∧ Hid (wr.heap[W.heap.size]? = some (.cells #[.int .i64 1, .int .i64 n, .string key, .string val, .slice kA m kc] 43)) ∧ Hid (Grew W wr v b) ∧ Hid (base ≤ wr.heap.size)) (fun _ i _ => m - (intOf i).toNat)
      case atStart => exact ⟨0, rfl, by omega, HO3, HR2, HG2, HZ2⟩
      case round =>
        clear c0 c1 c2 c3 c4
        obtain ⟨j, rfl, hj, HOJ, HRJ, HGJ, HZJ⟩ := hrel
        have c0 : wr.cell? ⟨W.heap.size, 0, none⟩ = some (.int .i64 1) := cell_of_row _ _ 0 _ _ (0, 0) HRJ.out; have c1 : wr.cell? ⟨W.heap.size, 1, none⟩ = some (.int .i64 n) := cell_of_row _ _ 1 _ _ (0, 0) HRJ.out; have c2 : wr.cell? ⟨W.heap.size, 2, none⟩ = some (.string key) := cell_of_row _ _ 2 _ _ (0, 0) HRJ.out; have c3 : wr.cell? ⟨W.heap.size, 3, none⟩ = some (.string val) := cell_of_row _ _ 3 _ _ (0, 0) HRJ.out; have c4 : wr.cell? ⟨W.heap.size, 4, none⟩ = some (.slice kA m kc) := cell_of_row _ _ 4 _ _ (0, 0) HRJ.out
        by_cases hlt : j < m
        · obtain ⟨r, hr⟩ : ∃ r, kids[j]? = some r := ⟨_, List.getElem?_eq_getElem (by rw [HQ.out]; exact hlt)⟩
          have hww : Below B w wr := HGJ.out.below HW.out (Nat.le_trans HBB.out HBW.out) (fun q hq => Nat.le_trans HBB.out (own_block_ge HO.out q hq))
          obtain ⟨a, k', n', key', val', A', q', qc', ha, hab, hrr, ec, d0, d1, d2, d3, d4⟩ := kid_cells (HROW.out.keep fun _ hp => hww.cell hp) (fun i r h => (HKID.out i r h).low hww) hr
          have hBwr : B ≤ wr.heap.size := Nat.le_trans HBB.out HZJ.out
          have hbt : (hd ++ btsL (kids.take j)).length + r.bts.length ≤ 1000000 := by
            have h := HLEN.out
            have e : l.length + (Rt.mk 1 n key val kids).bts.length = (hd ++ btsL kids).length := by rw [← HBT2.out]; simp
            rw [e] at h
            have e2 := btsL_ge hr
            simp only [List.length_append] at h ⊢
            omega
          have HI := Lib.hid (fun V (hV : Below wr.heap.size wr V) (x : Value) (ho : V.ownsRow base 5 1 x (hd ++ btsL (kids.take j)).length ((hd ++ btsL (kids.take j)).map B8)) => IH.out j r hr base x (hd ++ btsL (kids.take j)) V ((allL_iff kids).1 HKA.out r (List.mem_of_getElem? hr)) (hww.trans (hV.mono hBwr)) HBB.out (Nat.le_trans HZJ.out hV.size) ho hbt)
          rw [ec] at HI
          simp only [rcs] at HI
          have HR := Lib.hid hr
          subst ha
          have hab2 : a.block < wr.heap.size := by omega
          have hab3 : a.block ≠ wr.heap.size := by omega
          clear hr hww hrr ec hBwr hab hbt
          have HBA := Lib.hid (show ∀ o, Below wr.heap.size wr (wr.alloc o) from fun o => (Below.refl _ _).alloc (Nat.le_refl _) o)
          go_wp2_with (go_at_call 49; (with_reducible refine (HI.out _ (Below.refl _ _) _ HOJ.out).mono ?_); rintro e w3 ⟨v3, rfl, ho3, hg3⟩; have HO3 := Lib.hid ho3; have HG3 := Lib.hid (HGJ.out.trans hg3); have HZ3 := Lib.hid (Nat.le_trans HZJ.out hg3.grown.size); have HR3 := Lib.hid (box_grew HOJ.out hg3 HRJ.out (by decide)); clear ho3 hg3)
          go_roundw
          case rel =>
            refine ⟨j + 1, by go_num, by omega, ?_, HR3, HG3, HZ3⟩
            have h := HO3.out
            rw [List.append_assoc, ← btsL_take HR.out] at h
            exact Lib.hid h
          case measure => simp [intOf]; omega
        · obtain rfl : j = m := by omega
          have HOE : Hid (wr.ownsRow base 5 1 u0 (l ++ (Rt.mk 1 n key val kids).bts).length ((l ++ (Rt.mk 1 n key val kids).bts).map B8)) := Lib.hid (by
            have h := HOJ.out
            rw [List.take_of_length_le (by rw [HQ.out]; exact Nat.le_refl _), ← HBT2.out] at h
            exact h)
          go_wp2_with fail
          go_ret
          exact ⟨_, rfl, HOE.out, HGJ.out⟩
    · have HBX := Lib.hid ((Below.refl W.heap.size W).alloc (Nat.le_refl _) (.cells #[.int .i64 2, .int .i64 n, .string key, .string val, .slice kA m kc] 43))
      have HR0 := Lib.hid (heap_alloc_new W (.cells #[.int .i64 2, .int .i64 n, .string key, .string val, .slice kA m kc] 43))
      have HOX := Lib.hid (HO.out.alloc (.cells #[.int .i64 2, .int .i64 n, .string key, .string val, .slice kA m kc] 43))
      have HZX := Lib.hid (show base ≤ (W.alloc (.cells #[.int .i64 2, .int .i64 n, .string key, .string val, .slice kA m kc] 43)).heap.size from Nat.le_trans HBW.out HBX.out.size)
      have HGX : Hid (∀ w' v', Grew (W.alloc (.cells #[.int .i64 2, .int .i64 n, .string key, .string val, .slice kA m kc] 43)) w' v v' → Grew W w' v v') := Lib.hid (fun w' v' h => h.alloc)
      have HA := Lib.hid (fun ty => app1c (ty := ty) (y := 2) (x := UInt8.ofNat (2 : Int).toNat) HOX.out rfl HZX.out (by have := HLEN.out; omega) (show (W.alloc (.cells #[.int .i64 2, .int .i64 n, .string key, .string val, .slice kA m kc] 43)).heap.size = W.heap.size + 1 from by simp))
      go_enter Try.func49, Try.ntmps49
      go_wp2_with (first
        | (have hd := done1; clear done1; go_at_call 68; (with_reducible refine (rput_calls base _ _ m _ HO1.out HZ1.out (by have := HLEN.out; simp only [List.length_append, List.length_singleton]; omega) (by omega)).mono ?_); rintro e w2 ⟨v2, rfl, ho2, hg2⟩; have HR2 := Lib.hid (box_grew HO1.out hg2 HR1.out (by decide)); have HO2 := Lib.hid ho2; have HG2 := Lib.hid (HG1.out.trans hg2); have HZ2 := Lib.hid (Nat.le_trans HZ1.out hg2.grown.size); (try clear c0 c1 c2 c3 c4); have c0 : w2.cell? ⟨W.heap.size, 0, none⟩ = some (.int .i64 2) := cell_of_row _ _ 0 _ _ (0, 0) HR2.out; have c1 : w2.cell? ⟨W.heap.size, 1, none⟩ = some (.int .i64 n) := cell_of_row _ _ 1 _ _ (0, 0) HR2.out; have c2 : w2.cell? ⟨W.heap.size, 2, none⟩ = some (.string key) := cell_of_row _ _ 2 _ _ (0, 0) HR2.out; have c3 : w2.cell? ⟨W.heap.size, 3, none⟩ = some (.string val) := cell_of_row _ _ 3 _ _ (0, 0) HR2.out; have c4 : w2.cell? ⟨W.heap.size, 4, none⟩ = some (.slice kA m kc) := cell_of_row _ _ 4 _ _ (0, 0) HR2.out; clear ho2 hg2)
        | (at_builtin; go_loud ((refine wpList_app rfl (.tmp 6) (.tmp 10) _ _ rfl rfl rfl (HA.out _) ?_); rintro v1 w1 ⟨ho1, hg1⟩; have HR1 := Lib.hid (box_grew HOX.out hg1 HR0.out (by decide)); have HO1 := Lib.hid (show w1.ownsRow base 5 1 v1 (l ++ [UInt8.ofNat (2 : Int).toNat]).length ((l ++ [UInt8.ofNat (2 : Int).toNat]).map B8) from (by have h := ho1; simp only [List.length_append, List.length_singleton]; exact h)); have HG1 := Lib.hid (HGX.out _ _ hg1); have HZ1 := Lib.hid (Nat.le_trans HZX.out hg1.grown.size); have c0 : w1.cell? ⟨W.heap.size, 0, none⟩ = some (.int .i64 2) := cell_of_row _ _ 0 _ _ (0, 0) HR1.out; have c1 : w1.cell? ⟨W.heap.size, 1, none⟩ = some (.int .i64 n) := cell_of_row _ _ 1 _ _ (0, 0) HR1.out; have c2 : w1.cell? ⟨W.heap.size, 2, none⟩ = some (.string key) := cell_of_row _ _ 2 _ _ (0, 0) HR1.out; have c3 : w1.cell? ⟨W.heap.size, 3, none⟩ = some (.string val) := cell_of_row _ _ 3 _ _ (0, 0) HR1.out; have c4 : w1.cell? ⟨W.heap.size, 4, none⟩ = some (.slice kA m kc) := cell_of_row _ _ 4 _ _ (0, 0) HR1.out; clear ho1 hg1; have done1 := trivial)))
      obtain ⟨hd, HHD⟩ : ∃ hd, Hid (hd = l ++ [UInt8.ofNat (2 : Int).toNat] ++ Mi.put m) := ⟨_, Lib.hid rfl⟩
      have HBT2 : Hid (l ++ (Rt.mk 2 n key val kids).bts = hd ++ btsL kids) := Lib.hid (by rw [HBT.out, HHD.out, ← HQ.out]; simp)
      have HO3 : Hid (w2.ownsRow base 5 1 v2 (hd ++ btsL (kids.take 0)).length ((hd ++ btsL (kids.take 0)).map B8)) := Lib.hid (by have h := HO2.out; rw [HHD.out]; simpa [btsL] using h)
      go_loopw [0, 5] (fun b i wr => ∃ (j : Nat), i = .int .i64 (j : Int) ∧ j ≤ m ∧ Hid (wr.ownsRow base 5 1 b (hd ++ btsL (kids.take j)).length ((hd ++ btsL (kids.take j)).map B8)) ∧ Hid (wr.heap[W.heap.size]? = some (.cells #[.int .i64 2, .int .i64 n, .string key, .string val, .slice kA m kc] 43)) ∧ Hid (Grew W wr v b) ∧ Hid (base ≤ wr.heap.size)) (fun _ i _ => m - (intOf i).toNat)
      case atStart => exact ⟨0, rfl, by omega, HO3, HR2, HG2, HZ2⟩
      case round =>
        clear c0 c1 c2 c3 c4
        obtain ⟨j, rfl, hj, HOJ, HRJ, HGJ, HZJ⟩ := hrel
        have c0 : wr.cell? ⟨W.heap.size, 0, none⟩ = some (.int .i64 2) := cell_of_row _ _ 0 _ _ (0, 0) HRJ.out; have c1 : wr.cell? ⟨W.heap.size, 1, none⟩ = some (.int .i64 n) := cell_of_row _ _ 1 _ _ (0, 0) HRJ.out; have c2 : wr.cell? ⟨W.heap.size, 2, none⟩ = some (.string key) := cell_of_row _ _ 2 _ _ (0, 0) HRJ.out; have c3 : wr.cell? ⟨W.heap.size, 3, none⟩ = some (.string val) := cell_of_row _ _ 3 _ _ (0, 0) HRJ.out; have c4 : wr.cell? ⟨W.heap.size, 4, none⟩ = some (.slice kA m kc) := cell_of_row _ _ 4 _ _ (0, 0) HRJ.out
        by_cases hlt : j < m
        · obtain ⟨r, hr⟩ : ∃ r, kids[j]? = some r := ⟨_, List.getElem?_eq_getElem (by rw [HQ.out]; exact hlt)⟩
          have hww : Below B w wr := HGJ.out.below HW.out (Nat.le_trans HBB.out HBW.out) (fun q hq => Nat.le_trans HBB.out (own_block_ge HO.out q hq))
          obtain ⟨a, k', n', key', val', A', q', qc', ha, hab, hrr, ec, d0, d1, d2, d3, d4⟩ := kid_cells (HROW.out.keep fun _ hp => hww.cell hp) (fun i r h => (HKID.out i r h).low hww) hr
          have hBwr : B ≤ wr.heap.size := Nat.le_trans HBB.out HZJ.out
          have hbt : (hd ++ btsL (kids.take j)).length + r.bts.length ≤ 1000000 := by
            have h := HLEN.out
            have e : l.length + (Rt.mk 2 n key val kids).bts.length = (hd ++ btsL kids).length := by rw [← HBT2.out]; simp
            rw [e] at h
            have e2 := btsL_ge hr
            simp only [List.length_append] at h ⊢
            omega
          have HI := Lib.hid (fun V (hV : Below wr.heap.size wr V) (x : Value) (ho : V.ownsRow base 5 1 x (hd ++ btsL (kids.take j)).length ((hd ++ btsL (kids.take j)).map B8)) => IH.out j r hr base x (hd ++ btsL (kids.take j)) V ((allL_iff kids).1 HKA.out r (List.mem_of_getElem? hr)) (hww.trans (hV.mono hBwr)) HBB.out (Nat.le_trans HZJ.out hV.size) ho hbt)
          rw [ec] at HI
          simp only [rcs] at HI
          have HR := Lib.hid hr
          subst ha
          have hab2 : a.block < wr.heap.size := by omega
          have hab3 : a.block ≠ wr.heap.size := by omega
          clear hr hww hrr ec hBwr hab hbt
          have HBA := Lib.hid (show ∀ o, Below wr.heap.size wr (wr.alloc o) from fun o => (Below.refl _ _).alloc (Nat.le_refl _) o)
          go_wp2_with (go_at_call 49; (with_reducible refine (HI.out _ (Below.refl _ _) _ HOJ.out).mono ?_); rintro e w3 ⟨v3, rfl, ho3, hg3⟩; have HO3 := Lib.hid ho3; have HG3 := Lib.hid (HGJ.out.trans hg3); have HZ3 := Lib.hid (Nat.le_trans HZJ.out hg3.grown.size); have HR3 := Lib.hid (box_grew HOJ.out hg3 HRJ.out (by decide)); clear ho3 hg3)
          go_roundw
          case rel =>
            refine ⟨j + 1, by go_num, by omega, ?_, HR3, HG3, HZ3⟩
            have h := HO3.out
            rw [List.append_assoc, ← btsL_take HR.out] at h
            exact Lib.hid h
          case measure => simp [intOf]; omega
        · obtain rfl : j = m := by omega
          have HOE : Hid (wr.ownsRow base 5 1 u0 (l ++ (Rt.mk 2 n key val kids).bts).length ((l ++ (Rt.mk 2 n key val kids).bts).map B8)) := Lib.hid (by
            have h := HOJ.out
            rw [List.take_of_length_le (by rw [HQ.out]; exact Nat.le_refl _), ← HBT2.out] at h
            exact h)
          go_wp2_with fail
          go_ret
          exact ⟨_, rfl, HOE.out, HGJ.out⟩
    · have HBX := Lib.hid ((Below.refl W.heap.size W).alloc (Nat.le_refl _) (.cells #[.int .i64 3, .int .i64 n, .string key, .string val, .slice kA m kc] 43))
      have HR0 := Lib.hid (heap_alloc_new W (.cells #[.int .i64 3, .int .i64 n, .string key, .string val, .slice kA m kc] 43))
      have HOX := Lib.hid (HO.out.alloc (.cells #[.int .i64 3, .int .i64 n, .string key, .string val, .slice kA m kc] 43))
      have HZX := Lib.hid (show base ≤ (W.alloc (.cells #[.int .i64 3, .int .i64 n, .string key, .string val, .slice kA m kc] 43)).heap.size from Nat.le_trans HBW.out HBX.out.size)
      have HGX : Hid (∀ w' v', Grew (W.alloc (.cells #[.int .i64 3, .int .i64 n, .string key, .string val, .slice kA m kc] 43)) w' v v' → Grew W w' v v') := Lib.hid (fun w' v' h => h.alloc)
      have HA := Lib.hid (fun ty => app1c (ty := ty) (y := 3) (x := UInt8.ofNat (3 : Int).toNat) HOX.out rfl HZX.out (by have := HLEN.out; omega) (show (W.alloc (.cells #[.int .i64 3, .int .i64 n, .string key, .string val, .slice kA m kc] 43)).heap.size = W.heap.size + 1 from by simp))
      go_enter Try.func49, Try.ntmps49
      go_wp2_with (first
        | (have hd := done1; clear done1; go_at_call 68; (with_reducible refine (rput_calls base _ _ m _ HO1.out HZ1.out (by have := HLEN.out; simp only [List.length_append, List.length_singleton]; omega) (by omega)).mono ?_); rintro e w2 ⟨v2, rfl, ho2, hg2⟩; have HR2 := Lib.hid (box_grew HO1.out hg2 HR1.out (by decide)); have HO2 := Lib.hid ho2; have HG2 := Lib.hid (HG1.out.trans hg2); have HZ2 := Lib.hid (Nat.le_trans HZ1.out hg2.grown.size); (try clear c0 c1 c2 c3 c4); have c0 : w2.cell? ⟨W.heap.size, 0, none⟩ = some (.int .i64 3) := cell_of_row _ _ 0 _ _ (0, 0) HR2.out; have c1 : w2.cell? ⟨W.heap.size, 1, none⟩ = some (.int .i64 n) := cell_of_row _ _ 1 _ _ (0, 0) HR2.out; have c2 : w2.cell? ⟨W.heap.size, 2, none⟩ = some (.string key) := cell_of_row _ _ 2 _ _ (0, 0) HR2.out; have c3 : w2.cell? ⟨W.heap.size, 3, none⟩ = some (.string val) := cell_of_row _ _ 3 _ _ (0, 0) HR2.out; have c4 : w2.cell? ⟨W.heap.size, 4, none⟩ = some (.slice kA m kc) := cell_of_row _ _ 4 _ _ (0, 0) HR2.out; clear ho2 hg2)
        | (at_builtin; go_loud ((refine wpList_app rfl (.tmp 6) (.tmp 10) _ _ rfl rfl rfl (HA.out _) ?_); rintro v1 w1 ⟨ho1, hg1⟩; have HR1 := Lib.hid (box_grew HOX.out hg1 HR0.out (by decide)); have HO1 := Lib.hid (show w1.ownsRow base 5 1 v1 (l ++ [UInt8.ofNat (3 : Int).toNat]).length ((l ++ [UInt8.ofNat (3 : Int).toNat]).map B8) from (by have h := ho1; simp only [List.length_append, List.length_singleton]; exact h)); have HG1 := Lib.hid (HGX.out _ _ hg1); have HZ1 := Lib.hid (Nat.le_trans HZX.out hg1.grown.size); have c0 : w1.cell? ⟨W.heap.size, 0, none⟩ = some (.int .i64 3) := cell_of_row _ _ 0 _ _ (0, 0) HR1.out; have c1 : w1.cell? ⟨W.heap.size, 1, none⟩ = some (.int .i64 n) := cell_of_row _ _ 1 _ _ (0, 0) HR1.out; have c2 : w1.cell? ⟨W.heap.size, 2, none⟩ = some (.string key) := cell_of_row _ _ 2 _ _ (0, 0) HR1.out; have c3 : w1.cell? ⟨W.heap.size, 3, none⟩ = some (.string val) := cell_of_row _ _ 3 _ _ (0, 0) HR1.out; have c4 : w1.cell? ⟨W.heap.size, 4, none⟩ = some (.slice kA m kc) := cell_of_row _ _ 4 _ _ (0, 0) HR1.out; clear ho1 hg1; have done1 := trivial)))
      obtain ⟨hd, HHD⟩ : ∃ hd, Hid (hd = l ++ [UInt8.ofNat (3 : Int).toNat] ++ Mi.put m) := ⟨_, Lib.hid rfl⟩
      have HBT2 : Hid (l ++ (Rt.mk 3 n key val kids).bts = hd ++ btsL kids) := Lib.hid (by rw [HBT.out, HHD.out, ← HQ.out]; simp)
      have HO3 : Hid (w2.ownsRow base 5 1 v2 (hd ++ btsL (kids.take 0)).length ((hd ++ btsL (kids.take 0)).map B8)) := Lib.hid (by have h := HO2.out; rw [HHD.out]; simpa [btsL] using h)
      go_loopw [0, 5] (fun b i wr => ∃ (j : Nat), i = .int .i64 (j : Int) ∧ j ≤ m ∧ Hid (wr.ownsRow base 5 1 b (hd ++ btsL (kids.take j)).length ((hd ++ btsL (kids.take j)).map B8)) ∧ Hid (wr.heap[W.heap.size]? = some (.cells #[.int .i64 3, .int .i64 n, .string key, .string val, .slice kA m kc] 43)) ∧ Hid (Grew W wr v b) ∧ Hid (base ≤ wr.heap.size)) (fun _ i _ => m - (intOf i).toNat)
      case atStart => exact ⟨0, rfl, by omega, HO3, HR2, HG2, HZ2⟩
      case round =>
        clear c0 c1 c2 c3 c4
        obtain ⟨j, rfl, hj, HOJ, HRJ, HGJ, HZJ⟩ := hrel
        have c0 : wr.cell? ⟨W.heap.size, 0, none⟩ = some (.int .i64 3) := cell_of_row _ _ 0 _ _ (0, 0) HRJ.out; have c1 : wr.cell? ⟨W.heap.size, 1, none⟩ = some (.int .i64 n) := cell_of_row _ _ 1 _ _ (0, 0) HRJ.out; have c2 : wr.cell? ⟨W.heap.size, 2, none⟩ = some (.string key) := cell_of_row _ _ 2 _ _ (0, 0) HRJ.out; have c3 : wr.cell? ⟨W.heap.size, 3, none⟩ = some (.string val) := cell_of_row _ _ 3 _ _ (0, 0) HRJ.out; have c4 : wr.cell? ⟨W.heap.size, 4, none⟩ = some (.slice kA m kc) := cell_of_row _ _ 4 _ _ (0, 0) HRJ.out
        by_cases hlt : j < m
        · obtain ⟨r, hr⟩ : ∃ r, kids[j]? = some r := ⟨_, List.getElem?_eq_getElem (by rw [HQ.out]; exact hlt)⟩
          have hww : Below B w wr := HGJ.out.below HW.out (Nat.le_trans HBB.out HBW.out) (fun q hq => Nat.le_trans HBB.out (own_block_ge HO.out q hq))
          obtain ⟨a, k', n', key', val', A', q', qc', ha, hab, hrr, ec, d0, d1, d2, d3, d4⟩ := kid_cells (HROW.out.keep fun _ hp => hww.cell hp) (fun i r h => (HKID.out i r h).low hww) hr
          have hBwr : B ≤ wr.heap.size := Nat.le_trans HBB.out HZJ.out
          have hbt : (hd ++ btsL (kids.take j)).length + r.bts.length ≤ 1000000 := by
            have h := HLEN.out
            have e : l.length + (Rt.mk 3 n key val kids).bts.length = (hd ++ btsL kids).length := by rw [← HBT2.out]; simp
            rw [e] at h
            have e2 := btsL_ge hr
            simp only [List.length_append] at h ⊢
            omega
          have HI := Lib.hid (fun V (hV : Below wr.heap.size wr V) (x : Value) (ho : V.ownsRow base 5 1 x (hd ++ btsL (kids.take j)).length ((hd ++ btsL (kids.take j)).map B8)) => IH.out j r hr base x (hd ++ btsL (kids.take j)) V ((allL_iff kids).1 HKA.out r (List.mem_of_getElem? hr)) (hww.trans (hV.mono hBwr)) HBB.out (Nat.le_trans HZJ.out hV.size) ho hbt)
          rw [ec] at HI
          simp only [rcs] at HI
          have HR := Lib.hid hr
          subst ha
          have hab2 : a.block < wr.heap.size := by omega
          have hab3 : a.block ≠ wr.heap.size := by omega
          clear hr hww hrr ec hBwr hab hbt
          have HBA := Lib.hid (show ∀ o, Below wr.heap.size wr (wr.alloc o) from fun o => (Below.refl _ _).alloc (Nat.le_refl _) o)
          go_wp2_with (go_at_call 49; (with_reducible refine (HI.out _ (Below.refl _ _) _ HOJ.out).mono ?_); rintro e w3 ⟨v3, rfl, ho3, hg3⟩; have HO3 := Lib.hid ho3; have HG3 := Lib.hid (HGJ.out.trans hg3); have HZ3 := Lib.hid (Nat.le_trans HZJ.out hg3.grown.size); have HR3 := Lib.hid (box_grew HOJ.out hg3 HRJ.out (by decide)); clear ho3 hg3)
          go_roundw
          case rel =>
            refine ⟨j + 1, by go_num, by omega, ?_, HR3, HG3, HZ3⟩
            have h := HO3.out
            rw [List.append_assoc, ← btsL_take HR.out] at h
            exact Lib.hid h
          case measure => simp [intOf]; omega
        · obtain rfl : j = m := by omega
          have HOE : Hid (wr.ownsRow base 5 1 u0 (l ++ (Rt.mk 3 n key val kids).bts).length ((l ++ (Rt.mk 3 n key val kids).bts).map B8)) := Lib.hid (by
            have h := HOJ.out
            rw [List.take_of_length_le (by rw [HQ.out]; exact Nat.le_refl _), ← HBT2.out] at h
            exact h)
          go_wp2_with fail
          go_ret
          exact ⟨_, rfl, HOE.out, HGJ.out⟩
    · have HBX := Lib.hid ((Below.refl W.heap.size W).alloc (Nat.le_refl _) (.cells #[.int .i64 4, .int .i64 n, .string key, .string val, .slice kA m kc] 43))
      have HR0 := Lib.hid (heap_alloc_new W (.cells #[.int .i64 4, .int .i64 n, .string key, .string val, .slice kA m kc] 43))
      have HOX := Lib.hid (HO.out.alloc (.cells #[.int .i64 4, .int .i64 n, .string key, .string val, .slice kA m kc] 43))
      have HZX := Lib.hid (show base ≤ (W.alloc (.cells #[.int .i64 4, .int .i64 n, .string key, .string val, .slice kA m kc] 43)).heap.size from Nat.le_trans HBW.out HBX.out.size)
      have HGX : Hid (∀ w' v', Grew (W.alloc (.cells #[.int .i64 4, .int .i64 n, .string key, .string val, .slice kA m kc] 43)) w' v v' → Grew W w' v v') := Lib.hid (fun w' v' h => h.alloc)
      have HA := Lib.hid (fun ty => app1c (ty := ty) (y := 4) (x := UInt8.ofNat (4 : Int).toNat) HOX.out rfl HZX.out (by have := HLEN.out; omega) (show (W.alloc (.cells #[.int .i64 4, .int .i64 n, .string key, .string val, .slice kA m kc] 43)).heap.size = W.heap.size + 1 from by simp))
      go_enter Try.func49, Try.ntmps49
      obtain ⟨nn, hnn⟩ : ∃ nn : Nat, n = (nn : Int) ∧ nn ≤ 1073741824 := by
        have h := HONE.out
        unfold oneR gok gmost at h
        simp at h
        exact ⟨n.toNat, by omega, by omega⟩
      obtain ⟨rfl, hnl⟩ := hnn
      have HNL : Hid (nn < 18446744073709551616) := Lib.hid (by omega)
      go_wp2_with (first
        | (have hd := done1; clear done1; go_at_call 68; (with_reducible refine (rput_calls base _ _ nn _ HO1.out HZ1.out (by have := HLEN.out; simp only [List.length_append, List.length_singleton]; omega) HNL.out).mono ?_); rintro e w2 ⟨v2, rfl, ho2, hg2⟩; have HO2 := Lib.hid ho2; have HG2 := Lib.hid (HG1.out.trans hg2); clear ho2 hg2)
        | (at_builtin; go_loud ((refine wpList_app rfl (.tmp 6) (.tmp 10) _ _ rfl rfl rfl (HA.out _) ?_); rintro v1 w1 ⟨ho1, hg1⟩; have HR1 := Lib.hid (box_grew HOX.out hg1 HR0.out (by decide)); have HO1 := Lib.hid (show w1.ownsRow base 5 1 v1 (l ++ [UInt8.ofNat (4 : Int).toNat]).length ((l ++ [UInt8.ofNat (4 : Int).toNat]).map B8) from (by have h := ho1; simp only [List.length_append, List.length_singleton]; exact h)); have HG1 := Lib.hid (HGX.out _ _ hg1); have HZ1 := Lib.hid (Nat.le_trans HZX.out hg1.grown.size); have c0 : w1.cell? ⟨W.heap.size, 0, none⟩ = some (.int .i64 4) := cell_of_row _ _ 0 _ _ (0, 0) HR1.out; have c1 : w1.cell? ⟨W.heap.size, 1, none⟩ = some (.int .i64 (nn : Int)) := cell_of_row _ _ 1 _ _ (0, 0) HR1.out; have c2 : w1.cell? ⟨W.heap.size, 2, none⟩ = some (.string key) := cell_of_row _ _ 2 _ _ (0, 0) HR1.out; have c3 : w1.cell? ⟨W.heap.size, 3, none⟩ = some (.string val) := cell_of_row _ _ 3 _ _ (0, 0) HR1.out; have c4 : w1.cell? ⟨W.heap.size, 4, none⟩ = some (.slice kA m kc) := cell_of_row _ _ 4 _ _ (0, 0) HR1.out; clear ho1 hg1; have done1 := trivial)))
      go_ret
      refine ⟨v2, rfl, ?_, HG2.out⟩
      have h := HO2.out
      rw [HBT.out]
      simpa using h
    · have HBX := Lib.hid ((Below.refl W.heap.size W).alloc (Nat.le_refl _) (.cells #[.int .i64 5, .int .i64 n, .string key, .string val, .slice kA m kc] 43))
      have HR0 := Lib.hid (heap_alloc_new W (.cells #[.int .i64 5, .int .i64 n, .string key, .string val, .slice kA m kc] 43))
      have HOX := Lib.hid (HO.out.alloc (.cells #[.int .i64 5, .int .i64 n, .string key, .string val, .slice kA m kc] 43))
      have HZX := Lib.hid (show base ≤ (W.alloc (.cells #[.int .i64 5, .int .i64 n, .string key, .string val, .slice kA m kc] 43)).heap.size from Nat.le_trans HBW.out HBX.out.size)
      have HGX : Hid (∀ w' v', Grew (W.alloc (.cells #[.int .i64 5, .int .i64 n, .string key, .string val, .slice kA m kc] 43)) w' v v' → Grew W w' v v') := Lib.hid (fun w' v' h => h.alloc)
      have HA := Lib.hid (fun ty => app1c (ty := ty) (y := 5) (x := UInt8.ofNat (5 : Int).toNat) HOX.out rfl HZX.out (by have := HLEN.out; omega) (show (W.alloc (.cells #[.int .i64 5, .int .i64 n, .string key, .string val, .slice kA m kc] 43)).heap.size = W.heap.size + 1 from by simp))
      go_enter Try.func49, Try.ntmps49
      go_wp2_with (first
        | (at_builtin; go_loud ((refine wpList_app rfl (.tmp 6) (.tmp 10) _ _ rfl rfl rfl (HA.out _) ?_); rintro v1 w1 ⟨ho1, hg1⟩; have HR1 := Lib.hid (box_grew HOX.out hg1 HR0.out (by decide)); have HO1 := Lib.hid (show w1.ownsRow base 5 1 v1 (l ++ [UInt8.ofNat (5 : Int).toNat]).length ((l ++ [UInt8.ofNat (5 : Int).toNat]).map B8) from (by have h := ho1; simp only [List.length_append, List.length_singleton]; exact h)); have HG1 := Lib.hid (HGX.out _ _ hg1); have HZ1 := Lib.hid (Nat.le_trans HZX.out hg1.grown.size); have c0 : w1.cell? ⟨W.heap.size, 0, none⟩ = some (.int .i64 5) := cell_of_row _ _ 0 _ _ (0, 0) HR1.out; have c1 : w1.cell? ⟨W.heap.size, 1, none⟩ = some (.int .i64 n) := cell_of_row _ _ 1 _ _ (0, 0) HR1.out; have c2 : w1.cell? ⟨W.heap.size, 2, none⟩ = some (.string key) := cell_of_row _ _ 2 _ _ (0, 0) HR1.out; have c3 : w1.cell? ⟨W.heap.size, 3, none⟩ = some (.string val) := cell_of_row _ _ 3 _ _ (0, 0) HR1.out; have c4 : w1.cell? ⟨W.heap.size, 4, none⟩ = some (.slice kA m kc) := cell_of_row _ _ 4 _ _ (0, 0) HR1.out; clear ho1 hg1; have done1 := trivial)))
      go_ret
      refine ⟨v1, rfl, ?_, HG1.out⟩
      have h := HO1.out
      rw [HBT.out]
      exact h
    · have HBX := Lib.hid ((Below.refl W.heap.size W).alloc (Nat.le_refl _) (.cells #[.int .i64 6, .int .i64 n, .string key, .string val, .slice kA m kc] 43))
      have HR0 := Lib.hid (heap_alloc_new W (.cells #[.int .i64 6, .int .i64 n, .string key, .string val, .slice kA m kc] 43))
      have HOX := Lib.hid (HO.out.alloc (.cells #[.int .i64 6, .int .i64 n, .string key, .string val, .slice kA m kc] 43))
      have HZX := Lib.hid (show base ≤ (W.alloc (.cells #[.int .i64 6, .int .i64 n, .string key, .string val, .slice kA m kc] 43)).heap.size from Nat.le_trans HBW.out HBX.out.size)
      have HGX : Hid (∀ w' v', Grew (W.alloc (.cells #[.int .i64 6, .int .i64 n, .string key, .string val, .slice kA m kc] 43)) w' v v' → Grew W w' v v') := Lib.hid (fun w' v' h => h.alloc)
      have HA := Lib.hid (fun ty => app1c (ty := ty) (y := 6) (x := UInt8.ofNat (6 : Int).toNat) HOX.out rfl HZX.out (by have := HLEN.out; omega) (show (W.alloc (.cells #[.int .i64 6, .int .i64 n, .string key, .string val, .slice kA m kc] 43)).heap.size = W.heap.size + 1 from by simp))
      go_enter Try.func49, Try.ntmps49
      have HKS := Lib.hid (show key.size ≤ 16 ∧ val.size ≤ 16 from by
        have h := HONE.out
        unfold oneR at h
        simp at h
        omega)
      have HSZ := Lib.hid (show (l ++ [UInt8.ofNat ((6 : Int)).toNat] ++ Mi.text key.data.toList).length ≤ 4294967296 from by
        have h := HLEN.out
        rw [HBT.out] at h
        simp at h ⊢
        omega)
      go_wp2_with (first
        | (at_builtin; go_loud ((refine wpList_app rfl (.tmp 6) (.tmp 10) _ _ rfl rfl rfl (HA.out _) ?_); rintro v1 w1 ⟨ho1, hg1⟩; have HR1 := Lib.hid (box_grew HOX.out hg1 HR0.out (by decide)); have HO1 := Lib.hid (show w1.ownsRow base 5 1 v1 (l ++ [UInt8.ofNat (6 : Int).toNat]).length ((l ++ [UInt8.ofNat (6 : Int).toNat]).map B8) from (by have h := ho1; simp only [List.length_append, List.length_singleton]; exact h)); have HG1 := Lib.hid (HGX.out _ _ hg1); have HZ1 := Lib.hid (Nat.le_trans HZX.out hg1.grown.size); have c0 : w1.cell? ⟨W.heap.size, 0, none⟩ = some (.int .i64 6) := cell_of_row _ _ 0 _ _ (0, 0) HR1.out; have c1 : w1.cell? ⟨W.heap.size, 1, none⟩ = some (.int .i64 n) := cell_of_row _ _ 1 _ _ (0, 0) HR1.out; have c2 : w1.cell? ⟨W.heap.size, 2, none⟩ = some (.string key) := cell_of_row _ _ 2 _ _ (0, 0) HR1.out; have c3 : w1.cell? ⟨W.heap.size, 3, none⟩ = some (.string val) := cell_of_row _ _ 3 _ _ (0, 0) HR1.out; have c4 : w1.cell? ⟨W.heap.size, 4, none⟩ = some (.slice kA m kc) := cell_of_row _ _ 4 _ _ (0, 0) HR1.out; clear ho1 hg1; have done1 := trivial)))
      have HO1d := Lib.hid (own_drew HO1.out)
      have HZ1d : Hid (base ≤ w1.drew.heap.size) := HZ1
      have hS : (Hid (w1.drew.heap[W.heap.size]? = some (.cells #[.int .i64 6, .int .i64 n, .string key, .string val, .slice kA m kc] 43)) ∧ w1.drew.cell? ⟨W.heap.size, 2, none⟩ = some (.string key) ∧ w1.drew.cell? ⟨W.heap.size, 3, none⟩ = some (.string val)) := ⟨HR1, c2, c3⟩
      have HSS := Lib.hid (show ∀ (u u' : World) (x x' : Value) (ll : List UInt8), u.heap[W.heap.size]? = some (.cells #[.int .i64 6, .int .i64 n, .string key, .string val, .slice kA m kc] 43) → u.ownsRow base 5 1 x ll.length (ll.map B8) → Grew u u' x x' → (Hid (u'.heap[W.heap.size]? = some (.cells #[.int .i64 6, .int .i64 n, .string key, .string val, .slice kA m kc] 43)) ∧ u'.cell? ⟨W.heap.size, 2, none⟩ = some (.string key) ∧ u'.cell? ⟨W.heap.size, 3, none⟩ = some (.string val)) from fun u u' x x' ll h1 h2 h3 => by
        have h4 := box_grew h2 h3 h1 (by decide)
        exact ⟨Lib.hid h4, cell_of_row _ _ 2 _ _ (0, 0) h4, cell_of_row _ _ 3 _ _ (0, 0) h4⟩)
      obtain ⟨_, e2, e3⟩ := hS
      have HT1 := Lib.hid (show Calls Try.prog 69 #[v1, .string key] w1.drew (fun e w' => ∃ v2, e = .returned v2 ∧ Hid (w'.heap[W.heap.size]? = some (.cells #[.int .i64 6, .int .i64 n, .string key, .string val, .slice kA m kc] 43)) ∧ w'.cell? ⟨W.heap.size, 3, none⟩ = some (.string val) ∧ Hid (w'.ownsRow base 5 1 v2 (l ++ [UInt8.ofNat (6 : Int).toNat] ++ Mi.text key.data.toList).length ((l ++ [UInt8.ofNat (6 : Int).toNat] ++ Mi.text key.data.toList).map B8)) ∧ Hid (Grew W w' v v2) ∧ Hid (base ≤ w'.heap.size)) from by
        refine (rtext_calls base v1 (l ++ [UInt8.ofNat (6 : Int).toNat]) key w1.drew HO1d.out HZ1d.out (by have := HLEN.out; simp only [List.length_append, List.length_singleton]; omega) (by have := HKS.out; omega)).mono ?_
        rintro e w2 ⟨v2, rfl, ho2, hg2⟩
        have hs2 := HSS.out w1.drew w2 v1 v2 _ HR1.out HO1d.out hg2
        exact ⟨v2, rfl, hs2.1, hs2.2.2, Lib.hid ho2, Lib.hid (HG1.out.trans (grew_drew hg2)), Lib.hid (Nat.le_trans HZ1d.out hg2.grown.size)⟩)
      have HT2 := Lib.hid (show ∀ (w2 : World) (v2 : Value), Hid (w2.ownsRow base 5 1 v2 (l ++ [UInt8.ofNat (6 : Int).toNat] ++ Mi.text key.data.toList).length ((l ++ [UInt8.ofNat (6 : Int).toNat] ++ Mi.text key.data.toList).map B8)) → Hid (Grew W w2 v v2) → Hid (base ≤ w2.heap.size) → Calls Try.prog 69 #[v2, .string val] w2 (fun e w' => ∃ v3, e = .returned v3 ∧ Hid (w'.ownsRow base 5 1 v3 (l ++ [UInt8.ofNat (6 : Int).toNat] ++ Mi.text key.data.toList ++ Mi.text val.data.toList).length ((l ++ [UInt8.ofNat (6 : Int).toNat] ++ Mi.text key.data.toList ++ Mi.text val.data.toList).map B8)) ∧ Hid (Grew W w' v v3)) from fun w2 v2 HO2 HG2 HZ2 => by
        refine (rtext_calls base v2 _ val w2 HO2.out HZ2.out (by have := HSZ.out; omega) (by have := HKS.out; omega)).mono ?_
        rintro e w3 ⟨v3, rfl, ho3, hg3⟩
        exact ⟨v3, rfl, Lib.hid ho3, Lib.hid (HG2.out.trans hg3)⟩)
      clear c0 c1 c2 c3 c4
      go_region_with ((first
          | (have hd := done2; clear done2; (try go_at_call 69); (refine (HT2.out _ _ HO2 HG2 HZ2).mono ?_); rintro e w3 ⟨v3, rfl, HO3, HG3⟩)
          | ((try go_at_call 69); (refine HT1.out.mono ?_); rintro e w2 ⟨v2, rfl, HR2, f3, HO2, HG2, HZ2⟩; have done2 := trivial)))
      all_goals
        simp only [Act.put, List.getElem_toArray, List.getElem_cons_zero, List.getElem_cons_succ, List.setIfInBounds_toArray, List.set_cons_zero, List.set_cons_succ]
        go_wp2_with fail
        go_ret
        refine ⟨v3, rfl, ?_, HG3.out⟩
        have h := HO3.out
        rw [HBT.out]
        simpa using h
    · have HBX := Lib.hid ((Below.refl W.heap.size W).alloc (Nat.le_refl _) (.cells #[.int .i64 7, .int .i64 n, .string key, .string val, .slice kA m kc] 43))
      have HR0 := Lib.hid (heap_alloc_new W (.cells #[.int .i64 7, .int .i64 n, .string key, .string val, .slice kA m kc] 43))
      have HOX := Lib.hid (HO.out.alloc (.cells #[.int .i64 7, .int .i64 n, .string key, .string val, .slice kA m kc] 43))
      have HZX := Lib.hid (show base ≤ (W.alloc (.cells #[.int .i64 7, .int .i64 n, .string key, .string val, .slice kA m kc] 43)).heap.size from Nat.le_trans HBW.out HBX.out.size)
      have HGX : Hid (∀ w' v', Grew (W.alloc (.cells #[.int .i64 7, .int .i64 n, .string key, .string val, .slice kA m kc] 43)) w' v v' → Grew W w' v v') := Lib.hid (fun w' v' h => h.alloc)
      have HA := Lib.hid (fun ty => app1c (ty := ty) (y := 7) (x := UInt8.ofNat (7 : Int).toNat) HOX.out rfl HZX.out (by have := HLEN.out; omega) (show (W.alloc (.cells #[.int .i64 7, .int .i64 n, .string key, .string val, .slice kA m kc] 43)).heap.size = W.heap.size + 1 from by simp))
      go_enter Try.func49, Try.ntmps49
      obtain ⟨nn, hnn⟩ : ∃ nn : Nat, n = (nn : Int) ∧ nn ≤ 1073741824 := by
        have h := HONE.out
        unfold oneR gok gmost at h
        simp at h
        exact ⟨n.toNat, by omega, by omega⟩
      obtain ⟨rfl, hnl⟩ := hnn
      have HNL : Hid (nn < 18446744073709551616) := Lib.hid (by omega)
      go_wp2_with (first
        | (have hd := done1; clear done1; go_at_call 68; (with_reducible refine (rput_calls base _ _ nn _ HO1.out HZ1.out (by have := HLEN.out; simp only [List.length_append, List.length_singleton]; omega) HNL.out).mono ?_); rintro e w2 ⟨v2, rfl, ho2, hg2⟩; have HO2 := Lib.hid ho2; have HG2 := Lib.hid (HG1.out.trans hg2); clear ho2 hg2)
        | (at_builtin; go_loud ((refine wpList_app rfl (.tmp 6) (.tmp 10) _ _ rfl rfl rfl (HA.out _) ?_); rintro v1 w1 ⟨ho1, hg1⟩; have HR1 := Lib.hid (box_grew HOX.out hg1 HR0.out (by decide)); have HO1 := Lib.hid (show w1.ownsRow base 5 1 v1 (l ++ [UInt8.ofNat (7 : Int).toNat]).length ((l ++ [UInt8.ofNat (7 : Int).toNat]).map B8) from (by have h := ho1; simp only [List.length_append, List.length_singleton]; exact h)); have HG1 := Lib.hid (HGX.out _ _ hg1); have HZ1 := Lib.hid (Nat.le_trans HZX.out hg1.grown.size); have c0 : w1.cell? ⟨W.heap.size, 0, none⟩ = some (.int .i64 7) := cell_of_row _ _ 0 _ _ (0, 0) HR1.out; have c1 : w1.cell? ⟨W.heap.size, 1, none⟩ = some (.int .i64 (nn : Int)) := cell_of_row _ _ 1 _ _ (0, 0) HR1.out; have c2 : w1.cell? ⟨W.heap.size, 2, none⟩ = some (.string key) := cell_of_row _ _ 2 _ _ (0, 0) HR1.out; have c3 : w1.cell? ⟨W.heap.size, 3, none⟩ = some (.string val) := cell_of_row _ _ 3 _ _ (0, 0) HR1.out; have c4 : w1.cell? ⟨W.heap.size, 4, none⟩ = some (.slice kA m kc) := cell_of_row _ _ 4 _ _ (0, 0) HR1.out; clear ho1 hg1; have done1 := trivial)))
      go_ret
      refine ⟨v2, rfl, ?_, HG2.out⟩
      have h := HO2.out
      rw [HBT.out]
      simpa using h
    · have HBX := Lib.hid ((Below.refl W.heap.size W).alloc (Nat.le_refl _) (.cells #[.int .i64 8, .int .i64 n, .string key, .string val, .slice kA m kc] 43))
      have HR0 := Lib.hid (heap_alloc_new W (.cells #[.int .i64 8, .int .i64 n, .string key, .string val, .slice kA m kc] 43))
      have HOX := Lib.hid (HO.out.alloc (.cells #[.int .i64 8, .int .i64 n, .string key, .string val, .slice kA m kc] 43))
      have HZX := Lib.hid (show base ≤ (W.alloc (.cells #[.int .i64 8, .int .i64 n, .string key, .string val, .slice kA m kc] 43)).heap.size from Nat.le_trans HBW.out HBX.out.size)
      have HGX : Hid (∀ w' v', Grew (W.alloc (.cells #[.int .i64 8, .int .i64 n, .string key, .string val, .slice kA m kc] 43)) w' v v' → Grew W w' v v') := Lib.hid (fun w' v' h => h.alloc)
      have HA := Lib.hid (fun ty => app1c (ty := ty) (y := 8) (x := UInt8.ofNat (8 : Int).toNat) HOX.out rfl HZX.out (by have := HLEN.out; omega) (show (W.alloc (.cells #[.int .i64 8, .int .i64 n, .string key, .string val, .slice kA m kc] 43)).heap.size = W.heap.size + 1 from by simp))
      go_enter Try.func49, Try.ntmps49
      obtain ⟨nn, hnn⟩ : ∃ nn : Nat, n = (nn : Int) ∧ nn ≤ 1073741824 := by
        have h := HONE.out
        unfold oneR gok gmost at h
        simp at h
        exact ⟨n.toNat, by omega, by omega⟩
      obtain ⟨rfl, hnl⟩ := hnn
      have HNL : Hid (nn < 18446744073709551616) := Lib.hid (by omega)
      go_wp2_with (first
        | (have hd := done1; clear done1; go_at_call 68; (with_reducible refine (rput_calls base _ _ nn _ HO1.out HZ1.out (by have := HLEN.out; simp only [List.length_append, List.length_singleton]; omega) HNL.out).mono ?_); rintro e w2 ⟨v2, rfl, ho2, hg2⟩; have HO2 := Lib.hid ho2; have HG2 := Lib.hid (HG1.out.trans hg2); clear ho2 hg2)
        | (at_builtin; go_loud ((refine wpList_app rfl (.tmp 6) (.tmp 10) _ _ rfl rfl rfl (HA.out _) ?_); rintro v1 w1 ⟨ho1, hg1⟩; have HR1 := Lib.hid (box_grew HOX.out hg1 HR0.out (by decide)); have HO1 := Lib.hid (show w1.ownsRow base 5 1 v1 (l ++ [UInt8.ofNat (8 : Int).toNat]).length ((l ++ [UInt8.ofNat (8 : Int).toNat]).map B8) from (by have h := ho1; simp only [List.length_append, List.length_singleton]; exact h)); have HG1 := Lib.hid (HGX.out _ _ hg1); have HZ1 := Lib.hid (Nat.le_trans HZX.out hg1.grown.size); have c0 : w1.cell? ⟨W.heap.size, 0, none⟩ = some (.int .i64 8) := cell_of_row _ _ 0 _ _ (0, 0) HR1.out; have c1 : w1.cell? ⟨W.heap.size, 1, none⟩ = some (.int .i64 (nn : Int)) := cell_of_row _ _ 1 _ _ (0, 0) HR1.out; have c2 : w1.cell? ⟨W.heap.size, 2, none⟩ = some (.string key) := cell_of_row _ _ 2 _ _ (0, 0) HR1.out; have c3 : w1.cell? ⟨W.heap.size, 3, none⟩ = some (.string val) := cell_of_row _ _ 3 _ _ (0, 0) HR1.out; have c4 : w1.cell? ⟨W.heap.size, 4, none⟩ = some (.slice kA m kc) := cell_of_row _ _ 4 _ _ (0, 0) HR1.out; clear ho1 hg1; have done1 := trivial)))
      go_ret
      refine ⟨v2, rfl, ?_, HG2.out⟩
      have h := HO2.out
      rw [HBT.out]
      simpa using h
    · have HBX := Lib.hid ((Below.refl W.heap.size W).alloc (Nat.le_refl _) (.cells #[.int .i64 9, .int .i64 n, .string key, .string val, .slice kA m kc] 43))
      have HR0 := Lib.hid (heap_alloc_new W (.cells #[.int .i64 9, .int .i64 n, .string key, .string val, .slice kA m kc] 43))
      have HOX := Lib.hid (HO.out.alloc (.cells #[.int .i64 9, .int .i64 n, .string key, .string val, .slice kA m kc] 43))
      have HZX := Lib.hid (show base ≤ (W.alloc (.cells #[.int .i64 9, .int .i64 n, .string key, .string val, .slice kA m kc] 43)).heap.size from Nat.le_trans HBW.out HBX.out.size)
      have HGX : Hid (∀ w' v', Grew (W.alloc (.cells #[.int .i64 9, .int .i64 n, .string key, .string val, .slice kA m kc] 43)) w' v v' → Grew W w' v v') := Lib.hid (fun w' v' h => h.alloc)
      have HA := Lib.hid (fun ty => app1c (ty := ty) (y := 9) (x := UInt8.ofNat (9 : Int).toNat) HOX.out rfl HZX.out (by have := HLEN.out; omega) (show (W.alloc (.cells #[.int .i64 9, .int .i64 n, .string key, .string val, .slice kA m kc] 43)).heap.size = W.heap.size + 1 from by simp))
      go_enter Try.func49, Try.ntmps49
      obtain ⟨nn, hnn⟩ : ∃ nn : Nat, n = (nn : Int) ∧ nn ≤ 1073741824 := by
        have h := HONE.out
        unfold oneR gok gmost at h
        simp at h
        exact ⟨n.toNat, by omega, by omega⟩
      obtain ⟨rfl, hnl⟩ := hnn
      have HNL : Hid (nn < 18446744073709551616) := Lib.hid (by omega)
      go_wp2_with (first
        | (have hd := done1; clear done1; go_at_call 68; (with_reducible refine (rput_calls base _ _ nn _ HO1.out HZ1.out (by have := HLEN.out; simp only [List.length_append, List.length_singleton]; omega) HNL.out).mono ?_); rintro e w2 ⟨v2, rfl, ho2, hg2⟩; have HO2 := Lib.hid ho2; have HG2 := Lib.hid (HG1.out.trans hg2); clear ho2 hg2)
        | (at_builtin; go_loud ((refine wpList_app rfl (.tmp 6) (.tmp 10) _ _ rfl rfl rfl (HA.out _) ?_); rintro v1 w1 ⟨ho1, hg1⟩; have HR1 := Lib.hid (box_grew HOX.out hg1 HR0.out (by decide)); have HO1 := Lib.hid (show w1.ownsRow base 5 1 v1 (l ++ [UInt8.ofNat (9 : Int).toNat]).length ((l ++ [UInt8.ofNat (9 : Int).toNat]).map B8) from (by have h := ho1; simp only [List.length_append, List.length_singleton]; exact h)); have HG1 := Lib.hid (HGX.out _ _ hg1); have HZ1 := Lib.hid (Nat.le_trans HZX.out hg1.grown.size); have c0 : w1.cell? ⟨W.heap.size, 0, none⟩ = some (.int .i64 9) := cell_of_row _ _ 0 _ _ (0, 0) HR1.out; have c1 : w1.cell? ⟨W.heap.size, 1, none⟩ = some (.int .i64 (nn : Int)) := cell_of_row _ _ 1 _ _ (0, 0) HR1.out; have c2 : w1.cell? ⟨W.heap.size, 2, none⟩ = some (.string key) := cell_of_row _ _ 2 _ _ (0, 0) HR1.out; have c3 : w1.cell? ⟨W.heap.size, 3, none⟩ = some (.string val) := cell_of_row _ _ 3 _ _ (0, 0) HR1.out; have c4 : w1.cell? ⟨W.heap.size, 4, none⟩ = some (.slice kA m kc) := cell_of_row _ _ 4 _ _ (0, 0) HR1.out; clear ho1 hg1; have done1 := trivial)))
      go_ret
      refine ⟨v2, rfl, ?_, HG2.out⟩
      have h := HO2.out
      rw [HBT.out]
      simpa using h

set_option maxHeartbeats 4000000 in
/-- RuleBytes: of a policy that is right what put writes, else none. -/
theorem refbytes_all {w : World} {B : Nat} {t : Rt} {c : List Value} (h : RdR w B t c) (W : World) (hW : Below B w W) (hB : B ≤ W.heap.size) (hl : t.right = true → t.bts.length ≤ 1000000) :
    Calls Try.prog 29 #[.agg c.toArray] W fun e w' => ∃ v, e = .returned v ∧ w'.ownsRow W.heap.size 5 1 v (if t.right then t.bts else []).length ((if t.right then t.bts else []).map B8) ∧ Below W.heap.size W w' := by
  have RI := Lib.hid (fun V hV => refright_all h V (hW.trans (hV.mono hB)) (Nat.le_trans hB (Below.size hV)))
  have PU := Lib.hid (fun (hr : t.right = true) V (hV : Below W.heap.size W V) => addrule_rec h V.heap.size (.slice none 0 0) [] V ((t.right_iff).1 hr).2.2 (hW.trans (hV.mono hB)) (Nat.le_trans hB (Below.size hV)) (Nat.le_refl _) (World.ownsRow_nil _ _ _ _) (by simpa using hl hr))
  obtain ⟨ri, hri⟩ : ∃ ri, t.right = ri := ⟨_, rfl⟩
  rw [hri] at RI PU ⊢
  generalize t.bts = bs at *
  clear hl hri
  obtain ⟨k, n, key, val, kids, kA, kc, rfl, rfl⟩ := h.inv
  clear h hW hB
  simp only [rcs] at *
  cases ri
  · go_enter Try.func29, Try.ntmps29
    go_wp2_with (go_at_call 28; (with_reducible refine (RI.out _ ((Below.refl _ _).alloc (Nat.le_refl _) _)).mono ?_); rintro e w1 ⟨rfl, hb1⟩; have HB1 := Lib.hid (((Below.refl W.heap.size W).alloc (Nat.le_refl _) _).trans (hb1.mono (by simp))); clear hb1)
    go_ret
    exact ⟨_, rfl, World.ownsRow_nil _ _ _ _, HB1.out⟩
  · have P2 := Lib.hid (PU.out rfl)
    clear PU
    go_enter Try.func29, Try.ntmps29
    go_wp2_with (first
      | (go_at_call 49; (with_reducible refine (P2.out _ HB1.out).mono ?_); rintro e w2 ⟨v2, rfl, ho2, hg2⟩; have HO2 := Lib.hid ho2; have HB2 := Lib.hid (HB1.out.trans (hg2.new.mono HB1.out.size)); clear ho2 hg2)
      | (go_at_call 28; (with_reducible refine (RI.out _ ((Below.refl _ _).alloc (Nat.le_refl _) _)).mono ?_); rintro e w1 ⟨rfl, hb1⟩; obtain ⟨hc, hf⟩ := bcell hb1; have HB1 := Lib.hid (((Below.refl W.heap.size W).alloc (Nat.le_refl _) _).trans (hb1.mono (by simp))); clear hb1))
    go_ret
    exact ⟨_, rfl, by have h := own_mono HO2.out (HB1.out.size); simpa using h, HB2.out⟩
end Go.Proofs.Ytajpnimjkkmcmaa
