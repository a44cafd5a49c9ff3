/- The code's put: a policy's text behind others; Print. -/
import Derived.Test.YtgiahfjndononaaDoorPoj
import Derived.Deep.RegionHeld3
namespace Go.Proofs.YtgiahfjndononaaDoor
open Go.RowKit
set_option linter.unusedVariables false
set_option linter.unusedSimpArgs false
set_option maxRecDepth 100000

/-- A text more. -/
theorem puts {w : World} {ty : TypeId} {base n : Nat} {v : Value} {l : List UInt8} (s : ByteArray) (hn : n = l.length) (h : w.ownsRow base 5 1 v l.length (l.map B8)) (hb : base ≤ w.heap.size) (hl : l.length ≤ 1000000) (hs : s.size ≤ 1000) :
    ∃ v' w', (Builtin.append_ #[50, 9] ty #[v, .string s]).run Tryd.prog w = .ok v' w' ∧ (w'.ownsRow base 5 1 v' (l ++ s.data.toList).length ((l ++ s.data.toList).map B8) ∧ Fr base w w') := by
  obtain ⟨i0, hi, hz0, hz1, hz2⟩ := info_parts infoB
  obtain ⟨v', w', h1, h2, h3⟩ := run_append_str (P := Tryd.prog) w base 50 9 ty 5 i0 _ 1 Tryd.underlying50 Tryd.underlying9 hi hz0 hz1 hz2 rfl v l.length (l.map B8) h s (by unfold maxLen; omega) (by omega) hb
  refine ⟨v', w', h1, ?_, Fr.grew h h3 hb⟩
  rw [List.length_append, List.map_append, size_list]
  exact h2
theorem Fr.drew (base : Nat) (w : World) : Fr base w w.drew := ⟨⟨rfl, rfl, rfl, Nat.le_refl _, fun _ _ => rfl⟩, fun _ _ h _ _ => h⟩
theorem put1d {w : World} {ty : TypeId} {base n : Nat} {v : Value} {l : List UInt8} {y : Int} (x : UInt8) (hn : n = l.length) (h : w.ownsRow base 5 1 v l.length (l.map B8)) (hx : Value.int .u8 y = B8 x) (hb : base ≤ w.heap.size) (hl : l.length ≤ 1000000) {g : Nat} (hg : w.heap.size = g) :
    ∃ v' w', (Builtin.append_ #[50, 50] ty #[v, .slice (some ⟨g, 0, none⟩) 1 1]).run Tryd.prog (w.alloc (.cells #[.int .u8 y] 5)).drew = .ok v' w' ∧ (w'.ownsRow base 5 1 v' (l ++ [x]).length ((l ++ [x]).map B8) ∧ Fr base w w') := by
  subst hg
  obtain ⟨i0, hi, hz0, hz1, hz2⟩ := info_parts infoB
  have hs : (w.alloc (.cells #[.int .u8 y] 5)).drew.heap.size = w.heap.size + 1 := by show (w.alloc _).heap.size = _; simp
  have hod : (w.alloc (.cells #[.int .u8 y] 5)).drew.ownsRow base 5 1 v l.length (l.map B8) := own_drew (h.alloc _)
  obtain ⟨v', w', r1, r2, r3⟩ := run_append_rd (P := Tryd.prog) (w.alloc (.cells #[.int .u8 y] 5)).drew base 50 ty 5 i0 _ 1 1 Tryd.underlying50 hi hz0 hz1 hz2 rfl v l.length (l.map B8) hod (w.heap.size + 1) (some ⟨w.heap.size, 0, none⟩) 1 1 [.int .u8 y] rfl (Rd.one w _ _).drew (by simp [Value.oneCell']) (by unfold maxLen; omega) (by omega) (by omega)
  refine ⟨v', w', r1, ?_, (Fr.alloc _ hb).trans ((Fr.drew base _).trans (Fr.grew hod r3 (by omega)))⟩
  rw [hx] at r2
  rw [List.length_append, List.length_singleton]
  simpa using r2
theorem wd_len (k : Nat) : (Wm.wd k).length ≤ 4 := by
  unfold Wm.wd
  split <;> simp
set_option maxHeartbeats 16000000 in
theorem put28 {w : World} {B : Nat} {t : Rt} {c : List Value} (h : RdR w B t c) : ∀ (base : Nat) (v : Value) (l : List UInt8) (W : World), t.all = true → Below B w W → B ≤ base → base ≤ W.heap.size → W.ownsRow base 5 1 v l.length (l.map B8) → Lib.TabBelow Tryd.prog base W "internal/strconv.uint64pow10" .u64 Lib.pow10Tab → l.length + (Wm.shw t).length ≤ 100000 →
    Calls Tryd.prog 23 #[v, .agg c.toArray] W (PutO base (l ++ Wm.shw t) W) := by
  induction h with
  | mk k n key val kids kA kc cs g1 g2 g3 g4 g5 g6 hrow hkid ih =>
    intro base v l W hall hW hBb hbW hown hT hlen
    rw [Rt.all_mk, Bool.and_eq_true] at hall
    obtain ⟨hone, hkall⟩ := hall
    have hkinds : k = 1 ∨ k = 2 ∨ k = 3 ∨ k = 4 ∨ k = 5 ∨ k = 6 ∨ k = 7 ∨ k = 8 ∨ k = 9 := by have := one_range hone; omega
    have HONE := Lib.hid hone
    have HKA := Lib.hid hkall
    have HROW := Lib.hid hrow
    have HKID := Lib.hid hkid
    have IH := Lib.hid ih
    have HW := Lib.hid hW
    have HBB := Lib.hid hBb
    have HBW := Lib.hid hbW
    have HO := Lib.hid hown
    have HT := Lib.hid hT
    have HBT := Lib.hid (Wm.shw_mk k n key val kids)
    have HLEN := Lib.hid hlen
    obtain ⟨m, hm⟩ : ∃ m, kids.length = m := ⟨_, rfl⟩
    have HQ := Lib.hid hm
    simp only [rcs, hm] at ⊢
    rw [hm] at g5
    simp only [maxLen] at g6
    clear hone hkall hrow hkid ih hW hBb hbW hown hlen hm g1 g2 g3 g4 hT
    rcases hkinds with rfl | rfl | rfl | rfl | rfl | rfl | rfl | rfl | rfl
    · have HF0 := Lib.hid (Fr.alloc (base := base) (w := W) (.cells #[.int .i64 1, .int .i64 n, .string key, .string val, .slice kA m kc] 24) HBW.out)
      have HR0 := Lib.hid (heap_alloc_new W (.cells #[.int .i64 1, .int .i64 n, .string key, .string val, .slice kA m kc] 24))
      have HOX := Lib.hid (HO.out.alloc (.cells #[.int .i64 1, .int .i64 n, .string key, .string val, .slice kA m kc] 24))
      have HZX := Lib.hid (show base ≤ (W.alloc (.cells #[.int .i64 1, .int .i64 n, .string key, .string val, .slice kA m kc] 24)).heap.size from Nat.le_trans HBW.out HF0.out.low.size)
      have HWC := Lib.hid (word_all 1 (by decide) (by decide))
      rw [show ((1 : Nat) : Int) = 1 from rfl] at HWC
      have HA := Lib.hid (fun ty => puts (ty := ty) (S8 (Wm.wd 1)) rfl HOX.out HZX.out (by have := HLEN.out; omega) (by rw [s8_len]; have := wd_len 1; omega))
      go_enter Tryd.func23, Tryd.ntmps23
      have HBT3 : Hid (l ++ Wm.shw (Rt.mk 1 n key val kids) = (l ++ Wm.wd 1 ++ [40]) ++ (Wm.shwL kids ++ [41])) := Lib.hid (by rw [HBT.out]; simp)
      have HLN := Lib.hid (show (l ++ Wm.wd 1 ++ [40]).length + (Wm.shwL kids).length ≤ 100000 from by
        have h := HLEN.out
        have h2 := congrArg List.length HBT3.out
        simp only [List.length_append, List.length_singleton] at h h2 ⊢
        omega)
      go_wp2_with (first
        | (have hd := done1; clear done1; at_builtin; (refine wpList_app rfl (.tmp 35) (.tmp 36) _ _ rfl rfl rfl (HA2.out _) ?_); rintro v2 w2 ⟨ho2, hf2⟩; have HF2 := Lib.hid (HF1.out.trans hf2); have HR2 := Lib.hid (HF2.out.box HR0.out (by decide)); have HO2 := Lib.hid ho2; have HZ2 := Lib.hid (Nat.le_trans HZX.out HF2.out.low.size); (try clear c0 c1 c2 c3 c4); have c0 : w2.cell? ⟨W.heap.size, 0, none⟩ = some (.int .i64 1) := cell_of_row _ _ 0 _ _ (0, 0) HR2.out; have c1 : w2.cell? ⟨W.heap.size, 1, none⟩ = some (.int .i64 n) := cell_of_row _ _ 1 _ _ (0, 0) HR2.out; have c2 : w2.cell? ⟨W.heap.size, 2, none⟩ = some (.string key) := cell_of_row _ _ 2 _ _ (0, 0) HR2.out; have c3 : w2.cell? ⟨W.heap.size, 3, none⟩ = some (.string val) := cell_of_row _ _ 3 _ _ (0, 0) HR2.out; have c4 : w2.cell? ⟨W.heap.size, 4, none⟩ = some (.slice kA m kc) := cell_of_row _ _ 4 _ _ (0, 0) HR2.out;  have done2 := trivial; clear ho2 hf2)
        | (at_builtin; go_loud ((refine wpList_app rfl (.tmp 7) (.tmp 10) _ _ rfl rfl rfl (HA.out _) ?_); rintro v1 w1 ⟨ho1, hf1⟩; have HF1 := Lib.hid (hf1); have HR1 := Lib.hid (HF1.out.box HR0.out (by decide)); have HO1 := Lib.hid ho1; have HZ1 := Lib.hid (Nat.le_trans HZX.out HF1.out.low.size); (try clear c0 c1 c2 c3 c4); have c0 : w1.cell? ⟨W.heap.size, 0, none⟩ = some (.int .i64 1) := cell_of_row _ _ 0 _ _ (0, 0) HR1.out; have c1 : w1.cell? ⟨W.heap.size, 1, none⟩ = some (.int .i64 n) := cell_of_row _ _ 1 _ _ (0, 0) HR1.out; have c2 : w1.cell? ⟨W.heap.size, 2, none⟩ = some (.string key) := cell_of_row _ _ 2 _ _ (0, 0) HR1.out; have c3 : w1.cell? ⟨W.heap.size, 3, none⟩ = some (.string val) := cell_of_row _ _ 3 _ _ (0, 0) HR1.out; have c4 : w1.cell? ⟨W.heap.size, 4, none⟩ = some (.slice kA m kc) := cell_of_row _ _ 4 _ _ (0, 0) HR1.out; have HA2 := Lib.hid (fun ty => put1 (ty := ty) (w := w1) (y := 40) 40 rfl ho1 rfl HZ1.out (by have := HLEN.out; have := wd_len 1; simp [S8]; omega) (rfl : w1.heap.size = w1.heap.size)); have done1 := trivial; clear ho1 hf1))
        | (go_at_call 41; (with_reducible refine (HWC.out _).mono ?_); rintro e0 w0 ⟨rfl, hw0⟩; subst hw0))
      have HO3 : Hid (w2.ownsRow base 5 1 v2 ((l ++ Wm.wd 1 ++ [40]) ++ Wm.shwL (kids.take 0)).length (((l ++ Wm.wd 1 ++ [40]) ++ Wm.shwL (kids.take 0)).map B8)) := Lib.hid (by have h := HO2.out; rw [List.take_zero, Wm.shwL_nil, List.append_nil]; exact h)
      have HF3 := Lib.hid (HF0.out.trans HF2.out)
      generalize l ++ Wm.wd 1 ++ [40] = hd at *
      clear c0 c1 c2 c3 c4
      go_loopw [0, 5, 6, 41] (fun b _ _ x wr => ∃ j : Nat, x = .int .i64 (j : Int) ∧ j ≤ m ∧ Hid (wr.ownsRow base 5 1 b (hd ++ Wm.shwL (kids.take j)).length ((hd ++ Wm.shwL (kids.take j)).map B8)) ∧ Hid (Fr base W wr)) (fun _ _ _ x _ => m - (intOf x).toNat)
      case atStart => exact ⟨0, rfl, by omega, HO3, HF3⟩
      case round =>
        obtain ⟨j, rfl, hj, HOJ, HFJ⟩ := hrel
        have HBJ := Lib.hid (Nat.le_trans HBW.out HFJ.out.low.size)
        have HLJ := Lib.hid (show (hd ++ Wm.shwL (kids.take j)).length ≤ 100000 from by
          have h1 := Wm.shwL_app (kids.take j) (kids.drop j)
          rw [List.take_append_drop] at h1
          have h2 := HLN.out
          rw [List.length_append]
          omega)
        by_cases hlt : j < m
        · obtain ⟨r, hr⟩ : ∃ r, kids[j]? = some r := ⟨_, List.getElem?_eq_getElem (by rw [HQ.out]; exact hlt)⟩
          have hww : Below B w wr := HW.out.trans (HFJ.out.low.mono HBB.out)
          obtain ⟨ka, k', n', key', val', A', q', qc', ha, hab, hrr, ec, c0, c1, c2, c3, c4⟩ := kid_cells (HROW.out.keep fun _ hp => hww.cell hp) (fun i r h => (HKID.out i r h).low hww) hr
          have I := IH.out j r hr
          rw [ec] at I
          simp only [rcs] at I
          have HTK : Hid (kids.take (j + 1) = kids.take j ++ [r]) := Lib.hid (by rw [List.take_add_one, hr]; rfl)
          have HRA : Hid (r.all = true) := Lib.hid ((allL_iff kids).1 HKA.out r (List.mem_of_getElem? hr))
          have HLS : Hid ((hd ++ Wm.shwL (kids.take (j + 1))).length ≤ 100000) := Lib.hid (by
            have h1 := Wm.shwL_app (kids.take (j + 1)) (kids.drop (j + 1))
            rw [List.take_append_drop] at h1
            have h2 := HLN.out
            rw [List.length_append]
            omega)
          have HI := Lib.hid I
          have HWW := Lib.hid hww
          subst ha
          clear I hr hww hrr ec
          have hcase : j = 0 ∨ 0 < j := by omega
          rcases hcase with hj0 | hj0
          · have HE : Hid (hd ++ Wm.shwL (kids.take (j + 1)) = (hd ++ Wm.shwL (kids.take j)) ++ Wm.shw r) := Lib.hid (by rw [HTK.out, hj0]; simp [Wm.shwL_one, Wm.shwL_nil])
            have d1 : decide (0 < (j : Int)) = false := decide_eq_false (by omega)
            have d2 : decide (0 < j) = false := decide_eq_false (by omega)
            have HJ0 := Lib.hid hj0
            clear hj0
            generalize hd ++ Wm.shwL (kids.take j) = X at *
            have HFA := Lib.hid (Fr.alloc (base := base) (w := wr) (.cells #[.int .i64 k', .int .i64 n', .string key', .string val', .slice A' q' qc'] 24) HBJ.out)
            go_wp2_with (go_at_call 23; (with_reducible refine (HI.out base _ X _ HRA.out (HWW.out.trans (HFA.out.low.mono HBB.out)) HBB.out (Nat.le_trans HBJ.out HFA.out.low.size) (HOJ.out.alloc _) (HT.out.on (HFJ.out.low.trans HFA.out.low)) (by have := HLS.out; rw [HE.out, List.length_append] at this; omega)).mono ?_); rintro e5 w5 ⟨v5, rfl, ho5, hf5⟩; have HO5 := Lib.hid ho5; have HF5 := Lib.hid (HFJ.out.trans (HFA.out.trans hf5)); clear ho5 hf5)
            go_roundw
            case rel => exact ⟨j + 1, by go_num, by omega, by rw [HE.out]; exact HO5, HF5⟩
            case measure => simp [intOf]; omega
          · have HNE : Hid (kids.take j ≠ []) := Lib.hid (fun e => by
              have h1 := congrArg List.length e
              rw [List.length_take, HQ.out] at h1
              simp at h1
              omega)
            have HE : Hid (hd ++ Wm.shwL (kids.take (j + 1)) = (hd ++ Wm.shwL (kids.take j) ++ [44, 32]) ++ Wm.shw r) := Lib.hid (by rw [HTK.out, Wm.shwL_snoc _ _ HNE.out]; simp)
            have d1 : decide (0 < (j : Int)) = true := decide_eq_true (by omega)
            have d2 : decide (0 < j) = true := decide_eq_true (by omega)
            have HJ0 := Lib.hid hj0
            clear hj0
            generalize hd ++ Wm.shwL (kids.take j) = X at *
            have HFA := Lib.hid (Fr.alloc (base := base) (w := wr) (.cells #[.int .i64 k', .int .i64 n', .string key', .string val', .slice A' q' qc'] 24) HBJ.out)
            have HAC := Lib.hid (fun ty => puts (ty := ty) (⟨#[44, 32]⟩ : ByteArray) rfl (HOJ.out.alloc (.cells #[.int .i64 k', .int .i64 n', .string key', .string val', .slice A' q' qc'] 24)) (Nat.le_trans HBJ.out HFA.out.low.size) (by have := HLJ.out; omega) (by decide))
            have hkb := heap_alloc_new wr (.cells #[.int .i64 k', .int .i64 n', .string key', .string val', .slice A' q' qc'] 24)
            have HKB := Lib.hid hkb
            clear hkb
            go_wp2_with (first
              | (have hd2 := done4; clear done4; go_at_call 23; (with_reducible refine (HI.out base _ (X ++ [44, 32]) _ HRA.out (HWW.out.trans (HFB.out.low.mono HBB.out)) HBB.out (Nat.le_trans HBJ.out HFB.out.low.size) HOB.out (HT.out.on (HFJ.out.low.trans HFB.out.low)) (by have := HLS.out; rw [HE.out, List.length_append] at this; omega)).mono ?_); rintro e5 w5 ⟨v5, rfl, ho5, hf5⟩; have HO5 := Lib.hid ho5; have HF5 := Lib.hid (HFJ.out.trans (HFB.out.trans hf5)); clear ho5 hf5)
              | (at_builtin; (refine wpList_app rfl (.tmp 48) (.const (.string ⟨#[44, 32]⟩)) _ _ rfl rfl rfl (HAC.out _) ?_); rintro v4 w4 ⟨ho4, hf4⟩; have HOB := Lib.hid (show w4.ownsRow base 5 1 v4 (X ++ [44, 32]).length ((X ++ [44, 32]).map B8) from ho4); have HFB := Lib.hid (HFA.out.trans hf4); have hrb := hf4.box HKB.out (by decide); have kc0 : w4.cell? ⟨wr.heap.size, 0, none⟩ = some (.int .i64 k') := cell_of_row _ _ 0 _ _ (0, 0) hrb; have kc1 : w4.cell? ⟨wr.heap.size, 1, none⟩ = some (.int .i64 n') := cell_of_row _ _ 1 _ _ (0, 0) hrb; have kc2 : w4.cell? ⟨wr.heap.size, 2, none⟩ = some (.string key') := cell_of_row _ _ 2 _ _ (0, 0) hrb; have kc3 : w4.cell? ⟨wr.heap.size, 3, none⟩ = some (.string val') := cell_of_row _ _ 3 _ _ (0, 0) hrb; have kc4 : w4.cell? ⟨wr.heap.size, 4, none⟩ = some (.slice A' q' qc') := cell_of_row _ _ 4 _ _ (0, 0) hrb;  clear ho4 hf4 hrb; have done4 := trivial))
            go_roundw
            case rel => exact ⟨j + 1, by go_num, by omega, by rw [HE.out]; exact HO5, HF5⟩
            case measure => simp [intOf]; omega
        · obtain rfl : j = m := by omega
          have HTA : Hid (kids.take j = kids) := Lib.hid (List.take_of_length_le (by rw [HQ.out]; omega))
          have HA6 := Lib.hid (fun ty => put1 (ty := ty) (w := wr) (y := 41) 41 rfl HOJ.out rfl HBJ.out (by have := HLJ.out; omega) (rfl : wr.heap.size = wr.heap.size))
          go_wp2_with (at_builtin; (refine wpList_app rfl (.tmp 54) (.tmp 55) _ _ rfl rfl rfl (HA6.out _) ?_); rintro v6 w6 ⟨ho6, hf6⟩; have HO6 := Lib.hid ho6; have HF6 := Lib.hid (HFJ.out.trans hf6); clear ho6 hf6)
          go_ret
          refine ⟨v6, rfl, ?_, HF6.out⟩
          have h := HO6.out
          rw [HTA.out] at h
          rw [HBT3.out]
          simpa using h
    · have HF0 := Lib.hid (Fr.alloc (base := base) (w := W) (.cells #[.int .i64 2, .int .i64 n, .string key, .string val, .slice kA m kc] 24) HBW.out)
      have HR0 := Lib.hid (heap_alloc_new W (.cells #[.int .i64 2, .int .i64 n, .string key, .string val, .slice kA m kc] 24))
      have HOX := Lib.hid (HO.out.alloc (.cells #[.int .i64 2, .int .i64 n, .string key, .string val, .slice kA m kc] 24))
      have HZX := Lib.hid (show base ≤ (W.alloc (.cells #[.int .i64 2, .int .i64 n, .string key, .string val, .slice kA m kc] 24)).heap.size from Nat.le_trans HBW.out HF0.out.low.size)
      have HWC := Lib.hid (word_all 2 (by decide) (by decide))
      rw [show ((2 : Nat) : Int) = 2 from rfl] at HWC
      have HA := Lib.hid (fun ty => puts (ty := ty) (S8 (Wm.wd 2)) rfl HOX.out HZX.out (by have := HLEN.out; omega) (by rw [s8_len]; have := wd_len 2; omega))
      go_enter Tryd.func23, Tryd.ntmps23
      have HBT3 : Hid (l ++ Wm.shw (Rt.mk 2 n key val kids) = (l ++ Wm.wd 2 ++ [40]) ++ (Wm.shwL kids ++ [41])) := Lib.hid (by rw [HBT.out]; simp)
      have HLN := Lib.hid (show (l ++ Wm.wd 2 ++ [40]).length + (Wm.shwL kids).length ≤ 100000 from by
        have h := HLEN.out
        have h2 := congrArg List.length HBT3.out
        simp only [List.length_append, List.length_singleton] at h h2 ⊢
        omega)
      go_wp2_with (first
        | (have hd := done1; clear done1; at_builtin; (refine wpList_app rfl (.tmp 35) (.tmp 36) _ _ rfl rfl rfl (HA2.out _) ?_); rintro v2 w2 ⟨ho2, hf2⟩; have HF2 := Lib.hid (HF1.out.trans hf2); have HR2 := Lib.hid (HF2.out.box HR0.out (by decide)); have HO2 := Lib.hid ho2; have HZ2 := Lib.hid (Nat.le_trans HZX.out HF2.out.low.size); (try clear c0 c1 c2 c3 c4); have c0 : w2.cell? ⟨W.heap.size, 0, none⟩ = some (.int .i64 2) := cell_of_row _ _ 0 _ _ (0, 0) HR2.out; have c1 : w2.cell? ⟨W.heap.size, 1, none⟩ = some (.int .i64 n) := cell_of_row _ _ 1 _ _ (0, 0) HR2.out; have c2 : w2.cell? ⟨W.heap.size, 2, none⟩ = some (.string key) := cell_of_row _ _ 2 _ _ (0, 0) HR2.out; have c3 : w2.cell? ⟨W.heap.size, 3, none⟩ = some (.string val) := cell_of_row _ _ 3 _ _ (0, 0) HR2.out; have c4 : w2.cell? ⟨W.heap.size, 4, none⟩ = some (.slice kA m kc) := cell_of_row _ _ 4 _ _ (0, 0) HR2.out;  have done2 := trivial; clear ho2 hf2)
        | (at_builtin; go_loud ((refine wpList_app rfl (.tmp 7) (.tmp 10) _ _ rfl rfl rfl (HA.out _) ?_); rintro v1 w1 ⟨ho1, hf1⟩; have HF1 := Lib.hid (hf1); have HR1 := Lib.hid (HF1.out.box HR0.out (by decide)); have HO1 := Lib.hid ho1; have HZ1 := Lib.hid (Nat.le_trans HZX.out HF1.out.low.size); (try clear c0 c1 c2 c3 c4); have c0 : w1.cell? ⟨W.heap.size, 0, none⟩ = some (.int .i64 2) := cell_of_row _ _ 0 _ _ (0, 0) HR1.out; have c1 : w1.cell? ⟨W.heap.size, 1, none⟩ = some (.int .i64 n) := cell_of_row _ _ 1 _ _ (0, 0) HR1.out; have c2 : w1.cell? ⟨W.heap.size, 2, none⟩ = some (.string key) := cell_of_row _ _ 2 _ _ (0, 0) HR1.out; have c3 : w1.cell? ⟨W.heap.size, 3, none⟩ = some (.string val) := cell_of_row _ _ 3 _ _ (0, 0) HR1.out; have c4 : w1.cell? ⟨W.heap.size, 4, none⟩ = some (.slice kA m kc) := cell_of_row _ _ 4 _ _ (0, 0) HR1.out; have HA2 := Lib.hid (fun ty => put1 (ty := ty) (w := w1) (y := 40) 40 rfl ho1 rfl HZ1.out (by have := HLEN.out; have := wd_len 2; simp [S8]; omega) (rfl : w1.heap.size = w1.heap.size)); have done1 := trivial; clear ho1 hf1))
        | (go_at_call 41; (with_reducible refine (HWC.out _).mono ?_); rintro e0 w0 ⟨rfl, hw0⟩; subst hw0))
      have HO3 : Hid (w2.ownsRow base 5 1 v2 ((l ++ Wm.wd 2 ++ [40]) ++ Wm.shwL (kids.take 0)).length (((l ++ Wm.wd 2 ++ [40]) ++ Wm.shwL (kids.take 0)).map B8)) := Lib.hid (by have h := HO2.out; rw [List.take_zero, Wm.shwL_nil, List.append_nil]; exact h)
      have HF3 := Lib.hid (HF0.out.trans HF2.out)
      generalize l ++ Wm.wd 2 ++ [40] = hd at *
      clear c0 c1 c2 c3 c4
      go_loopw [0, 5, 6, 41] (fun b _ _ x wr => ∃ j : Nat, x = .int .i64 (j : Int) ∧ j ≤ m ∧ Hid (wr.ownsRow base 5 1 b (hd ++ Wm.shwL (kids.take j)).length ((hd ++ Wm.shwL (kids.take j)).map B8)) ∧ Hid (Fr base W wr)) (fun _ _ _ x _ => m - (intOf x).toNat)
      case atStart => exact ⟨0, rfl, by omega, HO3, HF3⟩
      case round =>
        obtain ⟨j, rfl, hj, HOJ, HFJ⟩ := hrel
        have HBJ := Lib.hid (Nat.le_trans HBW.out HFJ.out.low.size)
        have HLJ := Lib.hid (show (hd ++ Wm.shwL (kids.take j)).length ≤ 100000 from by
          have h1 := Wm.shwL_app (kids.take j) (kids.drop j)
          rw [List.take_append_drop] at h1
          have h2 := HLN.out
          rw [List.length_append]
          omega)
        by_cases hlt : j < m
        · obtain ⟨r, hr⟩ : ∃ r, kids[j]? = some r := ⟨_, List.getElem?_eq_getElem (by rw [HQ.out]; exact hlt)⟩
          have hww : Below B w wr := HW.out.trans (HFJ.out.low.mono HBB.out)
          obtain ⟨ka, k', n', key', val', A', q', qc', ha, hab, hrr, ec, c0, c1, c2, c3, c4⟩ := kid_cells (HROW.out.keep fun _ hp => hww.cell hp) (fun i r h => (HKID.out i r h).low hww) hr
          have I := IH.out j r hr
          rw [ec] at I
          simp only [rcs] at I
          have HTK : Hid (kids.take (j + 1) = kids.take j ++ [r]) := Lib.hid (by rw [List.take_add_one, hr]; rfl)
          have HRA : Hid (r.all = true) := Lib.hid ((allL_iff kids).1 HKA.out r (List.mem_of_getElem? hr))
          have HLS : Hid ((hd ++ Wm.shwL (kids.take (j + 1))).length ≤ 100000) := Lib.hid (by
            have h1 := Wm.shwL_app (kids.take (j + 1)) (kids.drop (j + 1))
            rw [List.take_append_drop] at h1
            have h2 := HLN.out
            rw [List.length_append]
            omega)
          have HI := Lib.hid I
          have HWW := Lib.hid hww
          subst ha
          clear I hr hww hrr ec
          have hcase : j = 0 ∨ 0 < j := by omega
          rcases hcase with hj0 | hj0
          · have HE : Hid (hd ++ Wm.shwL (kids.take (j + 1)) = (hd ++ Wm.shwL (kids.take j)) ++ Wm.shw r) := Lib.hid (by rw [HTK.out, hj0]; simp [Wm.shwL_one, Wm.shwL_nil])
            have d1 : decide (0 < (j : Int)) = false := decide_eq_false (by omega)
            have d2 : decide (0 < j) = false := decide_eq_false (by omega)
            have HJ0 := Lib.hid hj0
            clear hj0
            generalize hd ++ Wm.shwL (kids.take j) = X at *
            have HFA := Lib.hid (Fr.alloc (base := base) (w := wr) (.cells #[.int .i64 k', .int .i64 n', .string key', .string val', .slice A' q' qc'] 24) HBJ.out)
            go_wp2_with (go_at_call 23; (with_reducible refine (HI.out base _ X _ HRA.out (HWW.out.trans (HFA.out.low.mono HBB.out)) HBB.out (Nat.le_trans HBJ.out HFA.out.low.size) (HOJ.out.alloc _) (HT.out.on (HFJ.out.low.trans HFA.out.low)) (by have := HLS.out; rw [HE.out, List.length_append] at this; omega)).mono ?_); rintro e5 w5 ⟨v5, rfl, ho5, hf5⟩; have HO5 := Lib.hid ho5; have HF5 := Lib.hid (HFJ.out.trans (HFA.out.trans hf5)); clear ho5 hf5)
            go_roundw
            case rel => exact ⟨j + 1, by go_num, by omega, by rw [HE.out]; exact HO5, HF5⟩
            case measure => simp [intOf]; omega
          · have HNE : Hid (kids.take j ≠ []) := Lib.hid (fun e => by
              have h1 := congrArg List.length e
              rw [List.length_take, HQ.out] at h1
              simp at h1
              omega)
            have HE : Hid (hd ++ Wm.shwL (kids.take (j + 1)) = (hd ++ Wm.shwL (kids.take j) ++ [44, 32]) ++ Wm.shw r) := Lib.hid (by rw [HTK.out, Wm.shwL_snoc _ _ HNE.out]; simp)
            have d1 : decide (0 < (j : Int)) = true := decide_eq_true (by omega)
            have d2 : decide (0 < j) = true := decide_eq_true (by omega)
            have HJ0 := Lib.hid hj0
            clear hj0
            generalize hd ++ Wm.shwL (kids.take j) = X at *
            have HFA := Lib.hid (Fr.alloc (base := base) (w := wr) (.cells #[.int .i64 k', .int .i64 n', .string key', .string val', .slice A' q' qc'] 24) HBJ.out)
            have HAC := Lib.hid (fun ty => puts (ty := ty) (⟨#[44, 32]⟩ : ByteArray) rfl (HOJ.out.alloc (.cells #[.int .i64 k', .int .i64 n', .string key', .string val', .slice A' q' qc'] 24)) (Nat.le_trans HBJ.out HFA.out.low.size) (by have := HLJ.out; omega) (by decide))
            have hkb := heap_alloc_new wr (.cells #[.int .i64 k', .int .i64 n', .string key', .string val', .slice A' q' qc'] 24)
            have HKB := Lib.hid hkb
            clear hkb
            go_wp2_with (first
              | (have hd2 := done4; clear done4; go_at_call 23; (with_reducible refine (HI.out base _ (X ++ [44, 32]) _ HRA.out (HWW.out.trans (HFB.out.low.mono HBB.out)) HBB.out (Nat.le_trans HBJ.out HFB.out.low.size) HOB.out (HT.out.on (HFJ.out.low.trans HFB.out.low)) (by have := HLS.out; rw [HE.out, List.length_append] at this; omega)).mono ?_); rintro e5 w5 ⟨v5, rfl, ho5, hf5⟩; have HO5 := Lib.hid ho5; have HF5 := Lib.hid (HFJ.out.trans (HFB.out.trans hf5)); clear ho5 hf5)
              | (at_builtin; (refine wpList_app rfl (.tmp 48) (.const (.string ⟨#[44, 32]⟩)) _ _ rfl rfl rfl (HAC.out _) ?_); rintro v4 w4 ⟨ho4, hf4⟩; have HOB := Lib.hid (show w4.ownsRow base 5 1 v4 (X ++ [44, 32]).length ((X ++ [44, 32]).map B8) from ho4); have HFB := Lib.hid (HFA.out.trans hf4); have hrb := hf4.box HKB.out (by decide); have kc0 : w4.cell? ⟨wr.heap.size, 0, none⟩ = some (.int .i64 k') := cell_of_row _ _ 0 _ _ (0, 0) hrb; have kc1 : w4.cell? ⟨wr.heap.size, 1, none⟩ = some (.int .i64 n') := cell_of_row _ _ 1 _ _ (0, 0) hrb; have kc2 : w4.cell? ⟨wr.heap.size, 2, none⟩ = some (.string key') := cell_of_row _ _ 2 _ _ (0, 0) hrb; have kc3 : w4.cell? ⟨wr.heap.size, 3, none⟩ = some (.string val') := cell_of_row _ _ 3 _ _ (0, 0) hrb; have kc4 : w4.cell? ⟨wr.heap.size, 4, none⟩ = some (.slice A' q' qc') := cell_of_row _ _ 4 _ _ (0, 0) hrb;  clear ho4 hf4 hrb; have done4 := trivial))
            go_roundw
            case rel => exact ⟨j + 1, by go_num, by omega, by rw [HE.out]; exact HO5, HF5⟩
            case measure => simp [intOf]; omega
        · obtain rfl : j = m := by omega
          have HTA : Hid (kids.take j = kids) := Lib.hid (List.take_of_length_le (by rw [HQ.out]; omega))
          have HA6 := Lib.hid (fun ty => put1 (ty := ty) (w := wr) (y := 41) 41 rfl HOJ.out rfl HBJ.out (by have := HLJ.out; omega) (rfl : wr.heap.size = wr.heap.size))
          go_wp2_with (at_builtin; (refine wpList_app rfl (.tmp 54) (.tmp 55) _ _ rfl rfl rfl (HA6.out _) ?_); rintro v6 w6 ⟨ho6, hf6⟩; have HO6 := Lib.hid ho6; have HF6 := Lib.hid (HFJ.out.trans hf6); clear ho6 hf6)
          go_ret
          refine ⟨v6, rfl, ?_, HF6.out⟩
          have h := HO6.out
          rw [HTA.out] at h
          rw [HBT3.out]
          simpa using h
    · have HF0 := Lib.hid (Fr.alloc (base := base) (w := W) (.cells #[.int .i64 3, .int .i64 n, .string key, .string val, .slice kA m kc] 24) HBW.out)
      have HR0 := Lib.hid (heap_alloc_new W (.cells #[.int .i64 3, .int .i64 n, .string key, .string val, .slice kA m kc] 24))
      have HOX := Lib.hid (HO.out.alloc (.cells #[.int .i64 3, .int .i64 n, .string key, .string val, .slice kA m kc] 24))
      have HZX := Lib.hid (show base ≤ (W.alloc (.cells #[.int .i64 3, .int .i64 n, .string key, .string val, .slice kA m kc] 24)).heap.size from Nat.le_trans HBW.out HF0.out.low.size)
      have HWC := Lib.hid (word_all 3 (by decide) (by decide))
      rw [show ((3 : Nat) : Int) = 3 from rfl] at HWC
      have HA := Lib.hid (fun ty => puts (ty := ty) (S8 (Wm.wd 3)) rfl HOX.out HZX.out (by have := HLEN.out; omega) (by rw [s8_len]; have := wd_len 3; omega))
      go_enter Tryd.func23, Tryd.ntmps23
      have HBT3 : Hid (l ++ Wm.shw (Rt.mk 3 n key val kids) = (l ++ Wm.wd 3 ++ [40]) ++ (Wm.shwL kids ++ [41])) := Lib.hid (by rw [HBT.out]; simp)
      have HLN := Lib.hid (show (l ++ Wm.wd 3 ++ [40]).length + (Wm.shwL kids).length ≤ 100000 from by
        have h := HLEN.out
        have h2 := congrArg List.length HBT3.out
        simp only [List.length_append, List.length_singleton] at h h2 ⊢
        omega)
      go_wp2_with (first
        | (have hd := done1; clear done1; at_builtin; (refine wpList_app rfl (.tmp 35) (.tmp 36) _ _ rfl rfl rfl (HA2.out _) ?_); rintro v2 w2 ⟨ho2, hf2⟩; have HF2 := Lib.hid (HF1.out.trans hf2); have HR2 := Lib.hid (HF2.out.box HR0.out (by decide)); have HO2 := Lib.hid ho2; have HZ2 := Lib.hid (Nat.le_trans HZX.out HF2.out.low.size); (try clear c0 c1 c2 c3 c4); have c0 : w2.cell? ⟨W.heap.size, 0, none⟩ = some (.int .i64 3) := cell_of_row _ _ 0 _ _ (0, 0) HR2.out; have c1 : w2.cell? ⟨W.heap.size, 1, none⟩ = some (.int .i64 n) := cell_of_row _ _ 1 _ _ (0, 0) HR2.out; have c2 : w2.cell? ⟨W.heap.size, 2, none⟩ = some (.string key) := cell_of_row _ _ 2 _ _ (0, 0) HR2.out; have c3 : w2.cell? ⟨W.heap.size, 3, none⟩ = some (.string val) := cell_of_row _ _ 3 _ _ (0, 0) HR2.out; have c4 : w2.cell? ⟨W.heap.size, 4, none⟩ = some (.slice kA m kc) := cell_of_row _ _ 4 _ _ (0, 0) HR2.out;  have done2 := trivial; clear ho2 hf2)
        | (at_builtin; go_loud ((refine wpList_app rfl (.tmp 7) (.tmp 10) _ _ rfl rfl rfl (HA.out _) ?_); rintro v1 w1 ⟨ho1, hf1⟩; have HF1 := Lib.hid (hf1); have HR1 := Lib.hid (HF1.out.box HR0.out (by decide)); have HO1 := Lib.hid ho1; have HZ1 := Lib.hid (Nat.le_trans HZX.out HF1.out.low.size); (try clear c0 c1 c2 c3 c4); have c0 : w1.cell? ⟨W.heap.size, 0, none⟩ = some (.int .i64 3) := cell_of_row _ _ 0 _ _ (0, 0) HR1.out; have c1 : w1.cell? ⟨W.heap.size, 1, none⟩ = some (.int .i64 n) := cell_of_row _ _ 1 _ _ (0, 0) HR1.out; have c2 : w1.cell? ⟨W.heap.size, 2, none⟩ = some (.string key) := cell_of_row _ _ 2 _ _ (0, 0) HR1.out; have c3 : w1.cell? ⟨W.heap.size, 3, none⟩ = some (.string val) := cell_of_row _ _ 3 _ _ (0, 0) HR1.out; have c4 : w1.cell? ⟨W.heap.size, 4, none⟩ = some (.slice kA m kc) := cell_of_row _ _ 4 _ _ (0, 0) HR1.out; have HA2 := Lib.hid (fun ty => put1 (ty := ty) (w := w1) (y := 40) 40 rfl ho1 rfl HZ1.out (by have := HLEN.out; have := wd_len 3; simp [S8]; omega) (rfl : w1.heap.size = w1.heap.size)); have done1 := trivial; clear ho1 hf1))
        | (go_at_call 41; (with_reducible refine (HWC.out _).mono ?_); rintro e0 w0 ⟨rfl, hw0⟩; subst hw0))
      have HO3 : Hid (w2.ownsRow base 5 1 v2 ((l ++ Wm.wd 3 ++ [40]) ++ Wm.shwL (kids.take 0)).length (((l ++ Wm.wd 3 ++ [40]) ++ Wm.shwL (kids.take 0)).map B8)) := Lib.hid (by have h := HO2.out; rw [List.take_zero, Wm.shwL_nil, List.append_nil]; exact h)
      have HF3 := Lib.hid (HF0.out.trans HF2.out)
      generalize l ++ Wm.wd 3 ++ [40] = hd at *
      clear c0 c1 c2 c3 c4
      go_loopw [0, 5, 6, 41] (fun b _ _ x wr => ∃ j : Nat, x = .int .i64 (j : Int) ∧ j ≤ m ∧ Hid (wr.ownsRow base 5 1 b (hd ++ Wm.shwL (kids.take j)).length ((hd ++ Wm.shwL (kids.take j)).map B8)) ∧ Hid (Fr base W wr)) (fun _ _ _ x _ => m - (intOf x).toNat)
      case atStart => exact ⟨0, rfl, by omega, HO3, HF3⟩
      case round =>
        obtain ⟨j, rfl, hj, HOJ, HFJ⟩ := hrel
        have HBJ := Lib.hid (Nat.le_trans HBW.out HFJ.out.low.size)
        have HLJ := Lib.hid (show (hd ++ Wm.shwL (kids.take j)).length ≤ 100000 from by
          have h1 := Wm.shwL_app (kids.take j) (kids.drop j)
          rw [List.take_append_drop] at h1
          have h2 := HLN.out
          rw [List.length_append]
          omega)
        by_cases hlt : j < m
        · obtain ⟨r, hr⟩ : ∃ r, kids[j]? = some r := ⟨_, List.getElem?_eq_getElem (by rw [HQ.out]; exact hlt)⟩
          have hww : Below B w wr := HW.out.trans (HFJ.out.low.mono HBB.out)
          obtain ⟨ka, k', n', key', val', A', q', qc', ha, hab, hrr, ec, c0, c1, c2, c3, c4⟩ := kid_cells (HROW.out.keep fun _ hp => hww.cell hp) (fun i r h => (HKID.out i r h).low hww) hr
          have I := IH.out j r hr
          rw [ec] at I
          simp only [rcs] at I
          have HTK : Hid (kids.take (j + 1) = kids.take j ++ [r]) := Lib.hid (by rw [List.take_add_one, hr]; rfl)
          have HRA : Hid (r.all = true) := Lib.hid ((allL_iff kids).1 HKA.out r (List.mem_of_getElem? hr))
          have HLS : Hid ((hd ++ Wm.shwL (kids.take (j + 1))).length ≤ 100000) := Lib.hid (by
            have h1 := Wm.shwL_app (kids.take (j + 1)) (kids.drop (j + 1))
            rw [List.take_append_drop] at h1
            have h2 := HLN.out
            rw [List.length_append]
            omega)
          have HI := Lib.hid I
          have HWW := Lib.hid hww
          subst ha
          clear I hr hww hrr ec
          have hcase : j = 0 ∨ 0 < j := by omega
          rcases hcase with hj0 | hj0
          · have HE : Hid (hd ++ Wm.shwL (kids.take (j + 1)) = (hd ++ Wm.shwL (kids.take j)) ++ Wm.shw r) := Lib.hid (by rw [HTK.out, hj0]; simp [Wm.shwL_one, Wm.shwL_nil])
            have d1 : decide (0 < (j : Int)) = false := decide_eq_false (by omega)
            have d2 : decide (0 < j) = false := decide_eq_false (by omega)
            have HJ0 := Lib.hid hj0
            clear hj0
            generalize hd ++ Wm.shwL (kids.take j) = X at *
            have HFA := Lib.hid (Fr.alloc (base := base) (w := wr) (.cells #[.int .i64 k', .int .i64 n', .string key', .string val', .slice A' q' qc'] 24) HBJ.out)
            go_wp2_with (go_at_call 23; (with_reducible refine (HI.out base _ X _ HRA.out (HWW.out.trans (HFA.out.low.mono HBB.out)) HBB.out (Nat.le_trans HBJ.out HFA.out.low.size) (HOJ.out.alloc _) (HT.out.on (HFJ.out.low.trans HFA.out.low)) (by have := HLS.out; rw [HE.out, List.length_append] at this; omega)).mono ?_); rintro e5 w5 ⟨v5, rfl, ho5, hf5⟩; have HO5 := Lib.hid ho5; have HF5 := Lib.hid (HFJ.out.trans (HFA.out.trans hf5)); clear ho5 hf5)
            go_roundw
            case rel => exact ⟨j + 1, by go_num, by omega, by rw [HE.out]; exact HO5, HF5⟩
            case measure => simp [intOf]; omega
          · have HNE : Hid (kids.take j ≠ []) := Lib.hid (fun e => by
              have h1 := congrArg List.length e
              rw [List.length_take, HQ.out] at h1
              simp at h1
              omega)
            have HE : Hid (hd ++ Wm.shwL (kids.take (j + 1)) = (hd ++ Wm.shwL (kids.take j) ++ [44, 32]) ++ Wm.shw r) := Lib.hid (by rw [HTK.out, Wm.shwL_snoc _ _ HNE.out]; simp)
            have d1 : decide (0 < (j : Int)) = true := decide_eq_true (by omega)
            have d2 : decide (0 < j) = true := decide_eq_true (by omega)
            have HJ0 := Lib.hid hj0
            clear hj0
            generalize hd ++ Wm.shwL (kids.take j) = X at *
            have HFA := Lib.hid (Fr.alloc (base := base) (w := wr) (.cells #[.int .i64 k', .int .i64 n', .string key', .string val', .slice A' q' qc'] 24) HBJ.out)
            have HAC := Lib.hid (fun ty => puts (ty := ty) (⟨#[44, 32]⟩ : ByteArray) rfl (HOJ.out.alloc (.cells #[.int .i64 k', .int .i64 n', .string key', .string val', .slice A' q' qc'] 24)) (Nat.le_trans HBJ.out HFA.out.low.size) (by have := HLJ.out; omega) (by decide))
            have hkb := heap_alloc_new wr (.cells #[.int .i64 k', .int .i64 n', .string key', .string val', .slice A' q' qc'] 24)
            have HKB := Lib.hid hkb
            clear hkb
            go_wp2_with (first
              | (have hd2 := done4; clear done4; go_at_call 23; (with_reducible refine (HI.out base _ (X ++ [44, 32]) _ HRA.out (HWW.out.trans (HFB.out.low.mono HBB.out)) HBB.out (Nat.le_trans HBJ.out HFB.out.low.size) HOB.out (HT.out.on (HFJ.out.low.trans HFB.out.low)) (by have := HLS.out; rw [HE.out, List.length_append] at this; omega)).mono ?_); rintro e5 w5 ⟨v5, rfl, ho5, hf5⟩; have HO5 := Lib.hid ho5; have HF5 := Lib.hid (HFJ.out.trans (HFB.out.trans hf5)); clear ho5 hf5)
              | (at_builtin; (refine wpList_app rfl (.tmp 48) (.const (.string ⟨#[44, 32]⟩)) _ _ rfl rfl rfl (HAC.out _) ?_); rintro v4 w4 ⟨ho4, hf4⟩; have HOB := Lib.hid (show w4.ownsRow base 5 1 v4 (X ++ [44, 32]).length ((X ++ [44, 32]).map B8) from ho4); have HFB := Lib.hid (HFA.out.trans hf4); have hrb := hf4.box HKB.out (by decide); have kc0 : w4.cell? ⟨wr.heap.size, 0, none⟩ = some (.int .i64 k') := cell_of_row _ _ 0 _ _ (0, 0) hrb; have kc1 : w4.cell? ⟨wr.heap.size, 1, none⟩ = some (.int .i64 n') := cell_of_row _ _ 1 _ _ (0, 0) hrb; have kc2 : w4.cell? ⟨wr.heap.size, 2, none⟩ = some (.string key') := cell_of_row _ _ 2 _ _ (0, 0) hrb; have kc3 : w4.cell? ⟨wr.heap.size, 3, none⟩ = some (.string val') := cell_of_row _ _ 3 _ _ (0, 0) hrb; have kc4 : w4.cell? ⟨wr.heap.size, 4, none⟩ = some (.slice A' q' qc') := cell_of_row _ _ 4 _ _ (0, 0) hrb;  clear ho4 hf4 hrb; have done4 := trivial))
            go_roundw
            case rel => exact ⟨j + 1, by go_num, by omega, by rw [HE.out]; exact HO5, HF5⟩
            case measure => simp [intOf]; omega
        · obtain rfl : j = m := by omega
          have HTA : Hid (kids.take j = kids) := Lib.hid (List.take_of_length_le (by rw [HQ.out]; omega))
          have HA6 := Lib.hid (fun ty => put1 (ty := ty) (w := wr) (y := 41) 41 rfl HOJ.out rfl HBJ.out (by have := HLJ.out; omega) (rfl : wr.heap.size = wr.heap.size))
          go_wp2_with (at_builtin; (refine wpList_app rfl (.tmp 54) (.tmp 55) _ _ rfl rfl rfl (HA6.out _) ?_); rintro v6 w6 ⟨ho6, hf6⟩; have HO6 := Lib.hid ho6; have HF6 := Lib.hid (HFJ.out.trans hf6); clear ho6 hf6)
          go_ret
          refine ⟨v6, rfl, ?_, HF6.out⟩
          have h := HO6.out
          rw [HTA.out] at h
          rw [HBT3.out]
          simpa using h
    · have HF0 := Lib.hid (Fr.alloc (base := base) (w := W) (.cells #[.int .i64 4, .int .i64 n, .string key, .string val, .slice kA m kc] 24) HBW.out)
      have HR0 := Lib.hid (heap_alloc_new W (.cells #[.int .i64 4, .int .i64 n, .string key, .string val, .slice kA m kc] 24))
      have HOX := Lib.hid (HO.out.alloc (.cells #[.int .i64 4, .int .i64 n, .string key, .string val, .slice kA m kc] 24))
      have HZX := Lib.hid (show base ≤ (W.alloc (.cells #[.int .i64 4, .int .i64 n, .string key, .string val, .slice kA m kc] 24)).heap.size from Nat.le_trans HBW.out HF0.out.low.size)
      have HWC := Lib.hid (word_all 4 (by decide) (by decide))
      rw [show ((4 : Nat) : Int) = 4 from rfl] at HWC
      have HA := Lib.hid (fun ty => puts (ty := ty) (S8 (Wm.wd 4)) rfl HOX.out HZX.out (by have := HLEN.out; omega) (by rw [s8_len]; have := wd_len 4; omega))
      go_enter Tryd.func23, Tryd.ntmps23
      obtain ⟨nn, hnn⟩ : ∃ nn : Nat, n = (nn : Int) ∧ nn ≤ 1073741824 := by
        have h := HONE.out
        unfold oneR gok gmost at h
        simp at h
        exact ⟨n.toNat, by omega, by omega⟩
      obtain ⟨rfl, hnl⟩ := hnn
      have HNL : Hid (nn ≤ 9223372036854775807) := Lib.hid (by omega)
      go_upto_region 20 with (first
        | (at_builtin; go_loud ((refine wpList_app rfl (.tmp 7) (.tmp 10) _ _ rfl rfl rfl (HA.out _) ?_); rintro v1 w1 ⟨ho1, hf1⟩; have HF1 := Lib.hid (hf1); have HR1 := Lib.hid (HF1.out.box HR0.out (by decide)); have HO1 := Lib.hid ho1; have HZ1 := Lib.hid (Nat.le_trans HZX.out HF1.out.low.size); (try clear c0 c1 c2 c3 c4); have c0 : w1.cell? ⟨W.heap.size, 0, none⟩ = some (.int .i64 4) := cell_of_row _ _ 0 _ _ (0, 0) HR1.out; have c1 : w1.cell? ⟨W.heap.size, 1, none⟩ = some (.int .i64 (nn : Int)) := cell_of_row _ _ 1 _ _ (0, 0) HR1.out; have c2 : w1.cell? ⟨W.heap.size, 2, none⟩ = some (.string key) := cell_of_row _ _ 2 _ _ (0, 0) HR1.out; have c3 : w1.cell? ⟨W.heap.size, 3, none⟩ = some (.string val) := cell_of_row _ _ 3 _ _ (0, 0) HR1.out; have c4 : w1.cell? ⟨W.heap.size, 4, none⟩ = some (.slice kA m kc) := cell_of_row _ _ 4 _ _ (0, 0) HR1.out; have done1 := trivial; clear ho1 hf1))
        | (go_at_call 41; (with_reducible refine (HWC.out _).mono ?_); rintro e0 w0 ⟨rfl, hw0⟩; subst hw0))
      have HA2 := Lib.hid (fun ty => put1d (ty := ty) (w := w1) (y := 32) 32 rfl HO1.out rfl HZ1.out (by have := HLEN.out; have := wd_len 4; simp [S8]; omega) (rfl : w1.heap.size = w1.heap.size))
      go_region_held3 (fun w' => w'.cell? ⟨W.heap.size, 1, none⟩ = some (.int .i64 (nn : Int)))
        (first | (with_reducible assumption) | go_keep)
        ((first
          | (go_at_call 43; (with_reducible refine (appint_any base _ _ nn _ HO2.out HZ2.out (by have := HLEN.out; have := wd_len 4; simp [S8]; omega) HNL.out (HT.out.on (HF0.out.low.trans HF2.out.low))).mono ?_); rintro e3 w3 ⟨v3, rfl, ho3, hf3⟩; have HO3 := Lib.hid ho3; have HF3 := Lib.hid hf3; have e1 : w3.cell? ⟨W.heap.size, 1, none⟩ = some (.int .i64 (nn : Int)) := cell_of_row _ _ 1 _ _ (0, 0) (hf3.box HR2.out (by decide)); clear ho3 hf3)
          | ((refine step_app (by rfl) (.tmp 57) (.tmp 58) _ _ (by rfl) (by rfl) (by rfl) (HA2.out _) ?_); rintro v2 w2 ⟨ho2, hf2⟩; have HF2 := Lib.hid (HF1.out.trans hf2); have HR2 := Lib.hid (HF2.out.box HR0.out (by decide)); have HO2 := Lib.hid ho2; have HZ2 := Lib.hid (Nat.le_trans HZX.out HF2.out.low.size); (try clear c0 c1 c2 c3 c4); have c0 : w2.cell? ⟨W.heap.size, 0, none⟩ = some (.int .i64 4) := cell_of_row _ _ 0 _ _ (0, 0) HR2.out; have c1 : w2.cell? ⟨W.heap.size, 1, none⟩ = some (.int .i64 (nn : Int)) := cell_of_row _ _ 1 _ _ (0, 0) HR2.out; have c2 : w2.cell? ⟨W.heap.size, 2, none⟩ = some (.string key) := cell_of_row _ _ 2 _ _ (0, 0) HR2.out; have c3 : w2.cell? ⟨W.heap.size, 3, none⟩ = some (.string val) := cell_of_row _ _ 3 _ _ (0, 0) HR2.out; have c4 : w2.cell? ⟨W.heap.size, 4, none⟩ = some (.slice kA m kc) := cell_of_row _ _ 4 _ _ (0, 0) HR2.out;  clear ho2 hf2)))
      go_wp2_with fail
      go_ret
      refine ⟨v3, rfl, ?_, HF0.out.trans (HF2.out.trans HF3.out)⟩
      have h := HO3.out
      rw [HBT.out]
      simpa [S8] using h
    · have HF0 := Lib.hid (Fr.alloc (base := base) (w := W) (.cells #[.int .i64 5, .int .i64 n, .string key, .string val, .slice kA m kc] 24) HBW.out)
      have HR0 := Lib.hid (heap_alloc_new W (.cells #[.int .i64 5, .int .i64 n, .string key, .string val, .slice kA m kc] 24))
      have HOX := Lib.hid (HO.out.alloc (.cells #[.int .i64 5, .int .i64 n, .string key, .string val, .slice kA m kc] 24))
      have HZX := Lib.hid (show base ≤ (W.alloc (.cells #[.int .i64 5, .int .i64 n, .string key, .string val, .slice kA m kc] 24)).heap.size from Nat.le_trans HBW.out HF0.out.low.size)
      have HWC := Lib.hid (word_all 5 (by decide) (by decide))
      rw [show ((5 : Nat) : Int) = 5 from rfl] at HWC
      have HA := Lib.hid (fun ty => puts (ty := ty) (S8 (Wm.wd 5)) rfl HOX.out HZX.out (by have := HLEN.out; omega) (by rw [s8_len]; have := wd_len 5; omega))
      go_enter Tryd.func23, Tryd.ntmps23
      go_wp2_with (first
        | (at_builtin; go_loud ((refine wpList_app rfl (.tmp 7) (.tmp 10) _ _ rfl rfl rfl (HA.out _) ?_); rintro v1 w1 ⟨ho1, hf1⟩; have HF1 := Lib.hid (hf1); have HR1 := Lib.hid (HF1.out.box HR0.out (by decide)); have HO1 := Lib.hid ho1; have HZ1 := Lib.hid (Nat.le_trans HZX.out HF1.out.low.size); (try clear c0 c1 c2 c3 c4); have c0 : w1.cell? ⟨W.heap.size, 0, none⟩ = some (.int .i64 5) := cell_of_row _ _ 0 _ _ (0, 0) HR1.out; have c1 : w1.cell? ⟨W.heap.size, 1, none⟩ = some (.int .i64 n) := cell_of_row _ _ 1 _ _ (0, 0) HR1.out; have c2 : w1.cell? ⟨W.heap.size, 2, none⟩ = some (.string key) := cell_of_row _ _ 2 _ _ (0, 0) HR1.out; have c3 : w1.cell? ⟨W.heap.size, 3, none⟩ = some (.string val) := cell_of_row _ _ 3 _ _ (0, 0) HR1.out; have c4 : w1.cell? ⟨W.heap.size, 4, none⟩ = some (.slice kA m kc) := cell_of_row _ _ 4 _ _ (0, 0) HR1.out; have done1 := trivial; clear ho1 hf1))
        | (go_at_call 41; (with_reducible refine (HWC.out _).mono ?_); rintro e0 w0 ⟨rfl, hw0⟩; subst hw0))
      go_ret
      refine ⟨v1, rfl, ?_, HF0.out.trans HF1.out⟩
      have h := HO1.out
      rw [HBT.out]
      simpa [S8] using h
    · have HF0 := Lib.hid (Fr.alloc (base := base) (w := W) (.cells #[.int .i64 6, .int .i64 n, .string key, .string val, .slice kA m kc] 24) HBW.out)
      have HR0 := Lib.hid (heap_alloc_new W (.cells #[.int .i64 6, .int .i64 n, .string key, .string val, .slice kA m kc] 24))
      have HOX := Lib.hid (HO.out.alloc (.cells #[.int .i64 6, .int .i64 n, .string key, .string val, .slice kA m kc] 24))
      have HZX := Lib.hid (show base ≤ (W.alloc (.cells #[.int .i64 6, .int .i64 n, .string key, .string val, .slice kA m kc] 24)).heap.size from Nat.le_trans HBW.out HF0.out.low.size)
      have HWC := Lib.hid (word_all 6 (by decide) (by decide))
      rw [show ((6 : Nat) : Int) = 6 from rfl] at HWC
      have HA := Lib.hid (fun ty => puts (ty := ty) (S8 (Wm.wd 6)) rfl HOX.out HZX.out (by have := HLEN.out; omega) (by rw [s8_len]; have := wd_len 6; omega))
      go_enter Tryd.func23, Tryd.ntmps23
      have HKS := Lib.hid (show key.size ≤ 16 ∧ val.size ≤ 16 from by
        have h := HONE.out
        unfold oneR at h
        simp at h
        omega)
      have HQK := Lib.hid (Wm.quo_len key.data.toList)
      have HQV := Lib.hid (Wm.quo_len val.data.toList)
      have hksz := size_list key
      have hvsz := size_list val
      have HSK := Lib.hid hksz
      have HSV := Lib.hid hvsz
      clear hksz hvsz
      go_upto_region 6 with (first
        | (at_builtin; go_loud ((refine wpList_app rfl (.tmp 7) (.tmp 10) _ _ rfl rfl rfl (HA.out _) ?_); rintro v1 w1 ⟨ho1, hf1⟩; have HF1 := Lib.hid (hf1); have HR1 := Lib.hid (HF1.out.box HR0.out (by decide)); have HO1 := Lib.hid ho1; have HZ1 := Lib.hid (Nat.le_trans HZX.out HF1.out.low.size); (try clear c0 c1 c2 c3 c4); have c0 : w1.cell? ⟨W.heap.size, 0, none⟩ = some (.int .i64 6) := cell_of_row _ _ 0 _ _ (0, 0) HR1.out; have c1 : w1.cell? ⟨W.heap.size, 1, none⟩ = some (.int .i64 n) := cell_of_row _ _ 1 _ _ (0, 0) HR1.out; have c2 : w1.cell? ⟨W.heap.size, 2, none⟩ = some (.string key) := cell_of_row _ _ 2 _ _ (0, 0) HR1.out; have c3 : w1.cell? ⟨W.heap.size, 3, none⟩ = some (.string val) := cell_of_row _ _ 3 _ _ (0, 0) HR1.out; have c4 : w1.cell? ⟨W.heap.size, 4, none⟩ = some (.slice kA m kc) := cell_of_row _ _ 4 _ _ (0, 0) HR1.out; have done1 := trivial; clear ho1 hf1))
        | (go_at_call 41; (with_reducible refine (HWC.out _).mono ?_); rintro e0 w0 ⟨rfl, hw0⟩; subst hw0))
      have HA2 := Lib.hid (fun ty => put1d (ty := ty) (w := w1) (y := 32) 32 rfl HO1.out rfl HZ1.out (by have := HLEN.out; have := wd_len 6; simp [S8]; omega) (rfl : w1.heap.size = w1.heap.size))
      go_region_held3 (fun w' => w'.cell? ⟨W.heap.size, 2, none⟩ = some (.string key))
        (first | (with_reducible assumption) | go_keep)
        ((first
          | (go_at_call 42; (with_reducible refine (puttext_any base _ _ key _ HO2.out HZ2.out (by have hx := HLEN.out; have hy := wd_len 6; simp [S8]; omega) (by have := HKS.out; omega)).mono ?_); rintro e3 w3 ⟨v3, rfl, ho3, hf3⟩; have HF3 := Lib.hid (HF2.out.trans hf3); have HR3 := Lib.hid (HF3.out.box HR0.out (by decide)); have HO3 := Lib.hid ho3; have HZ3 := Lib.hid (Nat.le_trans HZX.out HF3.out.low.size); (try clear c0 c1 c2 c3 c4); have c0 : w3.cell? ⟨W.heap.size, 0, none⟩ = some (.int .i64 6) := cell_of_row _ _ 0 _ _ (0, 0) HR3.out; have c1 : w3.cell? ⟨W.heap.size, 1, none⟩ = some (.int .i64 n) := cell_of_row _ _ 1 _ _ (0, 0) HR3.out; have c2 : w3.cell? ⟨W.heap.size, 2, none⟩ = some (.string key) := cell_of_row _ _ 2 _ _ (0, 0) HR3.out; have c3 : w3.cell? ⟨W.heap.size, 3, none⟩ = some (.string val) := cell_of_row _ _ 3 _ _ (0, 0) HR3.out; have c4 : w3.cell? ⟨W.heap.size, 4, none⟩ = some (.slice kA m kc) := cell_of_row _ _ 4 _ _ (0, 0) HR3.out;  clear ho3 hf3)
          | ((refine step_app (by rfl) (.tmp 19) (.tmp 20) _ _ (by rfl) (by rfl) (by rfl) (HA2.out _) ?_); rintro v2 w2 ⟨ho2, hf2⟩; have HF2 := Lib.hid (HF1.out.trans hf2); have HR2 := Lib.hid (HF2.out.box HR0.out (by decide)); have HO2 := Lib.hid ho2; have HZ2 := Lib.hid (Nat.le_trans HZX.out HF2.out.low.size); (try clear c0 c1 c2 c3 c4); have c0 : w2.cell? ⟨W.heap.size, 0, none⟩ = some (.int .i64 6) := cell_of_row _ _ 0 _ _ (0, 0) HR2.out; have c1 : w2.cell? ⟨W.heap.size, 1, none⟩ = some (.int .i64 n) := cell_of_row _ _ 1 _ _ (0, 0) HR2.out; have c2 : w2.cell? ⟨W.heap.size, 2, none⟩ = some (.string key) := cell_of_row _ _ 2 _ _ (0, 0) HR2.out; have c3 : w2.cell? ⟨W.heap.size, 3, none⟩ = some (.string val) := cell_of_row _ _ 3 _ _ (0, 0) HR2.out; have c4 : w2.cell? ⟨W.heap.size, 4, none⟩ = some (.slice kA m kc) := cell_of_row _ _ 4 _ _ (0, 0) HR2.out;  clear ho2 hf2)))
      go_upto_region 7 with fail
      have HA4 := Lib.hid (fun ty => put1d (ty := ty) (w := w3) (y := 32) 32 rfl HO3.out rfl HZ3.out (by have hx := HLEN.out; have hy := wd_len 6; have h1 := HQK.out; have h2 := HKS.out; have h3 := HSK.out; simp [S8]; omega) (rfl : w3.heap.size = w3.heap.size))
      go_region_held3 (fun w' => w'.cell? ⟨W.heap.size, 3, none⟩ = some (.string val))
        (first | (with_reducible assumption) | go_keep)
        ((first
          | (go_at_call 42; (with_reducible refine (puttext_any base _ _ val _ HO4.out HZ4.out (by have hx := HLEN.out; have hy := wd_len 6; have h1 := HQK.out; have h2 := HKS.out; have h3 := HSK.out; simp [S8]; omega) (by have := HKS.out; omega)).mono ?_); rintro e5 w5 ⟨v5, rfl, ho5, hf5⟩; have HF5 := Lib.hid (HF4.out.trans hf5); have HR5 := Lib.hid (HF5.out.box HR0.out (by decide)); have HO5 := Lib.hid ho5; have HZ5 := Lib.hid (Nat.le_trans HZX.out HF5.out.low.size); (try clear c0 c1 c2 c3 c4); have c0 : w5.cell? ⟨W.heap.size, 0, none⟩ = some (.int .i64 6) := cell_of_row _ _ 0 _ _ (0, 0) HR5.out; have c1 : w5.cell? ⟨W.heap.size, 1, none⟩ = some (.int .i64 n) := cell_of_row _ _ 1 _ _ (0, 0) HR5.out; have c2 : w5.cell? ⟨W.heap.size, 2, none⟩ = some (.string key) := cell_of_row _ _ 2 _ _ (0, 0) HR5.out; have c3 : w5.cell? ⟨W.heap.size, 3, none⟩ = some (.string val) := cell_of_row _ _ 3 _ _ (0, 0) HR5.out; have c4 : w5.cell? ⟨W.heap.size, 4, none⟩ = some (.slice kA m kc) := cell_of_row _ _ 4 _ _ (0, 0) HR5.out;  clear ho5 hf5)
          | ((refine step_app (by rfl) (.tmp 25) (.tmp 26) _ _ (by rfl) (by rfl) (by rfl) (HA4.out _) ?_); rintro v4 w4 ⟨ho4, hf4⟩; have HF4 := Lib.hid (HF3.out.trans hf4); have HR4 := Lib.hid (HF4.out.box HR0.out (by decide)); have HO4 := Lib.hid ho4; have HZ4 := Lib.hid (Nat.le_trans HZX.out HF4.out.low.size); (try clear c0 c1 c2 c3 c4); have c0 : w4.cell? ⟨W.heap.size, 0, none⟩ = some (.int .i64 6) := cell_of_row _ _ 0 _ _ (0, 0) HR4.out; have c1 : w4.cell? ⟨W.heap.size, 1, none⟩ = some (.int .i64 n) := cell_of_row _ _ 1 _ _ (0, 0) HR4.out; have c2 : w4.cell? ⟨W.heap.size, 2, none⟩ = some (.string key) := cell_of_row _ _ 2 _ _ (0, 0) HR4.out; have c3 : w4.cell? ⟨W.heap.size, 3, none⟩ = some (.string val) := cell_of_row _ _ 3 _ _ (0, 0) HR4.out; have c4 : w4.cell? ⟨W.heap.size, 4, none⟩ = some (.slice kA m kc) := cell_of_row _ _ 4 _ _ (0, 0) HR4.out;  clear ho4 hf4)))
      go_wp2_with fail
      go_ret
      refine ⟨v5, rfl, ?_, HF0.out.trans HF5.out⟩
      have h := HO5.out
      rw [HBT.out]
      simpa [S8] using h
    · have HF0 := Lib.hid (Fr.alloc (base := base) (w := W) (.cells #[.int .i64 7, .int .i64 n, .string key, .string val, .slice kA m kc] 24) HBW.out)
      have HR0 := Lib.hid (heap_alloc_new W (.cells #[.int .i64 7, .int .i64 n, .string key, .string val, .slice kA m kc] 24))
      have HOX := Lib.hid (HO.out.alloc (.cells #[.int .i64 7, .int .i64 n, .string key, .string val, .slice kA m kc] 24))
      have HZX := Lib.hid (show base ≤ (W.alloc (.cells #[.int .i64 7, .int .i64 n, .string key, .string val, .slice kA m kc] 24)).heap.size from Nat.le_trans HBW.out HF0.out.low.size)
      have HWC := Lib.hid (word_all 7 (by decide) (by decide))
      rw [show ((7 : Nat) : Int) = 7 from rfl] at HWC
      have HA := Lib.hid (fun ty => puts (ty := ty) (S8 (Wm.wd 7)) rfl HOX.out HZX.out (by have := HLEN.out; omega) (by rw [s8_len]; have := wd_len 7; omega))
      go_enter Tryd.func23, Tryd.ntmps23
      obtain ⟨nn, hnn⟩ : ∃ nn : Nat, n = (nn : Int) ∧ nn ≤ 1073741824 := by
        have h := HONE.out
        unfold oneR gok gmost at h
        simp at h
        exact ⟨n.toNat, by omega, by omega⟩
      obtain ⟨rfl, hnl⟩ := hnn
      have HNL : Hid (nn ≤ 9223372036854775807) := Lib.hid (by omega)
      go_upto_region 20 with (first
        | (at_builtin; go_loud ((refine wpList_app rfl (.tmp 7) (.tmp 10) _ _ rfl rfl rfl (HA.out _) ?_); rintro v1 w1 ⟨ho1, hf1⟩; have HF1 := Lib.hid (hf1); have HR1 := Lib.hid (HF1.out.box HR0.out (by decide)); have HO1 := Lib.hid ho1; have HZ1 := Lib.hid (Nat.le_trans HZX.out HF1.out.low.size); (try clear c0 c1 c2 c3 c4); have c0 : w1.cell? ⟨W.heap.size, 0, none⟩ = some (.int .i64 7) := cell_of_row _ _ 0 _ _ (0, 0) HR1.out; have c1 : w1.cell? ⟨W.heap.size, 1, none⟩ = some (.int .i64 (nn : Int)) := cell_of_row _ _ 1 _ _ (0, 0) HR1.out; have c2 : w1.cell? ⟨W.heap.size, 2, none⟩ = some (.string key) := cell_of_row _ _ 2 _ _ (0, 0) HR1.out; have c3 : w1.cell? ⟨W.heap.size, 3, none⟩ = some (.string val) := cell_of_row _ _ 3 _ _ (0, 0) HR1.out; have c4 : w1.cell? ⟨W.heap.size, 4, none⟩ = some (.slice kA m kc) := cell_of_row _ _ 4 _ _ (0, 0) HR1.out; have done1 := trivial; clear ho1 hf1))
        | (go_at_call 41; (with_reducible refine (HWC.out _).mono ?_); rintro e0 w0 ⟨rfl, hw0⟩; subst hw0))
      have HA2 := Lib.hid (fun ty => put1d (ty := ty) (w := w1) (y := 32) 32 rfl HO1.out rfl HZ1.out (by have := HLEN.out; have := wd_len 7; simp [S8]; omega) (rfl : w1.heap.size = w1.heap.size))
      go_region_held3 (fun w' => w'.cell? ⟨W.heap.size, 1, none⟩ = some (.int .i64 (nn : Int)))
        (first | (with_reducible assumption) | go_keep)
        ((first
          | (go_at_call 43; (with_reducible refine (appint_any base _ _ nn _ HO2.out HZ2.out (by have := HLEN.out; have := wd_len 7; simp [S8]; omega) HNL.out (HT.out.on (HF0.out.low.trans HF2.out.low))).mono ?_); rintro e3 w3 ⟨v3, rfl, ho3, hf3⟩; have HO3 := Lib.hid ho3; have HF3 := Lib.hid hf3; have e1 : w3.cell? ⟨W.heap.size, 1, none⟩ = some (.int .i64 (nn : Int)) := cell_of_row _ _ 1 _ _ (0, 0) (hf3.box HR2.out (by decide)); clear ho3 hf3)
          | ((refine step_app (by rfl) (.tmp 57) (.tmp 58) _ _ (by rfl) (by rfl) (by rfl) (HA2.out _) ?_); rintro v2 w2 ⟨ho2, hf2⟩; have HF2 := Lib.hid (HF1.out.trans hf2); have HR2 := Lib.hid (HF2.out.box HR0.out (by decide)); have HO2 := Lib.hid ho2; have HZ2 := Lib.hid (Nat.le_trans HZX.out HF2.out.low.size); (try clear c0 c1 c2 c3 c4); have c0 : w2.cell? ⟨W.heap.size, 0, none⟩ = some (.int .i64 7) := cell_of_row _ _ 0 _ _ (0, 0) HR2.out; have c1 : w2.cell? ⟨W.heap.size, 1, none⟩ = some (.int .i64 (nn : Int)) := cell_of_row _ _ 1 _ _ (0, 0) HR2.out; have c2 : w2.cell? ⟨W.heap.size, 2, none⟩ = some (.string key) := cell_of_row _ _ 2 _ _ (0, 0) HR2.out; have c3 : w2.cell? ⟨W.heap.size, 3, none⟩ = some (.string val) := cell_of_row _ _ 3 _ _ (0, 0) HR2.out; have c4 : w2.cell? ⟨W.heap.size, 4, none⟩ = some (.slice kA m kc) := cell_of_row _ _ 4 _ _ (0, 0) HR2.out;  clear ho2 hf2)))
      go_wp2_with fail
      go_ret
      refine ⟨v3, rfl, ?_, HF0.out.trans (HF2.out.trans HF3.out)⟩
      have h := HO3.out
      rw [HBT.out]
      simpa [S8] using h
    · have HF0 := Lib.hid (Fr.alloc (base := base) (w := W) (.cells #[.int .i64 8, .int .i64 n, .string key, .string val, .slice kA m kc] 24) HBW.out)
      have HR0 := Lib.hid (heap_alloc_new W (.cells #[.int .i64 8, .int .i64 n, .string key, .string val, .slice kA m kc] 24))
      have HOX := Lib.hid (HO.out.alloc (.cells #[.int .i64 8, .int .i64 n, .string key, .string val, .slice kA m kc] 24))
      have HZX := Lib.hid (show base ≤ (W.alloc (.cells #[.int .i64 8, .int .i64 n, .string key, .string val, .slice kA m kc] 24)).heap.size from Nat.le_trans HBW.out HF0.out.low.size)
      have HWC := Lib.hid (word_all 8 (by decide) (by decide))
      rw [show ((8 : Nat) : Int) = 8 from rfl] at HWC
      have HA := Lib.hid (fun ty => puts (ty := ty) (S8 (Wm.wd 8)) rfl HOX.out HZX.out (by have := HLEN.out; omega) (by rw [s8_len]; have := wd_len 8; omega))
      go_enter Tryd.func23, Tryd.ntmps23
      obtain ⟨nn, hnn⟩ : ∃ nn : Nat, n = (nn : Int) ∧ nn ≤ 1073741824 := by
        have h := HONE.out
        unfold oneR gok gmost at h
        simp at h
        exact ⟨n.toNat, by omega, by omega⟩
      obtain ⟨rfl, hnl⟩ := hnn
      have HNL : Hid (nn ≤ 9223372036854775807) := Lib.hid (by omega)
      go_upto_region 20 with (first
        | (at_builtin; go_loud ((refine wpList_app rfl (.tmp 7) (.tmp 10) _ _ rfl rfl rfl (HA.out _) ?_); rintro v1 w1 ⟨ho1, hf1⟩; have HF1 := Lib.hid (hf1); have HR1 := Lib.hid (HF1.out.box HR0.out (by decide)); have HO1 := Lib.hid ho1; have HZ1 := Lib.hid (Nat.le_trans HZX.out HF1.out.low.size); (try clear c0 c1 c2 c3 c4); have c0 : w1.cell? ⟨W.heap.size, 0, none⟩ = some (.int .i64 8) := cell_of_row _ _ 0 _ _ (0, 0) HR1.out; have c1 : w1.cell? ⟨W.heap.size, 1, none⟩ = some (.int .i64 (nn : Int)) := cell_of_row _ _ 1 _ _ (0, 0) HR1.out; have c2 : w1.cell? ⟨W.heap.size, 2, none⟩ = some (.string key) := cell_of_row _ _ 2 _ _ (0, 0) HR1.out; have c3 : w1.cell? ⟨W.heap.size, 3, none⟩ = some (.string val) := cell_of_row _ _ 3 _ _ (0, 0) HR1.out; have c4 : w1.cell? ⟨W.heap.size, 4, none⟩ = some (.slice kA m kc) := cell_of_row _ _ 4 _ _ (0, 0) HR1.out; have done1 := trivial; clear ho1 hf1))
        | (go_at_call 41; (with_reducible refine (HWC.out _).mono ?_); rintro e0 w0 ⟨rfl, hw0⟩; subst hw0))
      have HA2 := Lib.hid (fun ty => put1d (ty := ty) (w := w1) (y := 32) 32 rfl HO1.out rfl HZ1.out (by have := HLEN.out; have := wd_len 8; simp [S8]; omega) (rfl : w1.heap.size = w1.heap.size))
      go_region_held3 (fun w' => w'.cell? ⟨W.heap.size, 1, none⟩ = some (.int .i64 (nn : Int)))
        (first | (with_reducible assumption) | go_keep)
        ((first
          | (go_at_call 43; (with_reducible refine (appint_any base _ _ nn _ HO2.out HZ2.out (by have := HLEN.out; have := wd_len 8; simp [S8]; omega) HNL.out (HT.out.on (HF0.out.low.trans HF2.out.low))).mono ?_); rintro e3 w3 ⟨v3, rfl, ho3, hf3⟩; have HO3 := Lib.hid ho3; have HF3 := Lib.hid hf3; have e1 : w3.cell? ⟨W.heap.size, 1, none⟩ = some (.int .i64 (nn : Int)) := cell_of_row _ _ 1 _ _ (0, 0) (hf3.box HR2.out (by decide)); clear ho3 hf3)
          | ((refine step_app (by rfl) (.tmp 57) (.tmp 58) _ _ (by rfl) (by rfl) (by rfl) (HA2.out _) ?_); rintro v2 w2 ⟨ho2, hf2⟩; have HF2 := Lib.hid (HF1.out.trans hf2); have HR2 := Lib.hid (HF2.out.box HR0.out (by decide)); have HO2 := Lib.hid ho2; have HZ2 := Lib.hid (Nat.le_trans HZX.out HF2.out.low.size); (try clear c0 c1 c2 c3 c4); have c0 : w2.cell? ⟨W.heap.size, 0, none⟩ = some (.int .i64 8) := cell_of_row _ _ 0 _ _ (0, 0) HR2.out; have c1 : w2.cell? ⟨W.heap.size, 1, none⟩ = some (.int .i64 (nn : Int)) := cell_of_row _ _ 1 _ _ (0, 0) HR2.out; have c2 : w2.cell? ⟨W.heap.size, 2, none⟩ = some (.string key) := cell_of_row _ _ 2 _ _ (0, 0) HR2.out; have c3 : w2.cell? ⟨W.heap.size, 3, none⟩ = some (.string val) := cell_of_row _ _ 3 _ _ (0, 0) HR2.out; have c4 : w2.cell? ⟨W.heap.size, 4, none⟩ = some (.slice kA m kc) := cell_of_row _ _ 4 _ _ (0, 0) HR2.out;  clear ho2 hf2)))
      go_wp2_with fail
      go_ret
      refine ⟨v3, rfl, ?_, HF0.out.trans (HF2.out.trans HF3.out)⟩
      have h := HO3.out
      rw [HBT.out]
      simpa [S8] using h
    · have HF0 := Lib.hid (Fr.alloc (base := base) (w := W) (.cells #[.int .i64 9, .int .i64 n, .string key, .string val, .slice kA m kc] 24) HBW.out)
      have HR0 := Lib.hid (heap_alloc_new W (.cells #[.int .i64 9, .int .i64 n, .string key, .string val, .slice kA m kc] 24))
      have HOX := Lib.hid (HO.out.alloc (.cells #[.int .i64 9, .int .i64 n, .string key, .string val, .slice kA m kc] 24))
      have HZX := Lib.hid (show base ≤ (W.alloc (.cells #[.int .i64 9, .int .i64 n, .string key, .string val, .slice kA m kc] 24)).heap.size from Nat.le_trans HBW.out HF0.out.low.size)
      have HWC := Lib.hid (word_all 9 (by decide) (by decide))
      rw [show ((9 : Nat) : Int) = 9 from rfl] at HWC
      have HA := Lib.hid (fun ty => puts (ty := ty) (S8 (Wm.wd 9)) rfl HOX.out HZX.out (by have := HLEN.out; omega) (by rw [s8_len]; have := wd_len 9; omega))
      go_enter Tryd.func23, Tryd.ntmps23
      obtain ⟨nn, hnn⟩ : ∃ nn : Nat, n = (nn : Int) ∧ nn ≤ 1073741824 := by
        have h := HONE.out
        unfold oneR gok gmost at h
        simp at h
        exact ⟨n.toNat, by omega, by omega⟩
      obtain ⟨rfl, hnl⟩ := hnn
      have HNL : Hid (nn ≤ 9223372036854775807) := Lib.hid (by omega)
      go_upto_region 20 with (first
        | (at_builtin; go_loud ((refine wpList_app rfl (.tmp 7) (.tmp 10) _ _ rfl rfl rfl (HA.out _) ?_); rintro v1 w1 ⟨ho1, hf1⟩; have HF1 := Lib.hid (hf1); have HR1 := Lib.hid (HF1.out.box HR0.out (by decide)); have HO1 := Lib.hid ho1; have HZ1 := Lib.hid (Nat.le_trans HZX.out HF1.out.low.size); (try clear c0 c1 c2 c3 c4); have c0 : w1.cell? ⟨W.heap.size, 0, none⟩ = some (.int .i64 9) := cell_of_row _ _ 0 _ _ (0, 0) HR1.out; have c1 : w1.cell? ⟨W.heap.size, 1, none⟩ = some (.int .i64 (nn : Int)) := cell_of_row _ _ 1 _ _ (0, 0) HR1.out; have c2 : w1.cell? ⟨W.heap.size, 2, none⟩ = some (.string key) := cell_of_row _ _ 2 _ _ (0, 0) HR1.out; have c3 : w1.cell? ⟨W.heap.size, 3, none⟩ = some (.string val) := cell_of_row _ _ 3 _ _ (0, 0) HR1.out; have c4 : w1.cell? ⟨W.heap.size, 4, none⟩ = some (.slice kA m kc) := cell_of_row _ _ 4 _ _ (0, 0) HR1.out; have done1 := trivial; clear ho1 hf1))
        | (go_at_call 41; (with_reducible refine (HWC.out _).mono ?_); rintro e0 w0 ⟨rfl, hw0⟩; subst hw0))
      have HA2 := Lib.hid (fun ty => put1d (ty := ty) (w := w1) (y := 32) 32 rfl HO1.out rfl HZ1.out (by have := HLEN.out; have := wd_len 9; simp [S8]; omega) (rfl : w1.heap.size = w1.heap.size))
      go_region_held3 (fun w' => w'.cell? ⟨W.heap.size, 1, none⟩ = some (.int .i64 (nn : Int)))
        (first | (with_reducible assumption) | go_keep)
        ((first
          | (go_at_call 43; (with_reducible refine (appint_any base _ _ nn _ HO2.out HZ2.out (by have := HLEN.out; have := wd_len 9; simp [S8]; omega) HNL.out (HT.out.on (HF0.out.low.trans HF2.out.low))).mono ?_); rintro e3 w3 ⟨v3, rfl, ho3, hf3⟩; have HO3 := Lib.hid ho3; have HF3 := Lib.hid hf3; have e1 : w3.cell? ⟨W.heap.size, 1, none⟩ = some (.int .i64 (nn : Int)) := cell_of_row _ _ 1 _ _ (0, 0) (hf3.box HR2.out (by decide)); clear ho3 hf3)
          | ((refine step_app (by rfl) (.tmp 57) (.tmp 58) _ _ (by rfl) (by rfl) (by rfl) (HA2.out _) ?_); rintro v2 w2 ⟨ho2, hf2⟩; have HF2 := Lib.hid (HF1.out.trans hf2); have HR2 := Lib.hid (HF2.out.box HR0.out (by decide)); have HO2 := Lib.hid ho2; have HZ2 := Lib.hid (Nat.le_trans HZX.out HF2.out.low.size); (try clear c0 c1 c2 c3 c4); have c0 : w2.cell? ⟨W.heap.size, 0, none⟩ = some (.int .i64 9) := cell_of_row _ _ 0 _ _ (0, 0) HR2.out; have c1 : w2.cell? ⟨W.heap.size, 1, none⟩ = some (.int .i64 (nn : Int)) := cell_of_row _ _ 1 _ _ (0, 0) HR2.out; have c2 : w2.cell? ⟨W.heap.size, 2, none⟩ = some (.string key) := cell_of_row _ _ 2 _ _ (0, 0) HR2.out; have c3 : w2.cell? ⟨W.heap.size, 3, none⟩ = some (.string val) := cell_of_row _ _ 3 _ _ (0, 0) HR2.out; have c4 : w2.cell? ⟨W.heap.size, 4, none⟩ = some (.slice kA m kc) := cell_of_row _ _ 4 _ _ (0, 0) HR2.out;  clear ho2 hf2)))
      go_wp2_with fail
      go_ret
      refine ⟨v3, rfl, ?_, HF0.out.trans (HF2.out.trans HF3.out)⟩
      have h := HO3.out
      rw [HBT.out]
      simpa [S8] using h
theorem nd_pow : ∀ (m u : Nat), m < Lib.nDigits u → 1 ≤ u → 10 ^ m ≤ u := by
  intro m
  induction m with
  | zero => intro u _ h; simpa using h
  | succ m ih =>
    intro u h5 h6
    by_cases h7 : u < 10
    · rw [Lib.nDigits_small h7] at h5; omega
    · rw [Lib.nDigits_big h7] at h5
      have := ih (u / 10) (by omega) (by omega)
      rw [Nat.pow_succ]
      omega
theorem dig_len {n : Nat} (h : n ≤ 1073741824) : (Lib.decDigits n).length ≤ 10 := by
  rw [Lib.decDigits_length]
  rcases Nat.eq_zero_or_pos n with rfl | hp
  · rw [Lib.nDigits_small (by omega)]; omega
  · rcases Nat.lt_or_ge 10 (Lib.nDigits n) with h2 | h2
    · have := nd_pow 10 n h2 hp
      have h8 : (10 : Nat) ^ 10 = 10000000000 := by decide
      omega
    · exact h2
mutual
theorem shw_small : ∀ (t : Rt), t.all = true → (Wm.shw t).length + 2 ≤ 90 * t.cnt
  | .mk k n key val kids, h => by
    rw [Rt.all_mk, Bool.and_eq_true] at h
    obtain ⟨h1, h2⟩ := h
    have hk : (Wm.shwL kids).length ≤ 90 * cntL kids := by
      have h3 := shwT_small kids h2
      cases kids with
      | nil => rw [Wm.shwL_nil]; simp
      | cons r l =>
        rw [Wm.shwT_cons] at h3
        rw [Wm.shwL_cons]
        simp at h3 ⊢
        omega
    have hw := wd_len k.toNat
    have hr := one_range h1
    rw [Wm.shw_mk, Rt.cnt_mk]
    unfold oneR at h1
    by_cases h5 : (k == 5) = true
    · rw [if_pos h5]
      simp
      omega
    · rw [if_neg h5]
      by_cases h6 : (k == 6) = true
      · rw [if_pos h6] at h1 ⊢
        simp at h1
        have q1 := Wm.quo_len key.data.toList
        have q2 := Wm.quo_len val.data.toList
        rw [size_list] at q1 q2
        simp only [List.length_append, List.length_cons]
        omega
      · rw [if_neg h6] at h1 ⊢
        by_cases h7 : (k == 1 || k == 2 || k == 3) = true
        · rw [if_pos h7]
          simp
          omega
        · rw [if_neg h7]
          simp at h7 h5
          simp [h7, h5] at h1
          have h8 : n.toNat ≤ 1073741824 := by
            have := h1.2.2.2.2.1
            unfold gmost at this
            repeat' split at this
            all_goals omega
          have := dig_len h8
          simp
          omega
theorem shwT_small : ∀ (l : List Rt), allL l = true → (Wm.shwT l).length ≤ 90 * cntL l
  | [], _ => by rw [Wm.shwT_nil]; simp
  | r :: l, ha => by
    rw [allL, Bool.and_eq_true] at ha
    have h1 := shw_small r ha.1
    have h2 := shwT_small l ha.2
    rw [Wm.shwT_cons, cntL]
    simp
    omega
end
set_option maxHeartbeats 8000000 in
theorem print_any {w : World} {B : Nat} {t : Rt} {c : List Value} (h : RdR w B t c) (W : World) (hW : Below B w W) (hB : B ≤ W.heap.size) (hT : Lib.TabIs Tryd.prog W "internal/strconv.uint64pow10" .u64 Lib.pow10Tab) :
    Calls Tryd.prog 11 #[.agg c.toArray] W fun e w' => e = .returned (.string (S8 (if t.right = true then Wm.shw t else []))) ∧ Below W.heap.size W w' := by
  have HRI := Lib.hid (fun V (hV : Below W.heap.size W V) => right_all h V (hW.trans (hV.mono hB)) (Nat.le_trans hB (Below.size hV)))
  have HT := Lib.hid (Lib.tabBelow_of_tabIs hT)
  cases hr : t.right
  · rw [hr] at HRI
    rw [if_neg (by decide)]
    obtain ⟨k, n, key, val, kids, kA, kc, rfl, rfl⟩ := h.inv
    clear h hW hB hT hr
    simp only [rcs] at *
    go_enter Tryd.func11, Tryd.ntmps11
    go_wp2_with (go_at_call 19; (with_reducible refine (HRI.out _ ((Below.refl _ _).alloc (Nat.le_refl _) _)).mono ?_); rintro e1 w1 ⟨rfl, hb1⟩; have HB1 := Lib.hid hb1; clear hb1)
    go_ret
    exact ⟨rfl, ((Below.refl _ _).alloc (Nat.le_refl _) _).trans (HB1.out.mono (by simp))⟩
  · rw [hr] at HRI
    rw [if_pos rfl]
    have hri := t.right_iff.1 hr
    have hsm := shw_small t hri.2.2
    have HPU := Lib.hid (fun V (hV : Below W.heap.size W V) => put28 h V.heap.size (.slice none 0 0) [] V hri.2.2 (hW.trans (hV.mono hB)) (Nat.le_trans hB (Below.size hV)) (Nat.le_refl _) (own_nil V _) (Lib.tabBelow_of_tabIs (HT.out V hV)) (by simp; omega))
    obtain ⟨k, n, key, val, kids, kA, kc, rfl, rfl⟩ := h.inv
    generalize Wm.shw (.mk k n key val kids) = X at *
    rw [show ([] ++ X : List UInt8) = X from rfl] at HPU
    have hbx := heap_alloc_new W (.cells #[.int .i64 k, .int .i64 n, .string key, .string val, .slice kA kids.length kc] 24)
    have HBX := Lib.hid hbx
    clear h hW hB hT hr hri hsm hbx
    simp only [rcs] at *
    go_enter Tryd.func11, Tryd.ntmps11
    go_wp2_with (first
      | (have hd := done1; clear done1; go_at_call 23; (with_reducible refine (HPU.out _ HB1.out).mono ?_); rintro e2 w2 ⟨v2, rfl, ho2, hf2⟩; obtain ⟨A2, cc2, rfl, hcc2, hrd2⟩ := own_rd ho2; have HRD2 := Lib.hid hrd2; have HF2 := Lib.hid hf2; have hcv := run_str (P := Tryd.prog) 50 5 9 Tryd.underlying50 Tryd.underlying5 Tryd.underlying9 hrd2 X.length cc2 rfl; clear ho2 hf2 hrd2)
      | (go_at_call 19; (with_reducible refine (HRI.out _ ((Below.refl _ _).alloc (Nat.le_refl _) _)).mono ?_); rintro e1 w1 ⟨rfl, hb1⟩; have HB1 := Lib.hid (((Below.refl W.heap.size W).alloc (Nat.le_refl _) _).trans (hb1.mono (by simp))); have hrw := (hb1.block _ (in_heap HBX.out)).trans HBX.out; have c0 : w1.cell? ⟨W.heap.size, 0, none⟩ = some (.int .i64 k) := cell_of_row _ _ 0 _ _ (0, 0) hrw; have c1 : w1.cell? ⟨W.heap.size, 1, none⟩ = some (.int .i64 n) := cell_of_row _ _ 1 _ _ (0, 0) hrw; have c2 : w1.cell? ⟨W.heap.size, 2, none⟩ = some (.string key) := cell_of_row _ _ 2 _ _ (0, 0) hrw; have c3 : w1.cell? ⟨W.heap.size, 3, none⟩ = some (.string val) := cell_of_row _ _ 3 _ _ (0, 0) hrw; have c4 : w1.cell? ⟨W.heap.size, 4, none⟩ = some (.slice kA kids.length kc) := cell_of_row _ _ 4 _ _ (0, 0) hrw; clear hb1 hrw; have done1 := trivial))
    go_ret
    exact ⟨rfl, HB1.out.trans (HF2.out.low.mono HB1.out.size)⟩
end Go.Proofs.YtgiahfjndononaaDoor
