/- The document's show: how a policy is written. -/
import Derived.Test.YtgiahfjndononaaDoorPok
import Derived.Test.YtgiahfjndononaaDoorNu
import Derived.Deep.RegionHeld3
namespace Go.Proofs.YtgiahfjndononaaDoor
open Go.RowKit
set_option linter.unusedVariables false
set_option linter.unusedSimpArgs false
set_option maxRecDepth 100000

theorem s8_app (a b : List UInt8) : S8 a ++ S8 b = S8 (a ++ b) := by
  apply ByteArray.ext
  simp [S8]
theorem add8 {a b : ByteArray} {x y : List UInt8} (ha : a = S8 x) (hb : b = S8 y) (hx : x.length ≤ 1000000) (hy : y.length ≤ 1000000) (V : World) : (Op.stringOp .add a b).run Tryd.prog V = .ok (.string (S8 (x ++ y))) V := by
  subst ha hb
  rw [run_string_add_sum (P := Tryd.prog) V _ _ (by rw [s8_len, s8_len]; omega), s8_app]
theorem sub8 {s : ByteArray} {L : List UInt8} (hL : s.data.toList = L) {j : Nat} {c : UInt8} (hc : L[j]? = some c) : s.extract j (j + 1) = S8 [c] := by
  refine s8_of ?_
  rw [sub_list s L hL, drop_at hc]
  rfl
set_option maxHeartbeats 2000000 in
theorem dec28_any (n : Nat) : n ≤ 9223372036854775807 → ∀ w : World, Calls Tryd.prog 45 #[.int .i64 (n : Int)] w fun e w' => e = .returned (.string (dgU n)) ∧ w' = w := by
  induction n using Nat.strongRecOn with
  | _ n ih =>
    intro h w
    obtain ⟨m, hm⟩ : ∃ m, m = n % 10 := ⟨_, rfl⟩
    have m10 : m < 10 := by omega
    have hD : dig10.extract m (m + 1) = ⟨#[UInt8.ofNat (48 + n % 10)]⟩ := by rw [← hm]; exact dig10_at ⟨m, m10⟩
    have hmi : (n : Int) % 10 = (m : Int) := by rw [hm]; omega
    by_cases h9 : n < 10
    · have HR : Hid (dig10.extract m (m + 1) = dgU n) := Lib.hid (hD.trans (dgU_small h9))
      have d1 : decide (9 < (n : Int)) = false := decide_eq_false (by omega)
      have hmn : n = m := by omega
      subst hmn
      clear ih hD hm
      go_enter Tryd.func45, Tryd.ntmps45
      go_wp2_with fail
      go_ret
      exact ⟨by rw [← HR.out]; rfl, rfl⟩
    · obtain ⟨q, hq⟩ : ∃ q, q = n / 10 := ⟨_, rfl⟩
      have d1 : decide (9 < (n : Int)) = true := decide_eq_true (by omega)
      have hqi : (n : Int) / 10 = (q : Int) := by rw [hq]; omega
      have hq2 : q ≤ 922337203685477580 := by omega
      have IH := Lib.hid (ih q (by omega) (by omega))
      have HS : Hid (dgU q ++ dig10.extract m (m + 1) = dgU n) := Lib.hid (by rw [hD, hq, dgU_big h9])
      have hbd : ¬ 9223372036854775807 < (dgU q).size + (min (m + 1) 10 - m) := by have := dgU_size (n := q) (by omega); omega
      clear ih hD hm hq
      go_enter Tryd.func45, Tryd.ntmps45
      go_wp2_with (go_at_call 45; (with_reducible refine (IH.out _).mono ?_); rintro e w1 ⟨rfl, hw⟩; subst hw)
      go_ret
      exact ⟨by rw [← HS.out]; rfl, rfl⟩

set_option maxHeartbeats 4000000 in
theorem quoted28_any (s : ByteArray) (hs : s.size ≤ 10000) (w : World) : Calls Tryd.prog 44 #[.string s] w fun e w' => e = .returned (.string (S8 (Wm.quo s.data.toList))) ∧ w' = w := by
  obtain ⟨L, hL⟩ : ∃ L, s.data.toList = L := ⟨_, rfl⟩
  have hlen := list_len s L hL
  have HLL := Lib.hid hL
  rw [hL]
  obtain ⟨sz, hsz⟩ : ∃ z, s.size = z := ⟨_, rfl⟩
  have HLEN := Lib.hid (hlen.trans hsz)
  rw [hsz] at hs
  clear hL hlen
  go_enter Tryd.func44, Tryd.ntmps44
  go_wp2_with fail
  go_loopw [3, 4] (fun tv x wr => ∃ j : Nat, x = .int .i64 (j : Int) ∧ j ≤ sz ∧ tv = .string (S8 (34 :: Wm.esc (L.take j))) ∧ Hid (wr = w)) (fun _ x _ => sz - (intOf x).toNat)
  case atStart => exact ⟨0, rfl, by omega, rfl, Lib.hid rfl⟩
  case round =>
    obtain ⟨j, rfl, hj, rfl, HW⟩ := hrel
    have hwr := HW.out
    subst hwr
    obtain ⟨tv, htv⟩ : ∃ t, t = S8 (34 :: Wm.esc (L.take j)) := ⟨_, rfl⟩
    rw [← htv]
    have HTV := Lib.hid htv
    have HXL := Lib.hid (show (34 :: Wm.esc (L.take j)).length ≤ 30000 from by
      have h1 := Wm.esc_len (L.take j)
      have h2 : (L.take j).length ≤ j := by rw [List.length_take]; omega
      simp
      omega)
    by_cases hlt : j < sz
    · obtain ⟨c, hc⟩ : ∃ c, L[j]? = some c := ⟨_, List.getElem?_eq_getElem (by rw [HLEN.out]; exact hlt)⟩
      have hx9 := run_byte (T := 9) Tryd.underlying9 (show s.data.toList[j]? = some c from by rw [HLL.out]; exact hc)
      have hsub := sub8 HLL.out hc
      have HTK : Hid (L.take (j + 1) = L.take j ++ [c]) := Lib.hid (by rw [List.take_add_one, hc]; rfl)
      have HE : Hid (Wm.esc (L.take (j + 1)) = Wm.esc (L.take j) ++ Wm.esc [c]) := Lib.hid (by rw [HTK.out, Wm.esc_app])
      generalize hX : (34 :: Wm.esc (L.take j)) = X at *
      have HX := Lib.hid hX
      by_cases h34 : c = 34 ∨ c = 92
      · have HE2 : Hid (34 :: Wm.esc (L.take (j + 1)) = X ++ [92] ++ [c]) := Lib.hid (by rw [HE.out, ← HX.out]; simp [Wm.esc, h34])
        have hadd1 := add8 (b := ⟨#[92]⟩) (y := [92]) htv rfl (by have := HXL.out; omega) (by simp)
        have hadd2 := add8 (a := S8 (X ++ [92])) (b := s.extract j (j + 1)) (y := [c]) rfl hsub (by have := HXL.out; simp at this ⊢; omega) (by simp)
        have HC34 : Hid (((c.toNat : Int) = 34) ∨ ((c.toNat : Int) = 92)) := Lib.hid (by rcases h34 with rfl | rfl <;> simp)
        clear hc hX h34 htv hsub
        generalize (c.toNat : Int) = cn at *
        rcases HC34.out with hc34 | hc34
        · have k34 : (cn == 34) = true := by rw [hc34]; rfl
          have HCC := Lib.hid hc34
          clear hc34 HC34
          go_wp2_with fail
          go_roundw
          case rel => exact ⟨j + 1, by go_num, by omega, by rw [HE2.out, List.append_assoc]; rfl, Lib.hid (by first | trivial | rfl)⟩
          case measure => simp [intOf]; omega
        · have k34 : (cn == 34) = false := by rw [hc34]; rfl
          have k92 : (cn == 92) = true := by rw [hc34]; rfl
          have HCC := Lib.hid hc34
          clear hc34 HC34
          go_wp2_with fail
          go_roundw
          case rel => exact ⟨j + 1, by go_num, by omega, by rw [HE2.out, List.append_assoc]; rfl, Lib.hid (by first | trivial | rfl)⟩
          case measure => simp [intOf]; omega
      · have HE2 : Hid (34 :: Wm.esc (L.take (j + 1)) = X ++ [c]) := Lib.hid (by rw [HE.out, ← HX.out]; simp [Wm.esc, h34])
        have hadd2 := add8 (b := s.extract j (j + 1)) (y := [c]) htv hsub (by have := HXL.out; omega) (by simp)
        have k34 : ((c.toNat : Int) == 34) = false := by rw [beq_eq_false_iff_ne]; intro e; exact h34 (.inl (by rw [← UInt8.toNat_inj]; simp; omega))
        have k92 : ((c.toNat : Int) == 92) = false := by rw [beq_eq_false_iff_ne]; intro e; exact h34 (.inr (by rw [← UInt8.toNat_inj]; simp; omega))
        clear hc hX h34 htv hsub
        go_wp2_with fail
        go_roundw
        case rel => exact ⟨j + 1, by go_num, by omega, by rw [HE2.out], Lib.hid (by first | trivial | rfl)⟩
        case measure => simp [intOf]; omega
    · obtain rfl : j = sz := by omega
      have HTA : Hid (L.take j = L) := Lib.hid (List.take_of_length_le (by rw [HLEN.out]; omega))
      have hadd3 := add8 (b := ⟨#[34]⟩) (y := [34]) htv rfl (by have := HXL.out; omega) (by simp)
      clear htv
      go_wp2_with fail
      go_ret
      refine ⟨?_, by first | trivial | rfl⟩
      rw [HTA.out]
      rfl
def wordR : Array Value := #[.string ⟨#[]⟩, .string (S8 (Wm.wd 1)), .string (S8 (Wm.wd 2)), .string (S8 (Wm.wd 3)), .string (S8 (Wm.wd 4)), .string (S8 (Wm.wd 5)), .string (S8 (Wm.wd 6)), .string (S8 (Wm.wd 7)), .string (S8 (Wm.wd 8)), .string (S8 (Wm.wd 9))]
theorem words28_any (w : World) : Calls Tryd.prog 38 #[] w fun e w' => e = .returned (.slice (some ⟨w.heap.size, 0, none⟩) 10 10) ∧ w' = w.alloc (.cells wordR 9) := by
  go_enter Tryd.func38, Tryd.ntmps38
  go_wp2_with fail
  go_ret
  exact ⟨rfl, rfl⟩
set_option maxHeartbeats 16000000 in
theorem show28 {w : World} {B : Nat} {t : Rt} {c : List Value} (h : RdR w B t c) : ∀ (W : World), t.all = true → Below B w W → B ≤ W.heap.size → (Wm.shw t).length ≤ 100000 →
    Calls Tryd.prog 24 #[.agg c.toArray] W fun e w' => e = .returned (.string (S8 (Wm.shw t))) ∧ Below W.heap.size W w' := by
  induction h with
  | mk k n key val kids kA kc cs g1 g2 g3 g4 g5 g6 hrow hkid ih =>
    intro W hall hW hBW hlen
    rw [Rt.all_mk, Bool.and_eq_true] at hall
    obtain ⟨hone, hkall⟩ := hall
    have hkinds : k = 1 ∨ k = 2 ∨ k = 3 ∨ k = 4 ∨ k = 5 ∨ k = 6 ∨ k = 7 ∨ k = 8 ∨ k = 9 := by have := one_range hone; omega
    have HONE := Lib.hid hone
    have HKA := Lib.hid hkall
    have HROW := Lib.hid hrow
    have HKID := Lib.hid hkid
    have IH := Lib.hid ih
    have HW := Lib.hid hW
    have HBW := Lib.hid hBW
    have HBT := Lib.hid (Wm.shw_mk k n key val kids)
    have HLEN := Lib.hid hlen
    obtain ⟨m, hm⟩ : ∃ m, kids.length = m := ⟨_, rfl⟩
    have HQ := Lib.hid hm
    simp only [rcs, hm] at ⊢
    rw [hm] at g5
    simp only [maxLen] at g6
    clear hone hkall hrow hkid ih hW hBW hlen hm g1 g2 g3 g4
    rcases hkinds with rfl | rfl | rfl | rfl | rfl | rfl | rfl | rfl | rfl
    · have HR0 := Lib.hid (heap_alloc_new W (.cells #[.int .i64 1, .int .i64 n, .string key, .string val, .slice kA m kc] 24))
      have HB0 := Lib.hid ((Below.refl W.heap.size W).alloc (Nat.le_refl _) (.cells #[.int .i64 1, .int .i64 n, .string key, .string val, .slice kA m kc] 24))
      go_enter Tryd.func24, Tryd.ntmps24
      go_upto_region 1 with fail
      generalize W.alloc (.cells #[.int .i64 1, .int .i64 n, .string key, .string val, .slice kA m kc] 24) = w0 at *
      have c0 : w0.cell? ⟨W.heap.size, 0, none⟩ = some (.int .i64 1) := cell_of_row _ _ 0 _ _ (0, 0) HR0.out; have c1 : w0.cell? ⟨W.heap.size, 1, none⟩ = some (.int .i64 n) := cell_of_row _ _ 1 _ _ (0, 0) HR0.out; have c2 : w0.cell? ⟨W.heap.size, 2, none⟩ = some (.string key) := cell_of_row _ _ 2 _ _ (0, 0) HR0.out; have c3 : w0.cell? ⟨W.heap.size, 3, none⟩ = some (.string val) := cell_of_row _ _ 3 _ _ (0, 0) HR0.out; have c4 : w0.cell? ⟨W.heap.size, 4, none⟩ = some (.slice kA m kc) := cell_of_row _ _ 4 _ _ (0, 0) HR0.out; skip
      go_cut [3] (fun s3 wx => s3 = .string (S8 (Wm.wd 1)) ∧ Hid (wx.heap[W.heap.size]? = some (.cells #[.int .i64 1, .int .i64 n, .string key, .string val, .slice kA m kc] 24)) ∧ Hid (Below W.heap.size W wx))
      case first =>
        go_region_with ((go_at_call 38; (with_reducible refine (words28_any _).mono ?_); rintro e1 w1 ⟨rfl, hw1⟩; have hb1 : Below w0.heap.size w0 w1 := (by rw [hw1]; exact (⟨rfl, rfl, rfl, Nat.le_refl _, fun _ _ => rfl⟩ : Below w0.heap.size w0 w0.drew).alloc (Nat.le_refl _) _); have hwr1 : w1.heap[w0.heap.size]? = some (.cells wordR 9) := (by rw [hw1]; exact heap_alloc_new w0.drew _); have HR1 := Lib.hid ((hb1.block _ (in_heap HR0.out)).trans HR0.out); have HB1 := Lib.hid (HB0.out.trans (hb1.mono HB0.out.size)); (try clear c0 c1 c2 c3 c4); have c0 : w1.cell? ⟨W.heap.size, 0, none⟩ = some (.int .i64 1) := cell_of_row _ _ 0 _ _ (0, 0) HR1.out; have c1 : w1.cell? ⟨W.heap.size, 1, none⟩ = some (.int .i64 n) := cell_of_row _ _ 1 _ _ (0, 0) HR1.out; have c2 : w1.cell? ⟨W.heap.size, 2, none⟩ = some (.string key) := cell_of_row _ _ 2 _ _ (0, 0) HR1.out; have c3 : w1.cell? ⟨W.heap.size, 3, none⟩ = some (.string val) := cell_of_row _ _ 3 _ _ (0, 0) HR1.out; have c4 : w1.cell? ⟨W.heap.size, 4, none⟩ = some (.slice kA m kc) := cell_of_row _ _ 4 _ _ (0, 0) HR1.out; have cw : w1.cell? ⟨w0.heap.size, 1, none⟩ = some (.string (S8 (Wm.wd 1))) := cell_of_row _ _ 1 _ _ (0, 0) hwr1; clear hb1 hwr1 hw1))
        all_goals
          go_wp2_with fail
          go_meet
          case rel => exact ⟨rfl, HR1, HB1⟩
      case rest =>
        obtain ⟨rfl, HR1, HB1⟩ := hcut
        have c0 : wc.cell? ⟨W.heap.size, 0, none⟩ = some (.int .i64 1) := cell_of_row _ _ 0 _ _ (0, 0) HR1.out; have c1 : wc.cell? ⟨W.heap.size, 1, none⟩ = some (.int .i64 n) := cell_of_row _ _ 1 _ _ (0, 0) HR1.out; have c2 : wc.cell? ⟨W.heap.size, 2, none⟩ = some (.string key) := cell_of_row _ _ 2 _ _ (0, 0) HR1.out; have c3 : wc.cell? ⟨W.heap.size, 3, none⟩ = some (.string val) := cell_of_row _ _ 3 _ _ (0, 0) HR1.out; have c4 : wc.cell? ⟨W.heap.size, 4, none⟩ = some (.slice kA m kc) := cell_of_row _ _ 4 _ _ (0, 0) HR1.out; skip
        have HBT3 : Hid (Wm.shw (.mk 1 n key val kids) = (Wm.wd 1 ++ [40]) ++ (Wm.shwL kids ++ [41])) := Lib.hid (by rw [HBT.out]; simp)
        have HLN := Lib.hid (show (Wm.wd 1 ++ [40]).length + (Wm.shwL kids).length ≤ 100000 from by
          have h := HLEN.out
          have h2 := congrArg List.length HBT3.out
          simp only [List.length_append, List.length_singleton] at h h2 ⊢
          omega)
        have hadd1 := add8 (a := S8 (Wm.wd 1)) (b := ⟨#[40]⟩) (y := [40]) rfl rfl (by have := wd_len 1; omega) (by simp)
        go_wp2_with fail
        clear hadd1 c0 c1 c2 c3 c4
        have HTV : Hid (S8 (Wm.wd 1 ++ [40]) = S8 ((Wm.wd 1 ++ [40]) ++ Wm.shwL (kids.take 0))) := Lib.hid (by rw [List.take_zero, Wm.shwL_nil, List.append_nil])
        generalize Wm.wd 1 ++ [40] = hd at *
        go_loopw [3, 4] (fun tv x wr => ∃ j : Nat, x = .int .i64 (j : Int) ∧ j ≤ m ∧ Hid (tv = .string (S8 (hd ++ Wm.shwL (kids.take j)))) ∧ Hid (wr.heap[W.heap.size]? = some (.cells #[.int .i64 1, .int .i64 n, .string key, .string val, .slice kA m kc] 24)) ∧ Hid (Below W.heap.size W wr)) (fun _ x _ => m - (intOf x).toNat)
        case atStart => exact ⟨0, rfl, by omega, Lib.hid (by rw [HTV.out]), HR1, HB1⟩
        case round =>
          obtain ⟨j, rfl, hj, HTVJ, HRJ, HBJ⟩ := hrel
          have htv := HTVJ.out
          subst htv
          have c4 : wr.cell? ⟨W.heap.size, 4, none⟩ = some (.slice kA m kc) := cell_of_row _ _ 4 _ _ (0, 0) HRJ.out
          have HLJ := Lib.hid (show (hd ++ Wm.shwL (kids.take j)).length ≤ 100000 from by
            have h1 := Wm.shwL_app (kids.take j) (kids.drop j)
            rw [List.take_append_drop] at h1
            have h2 := HLN.out
            rw [List.length_append]
            omega)
          by_cases hlt : j < m
          · obtain ⟨r, hr⟩ : ∃ r, kids[j]? = some r := ⟨_, List.getElem?_eq_getElem (by rw [HQ.out]; exact hlt)⟩
            have hww : Below B w wr := HW.out.trans (HBJ.out.mono HBW.out)
            obtain ⟨ka, k', n', key', val', A', q', qc', ha, hab, hrr, ec, x0, x1, x2, x3, x4⟩ := kid_cells (HROW.out.keep fun _ hp => hww.cell hp) (fun i r h => (HKID.out i r h).low hww) hr
            have I := IH.out j r hr
            rw [ec] at I
            simp only [rcs] at I
            have HTK : Hid (kids.take (j + 1) = kids.take j ++ [r]) := Lib.hid (by rw [List.take_add_one, hr]; rfl)
            have HRA : Hid (r.all = true) := Lib.hid ((allL_iff kids).1 HKA.out r (List.mem_of_getElem? hr))
            have hls : (hd ++ Wm.shwL (kids.take (j + 1))).length ≤ 100000 := by
              have h1 := Wm.shwL_app (kids.take (j + 1)) (kids.drop (j + 1))
              rw [List.take_append_drop] at h1
              have h2 := HLN.out
              rw [List.length_append]
              omega
            have HWW := Lib.hid hww
            subst ha
            rcases (show j = 0 ∨ 0 < j from by omega) with hj0 | hj0
            · have HE : Hid (hd ++ Wm.shwL (kids.take (j + 1)) = (hd ++ Wm.shwL (kids.take j)) ++ Wm.shw r) := Lib.hid (by rw [HTK.out, hj0]; simp [Wm.shwL_one, Wm.shwL_nil])
              have hsl : (Wm.shw r).length ≤ 100000 := by rw [HE.out, List.length_append] at hls; omega
              have HI := Lib.hid (I wr HRA.out hww (Nat.le_trans HBW.out HBJ.out.size) hsl)
              have hadd2 := add8 (a := S8 (hd ++ Wm.shwL (kids.take j))) (b := S8 (Wm.shw r)) rfl rfl (by have := HLJ.out; omega) (by omega)
              have d1 : decide (0 < (j : Int)) = false := decide_eq_false (by omega)
              have d2 : decide (0 < j) = false := decide_eq_false (by omega)
              have HJ0 := Lib.hid hj0
              rw [← HE.out] at hadd2
              clear hj0 hls hsl I hr hww hrr ec
              generalize S8 (hd ++ Wm.shwL (kids.take j)) = z1 at *
              generalize S8 (Wm.shw r) = z2 at *
              go_wp2_with (go_at_call 24; (with_reducible refine HI.out.mono ?_); rintro e5 w5 ⟨rfl, hb5⟩; have HB5 := Lib.hid (HBJ.out.trans (hb5.mono HBJ.out.size)); have HR5 := Lib.hid ((hb5.block _ (in_heap HRJ.out)).trans HRJ.out); clear hb5)
              go_roundw
              case rel => exact ⟨j + 1, by go_num, by omega, Lib.hid (by first | trivial | rfl), HR5, HB5⟩
              case measure => simp [intOf]; omega
            · have HNE : Hid (kids.take j ≠ []) := Lib.hid (fun e => by
                have h1 := congrArg List.length e
                rw [List.length_take, HQ.out] at h1
                simp at h1
                omega)
              have HE : Hid (hd ++ Wm.shwL (kids.take (j + 1)) = (hd ++ Wm.shwL (kids.take j) ++ [44, 32]) ++ Wm.shw r) := Lib.hid (by rw [HTK.out, Wm.shwL_snoc _ _ HNE.out]; simp)
              have hsl : (Wm.shw r).length ≤ 100000 := by rw [HE.out, List.length_append] at hls; omega
              have HI := Lib.hid (I wr HRA.out hww (Nat.le_trans HBW.out HBJ.out.size) hsl)
              have hadd1 := add8 (a := S8 (hd ++ Wm.shwL (kids.take j))) (b := ⟨#[44, 32]⟩) (y := [44, 32]) rfl rfl (by have := HLJ.out; omega) (by simp)
              have hadd2 := add8 (a := S8 (hd ++ Wm.shwL (kids.take j) ++ [44, 32])) (b := S8 (Wm.shw r)) rfl rfl (by have := HLJ.out; rw [List.length_append]; simp only [List.length_cons, List.length_nil]; omega) (by omega)
              have d1 : decide (0 < (j : Int)) = true := decide_eq_true (by omega)
              have d2 : decide (0 < j) = true := decide_eq_true (by omega)
              have HJ0 := Lib.hid hj0
              rw [← HE.out] at hadd2
              clear hj0 hls hsl I hr hww hrr ec
              generalize S8 (hd ++ Wm.shwL (kids.take j) ++ [44, 32]) = z3 at *
              generalize S8 (hd ++ Wm.shwL (kids.take j)) = z1 at *
              generalize S8 (Wm.shw r) = z2 at *
              go_wp2_with (go_at_call 24; (with_reducible refine HI.out.mono ?_); rintro e5 w5 ⟨rfl, hb5⟩; have HB5 := Lib.hid (HBJ.out.trans (hb5.mono HBJ.out.size)); have HR5 := Lib.hid ((hb5.block _ (in_heap HRJ.out)).trans HRJ.out); clear hb5)
              go_roundw
              case rel => exact ⟨j + 1, by go_num, by omega, Lib.hid (by first | trivial | rfl), HR5, HB5⟩
              case measure => simp [intOf]; omega
          · obtain rfl : j = m := by omega
            have HTA : Hid (kids.take j = kids) := Lib.hid (List.take_of_length_le (by rw [HQ.out]; omega))
            have hadd3 := add8 (a := S8 (hd ++ Wm.shwL (kids.take j))) (b := ⟨#[41]⟩) (y := [41]) rfl rfl (by have := HLJ.out; omega) (by simp)
            go_wp2_with fail
            go_ret
            exact ⟨by rw [HBT3.out, HTA.out]; simp, HBJ.out⟩
    · have HR0 := Lib.hid (heap_alloc_new W (.cells #[.int .i64 2, .int .i64 n, .string key, .string val, .slice kA m kc] 24))
      have HB0 := Lib.hid ((Below.refl W.heap.size W).alloc (Nat.le_refl _) (.cells #[.int .i64 2, .int .i64 n, .string key, .string val, .slice kA m kc] 24))
      go_enter Tryd.func24, Tryd.ntmps24
      go_upto_region 1 with fail
      generalize W.alloc (.cells #[.int .i64 2, .int .i64 n, .string key, .string val, .slice kA m kc] 24) = w0 at *
      have c0 : w0.cell? ⟨W.heap.size, 0, none⟩ = some (.int .i64 2) := cell_of_row _ _ 0 _ _ (0, 0) HR0.out; have c1 : w0.cell? ⟨W.heap.size, 1, none⟩ = some (.int .i64 n) := cell_of_row _ _ 1 _ _ (0, 0) HR0.out; have c2 : w0.cell? ⟨W.heap.size, 2, none⟩ = some (.string key) := cell_of_row _ _ 2 _ _ (0, 0) HR0.out; have c3 : w0.cell? ⟨W.heap.size, 3, none⟩ = some (.string val) := cell_of_row _ _ 3 _ _ (0, 0) HR0.out; have c4 : w0.cell? ⟨W.heap.size, 4, none⟩ = some (.slice kA m kc) := cell_of_row _ _ 4 _ _ (0, 0) HR0.out; skip
      go_cut [3] (fun s3 wx => s3 = .string (S8 (Wm.wd 2)) ∧ Hid (wx.heap[W.heap.size]? = some (.cells #[.int .i64 2, .int .i64 n, .string key, .string val, .slice kA m kc] 24)) ∧ Hid (Below W.heap.size W wx))
      case first =>
        go_region_with ((go_at_call 38; (with_reducible refine (words28_any _).mono ?_); rintro e1 w1 ⟨rfl, hw1⟩; have hb1 : Below w0.heap.size w0 w1 := (by rw [hw1]; exact (⟨rfl, rfl, rfl, Nat.le_refl _, fun _ _ => rfl⟩ : Below w0.heap.size w0 w0.drew).alloc (Nat.le_refl _) _); have hwr1 : w1.heap[w0.heap.size]? = some (.cells wordR 9) := (by rw [hw1]; exact heap_alloc_new w0.drew _); have HR1 := Lib.hid ((hb1.block _ (in_heap HR0.out)).trans HR0.out); have HB1 := Lib.hid (HB0.out.trans (hb1.mono HB0.out.size)); (try clear c0 c1 c2 c3 c4); have c0 : w1.cell? ⟨W.heap.size, 0, none⟩ = some (.int .i64 2) := cell_of_row _ _ 0 _ _ (0, 0) HR1.out; have c1 : w1.cell? ⟨W.heap.size, 1, none⟩ = some (.int .i64 n) := cell_of_row _ _ 1 _ _ (0, 0) HR1.out; have c2 : w1.cell? ⟨W.heap.size, 2, none⟩ = some (.string key) := cell_of_row _ _ 2 _ _ (0, 0) HR1.out; have c3 : w1.cell? ⟨W.heap.size, 3, none⟩ = some (.string val) := cell_of_row _ _ 3 _ _ (0, 0) HR1.out; have c4 : w1.cell? ⟨W.heap.size, 4, none⟩ = some (.slice kA m kc) := cell_of_row _ _ 4 _ _ (0, 0) HR1.out; have cw : w1.cell? ⟨w0.heap.size, 2, none⟩ = some (.string (S8 (Wm.wd 2))) := cell_of_row _ _ 2 _ _ (0, 0) hwr1; clear hb1 hwr1 hw1))
        all_goals
          go_wp2_with fail
          go_meet
          case rel => exact ⟨rfl, HR1, HB1⟩
      case rest =>
        obtain ⟨rfl, HR1, HB1⟩ := hcut
        have c0 : wc.cell? ⟨W.heap.size, 0, none⟩ = some (.int .i64 2) := cell_of_row _ _ 0 _ _ (0, 0) HR1.out; have c1 : wc.cell? ⟨W.heap.size, 1, none⟩ = some (.int .i64 n) := cell_of_row _ _ 1 _ _ (0, 0) HR1.out; have c2 : wc.cell? ⟨W.heap.size, 2, none⟩ = some (.string key) := cell_of_row _ _ 2 _ _ (0, 0) HR1.out; have c3 : wc.cell? ⟨W.heap.size, 3, none⟩ = some (.string val) := cell_of_row _ _ 3 _ _ (0, 0) HR1.out; have c4 : wc.cell? ⟨W.heap.size, 4, none⟩ = some (.slice kA m kc) := cell_of_row _ _ 4 _ _ (0, 0) HR1.out; skip
        have HBT3 : Hid (Wm.shw (.mk 2 n key val kids) = (Wm.wd 2 ++ [40]) ++ (Wm.shwL kids ++ [41])) := Lib.hid (by rw [HBT.out]; simp)
        have HLN := Lib.hid (show (Wm.wd 2 ++ [40]).length + (Wm.shwL kids).length ≤ 100000 from by
          have h := HLEN.out
          have h2 := congrArg List.length HBT3.out
          simp only [List.length_append, List.length_singleton] at h h2 ⊢
          omega)
        have hadd1 := add8 (a := S8 (Wm.wd 2)) (b := ⟨#[40]⟩) (y := [40]) rfl rfl (by have := wd_len 2; omega) (by simp)
        go_wp2_with fail
        clear hadd1 c0 c1 c2 c3 c4
        have HTV : Hid (S8 (Wm.wd 2 ++ [40]) = S8 ((Wm.wd 2 ++ [40]) ++ Wm.shwL (kids.take 0))) := Lib.hid (by rw [List.take_zero, Wm.shwL_nil, List.append_nil])
        generalize Wm.wd 2 ++ [40] = hd at *
        go_loopw [3, 4] (fun tv x wr => ∃ j : Nat, x = .int .i64 (j : Int) ∧ j ≤ m ∧ Hid (tv = .string (S8 (hd ++ Wm.shwL (kids.take j)))) ∧ Hid (wr.heap[W.heap.size]? = some (.cells #[.int .i64 2, .int .i64 n, .string key, .string val, .slice kA m kc] 24)) ∧ Hid (Below W.heap.size W wr)) (fun _ x _ => m - (intOf x).toNat)
        case atStart => exact ⟨0, rfl, by omega, Lib.hid (by rw [HTV.out]), HR1, HB1⟩
        case round =>
          obtain ⟨j, rfl, hj, HTVJ, HRJ, HBJ⟩ := hrel
          have htv := HTVJ.out
          subst htv
          have c4 : wr.cell? ⟨W.heap.size, 4, none⟩ = some (.slice kA m kc) := cell_of_row _ _ 4 _ _ (0, 0) HRJ.out
          have HLJ := Lib.hid (show (hd ++ Wm.shwL (kids.take j)).length ≤ 100000 from by
            have h1 := Wm.shwL_app (kids.take j) (kids.drop j)
            rw [List.take_append_drop] at h1
            have h2 := HLN.out
            rw [List.length_append]
            omega)
          by_cases hlt : j < m
          · obtain ⟨r, hr⟩ : ∃ r, kids[j]? = some r := ⟨_, List.getElem?_eq_getElem (by rw [HQ.out]; exact hlt)⟩
            have hww : Below B w wr := HW.out.trans (HBJ.out.mono HBW.out)
            obtain ⟨ka, k', n', key', val', A', q', qc', ha, hab, hrr, ec, x0, x1, x2, x3, x4⟩ := kid_cells (HROW.out.keep fun _ hp => hww.cell hp) (fun i r h => (HKID.out i r h).low hww) hr
            have I := IH.out j r hr
            rw [ec] at I
            simp only [rcs] at I
            have HTK : Hid (kids.take (j + 1) = kids.take j ++ [r]) := Lib.hid (by rw [List.take_add_one, hr]; rfl)
            have HRA : Hid (r.all = true) := Lib.hid ((allL_iff kids).1 HKA.out r (List.mem_of_getElem? hr))
            have hls : (hd ++ Wm.shwL (kids.take (j + 1))).length ≤ 100000 := by
              have h1 := Wm.shwL_app (kids.take (j + 1)) (kids.drop (j + 1))
              rw [List.take_append_drop] at h1
              have h2 := HLN.out
              rw [List.length_append]
              omega
            have HWW := Lib.hid hww
            subst ha
            rcases (show j = 0 ∨ 0 < j from by omega) with hj0 | hj0
            · have HE : Hid (hd ++ Wm.shwL (kids.take (j + 1)) = (hd ++ Wm.shwL (kids.take j)) ++ Wm.shw r) := Lib.hid (by rw [HTK.out, hj0]; simp [Wm.shwL_one, Wm.shwL_nil])
              have hsl : (Wm.shw r).length ≤ 100000 := by rw [HE.out, List.length_append] at hls; omega
              have HI := Lib.hid (I wr HRA.out hww (Nat.le_trans HBW.out HBJ.out.size) hsl)
              have hadd2 := add8 (a := S8 (hd ++ Wm.shwL (kids.take j))) (b := S8 (Wm.shw r)) rfl rfl (by have := HLJ.out; omega) (by omega)
              have d1 : decide (0 < (j : Int)) = false := decide_eq_false (by omega)
              have d2 : decide (0 < j) = false := decide_eq_false (by omega)
              have HJ0 := Lib.hid hj0
              rw [← HE.out] at hadd2
              clear hj0 hls hsl I hr hww hrr ec
              generalize S8 (hd ++ Wm.shwL (kids.take j)) = z1 at *
              generalize S8 (Wm.shw r) = z2 at *
              go_wp2_with (go_at_call 24; (with_reducible refine HI.out.mono ?_); rintro e5 w5 ⟨rfl, hb5⟩; have HB5 := Lib.hid (HBJ.out.trans (hb5.mono HBJ.out.size)); have HR5 := Lib.hid ((hb5.block _ (in_heap HRJ.out)).trans HRJ.out); clear hb5)
              go_roundw
              case rel => exact ⟨j + 1, by go_num, by omega, Lib.hid (by first | trivial | rfl), HR5, HB5⟩
              case measure => simp [intOf]; omega
            · have HNE : Hid (kids.take j ≠ []) := Lib.hid (fun e => by
                have h1 := congrArg List.length e
                rw [List.length_take, HQ.out] at h1
                simp at h1
                omega)
              have HE : Hid (hd ++ Wm.shwL (kids.take (j + 1)) = (hd ++ Wm.shwL (kids.take j) ++ [44, 32]) ++ Wm.shw r) := Lib.hid (by rw [HTK.out, Wm.shwL_snoc _ _ HNE.out]; simp)
              have hsl : (Wm.shw r).length ≤ 100000 := by rw [HE.out, List.length_append] at hls; omega
              have HI := Lib.hid (I wr HRA.out hww (Nat.le_trans HBW.out HBJ.out.size) hsl)
              have hadd1 := add8 (a := S8 (hd ++ Wm.shwL (kids.take j))) (b := ⟨#[44, 32]⟩) (y := [44, 32]) rfl rfl (by have := HLJ.out; omega) (by simp)
              have hadd2 := add8 (a := S8 (hd ++ Wm.shwL (kids.take j) ++ [44, 32])) (b := S8 (Wm.shw r)) rfl rfl (by have := HLJ.out; rw [List.length_append]; simp only [List.length_cons, List.length_nil]; omega) (by omega)
              have d1 : decide (0 < (j : Int)) = true := decide_eq_true (by omega)
              have d2 : decide (0 < j) = true := decide_eq_true (by omega)
              have HJ0 := Lib.hid hj0
              rw [← HE.out] at hadd2
              clear hj0 hls hsl I hr hww hrr ec
              generalize S8 (hd ++ Wm.shwL (kids.take j) ++ [44, 32]) = z3 at *
              generalize S8 (hd ++ Wm.shwL (kids.take j)) = z1 at *
              generalize S8 (Wm.shw r) = z2 at *
              go_wp2_with (go_at_call 24; (with_reducible refine HI.out.mono ?_); rintro e5 w5 ⟨rfl, hb5⟩; have HB5 := Lib.hid (HBJ.out.trans (hb5.mono HBJ.out.size)); have HR5 := Lib.hid ((hb5.block _ (in_heap HRJ.out)).trans HRJ.out); clear hb5)
              go_roundw
              case rel => exact ⟨j + 1, by go_num, by omega, Lib.hid (by first | trivial | rfl), HR5, HB5⟩
              case measure => simp [intOf]; omega
          · obtain rfl : j = m := by omega
            have HTA : Hid (kids.take j = kids) := Lib.hid (List.take_of_length_le (by rw [HQ.out]; omega))
            have hadd3 := add8 (a := S8 (hd ++ Wm.shwL (kids.take j))) (b := ⟨#[41]⟩) (y := [41]) rfl rfl (by have := HLJ.out; omega) (by simp)
            go_wp2_with fail
            go_ret
            exact ⟨by rw [HBT3.out, HTA.out]; simp, HBJ.out⟩
    · have HR0 := Lib.hid (heap_alloc_new W (.cells #[.int .i64 3, .int .i64 n, .string key, .string val, .slice kA m kc] 24))
      have HB0 := Lib.hid ((Below.refl W.heap.size W).alloc (Nat.le_refl _) (.cells #[.int .i64 3, .int .i64 n, .string key, .string val, .slice kA m kc] 24))
      go_enter Tryd.func24, Tryd.ntmps24
      go_upto_region 1 with fail
      generalize W.alloc (.cells #[.int .i64 3, .int .i64 n, .string key, .string val, .slice kA m kc] 24) = w0 at *
      have c0 : w0.cell? ⟨W.heap.size, 0, none⟩ = some (.int .i64 3) := cell_of_row _ _ 0 _ _ (0, 0) HR0.out; have c1 : w0.cell? ⟨W.heap.size, 1, none⟩ = some (.int .i64 n) := cell_of_row _ _ 1 _ _ (0, 0) HR0.out; have c2 : w0.cell? ⟨W.heap.size, 2, none⟩ = some (.string key) := cell_of_row _ _ 2 _ _ (0, 0) HR0.out; have c3 : w0.cell? ⟨W.heap.size, 3, none⟩ = some (.string val) := cell_of_row _ _ 3 _ _ (0, 0) HR0.out; have c4 : w0.cell? ⟨W.heap.size, 4, none⟩ = some (.slice kA m kc) := cell_of_row _ _ 4 _ _ (0, 0) HR0.out; skip
      go_cut [3] (fun s3 wx => s3 = .string (S8 (Wm.wd 3)) ∧ Hid (wx.heap[W.heap.size]? = some (.cells #[.int .i64 3, .int .i64 n, .string key, .string val, .slice kA m kc] 24)) ∧ Hid (Below W.heap.size W wx))
      case first =>
        go_region_with ((go_at_call 38; (with_reducible refine (words28_any _).mono ?_); rintro e1 w1 ⟨rfl, hw1⟩; have hb1 : Below w0.heap.size w0 w1 := (by rw [hw1]; exact (⟨rfl, rfl, rfl, Nat.le_refl _, fun _ _ => rfl⟩ : Below w0.heap.size w0 w0.drew).alloc (Nat.le_refl _) _); have hwr1 : w1.heap[w0.heap.size]? = some (.cells wordR 9) := (by rw [hw1]; exact heap_alloc_new w0.drew _); have HR1 := Lib.hid ((hb1.block _ (in_heap HR0.out)).trans HR0.out); have HB1 := Lib.hid (HB0.out.trans (hb1.mono HB0.out.size)); (try clear c0 c1 c2 c3 c4); have c0 : w1.cell? ⟨W.heap.size, 0, none⟩ = some (.int .i64 3) := cell_of_row _ _ 0 _ _ (0, 0) HR1.out; have c1 : w1.cell? ⟨W.heap.size, 1, none⟩ = some (.int .i64 n) := cell_of_row _ _ 1 _ _ (0, 0) HR1.out; have c2 : w1.cell? ⟨W.heap.size, 2, none⟩ = some (.string key) := cell_of_row _ _ 2 _ _ (0, 0) HR1.out; have c3 : w1.cell? ⟨W.heap.size, 3, none⟩ = some (.string val) := cell_of_row _ _ 3 _ _ (0, 0) HR1.out; have c4 : w1.cell? ⟨W.heap.size, 4, none⟩ = some (.slice kA m kc) := cell_of_row _ _ 4 _ _ (0, 0) HR1.out; have cw : w1.cell? ⟨w0.heap.size, 3, none⟩ = some (.string (S8 (Wm.wd 3))) := cell_of_row _ _ 3 _ _ (0, 0) hwr1; clear hb1 hwr1 hw1))
        all_goals
          go_wp2_with fail
          go_meet
          case rel => exact ⟨rfl, HR1, HB1⟩
      case rest =>
        obtain ⟨rfl, HR1, HB1⟩ := hcut
        have c0 : wc.cell? ⟨W.heap.size, 0, none⟩ = some (.int .i64 3) := cell_of_row _ _ 0 _ _ (0, 0) HR1.out; have c1 : wc.cell? ⟨W.heap.size, 1, none⟩ = some (.int .i64 n) := cell_of_row _ _ 1 _ _ (0, 0) HR1.out; have c2 : wc.cell? ⟨W.heap.size, 2, none⟩ = some (.string key) := cell_of_row _ _ 2 _ _ (0, 0) HR1.out; have c3 : wc.cell? ⟨W.heap.size, 3, none⟩ = some (.string val) := cell_of_row _ _ 3 _ _ (0, 0) HR1.out; have c4 : wc.cell? ⟨W.heap.size, 4, none⟩ = some (.slice kA m kc) := cell_of_row _ _ 4 _ _ (0, 0) HR1.out; skip
        have HBT3 : Hid (Wm.shw (.mk 3 n key val kids) = (Wm.wd 3 ++ [40]) ++ (Wm.shwL kids ++ [41])) := Lib.hid (by rw [HBT.out]; simp)
        have HLN := Lib.hid (show (Wm.wd 3 ++ [40]).length + (Wm.shwL kids).length ≤ 100000 from by
          have h := HLEN.out
          have h2 := congrArg List.length HBT3.out
          simp only [List.length_append, List.length_singleton] at h h2 ⊢
          omega)
        have hadd1 := add8 (a := S8 (Wm.wd 3)) (b := ⟨#[40]⟩) (y := [40]) rfl rfl (by have := wd_len 3; omega) (by simp)
        go_wp2_with fail
        clear hadd1 c0 c1 c2 c3 c4
        have HTV : Hid (S8 (Wm.wd 3 ++ [40]) = S8 ((Wm.wd 3 ++ [40]) ++ Wm.shwL (kids.take 0))) := Lib.hid (by rw [List.take_zero, Wm.shwL_nil, List.append_nil])
        generalize Wm.wd 3 ++ [40] = hd at *
        go_loopw [3, 4] (fun tv x wr => ∃ j : Nat, x = .int .i64 (j : Int) ∧ j ≤ m ∧ Hid (tv = .string (S8 (hd ++ Wm.shwL (kids.take j)))) ∧ Hid (wr.heap[W.heap.size]? = some (.cells #[.int .i64 3, .int .i64 n, .string key, .string val, .slice kA m kc] 24)) ∧ Hid (Below W.heap.size W wr)) (fun _ x _ => m - (intOf x).toNat)
        case atStart => exact ⟨0, rfl, by omega, Lib.hid (by rw [HTV.out]), HR1, HB1⟩
        case round =>
          obtain ⟨j, rfl, hj, HTVJ, HRJ, HBJ⟩ := hrel
          have htv := HTVJ.out
          subst htv
          have c4 : wr.cell? ⟨W.heap.size, 4, none⟩ = some (.slice kA m kc) := cell_of_row _ _ 4 _ _ (0, 0) HRJ.out
          have HLJ := Lib.hid (show (hd ++ Wm.shwL (kids.take j)).length ≤ 100000 from by
            have h1 := Wm.shwL_app (kids.take j) (kids.drop j)
            rw [List.take_append_drop] at h1
            have h2 := HLN.out
            rw [List.length_append]
            omega)
          by_cases hlt : j < m
          · obtain ⟨r, hr⟩ : ∃ r, kids[j]? = some r := ⟨_, List.getElem?_eq_getElem (by rw [HQ.out]; exact hlt)⟩
            have hww : Below B w wr := HW.out.trans (HBJ.out.mono HBW.out)
            obtain ⟨ka, k', n', key', val', A', q', qc', ha, hab, hrr, ec, x0, x1, x2, x3, x4⟩ := kid_cells (HROW.out.keep fun _ hp => hww.cell hp) (fun i r h => (HKID.out i r h).low hww) hr
            have I := IH.out j r hr
            rw [ec] at I
            simp only [rcs] at I
            have HTK : Hid (kids.take (j + 1) = kids.take j ++ [r]) := Lib.hid (by rw [List.take_add_one, hr]; rfl)
            have HRA : Hid (r.all = true) := Lib.hid ((allL_iff kids).1 HKA.out r (List.mem_of_getElem? hr))
            have hls : (hd ++ Wm.shwL (kids.take (j + 1))).length ≤ 100000 := by
              have h1 := Wm.shwL_app (kids.take (j + 1)) (kids.drop (j + 1))
              rw [List.take_append_drop] at h1
              have h2 := HLN.out
              rw [List.length_append]
              omega
            have HWW := Lib.hid hww
            subst ha
            rcases (show j = 0 ∨ 0 < j from by omega) with hj0 | hj0
            · have HE : Hid (hd ++ Wm.shwL (kids.take (j + 1)) = (hd ++ Wm.shwL (kids.take j)) ++ Wm.shw r) := Lib.hid (by rw [HTK.out, hj0]; simp [Wm.shwL_one, Wm.shwL_nil])
              have hsl : (Wm.shw r).length ≤ 100000 := by rw [HE.out, List.length_append] at hls; omega
              have HI := Lib.hid (I wr HRA.out hww (Nat.le_trans HBW.out HBJ.out.size) hsl)
              have hadd2 := add8 (a := S8 (hd ++ Wm.shwL (kids.take j))) (b := S8 (Wm.shw r)) rfl rfl (by have := HLJ.out; omega) (by omega)
              have d1 : decide (0 < (j : Int)) = false := decide_eq_false (by omega)
              have d2 : decide (0 < j) = false := decide_eq_false (by omega)
              have HJ0 := Lib.hid hj0
              rw [← HE.out] at hadd2
              clear hj0 hls hsl I hr hww hrr ec
              generalize S8 (hd ++ Wm.shwL (kids.take j)) = z1 at *
              generalize S8 (Wm.shw r) = z2 at *
              go_wp2_with (go_at_call 24; (with_reducible refine HI.out.mono ?_); rintro e5 w5 ⟨rfl, hb5⟩; have HB5 := Lib.hid (HBJ.out.trans (hb5.mono HBJ.out.size)); have HR5 := Lib.hid ((hb5.block _ (in_heap HRJ.out)).trans HRJ.out); clear hb5)
              go_roundw
              case rel => exact ⟨j + 1, by go_num, by omega, Lib.hid (by first | trivial | rfl), HR5, HB5⟩
              case measure => simp [intOf]; omega
            · have HNE : Hid (kids.take j ≠ []) := Lib.hid (fun e => by
                have h1 := congrArg List.length e
                rw [List.length_take, HQ.out] at h1
                simp at h1
                omega)
              have HE : Hid (hd ++ Wm.shwL (kids.take (j + 1)) = (hd ++ Wm.shwL (kids.take j) ++ [44, 32]) ++ Wm.shw r) := Lib.hid (by rw [HTK.out, Wm.shwL_snoc _ _ HNE.out]; simp)
              have hsl : (Wm.shw r).length ≤ 100000 := by rw [HE.out, List.length_append] at hls; omega
              have HI := Lib.hid (I wr HRA.out hww (Nat.le_trans HBW.out HBJ.out.size) hsl)
              have hadd1 := add8 (a := S8 (hd ++ Wm.shwL (kids.take j))) (b := ⟨#[44, 32]⟩) (y := [44, 32]) rfl rfl (by have := HLJ.out; omega) (by simp)
              have hadd2 := add8 (a := S8 (hd ++ Wm.shwL (kids.take j) ++ [44, 32])) (b := S8 (Wm.shw r)) rfl rfl (by have := HLJ.out; rw [List.length_append]; simp only [List.length_cons, List.length_nil]; omega) (by omega)
              have d1 : decide (0 < (j : Int)) = true := decide_eq_true (by omega)
              have d2 : decide (0 < j) = true := decide_eq_true (by omega)
              have HJ0 := Lib.hid hj0
              rw [← HE.out] at hadd2
              clear hj0 hls hsl I hr hww hrr ec
              generalize S8 (hd ++ Wm.shwL (kids.take j) ++ [44, 32]) = z3 at *
              generalize S8 (hd ++ Wm.shwL (kids.take j)) = z1 at *
              generalize S8 (Wm.shw r) = z2 at *
              go_wp2_with (go_at_call 24; (with_reducible refine HI.out.mono ?_); rintro e5 w5 ⟨rfl, hb5⟩; have HB5 := Lib.hid (HBJ.out.trans (hb5.mono HBJ.out.size)); have HR5 := Lib.hid ((hb5.block _ (in_heap HRJ.out)).trans HRJ.out); clear hb5)
              go_roundw
              case rel => exact ⟨j + 1, by go_num, by omega, Lib.hid (by first | trivial | rfl), HR5, HB5⟩
              case measure => simp [intOf]; omega
          · obtain rfl : j = m := by omega
            have HTA : Hid (kids.take j = kids) := Lib.hid (List.take_of_length_le (by rw [HQ.out]; omega))
            have hadd3 := add8 (a := S8 (hd ++ Wm.shwL (kids.take j))) (b := ⟨#[41]⟩) (y := [41]) rfl rfl (by have := HLJ.out; omega) (by simp)
            go_wp2_with fail
            go_ret
            exact ⟨by rw [HBT3.out, HTA.out]; simp, HBJ.out⟩
    · obtain ⟨nn, hnn⟩ : ∃ nn : Nat, n = (nn : Int) ∧ nn ≤ 1073741824 := by
        have h := HONE.out
        unfold oneR gok gmost at h
        simp at h
        exact ⟨n.toNat, by omega, by omega⟩
      obtain ⟨rfl, hnl⟩ := hnn
      have HR0 := Lib.hid (heap_alloc_new W (.cells #[.int .i64 4, .int .i64 (nn : Int), .string key, .string val, .slice kA m kc] 24))
      have HB0 := Lib.hid ((Below.refl W.heap.size W).alloc (Nat.le_refl _) (.cells #[.int .i64 4, .int .i64 (nn : Int), .string key, .string val, .slice kA m kc] 24))
      go_enter Tryd.func24, Tryd.ntmps24
      go_upto_region 1 with fail
      generalize W.alloc (.cells #[.int .i64 4, .int .i64 (nn : Int), .string key, .string val, .slice kA m kc] 24) = w0 at *
      have c0 : w0.cell? ⟨W.heap.size, 0, none⟩ = some (.int .i64 4) := cell_of_row _ _ 0 _ _ (0, 0) HR0.out; have c1 : w0.cell? ⟨W.heap.size, 1, none⟩ = some (.int .i64 (nn : Int)) := cell_of_row _ _ 1 _ _ (0, 0) HR0.out; have c2 : w0.cell? ⟨W.heap.size, 2, none⟩ = some (.string key) := cell_of_row _ _ 2 _ _ (0, 0) HR0.out; have c3 : w0.cell? ⟨W.heap.size, 3, none⟩ = some (.string val) := cell_of_row _ _ 3 _ _ (0, 0) HR0.out; have c4 : w0.cell? ⟨W.heap.size, 4, none⟩ = some (.slice kA m kc) := cell_of_row _ _ 4 _ _ (0, 0) HR0.out; skip
      go_cut [3] (fun s3 wx => s3 = .string (S8 (Wm.wd 4)) ∧ Hid (wx.heap[W.heap.size]? = some (.cells #[.int .i64 4, .int .i64 (nn : Int), .string key, .string val, .slice kA m kc] 24)) ∧ Hid (Below W.heap.size W wx))
      case first =>
        go_region_with ((go_at_call 38; (with_reducible refine (words28_any _).mono ?_); rintro e1 w1 ⟨rfl, hw1⟩; have hb1 : Below w0.heap.size w0 w1 := (by rw [hw1]; exact (⟨rfl, rfl, rfl, Nat.le_refl _, fun _ _ => rfl⟩ : Below w0.heap.size w0 w0.drew).alloc (Nat.le_refl _) _); have hwr1 : w1.heap[w0.heap.size]? = some (.cells wordR 9) := (by rw [hw1]; exact heap_alloc_new w0.drew _); have HR1 := Lib.hid ((hb1.block _ (in_heap HR0.out)).trans HR0.out); have HB1 := Lib.hid (HB0.out.trans (hb1.mono HB0.out.size)); (try clear c0 c1 c2 c3 c4); have c0 : w1.cell? ⟨W.heap.size, 0, none⟩ = some (.int .i64 4) := cell_of_row _ _ 0 _ _ (0, 0) HR1.out; have c1 : w1.cell? ⟨W.heap.size, 1, none⟩ = some (.int .i64 (nn : Int)) := cell_of_row _ _ 1 _ _ (0, 0) HR1.out; have c2 : w1.cell? ⟨W.heap.size, 2, none⟩ = some (.string key) := cell_of_row _ _ 2 _ _ (0, 0) HR1.out; have c3 : w1.cell? ⟨W.heap.size, 3, none⟩ = some (.string val) := cell_of_row _ _ 3 _ _ (0, 0) HR1.out; have c4 : w1.cell? ⟨W.heap.size, 4, none⟩ = some (.slice kA m kc) := cell_of_row _ _ 4 _ _ (0, 0) HR1.out; have cw : w1.cell? ⟨w0.heap.size, 4, none⟩ = some (.string (S8 (Wm.wd 4))) := cell_of_row _ _ 4 _ _ (0, 0) hwr1; clear hb1 hwr1 hw1))
        all_goals
          go_wp2_with fail
          go_meet
          case rel => exact ⟨rfl, HR1, HB1⟩
      case rest =>
        obtain ⟨rfl, HR1, HB1⟩ := hcut
        have c0 : wc.cell? ⟨W.heap.size, 0, none⟩ = some (.int .i64 4) := cell_of_row _ _ 0 _ _ (0, 0) HR1.out; have c1 : wc.cell? ⟨W.heap.size, 1, none⟩ = some (.int .i64 (nn : Int)) := cell_of_row _ _ 1 _ _ (0, 0) HR1.out; have c2 : wc.cell? ⟨W.heap.size, 2, none⟩ = some (.string key) := cell_of_row _ _ 2 _ _ (0, 0) HR1.out; have c3 : wc.cell? ⟨W.heap.size, 3, none⟩ = some (.string val) := cell_of_row _ _ 3 _ _ (0, 0) HR1.out; have c4 : wc.cell? ⟨W.heap.size, 4, none⟩ = some (.slice kA m kc) := cell_of_row _ _ 4 _ _ (0, 0) HR1.out; skip
        have hdl := dig_len hnl
        have hadd1 := add8 (a := S8 (Wm.wd 4)) (b := ⟨#[32]⟩) (y := [32]) rfl rfl (by have := wd_len 4; omega) (by simp)
        have hadd2 := add8 (a := S8 (Wm.wd 4 ++ [32])) (b := dgU nn) (y := Lib.decDigits nn) rfl rfl (by have := wd_len 4; simp; omega) (by omega)
        have HDD := Lib.hid (dec28_any nn (by omega))
        clear hdl
        go_wp2_with (go_at_call 45; (with_reducible refine (HDD.out _).mono ?_); rintro e3 w3 ⟨rfl, hw3⟩; subst hw3)
        go_ret
        exact ⟨by rw [HBT.out]; simp, HB1.out⟩
    · have HR0 := Lib.hid (heap_alloc_new W (.cells #[.int .i64 5, .int .i64 n, .string key, .string val, .slice kA m kc] 24))
      have HB0 := Lib.hid ((Below.refl W.heap.size W).alloc (Nat.le_refl _) (.cells #[.int .i64 5, .int .i64 n, .string key, .string val, .slice kA m kc] 24))
      go_enter Tryd.func24, Tryd.ntmps24
      go_upto_region 1 with fail
      generalize W.alloc (.cells #[.int .i64 5, .int .i64 n, .string key, .string val, .slice kA m kc] 24) = w0 at *
      have c0 : w0.cell? ⟨W.heap.size, 0, none⟩ = some (.int .i64 5) := cell_of_row _ _ 0 _ _ (0, 0) HR0.out; have c1 : w0.cell? ⟨W.heap.size, 1, none⟩ = some (.int .i64 n) := cell_of_row _ _ 1 _ _ (0, 0) HR0.out; have c2 : w0.cell? ⟨W.heap.size, 2, none⟩ = some (.string key) := cell_of_row _ _ 2 _ _ (0, 0) HR0.out; have c3 : w0.cell? ⟨W.heap.size, 3, none⟩ = some (.string val) := cell_of_row _ _ 3 _ _ (0, 0) HR0.out; have c4 : w0.cell? ⟨W.heap.size, 4, none⟩ = some (.slice kA m kc) := cell_of_row _ _ 4 _ _ (0, 0) HR0.out; skip
      go_cut [3] (fun s3 wx => s3 = .string (S8 (Wm.wd 5)) ∧ Hid (wx.heap[W.heap.size]? = some (.cells #[.int .i64 5, .int .i64 n, .string key, .string val, .slice kA m kc] 24)) ∧ Hid (Below W.heap.size W wx))
      case first =>
        go_region_with ((go_at_call 38; (with_reducible refine (words28_any _).mono ?_); rintro e1 w1 ⟨rfl, hw1⟩; have hb1 : Below w0.heap.size w0 w1 := (by rw [hw1]; exact (⟨rfl, rfl, rfl, Nat.le_refl _, fun _ _ => rfl⟩ : Below w0.heap.size w0 w0.drew).alloc (Nat.le_refl _) _); have hwr1 : w1.heap[w0.heap.size]? = some (.cells wordR 9) := (by rw [hw1]; exact heap_alloc_new w0.drew _); have HR1 := Lib.hid ((hb1.block _ (in_heap HR0.out)).trans HR0.out); have HB1 := Lib.hid (HB0.out.trans (hb1.mono HB0.out.size)); (try clear c0 c1 c2 c3 c4); have c0 : w1.cell? ⟨W.heap.size, 0, none⟩ = some (.int .i64 5) := cell_of_row _ _ 0 _ _ (0, 0) HR1.out; have c1 : w1.cell? ⟨W.heap.size, 1, none⟩ = some (.int .i64 n) := cell_of_row _ _ 1 _ _ (0, 0) HR1.out; have c2 : w1.cell? ⟨W.heap.size, 2, none⟩ = some (.string key) := cell_of_row _ _ 2 _ _ (0, 0) HR1.out; have c3 : w1.cell? ⟨W.heap.size, 3, none⟩ = some (.string val) := cell_of_row _ _ 3 _ _ (0, 0) HR1.out; have c4 : w1.cell? ⟨W.heap.size, 4, none⟩ = some (.slice kA m kc) := cell_of_row _ _ 4 _ _ (0, 0) HR1.out; have cw : w1.cell? ⟨w0.heap.size, 5, none⟩ = some (.string (S8 (Wm.wd 5))) := cell_of_row _ _ 5 _ _ (0, 0) hwr1; clear hb1 hwr1 hw1))
        all_goals
          go_wp2_with fail
          go_meet
          case rel => exact ⟨rfl, HR1, HB1⟩
      case rest =>
        obtain ⟨rfl, HR1, HB1⟩ := hcut
        have c0 : wc.cell? ⟨W.heap.size, 0, none⟩ = some (.int .i64 5) := cell_of_row _ _ 0 _ _ (0, 0) HR1.out; have c1 : wc.cell? ⟨W.heap.size, 1, none⟩ = some (.int .i64 n) := cell_of_row _ _ 1 _ _ (0, 0) HR1.out; have c2 : wc.cell? ⟨W.heap.size, 2, none⟩ = some (.string key) := cell_of_row _ _ 2 _ _ (0, 0) HR1.out; have c3 : wc.cell? ⟨W.heap.size, 3, none⟩ = some (.string val) := cell_of_row _ _ 3 _ _ (0, 0) HR1.out; have c4 : wc.cell? ⟨W.heap.size, 4, none⟩ = some (.slice kA m kc) := cell_of_row _ _ 4 _ _ (0, 0) HR1.out; skip
        go_wp2_with fail
        go_ret
        exact ⟨by rw [HBT.out]; simp, HB1.out⟩
    · have HR0 := Lib.hid (heap_alloc_new W (.cells #[.int .i64 6, .int .i64 n, .string key, .string val, .slice kA m kc] 24))
      have HB0 := Lib.hid ((Below.refl W.heap.size W).alloc (Nat.le_refl _) (.cells #[.int .i64 6, .int .i64 n, .string key, .string val, .slice kA m kc] 24))
      go_enter Tryd.func24, Tryd.ntmps24
      go_upto_region 1 with fail
      generalize W.alloc (.cells #[.int .i64 6, .int .i64 n, .string key, .string val, .slice kA m kc] 24) = w0 at *
      have c0 : w0.cell? ⟨W.heap.size, 0, none⟩ = some (.int .i64 6) := cell_of_row _ _ 0 _ _ (0, 0) HR0.out; have c1 : w0.cell? ⟨W.heap.size, 1, none⟩ = some (.int .i64 n) := cell_of_row _ _ 1 _ _ (0, 0) HR0.out; have c2 : w0.cell? ⟨W.heap.size, 2, none⟩ = some (.string key) := cell_of_row _ _ 2 _ _ (0, 0) HR0.out; have c3 : w0.cell? ⟨W.heap.size, 3, none⟩ = some (.string val) := cell_of_row _ _ 3 _ _ (0, 0) HR0.out; have c4 : w0.cell? ⟨W.heap.size, 4, none⟩ = some (.slice kA m kc) := cell_of_row _ _ 4 _ _ (0, 0) HR0.out; skip
      go_cut [3] (fun s3 wx => s3 = .string (S8 (Wm.wd 6)) ∧ Hid (wx.heap[W.heap.size]? = some (.cells #[.int .i64 6, .int .i64 n, .string key, .string val, .slice kA m kc] 24)) ∧ Hid (Below W.heap.size W wx))
      case first =>
        go_region_with ((go_at_call 38; (with_reducible refine (words28_any _).mono ?_); rintro e1 w1 ⟨rfl, hw1⟩; have hb1 : Below w0.heap.size w0 w1 := (by rw [hw1]; exact (⟨rfl, rfl, rfl, Nat.le_refl _, fun _ _ => rfl⟩ : Below w0.heap.size w0 w0.drew).alloc (Nat.le_refl _) _); have hwr1 : w1.heap[w0.heap.size]? = some (.cells wordR 9) := (by rw [hw1]; exact heap_alloc_new w0.drew _); have HR1 := Lib.hid ((hb1.block _ (in_heap HR0.out)).trans HR0.out); have HB1 := Lib.hid (HB0.out.trans (hb1.mono HB0.out.size)); (try clear c0 c1 c2 c3 c4); have c0 : w1.cell? ⟨W.heap.size, 0, none⟩ = some (.int .i64 6) := cell_of_row _ _ 0 _ _ (0, 0) HR1.out; have c1 : w1.cell? ⟨W.heap.size, 1, none⟩ = some (.int .i64 n) := cell_of_row _ _ 1 _ _ (0, 0) HR1.out; have c2 : w1.cell? ⟨W.heap.size, 2, none⟩ = some (.string key) := cell_of_row _ _ 2 _ _ (0, 0) HR1.out; have c3 : w1.cell? ⟨W.heap.size, 3, none⟩ = some (.string val) := cell_of_row _ _ 3 _ _ (0, 0) HR1.out; have c4 : w1.cell? ⟨W.heap.size, 4, none⟩ = some (.slice kA m kc) := cell_of_row _ _ 4 _ _ (0, 0) HR1.out; have cw : w1.cell? ⟨w0.heap.size, 6, none⟩ = some (.string (S8 (Wm.wd 6))) := cell_of_row _ _ 6 _ _ (0, 0) hwr1; clear hb1 hwr1 hw1))
        all_goals
          go_wp2_with fail
          go_meet
          case rel => exact ⟨rfl, HR1, HB1⟩
      case rest =>
        obtain ⟨rfl, HR1, HB1⟩ := hcut
        have c0 : wc.cell? ⟨W.heap.size, 0, none⟩ = some (.int .i64 6) := cell_of_row _ _ 0 _ _ (0, 0) HR1.out; have c1 : wc.cell? ⟨W.heap.size, 1, none⟩ = some (.int .i64 n) := cell_of_row _ _ 1 _ _ (0, 0) HR1.out; have c2 : wc.cell? ⟨W.heap.size, 2, none⟩ = some (.string key) := cell_of_row _ _ 2 _ _ (0, 0) HR1.out; have c3 : wc.cell? ⟨W.heap.size, 3, none⟩ = some (.string val) := cell_of_row _ _ 3 _ _ (0, 0) HR1.out; have c4 : wc.cell? ⟨W.heap.size, 4, none⟩ = some (.slice kA m kc) := cell_of_row _ _ 4 _ _ (0, 0) HR1.out; skip
        have hks : key.size ≤ 16 ∧ val.size ≤ 16 := by
          have h := HONE.out
          unfold oneR at h
          simp at h
          omega
        have hq1 := Wm.quo_len key.data.toList
        have hq2 := Wm.quo_len val.data.toList
        rw [size_list] at hq1 hq2
        have HQK := Lib.hid (quoted28_any key (by omega))
        have HQV := Lib.hid (quoted28_any val (by omega))
        have hadd1 := add8 (a := S8 (Wm.wd 6)) (b := ⟨#[32]⟩) (y := [32]) rfl rfl (by have := wd_len 6; omega) (by simp)
        have hadd2 := add8 (a := S8 (Wm.wd 6 ++ [32])) (b := S8 (Wm.quo key.data.toList)) (y := Wm.quo key.data.toList) rfl rfl (by have := wd_len 6; simp; omega) (by omega)
        have hadd3 := add8 (a := S8 (Wm.wd 6 ++ [32] ++ Wm.quo key.data.toList)) (b := ⟨#[32]⟩) (y := [32]) rfl rfl (by have := wd_len 6; simp; omega) (by simp)
        have hadd4 := add8 (a := S8 (Wm.wd 6 ++ [32] ++ Wm.quo key.data.toList ++ [32])) (b := S8 (Wm.quo val.data.toList)) (y := Wm.quo val.data.toList) rfl rfl (by have := wd_len 6; simp; omega) (by omega)
        have HEND : Hid (Wm.wd 6 ++ [32] ++ Wm.quo key.data.toList ++ [32] ++ Wm.quo val.data.toList = Wm.shw (.mk 6 n key val kids)) := Lib.hid (by rw [HBT.out]; simp)
        generalize Wm.quo key.data.toList = qk at *
        generalize Wm.quo val.data.toList = qv at *
        generalize S8 (Wm.wd 6) = z1 at *
        generalize S8 (Wm.wd 6 ++ [32]) = z2 at *
        generalize S8 (Wm.wd 6 ++ [32] ++ qk) = z3 at *
        generalize S8 (Wm.wd 6 ++ [32] ++ qk ++ [32]) = z4 at *
        rw [HEND.out] at hadd4
        clear hks hq1 hq2
        go_upto_region 17 with fail
        refine wp_region_quiet_lex (by kernel_rfl) (by kernel_rfl) ?_
        repeat (go_big_quiet_step ((first | (go_at_call 44; with_reducible exact Calls.quiet_of_same (HQK.out _)) | (go_at_call 44; with_reducible exact Calls.quiet_of_same (HQV.out _)))))
        refine wpQuiet_nil ?_
        intro _ hw'
        obtain ⟨nq, hw''⟩ := hw'
        subst hw''
        go_wp2_with fail
        go_ret
        exact ⟨rfl, HB1.out.trans ⟨rfl, rfl, rfl, Nat.le_refl _, fun _ _ => rfl⟩⟩
    · obtain ⟨nn, hnn⟩ : ∃ nn : Nat, n = (nn : Int) ∧ nn ≤ 1073741824 := by
        have h := HONE.out
        unfold oneR gok gmost at h
        simp at h
        exact ⟨n.toNat, by omega, by omega⟩
      obtain ⟨rfl, hnl⟩ := hnn
      have HR0 := Lib.hid (heap_alloc_new W (.cells #[.int .i64 7, .int .i64 (nn : Int), .string key, .string val, .slice kA m kc] 24))
      have HB0 := Lib.hid ((Below.refl W.heap.size W).alloc (Nat.le_refl _) (.cells #[.int .i64 7, .int .i64 (nn : Int), .string key, .string val, .slice kA m kc] 24))
      go_enter Tryd.func24, Tryd.ntmps24
      go_upto_region 1 with fail
      generalize W.alloc (.cells #[.int .i64 7, .int .i64 (nn : Int), .string key, .string val, .slice kA m kc] 24) = w0 at *
      have c0 : w0.cell? ⟨W.heap.size, 0, none⟩ = some (.int .i64 7) := cell_of_row _ _ 0 _ _ (0, 0) HR0.out; have c1 : w0.cell? ⟨W.heap.size, 1, none⟩ = some (.int .i64 (nn : Int)) := cell_of_row _ _ 1 _ _ (0, 0) HR0.out; have c2 : w0.cell? ⟨W.heap.size, 2, none⟩ = some (.string key) := cell_of_row _ _ 2 _ _ (0, 0) HR0.out; have c3 : w0.cell? ⟨W.heap.size, 3, none⟩ = some (.string val) := cell_of_row _ _ 3 _ _ (0, 0) HR0.out; have c4 : w0.cell? ⟨W.heap.size, 4, none⟩ = some (.slice kA m kc) := cell_of_row _ _ 4 _ _ (0, 0) HR0.out; skip
      go_cut [3] (fun s3 wx => s3 = .string (S8 (Wm.wd 7)) ∧ Hid (wx.heap[W.heap.size]? = some (.cells #[.int .i64 7, .int .i64 (nn : Int), .string key, .string val, .slice kA m kc] 24)) ∧ Hid (Below W.heap.size W wx))
      case first =>
        go_region_with ((go_at_call 38; (with_reducible refine (words28_any _).mono ?_); rintro e1 w1 ⟨rfl, hw1⟩; have hb1 : Below w0.heap.size w0 w1 := (by rw [hw1]; exact (⟨rfl, rfl, rfl, Nat.le_refl _, fun _ _ => rfl⟩ : Below w0.heap.size w0 w0.drew).alloc (Nat.le_refl _) _); have hwr1 : w1.heap[w0.heap.size]? = some (.cells wordR 9) := (by rw [hw1]; exact heap_alloc_new w0.drew _); have HR1 := Lib.hid ((hb1.block _ (in_heap HR0.out)).trans HR0.out); have HB1 := Lib.hid (HB0.out.trans (hb1.mono HB0.out.size)); (try clear c0 c1 c2 c3 c4); have c0 : w1.cell? ⟨W.heap.size, 0, none⟩ = some (.int .i64 7) := cell_of_row _ _ 0 _ _ (0, 0) HR1.out; have c1 : w1.cell? ⟨W.heap.size, 1, none⟩ = some (.int .i64 (nn : Int)) := cell_of_row _ _ 1 _ _ (0, 0) HR1.out; have c2 : w1.cell? ⟨W.heap.size, 2, none⟩ = some (.string key) := cell_of_row _ _ 2 _ _ (0, 0) HR1.out; have c3 : w1.cell? ⟨W.heap.size, 3, none⟩ = some (.string val) := cell_of_row _ _ 3 _ _ (0, 0) HR1.out; have c4 : w1.cell? ⟨W.heap.size, 4, none⟩ = some (.slice kA m kc) := cell_of_row _ _ 4 _ _ (0, 0) HR1.out; have cw : w1.cell? ⟨w0.heap.size, 7, none⟩ = some (.string (S8 (Wm.wd 7))) := cell_of_row _ _ 7 _ _ (0, 0) hwr1; clear hb1 hwr1 hw1))
        all_goals
          go_wp2_with fail
          go_meet
          case rel => exact ⟨rfl, HR1, HB1⟩
      case rest =>
        obtain ⟨rfl, HR1, HB1⟩ := hcut
        have c0 : wc.cell? ⟨W.heap.size, 0, none⟩ = some (.int .i64 7) := cell_of_row _ _ 0 _ _ (0, 0) HR1.out; have c1 : wc.cell? ⟨W.heap.size, 1, none⟩ = some (.int .i64 (nn : Int)) := cell_of_row _ _ 1 _ _ (0, 0) HR1.out; have c2 : wc.cell? ⟨W.heap.size, 2, none⟩ = some (.string key) := cell_of_row _ _ 2 _ _ (0, 0) HR1.out; have c3 : wc.cell? ⟨W.heap.size, 3, none⟩ = some (.string val) := cell_of_row _ _ 3 _ _ (0, 0) HR1.out; have c4 : wc.cell? ⟨W.heap.size, 4, none⟩ = some (.slice kA m kc) := cell_of_row _ _ 4 _ _ (0, 0) HR1.out; skip
        have hdl := dig_len hnl
        have hadd1 := add8 (a := S8 (Wm.wd 7)) (b := ⟨#[32]⟩) (y := [32]) rfl rfl (by have := wd_len 7; omega) (by simp)
        have hadd2 := add8 (a := S8 (Wm.wd 7 ++ [32])) (b := dgU nn) (y := Lib.decDigits nn) rfl rfl (by have := wd_len 7; simp; omega) (by omega)
        have HDD := Lib.hid (dec28_any nn (by omega))
        clear hdl
        go_wp2_with (go_at_call 45; (with_reducible refine (HDD.out _).mono ?_); rintro e3 w3 ⟨rfl, hw3⟩; subst hw3)
        go_ret
        exact ⟨by rw [HBT.out]; simp, HB1.out⟩
    · obtain ⟨nn, hnn⟩ : ∃ nn : Nat, n = (nn : Int) ∧ nn ≤ 1073741824 := by
        have h := HONE.out
        unfold oneR gok gmost at h
        simp at h
        exact ⟨n.toNat, by omega, by omega⟩
      obtain ⟨rfl, hnl⟩ := hnn
      have HR0 := Lib.hid (heap_alloc_new W (.cells #[.int .i64 8, .int .i64 (nn : Int), .string key, .string val, .slice kA m kc] 24))
      have HB0 := Lib.hid ((Below.refl W.heap.size W).alloc (Nat.le_refl _) (.cells #[.int .i64 8, .int .i64 (nn : Int), .string key, .string val, .slice kA m kc] 24))
      go_enter Tryd.func24, Tryd.ntmps24
      go_upto_region 1 with fail
      generalize W.alloc (.cells #[.int .i64 8, .int .i64 (nn : Int), .string key, .string val, .slice kA m kc] 24) = w0 at *
      have c0 : w0.cell? ⟨W.heap.size, 0, none⟩ = some (.int .i64 8) := cell_of_row _ _ 0 _ _ (0, 0) HR0.out; have c1 : w0.cell? ⟨W.heap.size, 1, none⟩ = some (.int .i64 (nn : Int)) := cell_of_row _ _ 1 _ _ (0, 0) HR0.out; have c2 : w0.cell? ⟨W.heap.size, 2, none⟩ = some (.string key) := cell_of_row _ _ 2 _ _ (0, 0) HR0.out; have c3 : w0.cell? ⟨W.heap.size, 3, none⟩ = some (.string val) := cell_of_row _ _ 3 _ _ (0, 0) HR0.out; have c4 : w0.cell? ⟨W.heap.size, 4, none⟩ = some (.slice kA m kc) := cell_of_row _ _ 4 _ _ (0, 0) HR0.out; skip
      go_cut [3] (fun s3 wx => s3 = .string (S8 (Wm.wd 8)) ∧ Hid (wx.heap[W.heap.size]? = some (.cells #[.int .i64 8, .int .i64 (nn : Int), .string key, .string val, .slice kA m kc] 24)) ∧ Hid (Below W.heap.size W wx))
      case first =>
        go_region_with ((go_at_call 38; (with_reducible refine (words28_any _).mono ?_); rintro e1 w1 ⟨rfl, hw1⟩; have hb1 : Below w0.heap.size w0 w1 := (by rw [hw1]; exact (⟨rfl, rfl, rfl, Nat.le_refl _, fun _ _ => rfl⟩ : Below w0.heap.size w0 w0.drew).alloc (Nat.le_refl _) _); have hwr1 : w1.heap[w0.heap.size]? = some (.cells wordR 9) := (by rw [hw1]; exact heap_alloc_new w0.drew _); have HR1 := Lib.hid ((hb1.block _ (in_heap HR0.out)).trans HR0.out); have HB1 := Lib.hid (HB0.out.trans (hb1.mono HB0.out.size)); (try clear c0 c1 c2 c3 c4); have c0 : w1.cell? ⟨W.heap.size, 0, none⟩ = some (.int .i64 8) := cell_of_row _ _ 0 _ _ (0, 0) HR1.out; have c1 : w1.cell? ⟨W.heap.size, 1, none⟩ = some (.int .i64 (nn : Int)) := cell_of_row _ _ 1 _ _ (0, 0) HR1.out; have c2 : w1.cell? ⟨W.heap.size, 2, none⟩ = some (.string key) := cell_of_row _ _ 2 _ _ (0, 0) HR1.out; have c3 : w1.cell? ⟨W.heap.size, 3, none⟩ = some (.string val) := cell_of_row _ _ 3 _ _ (0, 0) HR1.out; have c4 : w1.cell? ⟨W.heap.size, 4, none⟩ = some (.slice kA m kc) := cell_of_row _ _ 4 _ _ (0, 0) HR1.out; have cw : w1.cell? ⟨w0.heap.size, 8, none⟩ = some (.string (S8 (Wm.wd 8))) := cell_of_row _ _ 8 _ _ (0, 0) hwr1; clear hb1 hwr1 hw1))
        all_goals
          go_wp2_with fail
          go_meet
          case rel => exact ⟨rfl, HR1, HB1⟩
      case rest =>
        obtain ⟨rfl, HR1, HB1⟩ := hcut
        have c0 : wc.cell? ⟨W.heap.size, 0, none⟩ = some (.int .i64 8) := cell_of_row _ _ 0 _ _ (0, 0) HR1.out; have c1 : wc.cell? ⟨W.heap.size, 1, none⟩ = some (.int .i64 (nn : Int)) := cell_of_row _ _ 1 _ _ (0, 0) HR1.out; have c2 : wc.cell? ⟨W.heap.size, 2, none⟩ = some (.string key) := cell_of_row _ _ 2 _ _ (0, 0) HR1.out; have c3 : wc.cell? ⟨W.heap.size, 3, none⟩ = some (.string val) := cell_of_row _ _ 3 _ _ (0, 0) HR1.out; have c4 : wc.cell? ⟨W.heap.size, 4, none⟩ = some (.slice kA m kc) := cell_of_row _ _ 4 _ _ (0, 0) HR1.out; skip
        have hdl := dig_len hnl
        have hadd1 := add8 (a := S8 (Wm.wd 8)) (b := ⟨#[32]⟩) (y := [32]) rfl rfl (by have := wd_len 8; omega) (by simp)
        have hadd2 := add8 (a := S8 (Wm.wd 8 ++ [32])) (b := dgU nn) (y := Lib.decDigits nn) rfl rfl (by have := wd_len 8; simp; omega) (by omega)
        have HDD := Lib.hid (dec28_any nn (by omega))
        clear hdl
        go_wp2_with (go_at_call 45; (with_reducible refine (HDD.out _).mono ?_); rintro e3 w3 ⟨rfl, hw3⟩; subst hw3)
        go_ret
        exact ⟨by rw [HBT.out]; simp, HB1.out⟩
    · obtain ⟨nn, hnn⟩ : ∃ nn : Nat, n = (nn : Int) ∧ nn ≤ 1073741824 := by
        have h := HONE.out
        unfold oneR gok gmost at h
        simp at h
        exact ⟨n.toNat, by omega, by omega⟩
      obtain ⟨rfl, hnl⟩ := hnn
      have HR0 := Lib.hid (heap_alloc_new W (.cells #[.int .i64 9, .int .i64 (nn : Int), .string key, .string val, .slice kA m kc] 24))
      have HB0 := Lib.hid ((Below.refl W.heap.size W).alloc (Nat.le_refl _) (.cells #[.int .i64 9, .int .i64 (nn : Int), .string key, .string val, .slice kA m kc] 24))
      go_enter Tryd.func24, Tryd.ntmps24
      go_upto_region 1 with fail
      generalize W.alloc (.cells #[.int .i64 9, .int .i64 (nn : Int), .string key, .string val, .slice kA m kc] 24) = w0 at *
      have c0 : w0.cell? ⟨W.heap.size, 0, none⟩ = some (.int .i64 9) := cell_of_row _ _ 0 _ _ (0, 0) HR0.out; have c1 : w0.cell? ⟨W.heap.size, 1, none⟩ = some (.int .i64 (nn : Int)) := cell_of_row _ _ 1 _ _ (0, 0) HR0.out; have c2 : w0.cell? ⟨W.heap.size, 2, none⟩ = some (.string key) := cell_of_row _ _ 2 _ _ (0, 0) HR0.out; have c3 : w0.cell? ⟨W.heap.size, 3, none⟩ = some (.string val) := cell_of_row _ _ 3 _ _ (0, 0) HR0.out; have c4 : w0.cell? ⟨W.heap.size, 4, none⟩ = some (.slice kA m kc) := cell_of_row _ _ 4 _ _ (0, 0) HR0.out; skip
      go_cut [3] (fun s3 wx => s3 = .string (S8 (Wm.wd 9)) ∧ Hid (wx.heap[W.heap.size]? = some (.cells #[.int .i64 9, .int .i64 (nn : Int), .string key, .string val, .slice kA m kc] 24)) ∧ Hid (Below W.heap.size W wx))
      case first =>
        go_region_with ((go_at_call 38; (with_reducible refine (words28_any _).mono ?_); rintro e1 w1 ⟨rfl, hw1⟩; have hb1 : Below w0.heap.size w0 w1 := (by rw [hw1]; exact (⟨rfl, rfl, rfl, Nat.le_refl _, fun _ _ => rfl⟩ : Below w0.heap.size w0 w0.drew).alloc (Nat.le_refl _) _); have hwr1 : w1.heap[w0.heap.size]? = some (.cells wordR 9) := (by rw [hw1]; exact heap_alloc_new w0.drew _); have HR1 := Lib.hid ((hb1.block _ (in_heap HR0.out)).trans HR0.out); have HB1 := Lib.hid (HB0.out.trans (hb1.mono HB0.out.size)); (try clear c0 c1 c2 c3 c4); have c0 : w1.cell? ⟨W.heap.size, 0, none⟩ = some (.int .i64 9) := cell_of_row _ _ 0 _ _ (0, 0) HR1.out; have c1 : w1.cell? ⟨W.heap.size, 1, none⟩ = some (.int .i64 (nn : Int)) := cell_of_row _ _ 1 _ _ (0, 0) HR1.out; have c2 : w1.cell? ⟨W.heap.size, 2, none⟩ = some (.string key) := cell_of_row _ _ 2 _ _ (0, 0) HR1.out; have c3 : w1.cell? ⟨W.heap.size, 3, none⟩ = some (.string val) := cell_of_row _ _ 3 _ _ (0, 0) HR1.out; have c4 : w1.cell? ⟨W.heap.size, 4, none⟩ = some (.slice kA m kc) := cell_of_row _ _ 4 _ _ (0, 0) HR1.out; have cw : w1.cell? ⟨w0.heap.size, 9, none⟩ = some (.string (S8 (Wm.wd 9))) := cell_of_row _ _ 9 _ _ (0, 0) hwr1; clear hb1 hwr1 hw1))
        all_goals
          go_wp2_with fail
          go_meet
          case rel => exact ⟨rfl, HR1, HB1⟩
      case rest =>
        obtain ⟨rfl, HR1, HB1⟩ := hcut
        have c0 : wc.cell? ⟨W.heap.size, 0, none⟩ = some (.int .i64 9) := cell_of_row _ _ 0 _ _ (0, 0) HR1.out; have c1 : wc.cell? ⟨W.heap.size, 1, none⟩ = some (.int .i64 (nn : Int)) := cell_of_row _ _ 1 _ _ (0, 0) HR1.out; have c2 : wc.cell? ⟨W.heap.size, 2, none⟩ = some (.string key) := cell_of_row _ _ 2 _ _ (0, 0) HR1.out; have c3 : wc.cell? ⟨W.heap.size, 3, none⟩ = some (.string val) := cell_of_row _ _ 3 _ _ (0, 0) HR1.out; have c4 : wc.cell? ⟨W.heap.size, 4, none⟩ = some (.slice kA m kc) := cell_of_row _ _ 4 _ _ (0, 0) HR1.out; skip
        have hdl := dig_len hnl
        have hadd1 := add8 (a := S8 (Wm.wd 9)) (b := ⟨#[32]⟩) (y := [32]) rfl rfl (by have := wd_len 9; omega) (by simp)
        have hadd2 := add8 (a := S8 (Wm.wd 9 ++ [32])) (b := dgU nn) (y := Lib.decDigits nn) rfl rfl (by have := wd_len 9; simp; omega) (by omega)
        have HDD := Lib.hid (dec28_any nn (by omega))
        clear hdl
        go_wp2_with (go_at_call 45; (with_reducible refine (HDD.out _).mono ?_); rintro e3 w3 ⟨rfl, hw3⟩; subst hw3)
        go_ret
        exact ⟨by rw [HBT.out]; simp, HB1.out⟩
set_option maxHeartbeats 8000000 in
theorem dprint_any {w : World} {B : Nat} {t : Rt} {c : List Value} (h : RdR w B t c) (W : World) (hW : Below B w W) (hB : B ≤ W.heap.size) :
    Calls Tryd.prog 12 #[.agg c.toArray] W fun e w' => e = .returned (.string (S8 (if t.right = true then Wm.shw t else []))) ∧ Below W.heap.size W w' := by
  have HRI := Lib.hid (fun V (hV : Below W.heap.size W V) => refright_all h V (hW.trans (hV.mono hB)) (Nat.le_trans hB (Below.size hV)))
  cases hr : t.right
  · rw [hr] at HRI
    rw [if_neg (by decide)]
    obtain ⟨k, n, key, val, kids, kA, kc, rfl, rfl⟩ := h.inv
    clear h hW hB hr
    simp only [rcs] at *
    go_enter Tryd.func12, Tryd.ntmps12
    go_wp2_with (go_at_call 15; (with_reducible refine (HRI.out _ ((Below.refl _ _).alloc (Nat.le_refl _) _)).mono ?_); rintro e1 w1 ⟨rfl, hb1⟩; have HB1 := Lib.hid hb1; clear hb1)
    go_ret
    exact ⟨rfl, ((Below.refl _ _).alloc (Nat.le_refl _) _).trans (HB1.out.mono (by simp))⟩
  · rw [hr] at HRI
    rw [if_pos rfl]
    have hri := t.right_iff.1 hr
    have hsm := shw_small t hri.2.2
    have HPU := Lib.hid (fun V (hV : Below W.heap.size W V) => show28 h V hri.2.2 (hW.trans (hV.mono hB)) (Nat.le_trans hB (Below.size hV)) (by omega))
    obtain ⟨k, n, key, val, kids, kA, kc, rfl, rfl⟩ := h.inv
    generalize Wm.shw (.mk k n key val kids) = X at *
    have hbx := heap_alloc_new W (.cells #[.int .i64 k, .int .i64 n, .string key, .string val, .slice kA kids.length kc] 24)
    have HBX := Lib.hid hbx
    clear h hW hB hr hri hsm hbx
    simp only [rcs] at *
    go_enter Tryd.func12, Tryd.ntmps12
    go_wp2_with (first
      | (have hd := done1; clear done1; go_at_call 24; (with_reducible refine (HPU.out _ HB1.out).mono ?_); rintro e2 w2 ⟨rfl, hb2⟩; have HB2 := Lib.hid (HB1.out.trans (hb2.mono HB1.out.size)); clear hb2)
      | (go_at_call 15; (with_reducible refine (HRI.out _ ((Below.refl _ _).alloc (Nat.le_refl _) _)).mono ?_); rintro e1 w1 ⟨rfl, hb1⟩; have HB1 := Lib.hid (((Below.refl W.heap.size W).alloc (Nat.le_refl _) _).trans (hb1.mono (by simp))); have hrw := (hb1.block _ (in_heap HBX.out)).trans HBX.out; have c0 : w1.cell? ⟨W.heap.size, 0, none⟩ = some (.int .i64 k) := cell_of_row _ _ 0 _ _ (0, 0) hrw; have c1 : w1.cell? ⟨W.heap.size, 1, none⟩ = some (.int .i64 n) := cell_of_row _ _ 1 _ _ (0, 0) hrw; have c2 : w1.cell? ⟨W.heap.size, 2, none⟩ = some (.string key) := cell_of_row _ _ 2 _ _ (0, 0) hrw; have c3 : w1.cell? ⟨W.heap.size, 3, none⟩ = some (.string val) := cell_of_row _ _ 3 _ _ (0, 0) hrw; have c4 : w1.cell? ⟨W.heap.size, 4, none⟩ = some (.slice kA kids.length kc) := cell_of_row _ _ 4 _ _ (0, 0) hrw; clear hb1 hrw; have done1 := trivial))
    go_ret
    exact ⟨rfl, HB2.out⟩
end Go.Proofs.YtgiahfjndononaaDoor
