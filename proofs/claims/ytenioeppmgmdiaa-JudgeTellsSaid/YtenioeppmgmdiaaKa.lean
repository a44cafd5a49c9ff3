/- Whether a policy keeps an episode: the code's walk, over any policy. -/
import Derived.Test.YtenioeppmgmdiaaRp
import Derived.Test.YtenioeppmgmdiaaRq
import Derived.Test.YtenioeppmgmdiaaJh
import Derived.Deep.RegionHeld3
import Derived.StillTailTactics
namespace Go.Proofs.Ytenioeppmgmdiaa
open Go.RowKit
set_option linter.unusedVariables false
set_option linter.unusedSimpArgs false
set_option maxRecDepth 100000

mutual
def Rt.keep (L : List Ls) (hh q : Int) : Rt → Bool
  | .mk k n key val kids => if (k == 1) = true then keepAll L hh q kids else if (k == 2) = true then keepAny L hh q kids else if (k == 3) = true then !(keepHd L hh q kids) else if (k == 7) = true then decide (n ≤ (L.length : Int)) else if (k == 8) = true then decide (hh < n) else if (k == 9) = true then decide (q < n) else L.any fun x => isS k n key val x.s
def keepAll (L : List Ls) (hh q : Int) : List Rt → Bool
  | [] => true
  | r :: rs => Rt.keep L hh q r && keepAll L hh q rs
def keepAny (L : List Ls) (hh q : Int) : List Rt → Bool
  | [] => false
  | r :: rs => Rt.keep L hh q r || keepAny L hh q rs
def keepHd (L : List Ls) (hh q : Int) : List Rt → Bool
  | [] => false
  | r :: _ => Rt.keep L hh q r
end
section
variable {L : List Ls} {hh q : Int} {l : List Rt} {j : Nat} {r : Rt}
theorem Rt.keep_mk (L : List Ls) (hh q k n : Int) (key val : ByteArray) (kids : List Rt) : Rt.keep L hh q (.mk k n key val kids) = if (k == 1) = true then keepAll L hh q kids else if (k == 2) = true then keepAny L hh q kids else if (k == 3) = true then !(keepHd L hh q kids) else if (k == 7) = true then decide (n ≤ (L.length : Int)) else if (k == 8) = true then decide (hh < n) else if (k == 9) = true then decide (q < n) else L.any fun x => isS k n key val x.s := by rw [Rt.keep]
theorem keepAll_iff : keepAll L hh q l = true ↔ ∀ r ∈ l, Rt.keep L hh q r = true := by
  induction l with
  | nil => simp [keepAll]
  | cons r l ih => rw [keepAll, Bool.and_eq_true, ih]; simp
theorem keepAny_iff : keepAny L hh q l = true ↔ ∃ r ∈ l, Rt.keep L hh q r = true := by
  induction l with
  | nil => simp [keepAny]
  | cons r l ih => rw [keepAny, Bool.or_eq_true, ih]; simp
theorem keepAll_hit (hr : l[j]? = some r) (h : Rt.keep L hh q r = false) : keepAll L hh q l = false := by
  cases hx : keepAll L hh q l
  · rfl
  · rw [keepAll_iff.1 hx r (List.mem_of_getElem? hr)] at h; cases h
theorem keepAny_hit (hr : l[j]? = some r) (h : Rt.keep L hh q r = true) : keepAny L hh q l = true := keepAny_iff.2 ⟨r, List.mem_of_getElem? hr, h⟩
theorem keepAll_end (h : ∀ r ∈ l, Rt.keep L hh q r = true) : keepAll L hh q l = true := keepAll_iff.2 h
theorem keepAny_end (h : ∀ r ∈ l, Rt.keep L hh q r = false) : keepAny L hh q l = false := by
  cases hx : keepAny L hh q l
  · rfl
  · obtain ⟨r, hr, hk⟩ := keepAny_iff.1 hx
    rw [h r hr] at hk; cases hk
theorem keepHd_at (hr : l[0]? = some r) : keepHd L hh q l = Rt.keep L hh q r := by
  cases l with
  | nil => cases hr
  | cons x l => simp at hr; subst hr; rw [keepHd]
theorem all_split {k n : Int} {key val : ByteArray} {kids : List Rt} (h : (Rt.mk k n key val kids).all = true) : oneR k n key val kids.length = true ∧ allL kids = true := by
  rw [Rt.all_mk, Bool.and_eq_true] at h
  exact h
theorem one_kinds {k n : Int} {key val : ByteArray} {m : Nat} (h : oneR k n key val m = true) : k = 1 ∨ k = 2 ∨ (k = 3 ∧ m = 1) ∨ k = 7 ∨ k = 8 ∨ k = 9 ∨ (k = 4 ∨ k = 5 ∨ k = 6) := by
  unfold oneR gok at h
  split at h
  · simp_all
  · simp only [Bool.and_eq_true] at h
    obtain ⟨_, _, h⟩ := h
    split at h
    · simp_all
    · split at h
      · simp_all
      · split at h
        · simp_all
          omega
        · split at h
          · simp_all
          · simp at h
            omega
theorem two_lay {w W : World} {B : Nat} (hW : Below B w W) (hB : B ≤ W.heap.size) : ∀ o o', Below B w ((W.alloc o).alloc o') ∧ B ≤ ((W.alloc o).alloc o').heap.size ∧ Below W.heap.size W ((W.alloc o).alloc o') := fun o o' => by
  have h : Below W.heap.size W ((W.alloc o).alloc o') := ((Below.refl _ _).alloc (Nat.le_refl _) _).alloc (by simp) _
  exact ⟨hW.trans (h.mono hB), Nat.le_trans hB h.size, h⟩
end

set_option maxHeartbeats 16000000 in
theorem keep_rec {w : World} {B : Nat} {t : Rt} {c : List Value} (h : RdR w B t c) (L : List Ls) (hi lo : Nat) (h1 : hi < 18446744073709551616) (h2 : lo < 18446744073709551616) (f la : Int) (su : Bool) (sA : Option Addr) (sn sc : Nat) (q : Int) (hsn : sn = L.length) (hL : RdSps w B sA L) (hsl : sn ≤ maxLen) (hh : Int) (hhh : hh = (hsh hi lo : Nat)) :
    ∀ (W : World), t.all = true → Below B w W → B ≤ W.heap.size →
    Calls Try.prog 34 #[.agg c.toArray, .agg #[.int .u64 hi, .int .u64 lo, .int .i64 f, .int .i64 la, .bool su, .slice sA sn sc], .int .i64 q] W fun e w' => e = .returned (.bool (Rt.keep L hh q t)) ∧ Below W.heap.size W w' := by
  have HHASH := Lib.hid (fun V => hash_any hi lo V h1 h2)
  rw [← hhh] at HHASH
  have HSN := Lib.hid hsn
  have HL := Lib.hid hL
  have hsl' := hsl
  simp only [maxLen] at hsl
  clear h1 h2 hhh hsn hL
  induction h with
  | mk k n key val kids kA kc cs g1 g2 g3 g4 g5 g6 hrow hkid ih =>
    intro W hall hW hBW
    have HSOME := Lib.hid (fun (k : Int) (hk : k = 4 ∨ k = 5 ∨ k = 6) V (hV : Below B w V) (hBV : B ≤ V.heap.size) => some_all sA L sn sc k n key val kA kids.length kc B V HSN.out (HL.out.below hV) hBV hsl' hk)
    obtain ⟨hone, hkall⟩ := all_split hall
    have HKA := Lib.hid hkall
    have hkinds := one_kinds hone
    have HROW := Lib.hid hrow
    have HKID := Lib.hid hkid
    have IH := Lib.hid ih
    have HW := Lib.hid hW
    have HBW := Lib.hid hBW
    have HMD := Lib.hid (Rt.keep_mk L hh q k n key val kids)
    generalize Rt.keep L hh q (.mk k n key val kids) = kp at *
    obtain ⟨m, hm⟩ : ∃ m, kids.length = m := ⟨_, rfl⟩
    have HQ := Lib.hid hm
    simp only [rcs, hm] at HSOME hkinds ⊢
    rw [hm] at g5
    simp only [maxLen] at g6
    clear hall hone hkall hrow hkid ih hW hBW hm g1 g2 g3 g4 hsl'
    rcases hkinds with rfl | rfl | ⟨rfl, rfl⟩ | rfl | rfl | rfl | hk456
    · go_enter Try.func34, Try.ntmps34
      go_wp2_with fail
      have hBX := ((Below.refl W.heap.size W).alloc (Nat.le_refl _) (.cells #[.int .i64 1, .int .i64 n, .string key, .string val, .slice kA m kc] 24)).alloc (by simp) (.cells #[.int .u64 hi, .int .u64 lo, .int .i64 f, .int .i64 la, .bool su, .slice sA sn sc] 30)
      have hz1 : (W.alloc (.cells #[.int .i64 1, .int .i64 n, .string key, .string val, .slice kA m kc] 24)).heap.size = W.heap.size + 1 := by simp
      have q0 := heap_alloc_new W (.cells #[.int .i64 1, .int .i64 n, .string key, .string val, .slice kA m kc] 24)
      have q1 := heap_alloc_new (W.alloc (.cells #[.int .i64 1, .int .i64 n, .string key, .string val, .slice kA m kc] 24)) (.cells #[.int .u64 hi, .int .u64 lo, .int .i64 f, .int .i64 la, .bool su, .slice sA sn sc] 30)
      have hz2 : ((W.alloc (.cells #[.int .i64 1, .int .i64 n, .string key, .string val, .slice kA m kc] 24)).alloc (.cells #[.int .u64 hi, .int .u64 lo, .int .i64 f, .int .i64 la, .bool su, .slice sA sn sc] 30)).heap.size = W.heap.size + 2 := by simp
      rw [hz1] at q1
      have r0 : ((W.alloc (.cells #[.int .i64 1, .int .i64 n, .string key, .string val, .slice kA m kc] 24)).alloc (.cells #[.int .u64 hi, .int .u64 lo, .int .i64 f, .int .i64 la, .bool su, .slice sA sn sc] 30)).cell? ⟨W.heap.size, 0, none⟩ = some (.int .i64 1) := (World.cell?_alloc_lt _ _ ⟨W.heap.size, 0, none⟩ (by simp)).trans (cell_of_row _ _ 0 _ _ (0, 0) q0)
      have r1 : ((W.alloc (.cells #[.int .i64 1, .int .i64 n, .string key, .string val, .slice kA m kc] 24)).alloc (.cells #[.int .u64 hi, .int .u64 lo, .int .i64 f, .int .i64 la, .bool su, .slice sA sn sc] 30)).cell? ⟨W.heap.size, 1, none⟩ = some (.int .i64 n) := (World.cell?_alloc_lt _ _ ⟨W.heap.size, 1, none⟩ (by simp)).trans (cell_of_row _ _ 1 _ _ (0, 0) q0)
      have r2 : ((W.alloc (.cells #[.int .i64 1, .int .i64 n, .string key, .string val, .slice kA m kc] 24)).alloc (.cells #[.int .u64 hi, .int .u64 lo, .int .i64 f, .int .i64 la, .bool su, .slice sA sn sc] 30)).cell? ⟨W.heap.size, 2, none⟩ = some (.string key) := (World.cell?_alloc_lt _ _ ⟨W.heap.size, 2, none⟩ (by simp)).trans (cell_of_row _ _ 2 _ _ (0, 0) q0)
      have r3 : ((W.alloc (.cells #[.int .i64 1, .int .i64 n, .string key, .string val, .slice kA m kc] 24)).alloc (.cells #[.int .u64 hi, .int .u64 lo, .int .i64 f, .int .i64 la, .bool su, .slice sA sn sc] 30)).cell? ⟨W.heap.size, 3, none⟩ = some (.string val) := (World.cell?_alloc_lt _ _ ⟨W.heap.size, 3, none⟩ (by simp)).trans (cell_of_row _ _ 3 _ _ (0, 0) q0)
      have r4 : ((W.alloc (.cells #[.int .i64 1, .int .i64 n, .string key, .string val, .slice kA m kc] 24)).alloc (.cells #[.int .u64 hi, .int .u64 lo, .int .i64 f, .int .i64 la, .bool su, .slice sA sn sc] 30)).cell? ⟨W.heap.size, 4, none⟩ = some (.slice kA m kc) := (World.cell?_alloc_lt _ _ ⟨W.heap.size, 4, none⟩ (by simp)).trans (cell_of_row _ _ 4 _ _ (0, 0) q0)
      have e0 : ((W.alloc (.cells #[.int .i64 1, .int .i64 n, .string key, .string val, .slice kA m kc] 24)).alloc (.cells #[.int .u64 hi, .int .u64 lo, .int .i64 f, .int .i64 la, .bool su, .slice sA sn sc] 30)).cell? ⟨W.heap.size + 1, 0, none⟩ = some (.int .u64 (hi : Int)) := cell_of_row _ _ 0 _ _ (0, 0) q1
      have e1 : ((W.alloc (.cells #[.int .i64 1, .int .i64 n, .string key, .string val, .slice kA m kc] 24)).alloc (.cells #[.int .u64 hi, .int .u64 lo, .int .i64 f, .int .i64 la, .bool su, .slice sA sn sc] 30)).cell? ⟨W.heap.size + 1, 1, none⟩ = some (.int .u64 (lo : Int)) := cell_of_row _ _ 1 _ _ (0, 0) q1
      have e2 : ((W.alloc (.cells #[.int .i64 1, .int .i64 n, .string key, .string val, .slice kA m kc] 24)).alloc (.cells #[.int .u64 hi, .int .u64 lo, .int .i64 f, .int .i64 la, .bool su, .slice sA sn sc] 30)).cell? ⟨W.heap.size + 1, 2, none⟩ = some (.int .i64 f) := cell_of_row _ _ 2 _ _ (0, 0) q1
      have e3 : ((W.alloc (.cells #[.int .i64 1, .int .i64 n, .string key, .string val, .slice kA m kc] 24)).alloc (.cells #[.int .u64 hi, .int .u64 lo, .int .i64 f, .int .i64 la, .bool su, .slice sA sn sc] 30)).cell? ⟨W.heap.size + 1, 3, none⟩ = some (.int .i64 la) := cell_of_row _ _ 3 _ _ (0, 0) q1
      have e4 : ((W.alloc (.cells #[.int .i64 1, .int .i64 n, .string key, .string val, .slice kA m kc] 24)).alloc (.cells #[.int .u64 hi, .int .u64 lo, .int .i64 f, .int .i64 la, .bool su, .slice sA sn sc] 30)).cell? ⟨W.heap.size + 1, 4, none⟩ = some (.bool su) := cell_of_row _ _ 4 _ _ (0, 0) q1
      have e5 : ((W.alloc (.cells #[.int .i64 1, .int .i64 n, .string key, .string val, .slice kA m kc] 24)).alloc (.cells #[.int .u64 hi, .int .u64 lo, .int .i64 f, .int .i64 la, .bool su, .slice sA sn sc] 30)).cell? ⟨W.heap.size + 1, 5, none⟩ = some (.slice sA sn sc) := cell_of_row _ _ 5 _ _ (0, 0) q1
      generalize hWX : (W.alloc (.cells #[.int .i64 1, .int .i64 n, .string key, .string val, .slice kA m kc] 24)).alloc (.cells #[.int .u64 hi, .int .u64 lo, .int .i64 f, .int .i64 la, .bool su, .slice sA sn sc] 30) = WX at *
      generalize hB0 : W.heap.size = B0 at *
      have HB0 := Lib.hid hB0
      have hb1 : B0 + 1 < WX.heap.size := by omega
      have hb0 : B0 < WX.heap.size := by omega
      have HS := Lib.hid (show ∀ V, Below WX.heap.size WX V → (V.cell? ⟨B0, 0, none⟩ = some (.int .i64 1) ∧ V.cell? ⟨B0, 1, none⟩ = some (.int .i64 n) ∧ V.cell? ⟨B0, 2, none⟩ = some (.string key) ∧ V.cell? ⟨B0, 3, none⟩ = some (.string val) ∧ V.cell? ⟨B0, 4, none⟩ = some (.slice kA m kc) ∧ V.cell? ⟨B0 + 1, 0, none⟩ = some (.int .u64 (hi : Int)) ∧ V.cell? ⟨B0 + 1, 1, none⟩ = some (.int .u64 (lo : Int)) ∧ V.cell? ⟨B0 + 1, 2, none⟩ = some (.int .i64 f) ∧ V.cell? ⟨B0 + 1, 3, none⟩ = some (.int .i64 la) ∧ V.cell? ⟨B0 + 1, 4, none⟩ = some (.bool su) ∧ V.cell? ⟨B0 + 1, 5, none⟩ = some (.slice sA sn sc)) ∧ Below B0 W V ∧ B0 + 2 ≤ V.heap.size from fun V hV => ⟨⟨(hV.cell (p := ⟨B0, 0, none⟩) hb0).trans r0, (hV.cell (p := ⟨B0, 1, none⟩) hb0).trans r1, (hV.cell (p := ⟨B0, 2, none⟩) hb0).trans r2, (hV.cell (p := ⟨B0, 3, none⟩) hb0).trans r3, (hV.cell (p := ⟨B0, 4, none⟩) hb0).trans r4, (hV.cell (p := ⟨B0 + 1, 0, none⟩) hb1).trans e0, (hV.cell (p := ⟨B0 + 1, 1, none⟩) hb1).trans e1, (hV.cell (p := ⟨B0 + 1, 2, none⟩) hb1).trans e2, (hV.cell (p := ⟨B0 + 1, 3, none⟩) hb1).trans e3, (hV.cell (p := ⟨B0 + 1, 4, none⟩) hb1).trans e4, (hV.cell (p := ⟨B0 + 1, 5, none⟩) hb1).trans e5⟩, hBX.trans (hV.mono (by omega)), Nat.le_trans (by omega) hV.size⟩)
      clear hWX hz1 q0 q1 hB0

      go_loopw [18] (fun i wr => ∃ (j : Nat), i = .int .i64 (j : Int) ∧ j ≤ m ∧ Hid (∀ r ∈ kids.take j, Rt.keep L hh q r = true) ∧ Hid (Below WX.heap.size WX wr)) (fun i _ => m - (intOf i).toNat)
      case atStart => exact ⟨0, rfl, by omega, Lib.hid (by simp), Lib.hid (Below.refl _ _)⟩
      case round =>
        clear r0 r1 r2 r3 r4 e0 e1 e2 e3 e4 e5
        obtain ⟨j, rfl, hj, HY, HBB⟩ := hrel
        obtain ⟨⟨r0, r1, r2, r3, r4, e0, e1, e2, e3, e4, e5⟩, hb, hzr⟩ := HS.out wr HBB.out
        have HB := Lib.hid hb
        clear hb
        by_cases hlt : j < m
        · obtain ⟨r, hr⟩ : ∃ r, kids[j]? = some r := ⟨_, List.getElem?_eq_getElem (by rw [HQ.out]; exact hlt)⟩
          have hww : Below B w wr := HW.out.trans (HB.out.mono HBW.out)
          obtain ⟨a, k', n', key', val', A', q', qc', ha, hab, hrr, ec, c0, c1, c2, c3, c4⟩ := kid_cells (HROW.out.keep fun _ hp => hww.cell hp) (fun i r h => (HKID.out i r h).low hww) hr
          have hBwr : B ≤ wr.heap.size := Nat.le_trans HBW.out (by omega)
          have I := fun V (hV : Below wr.heap.size wr V) => IH.out j r hr V ((allL_iff kids).1 HKA.out r (List.mem_of_getElem? hr)) (hww.trans (hV.mono hBwr)) (Nat.le_trans hBwr hV.size)
          rw [ec] at I
          simp only [rcs] at I
          have HI := Lib.hid I
          have HR := Lib.hid hr
          subst ha
          have hab2 : a.block < wr.heap.size := by omega
          have hab3 : a.block ≠ wr.heap.size := by omega
          have hz3 : B0 < wr.heap.size := by omega
          have hz4 : B0 + 1 < wr.heap.size := by omega
          have hz5 : B0 ≠ wr.heap.size := by omega
          have hz6 : B0 + 1 ≠ wr.heap.size := by omega
          have HBA := Lib.hid (show ∀ o, Below wr.heap.size wr (wr.alloc o) from fun o => (Below.refl _ _).alloc (Nat.le_refl _) o)
          clear I hr hww hrr ec hBwr hab
          generalize hz : Rt.keep L hh q r = z at HI
          have HZ := Lib.hid hz
          clear hz
          cases z
          · go_wp2_with (go_at_call 34; (with_reducible refine (HI.out _ (HBA.out _)).mono ?_); rintro e w2 ⟨rfl, hb2⟩; have HB2 := Lib.hid ((HBA.out _).trans (hb2.mono (HBA.out _).size)); clear hb2)
            go_ret
            exact ⟨by rw [HMD.out]; simp [keepAll_hit HR.out HZ.out], by rw [HB0.out]; exact HB.out.trans (HB2.out.mono (by omega))⟩
          · go_wp2_with (go_at_call 34; (with_reducible refine (HI.out _ (HBA.out _)).mono ?_); rintro e w2 ⟨rfl, hb2⟩; have HB2 := Lib.hid ((HBA.out _).trans (hb2.mono (HBA.out _).size)); clear hb2)
            go_roundw
            case rel => exact ⟨j + 1, by go_num, by omega, Lib.hid (mem_take_succ HR.out HY.out HZ.out), Lib.hid (HBB.out.trans (HB2.out.mono HBB.out.size))⟩
            case measure => simp [intOf]; omega
        · obtain rfl : j = m := by omega
          have HF := Lib.hid (keepAll_end (L := L) (hh := hh) (q := q) (l := kids) (by
            have hy := HY.out
            rwa [List.take_of_length_le (by rw [HQ.out]; exact Nat.le_refl _)] at hy))
          go_wp2_with fail
          go_ret
          exact ⟨by rw [HMD.out]; simp [HF.out], by rw [HB0.out]; exact HB.out⟩
    · go_enter Try.func34, Try.ntmps34
      go_wp2_with fail
      have hBX := ((Below.refl W.heap.size W).alloc (Nat.le_refl _) (.cells #[.int .i64 2, .int .i64 n, .string key, .string val, .slice kA m kc] 24)).alloc (by simp) (.cells #[.int .u64 hi, .int .u64 lo, .int .i64 f, .int .i64 la, .bool su, .slice sA sn sc] 30)
      have hz1 : (W.alloc (.cells #[.int .i64 2, .int .i64 n, .string key, .string val, .slice kA m kc] 24)).heap.size = W.heap.size + 1 := by simp
      have q0 := heap_alloc_new W (.cells #[.int .i64 2, .int .i64 n, .string key, .string val, .slice kA m kc] 24)
      have q1 := heap_alloc_new (W.alloc (.cells #[.int .i64 2, .int .i64 n, .string key, .string val, .slice kA m kc] 24)) (.cells #[.int .u64 hi, .int .u64 lo, .int .i64 f, .int .i64 la, .bool su, .slice sA sn sc] 30)
      have hz2 : ((W.alloc (.cells #[.int .i64 2, .int .i64 n, .string key, .string val, .slice kA m kc] 24)).alloc (.cells #[.int .u64 hi, .int .u64 lo, .int .i64 f, .int .i64 la, .bool su, .slice sA sn sc] 30)).heap.size = W.heap.size + 2 := by simp
      rw [hz1] at q1
      have r0 : ((W.alloc (.cells #[.int .i64 2, .int .i64 n, .string key, .string val, .slice kA m kc] 24)).alloc (.cells #[.int .u64 hi, .int .u64 lo, .int .i64 f, .int .i64 la, .bool su, .slice sA sn sc] 30)).cell? ⟨W.heap.size, 0, none⟩ = some (.int .i64 2) := (World.cell?_alloc_lt _ _ ⟨W.heap.size, 0, none⟩ (by simp)).trans (cell_of_row _ _ 0 _ _ (0, 0) q0)
      have r1 : ((W.alloc (.cells #[.int .i64 2, .int .i64 n, .string key, .string val, .slice kA m kc] 24)).alloc (.cells #[.int .u64 hi, .int .u64 lo, .int .i64 f, .int .i64 la, .bool su, .slice sA sn sc] 30)).cell? ⟨W.heap.size, 1, none⟩ = some (.int .i64 n) := (World.cell?_alloc_lt _ _ ⟨W.heap.size, 1, none⟩ (by simp)).trans (cell_of_row _ _ 1 _ _ (0, 0) q0)
      have r2 : ((W.alloc (.cells #[.int .i64 2, .int .i64 n, .string key, .string val, .slice kA m kc] 24)).alloc (.cells #[.int .u64 hi, .int .u64 lo, .int .i64 f, .int .i64 la, .bool su, .slice sA sn sc] 30)).cell? ⟨W.heap.size, 2, none⟩ = some (.string key) := (World.cell?_alloc_lt _ _ ⟨W.heap.size, 2, none⟩ (by simp)).trans (cell_of_row _ _ 2 _ _ (0, 0) q0)
      have r3 : ((W.alloc (.cells #[.int .i64 2, .int .i64 n, .string key, .string val, .slice kA m kc] 24)).alloc (.cells #[.int .u64 hi, .int .u64 lo, .int .i64 f, .int .i64 la, .bool su, .slice sA sn sc] 30)).cell? ⟨W.heap.size, 3, none⟩ = some (.string val) := (World.cell?_alloc_lt _ _ ⟨W.heap.size, 3, none⟩ (by simp)).trans (cell_of_row _ _ 3 _ _ (0, 0) q0)
      have r4 : ((W.alloc (.cells #[.int .i64 2, .int .i64 n, .string key, .string val, .slice kA m kc] 24)).alloc (.cells #[.int .u64 hi, .int .u64 lo, .int .i64 f, .int .i64 la, .bool su, .slice sA sn sc] 30)).cell? ⟨W.heap.size, 4, none⟩ = some (.slice kA m kc) := (World.cell?_alloc_lt _ _ ⟨W.heap.size, 4, none⟩ (by simp)).trans (cell_of_row _ _ 4 _ _ (0, 0) q0)
      have e0 : ((W.alloc (.cells #[.int .i64 2, .int .i64 n, .string key, .string val, .slice kA m kc] 24)).alloc (.cells #[.int .u64 hi, .int .u64 lo, .int .i64 f, .int .i64 la, .bool su, .slice sA sn sc] 30)).cell? ⟨W.heap.size + 1, 0, none⟩ = some (.int .u64 (hi : Int)) := cell_of_row _ _ 0 _ _ (0, 0) q1
      have e1 : ((W.alloc (.cells #[.int .i64 2, .int .i64 n, .string key, .string val, .slice kA m kc] 24)).alloc (.cells #[.int .u64 hi, .int .u64 lo, .int .i64 f, .int .i64 la, .bool su, .slice sA sn sc] 30)).cell? ⟨W.heap.size + 1, 1, none⟩ = some (.int .u64 (lo : Int)) := cell_of_row _ _ 1 _ _ (0, 0) q1
      have e2 : ((W.alloc (.cells #[.int .i64 2, .int .i64 n, .string key, .string val, .slice kA m kc] 24)).alloc (.cells #[.int .u64 hi, .int .u64 lo, .int .i64 f, .int .i64 la, .bool su, .slice sA sn sc] 30)).cell? ⟨W.heap.size + 1, 2, none⟩ = some (.int .i64 f) := cell_of_row _ _ 2 _ _ (0, 0) q1
      have e3 : ((W.alloc (.cells #[.int .i64 2, .int .i64 n, .string key, .string val, .slice kA m kc] 24)).alloc (.cells #[.int .u64 hi, .int .u64 lo, .int .i64 f, .int .i64 la, .bool su, .slice sA sn sc] 30)).cell? ⟨W.heap.size + 1, 3, none⟩ = some (.int .i64 la) := cell_of_row _ _ 3 _ _ (0, 0) q1
      have e4 : ((W.alloc (.cells #[.int .i64 2, .int .i64 n, .string key, .string val, .slice kA m kc] 24)).alloc (.cells #[.int .u64 hi, .int .u64 lo, .int .i64 f, .int .i64 la, .bool su, .slice sA sn sc] 30)).cell? ⟨W.heap.size + 1, 4, none⟩ = some (.bool su) := cell_of_row _ _ 4 _ _ (0, 0) q1
      have e5 : ((W.alloc (.cells #[.int .i64 2, .int .i64 n, .string key, .string val, .slice kA m kc] 24)).alloc (.cells #[.int .u64 hi, .int .u64 lo, .int .i64 f, .int .i64 la, .bool su, .slice sA sn sc] 30)).cell? ⟨W.heap.size + 1, 5, none⟩ = some (.slice sA sn sc) := cell_of_row _ _ 5 _ _ (0, 0) q1
      generalize hWX : (W.alloc (.cells #[.int .i64 2, .int .i64 n, .string key, .string val, .slice kA m kc] 24)).alloc (.cells #[.int .u64 hi, .int .u64 lo, .int .i64 f, .int .i64 la, .bool su, .slice sA sn sc] 30) = WX at *
      generalize hB0 : W.heap.size = B0 at *
      have HB0 := Lib.hid hB0
      have hb1 : B0 + 1 < WX.heap.size := by omega
      have hb0 : B0 < WX.heap.size := by omega
      have HS := Lib.hid (show ∀ V, Below WX.heap.size WX V → (V.cell? ⟨B0, 0, none⟩ = some (.int .i64 2) ∧ V.cell? ⟨B0, 1, none⟩ = some (.int .i64 n) ∧ V.cell? ⟨B0, 2, none⟩ = some (.string key) ∧ V.cell? ⟨B0, 3, none⟩ = some (.string val) ∧ V.cell? ⟨B0, 4, none⟩ = some (.slice kA m kc) ∧ V.cell? ⟨B0 + 1, 0, none⟩ = some (.int .u64 (hi : Int)) ∧ V.cell? ⟨B0 + 1, 1, none⟩ = some (.int .u64 (lo : Int)) ∧ V.cell? ⟨B0 + 1, 2, none⟩ = some (.int .i64 f) ∧ V.cell? ⟨B0 + 1, 3, none⟩ = some (.int .i64 la) ∧ V.cell? ⟨B0 + 1, 4, none⟩ = some (.bool su) ∧ V.cell? ⟨B0 + 1, 5, none⟩ = some (.slice sA sn sc)) ∧ Below B0 W V ∧ B0 + 2 ≤ V.heap.size from fun V hV => ⟨⟨(hV.cell (p := ⟨B0, 0, none⟩) hb0).trans r0, (hV.cell (p := ⟨B0, 1, none⟩) hb0).trans r1, (hV.cell (p := ⟨B0, 2, none⟩) hb0).trans r2, (hV.cell (p := ⟨B0, 3, none⟩) hb0).trans r3, (hV.cell (p := ⟨B0, 4, none⟩) hb0).trans r4, (hV.cell (p := ⟨B0 + 1, 0, none⟩) hb1).trans e0, (hV.cell (p := ⟨B0 + 1, 1, none⟩) hb1).trans e1, (hV.cell (p := ⟨B0 + 1, 2, none⟩) hb1).trans e2, (hV.cell (p := ⟨B0 + 1, 3, none⟩) hb1).trans e3, (hV.cell (p := ⟨B0 + 1, 4, none⟩) hb1).trans e4, (hV.cell (p := ⟨B0 + 1, 5, none⟩) hb1).trans e5⟩, hBX.trans (hV.mono (by omega)), Nat.le_trans (by omega) hV.size⟩)
      clear hWX hz1 q0 q1 hB0

      go_loopw [33] (fun i wr => ∃ (j : Nat), i = .int .i64 (j : Int) ∧ j ≤ m ∧ Hid (∀ r ∈ kids.take j, Rt.keep L hh q r = false) ∧ Hid (Below WX.heap.size WX wr)) (fun i _ => m - (intOf i).toNat)
      case atStart => exact ⟨0, rfl, by omega, Lib.hid (by simp), Lib.hid (Below.refl _ _)⟩
      case round =>
        clear r0 r1 r2 r3 r4 e0 e1 e2 e3 e4 e5
        obtain ⟨j, rfl, hj, HY, HBB⟩ := hrel
        obtain ⟨⟨r0, r1, r2, r3, r4, e0, e1, e2, e3, e4, e5⟩, hb, hzr⟩ := HS.out wr HBB.out
        have HB := Lib.hid hb
        clear hb
        by_cases hlt : j < m
        · obtain ⟨r, hr⟩ : ∃ r, kids[j]? = some r := ⟨_, List.getElem?_eq_getElem (by rw [HQ.out]; exact hlt)⟩
          have hww : Below B w wr := HW.out.trans (HB.out.mono HBW.out)
          obtain ⟨a, k', n', key', val', A', q', qc', ha, hab, hrr, ec, c0, c1, c2, c3, c4⟩ := kid_cells (HROW.out.keep fun _ hp => hww.cell hp) (fun i r h => (HKID.out i r h).low hww) hr
          have hBwr : B ≤ wr.heap.size := Nat.le_trans HBW.out (by omega)
          have I := fun V (hV : Below wr.heap.size wr V) => IH.out j r hr V ((allL_iff kids).1 HKA.out r (List.mem_of_getElem? hr)) (hww.trans (hV.mono hBwr)) (Nat.le_trans hBwr hV.size)
          rw [ec] at I
          simp only [rcs] at I
          have HI := Lib.hid I
          have HR := Lib.hid hr
          subst ha
          have hab2 : a.block < wr.heap.size := by omega
          have hab3 : a.block ≠ wr.heap.size := by omega
          have hz3 : B0 < wr.heap.size := by omega
          have hz4 : B0 + 1 < wr.heap.size := by omega
          have hz5 : B0 ≠ wr.heap.size := by omega
          have hz6 : B0 + 1 ≠ wr.heap.size := by omega
          have HBA := Lib.hid (show ∀ o, Below wr.heap.size wr (wr.alloc o) from fun o => (Below.refl _ _).alloc (Nat.le_refl _) o)
          clear I hr hww hrr ec hBwr hab
          generalize hz : Rt.keep L hh q r = z at HI
          have HZ := Lib.hid hz
          clear hz
          cases z
          · go_wp2_with (go_at_call 34; (with_reducible refine (HI.out _ (HBA.out _)).mono ?_); rintro e w2 ⟨rfl, hb2⟩; have HB2 := Lib.hid ((HBA.out _).trans (hb2.mono (HBA.out _).size)); clear hb2)
            go_roundw
            case rel => exact ⟨j + 1, by go_num, by omega, Lib.hid (mem_take_succ HR.out HY.out HZ.out), Lib.hid (HBB.out.trans (HB2.out.mono HBB.out.size))⟩
            case measure => simp [intOf]; omega
          · go_wp2_with (go_at_call 34; (with_reducible refine (HI.out _ (HBA.out _)).mono ?_); rintro e w2 ⟨rfl, hb2⟩; have HB2 := Lib.hid ((HBA.out _).trans (hb2.mono (HBA.out _).size)); clear hb2)
            go_ret
            exact ⟨by rw [HMD.out]; simp [keepAny_hit HR.out HZ.out], by rw [HB0.out]; exact HB.out.trans (HB2.out.mono (by omega))⟩
        · obtain rfl : j = m := by omega
          have HF := Lib.hid (keepAny_end (L := L) (hh := hh) (q := q) (l := kids) (by
            have hy := HY.out
            rwa [List.take_of_length_le (by rw [HQ.out]; exact Nat.le_refl _)] at hy))
          go_wp2_with fail
          go_ret
          exact ⟨by rw [HMD.out]; simp [HF.out], by rw [HB0.out]; exact HB.out⟩
    · obtain ⟨r, hr⟩ : ∃ r, kids[0]? = some r := ⟨_, List.getElem?_eq_getElem (by rw [HQ.out]; omega)⟩
      have HHD := Lib.hid (keepHd_at (L := L) (hh := hh) (q := q) hr)
      go_enter Try.func34, Try.ntmps34
      go_wp2_with fail
      have hBX := ((Below.refl W.heap.size W).alloc (Nat.le_refl _) (.cells #[.int .i64 3, .int .i64 n, .string key, .string val, .slice kA 1 kc] 24)).alloc (by simp) (.cells #[.int .u64 hi, .int .u64 lo, .int .i64 f, .int .i64 la, .bool su, .slice sA sn sc] 30)
      have hz1 : (W.alloc (.cells #[.int .i64 3, .int .i64 n, .string key, .string val, .slice kA 1 kc] 24)).heap.size = W.heap.size + 1 := by simp
      have q0 := heap_alloc_new W (.cells #[.int .i64 3, .int .i64 n, .string key, .string val, .slice kA 1 kc] 24)
      have q1 := heap_alloc_new (W.alloc (.cells #[.int .i64 3, .int .i64 n, .string key, .string val, .slice kA 1 kc] 24)) (.cells #[.int .u64 hi, .int .u64 lo, .int .i64 f, .int .i64 la, .bool su, .slice sA sn sc] 30)
      have hz2 : ((W.alloc (.cells #[.int .i64 3, .int .i64 n, .string key, .string val, .slice kA 1 kc] 24)).alloc (.cells #[.int .u64 hi, .int .u64 lo, .int .i64 f, .int .i64 la, .bool su, .slice sA sn sc] 30)).heap.size = W.heap.size + 2 := by simp
      rw [hz1] at q1
      have r0 : ((W.alloc (.cells #[.int .i64 3, .int .i64 n, .string key, .string val, .slice kA 1 kc] 24)).alloc (.cells #[.int .u64 hi, .int .u64 lo, .int .i64 f, .int .i64 la, .bool su, .slice sA sn sc] 30)).cell? ⟨W.heap.size, 0, none⟩ = some (.int .i64 3) := (World.cell?_alloc_lt _ _ ⟨W.heap.size, 0, none⟩ (by simp)).trans (cell_of_row _ _ 0 _ _ (0, 0) q0)
      have r1 : ((W.alloc (.cells #[.int .i64 3, .int .i64 n, .string key, .string val, .slice kA 1 kc] 24)).alloc (.cells #[.int .u64 hi, .int .u64 lo, .int .i64 f, .int .i64 la, .bool su, .slice sA sn sc] 30)).cell? ⟨W.heap.size, 1, none⟩ = some (.int .i64 n) := (World.cell?_alloc_lt _ _ ⟨W.heap.size, 1, none⟩ (by simp)).trans (cell_of_row _ _ 1 _ _ (0, 0) q0)
      have r2 : ((W.alloc (.cells #[.int .i64 3, .int .i64 n, .string key, .string val, .slice kA 1 kc] 24)).alloc (.cells #[.int .u64 hi, .int .u64 lo, .int .i64 f, .int .i64 la, .bool su, .slice sA sn sc] 30)).cell? ⟨W.heap.size, 2, none⟩ = some (.string key) := (World.cell?_alloc_lt _ _ ⟨W.heap.size, 2, none⟩ (by simp)).trans (cell_of_row _ _ 2 _ _ (0, 0) q0)
      have r3 : ((W.alloc (.cells #[.int .i64 3, .int .i64 n, .string key, .string val, .slice kA 1 kc] 24)).alloc (.cells #[.int .u64 hi, .int .u64 lo, .int .i64 f, .int .i64 la, .bool su, .slice sA sn sc] 30)).cell? ⟨W.heap.size, 3, none⟩ = some (.string val) := (World.cell?_alloc_lt _ _ ⟨W.heap.size, 3, none⟩ (by simp)).trans (cell_of_row _ _ 3 _ _ (0, 0) q0)
      have r4 : ((W.alloc (.cells #[.int .i64 3, .int .i64 n, .string key, .string val, .slice kA 1 kc] 24)).alloc (.cells #[.int .u64 hi, .int .u64 lo, .int .i64 f, .int .i64 la, .bool su, .slice sA sn sc] 30)).cell? ⟨W.heap.size, 4, none⟩ = some (.slice kA 1 kc) := (World.cell?_alloc_lt _ _ ⟨W.heap.size, 4, none⟩ (by simp)).trans (cell_of_row _ _ 4 _ _ (0, 0) q0)
      have e0 : ((W.alloc (.cells #[.int .i64 3, .int .i64 n, .string key, .string val, .slice kA 1 kc] 24)).alloc (.cells #[.int .u64 hi, .int .u64 lo, .int .i64 f, .int .i64 la, .bool su, .slice sA sn sc] 30)).cell? ⟨W.heap.size + 1, 0, none⟩ = some (.int .u64 (hi : Int)) := cell_of_row _ _ 0 _ _ (0, 0) q1
      have e1 : ((W.alloc (.cells #[.int .i64 3, .int .i64 n, .string key, .string val, .slice kA 1 kc] 24)).alloc (.cells #[.int .u64 hi, .int .u64 lo, .int .i64 f, .int .i64 la, .bool su, .slice sA sn sc] 30)).cell? ⟨W.heap.size + 1, 1, none⟩ = some (.int .u64 (lo : Int)) := cell_of_row _ _ 1 _ _ (0, 0) q1
      have e2 : ((W.alloc (.cells #[.int .i64 3, .int .i64 n, .string key, .string val, .slice kA 1 kc] 24)).alloc (.cells #[.int .u64 hi, .int .u64 lo, .int .i64 f, .int .i64 la, .bool su, .slice sA sn sc] 30)).cell? ⟨W.heap.size + 1, 2, none⟩ = some (.int .i64 f) := cell_of_row _ _ 2 _ _ (0, 0) q1
      have e3 : ((W.alloc (.cells #[.int .i64 3, .int .i64 n, .string key, .string val, .slice kA 1 kc] 24)).alloc (.cells #[.int .u64 hi, .int .u64 lo, .int .i64 f, .int .i64 la, .bool su, .slice sA sn sc] 30)).cell? ⟨W.heap.size + 1, 3, none⟩ = some (.int .i64 la) := cell_of_row _ _ 3 _ _ (0, 0) q1
      have e4 : ((W.alloc (.cells #[.int .i64 3, .int .i64 n, .string key, .string val, .slice kA 1 kc] 24)).alloc (.cells #[.int .u64 hi, .int .u64 lo, .int .i64 f, .int .i64 la, .bool su, .slice sA sn sc] 30)).cell? ⟨W.heap.size + 1, 4, none⟩ = some (.bool su) := cell_of_row _ _ 4 _ _ (0, 0) q1
      have e5 : ((W.alloc (.cells #[.int .i64 3, .int .i64 n, .string key, .string val, .slice kA 1 kc] 24)).alloc (.cells #[.int .u64 hi, .int .u64 lo, .int .i64 f, .int .i64 la, .bool su, .slice sA sn sc] 30)).cell? ⟨W.heap.size + 1, 5, none⟩ = some (.slice sA sn sc) := cell_of_row _ _ 5 _ _ (0, 0) q1
      generalize hWX : (W.alloc (.cells #[.int .i64 3, .int .i64 n, .string key, .string val, .slice kA 1 kc] 24)).alloc (.cells #[.int .u64 hi, .int .u64 lo, .int .i64 f, .int .i64 la, .bool su, .slice sA sn sc] 30) = WX at *
      generalize hB0 : W.heap.size = B0 at *
      have HB0 := Lib.hid hB0
      have hb1 : B0 + 1 < WX.heap.size := by omega
      have hb0 : B0 < WX.heap.size := by omega
      have HS := Lib.hid (show ∀ V, Below WX.heap.size WX V → (V.cell? ⟨B0, 0, none⟩ = some (.int .i64 3) ∧ V.cell? ⟨B0, 1, none⟩ = some (.int .i64 n) ∧ V.cell? ⟨B0, 2, none⟩ = some (.string key) ∧ V.cell? ⟨B0, 3, none⟩ = some (.string val) ∧ V.cell? ⟨B0, 4, none⟩ = some (.slice kA 1 kc) ∧ V.cell? ⟨B0 + 1, 0, none⟩ = some (.int .u64 (hi : Int)) ∧ V.cell? ⟨B0 + 1, 1, none⟩ = some (.int .u64 (lo : Int)) ∧ V.cell? ⟨B0 + 1, 2, none⟩ = some (.int .i64 f) ∧ V.cell? ⟨B0 + 1, 3, none⟩ = some (.int .i64 la) ∧ V.cell? ⟨B0 + 1, 4, none⟩ = some (.bool su) ∧ V.cell? ⟨B0 + 1, 5, none⟩ = some (.slice sA sn sc)) ∧ Below B0 W V ∧ B0 + 2 ≤ V.heap.size from fun V hV => ⟨⟨(hV.cell (p := ⟨B0, 0, none⟩) hb0).trans r0, (hV.cell (p := ⟨B0, 1, none⟩) hb0).trans r1, (hV.cell (p := ⟨B0, 2, none⟩) hb0).trans r2, (hV.cell (p := ⟨B0, 3, none⟩) hb0).trans r3, (hV.cell (p := ⟨B0, 4, none⟩) hb0).trans r4, (hV.cell (p := ⟨B0 + 1, 0, none⟩) hb1).trans e0, (hV.cell (p := ⟨B0 + 1, 1, none⟩) hb1).trans e1, (hV.cell (p := ⟨B0 + 1, 2, none⟩) hb1).trans e2, (hV.cell (p := ⟨B0 + 1, 3, none⟩) hb1).trans e3, (hV.cell (p := ⟨B0 + 1, 4, none⟩) hb1).trans e4, (hV.cell (p := ⟨B0 + 1, 5, none⟩) hb1).trans e5⟩, hBX.trans (hV.mono (by omega)), Nat.le_trans (by omega) hV.size⟩)
      clear hWX hz1 q0 q1 hB0

      have hb : Below B0 W WX := hBX
      have HB := Lib.hid hb
      clear hb hBX
      have hww : Below B w WX := HW.out.trans (HB.out.mono HBW.out)
      obtain ⟨a, k', n', key', val', A', q', qc', ha, hab, hrr, ec, c0, c1, c2, c3, c4⟩ := kid_cells (HROW.out.keep fun _ hp => hww.cell hp) (fun i r h => (HKID.out i r h).low hww) hr
      have hBwr : B ≤ WX.heap.size := Nat.le_trans HBW.out (by omega)
      have I := fun V (hV : Below WX.heap.size WX V) => IH.out 0 r hr V ((allL_iff kids).1 HKA.out r (List.mem_of_getElem? hr)) (hww.trans (hV.mono hBwr)) (Nat.le_trans hBwr hV.size)
      rw [ec] at I
      simp only [rcs] at I
      have HI := Lib.hid I
      subst ha
      clear I hr hww hrr ec hBwr hab
      generalize hz : Rt.keep L hh q r = z at HI
      have HZ := Lib.hid hz
      clear hz
      have ea : a.add (0 * 5) = a := by simp [Addr.add]
      rw [ea] at c0 c1 c2 c3 c4
      go_still_tail 6, (by kernel_rfl)
      change wpList _ _ _ _ _ WX.drew
      have HDR : Hid (Below WX.heap.size WX WX.drew) := Lib.hid ⟨rfl, rfl, rfl, Nat.le_refl _, fun _ _ => rfl⟩
      generalize WX.drew = wd at *
      go_wp2_with (go_at_call 34; (with_reducible refine (HI.out _ HDR.out).mono ?_); rintro e w2 ⟨rfl, hb2⟩; have HB2 := Lib.hid (HDR.out.trans (hb2.mono HDR.out.size)); clear hb2)
      go_ret
      exact ⟨by rw [HMD.out]; simp [HHD.out, HZ.out], by rw [HB0.out]; exact HB.out.trans (HB2.out.mono (by omega))⟩
    · have HMS := Lib.hid (show kp = decide (n ≤ (sn : Int)) from by rw [HMD.out, HSN.out]; simp)
      go_enter Try.func34, Try.ntmps34
      go_wp2_with fail
      all_goals
        go_ret
        exact ⟨by rw [HMS.out]; simp_all, ((Below.refl _ _).alloc (Nat.le_refl _) _).alloc (by simp) _⟩
    · have HMS := Lib.hid (show kp = decide (hh < n) from by rw [HMD.out]; simp)
      go_enter Try.func34, Try.ntmps34
      go_wp2_with fail
      have hBX := ((Below.refl W.heap.size W).alloc (Nat.le_refl _) (.cells #[.int .i64 8, .int .i64 n, .string key, .string val, .slice kA m kc] 24)).alloc (by simp) (.cells #[.int .u64 hi, .int .u64 lo, .int .i64 f, .int .i64 la, .bool su, .slice sA sn sc] 30)
      have hz1 : (W.alloc (.cells #[.int .i64 8, .int .i64 n, .string key, .string val, .slice kA m kc] 24)).heap.size = W.heap.size + 1 := by simp
      have q0 := heap_alloc_new W (.cells #[.int .i64 8, .int .i64 n, .string key, .string val, .slice kA m kc] 24)
      have q1 := heap_alloc_new (W.alloc (.cells #[.int .i64 8, .int .i64 n, .string key, .string val, .slice kA m kc] 24)) (.cells #[.int .u64 hi, .int .u64 lo, .int .i64 f, .int .i64 la, .bool su, .slice sA sn sc] 30)
      have hz2 : ((W.alloc (.cells #[.int .i64 8, .int .i64 n, .string key, .string val, .slice kA m kc] 24)).alloc (.cells #[.int .u64 hi, .int .u64 lo, .int .i64 f, .int .i64 la, .bool su, .slice sA sn sc] 30)).heap.size = W.heap.size + 2 := by simp
      rw [hz1] at q1
      have r0 : ((W.alloc (.cells #[.int .i64 8, .int .i64 n, .string key, .string val, .slice kA m kc] 24)).alloc (.cells #[.int .u64 hi, .int .u64 lo, .int .i64 f, .int .i64 la, .bool su, .slice sA sn sc] 30)).cell? ⟨W.heap.size, 0, none⟩ = some (.int .i64 8) := (World.cell?_alloc_lt _ _ ⟨W.heap.size, 0, none⟩ (by simp)).trans (cell_of_row _ _ 0 _ _ (0, 0) q0)
      have r1 : ((W.alloc (.cells #[.int .i64 8, .int .i64 n, .string key, .string val, .slice kA m kc] 24)).alloc (.cells #[.int .u64 hi, .int .u64 lo, .int .i64 f, .int .i64 la, .bool su, .slice sA sn sc] 30)).cell? ⟨W.heap.size, 1, none⟩ = some (.int .i64 n) := (World.cell?_alloc_lt _ _ ⟨W.heap.size, 1, none⟩ (by simp)).trans (cell_of_row _ _ 1 _ _ (0, 0) q0)
      have r2 : ((W.alloc (.cells #[.int .i64 8, .int .i64 n, .string key, .string val, .slice kA m kc] 24)).alloc (.cells #[.int .u64 hi, .int .u64 lo, .int .i64 f, .int .i64 la, .bool su, .slice sA sn sc] 30)).cell? ⟨W.heap.size, 2, none⟩ = some (.string key) := (World.cell?_alloc_lt _ _ ⟨W.heap.size, 2, none⟩ (by simp)).trans (cell_of_row _ _ 2 _ _ (0, 0) q0)
      have r3 : ((W.alloc (.cells #[.int .i64 8, .int .i64 n, .string key, .string val, .slice kA m kc] 24)).alloc (.cells #[.int .u64 hi, .int .u64 lo, .int .i64 f, .int .i64 la, .bool su, .slice sA sn sc] 30)).cell? ⟨W.heap.size, 3, none⟩ = some (.string val) := (World.cell?_alloc_lt _ _ ⟨W.heap.size, 3, none⟩ (by simp)).trans (cell_of_row _ _ 3 _ _ (0, 0) q0)
      have r4 : ((W.alloc (.cells #[.int .i64 8, .int .i64 n, .string key, .string val, .slice kA m kc] 24)).alloc (.cells #[.int .u64 hi, .int .u64 lo, .int .i64 f, .int .i64 la, .bool su, .slice sA sn sc] 30)).cell? ⟨W.heap.size, 4, none⟩ = some (.slice kA m kc) := (World.cell?_alloc_lt _ _ ⟨W.heap.size, 4, none⟩ (by simp)).trans (cell_of_row _ _ 4 _ _ (0, 0) q0)
      have e0 : ((W.alloc (.cells #[.int .i64 8, .int .i64 n, .string key, .string val, .slice kA m kc] 24)).alloc (.cells #[.int .u64 hi, .int .u64 lo, .int .i64 f, .int .i64 la, .bool su, .slice sA sn sc] 30)).cell? ⟨W.heap.size + 1, 0, none⟩ = some (.int .u64 (hi : Int)) := cell_of_row _ _ 0 _ _ (0, 0) q1
      have e1 : ((W.alloc (.cells #[.int .i64 8, .int .i64 n, .string key, .string val, .slice kA m kc] 24)).alloc (.cells #[.int .u64 hi, .int .u64 lo, .int .i64 f, .int .i64 la, .bool su, .slice sA sn sc] 30)).cell? ⟨W.heap.size + 1, 1, none⟩ = some (.int .u64 (lo : Int)) := cell_of_row _ _ 1 _ _ (0, 0) q1
      have e2 : ((W.alloc (.cells #[.int .i64 8, .int .i64 n, .string key, .string val, .slice kA m kc] 24)).alloc (.cells #[.int .u64 hi, .int .u64 lo, .int .i64 f, .int .i64 la, .bool su, .slice sA sn sc] 30)).cell? ⟨W.heap.size + 1, 2, none⟩ = some (.int .i64 f) := cell_of_row _ _ 2 _ _ (0, 0) q1
      have e3 : ((W.alloc (.cells #[.int .i64 8, .int .i64 n, .string key, .string val, .slice kA m kc] 24)).alloc (.cells #[.int .u64 hi, .int .u64 lo, .int .i64 f, .int .i64 la, .bool su, .slice sA sn sc] 30)).cell? ⟨W.heap.size + 1, 3, none⟩ = some (.int .i64 la) := cell_of_row _ _ 3 _ _ (0, 0) q1
      have e4 : ((W.alloc (.cells #[.int .i64 8, .int .i64 n, .string key, .string val, .slice kA m kc] 24)).alloc (.cells #[.int .u64 hi, .int .u64 lo, .int .i64 f, .int .i64 la, .bool su, .slice sA sn sc] 30)).cell? ⟨W.heap.size + 1, 4, none⟩ = some (.bool su) := cell_of_row _ _ 4 _ _ (0, 0) q1
      have e5 : ((W.alloc (.cells #[.int .i64 8, .int .i64 n, .string key, .string val, .slice kA m kc] 24)).alloc (.cells #[.int .u64 hi, .int .u64 lo, .int .i64 f, .int .i64 la, .bool su, .slice sA sn sc] 30)).cell? ⟨W.heap.size + 1, 5, none⟩ = some (.slice sA sn sc) := cell_of_row _ _ 5 _ _ (0, 0) q1
      generalize hWX : (W.alloc (.cells #[.int .i64 8, .int .i64 n, .string key, .string val, .slice kA m kc] 24)).alloc (.cells #[.int .u64 hi, .int .u64 lo, .int .i64 f, .int .i64 la, .bool su, .slice sA sn sc] 30) = WX at *
      generalize hB0 : W.heap.size = B0 at *
      have HB0 := Lib.hid hB0
      have hb1 : B0 + 1 < WX.heap.size := by omega
      have hb0 : B0 < WX.heap.size := by omega
      have HS := Lib.hid (show ∀ V, Below WX.heap.size WX V → (V.cell? ⟨B0, 0, none⟩ = some (.int .i64 8) ∧ V.cell? ⟨B0, 1, none⟩ = some (.int .i64 n) ∧ V.cell? ⟨B0, 2, none⟩ = some (.string key) ∧ V.cell? ⟨B0, 3, none⟩ = some (.string val) ∧ V.cell? ⟨B0, 4, none⟩ = some (.slice kA m kc) ∧ V.cell? ⟨B0 + 1, 0, none⟩ = some (.int .u64 (hi : Int)) ∧ V.cell? ⟨B0 + 1, 1, none⟩ = some (.int .u64 (lo : Int)) ∧ V.cell? ⟨B0 + 1, 2, none⟩ = some (.int .i64 f) ∧ V.cell? ⟨B0 + 1, 3, none⟩ = some (.int .i64 la) ∧ V.cell? ⟨B0 + 1, 4, none⟩ = some (.bool su) ∧ V.cell? ⟨B0 + 1, 5, none⟩ = some (.slice sA sn sc)) ∧ Below B0 W V ∧ B0 + 2 ≤ V.heap.size from fun V hV => ⟨⟨(hV.cell (p := ⟨B0, 0, none⟩) hb0).trans r0, (hV.cell (p := ⟨B0, 1, none⟩) hb0).trans r1, (hV.cell (p := ⟨B0, 2, none⟩) hb0).trans r2, (hV.cell (p := ⟨B0, 3, none⟩) hb0).trans r3, (hV.cell (p := ⟨B0, 4, none⟩) hb0).trans r4, (hV.cell (p := ⟨B0 + 1, 0, none⟩) hb1).trans e0, (hV.cell (p := ⟨B0 + 1, 1, none⟩) hb1).trans e1, (hV.cell (p := ⟨B0 + 1, 2, none⟩) hb1).trans e2, (hV.cell (p := ⟨B0 + 1, 3, none⟩) hb1).trans e3, (hV.cell (p := ⟨B0 + 1, 4, none⟩) hb1).trans e4, (hV.cell (p := ⟨B0 + 1, 5, none⟩) hb1).trans e5⟩, hBX.trans (hV.mono (by omega)), Nat.le_trans (by omega) hV.size⟩)
      clear hWX hz1 q0 q1 hB0

      clear r0 r2 r3 r4 e2 e3 e4 e5 HS
      generalize hB1 : B0 + 1 = B1 at *
      have hS : (Hid (Below B0 W WX.drew ∧ B1 < WX.drew.heap.size ∧ B0 < WX.drew.heap.size ∧ B0 ≤ WX.drew.heap.size) ∧ WX.drew.cell? ⟨B0, 1, none⟩ = some (.int .i64 n) ∧ WX.drew.cell? ⟨B1, 0, none⟩ = some (.int .u64 (hi : Int)) ∧ WX.drew.cell? ⟨B1, 1, none⟩ = some (.int .u64 (lo : Int))) := ⟨Lib.hid ⟨hBX.trans ⟨rfl, rfl, rfl, Nat.le_refl _, fun _ _ => rfl⟩, hb1, hb0, Nat.le_of_lt hb0⟩, r1, e0, e1⟩
      have KS : Hid (∀ w1 w2, (Hid (Below B0 W w1 ∧ B1 < w1.heap.size ∧ B0 < w1.heap.size ∧ B0 ≤ w1.heap.size) ∧ w1.cell? ⟨B0, 1, none⟩ = some (.int .i64 n) ∧ w1.cell? ⟨B1, 0, none⟩ = some (.int .u64 (hi : Int)) ∧ w1.cell? ⟨B1, 1, none⟩ = some (.int .u64 (lo : Int))) → Below w1.heap.size w1 w2 → (Hid (Below B0 W w2 ∧ B1 < w2.heap.size ∧ B0 < w2.heap.size ∧ B0 ≤ w2.heap.size) ∧ w2.cell? ⟨B0, 1, none⟩ = some (.int .i64 n) ∧ w2.cell? ⟨B1, 0, none⟩ = some (.int .u64 (hi : Int)) ∧ w2.cell? ⟨B1, 1, none⟩ = some (.int .u64 (lo : Int)))) :=
        Lib.hid (fun w1 w2 h hb => by
          have hz2 := hb.size
          have h1 := h.1.out
          exact ⟨Lib.hid ⟨h1.1.trans (hb.mono h1.2.2.2), by omega, by omega, by omega⟩, (hb.cell (p := ⟨B0, 1, none⟩) h1.2.2.1).trans h.2.1, (hb.cell (p := ⟨B1, 0, none⟩) h1.2.1).trans h.2.2.1, (hb.cell (p := ⟨B1, 1, none⟩) h1.2.1).trans h.2.2.2⟩)
      clear r1 e0 e1 hBX hb0 hb1 hB1 hz2
      go_region_held3 (fun w' => (Hid (Below B0 W w' ∧ B1 < w'.heap.size ∧ B0 < w'.heap.size ∧ B0 ≤ w'.heap.size) ∧ w'.cell? ⟨B0, 1, none⟩ = some (.int .i64 n) ∧ w'.cell? ⟨B1, 0, none⟩ = some (.int .u64 (hi : Int)) ∧ w'.cell? ⟨B1, 1, none⟩ = some (.int .u64 (lo : Int))))
        (first | (with_reducible assumption) | (with_reducible exact hS) | (with_reducible exact hs1))
        ((go_at_call 11; (with_reducible refine (HHASH.out _).mono ?_); rintro e w1 ⟨rfl, hb1⟩; have hs1 := KS.out _ _ ‹Hid (Below B0 W _ ∧ _) ∧ _› hb1; clear hb1))
      all_goals
        go_wp2_with fail
        all_goals
          go_ret
          obtain ⟨hf, _⟩ := ‹Hid (Below B0 W _ ∧ _) ∧ _›
          exact ⟨by rw [HMS.out]; simp_all, by rw [HB0.out]; exact hf.out.1⟩
    · have HMS := Lib.hid (show kp = decide (q < n) from by rw [HMD.out]; simp)
      go_enter Try.func34, Try.ntmps34
      go_wp2_with fail
      all_goals
        go_ret
        exact ⟨by rw [HMS.out]; simp_all, ((Below.refl _ _).alloc (Nat.le_refl _) _).alloc (by simp) _⟩
    · have HMS := Lib.hid (show kp = L.any (fun x => isS k n key val x.s) from by rw [HMD.out]; rcases hk456 with rfl | rfl | rfl <;> simp)
      have HSO := Lib.hid (HSOME.out k hk456)
      generalize L.any (fun x => isS k n key val x.s) = so at *
      clear HSOME
      rcases hk456 with rfl | rfl | rfl
      all_goals
        go_enter Try.func34, Try.ntmps34
        have HTW := Lib.hid (two_lay (B := B) (w := w) HW.out HBW.out)
        go_wp2_with (go_at_call 49; (with_reducible refine (HSO.out _ (HTW.out _ _).1 (HTW.out _ _).2.1).mono ?_); rintro e w1 ⟨rfl, hb1⟩; have HB1 := Lib.hid ((HTW.out _ _).2.2.trans (hb1.mono (HTW.out _ _).2.2.size)); clear hb1)
        go_ret
        exact ⟨by rw [HMS.out]; rfl, HB1.out⟩

set_option maxHeartbeats 4000000 in
theorem Keep_any {w : World} {B : Nat} {t : Rt} {c : List Value} (h : RdR w B t c) (L : List Ls) (hi lo : Nat) (h1 : hi < 18446744073709551616) (h2 : lo < 18446744073709551616) (f la : Int) (su : Bool) (sA : Option Addr) (sn sc : Nat) (q : Int) (hsn : sn = L.length) (hL : RdSps w B sA L) (hsl : sn ≤ maxLen) (hh : Int) (hhh : hh = (hsh hi lo : Nat))
    (W : World) (hW : Below B w W) (hB : B ≤ W.heap.size) :
    Calls Try.prog 13 #[.agg c.toArray, .agg #[.int .u64 hi, .int .u64 lo, .int .i64 f, .int .i64 la, .bool su, .slice sA sn sc], .int .i64 q] W fun e w' => e = .returned (.bool (t.right && Rt.keep L hh q t)) ∧ Below W.heap.size W w' := by
  have RI := Lib.hid (fun V hV => right_all h V (hW.trans (hV.mono hB)) (Nat.le_trans hB (Below.size hV)))
  have KE := Lib.hid (fun (hall : t.all = true) V hV => keep_rec h L hi lo h1 h2 f la su sA sn sc q hsn hL hsl hh hhh V hall (hW.trans (hV.mono hB)) (Nat.le_trans hB (Below.size hV)))
  have HR := Lib.hid (show t.right = true → t.all = true from fun h => ((t.right_iff).1 h).2.2)
  have HTW := Lib.hid (two_lay (Below.refl W.heap.size W) (Nat.le_refl _))
  generalize t.right = ri at *
  generalize Rt.keep L hh q t = kp at *
  generalize t.all = al at *
  obtain ⟨k, n, key, val, kids, kA, kc, rfl, rfl⟩ := h.inv
  clear h hW hB hL hsn hhh h1 h2
  simp only [rcs] at *
  cases ri
  · go_enter Try.func13, Try.ntmps13
    go_wp2_with (go_at_call 33; (with_reducible refine (RI.out _ (HTW.out _ _).1).mono ?_); rintro e w1 ⟨rfl, hb1⟩; have HB1 := Lib.hid ((HTW.out _ _).1.trans (hb1.mono (HTW.out _ _).2.1)); clear hb1)
    go_ret
    exact ⟨by simp, HB1.out⟩
  · have KE2 := Lib.hid (KE.out (HR.out rfl))
    clear KE HR
    go_enter Try.func13, Try.ntmps13
    go_wp2_with (first
      | (go_at_call 34; (with_reducible refine (KE2.out _ HB1.out).mono ?_); rintro e w2 ⟨rfl, hb2⟩; have HB2 := Lib.hid (HB1.out.trans (hb2.mono HB1.out.size)); clear hb2)
      | (go_at_call 33; (with_reducible refine (RI.out _ (HTW.out _ _).1).mono ?_); rintro e w1 ⟨rfl, hb1⟩; obtain ⟨hc, hf⟩ := bcell hb1; have HB1 := Lib.hid ((HTW.out _ _).1.trans (hb1.mono (HTW.out _ _).2.1)); clear hb1))
    go_ret
    exact ⟨by simp, HB2.out⟩
end Go.Proofs.Ytenioeppmgmdiaa
