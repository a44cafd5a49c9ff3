/- Whether some span is what a rule asks for: the code's is and some, the document's some. -/
import Derived.Test.YtenioeppmgmdiaaRu
import Derived.Test.YtenioeppmgmdiaaFew
namespace Go.Proofs.Ytenioeppmgmdiaa
open Go.RowKit
set_option linter.unusedVariables false
set_option linter.unusedSimpArgs false
set_option maxRecDepth 100000

def isA (key val : ByteArray) (a : ByteArray × ByteArray) : Bool := a.1.toList == key.toList && a.2.toList == val.toList
/-- Is a span what a rule of these kinds asks for? -/
def isS (k n : Int) (key val : ByteArray) (s : Sp) : Bool := if (k == 4) = true then decide (n ≤ s.du) else if (k == 5) = true then s.er else s.ats.any (isA key val)
theorem any_not_take {α : Type} {p : α → Bool} {l : List α} {j : Nat} {x : α} (h : l[j]? = some x) (h1 : ∀ y ∈ l.take j, p y = false) (h2 : p x = false) : ∀ y ∈ l.take (j + 1), p y = false := by
  rw [List.take_add_one, h]
  intro y hy
  rcases List.mem_append.1 hy with hy | hy
  · exact h1 y hy
  · simp at hy
    subst hy
    exact h2
theorem any_hit {α : Type} {p : α → Bool} {l : List α} {j : Nat} {x : α} (h : l[j]? = some x) (h2 : p x = true) : l.any p = true := List.any_eq_true.2 ⟨x, List.mem_of_getElem? h, h2⟩
theorem any_none {α : Type} {p : α → Bool} {l : List α} {j : Nat} (hj : l.length ≤ j) (h1 : ∀ y ∈ l.take j, p y = false) : l.any p = false := by
  rw [List.take_of_length_le hj] at h1
  cases hh : l.any p
  · rfl
  · obtain ⟨y, hy, hp⟩ := List.any_eq_true.1 hh
    rw [h1 y hy] at hp; cases hp

set_option maxHeartbeats 8000000 in
theorem is_all (x0 x1 x2 x3 : Int) (x4 x5 : ByteArray) (x6 x7 : Int) (x8 : Bool) (ats : List (ByteArray × ByteArray)) (xA : Option Addr) (xn xc : Nat) (k n : Int) (key val : ByteArray) (kA : Option Addr) (q kc : Nat) (w : World)
    (hxn : xn = ats.length) (hx : RdL w w.heap.size ⟨⟨x0, x1, x2, x3, x4, x5, x6, x7, x8, ats⟩, xA, xc⟩) (hk : k = 4 ∨ k = 5 ∨ k = 6) :
    Calls Try.prog 60 #[.agg #[.int .u64 x0, .int .u64 x1, .int .u64 x2, .int .u64 x3, .string x4, .string x5, .int .i64 x6, .int .i64 x7, .bool x8, .slice xA xn xc], .agg #[.int .i64 k, .int .i64 n, .string key, .string val, .slice kA q kc]] w fun e w' => e = .returned (.bool (isS k n key val ⟨x0, x1, x2, x3, x4, x5, x6, x7, x8, ats⟩)) ∧ Below w.heap.size w w' := by
  have hxl : xn ≤ maxLen := by rw [hxn]; exact hx.ok.ats.1
  simp only [maxLen] at hxl
  have HX := Lib.hid hx
  have HN := Lib.hid hxn
  clear hx hxn
  rcases hk with rfl | rfl | rfl
  · have HI : Hid (isS 4 n key val ⟨x0, x1, x2, x3, x4, x5, x6, x7, x8, ats⟩ = decide (n ≤ x7)) := rfl
    generalize isS 4 n key val ⟨x0, x1, x2, x3, x4, x5, x6, x7, x8, ats⟩ = ii at *
    go_enter Try.func60, Try.ntmps60
    go_wp2_with fail
    all_goals
      go_ret
      exact ⟨by rw [HI.out]; simp_all, ((Below.refl _ _).alloc (Nat.le_refl _) _).alloc (by simp) _⟩
  · have HI : Hid (isS 5 n key val ⟨x0, x1, x2, x3, x4, x5, x6, x7, x8, ats⟩ = x8) := rfl
    generalize isS 5 n key val ⟨x0, x1, x2, x3, x4, x5, x6, x7, x8, ats⟩ = ii at *
    go_enter Try.func60, Try.ntmps60
    go_wp2_with fail
    go_ret
    exact ⟨by rw [HI.out]; rfl, ((Below.refl _ _).alloc (Nat.le_refl _) _).alloc (by simp) _⟩
  · have HI : Hid (isS 6 n key val ⟨x0, x1, x2, x3, x4, x5, x6, x7, x8, ats⟩ = ats.any (isA key val)) := rfl
    generalize isS 6 n key val ⟨x0, x1, x2, x3, x4, x5, x6, x7, x8, ats⟩ = ii at *
    go_enter Try.func60, Try.ntmps60
    go_wp2_with fail
    have HBX0 := ((Below.refl w.heap.size w).alloc (Nat.le_refl _) (.cells #[.int .u64 x0, .int .u64 x1, .int .u64 x2, .int .u64 x3, .string x4, .string x5, .int .i64 x6, .int .i64 x7, .bool x8, .slice xA xn xc] 42)).alloc (by simp) (.cells #[.int .i64 6, .int .i64 n, .string key, .string val, .slice kA q kc] 24)
    have r0 := heap_alloc_new (w.alloc (.cells #[.int .u64 x0, .int .u64 x1, .int .u64 x2, .int .u64 x3, .string x4, .string x5, .int .i64 x6, .int .i64 x7, .bool x8, .slice xA xn xc] 42)) (.cells #[.int .i64 6, .int .i64 n, .string key, .string val, .slice kA q kc] 24)
    have hz0 : (w.alloc (.cells #[.int .u64 x0, .int .u64 x1, .int .u64 x2, .int .u64 x3, .string x4, .string x5, .int .i64 x6, .int .i64 x7, .bool x8, .slice xA xn xc] 42)).heap.size < ((w.alloc (.cells #[.int .u64 x0, .int .u64 x1, .int .u64 x2, .int .u64 x3, .string x4, .string x5, .int .i64 x6, .int .i64 x7, .bool x8, .slice xA xn xc] 42)).alloc (.cells #[.int .i64 6, .int .i64 n, .string key, .string val, .slice kA q kc] 24)).heap.size := by simp
    have hz1 : (w.alloc (.cells #[.int .u64 x0, .int .u64 x1, .int .u64 x2, .int .u64 x3, .string x4, .string x5, .int .i64 x6, .int .i64 x7, .bool x8, .slice xA xn xc] 42)).heap.size = w.heap.size + 1 := by simp
    rw [hz1] at r0 hz0
    generalize hWX : (w.alloc (.cells #[.int .u64 x0, .int .u64 x1, .int .u64 x2, .int .u64 x3, .string x4, .string x5, .int .i64 x6, .int .i64 x7, .bool x8, .slice xA xn xc] 42)).alloc (.cells #[.int .i64 6, .int .i64 n, .string key, .string val, .slice kA q kc] 24) = WX at *
    have hzz : w.heap.size ≤ WX.heap.size := by omega
    have s2 : WX.cell? ⟨w.heap.size + 1, 2, none⟩ = some (.string key) := cell_of_row _ _ 2 _ _ (0, 0) r0
    have s3 : WX.cell? ⟨w.heap.size + 1, 3, none⟩ = some (.string val) := cell_of_row _ _ 3 _ _ (0, 0) r0
    have HS := Lib.hid (show ∀ V, Below WX.heap.size WX V → (V.cell? ⟨w.heap.size + 1, 2, none⟩ = some (.string key) ∧ V.cell? ⟨w.heap.size + 1, 3, none⟩ = some (.string val)) ∧ Below w.heap.size w V ∧ w.heap.size ≤ V.heap.size from fun V hV => ⟨⟨(hV.cell (p := ⟨w.heap.size + 1, 2, none⟩) hz0).trans s2, (hV.cell (p := ⟨w.heap.size + 1, 3, none⟩) hz0).trans s3⟩, HBX0.trans (hV.mono hzz), Nat.le_trans hzz hV.size⟩)
    clear r0 hWX hz1
    go_loopw [23] (fun i wr => ∃ (j : Nat), i = .int .i64 (j : Int) ∧ j ≤ xn ∧ Hid (∀ a ∈ ats.take j, isA key val a = false) ∧ Hid (Below WX.heap.size WX wr)) (fun i _ => xn - (intOf i).toNat)
    case atStart => exact ⟨0, rfl, by omega, Lib.hid (by simp), Lib.hid (Below.refl _ _)⟩
    case round =>
      obtain ⟨j, rfl, hj, HY, HBB⟩ := hrel
      obtain ⟨⟨t2, t3⟩, hb, hzr⟩ := HS.out wr HBB.out
      have HB := Lib.hid hb
      have HZR := Lib.hid hzr
      clear hb hzr
      by_cases hlt : j < xn
      · obtain ⟨y, hy⟩ : ∃ y, ats[j]? = some y := ⟨_, List.getElem?_eq_getElem (by rw [← HN.out]; exact hlt)⟩
        obtain ⟨a, ha, hab, c0, c1, l1, l2⟩ := (HX.out.below HB.out).attr hy
        have ha : xA = some a := ha
        subst ha
        have c1 := cell_far c1 (by omega)
        have hab2 : a.block < wr.heap.size := Nat.lt_of_lt_of_le hab HZR.out
        have hab3 : a.block ≠ wr.heap.size := by omega
        have hbn : w.heap.size + 1 ≠ wr.heap.size := by have := HBB.out.size; omega
        have hbl : w.heap.size + 1 < wr.heap.size := by have := HBB.out.size; omega
        obtain ⟨y1, y2⟩ := y
        simp only [maxLen] at l1 l2 c0 c1
        have HYY := Lib.hid hy
        clear hy hab
        by_cases e1 : y1 = key
        · by_cases e2 : y2 = val
          · subst e1 e2
            have HF := Lib.hid (any_hit (p := isA y1 y2) HYY.out (by simp [isA]))
            go_wp2_with fail
            go_ret
            exact ⟨by rw [HI.out, HF.out]; rfl, HB.out.trans ((Below.refl _ _).alloc HZR.out _)⟩
          · subst e1
            have hs := str_off e2
            have HF := Lib.hid (any_not_take HYY.out HY.out (show isA y1 val (y1, y2) = false from by unfold isA; rw [hs]; simp))
            clear e2
            go_wp2_with fail
            go_roundw
            case rel => exact ⟨j + 1, by go_num, by omega, HF, Lib.hid (HBB.out.trans ((Below.refl _ _).alloc (HBB.out.size) _))⟩
            case measure => simp [intOf]; omega
        · have hs := str_off e1
          have HF := Lib.hid (any_not_take HYY.out HY.out (show isA key val (y1, y2) = false from by unfold isA; rw [hs]; simp))
          clear e1
          go_wp2_with fail
          go_roundw
          case rel => exact ⟨j + 1, by go_num, by omega, HF, Lib.hid (HBB.out.trans ((Below.refl _ _).alloc (HBB.out.size) _))⟩
          case measure => simp [intOf]; omega
      · obtain rfl : j = xn := by omega
        have HF := Lib.hid (any_none (p := isA key val) (by rw [HN.out]; exact Nat.le_refl _) HY.out)
        go_wp2_with fail
        go_ret
        exact ⟨by rw [HI.out, HF.out]; rfl, HB.out⟩

set_option maxHeartbeats 8000000 in
theorem some_all (A : Option Addr) (l : List Ls) (ln lc : Nat) (k n : Int) (key val : ByteArray) (kA : Option Addr) (q kc : Nat) (B : Nat) (w : World)
    (hn : ln = l.length) (hy : RdSps w B A l) (hB : B ≤ w.heap.size) (hl : ln ≤ maxLen) (hk : k = 4 ∨ k = 5 ∨ k = 6) :
    Calls Try.prog 49 #[.slice A ln lc, .agg #[.int .i64 k, .int .i64 n, .string key, .string val, .slice kA q kc]] w fun e w' => e = .returned (.bool (l.any fun x => isS k n key val x.s)) ∧ Below w.heap.size w w' := by
  simp only [maxLen] at hl
  have HN := Lib.hid hn
  have HY := Lib.hid hy
  have HK := Lib.hid hk
  obtain ⟨ii, hii⟩ : ∃ ii, (l.any fun x => isS k n key val x.s) = ii := ⟨_, rfl⟩
  have HI := Lib.hid hii
  rw [hii]
  clear hn hy hk hii
  go_enter Try.func49, Try.ntmps49
  go_wp2_with fail
  have HBX0 := (Below.refl w.heap.size w).alloc (Nat.le_refl _) (.cells #[.int .i64 k, .int .i64 n, .string key, .string val, .slice kA q kc] 24)
  have r0 := heap_alloc_new w (.cells #[.int .i64 k, .int .i64 n, .string key, .string val, .slice kA q kc] 24)
  have hz0 : w.heap.size < (w.alloc (.cells #[.int .i64 k, .int .i64 n, .string key, .string val, .slice kA q kc] 24)).heap.size := by simp
  generalize hWX : w.alloc (.cells #[.int .i64 k, .int .i64 n, .string key, .string val, .slice kA q kc] 24) = WX at *
  have hzz : w.heap.size ≤ WX.heap.size := by omega
  have s0 : WX.cell? ⟨w.heap.size, 0, none⟩ = some (.int .i64 k) := cell_of_row _ _ 0 _ _ (0, 0) r0
  have s1 : WX.cell? ⟨w.heap.size, 1, none⟩ = some (.int .i64 n) := cell_of_row _ _ 1 _ _ (0, 0) r0
  have s2 : WX.cell? ⟨w.heap.size, 2, none⟩ = some (.string key) := cell_of_row _ _ 2 _ _ (0, 0) r0
  have s3 : WX.cell? ⟨w.heap.size, 3, none⟩ = some (.string val) := cell_of_row _ _ 3 _ _ (0, 0) r0
  have s4 : WX.cell? ⟨w.heap.size, 4, none⟩ = some (.slice kA q kc) := cell_of_row _ _ 4 _ _ (0, 0) r0
  have HS := Lib.hid (show ∀ V, Below WX.heap.size WX V → (V.cell? ⟨w.heap.size, 0, none⟩ = some (.int .i64 k) ∧ V.cell? ⟨w.heap.size, 1, none⟩ = some (.int .i64 n) ∧ V.cell? ⟨w.heap.size, 2, none⟩ = some (.string key) ∧ V.cell? ⟨w.heap.size, 3, none⟩ = some (.string val) ∧ V.cell? ⟨w.heap.size, 4, none⟩ = some (.slice kA q kc)) ∧ Below w.heap.size w V ∧ w.heap.size ≤ V.heap.size from fun V hV => ⟨⟨(hV.cell (p := ⟨w.heap.size, 0, none⟩) hz0).trans s0, (hV.cell (p := ⟨w.heap.size, 1, none⟩) hz0).trans s1, (hV.cell (p := ⟨w.heap.size, 2, none⟩) hz0).trans s2, (hV.cell (p := ⟨w.heap.size, 3, none⟩) hz0).trans s3, (hV.cell (p := ⟨w.heap.size, 4, none⟩) hz0).trans s4⟩, HBX0.trans (hV.mono hzz), Nat.le_trans hzz hV.size⟩)
  clear r0 hWX
  go_loopw [9] (fun i wr => ∃ (j : Nat), i = .int .i64 (j : Int) ∧ j ≤ ln ∧ Hid (∀ x ∈ l.take j, isS k n key val x.s = false) ∧ Hid (Below WX.heap.size WX wr)) (fun i _ => ln - (intOf i).toNat)
  case atStart => exact ⟨0, rfl, by omega, Lib.hid (by simp), Lib.hid (Below.refl _ _)⟩
  case round =>
    obtain ⟨j, rfl, hj, HZ, HBB⟩ := hrel
    obtain ⟨⟨t0, t1, t2, t3, t4⟩, hb, hzr⟩ := HS.out wr HBB.out
    have HB := Lib.hid hb
    have HZR := Lib.hid hzr
    clear hb hzr
    by_cases hlt : j < ln
    · obtain ⟨x, hx⟩ : ∃ x, l[j]? = some x := ⟨_, List.getElem?_eq_getElem (by rw [← HN.out]; exact hlt)⟩
      have HR : Hid (RdSps wr B A l) := Lib.hid (HY.out.below (HB.out.mono hB))
      obtain ⟨a, ha, hab, hc, hl2⟩ := HR.out.at_ hx
      subst ha
      have hBr : B ≤ wr.heap.size := Nat.le_trans hB HZR.out
      obtain ⟨⟨x0, x1, x2, x3, x4, x5, x6, x7, x8, ats⟩, xA, xc⟩ := x
      have F := Lib.hid (fun V (hV : Below wr.heap.size wr V) => is_all x0 x1 x2 x3 x4 x5 x6 x7 x8 ats xA ats.length xc k n key val kA q kc V rfl ((hl2.below (hV.mono hBr)).more (Nat.le_trans hBr hV.size)) HK.out)
      have c0 := hc 0 _ rfl
      have c1 := cell_far (hc 1 _ rfl) (by omega)
      have c2 := cell_far (hc 2 _ rfl) (by omega)
      have c3 := cell_far (hc 3 _ rfl) (by omega)
      have c4 := cell_far (hc 4 _ rfl) (by omega)
      have c5 := cell_far (hc 5 _ rfl) (by omega)
      have c6 := cell_far (hc 6 _ rfl) (by omega)
      have c7 := cell_far (hc 7 _ rfl) (by omega)
      have c8 := cell_far (hc 8 _ rfl) (by omega)
      have c9 := cell_far (hc 9 _ rfl) (by omega)
      simp only [Nat.add_zero] at c0
      have HX := Lib.hid hx
      have hab2 : a.block < wr.heap.size := by omega
      have hab3 : a.block ≠ wr.heap.size := by omega
      have hbn : w.heap.size ≠ wr.heap.size := by have := HBB.out.size; omega
      have hbl : w.heap.size < wr.heap.size := by have := HBB.out.size; omega
      clear hc hl2 hx hab
      generalize ats.length = xn at *
      have HBA := Lib.hid (show ∀ o, Below wr.heap.size wr (wr.alloc o) from fun o => (Below.refl _ _).alloc (Nat.le_refl _) o)
      cases hfx : isS k n key val ⟨x0, x1, x2, x3, x4, x5, x6, x7, x8, ats⟩
      · have HP := Lib.hid (any_not_take (p := fun x : Ls => isS k n key val x.s) HX.out HZ.out hfx)
        simp only [hfx] at F
        clear hfx
        go_wp2_with (go_at_call 60; (with_reducible refine (F.out _ (HBA.out _)).mono ?_); rintro e w1 ⟨rfl, hb1⟩; have HB1 := Lib.hid ((HBA.out _).trans (hb1.mono (HBA.out _).size)); clear hb1)
        go_roundw
        case rel => exact ⟨j + 1, by go_num, by omega, HP, Lib.hid (HBB.out.trans (HB1.out.mono HBB.out.size))⟩
        case measure => simp [intOf]; omega
      · have HP := Lib.hid (any_hit (p := fun x : Ls => isS k n key val x.s) HX.out hfx)
        simp only [hfx] at F
        clear hfx
        go_wp2_with (go_at_call 60; (with_reducible refine (F.out _ (HBA.out _)).mono ?_); rintro e w1 ⟨rfl, hb1⟩; have HB1 := Lib.hid ((HBA.out _).trans (hb1.mono (HBA.out _).size)); clear hb1)
        go_ret
        exact ⟨by rw [← HI.out, HP.out]; rfl, HB.out.trans (HB1.out.mono HB.out.size)⟩
    · obtain rfl : j = ln := by omega
      have HF := Lib.hid (any_none (p := fun x : Ls => isS k n key val x.s) (by rw [HN.out]; exact Nat.le_refl _) HZ.out)
      go_wp2_with fail
      go_ret
      exact ⟨by rw [← HI.out, HF.out]; rfl, HB.out⟩

end Go.Proofs.Ytenioeppmgmdiaa
