/- The document's Reader: Num, Text, Int. -/
import Derived.Test.YthkclgkbidhmbaaRd
import Derived.Test.YthkclgkbidhmbaaRf
namespace Go.Proofs.Ythkclgkbidhmbaa
open Go.RowKit
set_option linter.unusedVariables false
set_option maxRecDepth 100000

namespace Dm
def num (r : Rm.R) : Nat × Rm.R := if r.2 = false ∧ (Mi.get r.1).2.2 = true then ((Mi.get r.1).1, (r.1.drop (Mi.get r.1).2.1, false)) else (0, (r.1, true))
def text (r : Rm.R) : List UInt8 × Rm.R := if r.2 = false ∧ (Mi.gettext r.1).2.2 = true then ((Mi.gettext r.1).1, (r.1.drop (Mi.gettext r.1).2.1, false)) else ([], (r.1, true))
def int (most : Nat) (r : Rm.R) : Nat × Rm.R := if most < (num r).1 then (0, ((num r).2.1, true)) else num r
end Dm
/-- The document's reader in block g: what is left lies below B. -/
structure DSt (w : World) (B g : Nat) (r : Rm.R) : Prop where
  cell : ∃ (A : Option Addr) (n c : Nat), w.heap[g]? = some (.cells #[.slice A n c, .bool r.2] 93) ∧ n = r.1.length ∧ Rd w B A (r.1.map B8) ∧ n ≤ c ∧ n ≤ 140737488351232 ∧ c ≤ maxLen
  lt : B ≤ g
theorem DSt.keep {w w' : World} {B g : Nat} {r : Rm.R} {row : Option Nat} (h : DSt w B g r) (hg : w.grownBy w' row) (h1 : row ≠ some g) (h2 : ∀ j, row = some j → B ≤ j) : DSt w' B g r := by
  obtain ⟨⟨A, n, c, hx, hn, hr, hc⟩, hB⟩ := h
  have hgl := in_heap hx
  exact ⟨⟨A, n, c, (hg.block g hgl (Ne.symm h1)).trans hx, hn, hr.keep (fun p hp => World.cell?_of_block (hg.block p.block (by omega) (fun e => by have := h2 _ e.symm; omega))), hc⟩, hB⟩
theorem DSt.bad {w : World} {B g : Nat} {r : Rm.R} (h : DSt w B g r) : DSt (w.setCell ⟨g, 1, none⟩ (.bool true)) B g (r.1, true) := by
  obtain ⟨⟨A, n, c, hx, hn, hr, hc⟩, hB⟩ := h
  have hgl := in_heap hx
  exact ⟨⟨A, n, c, heap_setCell_same _ g 1 _ _ _ hx, hn, hr.keep (fun p hp => World.cell?_of_block ((grown_set w g 1 (.bool true)).block p.block (by omega) (fun e => by injection e with e; omega))), hc⟩, hB⟩
theorem rgetN (A : Option Addr) (l : List UInt8) (n c B : Nat) (w : World) (hn : n = l.length) (hb : Rd w B A (l.map B8)) (hl : l.length ≤ 140737488355328) :
    Calls Try.prog 17 #[.slice A n c] w fun e w' => e = .returned (.tuple #[.int .u64 (Mi.get l).1, .int .i64 (Mi.get l).2.1, .bool (Mi.get l).2.2]) ∧ w = w' := by
  subst hn; exact rget_calls A l c B w hb hl
theorem rgettextN (A : Option Addr) (l : List UInt8) (n c B : Nat) (w : World) (hn : n = l.length) (hb : Rd w B A (l.map B8)) (hl : l.length ≤ 140737488355328) (hc : l.length ≤ c) :
    Calls Try.prog 19 #[.slice A n c] w fun e w' => e = .returned (.tuple #[.string (S8 (Mi.gettext l).1), .int .i64 (Mi.gettext l).2.1, .bool (Mi.gettext l).2.2]) ∧ w = w' := by
  subst hn; exact rgettext_calls A l c B w hb hl hc
set_option maxHeartbeats 4000000 in
theorem dnum_any (g B : Nat) (r : Rm.R) (w : World) (h : DSt w B g r) :
    Calls Try.prog 87 #[.pointer (some ⟨g, 0, none⟩)] w fun e w' => e = .returned (.int .u64 ((Dm.num r).1 : Int)) ∧ DSt w' B g (Dm.num r).2 ∧ w.grownBy w' (some g) := by
  obtain ⟨⟨A, n, c, hx, hn, hr, hc1, hc2, hc3⟩, hB⟩ := h
  have hgl := in_heap hx
  obtain ⟨rest, bad⟩ := r
  simp only at hx hn hr
  have HX := Lib.hid hx
  have c0 : w.cell? ⟨g, 0, none⟩ = some (.slice A n c) := cell_of_row _ _ 0 _ _ (0, 0) hx
  have c1 : w.cell? ⟨g, 1, none⟩ = some (.bool bad) := cell_of_row _ _ 1 _ _ (0, 0) hx
  have f0 : w.frozen? ⟨g, 0, none⟩ = false := by simp [World.frozen?, hx]
  have f1 : w.frozen? ⟨g, 1, none⟩ = false := by simp [World.frozen?, hx]
  have G := Lib.hid (rgetN A rest n c B w hn hr (by rw [← hn]; omega))
  have HR := Lib.hid hr
  have HN := Lib.hid hn
  have hkl : (Mi.get rest).2.1 ≤ rest.length := Mi.get_len rest
  have HM : Hid (Dm.num (rest, bad) = if bad = false ∧ (Mi.get rest).2.2 = true then ((Mi.get rest).1, (rest.drop (Mi.get rest).2.1, false)) else (0, (rest, true))) := rfl
  rcases hg : Mi.get rest with ⟨v, k, ok⟩
  rw [hg] at G HM hkl
  simp only at G HM hkl
  rw [← hn] at hkl
  have hcc : bad = true ∨ (bad = false ∧ ok = false) ∨ (bad = false ∧ ok = true) := by cases bad <;> cases ok <;> simp
  rcases hcc with rfl | ⟨rfl, rfl⟩ | ⟨rfl, rfl⟩
  · have HM2 : Hid (Dm.num (rest, true) = (0, (rest, true))) := Lib.hid (by rw [HM.out, if_neg (by simp)])
    rw [HM2.out]
    clear hx hn hr HM hg
    go_enter Try.func87, Try.ntmps87
    go_wp2_with (go_at_call 17; (with_reducible refine (G.out).mono ?_); rintro e w1 ⟨rfl, rfl⟩)
    go_ret
    exact ⟨rfl, ⟨⟨A, n, c, heap_setCell_same _ g 1 _ _ _ HX.out, HN.out, HR.out.keep (fun p hp => World.cell?_of_block ((grown_set w g 1 (.bool true)).block p.block (by omega) (fun e => by injection e with e; omega))), hc1, hc2, hc3⟩, hB⟩, grown_set _ _ _ _⟩
  · have HM2 : Hid (Dm.num (rest, false) = (0, (rest, true))) := Lib.hid (by rw [HM.out, if_neg (by simp)])
    rw [HM2.out]
    clear hx hn hr HM hg
    go_enter Try.func87, Try.ntmps87
    go_wp2_with (go_at_call 17; (with_reducible refine (G.out).mono ?_); rintro e w1 ⟨rfl, rfl⟩)
    go_ret
    exact ⟨rfl, ⟨⟨A, n, c, heap_setCell_same _ g 1 _ _ _ HX.out, HN.out, HR.out.keep (fun p hp => World.cell?_of_block ((grown_set w g 1 (.bool true)).block p.block (by omega) (fun e => by injection e with e; omega))), hc1, hc2, hc3⟩, hB⟩, grown_set _ _ _ _⟩
  · have HM2 : Hid (Dm.num (rest, false) = (v, (rest.drop k, false))) := Lib.hid (by rw [HM.out, if_pos ⟨rfl, rfl⟩])
    rw [HM2.out]
    have hpos : 0 < rest.length := by
      rcases Nat.eq_zero_or_pos rest.length with h0 | h0
      · rw [List.eq_nil_of_length_eq_zero h0] at hg
        cases hg
      · exact h0
    obtain ⟨a, ha, hab, hcc⟩ := hr (by rw [List.length_map]; exact hpos)
    subst ha
    clear hg HM
    have hcz : c = k ∨ k < c := by omega
    rcases hcz with hck | hck
    · have hnk : n = k := by omega
      subst hck
      subst hnk
      have HDR : Hid (rest.drop n = []) := Lib.hid (by rw [HN.out, List.drop_length])
      rw [HDR.out]
      clear hx hn hr hcc
      go_enter Try.func87, Try.ntmps87
      go_wp2_with (go_at_call 17; (with_reducible refine (G.out).mono ?_); rintro e w1 ⟨rfl, rfl⟩)
      (try simp only [Nat.sub_self])
      go_ret
      exact ⟨rfl, ⟨⟨some a, 0, 0, heap_setCell_same _ g 0 _ _ _ HX.out, rfl, Rd.nil, Nat.le_refl _, Nat.zero_le _, Nat.zero_le _⟩, hB⟩, grown_set _ _ _ _⟩
    · have hne : (c = k) = False := by simp; omega
      have HD : Hid (Rd w B (some (a.add k)) ((rest.drop k).map B8)) := Lib.hid (by
        have := HR.out.drop (k := k) (cap := c) (by rw [List.length_map, ← HN.out]; exact hc1)
        rw [if_neg (by omega)] at this
        rw [List.map_drop]
        exact this)
      clear hx hn hr hcc
      go_enter Try.func87, Try.ntmps87
      go_wp2_with (go_at_call 17; (with_reducible refine (G.out).mono ?_); rintro e w1 ⟨rfl, rfl⟩)
      go_ret
      exact ⟨rfl, ⟨⟨some (a.add k), n - k, c - k, heap_setCell_same _ g 0 _ _ _ HX.out, by rw [List.length_drop, HN.out], HD.out.grown (grown_set _ _ _ _) hB (Nat.le_of_lt (Nat.lt_of_le_of_lt hB hgl)), by omega, by omega, by omega⟩, hB⟩, grown_set _ _ _ _⟩
set_option maxHeartbeats 4000000 in
theorem dtext_any (g B : Nat) (r : Rm.R) (w : World) (h : DSt w B g r) :
    Calls Try.prog 88 #[.pointer (some ⟨g, 0, none⟩)] w fun e w' => e = .returned (.string (S8 (Dm.text r).1)) ∧ DSt w' B g (Dm.text r).2 ∧ w.grownBy w' (some g) := by
  obtain ⟨⟨A, n, c, hx, hn, hr, hc1, hc2, hc3⟩, hB⟩ := h
  have hgl := in_heap hx
  obtain ⟨rest, bad⟩ := r
  simp only at hx hn hr
  have HX := Lib.hid hx
  have c0 : w.cell? ⟨g, 0, none⟩ = some (.slice A n c) := cell_of_row _ _ 0 _ _ (0, 0) hx
  have c1 : w.cell? ⟨g, 1, none⟩ = some (.bool bad) := cell_of_row _ _ 1 _ _ (0, 0) hx
  have f0 : w.frozen? ⟨g, 0, none⟩ = false := by simp [World.frozen?, hx]
  have f1 : w.frozen? ⟨g, 1, none⟩ = false := by simp [World.frozen?, hx]
  have G := Lib.hid (rgettextN A rest n c B w hn hr (by rw [← hn]; omega) (by rw [← hn]; exact hc1))
  have HR := Lib.hid hr
  have HN := Lib.hid hn
  have hkl : (Mi.gettext rest).2.1 ≤ rest.length := gettext_len rest
  have HM : Hid (Dm.text (rest, bad) = if bad = false ∧ (Mi.gettext rest).2.2 = true then ((Mi.gettext rest).1, (rest.drop (Mi.gettext rest).2.1, false)) else ([], (rest, true))) := rfl
  rcases hg : Mi.gettext rest with ⟨v, k, ok⟩
  rw [hg] at G HM hkl
  simp only at G HM hkl
  rw [← hn] at hkl
  have hcc : bad = true ∨ (bad = false ∧ ok = false) ∨ (bad = false ∧ ok = true) := by cases bad <;> cases ok <;> simp
  rcases hcc with rfl | ⟨rfl, rfl⟩ | ⟨rfl, rfl⟩
  · have HM2 : Hid (Dm.text (rest, true) = ([], (rest, true))) := Lib.hid (by rw [HM.out, if_neg (by simp)])
    rw [HM2.out]
    clear hx hn hr HM hg
    go_enter Try.func88, Try.ntmps88
    go_wp2_with (go_at_call 19; (with_reducible refine (G.out).mono ?_); rintro e w1 ⟨rfl, rfl⟩)
    go_ret
    exact ⟨rfl, ⟨⟨A, n, c, heap_setCell_same _ g 1 _ _ _ HX.out, HN.out, HR.out.keep (fun p hp => World.cell?_of_block ((grown_set w g 1 (.bool true)).block p.block (by omega) (fun e => by injection e with e; omega))), hc1, hc2, hc3⟩, hB⟩, grown_set _ _ _ _⟩
  · have HM2 : Hid (Dm.text (rest, false) = ([], (rest, true))) := Lib.hid (by rw [HM.out, if_neg (by simp)])
    rw [HM2.out]
    clear hx hn hr HM hg
    go_enter Try.func88, Try.ntmps88
    go_wp2_with (go_at_call 19; (with_reducible refine (G.out).mono ?_); rintro e w1 ⟨rfl, rfl⟩)
    go_ret
    exact ⟨rfl, ⟨⟨A, n, c, heap_setCell_same _ g 1 _ _ _ HX.out, HN.out, HR.out.keep (fun p hp => World.cell?_of_block ((grown_set w g 1 (.bool true)).block p.block (by omega) (fun e => by injection e with e; omega))), hc1, hc2, hc3⟩, hB⟩, grown_set _ _ _ _⟩
  · have HM2 : Hid (Dm.text (rest, false) = (v, (rest.drop k, false))) := Lib.hid (by rw [HM.out, if_pos ⟨rfl, rfl⟩])
    rw [HM2.out]
    have hpos : 0 < rest.length := by
      rcases Nat.eq_zero_or_pos rest.length with h0 | h0
      · rw [List.eq_nil_of_length_eq_zero h0] at hg
        cases hg
      · exact h0
    obtain ⟨a, ha, hab, hcc⟩ := hr (by rw [List.length_map]; exact hpos)
    subst ha
    clear hg HM
    have hcz : c = k ∨ k < c := by omega
    rcases hcz with hck | hck
    · have hnk : n = k := by omega
      subst hck
      subst hnk
      have HDR : Hid (rest.drop n = []) := Lib.hid (by rw [HN.out, List.drop_length])
      rw [HDR.out]
      clear hx hn hr hcc
      go_enter Try.func88, Try.ntmps88
      go_wp2_with (go_at_call 19; (with_reducible refine (G.out).mono ?_); rintro e w1 ⟨rfl, rfl⟩)
      (try simp only [Nat.sub_self])
      go_ret
      exact ⟨rfl, ⟨⟨some a, 0, 0, heap_setCell_same _ g 0 _ _ _ HX.out, rfl, Rd.nil, Nat.le_refl _, Nat.zero_le _, Nat.zero_le _⟩, hB⟩, grown_set _ _ _ _⟩
    · have hne : (c = k) = False := by simp; omega
      have HD : Hid (Rd w B (some (a.add k)) ((rest.drop k).map B8)) := Lib.hid (by
        have := HR.out.drop (k := k) (cap := c) (by rw [List.length_map, ← HN.out]; exact hc1)
        rw [if_neg (by omega)] at this
        rw [List.map_drop]
        exact this)
      clear hx hn hr hcc
      go_enter Try.func88, Try.ntmps88
      go_wp2_with (go_at_call 19; (with_reducible refine (G.out).mono ?_); rintro e w1 ⟨rfl, rfl⟩)
      go_ret
      exact ⟨rfl, ⟨⟨some (a.add k), n - k, c - k, heap_setCell_same _ g 0 _ _ _ HX.out, by rw [List.length_drop, HN.out], HD.out.grown (grown_set _ _ _ _) hB (Nat.le_of_lt (Nat.lt_of_le_of_lt hB hgl)), by omega, by omega, by omega⟩, hB⟩, grown_set _ _ _ _⟩
theorem dnum_lt (r : Rm.R) : (Dm.num r).1 < 18446744073709551616 := by
  unfold Dm.num
  have := Mi.get_lt r.1
  split
  · exact this
  · omega
set_option maxHeartbeats 4000000 in
theorem dint_any (g B most : Nat) (r : Rm.R) (w : World) (h : DSt w B g r) (hm : most ≤ 4611686018427387904) :
    Calls Try.prog 80 #[.pointer (some ⟨g, 0, none⟩), .int .i64 (most : Int)] w fun e w' => e = .returned (.int .i64 ((Dm.int most r).1 : Int)) ∧ DSt w' B g (Dm.int most r).2 ∧ w.grownBy w' (some g) := by
  have HW := Lib.hid (dnum_any g B r w h)
  have HM : Hid (Dm.int most r = if most < (Dm.num r).1 then (0, ((Dm.num r).2.1, true)) else Dm.num r) := rfl
  have hlt := dnum_lt r
  clear h
  rcases hg : Dm.num r with ⟨v, r1⟩
  rw [hg] at HW HM hlt
  simp only at HW HM hlt
  have e0 : (0 : Int) ≤ (most : Int) := by omega
  have e1 : (most : Int) ≤ 4611686018427387904 := by omega
  by_cases hv : most < v
  · have HM2 : Hid (Dm.int most r = (0, (r1.1, true))) := Lib.hid (by rw [HM.out, if_pos hv])
    rw [HM2.out]
    have hd : decide ((most : Int) < (v : Int)) = true := decide_eq_true (by omega)
    clear hv hg HM hlt HM2 hm
    generalize (v : Int) = vi at *
    generalize (most : Int) = mi at *
    go_enter Try.func80, Try.ntmps80
    go_wp2_with (go_at_call 87; (with_reducible refine (HW.out).mono ?_); rintro e w1 ⟨rfl, hr1, hg1⟩; have HG1 := Lib.hid hg1; have HR1 := Lib.hid hr1; obtain ⟨A, n, c, hx, _⟩ := hr1.cell; have HX := Lib.hid hx; have c1 : w1.cell? ⟨g, 1, none⟩ = some (.bool r1.2) := cell_of_row _ _ 1 _ _ (0, 0) hx; have f1 : w1.frozen? ⟨g, 1, none⟩ = false := (by simp [World.frozen?, hx]); clear hr1 hg1 hx)
    go_ret
    exact ⟨rfl, HR1.out.bad, grown_trans HG1.out (grown_set _ _ _ _)⟩
  · have HM2 : Hid (Dm.int most r = (v, r1)) := Lib.hid (by rw [HM.out, if_neg hv])
    rw [HM2.out]
    have hd : decide ((most : Int) < (v : Int)) = false := decide_eq_false (by omega)
    have hv0 : (0 : Int) ≤ (v : Int) := by omega
    have hv1 : (v : Int) ≤ 4611686018427387904 := by omega
    clear hv hg HM hlt HM2 hm
    generalize (v : Int) = vi at *
    generalize (most : Int) = mi at *
    go_enter Try.func80, Try.ntmps80
    go_wp2_with (go_at_call 87; (with_reducible refine (HW.out).mono ?_); rintro e w1 ⟨rfl, hr1, hg1⟩; have HG1 := Lib.hid hg1; have HR1 := Lib.hid hr1; clear hr1 hg1)
    go_ret
    exact ⟨rfl, HR1.out, HG1.out⟩
end Go.Proofs.Ythkclgkbidhmbaa
