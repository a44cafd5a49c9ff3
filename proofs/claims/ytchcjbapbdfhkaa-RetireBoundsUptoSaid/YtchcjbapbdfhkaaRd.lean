/- A reader of bytes: its methods. -/
import Derived.Test.YtchcjbapbdfhkaaGtx
import Derived.Test.YtchcjbapbdfhkaaPut
import Derived.Test.YtchcjbapbdfhkaaOt
import Derived.LoopTactic
import Derived.BigQuiet
namespace Go.Proofs.Ytchcjbapbdfhkaa
open Go.RowKit
set_option linter.unusedVariables false
set_option maxRecDepth 100000

namespace Rm
/-- What a reader has left, and whether it is bad. -/
abbrev R := List UInt8 × Bool
def fail : R := ([], true)
def wide (r : R) : Nat × R := if (Mi.get r.1).2.2 then ((Mi.get r.1).1, (r.1.drop (Mi.get r.1).2.1, r.2)) else (0, fail)
def text (r : R) : List UInt8 × R := if (Mi.gettext r.1).2.2 then ((Mi.gettext r.1).1, (r.1.drop (Mi.gettext r.1).2.1, r.2)) else ([], fail)
def num (r : R) : Nat × R := if 9223372036854775807 < (wide r).1 then (0, fail) else wide r
def flag (r : R) : Bool × R := (decide ((num r).1 = 1), if 1 < (num r).1 then fail else (num r).2)
end Rm

/-- A reader in block g: what is left lies below B. -/
structure RSt (w : World) (B g : Nat) (r : Rm.R) : Prop where
  cell : ∃ (A : Option Addr) (n c : Nat), w.heap[g]? = some (.cells #[.slice A n c, .bool r.2] 82) ∧ n = r.1.length ∧ Rd w B A (r.1.map B8) ∧ n ≤ c ∧ n ≤ 140737488351232 ∧ c ≤ maxLen
  lt : B ≤ g
theorem grown_set (w : World) (g i : Nat) (v : Value) : w.grownBy (w.setCell ⟨g, i, none⟩ v) (some g) := ⟨rfl, rfl, rfl, by simp, fun k _ hk => Below.heap_setCell w ⟨g, i, none⟩ v k (fun e => hk (by rw [e]))⟩
theorem grown_trans {w w1 w2 : World} {r : Option Nat} (h : w.grownBy w1 r) (k : w1.grownBy w2 r) : w.grownBy w2 r := ⟨k.os.trans h.os, k.tape.trans h.tape, k.output.trans h.output, Nat.le_trans h.size k.size, fun i hi hne => (k.block i (Nat.lt_of_lt_of_le hi h.size) hne).trans (h.block i hi hne)⟩
theorem grown_refl (w : World) (r : Option Nat) : w.grownBy w r := ⟨rfl, rfl, rfl, Nat.le_refl _, fun _ _ _ => rfl⟩
theorem Rd.grown {w w' : World} {B g : Nat} {A : Option Addr} {xs : List Value} (h : Rd w B A xs) (hg : w.grownBy w' (some g)) (hB : B ≤ g) (hz : B ≤ w.heap.size) : Rd w' B A xs :=
  h.keep fun p hp => World.cell?_of_block (hg.block p.block (by omega) (fun e => by injection e with e; omega))
theorem setCell2 (w : World) (g : Nat) (x y u v : Value) (h : w.heap[g]? = some (.cells #[x, y] 82)) : ((w.setCell ⟨g, 0, none⟩ u).setCell ⟨g, 1, none⟩ v).heap[g]? = some (.cells #[u, v] 82) :=
  heap_setCell_same _ g 1 _ _ v (heap_setCell_same w g 0 _ _ u h)

set_option maxHeartbeats 2000000 in
theorem fail_any (g B : Nat) (r : Rm.R) (w : World) (h : RSt w B g r) :
    Calls Try.prog 86 #[.pointer (some ⟨g, 0, none⟩)] w fun e w' => e = .returned (.tuple #[]) ∧ RSt w' B g Rm.fail ∧ w.grownBy w' (some g) := by
  obtain ⟨⟨A, n, c, hx, hn, hr, hc⟩, hB⟩ := h
  obtain ⟨rest, bad⟩ := r
  simp only at hx hn hr
  have HX := Lib.hid hx
  have c0 : w.cell? ⟨g, 0, none⟩ = some (.slice A n c) := cell_of_row _ _ 0 _ _ (0, 0) hx
  have c1 : w.cell? ⟨g, 1, none⟩ = some (.bool bad) := cell_of_row _ _ 1 _ _ (0, 0) hx
  have f0 : w.frozen? ⟨g, 0, none⟩ = false := by simp [World.frozen?, hx]
  have f1 : w.frozen? ⟨g, 1, none⟩ = false := by simp [World.frozen?, hx]
  clear hx hn hr
  go_enter Try.func86, Try.ntmps86
  go_wp2_with fail
  go_end0
  exact ⟨rfl, ⟨⟨none, 0, 0, setCell2 _ _ _ _ _ _ HX.out, rfl, Rd.nil, Nat.le_refl _, Nat.zero_le _, Nat.zero_le _⟩, hB⟩, grown_trans (grown_set _ _ _ _) (grown_set _ _ _ _)⟩

theorem gettext_len (l : List UInt8) : (Mi.gettext l).2.1 ≤ l.length := by
  unfold Mi.gettext
  have := Mi.get_len l
  (try simp only)
  split
  · rename_i h
    (try simp only)
    omega
  · exact Nat.zero_le _

set_option maxHeartbeats 4000000 in
theorem wide_any (g B : Nat) (r : Rm.R) (w : World) (h : RSt w B g r) :
    Calls Try.prog 85 #[.pointer (some ⟨g, 0, none⟩)] w fun e w' => e = .returned (.int .u64 ((Rm.wide r).1 : Int)) ∧ RSt w' B g (Rm.wide r).2 ∧ w.grownBy w' (some g) := by
  have hw := h
  obtain ⟨⟨A, n, c, hx, hn, hr, hc1, hc2, hc3⟩, hB⟩ := h
  have hgl := in_heap hx
  obtain ⟨rest, bad⟩ := r
  simp only at hx hn hr
  have HX := Lib.hid hx
  have c0 : w.cell? ⟨g, 0, none⟩ = some (.slice A n c) := cell_of_row _ _ 0 _ _ (0, 0) hx
  have f0 : w.frozen? ⟨g, 0, none⟩ = false := by simp [World.frozen?, hx]
  have G := Lib.hid (getN A rest n c B w hn hr (by rw [← hn]; omega))
  have HR := Lib.hid hr
  have HN := Lib.hid hn
  have hkl := Mi.get_len rest
  have HM : Hid (Rm.wide (rest, bad) = if (Mi.get rest).2.2 then ((Mi.get rest).1, (rest.drop (Mi.get rest).2.1, bad)) else (0, Rm.fail)) := rfl
  rcases hg : Mi.get rest with ⟨v, k, ok⟩
  rw [hg] at G HM hkl
  simp only at G HM hkl
  rw [← hn] at hkl
  cases ok
  · have HM2 : Hid (Rm.wide (rest, bad) = (0, Rm.fail)) := Lib.hid (by rw [HM.out]; rfl)
    rw [HM2.out]
    have HF := Lib.hid (fail_any g B (rest, bad) w hw)
    clear hx hn hr HM hg hw
    go_enter Try.func85, Try.ntmps85
    go_wp2_with (first
      | (go_at_call 105; (with_reducible refine (G.out).mono ?_); rintro e w1 ⟨rfl, rfl⟩)
      | (go_at_call 86; (with_reducible refine (HF.out).mono ?_); rintro e w2 ⟨rfl, hr2, hg2⟩; have HR2 := Lib.hid hr2; have HG2 := Lib.hid hg2; clear hr2 hg2))
    go_ret
    exact ⟨rfl, HR2.out, HG2.out⟩
  · have HM2 : Hid (Rm.wide (rest, bad) = (v, (rest.drop k, bad))) := Lib.hid (by rw [HM.out]; rfl)
    rw [HM2.out]
    have hpos : 0 < rest.length := by
      rcases Nat.eq_zero_or_pos rest.length with h0 | h0
      · rw [List.eq_nil_of_length_eq_zero h0] at hg
        cases hg
      · exact h0
    obtain ⟨a, ha, hab, hcc⟩ := hr (by rw [List.length_map]; exact hpos)
    subst ha
    clear hg HM
    have hcz : c = k ∨ k < c := by omega
    rcases hcz with hck | hck
    · have hnk : n = k := by omega
      subst hck
      subst hnk
      have HDR : Hid (rest.drop n = []) := Lib.hid (by rw [HN.out, List.drop_length])
      rw [HDR.out]
      clear hx hn hr hw hcc
      go_enter Try.func85, Try.ntmps85
      go_wp2_with (go_at_call 105; (with_reducible refine (G.out).mono ?_); rintro e w1 ⟨rfl, rfl⟩)
      (try simp only [Nat.sub_self])
      go_ret
      exact ⟨rfl, ⟨⟨some a, 0, 0, heap_setCell_same _ g 0 _ _ _ HX.out, rfl, Rd.nil, Nat.le_refl _, Nat.zero_le _, Nat.zero_le _⟩, hB⟩, grown_set _ _ _ _⟩
    · have hne : (c = k) = False := by simp; omega
      have HD : Hid (Rd w B (some (a.add k)) ((rest.drop k).map B8)) := Lib.hid (by
        have := HR.out.drop (k := k) (cap := c) (by rw [List.length_map, ← HN.out]; exact hc1)
        rw [if_neg (by omega)] at this
        rw [List.map_drop]
        exact this)
      clear hx hn hr hw hcc
      go_enter Try.func85, Try.ntmps85
      go_wp2_with (go_at_call 105; (with_reducible refine (G.out).mono ?_); rintro e w1 ⟨rfl, rfl⟩)
      go_ret
      exact ⟨rfl, ⟨⟨some (a.add k), n - k, c - k, heap_setCell_same _ g 0 _ _ _ HX.out, by rw [List.length_drop, HN.out], HD.out.grown (grown_set _ _ _ _) hB (Nat.le_of_lt (Nat.lt_of_le_of_lt hB hgl)), by omega, by omega, by omega⟩, hB⟩, grown_set _ _ _ _⟩

set_option maxHeartbeats 4000000 in
theorem text_any (g B : Nat) (r : Rm.R) (w : World) (h : RSt w B g r) :
    Calls Try.prog 106 #[.pointer (some ⟨g, 0, none⟩)] w fun e w' => e = .returned (.string (S8 (Rm.text r).1)) ∧ RSt w' B g (Rm.text r).2 ∧ w.grownBy w' (some g) := by
  have hw := h
  obtain ⟨⟨A, n, c, hx, hn, hr, hc1, hc2, hc3⟩, hB⟩ := h
  have hgl := in_heap hx
  obtain ⟨rest, bad⟩ := r
  simp only at hx hn hr
  have HX := Lib.hid hx
  have c0 : w.cell? ⟨g, 0, none⟩ = some (.slice A n c) := cell_of_row _ _ 0 _ _ (0, 0) hx
  have f0 : w.frozen? ⟨g, 0, none⟩ = false := by simp [World.frozen?, hx]
  have G := Lib.hid (gettextN A rest n c B w hn hr (by rw [← hn]; omega) (by rw [← hn]; exact hc1))
  have HR := Lib.hid hr
  have HN := Lib.hid hn
  have hkl := gettext_len rest
  have HM : Hid (Rm.text (rest, bad) = if (Mi.gettext rest).2.2 then ((Mi.gettext rest).1, (rest.drop (Mi.gettext rest).2.1, bad)) else ([], Rm.fail)) := rfl
  rcases hg : Mi.gettext rest with ⟨v, k, ok⟩
  rw [hg] at G HM hkl
  simp only at G HM hkl
  rw [← hn] at hkl
  cases ok
  · have HM2 : Hid (Rm.text (rest, bad) = ([], Rm.fail)) := Lib.hid (by rw [HM.out]; rfl)
    rw [HM2.out]
    have HF := Lib.hid (fail_any g B (rest, bad) w hw)
    clear hx hn hr HM hg hw
    go_enter Try.func106, Try.ntmps106
    go_wp2_with (first
      | (go_at_call 117; (with_reducible refine (G.out).mono ?_); rintro e w1 ⟨rfl, rfl⟩)
      | (go_at_call 86; (with_reducible refine (HF.out).mono ?_); rintro e w2 ⟨rfl, hr2, hg2⟩; have HR2 := Lib.hid hr2; have HG2 := Lib.hid hg2; clear hr2 hg2))
    go_ret
    exact ⟨rfl, HR2.out, HG2.out⟩
  · have HM2 : Hid (Rm.text (rest, bad) = (v, (rest.drop k, bad))) := Lib.hid (by rw [HM.out]; rfl)
    rw [HM2.out]
    have hpos : 0 < rest.length := by
      rcases Nat.eq_zero_or_pos rest.length with h0 | h0
      · rw [List.eq_nil_of_length_eq_zero h0] at hg
        cases hg
      · exact h0
    obtain ⟨a, ha, hab, hcc⟩ := hr (by rw [List.length_map]; exact hpos)
    subst ha
    clear hg HM
    have hcz : c = k ∨ k < c := by omega
    rcases hcz with hck | hck
    · have hnk : n = k := by omega
      subst hck
      subst hnk
      have HDR : Hid (rest.drop n = []) := Lib.hid (by rw [HN.out, List.drop_length])
      rw [HDR.out]
      clear hx hn hr hw hcc
      go_enter Try.func106, Try.ntmps106
      go_wp2_with (go_at_call 117; (with_reducible refine (G.out).mono ?_); rintro e w1 ⟨rfl, rfl⟩)
      (try simp only [Nat.sub_self])
      go_ret
      exact ⟨rfl, ⟨⟨some a, 0, 0, heap_setCell_same _ g 0 _ _ _ HX.out, rfl, Rd.nil, Nat.le_refl _, Nat.zero_le _, Nat.zero_le _⟩, hB⟩, grown_set _ _ _ _⟩
    · have hne : (c = k) = False := by simp; omega
      have HD : Hid (Rd w B (some (a.add k)) ((rest.drop k).map B8)) := Lib.hid (by
        have := HR.out.drop (k := k) (cap := c) (by rw [List.length_map, ← HN.out]; exact hc1)
        rw [if_neg (by omega)] at this
        rw [List.map_drop]
        exact this)
      clear hx hn hr hw hcc
      go_enter Try.func106, Try.ntmps106
      go_wp2_with (go_at_call 117; (with_reducible refine (G.out).mono ?_); rintro e w1 ⟨rfl, rfl⟩)
      go_ret
      exact ⟨rfl, ⟨⟨some (a.add k), n - k, c - k, heap_setCell_same _ g 0 _ _ _ HX.out, by rw [List.length_drop, HN.out], HD.out.grown (grown_set _ _ _ _) hB (Nat.le_of_lt (Nat.lt_of_le_of_lt hB hgl)), by omega, by omega, by omega⟩, hB⟩, grown_set _ _ _ _⟩

theorem wide_lt (r : Rm.R) : (Rm.wide r).1 < 18446744073709551616 := by
  unfold Rm.wide
  have := Mi.get_lt r.1
  split
  · exact this
  · omega
theorem num_lt (r : Rm.R) : (Rm.num r).1 ≤ 9223372036854775807 := by
  unfold Rm.num
  split
  · exact Nat.zero_le _
  · omega
set_option maxHeartbeats 4000000 in
theorem num_any (g B : Nat) (r : Rm.R) (w : World) (h : RSt w B g r) :
    Calls Try.prog 51 #[.pointer (some ⟨g, 0, none⟩)] w fun e w' => e = .returned (.int .i64 ((Rm.num r).1 : Int)) ∧ RSt w' B g (Rm.num r).2 ∧ w.grownBy w' (some g) := by
  have HW := Lib.hid (wide_any g B r w h)
  have hlt := wide_lt r
  have HM : Hid (Rm.num r = if 9223372036854775807 < (Rm.wide r).1 then (0, Rm.fail) else Rm.wide r) := rfl
  clear h
  rcases hg : Rm.wide r with ⟨v, r1⟩
  rw [hg] at HW HM hlt
  simp only at HW HM hlt
  by_cases hv : 9223372036854775807 < v
  · have HM2 : Hid (Rm.num r = (0, Rm.fail)) := Lib.hid (by rw [HM.out, if_pos hv])
    rw [HM2.out]
    have hd : decide ((9223372036854775807 : Int) < (v : Int)) = true := decide_eq_true (by omega)
    clear hv hg HM hlt
    generalize (v : Int) = vi at *
    go_enter Try.func51, Try.ntmps51
    go_wp2_with (first
      | (go_at_call 85; (with_reducible refine (HW.out).mono ?_); rintro e w1 ⟨rfl, hr1, hg1⟩; have HG1 := Lib.hid hg1; have HF := Lib.hid (fail_any g B r1 w1 hr1); clear hr1 hg1)
      | (go_at_call 86; (with_reducible refine (HF.out).mono ?_); rintro e w2 ⟨rfl, hr2, hg2⟩; have HR2 := Lib.hid hr2; have HG2 := Lib.hid hg2; clear hr2 hg2))
    go_ret
    exact ⟨rfl, HR2.out, grown_trans HG1.out HG2.out⟩
  · have HM2 : Hid (Rm.num r = (v, r1)) := Lib.hid (by rw [HM.out, if_neg hv])
    rw [HM2.out]
    have hd : decide ((9223372036854775807 : Int) < (v : Int)) = false := decide_eq_false (by omega)
    have hv0 : (0 : Int) ≤ (v : Int) := by omega
    have hv1 : (v : Int) ≤ 9223372036854775807 := by omega
    clear hv hg HM hlt HM2
    generalize (v : Int) = vi at *
    go_enter Try.func51, Try.ntmps51
    go_wp2_with (go_at_call 85; (with_reducible refine (HW.out).mono ?_); rintro e w1 ⟨rfl, hr1, hg1⟩; have HG1 := Lib.hid hg1; have HR1 := Lib.hid hr1; clear hr1 hg1)
    go_ret
    exact ⟨rfl, HR1.out, HG1.out⟩
end Go.Proofs.Ytchcjbapbdfhkaa
