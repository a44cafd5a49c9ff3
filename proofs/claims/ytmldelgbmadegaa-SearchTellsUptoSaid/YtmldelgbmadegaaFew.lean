/- Whether a span's texts are short enough, and whether all are, and few. -/
import Derived.Test.YtmldelgbmadegaaSp
import Derived.Test.YtmldelgbmadegaaBs
import Derived.BigQuiet
import Derived.LoopTactic
namespace Go.Proofs.Ytmldelgbmadegaa
open Go.RowKit
set_option linter.unusedVariables false

def shortA (a : ByteArray × ByteArray) : Bool := decide (a.1.size ≤ 100) && decide (a.2.size ≤ 100)
def few (s : Sp) : Bool := decide (s.sv.size ≤ 100) && (decide (s.op.size ≤ 100) && (decide (s.ats.length ≤ 20) && s.ats.all shortA))
def fewAll (l : List Ls) : Bool := decide (l.length ≤ 60) && l.all fun x => few x.s
theorem all_take_succ {α : Type} (p : α → Bool) (l : List α) (k : Nat) (x : α) (hx : l[k]? = some x) (h : (l.take k).all p = true) (hp : p x = true) : (l.take (k + 1)).all p = true := by
  rw [List.take_add_one, hx]
  simp [h, hp]
theorem all_not {α : Type} (p : α → Bool) (l : List α) (k : Nat) (x : α) (hx : l[k]? = some x) (hp : p x = false) : l.all p = false := by
  rw [List.all_eq_false]
  exact ⟨x, List.mem_of_getElem? hx, by simp [hp]⟩

set_option maxHeartbeats 4000000 in
set_option maxRecDepth 100000 in
theorem few_any (y : Ls) (B : Nat) (w : World) (hy : RdL w B y) (hB : B ≤ w.heap.size) :
    Calls Try.prog 43 #[.agg y.cells.toArray] w fun e w' => e = .returned (.bool (few y.s)) ∧ Below w.heap.size w w' := by
  obtain ⟨⟨hi, lo, id, pa, sv, op, st, du, er, ats⟩, aA, ac⟩ := y
  have hlc := hy.cap
  have hsv := hy.ok.sv
  have hop := hy.ok.op
  have HY := Lib.hid hy
  clear hy
  obtain ⟨hlc1, hlc2⟩ := hlc
  simp only [maxLen] at hlc1 hlc2 hsv hop
  have HF : Hid (few ⟨hi, lo, id, pa, sv, op, st, du, er, ats⟩ = (decide (sv.size ≤ 100) && (decide (op.size ≤ 100) && (decide (ats.length ≤ 20) && ats.all shortA)))) := rfl
  generalize few ⟨hi, lo, id, pa, sv, op, st, du, er, ats⟩ = fw at *
  simp only [Ls.cells]
  have HBW := Lib.hid ((Below.refl w.heap.size w).alloc (Nat.le_refl _) (.cells #[.int .u64 hi, .int .u64 lo, .int .u64 id, .int .u64 pa, .string sv, .string op, .int .i64 st, .int .i64 du, .bool er, .slice aA ats.length ac] 71))
  have hc : 100 < sv.size ∨ (sv.size ≤ 100 ∧ 100 < op.size) ∨ (sv.size ≤ 100 ∧ op.size ≤ 100 ∧ 20 < ats.length) ∨ (sv.size ≤ 100 ∧ op.size ≤ 100 ∧ ats.length ≤ 20) := by omega
  rcases hc with h1 | ⟨h1, h2⟩ | ⟨h1, h2, h3⟩ | ⟨h1, h2, h3⟩
  · have HQ : Hid (fw = false) := Lib.hid (by rw [HF.out]; simp; omega)
    go_enter Try.func43, Try.ntmps43
    go_wp2_with fail
    go_ret
    exact ⟨by rw [HQ.out] <;> rfl, HBW.out⟩
  · have HQ : Hid (fw = false) := Lib.hid (by rw [HF.out]; simp; omega)
    go_enter Try.func43, Try.ntmps43
    go_wp2_with fail
    go_ret
    exact ⟨by rw [HQ.out] <;> rfl, HBW.out⟩
  · have HQ : Hid (fw = false) := Lib.hid (by rw [HF.out]; simp; omega)
    go_enter Try.func43, Try.ntmps43
    go_wp2_with fail
    go_ret
    exact ⟨by rw [HQ.out] <;> rfl, HBW.out⟩
  · have HQ : Hid (fw = ats.all shortA) := Lib.hid (by rw [HF.out]; simp [h1, h2, h3])
    go_enter Try.func43, Try.ntmps43
    go_wp2_with fail
    have HA : Hid (RdL (w.alloc (.cells #[.int .u64 hi, .int .u64 lo, .int .u64 id, .int .u64 pa, .string sv, .string op, .int .i64 st, .int .i64 du, .bool er, .slice aA ats.length ac] 71)) B ⟨⟨hi, lo, id, pa, sv, op, st, du, er, ats⟩, aA, ac⟩) := Lib.hid (HY.out.keep fun p hp => World.cell?_alloc_lt w _ p (by omega))
    have h9 : (w.alloc (.cells #[.int .u64 hi, .int .u64 lo, .int .u64 id, .int .u64 pa, .string sv, .string op, .int .i64 st, .int .i64 du, .bool er, .slice aA ats.length ac] 71)).cell? ⟨w.heap.size, 9, none⟩ = some (.slice aA ats.length ac) := cell_of_row _ _ 9 _ _ (0, 0) (heap_alloc_new w _)
    generalize w.alloc (.cells #[.int .u64 hi, .int .u64 lo, .int .u64 id, .int .u64 pa, .string sv, .string op, .int .i64 st, .int .i64 du, .bool er, .slice aA ats.length ac] 71) = W at *
    generalize hB0 : w.heap.size = B0 at *
    have HB0 := Lib.hid hB0
    clear hB0
    obtain ⟨n, hn⟩ : ∃ n, ats.length = n := ⟨_, rfl⟩
    rw [hn] at h9 h3 hlc1
    have HN := Lib.hid hn
    clear hn HF HY
    go_loop [3] (fun i => ∃ k : Nat, i = .int .i64 k ∧ k ≤ n ∧ Hid ((ats.take k).all shortA = true)) (fun i => n - (intOf i).toNat)
    case atStart => exact ⟨0, rfl, by omega, Lib.hid (by simp)⟩
    case round =>
      obtain ⟨k, rfl, hk, HK⟩ := hrel
      by_cases hlt : k < n
      · obtain ⟨x, hx⟩ : ∃ x, ats[k]? = some x := ⟨_, List.getElem?_eq_getElem (by rw [HN.out]; exact hlt)⟩
        obtain ⟨a, ha, _, hc0, hc1, s1, s2⟩ := HA.out.attr hx
        have ha' : aA = some a := ha
        subst ha'
        obtain ⟨x1, x2⟩ := x
        simp only [maxLen] at s1 s2 hc0 hc1
        have hc1 := cell_far hc1 (by omega)
        have HX := Lib.hid hx
        clear hx ha
        have hcc : 100 < x1.size ∨ (x1.size ≤ 100 ∧ 100 < x2.size) ∨ (x1.size ≤ 100 ∧ x2.size ≤ 100) := by omega
        rcases hcc with g1 | ⟨g1, g2⟩ | ⟨g1, g2⟩
        · have HP := Lib.hid (all_not shortA ats k (x1, x2) HX.out (by simp [shortA]; omega))
          go_wp2_with fail
          go_ret
          exact ⟨by rw [HQ.out, HP.out] <;> rfl, by rw [HB0.out]; exact HBW.out⟩
        · have HP := Lib.hid (all_not shortA ats k (x1, x2) HX.out (by simp [shortA]; omega))
          go_wp2_with fail
          go_ret
          exact ⟨by rw [HQ.out, HP.out] <;> rfl, by rw [HB0.out]; exact HBW.out⟩
        · have HP := Lib.hid (all_take_succ shortA ats k (x1, x2) HX.out HK.out (by simp [shortA, g1, g2]))
          go_wp2_with fail
          go_round
          case rel => exact ⟨k + 1, by go_num, by omega, HP⟩
          case measure => simp [intOf]; omega
      · obtain rfl : k = n := by omega
        have HP : Hid (ats.all shortA = true) := Lib.hid (by have := HK.out; rwa [List.take_of_length_le (by rw [HN.out]; exact Nat.le_refl _)] at this)
        go_wp2_with fail
        go_ret
        exact ⟨by rw [HQ.out, HP.out] <;> rfl, by rw [HB0.out]; exact HBW.out⟩

set_option maxHeartbeats 4000000 in
set_option maxRecDepth 100000 in
theorem fewall_any (A : Option Addr) (l : List Ls) (n c B : Nat) (w : World) (hn : n = l.length) (hy : RdSps w B A l) (hB : B ≤ w.heap.size) (hl : n ≤ maxLen) :
    Calls Try.prog 53 #[.slice A n c] w fun e w' => e = .returned (.bool (fewAll l)) ∧ Below w.heap.size w w' := by
  simp only [maxLen] at hl
  have HN := Lib.hid hn
  have HF : Hid (fewAll l = (decide (n ≤ 60) && l.all fun x => few x.s)) := Lib.hid (by rw [hn]; rfl)
  generalize fewAll l = fw at *
  have HY := Lib.hid hy
  clear hy hn
  have hc : 60 < n ∨ n ≤ 60 := by omega
  rcases hc with h1 | h1
  · have HQ : Hid (fw = false) := Lib.hid (by rw [HF.out]; simp; omega)
    go_enter Try.func53, Try.ntmps53
    go_wp2_with fail
    go_ret
    exact ⟨by rw [HQ.out] <;> rfl, Below.refl _ _⟩
  · have HQ : Hid (fw = l.all fun x => few x.s) := Lib.hid (by rw [HF.out]; simp [h1])
    go_enter Try.func53, Try.ntmps53
    go_wp2_with fail
    go_loopw [3] (fun i wr => ∃ k : Nat, i = .int .i64 k ∧ k ≤ n ∧ Hid ((l.take k).all (fun x => few x.s) = true) ∧ Hid (Below w.heap.size w wr)) (fun i _ => n - (intOf i).toNat)
    case atStart => exact ⟨0, rfl, by omega, Lib.hid (by simp), Lib.hid (Below.refl _ _)⟩
    case round =>
      obtain ⟨k, rfl, hk, HK, HB⟩ := hrel
      by_cases hlt : k < n
      · obtain ⟨x, hx⟩ : ∃ x, l[k]? = some x := ⟨_, List.getElem?_eq_getElem (by rw [← HN.out]; exact hlt)⟩
        have HR : Hid (RdSps wr B A l) := Lib.hid (HY.out.below (HB.out.mono hB))
        obtain ⟨a, ha, _, hc, hl2⟩ := HR.out.at_ hx
        subst ha
        have F := Lib.hid (few_any x B wr hl2 (Nat.le_trans hB HB.out.size))
        obtain ⟨⟨x0, x1, x2, x3, x4, x5, x6, x7, x8, x9⟩, xA, xc⟩ := x
        have c0 := hc 0 _ rfl
        have c1 := cell_far (hc 1 _ rfl) (by omega)
        have c2 := cell_far (hc 2 _ rfl) (by omega)
        have c3 := cell_far (hc 3 _ rfl) (by omega)
        have c4 := cell_far (hc 4 _ rfl) (by omega)
        have c5 := cell_far (hc 5 _ rfl) (by omega)
        have c6 := cell_far (hc 6 _ rfl) (by omega)
        have c7 := cell_far (hc 7 _ rfl) (by omega)
        have c8 := cell_far (hc 8 _ rfl) (by omega)
        have c9 := cell_far (hc 9 _ rfl) (by omega)
        simp only [Nat.add_zero] at c0
        have HX := Lib.hid hx
        simp only [Ls.cells] at F
        clear hc hl2 hx
        cases hfx : few ⟨x0, x1, x2, x3, x4, x5, x6, x7, x8, x9⟩
        · have HP := Lib.hid (all_not (fun x : Ls => few x.s) l k _ HX.out hfx)
          simp only [hfx] at F
          clear hfx
          go_wp2_with (go_at_call 43; (with_reducible refine (F.out).mono ?_); rintro e w1 ⟨rfl, hb1⟩; have HB1 := Lib.hid (HB.out.trans (hb1.mono HB.out.size)); clear hb1)
          go_ret
          exact ⟨by rw [HQ.out, HP.out] <;> rfl, HB1.out⟩
        · have HP := Lib.hid (all_take_succ (fun x : Ls => few x.s) l k _ HX.out HK.out hfx)
          simp only [hfx] at F
          clear hfx
          go_wp2_with (go_at_call 43; (with_reducible refine (F.out).mono ?_); rintro e w1 ⟨rfl, hb1⟩; have HB1 := Lib.hid (HB.out.trans (hb1.mono HB.out.size)); clear hb1)
          go_roundw
          case rel => exact ⟨k + 1, by go_num, by omega, HP, HB1⟩
          case measure => simp [intOf]; omega
      · obtain rfl : k = n := by omega
        have HP : Hid ((l.all fun x => few x.s) = true) := Lib.hid (by have := HK.out; rwa [List.take_of_length_le (by rw [← HN.out]; exact Nat.le_refl _)] at this)
        go_wp2_with fail
        go_ret
        exact ⟨by rw [HQ.out, HP.out] <;> rfl, HB.out⟩
end Go.Proofs.Ytmldelgbmadegaa
