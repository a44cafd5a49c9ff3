/- The document's FindRows, Behind, Expire. -/
import Derived.Test.YtkhhcnpmobgdgaaDoorYo
namespace Go.Proofs.YtkhhcnpmobgdgaaDoor
open Go.RowKit
set_option linter.unusedVariables false
set_option linter.unusedSimpArgs false
set_option maxRecDepth 100000

set_option maxHeartbeats 8000000 in
theorem dfind_any (A : Option Addr) (l : List Rw) (n c B : Nat) (fsv fop : ByteArray) (flv : Int) (w : World) (hn : n = l.length) (hr : Rd w B A (l.flatMap Rw.cells)) (hB : B ≤ w.heap.size) (hsm : n ≤ 90000) :
    Calls Tryd.prog 19 #[.slice A n c, .string fsv, .string fop, .int .i64 flv] w (RowR (l.filter (fndR fsv fop flv)) w) := by
  have HR := Lib.hid hr
  have HN := Lib.hid hn
  clear hr hn
  go_enter Tryd.func19, Tryd.ntmps19
  go_wp2_with fail
  go_loopw [9, 10] (fun o i wr => ∃ (k n' c' : Nat) (A' : Option Addr), k ≤ n ∧ i = .int .i64 k ∧ o = .slice A' n' c' ∧ Hid (n' ≤ k) ∧ Hid (n' = ((l.take k).filter (fndR fsv fop flv)).length) ∧ Hid (wr.ownsRow w.heap.size 48 14 (.slice A' n' c') n' (((l.take k).filter (fndR fsv fop flv)).flatMap Rw.cells)) ∧ Hid (Below w.heap.size w wr)) (fun _ i _ => n - (intOf i).toNat)
  case atStart => exact ⟨0, 0, 0, none, Nat.zero_le _, rfl, rfl, Lib.hid (Nat.le_refl _), Lib.hid rfl, World.ownsRow_nil _ _ _ _, Lib.hid (Below.refl _ _)⟩
  case round =>
    obtain ⟨k, n', c', A', hk, rfl, rfl, HNK, HN', HO, HB⟩ := hrel
    have hws := HB.out.size
    by_cases hlt : k < n
    · obtain ⟨x, hx⟩ : ∃ x, l[k]? = some x := ⟨l[k]'(by rw [← HN.out]; exact hlt), List.getElem?_eq_getElem _⟩
      obtain ⟨a, rfl, hab, x0, x1, x2, x3, x4, x5, x6, x7, x8, x9, x10, x11, x12, x13⟩ := row_cells (HR.out.keep (fun p hp => HB.out.cell (Nat.lt_of_lt_of_le hp hB))) hx
      have HST := Lib.hid (show (l.take (k + 1)).filter (fndR fsv fop flv) = (l.take k).filter (fndR fsv fop flv) ++ (if fndR fsv fop flv x = true then [x] else []) from by rw [List.take_add_one, hx, List.filter_append]; simp [List.filter_cons])
      have HLT := Lib.hid hlt
      have HWS := Lib.hid hws
      have i1 : (k : Int) < (n : Int) := by omega
      have i0 : (0 : Int) ≤ (k : Int) := by omega
      have i2 : (n : Int) ≤ 90000 := by omega
      obtain ⟨kk, ct⟩ := x
      obtain ⟨lv, wi, sv, op⟩ := kk
      have HE := Lib.hid (show #[.int .i64 (⟨⟨lv, wi, sv, op⟩, ct⟩ : Rw).k.lv, .int .i64 (⟨⟨lv, wi, sv, op⟩, ct⟩ : Rw).k.win, .string (⟨⟨lv, wi, sv, op⟩, ct⟩ : Rw).k.sv, .string (⟨⟨lv, wi, sv, op⟩, ct⟩ : Rw).k.op, .int .i64 ((⟨⟨lv, wi, sv, op⟩, ct⟩ : Rw).ct.getD 0 0), .int .i64 ((⟨⟨lv, wi, sv, op⟩, ct⟩ : Rw).ct.getD 1 0), .int .i64 ((⟨⟨lv, wi, sv, op⟩, ct⟩ : Rw).ct.getD 2 0), .int .i64 ((⟨⟨lv, wi, sv, op⟩, ct⟩ : Rw).ct.getD 3 0), .int .i64 ((⟨⟨lv, wi, sv, op⟩, ct⟩ : Rw).ct.getD 4 0), .int .i64 ((⟨⟨lv, wi, sv, op⟩, ct⟩ : Rw).ct.getD 5 0), .int .i64 ((⟨⟨lv, wi, sv, op⟩, ct⟩ : Rw).ct.getD 6 0), .int .i64 ((⟨⟨lv, wi, sv, op⟩, ct⟩ : Rw).ct.getD 7 0), .int .i64 ((⟨⟨lv, wi, sv, op⟩, ct⟩ : Rw).ct.getD 8 0), .int .i64 ((⟨⟨lv, wi, sv, op⟩, ct⟩ : Rw).ct.getD 9 0)] = (Rw.cells ⟨⟨lv, wi, sv, op⟩, ct⟩).toArray from rfl)
      simp only at x0 x1 x2 x3 x4 x5 x6 x7 x8 x9 x10 x11 x12 x13 HE
      generalize ct.getD 0 0 = o0 at x0 x1 x2 x3 x4 x5 x6 x7 x8 x9 x10 x11 x12 x13 HE
      generalize ct.getD 1 0 = o1 at x0 x1 x2 x3 x4 x5 x6 x7 x8 x9 x10 x11 x12 x13 HE
      generalize ct.getD 2 0 = o2 at x0 x1 x2 x3 x4 x5 x6 x7 x8 x9 x10 x11 x12 x13 HE
      generalize ct.getD 3 0 = o3 at x0 x1 x2 x3 x4 x5 x6 x7 x8 x9 x10 x11 x12 x13 HE
      generalize ct.getD 4 0 = o4 at x0 x1 x2 x3 x4 x5 x6 x7 x8 x9 x10 x11 x12 x13 HE
      generalize ct.getD 5 0 = o5 at x0 x1 x2 x3 x4 x5 x6 x7 x8 x9 x10 x11 x12 x13 HE
      generalize ct.getD 6 0 = o6 at x0 x1 x2 x3 x4 x5 x6 x7 x8 x9 x10 x11 x12 x13 HE
      generalize ct.getD 7 0 = o7 at x0 x1 x2 x3 x4 x5 x6 x7 x8 x9 x10 x11 x12 x13 HE
      generalize ct.getD 8 0 = o8 at x0 x1 x2 x3 x4 x5 x6 x7 x8 x9 x10 x11 x12 x13 HE
      generalize ct.getD 9 0 = o9 at x0 x1 x2 x3 x4 x5 x6 x7 x8 x9 x10 x11 x12 x13 HE
      clear hx hws hab hk
      have HO5 := HO
      have HB5 := HB
      have HS5 := HWS
      by_cases h1 : sv = fsv
      · subst h1
        by_cases h2 : op = fop
        · subst h2
          by_cases h3 : lv = flv
          · subst h3
            have HC := Lib.hid (show fndR sv op lv ⟨⟨lv, wi, sv, op⟩, ct⟩ = true from by unfold fndR; simp)
            have APP := Lib.hid (fun ty => appR (ty := ty) HO5.out ⟨lv, wi, sv, op⟩ lv wi sv op rfl ct #[.int .i64 lv, .int .i64 wi, .string sv, .string op, .int .i64 o0, .int .i64 o1, .int .i64 o2, .int .i64 o3, .int .i64 o4, .int .i64 o5, .int .i64 o6, .int .i64 o7, .int .i64 o8, .int .i64 o9] HE.out (by have := HNK.out; omega) HS5.out)
            go_wp2_with (at_builtin; refine wpList_app rfl (.tmp 42) (.tmp 47) _ _ rfl rfl rfl (APP.out _) ?_; rintro v8 w8 ⟨ho8, hg8⟩; have HO8 := Lib.hid ho8; have HG8 := Lib.hid hg8; clear ho8 hg8)
            obtain ⟨A8, c8, rfl, _, _⟩ := own_rd HO8.out
            go_roundw
            case rel => exact ⟨k + 1, n' + 1, c8, A8, HLT.out, by go_num, rfl, Lib.hid (by have := HNK.out; omega), Lib.hid (by rw [HST.out, if_pos HC.out, List.length_append, ← HN'.out]; rfl), Lib.hid (by rw [HST.out, if_pos HC.out, List.flatMap_append, List.flatMap_singleton]; exact HO8.out), Lib.hid ((HB5.out.grown HG8.out.grown HS5.out (fun q hq => own_block_ge HO5.out q hq)))⟩
            case measure => have := HLT.out; simp [intOf]; omega
          · have e3 : (lv == flv) = false := beq_eq_false_iff_ne.2 h3
            have HC := Lib.hid (show fndR sv op flv ⟨⟨lv, wi, sv, op⟩, ct⟩ = false from by unfold fndR; simp [h3])
            clear h3
            go_wp2_with fail
            go_roundw
            case rel => exact ⟨k + 1, n', c', A', HLT.out, by go_num, rfl, Lib.hid (by have := HNK.out; omega), Lib.hid (by rw [HST.out, HC.out, if_neg (by decide), List.append_nil]; exact HN'.out), Lib.hid (by rw [HST.out, HC.out, if_neg (by decide), List.append_nil]; exact HO5.out), HB5⟩
            case measure => have := HLT.out; simp [intOf]; omega
        · have e2 : (op.toList == fop.toList) = false := beq_eq_false_iff_ne.2 (fun h => h2 (stry_inj h))
          have HC := Lib.hid (show fndR sv fop flv ⟨⟨lv, wi, sv, op⟩, ct⟩ = false from by unfold fndR; simp [h2])
          clear h2
          go_wp2_with fail
          go_roundw
          case rel => exact ⟨k + 1, n', c', A', HLT.out, by go_num, rfl, Lib.hid (by have := HNK.out; omega), Lib.hid (by rw [HST.out, HC.out, if_neg (by decide), List.append_nil]; exact HN'.out), Lib.hid (by rw [HST.out, HC.out, if_neg (by decide), List.append_nil]; exact HO5.out), HB5⟩
          case measure => have := HLT.out; simp [intOf]; omega
      · have e1 : (sv.toList == fsv.toList) = false := beq_eq_false_iff_ne.2 (fun h => h1 (stry_inj h))
        have HC := Lib.hid (show fndR fsv fop flv ⟨⟨lv, wi, sv, op⟩, ct⟩ = false from by unfold fndR; simp [h1])
        clear h1
        go_wp2_with fail
        go_roundw
        case rel => exact ⟨k + 1, n', c', A', HLT.out, by go_num, rfl, Lib.hid (by have := HNK.out; omega), Lib.hid (by rw [HST.out, HC.out, if_neg (by decide), List.append_nil]; exact HN'.out), Lib.hid (by rw [HST.out, HC.out, if_neg (by decide), List.append_nil]; exact HO5.out), HB5⟩
        case measure => have := HLT.out; simp [intOf]; omega
    · obtain rfl : k = n := by omega
      have HE := Lib.hid (show (l.take k).filter (fndR fsv fop flv) = l.filter (fndR fsv fop flv) from by rw [List.take_of_length_le (by have := HN.out; omega)])
      go_wp2_with fail
      go_ret
      have hh := HN'.out
      rw [HE.out] at hh
      refine ⟨A', c', by rw [← hh]; rfl, ?_, HB.out⟩
      rw [← hh, ← HE.out]
      exact HO.out

set_option maxHeartbeats 4000000 in
theorem behind_any (a b c : Int) (w : World) (ha : -9223372036854775808 < a ∧ a ≤ 9223372036854775807) (hb : -9223372036854775808 ≤ b ∧ b ≤ 9223372036854775807) (hc : -9223372036854775808 ≤ c ∧ c ≤ 9223372036854775807) :
    Calls Tryd.prog 37 #[.int .i64 a, .int .i64 b, .int .i64 c] w fun e w' => e = .returned (.bool (decide (a ≤ satI b c))) ∧ w = w' := by
  obtain ⟨a1, a2⟩ := ha
  obtain ⟨b1, b2⟩ := hb
  obtain ⟨c1, c2⟩ := hc
  have hc : (0 < c ∧ b < -9223372036854775808 + c) ∨ (0 < c ∧ ¬ b < -9223372036854775808 + c) ∨ (c < 0 ∧ 9223372036854775807 + c < b) ∨ (c < 0 ∧ ¬ 9223372036854775807 + c < b) ∨ c = 0 := by omega
  rcases hc with ⟨h1, h2⟩ | ⟨h1, h2⟩ | ⟨h1, h2⟩ | ⟨h1, h2⟩ | rfl
  · have HQ : Hid (decide (a ≤ satI b c) = false) := Lib.hid (by unfold satI; rw [if_pos ⟨h1, h2⟩]; exact decide_eq_false (by omega))
    have d1 : decide (c < 0) = false := decide_eq_false (by omega)
    have d3 : decide (0 < c) = true := decide_eq_true h1
    have d2 : decide (b < -9223372036854775808 + c) = true := decide_eq_true h2
    rw [HQ.out]
    go_enter Tryd.func37, Tryd.ntmps37
    go_wp2_with fail
    go_ret
    exact ⟨rfl, rfl⟩
  · have HQ : Hid (decide (a ≤ satI b c) = decide (a ≤ b - c)) := Lib.hid (by unfold satI; rw [if_neg (by omega), if_neg (by omega)])
    have d1 : decide (c < 0) = false := decide_eq_false (by omega)
    have d3 : decide (0 < c) = true := decide_eq_true h1
    have d2 : decide (b < -9223372036854775808 + c) = false := decide_eq_false h2
    rw [HQ.out]
    go_enter Tryd.func37, Tryd.ntmps37
    go_wp2_with fail
    go_ret
    exact ⟨rfl, rfl⟩
  · have HQ : Hid (decide (a ≤ satI b c) = true) := Lib.hid (by unfold satI; rw [if_neg (by omega), if_pos ⟨h1, h2⟩]; exact decide_eq_true (by omega))
    have d1 : decide (c < 0) = true := decide_eq_true h1
    have d2 : decide (9223372036854775807 + c < b) = true := decide_eq_true h2
    rw [HQ.out]
    go_enter Tryd.func37, Tryd.ntmps37
    go_wp2_with fail
    go_ret
    exact ⟨rfl, rfl⟩
  · have HQ : Hid (decide (a ≤ satI b c) = decide (a ≤ b - c)) := Lib.hid (by unfold satI; rw [if_neg (by omega), if_neg (by omega)])
    have d1 : decide (c < 0) = true := decide_eq_true h1
    have d3 : decide (0 < c) = false := decide_eq_false (by omega)
    have d2 : decide (9223372036854775807 + c < b) = false := decide_eq_false h2
    rw [HQ.out]
    go_enter Tryd.func37, Tryd.ntmps37
    go_wp2_with fail
    go_ret
    exact ⟨rfl, rfl⟩
  · have HQ : Hid (decide (a ≤ satI b 0) = decide (a ≤ b)) := Lib.hid (by unfold satI; rw [if_neg (by omega), if_neg (by omega), Int.sub_zero])
    rw [HQ.out]
    go_enter Tryd.func37, Tryd.ntmps37
    go_wp2_with fail
    go_ret
    exact ⟨rfl, rfl⟩

set_option maxHeartbeats 8000000 in
theorem dexpire_any (A : Option Addr) (l : List Rw) (n c B : Nat) (sec h0 h1 h2 : Int) (w : World) (hn : n = l.length) (hr : Rd w B A (l.flatMap Rw.cells)) (hB : B ≤ w.heap.size) (hsm : n ≤ 90000) (hsec : -9223372036854775808 ≤ sec ∧ sec ≤ 9223372036854775807) (hh0 : -9223372036854775808 ≤ h0 ∧ h0 ≤ 9223372036854775807) (hh1 : -9223372036854775808 ≤ h1 ∧ h1 ≤ 9223372036854775807) (hh2 : -9223372036854775808 ≤ h2 ∧ h2 ≤ 9223372036854775807) :
    Calls Tryd.prog 17 #[.slice A n c, .int .i64 sec, .agg #[.int .i64 h0, .int .i64 h1, .int .i64 h2]] w (RowR (l.filter (keepE sec h0 h1 h2)) w) := by
  have HR := Lib.hid hr
  have HN := Lib.hid hn
  obtain ⟨base, hbase⟩ : ∃ base, base = w.heap.size := ⟨_, rfl⟩
  obtain ⟨W0, hW0⟩ : ∃ W0, W0 = w.alloc (.cells #[.int .i64 h0, .int .i64 h1, .int .i64 h2] 29) := ⟨_, rfl⟩
  have HB1 := Lib.hid (show Below base w W0 from by rw [hW0, hbase]; exact (Below.refl w.heap.size w).alloc (Nat.le_refl _) _)
  have HQ1 := Lib.hid (show W0.heap[base]? = some (.cells #[.int .i64 h0, .int .i64 h1, .int .i64 h2] 29) from by rw [hW0, hbase]; exact heap_alloc_new w _)
  have HBE := Lib.hid hbase
  have HWE := Lib.hid hW0
  clear hr hn hbase hW0
  rw [← HBE.out] at hB
  go_enter Tryd.func17, Tryd.ntmps17
  go_upto_region 3 with fail
  rw [← HWE.out, ← HBE.out]
  go_loopw [7, 8] (fun o i wr => ∃ (k n' c' : Nat) (A' : Option Addr), k ≤ n ∧ i = .int .i64 k ∧ o = .slice A' n' c' ∧ Hid (n' ≤ k) ∧ Hid (n' = ((l.take k).filter (keepE sec h0 h1 h2)).length) ∧ Hid (wr.ownsRow base 48 14 (.slice A' n' c') n' (((l.take k).filter (keepE sec h0 h1 h2)).flatMap Rw.cells)) ∧ Hid (Below base w wr) ∧ Hid (wr.heap[base]? = some (.cells #[.int .i64 h0, .int .i64 h1, .int .i64 h2] 29))) (fun _ i _ => n - (intOf i).toNat)
  case atStart => exact ⟨0, 0, 0, none, Nat.zero_le _, rfl, rfl, Lib.hid (Nat.le_refl _), Lib.hid rfl, World.ownsRow_nil _ _ _ _, HB1, HQ1⟩
  case round =>
    obtain ⟨k, n', c', A', hk, rfl, rfl, HNK, HN', HO, HB, HQ⟩ := hrel
    by_cases hlt : k < n
    · obtain ⟨x, hx⟩ : ∃ x, l[k]? = some x := ⟨l[k]'(by rw [← HN.out]; exact hlt), List.getElem?_eq_getElem _⟩
      obtain ⟨a, rfl, hab, x0, x1, x2, x3, x4, x5, x6, x7, x8, x9, x10, x11, x12, x13⟩ := row_cells (HR.out.keep (fun p hp => HB.out.cell (Nat.lt_of_lt_of_le hp hB))) hx
      have HST := Lib.hid (show (l.take (k + 1)).filter (keepE sec h0 h1 h2) = (l.take k).filter (keepE sec h0 h1 h2) ++ (if keepE sec h0 h1 h2 x = true then [x] else []) from by rw [List.take_add_one, hx, List.filter_append]; simp [List.filter_cons])
      have HLT := Lib.hid hlt
      have HWS := Lib.hid (show base ≤ wr.heap.size from Nat.le_trans (by rw [HBE.out]; exact Nat.le_refl _) HB.out.size)
      have HBN := Lib.hid (show base < wr.heap.size from by have := HQ.out; rcases Nat.lt_or_ge base wr.heap.size with h | h; exact h; rw [Array.getElem?_eq_none h] at this; cases this)
      have i1 : (k : Int) < (n : Int) := by omega
      have i0 : (0 : Int) ≤ (k : Int) := by omega
      have i2 : (n : Int) ≤ 90000 := by omega
      obtain ⟨kk, ct⟩ := x
      obtain ⟨lv, wi, sv, op⟩ := kk
      have HE := Lib.hid (show #[.int .i64 (⟨⟨lv, wi, sv, op⟩, ct⟩ : Rw).k.lv, .int .i64 (⟨⟨lv, wi, sv, op⟩, ct⟩ : Rw).k.win, .string (⟨⟨lv, wi, sv, op⟩, ct⟩ : Rw).k.sv, .string (⟨⟨lv, wi, sv, op⟩, ct⟩ : Rw).k.op, .int .i64 ((⟨⟨lv, wi, sv, op⟩, ct⟩ : Rw).ct.getD 0 0), .int .i64 ((⟨⟨lv, wi, sv, op⟩, ct⟩ : Rw).ct.getD 1 0), .int .i64 ((⟨⟨lv, wi, sv, op⟩, ct⟩ : Rw).ct.getD 2 0), .int .i64 ((⟨⟨lv, wi, sv, op⟩, ct⟩ : Rw).ct.getD 3 0), .int .i64 ((⟨⟨lv, wi, sv, op⟩, ct⟩ : Rw).ct.getD 4 0), .int .i64 ((⟨⟨lv, wi, sv, op⟩, ct⟩ : Rw).ct.getD 5 0), .int .i64 ((⟨⟨lv, wi, sv, op⟩, ct⟩ : Rw).ct.getD 6 0), .int .i64 ((⟨⟨lv, wi, sv, op⟩, ct⟩ : Rw).ct.getD 7 0), .int .i64 ((⟨⟨lv, wi, sv, op⟩, ct⟩ : Rw).ct.getD 8 0), .int .i64 ((⟨⟨lv, wi, sv, op⟩, ct⟩ : Rw).ct.getD 9 0)] = (Rw.cells ⟨⟨lv, wi, sv, op⟩, ct⟩).toArray from rfl)
      simp only at x0 x1 x2 x3 x4 x5 x6 x7 x8 x9 x10 x11 x12 x13 HE
      generalize ct.getD 0 0 = o0 at x0 x1 x2 x3 x4 x5 x6 x7 x8 x9 x10 x11 x12 x13 HE
      generalize ct.getD 1 0 = o1 at x0 x1 x2 x3 x4 x5 x6 x7 x8 x9 x10 x11 x12 x13 HE
      generalize ct.getD 2 0 = o2 at x0 x1 x2 x3 x4 x5 x6 x7 x8 x9 x10 x11 x12 x13 HE
      generalize ct.getD 3 0 = o3 at x0 x1 x2 x3 x4 x5 x6 x7 x8 x9 x10 x11 x12 x13 HE
      generalize ct.getD 4 0 = o4 at x0 x1 x2 x3 x4 x5 x6 x7 x8 x9 x10 x11 x12 x13 HE
      generalize ct.getD 5 0 = o5 at x0 x1 x2 x3 x4 x5 x6 x7 x8 x9 x10 x11 x12 x13 HE
      generalize ct.getD 6 0 = o6 at x0 x1 x2 x3 x4 x5 x6 x7 x8 x9 x10 x11 x12 x13 HE
      generalize ct.getD 7 0 = o7 at x0 x1 x2 x3 x4 x5 x6 x7 x8 x9 x10 x11 x12 x13 HE
      generalize ct.getD 8 0 = o8 at x0 x1 x2 x3 x4 x5 x6 x7 x8 x9 x10 x11 x12 x13 HE
      generalize ct.getD 9 0 = o9 at x0 x1 x2 x3 x4 x5 x6 x7 x8 x9 x10 x11 x12 x13 HE
      clear hx hab hk hlt
      obtain ⟨q, hq⟩ : ∃ q : Int × Int × Bool, q = Wm.span lv wi := ⟨_, rfl⟩
      have LA := fun (W : World) => Lib.hid (lasts_any lv wi W)
      have HKD := Lib.hid (show keepE sec h0 h1 h2 ⟨⟨lv, wi, sv, op⟩, ct⟩ = (q.2.2 && decide (satI sec (hzn h0 h1 h2 lv) < q.2.1)) from by rw [hq]; rfl)
      rw [← hq] at LA
      have HSPQ := Lib.hid hq
      obtain ⟨s1, s2, s3⟩ := q
      simp only at LA
      clear hq
      go_wp2_with fail
      have m0 := fun p : NowB wr => p.cell x0
      have m1 := fun p : NowB wr => p.cell x1
      clear x0 x1
      refine wp_region_quiet_below (by kernel_rfl) (by kernel_rfl) ?_
      repeat (go_big_quiet_step ((go_at_call 27; with_reducible exact Calls.now_same' (LA _).out)))
      refine wpQuiet_nil ?_
      intro _ hw'
      obtain ⟨pp, hw''⟩ := hw'
      subst hw''
      have HB5 := Lib.hid (HB.out.trans (pp.h.mono HWS.out))
      have HO5 := Lib.hid (own_below HO.out pp.h)
      have HQ5 := Lib.hid ((pp.h.block base HBN.out).trans HQ.out)
      have u2 := pp.cell x2
      have u3 := pp.cell x3
      have u4 := pp.cell x4
      have u5 := pp.cell x5
      have u6 := pp.cell x6
      have u7 := pp.cell x7
      have u8 := pp.cell x8
      have u9 := pp.cell x9
      have u10 := pp.cell x10
      have u11 := pp.cell x11
      have u12 := pp.cell x12
      have u13 := pp.cell x13
      have HP9 := Lib.hid pp.h
      generalize pp.W = w5 at *
      have u0 := m0 ⟨w5, HP9.out⟩
      have u1 := m1 ⟨w5, HP9.out⟩
      have HS5 := Lib.hid (show base ≤ w5.heap.size from Nat.le_trans (by rw [HBE.out]; exact Nat.le_refl _) HB5.out.size)
      simp only at u0 u1
      clear m0 m1 x2 x3 x4 x5 x6 x7 x8 x9 x10 x11 x12 x13 HP9 HO HB HQ HWS HBN LA
      cases s3
      · have HC := Lib.hid (show keepE sec h0 h1 h2 ⟨⟨lv, wi, sv, op⟩, ct⟩ = false from by rw [HKD.out]; rfl)
        go_wp2_with fail
        go_roundw
        case rel => exact ⟨k + 1, n', c', A', HLT.out, by go_num, rfl, Lib.hid (by have := HNK.out; omega), Lib.hid (by rw [HST.out, HC.out, if_neg (by decide), List.append_nil]; exact HN'.out), Lib.hid (by rw [HST.out, HC.out, if_neg (by decide), List.append_nil]; exact HO5.out), HB5, HQ5⟩
        case measure => have := HLT.out; simp [intOf]; omega
      · have hsp := HSPQ.out
        have hlev : Wm.isLevel lv ∧ -9223372036854775808 < s2 ∧ s2 ≤ 9223372036854775807 := by
          unfold Wm.span at hsp
          split at hsp
          · rename_i h
            have hb := Wm.bounds (Wm.lens_bd h.1).1 (Wm.lens_bd h.1).2 h.2.1 h.2.2
            have hl := Wm.lens_bd h.1
            injection hsp with e1 e2
            injection e2 with e2 _
            exact ⟨h.1, by omega, by omega⟩
          · injection hsp with _ h; injection h with _ h; cases h
        obtain ⟨hlev, hs2⟩ := hlev
        clear hsp
        rcases hlev with rfl | rfl | rfl
        · have hz : w5.cell? ⟨base, 0, none⟩ = some (.int .i64 h0) := cell_of_row _ _ 0 _ _ (0, 0) HQ5.out
          have BS0 := behind_any s2 sec h0 w5 hs2 hsec hh0
          have HKD2 := Lib.hid (show keepE sec h0 h1 h2 ⟨⟨0, wi, sv, op⟩, ct⟩ = !decide (s2 ≤ satI sec h0) from by
            rw [HKD.out]
            show (true && decide (satI sec h0 < s2)) = _
            by_cases h : s2 ≤ satI sec h0
            · rw [decide_eq_true h, decide_eq_false (by omega)]; rfl
            · rw [decide_eq_false h, decide_eq_true (by omega)]; rfl)
          obtain ⟨bb, hbb⟩ : ∃ bb, bb = decide (s2 ≤ satI sec h0) := ⟨_, rfl⟩
          rw [← hbb] at BS0 HKD2
          have BS := Lib.hid BS0
          clear BS0 hbb hs2
          cases bb
          · have HC := Lib.hid (show keepE sec h0 h1 h2 ⟨⟨0, wi, sv, op⟩, ct⟩ = true from by rw [HKD2.out]; rfl)
            have APP := Lib.hid (fun ty => appR (ty := ty) HO5.out ⟨0, wi, sv, op⟩ 0 wi sv op rfl ct #[.int .i64 0, .int .i64 wi, .string sv, .string op, .int .i64 o0, .int .i64 o1, .int .i64 o2, .int .i64 o3, .int .i64 o4, .int .i64 o5, .int .i64 o6, .int .i64 o7, .int .i64 o8, .int .i64 o9] HE.out (by have := HNK.out; omega) HS5.out)
            go_wp2_with (first | (at_builtin; refine wpList_app rfl (.tmp 47) (.tmp 52) _ _ rfl rfl rfl (APP.out _) ?_; rintro v8 w8 ⟨ho8, hg8⟩; have HO8 := Lib.hid ho8; have HG8 := Lib.hid hg8; clear ho8 hg8) | (go_at_call 37; (with_reducible refine BS.out.mono ?_); rintro ex w7 ⟨rfl, hw7⟩; subst hw7))
            obtain ⟨A8, c8, rfl, _, _⟩ := own_rd HO8.out
            go_roundw
            case rel => exact ⟨k + 1, n' + 1, c8, A8, HLT.out, by go_num, rfl, Lib.hid (by have := HNK.out; omega), Lib.hid (by rw [HST.out, if_pos HC.out, List.length_append, ← HN'.out]; rfl), Lib.hid (by rw [HST.out, if_pos HC.out, List.flatMap_append, List.flatMap_singleton]; exact HO8.out), Lib.hid ((HB5.out.grown HG8.out.grown HS5.out (fun q hq => own_block_ge HO5.out q hq))), Lib.hid ((HG8.out.grown.block base (by have := HQ5.out; rcases Nat.lt_or_ge base w5.heap.size with h | h; exact h; rw [Array.getElem?_eq_none h] at this; cases this) (fun e => own_not HO5.out HQ5.out (by decide) e.symm)).trans HQ5.out)⟩
            case measure => have := HLT.out; simp [intOf]; omega
          · have HC := Lib.hid (show keepE sec h0 h1 h2 ⟨⟨0, wi, sv, op⟩, ct⟩ = false from by rw [HKD2.out]; rfl)
            go_wp2_with (first | (go_at_call 37; (with_reducible refine BS.out.mono ?_); rintro ex w7 ⟨rfl, hw7⟩; subst hw7))
            go_roundw
            case rel => exact ⟨k + 1, n', c', A', HLT.out, by go_num, rfl, Lib.hid (by have := HNK.out; omega), Lib.hid (by rw [HST.out, HC.out, if_neg (by decide), List.append_nil]; exact HN'.out), Lib.hid (by rw [HST.out, HC.out, if_neg (by decide), List.append_nil]; exact HO5.out), HB5, HQ5⟩
            case measure => have := HLT.out; simp [intOf]; omega
        · have hz : w5.cell? ⟨base, 1, none⟩ = some (.int .i64 h1) := cell_of_row _ _ 1 _ _ (0, 0) HQ5.out
          have BS0 := behind_any s2 sec h1 w5 hs2 hsec hh1
          have HKD2 := Lib.hid (show keepE sec h0 h1 h2 ⟨⟨1, wi, sv, op⟩, ct⟩ = !decide (s2 ≤ satI sec h1) from by
            rw [HKD.out]
            show (true && decide (satI sec h1 < s2)) = _
            by_cases h : s2 ≤ satI sec h1
            · rw [decide_eq_true h, decide_eq_false (by omega)]; rfl
            · rw [decide_eq_false h, decide_eq_true (by omega)]; rfl)
          obtain ⟨bb, hbb⟩ : ∃ bb, bb = decide (s2 ≤ satI sec h1) := ⟨_, rfl⟩
          rw [← hbb] at BS0 HKD2
          have BS := Lib.hid BS0
          clear BS0 hbb hs2
          cases bb
          · have HC := Lib.hid (show keepE sec h0 h1 h2 ⟨⟨1, wi, sv, op⟩, ct⟩ = true from by rw [HKD2.out]; rfl)
            have APP := Lib.hid (fun ty => appR (ty := ty) HO5.out ⟨1, wi, sv, op⟩ 1 wi sv op rfl ct #[.int .i64 1, .int .i64 wi, .string sv, .string op, .int .i64 o0, .int .i64 o1, .int .i64 o2, .int .i64 o3, .int .i64 o4, .int .i64 o5, .int .i64 o6, .int .i64 o7, .int .i64 o8, .int .i64 o9] HE.out (by have := HNK.out; omega) HS5.out)
            go_wp2_with (first | (at_builtin; refine wpList_app rfl (.tmp 47) (.tmp 52) _ _ rfl rfl rfl (APP.out _) ?_; rintro v8 w8 ⟨ho8, hg8⟩; have HO8 := Lib.hid ho8; have HG8 := Lib.hid hg8; clear ho8 hg8) | (go_at_call 37; (with_reducible refine BS.out.mono ?_); rintro ex w7 ⟨rfl, hw7⟩; subst hw7))
            obtain ⟨A8, c8, rfl, _, _⟩ := own_rd HO8.out
            go_roundw
            case rel => exact ⟨k + 1, n' + 1, c8, A8, HLT.out, by go_num, rfl, Lib.hid (by have := HNK.out; omega), Lib.hid (by rw [HST.out, if_pos HC.out, List.length_append, ← HN'.out]; rfl), Lib.hid (by rw [HST.out, if_pos HC.out, List.flatMap_append, List.flatMap_singleton]; exact HO8.out), Lib.hid ((HB5.out.grown HG8.out.grown HS5.out (fun q hq => own_block_ge HO5.out q hq))), Lib.hid ((HG8.out.grown.block base (by have := HQ5.out; rcases Nat.lt_or_ge base w5.heap.size with h | h; exact h; rw [Array.getElem?_eq_none h] at this; cases this) (fun e => own_not HO5.out HQ5.out (by decide) e.symm)).trans HQ5.out)⟩
            case measure => have := HLT.out; simp [intOf]; omega
          · have HC := Lib.hid (show keepE sec h0 h1 h2 ⟨⟨1, wi, sv, op⟩, ct⟩ = false from by rw [HKD2.out]; rfl)
            go_wp2_with (first | (go_at_call 37; (with_reducible refine BS.out.mono ?_); rintro ex w7 ⟨rfl, hw7⟩; subst hw7))
            go_roundw
            case rel => exact ⟨k + 1, n', c', A', HLT.out, by go_num, rfl, Lib.hid (by have := HNK.out; omega), Lib.hid (by rw [HST.out, HC.out, if_neg (by decide), List.append_nil]; exact HN'.out), Lib.hid (by rw [HST.out, HC.out, if_neg (by decide), List.append_nil]; exact HO5.out), HB5, HQ5⟩
            case measure => have := HLT.out; simp [intOf]; omega
        · have hz : w5.cell? ⟨base, 2, none⟩ = some (.int .i64 h2) := cell_of_row _ _ 2 _ _ (0, 0) HQ5.out
          have BS0 := behind_any s2 sec h2 w5 hs2 hsec hh2
          have HKD2 := Lib.hid (show keepE sec h0 h1 h2 ⟨⟨2, wi, sv, op⟩, ct⟩ = !decide (s2 ≤ satI sec h2) from by
            rw [HKD.out]
            show (true && decide (satI sec h2 < s2)) = _
            by_cases h : s2 ≤ satI sec h2
            · rw [decide_eq_true h, decide_eq_false (by omega)]; rfl
            · rw [decide_eq_false h, decide_eq_true (by omega)]; rfl)
          obtain ⟨bb, hbb⟩ : ∃ bb, bb = decide (s2 ≤ satI sec h2) := ⟨_, rfl⟩
          rw [← hbb] at BS0 HKD2
          have BS := Lib.hid BS0
          clear BS0 hbb hs2
          cases bb
          · have HC := Lib.hid (show keepE sec h0 h1 h2 ⟨⟨2, wi, sv, op⟩, ct⟩ = true from by rw [HKD2.out]; rfl)
            have APP := Lib.hid (fun ty => appR (ty := ty) HO5.out ⟨2, wi, sv, op⟩ 2 wi sv op rfl ct #[.int .i64 2, .int .i64 wi, .string sv, .string op, .int .i64 o0, .int .i64 o1, .int .i64 o2, .int .i64 o3, .int .i64 o4, .int .i64 o5, .int .i64 o6, .int .i64 o7, .int .i64 o8, .int .i64 o9] HE.out (by have := HNK.out; omega) HS5.out)
            go_wp2_with (first | (at_builtin; refine wpList_app rfl (.tmp 47) (.tmp 52) _ _ rfl rfl rfl (APP.out _) ?_; rintro v8 w8 ⟨ho8, hg8⟩; have HO8 := Lib.hid ho8; have HG8 := Lib.hid hg8; clear ho8 hg8) | (go_at_call 37; (with_reducible refine BS.out.mono ?_); rintro ex w7 ⟨rfl, hw7⟩; subst hw7))
            obtain ⟨A8, c8, rfl, _, _⟩ := own_rd HO8.out
            go_roundw
            case rel => exact ⟨k + 1, n' + 1, c8, A8, HLT.out, by go_num, rfl, Lib.hid (by have := HNK.out; omega), Lib.hid (by rw [HST.out, if_pos HC.out, List.length_append, ← HN'.out]; rfl), Lib.hid (by rw [HST.out, if_pos HC.out, List.flatMap_append, List.flatMap_singleton]; exact HO8.out), Lib.hid ((HB5.out.grown HG8.out.grown HS5.out (fun q hq => own_block_ge HO5.out q hq))), Lib.hid ((HG8.out.grown.block base (by have := HQ5.out; rcases Nat.lt_or_ge base w5.heap.size with h | h; exact h; rw [Array.getElem?_eq_none h] at this; cases this) (fun e => own_not HO5.out HQ5.out (by decide) e.symm)).trans HQ5.out)⟩
            case measure => have := HLT.out; simp [intOf]; omega
          · have HC := Lib.hid (show keepE sec h0 h1 h2 ⟨⟨2, wi, sv, op⟩, ct⟩ = false from by rw [HKD2.out]; rfl)
            go_wp2_with (first | (go_at_call 37; (with_reducible refine BS.out.mono ?_); rintro ex w7 ⟨rfl, hw7⟩; subst hw7))
            go_roundw
            case rel => exact ⟨k + 1, n', c', A', HLT.out, by go_num, rfl, Lib.hid (by have := HNK.out; omega), Lib.hid (by rw [HST.out, HC.out, if_neg (by decide), List.append_nil]; exact HN'.out), Lib.hid (by rw [HST.out, HC.out, if_neg (by decide), List.append_nil]; exact HO5.out), HB5, HQ5⟩
            case measure => have := HLT.out; simp [intOf]; omega
    · obtain rfl : k = n := by omega
      have HE := Lib.hid (show (l.take k).filter (keepE sec h0 h1 h2) = l.filter (keepE sec h0 h1 h2) from by rw [List.take_of_length_le (by have := HN.out; omega)])
      go_wp2_with fail
      go_ret
      have hh := HN'.out
      rw [HE.out] at hh
      refine ⟨A', c', by rw [← hh]; rfl, ?_, HB.out.mono (by rw [HBE.out]; exact Nat.le_refl _)⟩
      rw [← hh, ← HE.out, ← HBE.out]
      exact HO.out
end Go.Proofs.YtkhhcnpmobgdgaaDoor
