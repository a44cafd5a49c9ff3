/- rollup.Find, rollup.Expire. -/
import Derived.Test.YtkhhcnpmobgdgaaDoorYk
import Derived.Test.YtkhhcnpmobgdgaaDoorSpn
import Derived.Laws.MakeOwn
namespace Go.Proofs.YtkhhcnpmobgdgaaDoor
open Go.RowKit
set_option linter.unusedVariables false
set_option linter.unusedSimpArgs false
set_option maxRecDepth 100000

theorem stry_inj {s t : ByteArray} (h : s.toList = t.toList) : s = t := by
  have e : ∀ s : ByteArray, s.toList = s.data.toList := fun s => by
    obtain ⟨⟨l⟩⟩ := s
    exact ByteArray.toList_mk l
  rw [e, e] at h
  exact ByteArray.ext (Array.toList_inj.mp h)
def satI (a b : Int) : Int := if 0 < b ∧ a < -9223372036854775808 + b then -9223372036854775808 else if b < 0 ∧ 9223372036854775807 + b < a then 9223372036854775807 else a - b
set_option maxHeartbeats 4000000 in
theorem lessI_any (a b : Int) (w : World) (ha : -9223372036854775808 ≤ a ∧ a ≤ 9223372036854775807) (hb : -9223372036854775808 ≤ b ∧ b ≤ 9223372036854775807) :
    Calls Tryd.prog 36 #[.int .i64 a, .int .i64 b] w fun e w' => e = .returned (.int .i64 (satI a b)) ∧ w = w' := by
  obtain ⟨a1, a2⟩ := ha
  obtain ⟨b1, b2⟩ := hb
  have hc : (0 < b ∧ a < -9223372036854775808 + b) ∨ (0 < b ∧ ¬ a < -9223372036854775808 + b) ∨ (b < 0 ∧ 9223372036854775807 + b < a) ∨ (b < 0 ∧ ¬ 9223372036854775807 + b < a) ∨ b = 0 := by omega
  rcases hc with ⟨h1, h2⟩ | ⟨h1, h2⟩ | ⟨h1, h2⟩ | ⟨h1, h2⟩ | rfl
  · have HQ : Hid (satI a b = -9223372036854775808) := Lib.hid (by unfold satI; rw [if_pos ⟨h1, h2⟩])
    have d1 : decide (0 < b) = true := decide_eq_true h1
    have d2 : decide (a < -9223372036854775808 + b) = true := decide_eq_true h2
    rw [HQ.out]
    go_enter Tryd.func36, Tryd.ntmps36
    go_wp2_with fail
    go_ret
    exact ⟨rfl, rfl⟩
  · have HQ : Hid (satI a b = a - b) := Lib.hid (by unfold satI; rw [if_neg (by omega), if_neg (by omega)])
    have d1 : decide (0 < b) = true := decide_eq_true h1
    have d2 : decide (a < -9223372036854775808 + b) = false := decide_eq_false h2
    have d3 : decide (b < 0) = false := decide_eq_false (by omega)
    rw [HQ.out]
    go_enter Tryd.func36, Tryd.ntmps36
    go_wp2_with fail
    go_ret
    exact ⟨rfl, rfl⟩
  · have HQ : Hid (satI a b = 9223372036854775807) := Lib.hid (by unfold satI; rw [if_neg (by omega), if_pos ⟨h1, h2⟩])
    have d1 : decide (0 < b) = false := decide_eq_false (by omega)
    have d3 : decide (b < 0) = true := decide_eq_true h1
    have d2 : decide (9223372036854775807 + b < a) = true := decide_eq_true h2
    rw [HQ.out]
    go_enter Tryd.func36, Tryd.ntmps36
    go_wp2_with fail
    go_ret
    exact ⟨rfl, rfl⟩
  · have HQ : Hid (satI a b = a - b) := Lib.hid (by unfold satI; rw [if_neg (by omega), if_neg (by omega)])
    have d1 : decide (0 < b) = false := decide_eq_false (by omega)
    have d3 : decide (b < 0) = true := decide_eq_true h1
    have d2 : decide (9223372036854775807 + b < a) = false := decide_eq_false h2
    rw [HQ.out]
    go_enter Tryd.func36, Tryd.ntmps36
    go_wp2_with fail
    go_ret
    exact ⟨rfl, rfl⟩
  · have HQ : Hid (satI a 0 = a) := Lib.hid (by unfold satI; rw [if_neg (by omega), if_neg (by omega)]; omega)
    rw [HQ.out]
    go_enter Tryd.func36, Tryd.ntmps36
    go_wp2_with fail
    go_ret
    exact ⟨rfl, rfl⟩
/-- Two rows of one's own that are not one block. -/

theorem appR {w : World} {base n : Nat} {v : Value} {xs : List Value} {ty : TypeId} (h : w.ownsRow base 48 14 v n xs) (k : Ky) (lv wi : Int) (sv op : ByteArray) (hk : k = ⟨lv, wi, sv, op⟩) (ct : List Int) (cs : Array Value) (hcs : cs = (Rw.cells ⟨k, ct⟩).toArray) (hn : n ≤ 100000) (hbase : base ≤ w.heap.size) :
    ∃ v' w', (Builtin.append_ #[22, 22] ty #[v, .slice (some ⟨w.heap.size, 0, none⟩) 1 1]).run Tryd.prog (w.alloc (.cells cs 48)) = .ok v' w' ∧ (w'.ownsRow base 48 14 v' (n + 1) (xs ++ Rw.cells ⟨k, ct⟩) ∧ Grew w w' v v') := by
  subst hcs
  obtain ⟨i0, hi, hz0, hz1, hz2⟩ := info_parts r_info
  have hq := heap_alloc_new w (.cells (Rw.cells ⟨k, ct⟩).toArray 48)
  obtain ⟨v', w', r1, r2, r3⟩ := run_append_rd (P := Tryd.prog) (w.alloc (.cells (Rw.cells ⟨k, ct⟩).toArray 48)) base 22 ty 48 i0 _ 14 128 Tryd.underlying22 hi hz0 hz1 hz2 rfl v n xs (own_below h ((Below.refl w.heap.size w).alloc (Nat.le_refl _) _)) (w.heap.size + 1) (some ⟨w.heap.size, 0, none⟩) 1 1 (Rw.cells ⟨k, ct⟩) rfl
    (fun _ => ⟨_, rfl, Nat.lt_succ_self _, fun j u hu => by
      rw [Addr.add_lit, Nat.zero_add, cell_of_row _ w.heap.size j _ _ (0, 0) hq]
      simpa [Rw.cells] using hu⟩) (rcells_one1 ⟨k, ct⟩) (by unfold maxLen; omega) (by omega) (by simp; omega)
  exact ⟨v', w', r1, r2, r3.alloc⟩
/-- What keeps some rows hands back. -/
def RowR (l : List Rw) (w : World) (e : Ending) (w' : World) : Prop := ∃ (A : Option Addr) (c : Nat), e = .returned (.slice A l.length c) ∧ w'.ownsRow w.heap.size 48 14 (.slice A l.length c) l.length (l.flatMap Rw.cells) ∧ Below w.heap.size w w'
def fndR (sv op : ByteArray) (lv : Int) (x : Rw) : Bool := decide (x.k.sv = sv) && (decide (x.k.op = op) && decide (x.k.lv = lv))
def hzn (h0 h1 h2 l : Int) : Int := if l = 0 then h0 else if l = 1 then h1 else h2
def keepE (sec h0 h1 h2 : Int) (x : Rw) : Bool := (Wm.span x.k.lv x.k.win).2.2 && decide (satI sec (hzn h0 h1 h2 x.k.lv) < (Wm.span x.k.lv x.k.win).2.1)

set_option maxHeartbeats 8000000 in
theorem rfind_any (A : Option Addr) (l : List Rw) (n c B : Nat) (fsv fop : ByteArray) (flv : Int) (w : World) (hn : n = l.length) (hr : Rd w B A (l.flatMap Rw.cells)) (hB : B ≤ w.heap.size) (hsm : n ≤ 90000) :
    Calls Tryd.prog 18 #[.slice A n c, .string fsv, .string fop, .int .i64 flv] w (RowR (l.filter (fndR fsv fop flv)) w) := by
  have HR := Lib.hid hr
  have HN := Lib.hid hn
  clear hr hn
  go_enter Tryd.func18, Tryd.ntmps18
  go_wp2_with fail
  go_loopw [9, 14] (fun o i wr => ∃ (k n' c' : Nat) (A' : Option Addr), k ≤ n ∧ i = .int .i64 k ∧ o = .slice A' n' c' ∧ Hid (n' ≤ k) ∧ Hid (n' = ((l.take k).filter (fndR fsv fop flv)).length) ∧ Hid (wr.ownsRow w.heap.size 48 14 (.slice A' n' c') n' (((l.take k).filter (fndR fsv fop flv)).flatMap Rw.cells)) ∧ Hid (Below w.heap.size w wr)) (fun _ i _ => n - (intOf i).toNat)
  case atStart => exact ⟨0, 0, 0, none, Nat.zero_le _, rfl, rfl, Lib.hid (Nat.le_refl _), Lib.hid rfl, World.ownsRow_nil _ _ _ _, Lib.hid (Below.refl _ _)⟩
  case round =>
    obtain ⟨k, n', c', A', hk, rfl, rfl, HNK, HN', HO, HB⟩ := hrel
    have hws := HB.out.size
    by_cases hlt : k < n
    · obtain ⟨x, hx⟩ : ∃ x, l[k]? = some x := ⟨l[k]'(by rw [← HN.out]; exact hlt), List.getElem?_eq_getElem _⟩
      obtain ⟨a, rfl, hab, x0, x1, x2, x3, x4, x5, x6, x7, x8, x9, x10, x11, x12, x13⟩ := row_cells (HR.out.keep (fun p hp => HB.out.cell (Nat.lt_of_lt_of_le hp hB))) hx
      have HST := Lib.hid (show (l.take (k + 1)).filter (fndR fsv fop flv) = (l.take k).filter (fndR fsv fop flv) ++ (if fndR fsv fop flv x = true then [x] else []) from by rw [List.take_add_one, hx, List.filter_append]; simp [List.filter_cons])
      have HLT := Lib.hid hlt
      have HWS := Lib.hid hws
      have i1 : (k : Int) < (n : Int) := by omega
      have i0 : (0 : Int) ≤ (k : Int) := by omega
      have i2 : (n : Int) ≤ 90000 := by omega
      obtain ⟨kk, ct⟩ := x
      obtain ⟨lv, wi, sv, op⟩ := kk
      have HE := Lib.hid (show #[.int .i64 (⟨⟨lv, wi, sv, op⟩, ct⟩ : Rw).k.lv, .int .i64 (⟨⟨lv, wi, sv, op⟩, ct⟩ : Rw).k.win, .string (⟨⟨lv, wi, sv, op⟩, ct⟩ : Rw).k.sv, .string (⟨⟨lv, wi, sv, op⟩, ct⟩ : Rw).k.op, .int .i64 ((⟨⟨lv, wi, sv, op⟩, ct⟩ : Rw).ct.getD 0 0), .int .i64 ((⟨⟨lv, wi, sv, op⟩, ct⟩ : Rw).ct.getD 1 0), .int .i64 ((⟨⟨lv, wi, sv, op⟩, ct⟩ : Rw).ct.getD 2 0), .int .i64 ((⟨⟨lv, wi, sv, op⟩, ct⟩ : Rw).ct.getD 3 0), .int .i64 ((⟨⟨lv, wi, sv, op⟩, ct⟩ : Rw).ct.getD 4 0), .int .i64 ((⟨⟨lv, wi, sv, op⟩, ct⟩ : Rw).ct.getD 5 0), .int .i64 ((⟨⟨lv, wi, sv, op⟩, ct⟩ : Rw).ct.getD 6 0), .int .i64 ((⟨⟨lv, wi, sv, op⟩, ct⟩ : Rw).ct.getD 7 0), .int .i64 ((⟨⟨lv, wi, sv, op⟩, ct⟩ : Rw).ct.getD 8 0), .int .i64 ((⟨⟨lv, wi, sv, op⟩, ct⟩ : Rw).ct.getD 9 0)] = (Rw.cells ⟨⟨lv, wi, sv, op⟩, ct⟩).toArray from rfl)
      simp only at x0 x1 x2 x3 x4 x5 x6 x7 x8 x9 x10 x11 x12 x13 HE
      generalize ct.getD 0 0 = o0 at x0 x1 x2 x3 x4 x5 x6 x7 x8 x9 x10 x11 x12 x13 HE
      generalize ct.getD 1 0 = o1 at x0 x1 x2 x3 x4 x5 x6 x7 x8 x9 x10 x11 x12 x13 HE
      generalize ct.getD 2 0 = o2 at x0 x1 x2 x3 x4 x5 x6 x7 x8 x9 x10 x11 x12 x13 HE
      generalize ct.getD 3 0 = o3 at x0 x1 x2 x3 x4 x5 x6 x7 x8 x9 x10 x11 x12 x13 HE
      generalize ct.getD 4 0 = o4 at x0 x1 x2 x3 x4 x5 x6 x7 x8 x9 x10 x11 x12 x13 HE
      generalize ct.getD 5 0 = o5 at x0 x1 x2 x3 x4 x5 x6 x7 x8 x9 x10 x11 x12 x13 HE
      generalize ct.getD 6 0 = o6 at x0 x1 x2 x3 x4 x5 x6 x7 x8 x9 x10 x11 x12 x13 HE
      generalize ct.getD 7 0 = o7 at x0 x1 x2 x3 x4 x5 x6 x7 x8 x9 x10 x11 x12 x13 HE
      generalize ct.getD 8 0 = o8 at x0 x1 x2 x3 x4 x5 x6 x7 x8 x9 x10 x11 x12 x13 HE
      generalize ct.getD 9 0 = o9 at x0 x1 x2 x3 x4 x5 x6 x7 x8 x9 x10 x11 x12 x13 HE
      clear hx hws hab hk
      obtain ⟨gx, hgx⟩ : ∃ gx, gx = wr.heap.size := ⟨_, rfl⟩
      obtain ⟨w5, hw5⟩ : ∃ w5, w5 = wr.alloc (.cells #[.int .i64 lv, .int .i64 wi, .string sv, .string op, .int .i64 o0, .int .i64 o1, .int .i64 o2, .int .i64 o3, .int .i64 o4, .int .i64 o5, .int .i64 o6, .int .i64 o7, .int .i64 o8, .int .i64 o9] 48) := ⟨_, rfl⟩
      have hb5 : Below wr.heap.size wr w5 := by rw [hw5]; exact (Below.refl wr.heap.size wr).alloc (Nat.le_refl _) _
      have hq5 : w5.heap[gx]? = some (.cells #[.int .i64 lv, .int .i64 wi, .string sv, .string op, .int .i64 o0, .int .i64 o1, .int .i64 o2, .int .i64 o3, .int .i64 o4, .int .i64 o5, .int .i64 o6, .int .i64 o7, .int .i64 o8, .int .i64 o9] 48) := by rw [hw5, hgx]; exact heap_alloc_new wr _
      have HO5 := Lib.hid (own_below HO.out hb5)
      have HB5 := Lib.hid (HB.out.trans (hb5.mono HWS.out))
      have HS5 := Lib.hid (show w.heap.size ≤ w5.heap.size from HB5.out.size)
      have HG := Lib.hid hgx
      have HW5 := Lib.hid hw5
      clear hgx hw5 hb5
      go_upto_region 5 with fail
      rw [← HW5.out, ← HG.out]
      clear x0 x1 x2 x3 x4 x5 x6 x7 x8 x9 x10 x11 x12 x13 HW5 HG
      have y0 : w5.cell? ⟨gx, 0, none⟩ = some (.int .i64 lv) := cell_of_row _ _ 0 _ _ (0, 0) hq5
      have y1 : w5.cell? ⟨gx, 1, none⟩ = some (.int .i64 wi) := cell_of_row _ _ 1 _ _ (0, 0) hq5
      have y2 : w5.cell? ⟨gx, 2, none⟩ = some (.string sv) := cell_of_row _ _ 2 _ _ (0, 0) hq5
      have y3 : w5.cell? ⟨gx, 3, none⟩ = some (.string op) := cell_of_row _ _ 3 _ _ (0, 0) hq5
      have y4 : w5.cell? ⟨gx, 4, none⟩ = some (.int .i64 o0) := cell_of_row _ _ 4 _ _ (0, 0) hq5
      have y5 : w5.cell? ⟨gx, 5, none⟩ = some (.int .i64 o1) := cell_of_row _ _ 5 _ _ (0, 0) hq5
      have y6 : w5.cell? ⟨gx, 6, none⟩ = some (.int .i64 o2) := cell_of_row _ _ 6 _ _ (0, 0) hq5
      have y7 : w5.cell? ⟨gx, 7, none⟩ = some (.int .i64 o3) := cell_of_row _ _ 7 _ _ (0, 0) hq5
      have y8 : w5.cell? ⟨gx, 8, none⟩ = some (.int .i64 o4) := cell_of_row _ _ 8 _ _ (0, 0) hq5
      have y9 : w5.cell? ⟨gx, 9, none⟩ = some (.int .i64 o5) := cell_of_row _ _ 9 _ _ (0, 0) hq5
      have y10 : w5.cell? ⟨gx, 10, none⟩ = some (.int .i64 o6) := cell_of_row _ _ 10 _ _ (0, 0) hq5
      have y11 : w5.cell? ⟨gx, 11, none⟩ = some (.int .i64 o7) := cell_of_row _ _ 11 _ _ (0, 0) hq5
      have y12 : w5.cell? ⟨gx, 12, none⟩ = some (.int .i64 o8) := cell_of_row _ _ 12 _ _ (0, 0) hq5
      have y13 : w5.cell? ⟨gx, 13, none⟩ = some (.int .i64 o9) := cell_of_row _ _ 13 _ _ (0, 0) hq5
      clear hq5
      by_cases h1 : sv = fsv
      · subst h1
        by_cases h2 : op = fop
        · subst h2
          by_cases h3 : lv = flv
          · subst h3
            have HC := Lib.hid (show fndR sv op lv ⟨⟨lv, wi, sv, op⟩, ct⟩ = true from by unfold fndR; simp)
            have APP := Lib.hid (fun ty => appR (ty := ty) HO5.out ⟨lv, wi, sv, op⟩ lv wi sv op rfl ct #[.int .i64 lv, .int .i64 wi, .string sv, .string op, .int .i64 o0, .int .i64 o1, .int .i64 o2, .int .i64 o3, .int .i64 o4, .int .i64 o5, .int .i64 o6, .int .i64 o7, .int .i64 o8, .int .i64 o9] HE.out (by have := HNK.out; omega) HS5.out)
            go_wp2_with (at_builtin; refine wpList_app rfl (.tmp 34) (.tmp 36) _ _ rfl rfl rfl (APP.out _) ?_; rintro v8 w8 ⟨ho8, hg8⟩; have HO8 := Lib.hid ho8; have HG8 := Lib.hid hg8; clear ho8 hg8)
            obtain ⟨A8, c8, rfl, _, _⟩ := own_rd HO8.out
            go_roundw
            case rel => exact ⟨k + 1, n' + 1, c8, A8, HLT.out, by go_num, rfl, Lib.hid (by have := HNK.out; omega), Lib.hid (by rw [HST.out, if_pos HC.out, List.length_append, ← HN'.out]; rfl), Lib.hid (by rw [HST.out, if_pos HC.out, List.flatMap_append, List.flatMap_singleton]; exact HO8.out), Lib.hid ((HB5.out.grown HG8.out.grown HS5.out (fun q hq => own_block_ge HO5.out q hq)))⟩
            case measure => have := HLT.out; simp [intOf]; omega
          · have e3 : (lv == flv) = false := beq_eq_false_iff_ne.2 h3
            have HC := Lib.hid (show fndR sv op flv ⟨⟨lv, wi, sv, op⟩, ct⟩ = false from by unfold fndR; simp [h3])
            clear h3
            go_wp2_with fail
            go_roundw
            case rel => exact ⟨k + 1, n', c', A', HLT.out, by go_num, rfl, Lib.hid (by have := HNK.out; omega), Lib.hid (by rw [HST.out, HC.out, if_neg (by decide), List.append_nil]; exact HN'.out), Lib.hid (by rw [HST.out, HC.out, if_neg (by decide), List.append_nil]; exact HO5.out), HB5⟩
            case measure => have := HLT.out; simp [intOf]; omega
        · have e2 : (op.toList == fop.toList) = false := beq_eq_false_iff_ne.2 (fun h => h2 (stry_inj h))
          have HC := Lib.hid (show fndR sv fop flv ⟨⟨lv, wi, sv, op⟩, ct⟩ = false from by unfold fndR; simp [h2])
          clear h2
          go_wp2_with fail
          go_roundw
          case rel => exact ⟨k + 1, n', c', A', HLT.out, by go_num, rfl, Lib.hid (by have := HNK.out; omega), Lib.hid (by rw [HST.out, HC.out, if_neg (by decide), List.append_nil]; exact HN'.out), Lib.hid (by rw [HST.out, HC.out, if_neg (by decide), List.append_nil]; exact HO5.out), HB5⟩
          case measure => have := HLT.out; simp [intOf]; omega
      · have e1 : (sv.toList == fsv.toList) = false := beq_eq_false_iff_ne.2 (fun h => h1 (stry_inj h))
        have HC := Lib.hid (show fndR fsv fop flv ⟨⟨lv, wi, sv, op⟩, ct⟩ = false from by unfold fndR; simp [h1])
        clear h1
        go_wp2_with fail
        go_roundw
        case rel => exact ⟨k + 1, n', c', A', HLT.out, by go_num, rfl, Lib.hid (by have := HNK.out; omega), Lib.hid (by rw [HST.out, HC.out, if_neg (by decide), List.append_nil]; exact HN'.out), Lib.hid (by rw [HST.out, HC.out, if_neg (by decide), List.append_nil]; exact HO5.out), HB5⟩
        case measure => have := HLT.out; simp [intOf]; omega
    · obtain rfl : k = n := by omega
      have HE := Lib.hid (show (l.take k).filter (fndR fsv fop flv) = l.filter (fndR fsv fop flv) from by rw [List.take_of_length_le (by have := HN.out; omega)])
      go_wp2_with fail
      go_ret
      have hh := HN'.out
      rw [HE.out] at hh
      refine ⟨A', c', by rw [← hh]; rfl, ?_, HB.out⟩
      rw [← hh, ← HE.out]
      exact HO.out

set_option maxHeartbeats 8000000 in
theorem rexpire_any (A : Option Addr) (l : List Rw) (n c B : Nat) (sec h0 h1 h2 : Int) (w : World) (hn : n = l.length) (hr : Rd w B A (l.flatMap Rw.cells)) (hB : B ≤ w.heap.size) (hsm : n ≤ 90000) (T : Lens w) (hsec : -9223372036854775808 ≤ sec ∧ sec ≤ 9223372036854775807) (hh0 : -9223372036854775808 ≤ h0 ∧ h0 ≤ 9223372036854775807) (hh1 : -9223372036854775808 ≤ h1 ∧ h1 ≤ 9223372036854775807) (hh2 : -9223372036854775808 ≤ h2 ∧ h2 ≤ 9223372036854775807) :
    Calls Tryd.prog 16 #[.slice A n c, .int .i64 sec, .agg #[.int .i64 h0, .int .i64 h1, .int .i64 h2]] w (RowR (l.filter (keepE sec h0 h1 h2)) w) := by
  have HR := Lib.hid hr
  have HN := Lib.hid hn
  obtain ⟨base, hbase⟩ : ∃ base, base = w.heap.size := ⟨_, rfl⟩
  obtain ⟨W0, hW0⟩ : ∃ W0, W0 = w.alloc (.cells #[.int .i64 h0, .int .i64 h1, .int .i64 h2] 29) := ⟨_, rfl⟩
  have hb0 : Below base w W0 := by rw [hW0, hbase]; exact (Below.refl w.heap.size w).alloc (Nat.le_refl _) _
  have hq0 : W0.heap[base]? = some (.cells #[.int .i64 h0, .int .i64 h1, .int .i64 h2] 29) := by rw [hW0, hbase]; exact heap_alloc_new w _
  obtain ⟨i0, hi, hz0, hz1, hz2⟩ := info_parts r_info
  obtain ⟨W1, hrun, hown, hgrow⟩ := run_make_own (P := Tryd.prog) W0 base 22 48 i0 _ 14 Tryd.underlying22 hi hz0 hz1 .i64 .i64 n (by rw [hz2]; omega) (by unfold maxLen; omega) (by rw [hbase]; exact hb0.size)
  have hb1 : Below base w W1 := hb0.trans ⟨hgrow.os, hgrow.tape, hgrow.output, hgrow.size, fun b hb => hgrow.block b (by have := hb0.size; omega) (by simp)⟩
  have hq1 : W1.heap[base]? = some (.cells #[.int .i64 h0, .int .i64 h1, .int .i64 h2] 29) := (hgrow.block base (by rw [hW0, hbase]; simp) (by simp)).trans hq0
  have hz01 : W0.heap.size = base + 1 := by rw [hW0, hbase]; simp
  rw [hz01] at hown
  have HOWN := Lib.hid hown
  have HQ1 := Lib.hid hq1
  have HB1 := Lib.hid hb1
  have HBE := Lib.hid hbase
  have HT := Lib.hid (show Lens w ∧ 1 < base from ⟨T, by rw [hbase]; exact T.lt⟩)
  rw [hW0] at hrun
  clear hr hn hown hgrow hq0 hq1 hb0 hb1 hbase hW0 T hz01
  rw [← HBE.out] at hB
  go_enter Tryd.func16, Tryd.ntmps16
  go_upto_region 3 with fail
  rw [← HBE.out]
  go_loopw [7, 18] (fun o i wr => ∃ (k n' c' : Nat) (A' : Option Addr), k ≤ n ∧ i = .int .i64 k ∧ o = .slice A' n' c' ∧ Hid (n' ≤ k) ∧ Hid (n' = ((l.take k).filter (keepE sec h0 h1 h2)).length) ∧ Hid (wr.ownsRow base 48 14 (.slice A' n' c') n' (((l.take k).filter (keepE sec h0 h1 h2)).flatMap Rw.cells)) ∧ Hid (Below base w wr) ∧ Hid (wr.heap[base]? = some (.cells #[.int .i64 h0, .int .i64 h1, .int .i64 h2] 29))) (fun _ i _ => n - (intOf i).toNat)
  case atStart => exact ⟨0, 0, n, some ⟨_, 0, none⟩, Nat.zero_le _, rfl, rfl, Lib.hid (Nat.le_refl _), Lib.hid rfl, HOWN, HB1, HQ1⟩
  case round =>
    obtain ⟨k, n', c', A', hk, rfl, rfl, HNK, HN', HO, HB, HQ⟩ := hrel
    have hws : base ≤ wr.heap.size := Nat.le_trans (by rw [HBE.out]; exact Nat.le_refl _) HB.out.size
    by_cases hlt : k < n
    · obtain ⟨x, hx⟩ : ∃ x, l[k]? = some x := ⟨l[k]'(by rw [← HN.out]; exact hlt), List.getElem?_eq_getElem _⟩
      obtain ⟨a, rfl, hab, x0, x1, x2, x3, x4, x5, x6, x7, x8, x9, x10, x11, x12, x13⟩ := row_cells (HR.out.keep (fun p hp => HB.out.cell (Nat.lt_of_lt_of_le hp hB))) hx
      have HST := Lib.hid (show (l.take (k + 1)).filter (keepE sec h0 h1 h2) = (l.take k).filter (keepE sec h0 h1 h2) ++ (if keepE sec h0 h1 h2 x = true then [x] else []) from by rw [List.take_add_one, hx, List.filter_append]; simp [List.filter_cons])
      have HLT := Lib.hid hlt
      have HWS := Lib.hid hws
      have i1 : (k : Int) < (n : Int) := by omega
      have i0 : (0 : Int) ≤ (k : Int) := by omega
      have i2 : (n : Int) ≤ 90000 := by omega
      obtain ⟨kk, ct⟩ := x
      obtain ⟨lv, wi, sv, op⟩ := kk
      have HE := Lib.hid (show #[.int .i64 (⟨⟨lv, wi, sv, op⟩, ct⟩ : Rw).k.lv, .int .i64 (⟨⟨lv, wi, sv, op⟩, ct⟩ : Rw).k.win, .string (⟨⟨lv, wi, sv, op⟩, ct⟩ : Rw).k.sv, .string (⟨⟨lv, wi, sv, op⟩, ct⟩ : Rw).k.op, .int .i64 ((⟨⟨lv, wi, sv, op⟩, ct⟩ : Rw).ct.getD 0 0), .int .i64 ((⟨⟨lv, wi, sv, op⟩, ct⟩ : Rw).ct.getD 1 0), .int .i64 ((⟨⟨lv, wi, sv, op⟩, ct⟩ : Rw).ct.getD 2 0), .int .i64 ((⟨⟨lv, wi, sv, op⟩, ct⟩ : Rw).ct.getD 3 0), .int .i64 ((⟨⟨lv, wi, sv, op⟩, ct⟩ : Rw).ct.getD 4 0), .int .i64 ((⟨⟨lv, wi, sv, op⟩, ct⟩ : Rw).ct.getD 5 0), .int .i64 ((⟨⟨lv, wi, sv, op⟩, ct⟩ : Rw).ct.getD 6 0), .int .i64 ((⟨⟨lv, wi, sv, op⟩, ct⟩ : Rw).ct.getD 7 0), .int .i64 ((⟨⟨lv, wi, sv, op⟩, ct⟩ : Rw).ct.getD 8 0), .int .i64 ((⟨⟨lv, wi, sv, op⟩, ct⟩ : Rw).ct.getD 9 0)] = (Rw.cells ⟨⟨lv, wi, sv, op⟩, ct⟩).toArray from rfl)
      simp only at x0 x1 x2 x3 x4 x5 x6 x7 x8 x9 x10 x11 x12 x13 HE
      generalize ct.getD 0 0 = o0 at x0 x1 x2 x3 x4 x5 x6 x7 x8 x9 x10 x11 x12 x13 HE
      generalize ct.getD 1 0 = o1 at x0 x1 x2 x3 x4 x5 x6 x7 x8 x9 x10 x11 x12 x13 HE
      generalize ct.getD 2 0 = o2 at x0 x1 x2 x3 x4 x5 x6 x7 x8 x9 x10 x11 x12 x13 HE
      generalize ct.getD 3 0 = o3 at x0 x1 x2 x3 x4 x5 x6 x7 x8 x9 x10 x11 x12 x13 HE
      generalize ct.getD 4 0 = o4 at x0 x1 x2 x3 x4 x5 x6 x7 x8 x9 x10 x11 x12 x13 HE
      generalize ct.getD 5 0 = o5 at x0 x1 x2 x3 x4 x5 x6 x7 x8 x9 x10 x11 x12 x13 HE
      generalize ct.getD 6 0 = o6 at x0 x1 x2 x3 x4 x5 x6 x7 x8 x9 x10 x11 x12 x13 HE
      generalize ct.getD 7 0 = o7 at x0 x1 x2 x3 x4 x5 x6 x7 x8 x9 x10 x11 x12 x13 HE
      generalize ct.getD 8 0 = o8 at x0 x1 x2 x3 x4 x5 x6 x7 x8 x9 x10 x11 x12 x13 HE
      generalize ct.getD 9 0 = o9 at x0 x1 x2 x3 x4 x5 x6 x7 x8 x9 x10 x11 x12 x13 HE
      clear hx hws hab hk
      obtain ⟨gx, hgx⟩ : ∃ gx, gx = wr.heap.size := ⟨_, rfl⟩
      obtain ⟨w5, hw5⟩ : ∃ w5, w5 = wr.alloc (.cells #[.int .i64 lv, .int .i64 wi, .string sv, .string op, .int .i64 o0, .int .i64 o1, .int .i64 o2, .int .i64 o3, .int .i64 o4, .int .i64 o5, .int .i64 o6, .int .i64 o7, .int .i64 o8, .int .i64 o9] 48) := ⟨_, rfl⟩
      have hb5 : Below wr.heap.size wr w5 := by rw [hw5]; exact (Below.refl wr.heap.size wr).alloc (Nat.le_refl _) _
      have hq5 : w5.heap[gx]? = some (.cells #[.int .i64 lv, .int .i64 wi, .string sv, .string op, .int .i64 o0, .int .i64 o1, .int .i64 o2, .int .i64 o3, .int .i64 o4, .int .i64 o5, .int .i64 o6, .int .i64 o7, .int .i64 o8, .int .i64 o9] 48) := by rw [hw5, hgx]; exact heap_alloc_new wr _
      have HO5 := Lib.hid (own_below HO.out hb5)
      have HB5 := Lib.hid (HB.out.trans (hb5.mono HWS.out))
      have HS5 := Lib.hid (show base ≤ w5.heap.size from Nat.le_trans (by rw [HBE.out]; exact Nat.le_refl _) HB5.out.size)
      have HQ5 := Lib.hid ((hb5.block base (by have := HQ.out; rcases Nat.lt_or_ge base wr.heap.size with h | h; exact h; rw [Array.getElem?_eq_none h] at this; cases this)).trans HQ.out)
      have HTL := Lib.hid (show Lens w5 from HT.out.1.below HB5.out HT.out.2)
      have HBN := Lib.hid (show base < wr.heap.size from by have := HQ.out; rcases Nat.lt_or_ge base wr.heap.size with h | h; exact h; rw [Array.getElem?_eq_none h] at this; cases this)
      have HG := Lib.hid hgx
      have HW5 := Lib.hid hw5
      clear hgx hw5 hb5
      go_upto_region 5 with fail
      rw [← HW5.out, ← HG.out]
      clear x0 x1 x2 x3 x4 x5 x6 x7 x8 x9 x10 x11 x12 x13 HW5 HG
      have y0 : w5.cell? ⟨gx, 0, none⟩ = some (.int .i64 lv) := cell_of_row _ _ 0 _ _ (0, 0) hq5
      have y1 : w5.cell? ⟨gx, 1, none⟩ = some (.int .i64 wi) := cell_of_row _ _ 1 _ _ (0, 0) hq5
      have y2 : w5.cell? ⟨gx, 2, none⟩ = some (.string sv) := cell_of_row _ _ 2 _ _ (0, 0) hq5
      have y3 : w5.cell? ⟨gx, 3, none⟩ = some (.string op) := cell_of_row _ _ 3 _ _ (0, 0) hq5
      have y4 : w5.cell? ⟨gx, 4, none⟩ = some (.int .i64 o0) := cell_of_row _ _ 4 _ _ (0, 0) hq5
      have y5 : w5.cell? ⟨gx, 5, none⟩ = some (.int .i64 o1) := cell_of_row _ _ 5 _ _ (0, 0) hq5
      have y6 : w5.cell? ⟨gx, 6, none⟩ = some (.int .i64 o2) := cell_of_row _ _ 6 _ _ (0, 0) hq5
      have y7 : w5.cell? ⟨gx, 7, none⟩ = some (.int .i64 o3) := cell_of_row _ _ 7 _ _ (0, 0) hq5
      have y8 : w5.cell? ⟨gx, 8, none⟩ = some (.int .i64 o4) := cell_of_row _ _ 8 _ _ (0, 0) hq5
      have y9 : w5.cell? ⟨gx, 9, none⟩ = some (.int .i64 o5) := cell_of_row _ _ 9 _ _ (0, 0) hq5
      have y10 : w5.cell? ⟨gx, 10, none⟩ = some (.int .i64 o6) := cell_of_row _ _ 10 _ _ (0, 0) hq5
      have y11 : w5.cell? ⟨gx, 11, none⟩ = some (.int .i64 o7) := cell_of_row _ _ 11 _ _ (0, 0) hq5
      have y12 : w5.cell? ⟨gx, 12, none⟩ = some (.int .i64 o8) := cell_of_row _ _ 12 _ _ (0, 0) hq5
      have y13 : w5.cell? ⟨gx, 13, none⟩ = some (.int .i64 o9) := cell_of_row _ _ 13 _ _ (0, 0) hq5
      clear hq5
      have SP0 := span_any lv wi w5 HTL.out
      obtain ⟨q, hq⟩ : ∃ q : Int × Int × Bool, q = Wm.span lv wi := ⟨_, rfl⟩
      have HKD := Lib.hid (show keepE sec h0 h1 h2 ⟨⟨lv, wi, sv, op⟩, ct⟩ = (q.2.2 && decide (satI sec (hzn h0 h1 h2 lv) < q.2.1)) from by rw [hq]; rfl)
      rw [← hq] at SP0
      obtain ⟨s1, s2, s3⟩ := q
      cases s3
      · have SP := Lib.hid SP0
        have HC := Lib.hid (show keepE sec h0 h1 h2 ⟨⟨lv, wi, sv, op⟩, ct⟩ = false from by rw [HKD.out]; rfl)
        clear SP0 hq
        go_wp2_with ((go_at_call 35; (with_reducible refine SP.out.mono ?_); rintro ex w6 ⟨rfl, hw6⟩; subst hw6))
        go_roundw
        case rel => exact ⟨k + 1, n', c', A', HLT.out, by go_num, rfl, Lib.hid (by have := HNK.out; omega), Lib.hid (by rw [HST.out, HC.out, if_neg (by decide), List.append_nil]; exact HN'.out), Lib.hid (by rw [HST.out, HC.out, if_neg (by decide), List.append_nil]; exact HO5.out), HB5, HQ5⟩
        case measure => have := HLT.out; simp [intOf]; omega
      · have hlev : Wm.isLevel lv := by
          unfold Wm.span at hq
          split at hq
          · rename_i h; exact h.1
          · injection hq with _ h; injection h with _ h; cases h
        have SP := Lib.hid SP0
        clear SP0 hq
        rcases hlev with rfl | rfl | rfl
        · have hz : w5.cell? ⟨base, 0, none⟩ = some (.int .i64 h0) := cell_of_row _ _ 0 _ _ (0, 0) HQ5.out
          have LS0 := lessI_any sec h0 w5 hsec hh0
          have HKD2 := Lib.hid (show keepE sec h0 h1 h2 ⟨⟨0, wi, sv, op⟩, ct⟩ = decide (satI sec h0 < s2) from by rw [HKD.out]; rfl)
          obtain ⟨st, hst⟩ : ∃ st, st = satI sec h0 := ⟨_, rfl⟩
          rw [← hst] at LS0 HKD2
          have LS := Lib.hid LS0
          clear LS0 hst
          by_cases hk3 : st < s2
          · have d1 : decide (st < s2) = true := decide_eq_true hk3
            have HC := Lib.hid (show keepE sec h0 h1 h2 ⟨⟨0, wi, sv, op⟩, ct⟩ = true from by rw [HKD2.out, d1])
            have APP := Lib.hid (fun ty => appR (ty := ty) HO5.out ⟨0, wi, sv, op⟩ 0 wi sv op rfl ct #[.int .i64 0, .int .i64 wi, .string sv, .string op, .int .i64 o0, .int .i64 o1, .int .i64 o2, .int .i64 o3, .int .i64 o4, .int .i64 o5, .int .i64 o6, .int .i64 o7, .int .i64 o8, .int .i64 o9] HE.out (by have := HNK.out; omega) HS5.out)
            clear hk3
            go_wp2_with (first | (at_builtin; refine wpList_app rfl (.tmp 42) (.tmp 44) _ _ rfl rfl rfl (APP.out _) ?_; rintro v8 w8 ⟨ho8, hg8⟩; have HO8 := Lib.hid ho8; have HG8 := Lib.hid hg8; clear ho8 hg8) | (go_at_call 36; (with_reducible refine LS.out.mono ?_); rintro ex w7 ⟨rfl, hw7⟩; subst hw7) | (go_at_call 35; (with_reducible refine SP.out.mono ?_); rintro ex w6 ⟨rfl, hw6⟩; subst hw6))
            obtain ⟨A8, c8, rfl, _, _⟩ := own_rd HO8.out
            go_roundw
            case rel => exact ⟨k + 1, n' + 1, c8, A8, HLT.out, by go_num, rfl, Lib.hid (by have := HNK.out; omega), Lib.hid (by rw [HST.out, if_pos HC.out, List.length_append, ← HN'.out]; rfl), Lib.hid (by rw [HST.out, if_pos HC.out, List.flatMap_append, List.flatMap_singleton]; exact HO8.out), Lib.hid ((HB5.out.grown HG8.out.grown HS5.out (fun q hq => own_block_ge HO5.out q hq))), Lib.hid ((HG8.out.grown.block base (by have := HQ5.out; rcases Nat.lt_or_ge base w5.heap.size with h | h; exact h; rw [Array.getElem?_eq_none h] at this; cases this) (fun e => own_not HO5.out HQ5.out (by decide) e.symm)).trans HQ5.out)⟩
            case measure => have := HLT.out; simp [intOf]; omega
          · have d1 : decide (st < s2) = false := decide_eq_false hk3
            have HC := Lib.hid (show keepE sec h0 h1 h2 ⟨⟨0, wi, sv, op⟩, ct⟩ = false from by rw [HKD2.out, d1])
            clear hk3
            go_wp2_with (first | (go_at_call 36; (with_reducible refine LS.out.mono ?_); rintro ex w7 ⟨rfl, hw7⟩; subst hw7) | (go_at_call 35; (with_reducible refine SP.out.mono ?_); rintro ex w6 ⟨rfl, hw6⟩; subst hw6))
            go_roundw
            case rel => exact ⟨k + 1, n', c', A', HLT.out, by go_num, rfl, Lib.hid (by have := HNK.out; omega), Lib.hid (by rw [HST.out, HC.out, if_neg (by decide), List.append_nil]; exact HN'.out), Lib.hid (by rw [HST.out, HC.out, if_neg (by decide), List.append_nil]; exact HO5.out), HB5, HQ5⟩
            case measure => have := HLT.out; simp [intOf]; omega
        · have hz : w5.cell? ⟨base, 1, none⟩ = some (.int .i64 h1) := cell_of_row _ _ 1 _ _ (0, 0) HQ5.out
          have LS0 := lessI_any sec h1 w5 hsec hh1
          have HKD2 := Lib.hid (show keepE sec h0 h1 h2 ⟨⟨1, wi, sv, op⟩, ct⟩ = decide (satI sec h1 < s2) from by rw [HKD.out]; rfl)
          obtain ⟨st, hst⟩ : ∃ st, st = satI sec h1 := ⟨_, rfl⟩
          rw [← hst] at LS0 HKD2
          have LS := Lib.hid LS0
          clear LS0 hst
          by_cases hk3 : st < s2
          · have d1 : decide (st < s2) = true := decide_eq_true hk3
            have HC := Lib.hid (show keepE sec h0 h1 h2 ⟨⟨1, wi, sv, op⟩, ct⟩ = true from by rw [HKD2.out, d1])
            have APP := Lib.hid (fun ty => appR (ty := ty) HO5.out ⟨1, wi, sv, op⟩ 1 wi sv op rfl ct #[.int .i64 1, .int .i64 wi, .string sv, .string op, .int .i64 o0, .int .i64 o1, .int .i64 o2, .int .i64 o3, .int .i64 o4, .int .i64 o5, .int .i64 o6, .int .i64 o7, .int .i64 o8, .int .i64 o9] HE.out (by have := HNK.out; omega) HS5.out)
            clear hk3
            go_wp2_with (first | (at_builtin; refine wpList_app rfl (.tmp 42) (.tmp 44) _ _ rfl rfl rfl (APP.out _) ?_; rintro v8 w8 ⟨ho8, hg8⟩; have HO8 := Lib.hid ho8; have HG8 := Lib.hid hg8; clear ho8 hg8) | (go_at_call 36; (with_reducible refine LS.out.mono ?_); rintro ex w7 ⟨rfl, hw7⟩; subst hw7) | (go_at_call 35; (with_reducible refine SP.out.mono ?_); rintro ex w6 ⟨rfl, hw6⟩; subst hw6))
            obtain ⟨A8, c8, rfl, _, _⟩ := own_rd HO8.out
            go_roundw
            case rel => exact ⟨k + 1, n' + 1, c8, A8, HLT.out, by go_num, rfl, Lib.hid (by have := HNK.out; omega), Lib.hid (by rw [HST.out, if_pos HC.out, List.length_append, ← HN'.out]; rfl), Lib.hid (by rw [HST.out, if_pos HC.out, List.flatMap_append, List.flatMap_singleton]; exact HO8.out), Lib.hid ((HB5.out.grown HG8.out.grown HS5.out (fun q hq => own_block_ge HO5.out q hq))), Lib.hid ((HG8.out.grown.block base (by have := HQ5.out; rcases Nat.lt_or_ge base w5.heap.size with h | h; exact h; rw [Array.getElem?_eq_none h] at this; cases this) (fun e => own_not HO5.out HQ5.out (by decide) e.symm)).trans HQ5.out)⟩
            case measure => have := HLT.out; simp [intOf]; omega
          · have d1 : decide (st < s2) = false := decide_eq_false hk3
            have HC := Lib.hid (show keepE sec h0 h1 h2 ⟨⟨1, wi, sv, op⟩, ct⟩ = false from by rw [HKD2.out, d1])
            clear hk3
            go_wp2_with (first | (go_at_call 36; (with_reducible refine LS.out.mono ?_); rintro ex w7 ⟨rfl, hw7⟩; subst hw7) | (go_at_call 35; (with_reducible refine SP.out.mono ?_); rintro ex w6 ⟨rfl, hw6⟩; subst hw6))
            go_roundw
            case rel => exact ⟨k + 1, n', c', A', HLT.out, by go_num, rfl, Lib.hid (by have := HNK.out; omega), Lib.hid (by rw [HST.out, HC.out, if_neg (by decide), List.append_nil]; exact HN'.out), Lib.hid (by rw [HST.out, HC.out, if_neg (by decide), List.append_nil]; exact HO5.out), HB5, HQ5⟩
            case measure => have := HLT.out; simp [intOf]; omega
        · have hz : w5.cell? ⟨base, 2, none⟩ = some (.int .i64 h2) := cell_of_row _ _ 2 _ _ (0, 0) HQ5.out
          have LS0 := lessI_any sec h2 w5 hsec hh2
          have HKD2 := Lib.hid (show keepE sec h0 h1 h2 ⟨⟨2, wi, sv, op⟩, ct⟩ = decide (satI sec h2 < s2) from by rw [HKD.out]; rfl)
          obtain ⟨st, hst⟩ : ∃ st, st = satI sec h2 := ⟨_, rfl⟩
          rw [← hst] at LS0 HKD2
          have LS := Lib.hid LS0
          clear LS0 hst
          by_cases hk3 : st < s2
          · have d1 : decide (st < s2) = true := decide_eq_true hk3
            have HC := Lib.hid (show keepE sec h0 h1 h2 ⟨⟨2, wi, sv, op⟩, ct⟩ = true from by rw [HKD2.out, d1])
            have APP := Lib.hid (fun ty => appR (ty := ty) HO5.out ⟨2, wi, sv, op⟩ 2 wi sv op rfl ct #[.int .i64 2, .int .i64 wi, .string sv, .string op, .int .i64 o0, .int .i64 o1, .int .i64 o2, .int .i64 o3, .int .i64 o4, .int .i64 o5, .int .i64 o6, .int .i64 o7, .int .i64 o8, .int .i64 o9] HE.out (by have := HNK.out; omega) HS5.out)
            clear hk3
            go_wp2_with (first | (at_builtin; refine wpList_app rfl (.tmp 42) (.tmp 44) _ _ rfl rfl rfl (APP.out _) ?_; rintro v8 w8 ⟨ho8, hg8⟩; have HO8 := Lib.hid ho8; have HG8 := Lib.hid hg8; clear ho8 hg8) | (go_at_call 36; (with_reducible refine LS.out.mono ?_); rintro ex w7 ⟨rfl, hw7⟩; subst hw7) | (go_at_call 35; (with_reducible refine SP.out.mono ?_); rintro ex w6 ⟨rfl, hw6⟩; subst hw6))
            obtain ⟨A8, c8, rfl, _, _⟩ := own_rd HO8.out
            go_roundw
            case rel => exact ⟨k + 1, n' + 1, c8, A8, HLT.out, by go_num, rfl, Lib.hid (by have := HNK.out; omega), Lib.hid (by rw [HST.out, if_pos HC.out, List.length_append, ← HN'.out]; rfl), Lib.hid (by rw [HST.out, if_pos HC.out, List.flatMap_append, List.flatMap_singleton]; exact HO8.out), Lib.hid ((HB5.out.grown HG8.out.grown HS5.out (fun q hq => own_block_ge HO5.out q hq))), Lib.hid ((HG8.out.grown.block base (by have := HQ5.out; rcases Nat.lt_or_ge base w5.heap.size with h | h; exact h; rw [Array.getElem?_eq_none h] at this; cases this) (fun e => own_not HO5.out HQ5.out (by decide) e.symm)).trans HQ5.out)⟩
            case measure => have := HLT.out; simp [intOf]; omega
          · have d1 : decide (st < s2) = false := decide_eq_false hk3
            have HC := Lib.hid (show keepE sec h0 h1 h2 ⟨⟨2, wi, sv, op⟩, ct⟩ = false from by rw [HKD2.out, d1])
            clear hk3
            go_wp2_with (first | (go_at_call 36; (with_reducible refine LS.out.mono ?_); rintro ex w7 ⟨rfl, hw7⟩; subst hw7) | (go_at_call 35; (with_reducible refine SP.out.mono ?_); rintro ex w6 ⟨rfl, hw6⟩; subst hw6))
            go_roundw
            case rel => exact ⟨k + 1, n', c', A', HLT.out, by go_num, rfl, Lib.hid (by have := HNK.out; omega), Lib.hid (by rw [HST.out, HC.out, if_neg (by decide), List.append_nil]; exact HN'.out), Lib.hid (by rw [HST.out, HC.out, if_neg (by decide), List.append_nil]; exact HO5.out), HB5, HQ5⟩
            case measure => have := HLT.out; simp [intOf]; omega
    · obtain rfl : k = n := by omega
      have HE := Lib.hid (show (l.take k).filter (keepE sec h0 h1 h2) = l.filter (keepE sec h0 h1 h2) from by rw [List.take_of_length_le (by have := HN.out; omega)])
      go_wp2_with fail
      go_ret
      have hh := HN'.out
      rw [HE.out] at hh
      refine ⟨A', c', by rw [← hh]; rfl, ?_, HB.out.mono (by rw [HBE.out]; exact Nat.le_refl _)⟩
      rw [← hh, ← HE.out, ← HBE.out]
      exact HO.out
end Go.Proofs.YtkhhcnpmobgdgaaDoor
