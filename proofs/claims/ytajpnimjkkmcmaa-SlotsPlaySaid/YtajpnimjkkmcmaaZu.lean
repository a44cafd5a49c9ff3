/- Exemplars put in, one by one, and moved; two lists of them held against each other. -/
import Derived.Test.YtajpnimjkkmcmaaZp
import Derived.Test.YtajpnimjkkmcmaaZq
import Derived.Test.YtajpnimjkkmcmaaZc
import Derived.BigQuiet
import Derived.Laws.StructEq
namespace Go.Proofs.Ytajpnimjkkmcmaa
open Go.RowKit
set_option linter.unusedVariables false
set_option linter.unusedSimpArgs false
set_option maxRecDepth 100000

theorem putsX_snoc (es : List Ex) (l : List Ex) {k : Nat} {x : Ex} (h : es[k]? = some x) : putsX (es.take (k + 1)) l = putX x (putsX (es.take k) l) := by
  unfold putsX
  rw [List.take_add_one, h, List.foldl_append]
  rfl
set_option maxHeartbeats 8000000 in
theorem puts_any (A eA : Option Addr) (n c ne ec : Nat) (l es : List Ex) (B : Nat) (w : World) (hn : n = l.length) (hne : ne = es.length) (hr : Rd w B A (l.flatMap Ex.cells)) (he : Rd w B eA (es.flatMap Ex.cells)) (hB : B ≤ w.heap.size) (hsm : n ≤ 40000) (hse : ne ≤ 40000) :
    Calls Try.prog 13 #[.slice A n c, .slice eA ne ec] w (RowX (putsX es l) w) := by
  have CLN := Lib.hid (x_clone A l n c B w hn hr hB (by omega))
  have HE := Lib.hid he
  have HNE := Lib.hid hne
  have HN := Lib.hid hn
  have HPL := Lib.hid (fun k => by have := putsX_len (es.take k) l; rw [List.length_take] at this; omega : Hid (∀ k, (putsX (es.take k) l).length ≤ l.length + k))
  clear hr he hn hne
  go_enter Try.func13, Try.ntmps13
  go_wp2_with (go_at_call 38; (with_reducible refine CLN.out.mono ?_); rintro ex w1 ⟨v1, rfl, ho1, hb1⟩; obtain ⟨A1, c1, rfl, _, _⟩ := own_rd ho1; have HO1 := Lib.hid ho1; have HB1 := Lib.hid hb1; clear ho1 hb1)
  go_loopw [5, 12] (fun o i wr => ∃ (k n' c' : Nat) (A' : Option Addr), k ≤ ne ∧ i = .int .i64 k ∧ o = .slice A' n' c' ∧ n' ≤ n + k ∧ Hid (n' = (putsX (es.take k) l).length) ∧ Hid (wr.ownsRow w.heap.size 38 6 (.slice A' n' c') n' ((putsX (es.take k) l).flatMap Ex.cells)) ∧ Hid (Below w.heap.size w wr)) (fun _ i _ => ne - (intOf i).toNat)
  case atStart => exact ⟨0, n, c1, A1, Nat.zero_le _, rfl, rfl, by omega, HN, HO1, HB1⟩
  case round =>
    obtain ⟨k, n', c', A', hk, rfl, rfl, hn'k, HN', HO, HB⟩ := hrel
    have hws := HB.out.size
    by_cases hlt : k < ne
    · obtain ⟨x, hx⟩ : ∃ x, es[k]? = some x := ⟨es[k]'(by rw [← HNE.out]; exact hlt), List.getElem?_eq_getElem _⟩
      obtain ⟨a, rfl, hab, hcc⟩ := ex_at (HE.out.keep (fun p hp => HB.out.cell (Nat.lt_of_lt_of_le hp hB))) hx
      have x0 : wr.cell? (a.add (k * 6)) = some (.string x.sv) := hcc 0 _ rfl
      have x1 : wr.cell? ⟨(a.add (k * 6)).block, (a.add (k * 6)).off + 1, none⟩ = some (.string x.op) := cell_far (hcc 1 _ rfl) (by decide)
      have x2 : wr.cell? ⟨(a.add (k * 6)).block, (a.add (k * 6)).off + 2, none⟩ = some (.int .u64 x.hi) := cell_far (hcc 2 _ rfl) (by decide)
      have x3 : wr.cell? ⟨(a.add (k * 6)).block, (a.add (k * 6)).off + 3, none⟩ = some (.int .u64 x.lo) := cell_far (hcc 3 _ rfl) (by decide)
      have x4 : wr.cell? ⟨(a.add (k * 6)).block, (a.add (k * 6)).off + 4, none⟩ = some (.int .u64 x.id) := cell_far (hcc 4 _ rfl) (by decide)
      have x5 : wr.cell? ⟨(a.add (k * 6)).block, (a.add (k * 6)).off + 5, none⟩ = some (.int .i64 x.bl) := cell_far (hcc 5 _ rfl) (by decide)
      have HST := Lib.hid (putsX_snoc es l hx)
      have i1 : (k : Int) < (ne : Int) := by omega
      have i0 : (0 : Int) ≤ (k : Int) := by omega
      clear hcc hx
      go_upto_region 5 with fail
      have hq5 := heap_alloc_new wr (.cells #[.string x.sv, .string x.op, .int .u64 x.hi, .int .u64 x.lo, .int .u64 x.id, .int .i64 x.bl] 38)
      have hb5 := (Below.refl wr.heap.size wr).alloc (Nat.le_refl _) (.cells #[.string x.sv, .string x.op, .int .u64 x.hi, .int .u64 x.lo, .int .u64 x.id, .int .i64 x.bl] 38)
      have HB5 := Lib.hid (HB.out.alloc hws (.cells #[.string x.sv, .string x.op, .int .u64 x.hi, .int .u64 x.lo, .int .u64 x.id, .int .i64 x.bl] 38))
      have hs5 : w.heap.size ≤ (wr.alloc (.cells #[.string x.sv, .string x.op, .int .u64 x.hi, .int .u64 x.lo, .int .u64 x.id, .int .i64 x.bl] 38)).heap.size := by simp; omega
      have PUT := Lib.hid (putx_any A' n' c' (putsX (es.take k) l) x w.heap.size (wr.alloc (.cells #[.string x.sv, .string x.op, .int .u64 x.hi, .int .u64 x.lo, .int .u64 x.id, .int .i64 x.bl] 38)) (own_below HO.out hb5) HN'.out (by omega) hs5)
      have hob := own_block_ge HO.out
      have HGB := Lib.hid (fun (V : World) (u : Value) (hg : Grew (wr.alloc (.cells #[.string x.sv, .string x.op, .int .u64 x.hi, .int .u64 x.lo, .int .u64 x.id, .int .i64 x.bl] 38)) V (.slice A' n' c') u) => HB5.out.grown hg.grown hs5 (fun q hq => hob q hq))
      clear x0 x1 x2 x3 x4 x5 hb5 hob HB5 HB HO
      have x0 : (wr.alloc (.cells #[.string x.sv, .string x.op, .int .u64 x.hi, .int .u64 x.lo, .int .u64 x.id, .int .i64 x.bl] 38)).cell? ⟨wr.heap.size, 0, none⟩ = some (.string x.sv) := cell_of_row _ _ 0 _ _ (0, 0) hq5
      have x1 : (wr.alloc (.cells #[.string x.sv, .string x.op, .int .u64 x.hi, .int .u64 x.lo, .int .u64 x.id, .int .i64 x.bl] 38)).cell? ⟨wr.heap.size, 1, none⟩ = some (.string x.op) := cell_of_row _ _ 1 _ _ (0, 0) hq5
      have x2 : (wr.alloc (.cells #[.string x.sv, .string x.op, .int .u64 x.hi, .int .u64 x.lo, .int .u64 x.id, .int .i64 x.bl] 38)).cell? ⟨wr.heap.size, 2, none⟩ = some (.int .u64 x.hi) := cell_of_row _ _ 2 _ _ (0, 0) hq5
      have x3 : (wr.alloc (.cells #[.string x.sv, .string x.op, .int .u64 x.hi, .int .u64 x.lo, .int .u64 x.id, .int .i64 x.bl] 38)).cell? ⟨wr.heap.size, 3, none⟩ = some (.int .u64 x.lo) := cell_of_row _ _ 3 _ _ (0, 0) hq5
      have x4 : (wr.alloc (.cells #[.string x.sv, .string x.op, .int .u64 x.hi, .int .u64 x.lo, .int .u64 x.id, .int .i64 x.bl] 38)).cell? ⟨wr.heap.size, 4, none⟩ = some (.int .u64 x.id) := cell_of_row _ _ 4 _ _ (0, 0) hq5
      have x5 : (wr.alloc (.cells #[.string x.sv, .string x.op, .int .u64 x.hi, .int .u64 x.lo, .int .u64 x.id, .int .i64 x.bl] 38)).cell? ⟨wr.heap.size, 5, none⟩ = some (.int .i64 x.bl) := cell_of_row _ _ 5 _ _ (0, 0) hq5
      generalize wr.alloc (.cells #[.string x.sv, .string x.op, .int .u64 x.hi, .int .u64 x.lo, .int .u64 x.id, .int .i64 x.bl] 38) = w5 at *
      generalize wr.heap.size = gx at *
      clear hq5
      go_wp2_with (go_at_call 39; (with_reducible refine PUT.out.mono ?_); rintro ex w7 ⟨A7, n7, c7, rfl, hn7, ho7, hg7⟩; have HN7 := Lib.hid hn7; have HO7 := Lib.hid ho7; have HG7 := Lib.hid hg7; clear hn7 ho7 hg7)
      go_roundw
      case rel => exact ⟨k + 1, n7, c7, A7, by omega, by go_num, rfl, by have h1 := HPL.out (k + 1); have h2 := HN7.out; have h3 := HN.out; rw [HST.out] at h1; omega, by rw [HST.out]; exact HN7, by rw [HST.out]; exact HO7, Lib.hid (HGB.out _ _ HG7.out)⟩
      case measure => simp [intOf]; omega
    · obtain rfl : k = ne := by omega
      have HF := Lib.hid (show es.take k = es from List.take_of_length_le (by have := HNE.out; omega))
      go_wp2_with fail
      go_ret
      rw [HF.out] at HN' HO
      exact ⟨A', n', c', rfl, HN'.out, HO.out, HB.out⟩
/-- One moved. -/
def mvX (f t : Int) (x : Ex) : Ex := if x.bl = f then { x with bl := t } else x
theorem set_bl (L : List Ex) (k : Nat) (x : Ex) (b : Int) (hk : L[k]? = some x) : (L.flatMap Ex.cells).set (k * 6 + 5) (.int .i64 b) = (L.set k { x with bl := b }).flatMap Ex.cells := by
  have hkl : k < L.length := by
    rcases Nat.lt_or_ge k L.length with h | h
    · exact h
    · rw [List.getElem?_eq_none h] at hk; cases hk
  apply List.ext_getElem?
  intro i
  have hlen : (L.flatMap Ex.cells).length = L.length * 6 := flatMap_len _ 6 xcells_len L
  obtain ⟨q, r, hr, rfl⟩ : ∃ q r, r < 6 ∧ i = q * 6 + r := ⟨i / 6, i % 6, Nat.mod_lt _ (by omega), by omega⟩
  rw [flatMap_at _ 6 xcells_len (L.set k _) q r hr]
  simp only [List.getElem?_set, hlen]
  by_cases hq : q = k
  · subst hq
    rw [if_pos rfl, if_pos hkl]
    rcases (show r = 0 ∨ r = 1 ∨ r = 2 ∨ r = 3 ∨ r = 4 ∨ r = 5 by omega) with rfl | rfl | rfl | rfl | rfl | rfl
    all_goals first
      | (rw [if_neg (by omega), flatMap_at _ 6 xcells_len L q _ hr, hk]; rfl)
      | (rw [if_pos rfl, if_pos (by omega)]; rfl)
  · rw [if_neg (by omega), if_neg (fun h => hq h.symm), flatMap_at _ 6 xcells_len L q r hr]
theorem mv_step (f t : Int) (l : List Ex) (k : Nat) (x : Ex) (hx : l[k]? = some x) : ((l.take k).map (mvX f t) ++ l.drop k)[k]? = some x ∧ ((l.take k).map (mvX f t) ++ l.drop k).set k (mvX f t x) = (l.take (k + 1)).map (mvX f t) ++ l.drop (k + 1) := by
  have hkl : k < l.length := by
    rcases Nat.lt_or_ge k l.length with h | h
    · exact h
    · rw [List.getElem?_eq_none h] at hx; cases hx
  have hl : ((l.take k).map (mvX f t)).length = k := by rw [List.length_map, List.length_take]; omega
  have hd : l.drop k = x :: l.drop (k + 1) := by
    rw [List.drop_eq_getElem_cons hkl]
    congr 1
    rw [List.getElem?_eq_getElem hkl] at hx
    injection hx
  constructor
  · rw [List.getElem?_append_right (by omega), hl, Nat.sub_self, hd]
    rfl
  · rw [hd, List.set_append_right _ _ (by omega), hl, Nat.sub_self, List.set_cons_zero, List.take_add_one, hx, List.map_append]
    simp
theorem mv_same (f t : Int) (l : List Ex) (k : Nat) (x : Ex) (hx : l[k]? = some x) (h : mvX f t x = x) : (l.take k).map (mvX f t) ++ l.drop k = (l.take (k + 1)).map (mvX f t) ++ l.drop (k + 1) := by
  have hkl : k < l.length := by
    rcases Nat.lt_or_ge k l.length with h | h
    · exact h
    · rw [List.getElem?_eq_none h] at hx; cases hx
  have hd : l.drop k = x :: l.drop (k + 1) := by
    rw [List.drop_eq_getElem_cons hkl]
    congr 1
    rw [List.getElem?_eq_getElem hkl] at hx
    injection hx
  rw [hd, List.take_add_one, hx, List.map_append]
  simp [h]
set_option maxHeartbeats 8000000 in
theorem move_any (A : Option Addr) (n c : Nat) (l : List Ex) (f t : Int) (B : Nat) (w : World) (hn : n = l.length) (hr : Rd w B A (l.flatMap Ex.cells)) (hB : B ≤ w.heap.size) (hsm : n ≤ 100000) :
    Calls Try.prog 17 #[.slice A n c, .int .i64 f, .int .i64 t] w (RowX (l.map (mvX f t)) w) := by
  have CLN := Lib.hid (x_clone A l n c B w hn hr hB (by omega))
  have HN := Lib.hid hn
  clear hr hn
  go_enter Try.func17, Try.ntmps17
  go_upto_region 2 with (go_at_call 38; (with_reducible refine CLN.out.mono ?_); rintro ex w1 ⟨v1, rfl, ho1, hb1⟩; obtain ⟨A1, c1, rfl, _, _⟩ := own_rd ho1; have HO1 := Lib.hid ho1; have HB1 := Lib.hid hb1; clear ho1 hb1)
  rcases Nat.eq_zero_or_pos n with h0 | hpos
  · subst h0
    go_wp2_with fail
    go_loopw [13] (fun i wr => i = .int .i64 0 ∧ Hid (wr = w1)) (fun i _ => 0)
    case atStart => exact ⟨rfl, Lib.hid rfl⟩
    case round =>
      obtain ⟨rfl, hw1⟩ := hrel
      have hl : l = [] := List.eq_nil_of_length_eq_zero HN.out.symm
      go_wp2_with fail
      go_ret
      rw [hw1.out]
      exact ⟨A1, 0, c1, rfl, by rw [hl]; rfl, by have := HO1.out; rw [hl] at this ⊢; exact this, HB1.out⟩
  · obtain ⟨g, rfl, _, hbg, hgw, hnc, hcm, _⟩ := own_parts HO1.out hpos
    go_wp2_with fail
    go_loopw [13] (fun i wr => ∃ k : Nat, k ≤ n ∧ i = .int .i64 k ∧ Hid (wr.ownsRow w.heap.size 38 6 (.slice (some ⟨g, 0, none⟩) n c1) n (((l.take k).map (mvX f t) ++ l.drop k).flatMap Ex.cells)) ∧ Hid (Below w.heap.size w wr)) (fun i _ => n - (intOf i).toNat)
    case atStart => exact ⟨0, Nat.zero_le _, rfl, by simpa using HO1, HB1⟩
    case round =>
      obtain ⟨k, hk, rfl, HO, HB⟩ := hrel
      have hws := HB.out.size
      by_cases hlt : k < n
      · obtain ⟨x, hx⟩ : ∃ x, l[k]? = some x := ⟨l[k]'(by rw [← HN.out]; exact hlt), List.getElem?_eq_getElem _⟩
        obtain ⟨m1, m2⟩ := mv_step f t l k x hx
        obtain ⟨f1, f2, f3, f4⟩ := own_setq HO.out (i := k * 6 + 5) (by omega) (.int .i64 t)
        have f2' : wr.cell? ⟨g, k * 6 + 5, none⟩ = some (.int .i64 x.bl) := by
          rw [f2, flatMap_at _ 6 xcells_len _ k 5 (by omega), m1]; rfl
        rw [set_bl _ k x t m1] at f3
        have p1 : (⟨g, 0, none⟩ : Addr).add (k * 6) = ⟨g, k * 6, none⟩ := by rw [Addr.add_lit, Nat.zero_add]
        have i1 : (k : Int) < (n : Int) := by omega
        have i0 : (0 : Int) ≤ (k : Int) := by omega
        have F3 := Lib.hid f3
        have F4 := Lib.hid (HB.out.grown f4.grown hws (fun q hq => own_block_ge HO.out q hq))
        have f2a : wr.cell? ⟨g, k * 6 + 5, none⟩ = some (.int .i64 x.bl) := f2'
        have f1a : wr.frozen? ⟨g, k * 6 + 5, none⟩ = false := f1
        clear f1 f2 f2' f3 f4
        by_cases he : x.bl = f
        · have M2 := Lib.hid (show ((l.take k).map (mvX f t) ++ l.drop k).set k { x with bl := t } = (l.take (k + 1)).map (mvX f t) ++ l.drop (k + 1) from by rw [← m2]; unfold mvX; rw [if_pos he])
          rw [M2.out] at F3
          have e1 : (x.bl == f) = true := by simpa using he
          clear m1 m2 hx
          generalize x.bl = xb at *
          go_wp2_with fail
          go_roundw
          case rel => exact ⟨k + 1, by omega, by go_num, F3, F4⟩
          case measure => simp [intOf]; omega
        · have M2 := Lib.hid (mv_same f t l k x hx (by unfold mvX; rw [if_neg he]))
          have e1 : (x.bl == f) = false := by simpa using he
          clear m1 m2 hx
          generalize x.bl = xb at *
          go_wp2_with fail
          go_roundw
          case rel => exact ⟨k + 1, by omega, by go_num, by rw [← M2.out]; exact HO, HB⟩
          case measure => simp [intOf]; omega
      · obtain rfl : k = n := by omega
        have HF := Lib.hid (show (l.take k).map (mvX f t) ++ l.drop k = l.map (mvX f t) from by rw [List.take_of_length_le (by have := HN.out; omega), List.drop_of_length_le (by have := HN.out; omega), List.append_nil])
        go_wp2_with fail
        go_ret
        rw [HF.out] at HO
        exact ⟨_, _, _, rfl, by rw [List.length_map]; exact HN.out, HO.out, HB.out⟩
set_option maxHeartbeats 8000000 in
/-- The document's SameSlots of equal ones. -/
theorem sameslots_eq (A A2 : Option Addr) (n c c2 : Nat) (l : List Ex) (B : Nat) (w : World) (hsm : n ≤ 100000) (hn : n = l.length) (hr : Rd w B A (l.flatMap Ex.cells)) (hr2 : Rd w B A2 (l.flatMap Ex.cells)) :
    Calls Try.prog 19 #[.slice A n c, .slice A2 n c2] w fun e w' => e = .returned (.bool true) ∧ Below w.heap.size w w' := by
  have HR := Lib.hid hr
  have HR2 := Lib.hid hr2
  have HN := Lib.hid hn
  clear hr hr2 hn
  go_enter Try.func19, Try.ntmps19
  go_wp2
  go_loopw [5] (fun i wr => ∃ k : Nat, k ≤ n ∧ i = .int .i64 k ∧ Hid (∃ q, wr = w.drewN q)) (fun i _ => n - (intOf i).toNat)
  case atStart => exact ⟨0, Nat.zero_le _, rfl, ⟨0, rfl⟩⟩
  case round =>
    obtain ⟨k, hk, rfl, HQ⟩ := hrel
    obtain ⟨q, rfl⟩ := HQ.out
    by_cases hlt : k < n
    · obtain ⟨x, hx⟩ : ∃ x, l[k]? = some x := ⟨l[k]'(by rw [← HN.out]; exact hlt), List.getElem?_eq_getElem _⟩
      obtain ⟨a, rfl, _, hcc⟩ := ex_at HR.out hx
      obtain ⟨b, rfl, _, hdd⟩ := ex_at HR2.out hx
      have x0 : w.cell? (a.add (k * 6)) = some (.string x.sv) := hcc 0 _ rfl
      have x1 : w.cell? ⟨(a.add (k * 6)).block, (a.add (k * 6)).off + 1, none⟩ = some (.string x.op) := cell_far (hcc 1 _ rfl) (by decide)
      have x2 : w.cell? ⟨(a.add (k * 6)).block, (a.add (k * 6)).off + 2, none⟩ = some (.int .u64 x.hi) := cell_far (hcc 2 _ rfl) (by decide)
      have x3 : w.cell? ⟨(a.add (k * 6)).block, (a.add (k * 6)).off + 3, none⟩ = some (.int .u64 x.lo) := cell_far (hcc 3 _ rfl) (by decide)
      have x4 : w.cell? ⟨(a.add (k * 6)).block, (a.add (k * 6)).off + 4, none⟩ = some (.int .u64 x.id) := cell_far (hcc 4 _ rfl) (by decide)
      have x5 : w.cell? ⟨(a.add (k * 6)).block, (a.add (k * 6)).off + 5, none⟩ = some (.int .i64 x.bl) := cell_far (hcc 5 _ rfl) (by decide)
      have y0 : w.cell? (b.add (k * 6)) = some (.string x.sv) := hdd 0 _ rfl
      have y1 : w.cell? ⟨(b.add (k * 6)).block, (b.add (k * 6)).off + 1, none⟩ = some (.string x.op) := cell_far (hdd 1 _ rfl) (by decide)
      have y2 : w.cell? ⟨(b.add (k * 6)).block, (b.add (k * 6)).off + 2, none⟩ = some (.int .u64 x.hi) := cell_far (hdd 2 _ rfl) (by decide)
      have y3 : w.cell? ⟨(b.add (k * 6)).block, (b.add (k * 6)).off + 3, none⟩ = some (.int .u64 x.lo) := cell_far (hdd 3 _ rfl) (by decide)
      have y4 : w.cell? ⟨(b.add (k * 6)).block, (b.add (k * 6)).off + 4, none⟩ = some (.int .u64 x.id) := cell_far (hdd 4 _ rfl) (by decide)
      have y5 : w.cell? ⟨(b.add (k * 6)).block, (b.add (k * 6)).off + 5, none⟩ = some (.int .i64 x.bl) := cell_far (hdd 5 _ rfl) (by decide)
      have i1 : (k : Int) < (n : Int) := by omega
      have i0 : (0 : Int) ≤ (k : Int) := by omega
      clear hcc hdd hx HQ
      go_upto_region 6 with fail
      go_quiet (fail)
      go_wp2
      go_roundw
      case rel => exact ⟨k + 1, by omega, by go_num, ⟨_, rfl⟩⟩
      case measure => simp [intOf]; omega
    · obtain rfl : k = n := by omega
      go_wp2_with fail
      go_ret
      exact ⟨rfl, ⟨rfl, rfl, rfl, Nat.le_refl _, fun _ _ => rfl⟩⟩
end Go.Proofs.Ytajpnimjkkmcmaa
