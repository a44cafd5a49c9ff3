/- SlotsGone: what is dropped is gone, what is moved is the other one's. -/
import Derived.Test.YtajpnimjkkmcmaaAl12
namespace Go.Proofs.Ytajpnimjkkmcmaa
open Go.RowKit
set_option linter.unusedVariables false
set_option linter.unusedSimpArgs false
set_option maxRecDepth 100000

theorem flat_at {α β : Type} (g : α → List β) (l : List α) (k : Nat) (x : α) (y : β) (hx : l[k]? = some x) (hg : g x = [y]) : (l.flatMap g)[((l.take k).flatMap g).length]? = some y := by
  have hkl : k < l.length := by
    rcases Nat.lt_or_ge k l.length with h | h
    · exact h
    · rw [List.getElem?_eq_none h] at hx; cases hx
  have hd : l.drop k = x :: l.drop (k + 1) := by
    rw [List.drop_eq_getElem_cons hkl]
    congr 1
    rw [List.getElem?_eq_getElem hkl] at hx
    injection hx
  conv => lhs; rw [← List.take_append_drop k l, List.flatMap_append, hd, List.flatMap_cons, hg]
  rw [List.getElem?_append_right (by rw [← hd, List.take_append_drop]; exact Nat.le_refl _)]
  rw [← hd, List.take_append_drop, Nat.sub_self]
  rfl
theorem flat_snoc {α β : Type} (g : α → List β) (l : List α) (k : Nat) (x : α) (hx : l[k]? = some x) : (l.take (k + 1)).flatMap g = (l.take k).flatMap g ++ g x := by
  rw [List.take_add_one, hx, List.flatMap_append]; simp
set_option maxHeartbeats 16000000 in
theorem gone12 (lA : Option Addr) (l : List Ex) (n c : Nat) (bk to : Int) (w : World) (hn : n = l.length) (hr : Rd w w.heap.size lA (l.flatMap Ex.cells)) : Calls Try.prog 5 #[.slice lA n c, .int .i64 bk, .int .i64 to] w fun e w' => e = .returned (.bool true) ∧ Below w.heap.size w w' := by
  have ALV := Lib.hid (fun W => alive12_calls W)
  by_cases h1 : 60 < n
  · have d1 : decide ((60 : Int) < (n : Int)) = true := decide_eq_true (by omega)
    clear hn
    go_enter Try.func5, Try.ntmps5
    go_wp2_with (go_at_call 12; (with_reducible refine (ALV.out _).mono ?_); rintro ex w1 ⟨rfl, hb1⟩; have HB1 := Lib.hid hb1; clear hb1)
    go_ret
    exact ⟨rfl, HB1.out⟩

  have d1 : decide ((60 : Int) < (n : Int)) = false := decide_eq_false (by omega)
  by_cases h2 : bk = to
  · have d2 : (bk == to) = true := by simpa using h2
    clear hn h2
    go_enter Try.func5, Try.ntmps5
    go_wp2_with (go_at_call 12; (with_reducible refine (ALV.out _).mono ?_); rintro ex w1 ⟨rfl, hb1⟩; have HB1 := Lib.hid hb1; clear hb1)
    go_ret
    exact ⟨rfl, HB1.out⟩

  have d2 : (bk == to) = false := by simpa using h2
  have h60 : n ≤ 60 := by omega
  have PT := Lib.hid (fun W (hW : Below w.heap.size w W) => puts_any none lA 0 0 n c [] l w.heap.size W rfl hn Rd.nil (hr.below hW) hW.size (by omega) (by omega))
  have DP := Lib.hid (fun (A : Option Addr) (q e : Nat) (L : List Ex) (W : World) (B : Nat) (hq : q = L.length) (h : Rd W B A (L.flatMap Ex.cells)) (hB : B ≤ W.heap.size) (hq2 : q ≤ 100000) => drop_any A q e L bk B W (fun x : Ex => if x.bl ≠ bk then [x] else []) (fun _ => rfl) hq h hB hq2)
  have MP := Lib.hid (fun (A : Option Addr) (q e : Nat) (L : List Ex) (W : World) (B : Nat) (hq : q = L.length) (h : Rd W B A (L.flatMap Ex.cells)) (hB : B ≤ W.heap.size) (hq2 : q ≤ 100000) => move_any A q e L bk to B W hq h hB hq2)
  have HPL := Lib.hid (show (putsX l []).length ≤ 60 from by have := putsX_len l []; simp at this; omega)
  clear hr hn h1
  generalize putsX l [] = X at *
  go_enter Try.func5, Try.ntmps5
  go_upto_region 4 with (go_at_call 12; (with_reducible refine (ALV.out _).mono ?_); rintro ex w1 ⟨rfl, hb1⟩; have HB1 := Lib.hid hb1; clear hb1)
  go_upto_region 5 with (go_at_call 13; (with_reducible refine (PT.out _ HB1.out).mono ?_); rintro ex w2 ⟨A2, n2, c2, rfl, hn2, ho2, hb2⟩; have HN2 := Lib.hid hn2; have HO2 := Lib.hid ho2; have HB2 := Lib.hid (HB1.out.trans (hb2.mono HB1.out.size)); clear hn2 ho2 hb2)
  have hn260 : n2 ≤ 60 := by rw [HN2.out]; exact HPL.out
  go_upto_region 6 with (go_at_call 15; (with_reducible refine (DP.out A2 n2 c2 X w2 w2.heap.size HN2.out (Rd.of_slice HO2.out) (Nat.le_refl _) (by omega)).mono ?_); rintro ex w3 ⟨A3, n3, c3, rfl, hn3, ho3, hb3⟩; have HN3 := Lib.hid hn3; have HO3 := Lib.hid ho3; have HB3 := Lib.hid hb3; clear hn3 ho3 hb3)
  have HO23 := Lib.hid ((Rd.of_slice HO2.out).below HB3.out)
  go_upto_region 7 with (go_at_call 17; (with_reducible refine (MP.out A2 n2 c2 X w3 w2.heap.size HN2.out HO23.out HB3.out.size (by omega)).mono ?_); rintro ex w4 ⟨A4, n4, c4, rfl, hn4, ho4, hb4⟩; have HN4 := Lib.hid hn4; have HO4 := Lib.hid ho4; have HB4 := Lib.hid hb4; clear hn4 ho4 hb4)
  have RX := Lib.hid (show Rd w4 w4.heap.size A2 (X.flatMap Ex.cells) from (HO23.out.below (HB4.out.mono HB3.out.size)).more (Nat.le_trans HB3.out.size HB4.out.size))
  have RA := Lib.hid (show Rd w4 w4.heap.size A3 ((X.flatMap (fun x : Ex => if x.bl ≠ bk then [x] else [])).flatMap Ex.cells) from ((Rd.of_slice HO3.out).below HB4.out).more HB4.out.size)
  have RB := Lib.hid (show Rd w4 w4.heap.size A4 ((X.map (mvX bk to)).flatMap Ex.cells) from Rd.of_slice HO4.out)
  have HBE := Lib.hid (show Below w.heap.size w w4 from (HB2.out.trans (HB3.out.mono HB2.out.size)).trans (HB4.out.mono (Nat.le_trans HB2.out.size HB3.out.size)))
  have hn4e : n2 = n4 := by rw [HN2.out, HN4.out, List.length_map]
  subst hn4e
  have hgl := List.length_flatMap (l := X) (f := (fun x : Ex => if x.bl ≠ bk then [x] else []))
  clear HB1 HB2 HB3 HB4 HO2 HO23 HO3 HO4 PT DP MP d1 d2 h2 hgl
  generalize hg : (fun x : Ex => if x.bl ≠ bk then [x] else []) = g at *
  have HG := Lib.hid hg
  clear hg
  go_wp2_with fail
  go_loopw [11, 12] (fun m i wr => ∃ (k q : Nat), k ≤ n2 ∧ i = .int .i64 k ∧ m = .int .i64 q ∧ q ≤ k ∧ Hid (q = ((X.take k).flatMap g).length) ∧ Hid (∃ z, wr = w4.drewN z)) (fun _ i _ => n2 - (intOf i).toNat)
  case atStart => exact ⟨0, 0, Nat.zero_le _, rfl, rfl, Nat.le_refl _, Lib.hid rfl, ⟨0, rfl⟩⟩
  case round =>
    obtain ⟨k, q, hk, rfl, rfl, hqk, HQ, HW⟩ := hrel
    obtain ⟨z, rfl⟩ := HW.out
    by_cases hlt : k < n2
    · obtain ⟨y, hy⟩ : ∃ y, X[k]? = some y := ⟨X[k]'(by rw [← HN2.out]; exact hlt), List.getElem?_eq_getElem _⟩
      obtain ⟨ya, rfl, _, hcc⟩ := ex_at RX.out hy
      have y0 : w4.cell? (ya.add (k * 6)) = some (.string y.sv) := hcc 0 _ rfl
      have y1 : w4.cell? ⟨(ya.add (k * 6)).block, (ya.add (k * 6)).off + 1, none⟩ = some (.string y.op) := cell_far (hcc 1 _ rfl) (by decide)
      have y2 : w4.cell? ⟨(ya.add (k * 6)).block, (ya.add (k * 6)).off + 2, none⟩ = some (.int .u64 y.hi) := cell_far (hcc 2 _ rfl) (by decide)
      have y3 : w4.cell? ⟨(ya.add (k * 6)).block, (ya.add (k * 6)).off + 3, none⟩ = some (.int .u64 y.lo) := cell_far (hcc 3 _ rfl) (by decide)
      have y4 : w4.cell? ⟨(ya.add (k * 6)).block, (ya.add (k * 6)).off + 4, none⟩ = some (.int .u64 y.id) := cell_far (hcc 4 _ rfl) (by decide)
      have y5 : w4.cell? ⟨(ya.add (k * 6)).block, (ya.add (k * 6)).off + 5, none⟩ = some (.int .i64 y.bl) := cell_far (hcc 5 _ rfl) (by decide)
      have HST := Lib.hid (flat_snoc g X k y hy)
      have i1 : (k : Int) < (n2 : Int) := by omega
      have i0 : (0 : Int) ≤ (k : Int) := by omega
      by_cases he : y.bl ≠ bk
      · have e1 : (y.bl != bk) = true := by simpa using he
        have hgy : g y = [y] := by rw [← HG.out]; simp [he]
        have hat := flat_at g X k y y hy hgy
        rw [← HQ.out] at hat
        have hq3 : q < n3 := by
          rw [HN3.out]
          rcases Nat.lt_or_ge q (X.flatMap g).length with h | h
          · exact h
          · rw [List.getElem?_eq_none h] at hat; cases hat
        obtain ⟨xa, rfl, _, hdd⟩ := ex_at RA.out hat
        have x0 : w4.cell? (xa.add (q * 6)) = some (.string y.sv) := hdd 0 _ rfl
        have x1 : w4.cell? ⟨(xa.add (q * 6)).block, (xa.add (q * 6)).off + 1, none⟩ = some (.string y.op) := cell_far (hdd 1 _ rfl) (by decide)
        have x2 : w4.cell? ⟨(xa.add (q * 6)).block, (xa.add (q * 6)).off + 2, none⟩ = some (.int .u64 y.hi) := cell_far (hdd 2 _ rfl) (by decide)
        have x3 : w4.cell? ⟨(xa.add (q * 6)).block, (xa.add (q * 6)).off + 3, none⟩ = some (.int .u64 y.lo) := cell_far (hdd 3 _ rfl) (by decide)
        have x4 : w4.cell? ⟨(xa.add (q * 6)).block, (xa.add (q * 6)).off + 4, none⟩ = some (.int .u64 y.id) := cell_far (hdd 4 _ rfl) (by decide)
        have x5 : w4.cell? ⟨(xa.add (q * 6)).block, (xa.add (q * 6)).off + 5, none⟩ = some (.int .i64 y.bl) := cell_far (hdd 5 _ rfl) (by decide)
        have d3 : decide ((n3 : Int) ≤ (q : Int)) = false := decide_eq_false (by omega)
        have i3 : (q : Int) < (n3 : Int) := by omega
        have i4 : (0 : Int) ≤ (q : Int) := by omega
        clear hcc hdd hat hy
        go_upto_region 12 with fail
        go_quiet (fail)
        go_wp2_with fail
        go_roundw
        case rel => exact ⟨k + 1, q + 1, by omega, by go_num, by go_num, by omega, by rw [HST.out, hgy, List.length_append, ← HQ.out]; rfl, ⟨_, rfl⟩⟩
        case measure => simp [intOf]; omega
      · have he' : y.bl = bk := by omega
        have e1 : (y.bl != bk) = false := by simpa using he'
        have hgy : g y = [] := by rw [← HG.out]; simp [he']
        clear hcc hy
        go_wp2_with fail
        go_roundw
        case rel => exact ⟨k + 1, q, by omega, by go_num, rfl, by omega, by rw [HST.out, hgy, List.append_nil]; exact HQ, ⟨_, rfl⟩⟩
        case measure => simp [intOf]; omega
    · have hk2 : k = n2 := by omega
      have hq3 : q = n3 := by rw [HQ.out, HN3.out, List.take_of_length_le (by have := HN2.out; omega)]
      subst hk2 hq3
      have RX5 := Lib.hid (show Rd (w4.drewN z) (w4.drewN z).heap.size A2 (X.flatMap Ex.cells) from RX.out)
      have RB5 := Lib.hid (show Rd (w4.drewN z) (w4.drewN z).heap.size A4 ((X.map (mvX bk to)).flatMap Ex.cells) from RB.out)
      have HBE5 := Lib.hid (show Below w.heap.size w (w4.drewN z) from ⟨HBE.out.os, HBE.out.tape, HBE.out.output, HBE.out.size, HBE.out.block⟩)
      clear RX RB RA HBE HW HQ
      generalize w4.drewN z = w5 at *
      go_wp2_with fail
      go_loopw [13] (fun i wr => ∃ k2 : Nat, k2 ≤ k ∧ i = .int .i64 k2 ∧ Hid (Below w5.heap.size w5 wr)) (fun i _ => k - (intOf i).toNat)
      case atStart => exact ⟨0, Nat.zero_le _, rfl, Lib.hid (Below.refl _ _)⟩
      case round =>
        obtain ⟨k2, hk2, rfl, HW5⟩ := hrel
        have hws := HW5.out.size
        by_cases hlt2 : k2 < k
        · obtain ⟨y, hy⟩ : ∃ y, X[k2]? = some y := ⟨X[k2]'(by rw [← HN2.out]; exact hlt2), List.getElem?_eq_getElem _⟩
          obtain ⟨ya, rfl, hyb, hcc⟩ := ex_at (RX5.out.below HW5.out) hy
          have hmy : (X.map (mvX bk to))[k2]? = some (mvX bk to y) := by rw [List.getElem?_map, hy]; rfl
          obtain ⟨xa, rfl, hxb, hdd⟩ := ex_at (RB5.out.below HW5.out) hmy
          have y0 : wr.cell? (ya.add (k2 * 6)) = some (.string y.sv) := hcc 0 _ rfl
          have y1 : wr.cell? ⟨(ya.add (k2 * 6)).block, (ya.add (k2 * 6)).off + 1, none⟩ = some (.string y.op) := cell_far (hcc 1 _ rfl) (by decide)
          have y2 : wr.cell? ⟨(ya.add (k2 * 6)).block, (ya.add (k2 * 6)).off + 2, none⟩ = some (.int .u64 y.hi) := cell_far (hcc 2 _ rfl) (by decide)
          have y3 : wr.cell? ⟨(ya.add (k2 * 6)).block, (ya.add (k2 * 6)).off + 3, none⟩ = some (.int .u64 y.lo) := cell_far (hcc 3 _ rfl) (by decide)
          have y4 : wr.cell? ⟨(ya.add (k2 * 6)).block, (ya.add (k2 * 6)).off + 4, none⟩ = some (.int .u64 y.id) := cell_far (hcc 4 _ rfl) (by decide)
          have y5 : wr.cell? ⟨(ya.add (k2 * 6)).block, (ya.add (k2 * 6)).off + 5, none⟩ = some (.int .i64 y.bl) := cell_far (hcc 5 _ rfl) (by decide)
          have i1 : (k2 : Int) < (k : Int) := by omega
          have i0 : (0 : Int) ≤ (k2 : Int) := by omega
          go_upto_region 21 with fail
          have hq5 := heap_alloc_new wr (.cells #[.string y.sv, .string y.op, .int .u64 y.hi, .int .u64 y.lo, .int .u64 y.id, .int .i64 y.bl] 38)
          have HW6 := Lib.hid (HW5.out.alloc hws (.cells #[.string y.sv, .string y.op, .int .u64 y.hi, .int .u64 y.lo, .int .u64 y.id, .int .i64 y.bl] 38))
          have hdd6 : ∀ j u, (mvX bk to y).cells[j]? = some u → (wr.alloc (.cells #[.string y.sv, .string y.op, .int .u64 y.hi, .int .u64 y.lo, .int .u64 y.id, .int .i64 y.bl] 38)).cell? (xa.add (k2 * 6 + j)) = some u := fun j u hu => (World.cell?_alloc_lt _ _ _ (by rw [block_add]; omega)).trans (hdd j u hu)
          have b0 : (wr.alloc (.cells #[.string y.sv, .string y.op, .int .u64 y.hi, .int .u64 y.lo, .int .u64 y.id, .int .i64 y.bl] 38)).cell? ⟨wr.heap.size, 0, none⟩ = some (.string y.sv) := cell_of_row _ _ 0 _ _ (0, 0) hq5
          have b1 : (wr.alloc (.cells #[.string y.sv, .string y.op, .int .u64 y.hi, .int .u64 y.lo, .int .u64 y.id, .int .i64 y.bl] 38)).cell? ⟨wr.heap.size, 1, none⟩ = some (.string y.op) := cell_of_row _ _ 1 _ _ (0, 0) hq5
          have b2 : (wr.alloc (.cells #[.string y.sv, .string y.op, .int .u64 y.hi, .int .u64 y.lo, .int .u64 y.id, .int .i64 y.bl] 38)).cell? ⟨wr.heap.size, 2, none⟩ = some (.int .u64 y.hi) := cell_of_row _ _ 2 _ _ (0, 0) hq5
          have b3 : (wr.alloc (.cells #[.string y.sv, .string y.op, .int .u64 y.hi, .int .u64 y.lo, .int .u64 y.id, .int .i64 y.bl] 38)).cell? ⟨wr.heap.size, 3, none⟩ = some (.int .u64 y.lo) := cell_of_row _ _ 3 _ _ (0, 0) hq5
          have b4 : (wr.alloc (.cells #[.string y.sv, .string y.op, .int .u64 y.hi, .int .u64 y.lo, .int .u64 y.id, .int .i64 y.bl] 38)).cell? ⟨wr.heap.size, 4, none⟩ = some (.int .u64 y.id) := cell_of_row _ _ 4 _ _ (0, 0) hq5
          have b5 : (wr.alloc (.cells #[.string y.sv, .string y.op, .int .u64 y.hi, .int .u64 y.lo, .int .u64 y.id, .int .i64 y.bl] 38)).cell? ⟨wr.heap.size, 5, none⟩ = some (.int .i64 y.bl) := cell_of_row _ _ 5 _ _ (0, 0) hq5
          have bf : (wr.alloc (.cells #[.string y.sv, .string y.op, .int .u64 y.hi, .int .u64 y.lo, .int .u64 y.id, .int .i64 y.bl] 38)).frozen? ⟨wr.heap.size, 5, none⟩ = false := by simp only [World.frozen?, hq5]; rfl
          have hgx : w5.heap.size ≤ wr.heap.size := hws
          have hxg : xa.block < wr.heap.size := by omega
          clear y0 y1 y2 y3 y4 y5 hcc hdd hq5 hy hmy HW5
          generalize wr.alloc (.cells #[.string y.sv, .string y.op, .int .u64 y.hi, .int .u64 y.lo, .int .u64 y.id, .int .i64 y.bl] 38) = w6 at *
          generalize wr.heap.size = gx at *
          have hwz := HW6.out.size
          by_cases he : y.bl = bk
          · have e1 : (y.bl == bk) = true := by simpa using he
            have hme : mvX bk to y = { y with bl := to } := by unfold mvX; rw [if_pos he]
            rw [hme] at hdd6
            go_upto_region 23 with fail
            have HW7 := Lib.hid (show Below w5.heap.size w5 (w6.setCell ⟨gx, 5, none⟩ (.int .i64 to)) from HW6.out.setCell (p := ⟨gx, 5, none⟩) hgx _)
            have hdd7 : ∀ j u, ({ y with bl := to } : Ex).cells[j]? = some u → (w6.setCell ⟨gx, 5, none⟩ (.int .i64 to)).cell? (xa.add (k2 * 6 + j)) = some u := fun j u hu => by
              rw [World.cell?_setCell_other _ _ _ _ (fun h => by have hh := congrArg Addr.block h; rw [block_add] at hh; simp at hh; omega)]
              exact hdd6 j u hu
            have q0 : (w6.setCell ⟨gx, 5, none⟩ (.int .i64 to)).cell? ⟨gx, 0, none⟩ = some (.string y.sv) := (World.cell?_setCell_other _ _ _ _ (by simp)).trans b0
            have q1 : (w6.setCell ⟨gx, 5, none⟩ (.int .i64 to)).cell? ⟨gx, 1, none⟩ = some (.string y.op) := (World.cell?_setCell_other _ _ _ _ (by simp)).trans b1
            have q2 : (w6.setCell ⟨gx, 5, none⟩ (.int .i64 to)).cell? ⟨gx, 2, none⟩ = some (.int .u64 y.hi) := (World.cell?_setCell_other _ _ _ _ (by simp)).trans b2
            have q3 : (w6.setCell ⟨gx, 5, none⟩ (.int .i64 to)).cell? ⟨gx, 3, none⟩ = some (.int .u64 y.lo) := (World.cell?_setCell_other _ _ _ _ (by simp)).trans b3
            have q4 : (w6.setCell ⟨gx, 5, none⟩ (.int .i64 to)).cell? ⟨gx, 4, none⟩ = some (.int .u64 y.id) := (World.cell?_setCell_other _ _ _ _ (by simp)).trans b4
            have q5 : (w6.setCell ⟨gx, 5, none⟩ (.int .i64 to)).cell? ⟨gx, 5, none⟩ = some (.int .i64 to) := World.cell?_setCell_same _ _ _ b5
            clear b0 b1 b2 b3 b4 b5 bf hdd6 HW6
            generalize w6.setCell ⟨gx, 5, none⟩ (.int .i64 to) = w7 at *
            have x0 : w7.cell? (xa.add (k2 * 6)) = some (.string y.sv) := hdd7 0 _ rfl
            have x1 : w7.cell? ⟨(xa.add (k2 * 6)).block, (xa.add (k2 * 6)).off + 1, none⟩ = some (.string y.op) := cell_far (hdd7 1 _ rfl) (by decide)
            have x2 : w7.cell? ⟨(xa.add (k2 * 6)).block, (xa.add (k2 * 6)).off + 2, none⟩ = some (.int .u64 y.hi) := cell_far (hdd7 2 _ rfl) (by decide)
            have x3 : w7.cell? ⟨(xa.add (k2 * 6)).block, (xa.add (k2 * 6)).off + 3, none⟩ = some (.int .u64 y.lo) := cell_far (hdd7 3 _ rfl) (by decide)
            have x4 : w7.cell? ⟨(xa.add (k2 * 6)).block, (xa.add (k2 * 6)).off + 4, none⟩ = some (.int .u64 y.id) := cell_far (hdd7 4 _ rfl) (by decide)
            have x5 : w7.cell? ⟨(xa.add (k2 * 6)).block, (xa.add (k2 * 6)).off + 5, none⟩ = some (.int .i64 to) := cell_far (hdd7 5 _ rfl) (by decide)
            clear hdd7
            go_quiet (fail)
            go_wp2_with fail
            go_roundw
            case rel => exact ⟨k2 + 1, by omega, by go_num, Lib.hid ⟨HW7.out.os, HW7.out.tape, HW7.out.output, HW7.out.size, HW7.out.block⟩⟩
            case measure => simp [intOf]; omega
          · have e1 : (y.bl == bk) = false := by simpa using he
            have hme : mvX bk to y = y := by unfold mvX; rw [if_neg he]
            rw [hme] at hdd6
            go_upto_region 23 with fail
            have x0 : w6.cell? (xa.add (k2 * 6)) = some (.string y.sv) := hdd6 0 _ rfl
            have x1 : w6.cell? ⟨(xa.add (k2 * 6)).block, (xa.add (k2 * 6)).off + 1, none⟩ = some (.string y.op) := cell_far (hdd6 1 _ rfl) (by decide)
            have x2 : w6.cell? ⟨(xa.add (k2 * 6)).block, (xa.add (k2 * 6)).off + 2, none⟩ = some (.int .u64 y.hi) := cell_far (hdd6 2 _ rfl) (by decide)
            have x3 : w6.cell? ⟨(xa.add (k2 * 6)).block, (xa.add (k2 * 6)).off + 3, none⟩ = some (.int .u64 y.lo) := cell_far (hdd6 3 _ rfl) (by decide)
            have x4 : w6.cell? ⟨(xa.add (k2 * 6)).block, (xa.add (k2 * 6)).off + 4, none⟩ = some (.int .u64 y.id) := cell_far (hdd6 4 _ rfl) (by decide)
            have x5 : w6.cell? ⟨(xa.add (k2 * 6)).block, (xa.add (k2 * 6)).off + 5, none⟩ = some (.int .i64 y.bl) := cell_far (hdd6 5 _ rfl) (by decide)
            clear hdd6
            go_quiet (fail)
            go_wp2_with fail
            go_roundw
            case rel => exact ⟨k2 + 1, by omega, by go_num, Lib.hid ⟨HW6.out.os, HW6.out.tape, HW6.out.output, HW6.out.size, HW6.out.block⟩⟩
            case measure => simp [intOf]; omega
        · obtain rfl : k2 = k := by omega
          go_wp2_with fail
          go_ret
          exact ⟨rfl, HBE5.out.trans (HW5.out.mono HBE5.out.size)⟩
end Go.Proofs.Ytajpnimjkkmcmaa
