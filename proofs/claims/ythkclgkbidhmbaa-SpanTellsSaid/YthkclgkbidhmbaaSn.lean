/- The document's SameSpan: two spans that differ. -/
import Derived.Test.YthkclgkbidhmbaaSq
namespace Go.Proofs.Ythkclgkbidhmbaa
open Go.RowKit
set_option linter.unusedVariables false
set_option maxRecDepth 100000

theorem str_ne {a b : ByteArray} (h : a ≠ b) : (a.toList == b.toList) = false := by
  rw [beq_eq_false_iff_ne]
  intro e
  apply h
  obtain ⟨⟨l⟩⟩ := a
  obtain ⟨⟨k⟩⟩ := b
  simpa using e
theorem str_ne' {a b : ByteArray} (h : a ≠ b) : (a.toList != b.toList) = true := by simp only [bne, str_ne h]; rfl
theorem two_keep {w : World} {B : Nat} {A : Option Addr} {xs : List Value} (O Z : Obj) (h : Rd w B A xs) (hB : B ≤ w.heap.size) : Rd ((w.alloc O).alloc Z) B A xs :=
  h.keep (fun p hp => (World.cell?_alloc_lt _ _ p (by simp; omega)).trans (World.cell?_alloc_lt _ _ p (by omega)))
theorem two_below (w : World) (O Z : Obj) : Below w.heap.size w ((w.alloc O).alloc Z) := ((Below.refl _ _).alloc (Nat.le_refl _) _).alloc (by simp) _
/-- The first place where two spans differ. -/
theorem first_diff {x0 x1 x2 x3 y0 y1 y2 y3 : Int} {x4 x5 y4 y5 : ByteArray} {x6 x7 y6 y7 : Int} {x8 y8 : Bool} {ats bts : List (ByteArray × ByteArray)} (h : (⟨x0, x1, x2, x3, x4, x5, x6, x7, x8, ats⟩ : Sp) ≠ ⟨y0, y1, y2, y3, y4, y5, y6, y7, y8, bts⟩) :
    x0 ≠ y0 ∨ (x0 = y0 ∧ x1 ≠ y1) ∨ ((x0 = y0 ∧ x1 = y1) ∧ x2 ≠ y2) ∨ ((x0 = y0 ∧ x1 = y1 ∧ x2 = y2) ∧ x3 ≠ y3) ∨ ((x0 = y0 ∧ x1 = y1 ∧ x2 = y2 ∧ x3 = y3) ∧ x4 ≠ y4) ∨ ((x0 = y0 ∧ x1 = y1 ∧ x2 = y2 ∧ x3 = y3 ∧ x4 = y4) ∧ x5 ≠ y5) ∨ ((x0 = y0 ∧ x1 = y1 ∧ x2 = y2 ∧ x3 = y3 ∧ x4 = y4 ∧ x5 = y5) ∧ x6 ≠ y6) ∨ ((x0 = y0 ∧ x1 = y1 ∧ x2 = y2 ∧ x3 = y3 ∧ x4 = y4 ∧ x5 = y5 ∧ x6 = y6) ∧ x7 ≠ y7) ∨ ((x0 = y0 ∧ x1 = y1 ∧ x2 = y2 ∧ x3 = y3 ∧ x4 = y4 ∧ x5 = y5 ∧ x6 = y6 ∧ x7 = y7) ∧ x8 ≠ y8) ∨ ((x0 = y0 ∧ x1 = y1 ∧ x2 = y2 ∧ x3 = y3 ∧ x4 = y4 ∧ x5 = y5 ∧ x6 = y6 ∧ x7 = y7 ∧ x8 = y8) ∧ ats ≠ bts) := by
  by_cases h0 : x0 = y0 <;> by_cases h1 : x1 = y1 <;> by_cases h2 : x2 = y2 <;> by_cases h3 : x3 = y3 <;> by_cases h4 : x4 = y4 <;> by_cases h5 : x5 = y5 <;> by_cases h6 : x6 = y6 <;> by_cases h7 : x7 = y7 <;> by_cases h8 : x8 = y8 <;> first | (subst h0 h1 h2 h3 h4 h5 h6 h7 h8; simp_all) | simp_all
set_option maxHeartbeats 16000000 in
theorem samespan_ne (x0 x1 x2 x3 y0 y1 y2 y3 : Int) (x4 x5 y4 y5 : ByteArray) (x6 x7 y6 y7 : Int) (x8 y8 : Bool) (ats bts : List (ByteArray × ByteArray)) (n m : Nat) (xA yA : Option Addr) (xc yc B : Nat) (w : World) (hn : n = ats.length) (hm : m = bts.length) (hx : Rd w B xA (ats.flatMap atC)) (hy : Rd w B yA (bts.flatMap atC)) (hB : B ≤ w.heap.size) (hl : n ≤ maxLen) (hk : m ≤ maxLen)
    (hd : (⟨x0, x1, x2, x3, x4, x5, x6, x7, x8, ats⟩ : Sp) ≠ ⟨y0, y1, y2, y3, y4, y5, y6, y7, y8, bts⟩) :
    Calls Try.prog 32 #[.agg #[.int .u64 x0, .int .u64 x1, .int .u64 x2, .int .u64 x3, .string x4, .string x5, .int .i64 x6, .int .i64 x7, .bool x8, .slice xA n xc], .agg #[.int .u64 y0, .int .u64 y1, .int .u64 y2, .int .u64 y3, .string y4, .string y5, .int .i64 y6, .int .i64 y7, .bool y8, .slice yA m yc]] w
      fun e w' => e = .returned (.bool false) ∧ Below w.heap.size w w' := by
  simp only [maxLen] at hl hk
  have HN := Lib.hid hn
  have HM := Lib.hid hm
  have HX := Lib.hid (two_keep (.cells #[.int .u64 x0, .int .u64 x1, .int .u64 x2, .int .u64 x3, .string x4, .string x5, .int .i64 x6, .int .i64 x7, .bool x8, .slice xA n xc] 36) (.cells #[.int .u64 y0, .int .u64 y1, .int .u64 y2, .int .u64 y3, .string y4, .string y5, .int .i64 y6, .int .i64 y7, .bool y8, .slice yA m yc] 36) hx hB)
  have HY := Lib.hid (two_keep (.cells #[.int .u64 x0, .int .u64 x1, .int .u64 x2, .int .u64 x3, .string x4, .string x5, .int .i64 x6, .int .i64 x7, .bool x8, .slice xA n xc] 36) (.cells #[.int .u64 y0, .int .u64 y1, .int .u64 y2, .int .u64 y3, .string y4, .string y5, .int .i64 y6, .int .i64 y7, .bool y8, .slice yA m yc] 36) hy hB)
  have HBW := Lib.hid (two_below w (.cells #[.int .u64 x0, .int .u64 x1, .int .u64 x2, .int .u64 x3, .string x4, .string x5, .int .i64 x6, .int .i64 x7, .bool x8, .slice xA n xc] 36) (.cells #[.int .u64 y0, .int .u64 y1, .int .u64 y2, .int .u64 y3, .string y4, .string y5, .int .i64 y6, .int .i64 y7, .bool y8, .slice yA m yc] 36))
  have HC := Lib.hid (two_cells w (.cells #[.int .u64 x0, .int .u64 x1, .int .u64 x2, .int .u64 x3, .string x4, .string x5, .int .i64 x6, .int .i64 x7, .bool x8, .slice xA n xc] 36) (.cells #[.int .u64 y0, .int .u64 y1, .int .u64 y2, .int .u64 y3, .string y4, .string y5, .int .i64 y6, .int .i64 y7, .bool y8, .slice yA m yc] 36))
  clear hx hy
  rcases first_diff hd with h | ⟨rfl, h⟩ | ⟨⟨rfl, rfl⟩, h⟩ | ⟨⟨rfl, rfl, rfl⟩, h⟩ | ⟨⟨rfl, rfl, rfl, rfl⟩, h⟩ | ⟨⟨rfl, rfl, rfl, rfl, rfl⟩, h⟩ | ⟨⟨rfl, rfl, rfl, rfl, rfl, rfl⟩, h⟩ | ⟨⟨rfl, rfl, rfl, rfl, rfl, rfl, rfl⟩, h⟩ | ⟨⟨rfl, rfl, rfl, rfl, rfl, rfl, rfl, rfl⟩, h⟩ | ⟨⟨rfl, rfl, rfl, rfl, rfl, rfl, rfl, rfl, rfl⟩, h⟩
  · have hb : (x0 == y0) = false := by simpa using h
    have hb2 : (x0 != y0) = true := by simpa using h
    clear h hd hn hm
    go_enter Try.func32, Try.ntmps32
    go_wp2_with fail
    go_ret
    exact ⟨rfl, HBW.out⟩
  · have hb : (x1 == y1) = false := by simpa using h
    have hb2 : (x1 != y1) = true := by simpa using h
    clear h hd hn hm
    go_enter Try.func32, Try.ntmps32
    go_wp2_with fail
    go_ret
    exact ⟨rfl, HBW.out⟩
  · have hb : (x2 == y2) = false := by simpa using h
    have hb2 : (x2 != y2) = true := by simpa using h
    clear h hd hn hm
    go_enter Try.func32, Try.ntmps32
    go_wp2_with fail
    go_ret
    exact ⟨rfl, HBW.out⟩
  · have hb : (x3 == y3) = false := by simpa using h
    have hb2 : (x3 != y3) = true := by simpa using h
    clear h hd hn hm
    go_enter Try.func32, Try.ntmps32
    go_wp2_with fail
    go_ret
    exact ⟨rfl, HBW.out⟩
  · have hb : (x4.toList == y4.toList) = false := str_ne h
    have hb2 : (x4.toList != y4.toList) = true := str_ne' h
    clear h hd hn hm
    go_enter Try.func32, Try.ntmps32
    go_wp2_with fail
    go_ret
    exact ⟨rfl, HBW.out⟩
  · have hb : (x5.toList == y5.toList) = false := str_ne h
    have hb2 : (x5.toList != y5.toList) = true := str_ne' h
    clear h hd hn hm
    go_enter Try.func32, Try.ntmps32
    go_wp2_with fail
    go_ret
    exact ⟨rfl, HBW.out⟩
  · have hb : (x6 == y6) = false := by simpa using h
    have hb2 : (x6 != y6) = true := by simpa using h
    clear h hd hn hm
    go_enter Try.func32, Try.ntmps32
    go_wp2_with fail
    go_ret
    exact ⟨rfl, HBW.out⟩
  · have hb : (x7 == y7) = false := by simpa using h
    have hb2 : (x7 != y7) = true := by simpa using h
    clear h hd hn hm
    go_enter Try.func32, Try.ntmps32
    go_wp2_with fail
    go_ret
    exact ⟨rfl, HBW.out⟩
  · have hb : (x8 == y8) = false := by simpa using h
    have hb2 : (x8 != y8) = true := by simpa using h
    clear h hd hn hm
    go_enter Try.func32, Try.ntmps32
    go_wp2_with fail
    go_ret
    exact ⟨rfl, HBW.out⟩
  · clear hd
    by_cases hnm : n = m
    · subst hnm
      clear hn hm
      have HD := Lib.hid h
      clear h
      go_enter Try.func32, Try.ntmps32
      go_wp2_with fail
      generalize (w.alloc (.cells #[.int .u64 x0, .int .u64 x1, .int .u64 x2, .int .u64 x3, .string x4, .string x5, .int .i64 x6, .int .i64 x7, .bool x8, .slice xA n xc] 36)).alloc (.cells #[.int .u64 x0, .int .u64 x1, .int .u64 x2, .int .u64 x3, .string x4, .string x5, .int .i64 x6, .int .i64 x7, .bool x8, .slice yA n yc] 36) = W at *
      generalize hB0 : w.heap.size = B0 at *
      have HB0 := Lib.hid hB0
      clear hB0
      go_loopw [5] (fun i wr => ∃ k : Nat, i = .int .i64 k ∧ k ≤ n ∧ Hid (ats.take k = bts.take k) ∧ Hid (∀ p, wr.cell? p = W.cell? p) ∧ Hid (Below B0 w wr)) (fun i _ => n - (intOf i).toNat)
      case atStart => exact ⟨0, rfl, Nat.zero_le _, Lib.hid rfl, Lib.hid (fun _ => rfl), HBW⟩
      case round =>
        obtain ⟨k, rfl, hk, HT, HDD, HB⟩ := hrel
        have o9 : wr.cell? ⟨B0, 9, none⟩ = some (.slice xA n xc) := (HDD.out _).trans <| cell_of_row W _ 9 _ _ (0, 0) HC.out.1
        have p9 : wr.cell? ⟨B0 + 1, 9, none⟩ = some (.slice yA n yc) := (HDD.out _).trans <| cell_of_row W _ 9 _ _ (0, 0) HC.out.2
        by_cases hlt : k < n
        · obtain ⟨y, hy⟩ : ∃ y, ats[k]? = some y := ⟨_, List.getElem?_eq_getElem (by rw [← HN.out]; exact hlt)⟩
          obtain ⟨z, hz⟩ : ∃ z, bts[k]? = some z := ⟨_, List.getElem?_eq_getElem (by rw [← HM.out]; exact hlt)⟩
          obtain ⟨a, ha, hab, hc⟩ := HX.out (by rw [flatMap_len _ 2 atC_len, ← HN.out]; omega)
          obtain ⟨b, hb, hbb, hd⟩ := HY.out (by rw [flatMap_len _ 2 atC_len, ← HM.out]; omega)
          subst ha
          subst hb
          have g0 := flatMap_at atC 2 atC_len ats k 0 (by omega)
          have g1 := flatMap_at atC 2 atC_len ats k 1 (by omega)
          have e0 := flatMap_at atC 2 atC_len bts k 0 (by omega)
          have e1 := flatMap_at atC 2 atC_len bts k 1 (by omega)
          rw [hy] at g0 g1
          rw [hz] at e0 e1
          have HT2 : Hid (y = z → ats.take (k + 1) = bts.take (k + 1)) := Lib.hid (fun he => by rw [List.take_add_one, List.take_add_one, hy, hz, HT.out, he])
          obtain ⟨y1, y2⟩ := y
          obtain ⟨z1, z2⟩ := z
          have c0 : wr.cell? (a.add (k * 2)) = some (.string y1) := (HDD.out _).trans (hc (k * 2) _ g0)
          have c1 : wr.cell? ⟨(a.add (k * 2)).block, (a.add (k * 2)).off + 1, none⟩ = some (.string y2) := (HDD.out _).trans (cell_far (hc (k * 2 + 1) _ g1) (by omega))
          have d0 : wr.cell? (b.add (k * 2)) = some (.string z1) := (HDD.out _).trans (hd (k * 2) _ e0)
          have d1 : wr.cell? ⟨(b.add (k * 2)).block, (b.add (k * 2)).off + 1, none⟩ = some (.string z2) := (HDD.out _).trans (cell_far (hd (k * 2 + 1) _ e1) (by omega))
          have i1 : (0 : Int) ≤ k := by omega
          have i2 : (k : Int) < n := by omega
          clear g0 g1 e0 e1 hc hd hy hz
          by_cases h1 : y1 = z1
          · subst h1
            by_cases h2 : y2 = z2
            · subst h2
              go_wp2_with fail
              go_quiet (fail)
              go_wp2_with fail
              go_roundw
              case rel => exact ⟨k + 1, by go_num, by omega, Lib.hid (by first | exact HT2.out rfl | exact HT2.out trivial), Lib.hid (fun p => HDD.out p), Lib.hid (HB.out.trans ⟨rfl, rfl, rfl, Nat.le_refl _, fun _ _ => rfl⟩)⟩
              case measure => simp [intOf]; omega
            · have hs2 := str_ne h2
              clear h2
              go_wp2_with fail
              go_quiet (fail)
              go_wp2_with fail
              go_ret
              exact ⟨rfl, by rw [HB0.out]; exact HB.out.trans ⟨rfl, rfl, rfl, Nat.le_refl _, fun _ _ => rfl⟩⟩
          · have hs1 := str_ne h1
            clear h1
            go_wp2_with fail
            go_quiet (fail)
            go_wp2_with fail
            go_ret
            exact ⟨rfl, by rw [HB0.out]; exact HB.out.trans ⟨rfl, rfl, rfl, Nat.le_refl _, fun _ _ => rfl⟩⟩
        · exfalso
          obtain rfl : k = n := by omega
          have := HT.out
          rw [List.take_of_length_le (by rw [← HN.out]; exact Nat.le_refl _), List.take_of_length_le (by rw [← HM.out]; exact Nat.le_refl _)] at this
          exact HD.out this
    · have hb : ((n : Int) == (m : Int)) = false := by simp; omega
      have hb2 : ((n : Int) != (m : Int)) = true := by simp; omega
      clear h hn hm
      go_enter Try.func32, Try.ntmps32
      go_wp2_with fail
      go_ret
      exact ⟨rfl, HBW.out⟩
end Go.Proofs.Ythkclgkbidhmbaa
