/- span.Same: of spans that are the same, and of two that differ. -/
import Derived.Test.YthkclgkbidhmbaaSn
namespace Go.Proofs.Ythkclgkbidhmbaa
open Go.RowKit
set_option linter.unusedVariables false
set_option maxRecDepth 100000

set_option maxHeartbeats 16000000 in
theorem equal_any (xA yA : Option Addr) (ats bts : List (ByteArray × ByteArray)) (n m xc yc B : Nat) (w : World) (hn : n = ats.length) (hm : m = bts.length) (hx : Rd w B xA (ats.flatMap atC)) (hy : Rd w B yA (bts.flatMap atC)) (hl : n ≤ maxLen) (hk : m ≤ maxLen) :
    (ats = bts → Calls Try.prog 64 #[.slice xA n xc, .slice yA m yc] w fun e w' => e = .returned (.bool true) ∧ Below w.heap.size w w') ∧ (ats ≠ bts → Calls Try.prog 64 #[.slice xA n xc, .slice yA m yc] w fun e w' => e = .returned (.bool false) ∧ Below w.heap.size w w') := by
  simp only [maxLen] at hl hk
  have key : ∀ Q : Ending → World → Prop, (ats = bts → ∀ w', Below w.heap.size w w' → Q (.returned (.bool true)) w') → (ats ≠ bts → ∀ w', Below w.heap.size w w' → Q (.returned (.bool false)) w') → Calls Try.prog 64 #[.slice xA n xc, .slice yA m yc] w Q := by
    intro Q q1 q2
    have HQ1 := Lib.hid q1
    have HQ2 := Lib.hid q2
    have HN := Lib.hid hn
    have HM := Lib.hid hm
    have HX := Lib.hid hx
    have HY := Lib.hid hy
    clear q1 q2 hx hy
    by_cases hnm : n = m
    · subst hnm
      clear hn hm
      go_enter Try.func64, Try.ntmps64
      go_wp2_with fail
      go_loopw [13] (fun i wr => ∃ k : Nat, i = .int .i64 k ∧ k ≤ n ∧ Hid (ats.take k = bts.take k) ∧ Hid (∀ p, wr.cell? p = w.cell? p) ∧ Hid (Below w.heap.size w wr)) (fun i _ => n - (intOf i).toNat)
      case atStart => exact ⟨0, rfl, Nat.zero_le _, Lib.hid rfl, Lib.hid (fun _ => rfl), Lib.hid (Below.refl _ _)⟩
      case round =>
        obtain ⟨k, rfl, hk, HT, HDD, HB⟩ := hrel
        by_cases hlt : k < n
        · obtain ⟨y, hy⟩ : ∃ y, ats[k]? = some y := ⟨_, List.getElem?_eq_getElem (by rw [← HN.out]; exact hlt)⟩
          obtain ⟨z, hz⟩ : ∃ z, bts[k]? = some z := ⟨_, List.getElem?_eq_getElem (by rw [← HM.out]; exact hlt)⟩
          obtain ⟨a, ha, hab, hc⟩ := HX.out (by rw [flatMap_len _ 2 atC_len, ← HN.out]; omega)
          obtain ⟨b, hb, hbb, hd⟩ := HY.out (by rw [flatMap_len _ 2 atC_len, ← HM.out]; omega)
          subst ha
          subst hb
          have g0 := flatMap_at atC 2 atC_len ats k 0 (by omega)
          have g1 := flatMap_at atC 2 atC_len ats k 1 (by omega)
          have e0 := flatMap_at atC 2 atC_len bts k 0 (by omega)
          have e1 := flatMap_at atC 2 atC_len bts k 1 (by omega)
          rw [hy] at g0 g1
          rw [hz] at e0 e1
          have HT2 : Hid (y = z → ats.take (k + 1) = bts.take (k + 1)) := Lib.hid (fun he => by rw [List.take_add_one, List.take_add_one, hy, hz, HT.out, he])
          have HNE : Hid (y ≠ z → ats ≠ bts) := Lib.hid (fun hne he => hne (by rw [he, hz] at hy; injection hy with hy; exact hy.symm))
          obtain ⟨y1, y2⟩ := y
          obtain ⟨z1, z2⟩ := z
          have c0 : wr.cell? (a.add (k * 2)) = some (.string y1) := (HDD.out _).trans (hc (k * 2) _ g0)
          have c1 : wr.cell? ⟨(a.add (k * 2)).block, (a.add (k * 2)).off + 1, none⟩ = some (.string y2) := (HDD.out _).trans (cell_far (hc (k * 2 + 1) _ g1) (by omega))
          have d0 : wr.cell? (b.add (k * 2)) = some (.string z1) := (HDD.out _).trans (hd (k * 2) _ e0)
          have d1 : wr.cell? ⟨(b.add (k * 2)).block, (b.add (k * 2)).off + 1, none⟩ = some (.string z2) := (HDD.out _).trans (cell_far (hd (k * 2 + 1) _ e1) (by omega))
          have i1 : (0 : Int) ≤ k := by omega
          have i2 : (k : Int) < n := by omega
          clear g0 g1 e0 e1 hc hd hy hz
          by_cases h1 : y1 = z1
          · subst h1
            by_cases h2 : y2 = z2
            · subst h2
              go_wp2_with fail
              go_quiet (fail)
              go_wp2_with fail
              go_roundw
              case rel => exact ⟨k + 1, by go_num, by omega, Lib.hid (by first | exact HT2.out rfl | exact HT2.out trivial), Lib.hid (fun p => HDD.out p), Lib.hid (HB.out.trans ⟨rfl, rfl, rfl, Nat.le_refl _, fun _ _ => rfl⟩)⟩
              case measure => simp [intOf]; omega
            · have hne : ats ≠ bts := HNE.out (fun e => by injection e with _ e; exact h2 e)
              have hs2 := str_ne h2
              have HNN := Lib.hid hne
              clear h2 hne
              go_wp2_with fail
              go_quiet (fail)
              go_wp2_with fail
              exact HQ2.out HNN.out _ (HB.out.trans ⟨rfl, rfl, rfl, Nat.le_refl _, fun _ _ => rfl⟩)
          · have hne : ats ≠ bts := HNE.out (fun e => by injection e with e _; exact h1 e)
            have hs1 := str_ne h1
            have HNN := Lib.hid hne
            clear h1 hne
            go_wp2_with fail
            go_quiet (fail)
            go_wp2_with fail
            exact HQ2.out HNN.out _ (HB.out.trans ⟨rfl, rfl, rfl, Nat.le_refl _, fun _ _ => rfl⟩)
        · obtain rfl : n = k := by omega
          have heq : ats = bts := by
            have := HT.out
            rwa [List.take_of_length_le (by rw [← HN.out]; exact Nat.le_refl _), List.take_of_length_le (by rw [← HM.out]; exact Nat.le_refl _)] at this
          have HEQ := Lib.hid heq
          clear heq
          go_wp2_with fail
          exact HQ1.out HEQ.out _ HB.out
    · have hne : ats ≠ bts := fun e => hnm (by rw [hn, hm, e])
      have hb : ((n : Int) == (m : Int)) = false := by simp; omega
      have hb2 : ((n : Int) != (m : Int)) = true := by simp; omega
      have HNN := Lib.hid hne
      clear hn hm hne hnm
      go_enter Try.func64, Try.ntmps64
      go_wp2_with fail
      exact HQ2.out HNN.out _ (Below.refl _ _)
  exact ⟨fun h => key _ (fun _ w' hb => ⟨rfl, hb⟩) (fun hne => absurd h hne), fun h => key _ (fun he => absurd he h) (fun _ w' hb => ⟨rfl, hb⟩)⟩
set_option maxHeartbeats 16000000 in
theorem same_eq (x0 x1 x2 x3 : Int) (x4 x5 : ByteArray) (x6 x7 : Int) (x8 : Bool) (ats : List (ByteArray × ByteArray)) (n : Nat) (xA yA : Option Addr) (xc yc B : Nat) (w : World) (hn : n = ats.length) (hx : Rd w B xA (ats.flatMap atC)) (hy : Rd w B yA (ats.flatMap atC)) (hB : B ≤ w.heap.size) (hl : n ≤ maxLen) :
    Calls Try.prog 34 #[.agg #[.int .u64 x0, .int .u64 x1, .int .u64 x2, .int .u64 x3, .string x4, .string x5, .int .i64 x6, .int .i64 x7, .bool x8, .slice xA n xc], .agg #[.int .u64 x0, .int .u64 x1, .int .u64 x2, .int .u64 x3, .string x4, .string x5, .int .i64 x6, .int .i64 x7, .bool x8, .slice yA n yc]] w
      fun e w' => e = .returned (.bool true) ∧ Below w.heap.size w w' := by
  have HBW := Lib.hid (two_below w (.cells #[.int .u64 x0, .int .u64 x1, .int .u64 x2, .int .u64 x3, .string x4, .string x5, .int .i64 x6, .int .i64 x7, .bool x8, .slice xA n xc] 36) (.cells #[.int .u64 x0, .int .u64 x1, .int .u64 x2, .int .u64 x3, .string x4, .string x5, .int .i64 x6, .int .i64 x7, .bool x8, .slice yA n yc] 36))
  have HC := Lib.hid ((equal_any xA yA ats ats n n xc yc B ((w.alloc (.cells #[.int .u64 x0, .int .u64 x1, .int .u64 x2, .int .u64 x3, .string x4, .string x5, .int .i64 x6, .int .i64 x7, .bool x8, .slice xA n xc] 36)).alloc (.cells #[.int .u64 x0, .int .u64 x1, .int .u64 x2, .int .u64 x3, .string x4, .string x5, .int .i64 x6, .int .i64 x7, .bool x8, .slice yA n yc] 36)) hn hn (two_keep _ _ hx hB) (two_keep _ _ hy hB) hl hl).1 rfl)
  clear hx hy hn
  go_enter Try.func34, Try.ntmps34
  go_wp2_with (go_at_call 64; (with_reducible refine (HC.out).mono ?_); rintro e w1 ⟨rfl, hb1⟩; have HB1 := Lib.hid (HBW.out.trans (hb1.mono HBW.out.size)); clear hb1)
  go_ret
  exact ⟨rfl, HB1.out⟩
set_option maxHeartbeats 16000000 in
theorem same_ne (x0 x1 x2 x3 y0 y1 y2 y3 : Int) (x4 x5 y4 y5 : ByteArray) (x6 x7 y6 y7 : Int) (x8 y8 : Bool) (ats bts : List (ByteArray × ByteArray)) (n m : Nat) (xA yA : Option Addr) (xc yc B : Nat) (w : World) (hn : n = ats.length) (hm : m = bts.length) (hx : Rd w B xA (ats.flatMap atC)) (hy : Rd w B yA (bts.flatMap atC)) (hB : B ≤ w.heap.size) (hl : n ≤ maxLen) (hk : m ≤ maxLen)
    (hd : (⟨x0, x1, x2, x3, x4, x5, x6, x7, x8, ats⟩ : Sp) ≠ ⟨y0, y1, y2, y3, y4, y5, y6, y7, y8, bts⟩) :
    Calls Try.prog 34 #[.agg #[.int .u64 x0, .int .u64 x1, .int .u64 x2, .int .u64 x3, .string x4, .string x5, .int .i64 x6, .int .i64 x7, .bool x8, .slice xA n xc], .agg #[.int .u64 y0, .int .u64 y1, .int .u64 y2, .int .u64 y3, .string y4, .string y5, .int .i64 y6, .int .i64 y7, .bool y8, .slice yA m yc]] w
      fun e w' => e = .returned (.bool false) ∧ Below w.heap.size w w' := by
  have HBW := Lib.hid (two_below w (.cells #[.int .u64 x0, .int .u64 x1, .int .u64 x2, .int .u64 x3, .string x4, .string x5, .int .i64 x6, .int .i64 x7, .bool x8, .slice xA n xc] 36) (.cells #[.int .u64 y0, .int .u64 y1, .int .u64 y2, .int .u64 y3, .string y4, .string y5, .int .i64 y6, .int .i64 y7, .bool y8, .slice yA m yc] 36))
  have HEQ := Lib.hid ((equal_any xA yA ats bts n m xc yc B ((w.alloc (.cells #[.int .u64 x0, .int .u64 x1, .int .u64 x2, .int .u64 x3, .string x4, .string x5, .int .i64 x6, .int .i64 x7, .bool x8, .slice xA n xc] 36)).alloc (.cells #[.int .u64 y0, .int .u64 y1, .int .u64 y2, .int .u64 y3, .string y4, .string y5, .int .i64 y6, .int .i64 y7, .bool y8, .slice yA m yc] 36)) hn hm (two_keep _ _ hx hB) (two_keep _ _ hy hB) hl hk).2)
  clear hx hy hl hk
  rcases first_diff hd with h | ⟨rfl, h⟩ | ⟨⟨rfl, rfl⟩, h⟩ | ⟨⟨rfl, rfl, rfl⟩, h⟩ | ⟨⟨rfl, rfl, rfl, rfl⟩, h⟩ | ⟨⟨rfl, rfl, rfl, rfl, rfl⟩, h⟩ | ⟨⟨rfl, rfl, rfl, rfl, rfl, rfl⟩, h⟩ | ⟨⟨rfl, rfl, rfl, rfl, rfl, rfl, rfl⟩, h⟩ | ⟨⟨rfl, rfl, rfl, rfl, rfl, rfl, rfl, rfl⟩, h⟩ | ⟨⟨rfl, rfl, rfl, rfl, rfl, rfl, rfl, rfl, rfl⟩, h⟩
  · have hb : (x0 == y0) = false := by simpa using h
    clear h hd hn hm HEQ
    go_enter Try.func34, Try.ntmps34
    go_wp2_with fail
    go_ret
    exact ⟨rfl, HBW.out⟩
  · have hb : (x1 == y1) = false := by simpa using h
    clear h hd hn hm HEQ
    go_enter Try.func34, Try.ntmps34
    go_wp2_with fail
    go_ret
    exact ⟨rfl, HBW.out⟩
  · have hb : (x2 == y2) = false := by simpa using h
    clear h hd hn hm HEQ
    go_enter Try.func34, Try.ntmps34
    go_wp2_with fail
    go_ret
    exact ⟨rfl, HBW.out⟩
  · have hb : (x3 == y3) = false := by simpa using h
    clear h hd hn hm HEQ
    go_enter Try.func34, Try.ntmps34
    go_wp2_with fail
    go_ret
    exact ⟨rfl, HBW.out⟩
  · have hb : (x4.toList == y4.toList) = false := str_ne h
    clear h hd hn hm HEQ
    go_enter Try.func34, Try.ntmps34
    go_wp2_with fail
    go_ret
    exact ⟨rfl, HBW.out⟩
  · have hb : (x5.toList == y5.toList) = false := str_ne h
    clear h hd hn hm HEQ
    go_enter Try.func34, Try.ntmps34
    go_wp2_with fail
    go_ret
    exact ⟨rfl, HBW.out⟩
  · have hb : (x6 == y6) = false := by simpa using h
    clear h hd hn hm HEQ
    go_enter Try.func34, Try.ntmps34
    go_wp2_with fail
    go_ret
    exact ⟨rfl, HBW.out⟩
  · have hb : (x7 == y7) = false := by simpa using h
    clear h hd hn hm HEQ
    go_enter Try.func34, Try.ntmps34
    go_wp2_with fail
    go_ret
    exact ⟨rfl, HBW.out⟩
  · have hb : (x8 == y8) = false := by simpa using h
    clear h hd hn hm HEQ
    go_enter Try.func34, Try.ntmps34
    go_wp2_with fail
    go_ret
    exact ⟨rfl, HBW.out⟩
  · have HC := Lib.hid (HEQ.out h)
    clear h hd hn hm HEQ
    go_enter Try.func34, Try.ntmps34
    go_wp2_with (go_at_call 64; (with_reducible refine (HC.out).mono ?_); rintro e w1 ⟨rfl, hb1⟩; have HB1 := Lib.hid (HBW.out.trans (hb1.mono HBW.out.size)); clear hb1)
    go_ret
    exact ⟨rfl, HB1.out⟩
end Go.Proofs.Ythkclgkbidhmbaa
