/- SlotsNew: the walk. -/
import Derived.Test.YtajpnimjkkmcmaaNw
namespace Go.Proofs.Ytajpnimjkkmcmaa
open Go.RowKit
set_option linter.unusedVariables false
set_option linter.unusedSimpArgs false
set_option maxRecDepth 100000

set_option maxHeartbeats 16000000 in
theorem new12 (a b : Int) (w : World) : Calls Try.prog 4 #[.int .i64 a, .int .i64 b] w fun e w' => e = .returned (.bool true) ∧ Below w.heap.size w w' := by
  have ALV := Lib.hid (fun W => alive12_calls W)
  by_cases h1 : a < 0
  · have d1 : decide (a < 0) = true := decide_eq_true h1
    go_enter Try.func4, Try.ntmps4
    go_wp2_with (go_at_call 12; (with_reducible refine (ALV.out _).mono ?_); rintro ex w1 ⟨rfl, hb1⟩; have HB1 := Lib.hid hb1; clear hb1)
    go_ret
    exact ⟨rfl, HB1.out⟩
  have d1 : decide (a < 0) = false := decide_eq_false h1
  by_cases h2 : 40 < a
  · have d2 : decide (40 < a) = true := decide_eq_true h2
    go_enter Try.func4, Try.ntmps4
    go_wp2_with (go_at_call 12; (with_reducible refine (ALV.out _).mono ?_); rintro ex w1 ⟨rfl, hb1⟩; have HB1 := Lib.hid hb1; clear hb1)
    go_ret
    exact ⟨rfl, HB1.out⟩
  have d2 : decide (40 < a) = false := decide_eq_false h2
  by_cases h3 : b < 0
  · have d3 : decide (b < 0) = true := decide_eq_true h3
    go_enter Try.func4, Try.ntmps4
    go_wp2_with (go_at_call 12; (with_reducible refine (ALV.out _).mono ?_); rintro ex w1 ⟨rfl, hb1⟩; have HB1 := Lib.hid hb1; clear hb1)
    go_ret
    exact ⟨rfl, HB1.out⟩
  have d3 : decide (b < 0) = false := decide_eq_false h3
  by_cases h4 : 40 < b
  · have d4 : decide (40 < b) = true := decide_eq_true h4
    go_enter Try.func4, Try.ntmps4
    go_wp2_with (go_at_call 12; (with_reducible refine (ALV.out _).mono ?_); rintro ex w1 ⟨rfl, hb1⟩; have HB1 := Lib.hid hb1; clear hb1)
    go_ret
    exact ⟨rfl, HB1.out⟩
  have d4 : decide (40 < b) = false := decide_eq_false h4
  obtain ⟨n, rfl⟩ := Int.eq_ofNat_of_zero_le (show 0 ≤ a by omega)
  obtain ⟨m, rfl⟩ := Int.eq_ofNat_of_zero_le (show 0 ≤ b by omega)
  have hn40 : n ≤ 40 := by omega
  have hm40 : m ≤ 40 := by omega
  clear h1 h2 h3 h4
  have NW := Lib.hid (fun (i j : Nat) => nw_len i j)
  go_enter Try.func4, Try.ntmps4
  go_wp2_with (go_at_call 12; (with_reducible refine (ALV.out _).mono ?_); rintro ex w1 ⟨rfl, hb1⟩; have HB1 := Lib.hid hb1; clear hb1)
  clear d1 d2 d3 d4
  go_loopw [6, 7] (fun l i wr => ∃ (k n' c' : Nat) (A' : Option Addr), (k ≤ n ∨ k ≤ m) ∧ i = .int .i64 k ∧ l = .slice A' n' c' ∧ Hid (n' = (nwO (min k n) ++ nwP (min k m)).length) ∧ Hid (wr.ownsRow w.heap.size 38 6 (.slice A' n' c') n' ((nwO (min k n) ++ nwP (min k m)).flatMap Ex.cells)) ∧ Hid (Below w.heap.size w wr)) (fun _ i _ => max n m - (intOf i).toNat)
  case atStart => exact ⟨0, 0, 0, none, .inl (Nat.zero_le _), rfl, rfl, Lib.hid (by simp [nwO, nwP]), Lib.hid (by simpa [nwO, nwP] using World.ownsRow_nil _ _ _ _), HB1⟩
  case round =>
    obtain ⟨k, n', c', A', hk, rfl, rfl, HN', HO, HB⟩ := hrel
    have hws := HB.out.size
    have hn4 : n' ≤ 4 := by rw [HN'.out]; exact NW.out _ _
    have hk41 : k ≤ 40 := by omega
    have hwr : IntKind.u64.wrap (k : Int) = (k : Int) := by rw [IntKind.wrap_u64]; omega
    by_cases c1 : k < n
    · have d1 : decide ((k : Int) < (n : Int)) = true := decide_eq_true (by omega)
      have s1 : min (k + 1) n = min k n + 1 := by omega
      have s2 : min k n = k := by omega
      have PO := Lib.hid (put_one A' n' c' (nwO (min k n) ++ nwP (min k m)) (eO ((k : Nat) : Int)) wr HN'.out (Rd.of_slice HO.out) (by omega))
      have e1 : putX (eO ((k : Nat) : Int)) (nwO (min k n) ++ nwP (min k m)) = nwO (min (k + 1) n) ++ nwP (min k m) := by rw [s1, s2]; exact nw_o k _
      rw [e1] at PO
      dsimp only [eO] at PO
      by_cases c2 : k < m
      · have d2 : decide ((k : Int) < (m : Int)) = true := decide_eq_true (by omega)
        have t1 : min (k + 1) m = min k m + 1 := by omega
        have t2 : min k m = k := by omega
        have PP := Lib.hid (fun (A2 : Option Addr) (n2 c2 : Nat) (W : World) (h1 : n2 = (nwO (min (k + 1) n) ++ nwP (min k m)).length) (h2 : W.ownsRow wr.heap.size 38 6 (.slice A2 n2 c2) n2 ((nwO (min (k + 1) n) ++ nwP (min k m)).flatMap Ex.cells)) =>
          put_one A2 n2 c2 (nwO (min (k + 1) n) ++ nwP (min k m)) (eP ((k : Nat) : Int)) W h1 (Rd.of_slice h2) (by rw [h1]; have := NW.out (min (k + 1) n) (min k m); omega))
        have e2 : putX (eP ((k : Nat) : Int)) (nwO (min (k + 1) n) ++ nwP (min k m)) = nwO (min (k + 1) n) ++ nwP (min (k + 1) m) := by rw [t1, t2]; exact nw_p _ k
        rw [e2] at PP
        dsimp only [eP] at PP
        clear e1 e2 s1 s2 t1 t2
        generalize nwO (min k n) ++ nwP (min k m) = L0 at *
        generalize nwO (min (k + 1) n) ++ nwP (min k m) = L1 at *
        go_wp2_with (first
          | (have hd := done2; clear done2; go_at_call 13; (with_reducible refine (PP.out _ _ _ _ HN2.out HO2.out).mono ?_); rintro ex w3 ⟨A3, n3, c3, rfl, hn3, ho3, hb3⟩; have HN3 := Lib.hid hn3; have HO3 := Lib.hid ho3; have HB3 := Lib.hid hb3; clear hn3 ho3 hb3)
          | (go_at_call 13; (with_reducible refine PO.out.mono ?_); rintro ex w2 ⟨A2, n2, c2, rfl, hn2, ho2, hb2⟩; have HN2 := Lib.hid hn2; have HO2 := Lib.hid ho2; have HB2 := Lib.hid hb2; clear hn2 ho2 hb2; have done2 := trivial))
        go_roundw
        case rel => exact ⟨k + 1, n3, c3, A3, by omega, by go_num, rfl, HN3, Lib.hid (own_mono HO3.out (Nat.le_trans hws HB2.out.size)), Lib.hid ((HB.out.trans (HB2.out.mono hws)).trans (HB3.out.mono (Nat.le_trans hws HB2.out.size)))⟩
        case measure => simp [intOf]; omega
      · have d2 : decide ((k : Int) < (m : Int)) = false := decide_eq_false (by omega)
        have t1 : min k m = min (k + 1) m := by omega
        rw [t1] at PO
        clear e1 s1 s2
        generalize nwO (min k n) ++ nwP (min k m) = L0 at *
        go_wp2_with (go_at_call 13; (with_reducible refine PO.out.mono ?_); rintro ex w2 ⟨A2, n2, c2, rfl, hn2, ho2, hb2⟩; have HN2 := Lib.hid hn2; have HO2 := Lib.hid ho2; have HB2 := Lib.hid hb2; clear hn2 ho2 hb2)
        go_roundw
        case rel => exact ⟨k + 1, n2, c2, A2, by omega, by go_num, rfl, HN2, Lib.hid (own_mono HO2.out hws), Lib.hid (HB.out.trans (HB2.out.mono hws))⟩
        case measure => simp [intOf]; omega
    · have d1 : decide ((k : Int) < (n : Int)) = false := decide_eq_false (by omega)
      by_cases c2 : k < m
      · have d2 : decide ((k : Int) < (m : Int)) = true := decide_eq_true (by omega)
        have s1 : min k n = min (k + 1) n := by omega
        have t1 : min (k + 1) m = min k m + 1 := by omega
        have t2 : min k m = k := by omega
        have PP := Lib.hid (put_one A' n' c' (nwO (min k n) ++ nwP (min k m)) (eP ((k : Nat) : Int)) wr HN'.out (Rd.of_slice HO.out) (by omega))
        have e2 : putX (eP ((k : Nat) : Int)) (nwO (min k n) ++ nwP (min k m)) = nwO (min (k + 1) n) ++ nwP (min (k + 1) m) := by rw [t1, t2, ← s1]; exact nw_p _ k
        rw [e2] at PP
        dsimp only [eP] at PP
        clear e2 s1 t1 t2
        generalize nwO (min k n) ++ nwP (min k m) = L0 at *
        go_wp2_with (go_at_call 13; (with_reducible refine PP.out.mono ?_); rintro ex w2 ⟨A2, n2, c2, rfl, hn2, ho2, hb2⟩; have HN2 := Lib.hid hn2; have HO2 := Lib.hid ho2; have HB2 := Lib.hid hb2; clear hn2 ho2 hb2)
        go_roundw
        case rel => exact ⟨k + 1, n2, c2, A2, by omega, by go_num, rfl, HN2, Lib.hid (own_mono HO2.out hws), Lib.hid (HB.out.trans (HB2.out.mono hws))⟩
        case measure => simp [intOf]; omega
      · have d2 : decide ((k : Int) < (m : Int)) = false := decide_eq_false (by omega)
        have s1 : min k n = n := by omega
        have t1 : min k m = m := by omega
        rw [s1, t1] at HN' HO
        have FD := Lib.hid (find_any A' n' c' (nwO n ++ nwP m) ⟨#[115]⟩ ⟨#[111]⟩ wr.heap.size wr gO (fun _ => rfl) HN'.out (Rd.of_slice HO.out) (Nat.le_refl _) (by omega))
        rw [nw_find] at FD
        clear s1 t1 hwr
        generalize nwO n ++ nwP m = L0 at *
        have d5 : decide ((n' : Int) ≤ 4) = true := decide_eq_true (by omega)
        have NL := Lib.hid (nwO_len n)
        have NA := Lib.hid (nwO_at n)
        generalize nwO n = L2 at *
        go_upto_region 12 with fail
        clear hk d1 d2 c1 c2 hn4
        by_cases c5 : 2 < n
        · have d6 : decide ((2 : Int) < (n : Int)) = true := decide_eq_true (by omega)
          have hm2 : min n 2 = 2 := by omega
          rw [hm2] at NL NA
          go_wp2_with (go_at_call 20; (with_reducible refine FD.out.mono ?_); rintro ex w2 ⟨A2, n2, c2, rfl, hn2, ho2, hb2⟩; have hn2' : 2 = n2 := (hn2.trans NL.out).symm; subst hn2'; have HO2 := Lib.hid ho2; have HB2 := Lib.hid (HB.out.trans (hb2.mono hws)); clear hn2 ho2 hb2)
          go_loop [10] (fun i => ∃ j : Nat, j ≤ 2 ∧ i = .int .i64 j) (fun i => 2 - (intOf i).toNat)
          case atStart => exact ⟨0, Nat.zero_le _, rfl⟩
          case round =>
            obtain ⟨j, hj, rfl⟩ := hrel
            by_cases hlt : j < 2
            · obtain ⟨g, rfl, _, _, _, _, _, _⟩ := own_parts HO2.out (by omega)
              have hc := (own_cells HO2.out (j * 6 + 4) (by omega)).2.1
              rw [flatMap_at _ 6 xcells_len _ j 4 (by omega), NA.out j (by omega)] at hc
              have hc4 : w2.cell? ⟨g, j * 6 + 4, none⟩ = some (.int .u64 ((n : Int) - 1 - (j : Int))) := hc
              have p1 : (⟨g, 0, none⟩ : Addr).add (j * 6) = ⟨g, j * 6, none⟩ := by rw [Addr.add_lit, Nat.zero_add]
              have hq : IntKind.u64.wrap ((n : Int) - 1 - (j : Int)) = (n : Int) - 1 - (j : Int) := by rw [IntKind.wrap_u64]; omega
              have i1 : (j : Int) < 2 := by omega
              have i0 : (0 : Int) ≤ (j : Int) := by omega
              clear hc
              go_wp2_with fail
              go_round
              case rel => exact ⟨j + 1, by omega, by go_num⟩
              case measure => simp [intOf]; omega
            · obtain rfl : j = 2 := by omega
              go_wp2_with fail
              go_ret
              exact ⟨by simp <;> omega, HB2.out⟩
        · have d6 : decide ((2 : Int) < (n : Int)) = false := decide_eq_false (by omega)
          have hm2 : min n 2 = n := by omega
          rw [hm2] at NL NA
          go_wp2_with (go_at_call 20; (with_reducible refine FD.out.mono ?_); rintro ex w2 ⟨A2, n2, c2, rfl, hn2, ho2, hb2⟩; have hn2' : n = n2 := (hn2.trans NL.out).symm; subst hn2'; have HO2 := Lib.hid ho2; have HB2 := Lib.hid (HB.out.trans (hb2.mono hws)); clear hn2 ho2 hb2)
          go_loop [10] (fun i => ∃ j : Nat, j ≤ n ∧ i = .int .i64 j) (fun i => n - (intOf i).toNat)
          case atStart => exact ⟨0, Nat.zero_le _, rfl⟩
          case round =>
            obtain ⟨j, hj, rfl⟩ := hrel
            by_cases hlt : j < n
            · obtain ⟨g, rfl, _, _, _, _, _, _⟩ := own_parts HO2.out (by omega)
              have hc := (own_cells HO2.out (j * 6 + 4) (by omega)).2.1
              rw [flatMap_at _ 6 xcells_len _ j 4 (by omega), NA.out j (by omega)] at hc
              have hc4 : w2.cell? ⟨g, j * 6 + 4, none⟩ = some (.int .u64 ((n : Int) - 1 - (j : Int))) := hc
              have p1 : (⟨g, 0, none⟩ : Addr).add (j * 6) = ⟨g, j * 6, none⟩ := by rw [Addr.add_lit, Nat.zero_add]
              have hq : IntKind.u64.wrap ((n : Int) - 1 - (j : Int)) = (n : Int) - 1 - (j : Int) := by rw [IntKind.wrap_u64]; omega
              have i1 : (j : Int) < (n : Int) := by omega
              have i0 : (0 : Int) ≤ (j : Int) := by omega
              clear hc
              go_wp2_with fail
              go_round
              case rel => exact ⟨j + 1, by omega, by go_num⟩
              case measure => simp [intOf]; omega
            · obtain rfl : j = n := by omega
              go_wp2_with fail
              go_ret
              exact ⟨by simp <;> omega, HB2.out⟩
end Go.Proofs.Ytajpnimjkkmcmaa
