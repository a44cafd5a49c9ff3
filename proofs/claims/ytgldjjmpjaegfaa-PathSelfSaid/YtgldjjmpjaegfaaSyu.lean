/- TreeRing. -/
import Derived.Test.YtgldjjmpjaegfaaSyt
namespace Go.Proofs.Ytgldjjmpjaegfaa
open Go.RowKit Go.Maps
set_option linter.unusedVariables false
set_option linter.unusedSimpArgs false
set_option maxRecDepth 100000

theorem spZ_ok (a b : Int) (ha : 0 ≤ a ∧ a ≤ 18446744073709551615) (hb : 0 ≤ b ∧ b ≤ 18446744073709551615) : (spZ a b).s.ok := ⟨⟨Int.le_refl _, by simp [spZ]⟩, ⟨Int.le_refl _, by simp [spZ]⟩, ha, hb, Nat.zero_le _, Nat.zero_le _, ⟨by simp [spZ], by simp [spZ]⟩, ⟨by simp [spZ], by simp [spZ]⟩, ⟨Nat.zero_le _, fun _ h => by cases h⟩⟩
theorem spZ_rd (w : World) (B : Nat) (a b : Int) (ha : 0 ≤ a ∧ a ≤ 18446744073709551615) (hb : 0 ≤ b ∧ b ≤ 18446744073709551615) : RdL w B (spZ a b) := ⟨Rd.nil, ⟨Nat.le_refl _, Nat.zero_le _⟩, spZ_ok a b ha hb⟩
def alL : List Ls := [spZ 1 9, spZ 2 1]
theorem al_named : namedM alL = [-1, 0] := by decide
theorem al_par {P : List Int} (h : Sy.ParOf (namedM alL) P) : P[0]? = some (-1) ∧ P[1]? = some 0 := by
  rw [al_named] at h
  have h0 : ¬ Sy.LR (Sy.pf [-1, 0]) 0 := fun hl => by
    obtain ⟨u, hu⟩ := Sy.ring_some hl.1 1
    have : Sy.it (Sy.pf [-1, 0]) 1 0 = none := by decide
    rw [this] at hu; cases hu
  have h1 : ¬ Sy.LR (Sy.pf [-1, 0]) 1 := fun hl => by
    obtain ⟨u, hu⟩ := Sy.ring_some hl.1 2
    have : Sy.it (Sy.pf [-1, 0]) 2 1 = none := by decide
    rw [this] at hu; cases hu
  exact ⟨(h.2 0).2 h0, (h.2 1).2 h1⟩
set_option maxHeartbeats 8000000 in
theorem alive29_calls (w : World) : Calls Try.prog 10 #[] w fun e w' => e = .returned (.bool true) ∧ Below w.heap.size w w' := by
  have hrd : RdSps (w.alloc (.cells #[.int .u64 0, .int .u64 0, .int .u64 1, .int .u64 9, .string ⟨#[]⟩, .string ⟨#[]⟩, .int .i64 0, .int .i64 0, .bool false, .slice none 0 0, .int .u64 0, .int .u64 0, .int .u64 2, .int .u64 1, .string ⟨#[]⟩, .string ⟨#[]⟩, .int .i64 0, .int .i64 0, .bool false, .slice none 0 0] 34)) (w.heap.size + 1) (some ⟨w.heap.size, 0, none⟩) alL := ⟨Rd.lit w #[.int .u64 0, .int .u64 0, .int .u64 1, .int .u64 9, .string ⟨#[]⟩, .string ⟨#[]⟩, .int .i64 0, .int .i64 0, .bool false, .slice none 0 0, .int .u64 0, .int .u64 0, .int .u64 2, .int .u64 1, .string ⟨#[]⟩, .string ⟨#[]⟩, .int .i64 0, .int .i64 0, .bool false, .slice none 0 0] 34, fun x hx => by
    simp only [alL, List.mem_cons, List.not_mem_nil, or_false] at hx
    rcases hx with rfl | rfl <;> exact spZ_rd _ _ _ _ (by omega) (by omega)⟩
  have PC := Lib.hid (parents_any alL (some ⟨w.heap.size, 0, none⟩) 2 2 (w.heap.size + 1) _ hrd (by simp) rfl (by omega))
  have OC := fun V : World => Lib.hid (order_any [] none 0 0 0 V RdSps.nil (Nat.zero_le _) rfl (by omega))
  clear hrd
  go_enter Try.func10, Try.ntmps10
  go_upto_region 2 with (go_at_call 13; (with_reducible refine PC.out.mono ?_); rintro ex w1 ⟨gp, P, rfl, hp1, ho1, hb1⟩; have HP1 := Lib.hid hp1; have HO1 := Lib.hid ho1; have HB1 := Lib.hid hb1; clear hp1 ho1 hb1)
  obtain ⟨c0, c1⟩ := al_par HP1.out
  have HC := Lib.hid (And.intro c0 c1)
  clear c0 c1
  go_wp2_with (go_at_call 15; (with_reducible refine (OC _).out.mono ?_); rintro ex w2 ⟨A2, c2, P2, M2, O2, rfl, _, _, _, _, _, hb2⟩; have HB2 := Lib.hid hb2; obtain ⟨p0, _⟩ := own_atZ (own_below HO1.out hb2) HC.out.1; obtain ⟨p1, _⟩ := own_atZ (own_below HO1.out hb2) HC.out.2; clear hb2)
  go_ret
  refine ⟨by simp, ?_⟩
  have h := HB1.out.trans (HB2.out.mono HB1.out.size)
  exact ((Below.refl w.heap.size w).alloc (Nat.le_refl _) _).trans (h.mono (by simp))
def ringP (n k : Nat) : List Ls := (List.range k).map (fun i : Nat => spZ (i : Int) (((i + 1) % n : Nat) : Int))
def tailP (n k : Nat) : List Ls := (List.range k).map fun j : Nat => spZ ((100 + j : Nat) : Int) ((n - 1 : Nat) : Int)
theorem ringP_step (n k : Nat) : ringP n (k + 1) = ringP n k ++ [spZ (k : Int) (((k + 1) % n : Nat) : Int)] := by unfold ringP; rw [List.range_succ, List.map_append]; rfl
theorem tailP_step (n k : Nat) : tailP n (k + 1) = tailP n k ++ [spZ ((100 + k : Nat) : Int) ((n - 1 : Nat) : Int)] := by unfold tailP; rw [List.range_succ, List.map_append]; rfl
theorem ringS_is (n t : Nat) : ringS n t = ringP n n ++ tailP n t := rfl
theorem ringS_ok {w : World} {B n t : Nat} (h1 : 1 ≤ n) (hn : n ≤ 20) (ht : t ≤ 10) : ∀ x ∈ ringS n t, RdL w B x := fun x hx => by
  rw [ringS_is] at hx
  rcases List.mem_append.1 hx with h | h
  · obtain ⟨i, hi, rfl⟩ := List.mem_map.1 h
    have := List.mem_range.1 hi
    have := Nat.mod_lt (i + 1) h1
    exact spZ_rd _ _ _ _ (by omega) (by omega)
  · obtain ⟨i, hi, rfl⟩ := List.mem_map.1 h
    have := List.mem_range.1 hi
    exact spZ_rd _ _ _ _ (by omega) (by omega)
set_option maxHeartbeats 16000000 in
theorem ring29 (n t : Int) (w : World) : Calls Try.prog 6 #[.int .i64 n, .int .i64 t] w fun e w' => e = .returned (.bool true) ∧ Below w.heap.size w w' := by
  have AL := Lib.hid (alive29_calls w)
  rcases (show n < 1 ∨ (¬ n < 1 ∧ 20 < n) ∨ (¬ n < 1 ∧ ¬ 20 < n ∧ t < 0) ∨ (¬ n < 1 ∧ ¬ 20 < n ∧ ¬ t < 0 ∧ 10 < t) ∨ (¬ n < 1 ∧ ¬ 20 < n ∧ ¬ t < 0 ∧ ¬ 10 < t) from by omega) with h1 | ⟨h1, h2⟩ | ⟨h1, h2, h3⟩ | ⟨h1, h2, h3, h4⟩ | ⟨h1, h2, h3, h4⟩
  · have c1 : decide (n < 1) = true := decide_eq_true h1
    clear h1
    go_enter Try.func6, Try.ntmps6
    go_wp2_with (go_at_call 10; (with_reducible refine AL.out.mono ?_); rintro ex w1 ⟨rfl, hb1⟩; have HB1 := Lib.hid hb1; clear hb1)
    go_ret
    exact ⟨rfl, HB1.out⟩
  · have c1 : decide (n < 1) = false := decide_eq_false h1
    have c2 : decide (20 < n) = true := decide_eq_true h2
    clear h1 h2
    go_enter Try.func6, Try.ntmps6
    go_wp2_with (go_at_call 10; (with_reducible refine AL.out.mono ?_); rintro ex w1 ⟨rfl, hb1⟩; have HB1 := Lib.hid hb1; clear hb1)
    go_ret
    exact ⟨rfl, HB1.out⟩
  · have c1 : decide (n < 1) = false := decide_eq_false h1
    have c2 : decide (20 < n) = false := decide_eq_false h2
    have c3 : decide (t < 0) = true := decide_eq_true h3
    clear h1 h2 h3
    go_enter Try.func6, Try.ntmps6
    go_wp2_with (go_at_call 10; (with_reducible refine AL.out.mono ?_); rintro ex w1 ⟨rfl, hb1⟩; have HB1 := Lib.hid hb1; clear hb1)
    go_ret
    exact ⟨rfl, HB1.out⟩
  · have c1 : decide (n < 1) = false := decide_eq_false h1
    have c2 : decide (20 < n) = false := decide_eq_false h2
    have c3 : decide (t < 0) = false := decide_eq_false h3
    have c4 : decide (10 < t) = true := decide_eq_true h4
    clear h1 h2 h3 h4
    go_enter Try.func6, Try.ntmps6
    go_wp2_with (go_at_call 10; (with_reducible refine AL.out.mono ?_); rintro ex w1 ⟨rfl, hb1⟩; have HB1 := Lib.hid hb1; clear hb1)
    go_ret
    exact ⟨rfl, HB1.out⟩
  · obtain ⟨N, rfl⟩ : ∃ N : Nat, n = (N : Int) := ⟨n.toNat, by omega⟩
    obtain ⟨T, rfl⟩ : ∃ T : Nat, t = (T : Int) := ⟨t.toNat, by omega⟩
    have c1 : decide ((N : Int) < 1) = false := decide_eq_false h1
    have c2 : decide (20 < (N : Int)) = false := decide_eq_false h2
    have c3 : decide ((T : Int) < 0) = false := decide_eq_false h3
    have c4 : decide (10 < (T : Int)) = false := decide_eq_false h4
    have HNT := Lib.hid (show 1 ≤ N ∧ N ≤ 20 ∧ T ≤ 10 from by omega)
    have c5 : decide (N < 1) = false := decide_eq_false (by omega)
    have c6 : decide (20 < N) = false := decide_eq_false (by omega)
    have c7 : decide (10 < T) = false := decide_eq_false (by omega)
    clear h1 h2 h3 h4
    obtain ⟨b0, hb0⟩ : ∃ b0, b0 = w.heap.size := ⟨_, rfl⟩
    have HB0 := Lib.hid hb0
    clear hb0
    go_enter Try.func6, Try.ntmps6
    go_upto_region 6 with (go_at_call 10; (with_reducible refine AL.out.mono ?_); rintro ex w1 ⟨rfl, hb1⟩; have HB1 := Lib.hid hb1; clear hb1)
    clear AL c1 c2 c3 c4 c5 c6 c7
    have HBW1 := Lib.hid (show Below b0 w w1 from by rw [HB0.out]; exact HB1.out)
    have HS1 := Lib.hid (show b0 ≤ w1.heap.size from by rw [HB0.out]; exact HB1.out.size)
    go_loopw [6, 7] (fun v vi wq => ∃ (k c' : Nat) (A' : Option Addr), vi = .int .i64 (k : Int) ∧ v = .slice A' k c' ∧ Hid (k ≤ N) ∧ Hid (wq.ownsRow b0 34 10 (.slice A' k c') k ((ringP N k).flatMap Ls.cells)) ∧ Hid (Below b0 w wq) ∧ Hid (b0 ≤ wq.heap.size)) (fun _ vi _ => N - (intOf vi).toNat)
    case atStart => exact ⟨0, 0, none, rfl, rfl, Lib.hid (Nat.zero_le _), Lib.hid (World.ownsRow_nil _ _ _ _), HBW1, HS1⟩
    clear HBW1 HS1
    case round =>
      obtain ⟨k, c', A', rfl, rfl, HK, HO, HB, HSZ⟩ := hrel
      by_cases hlt : k < N
      · have d0 : decide ((k : Int) < (N : Int)) = true := decide_eq_true (by omega)
        have d1 : decide (k < N) = true := decide_eq_true hlt
        obtain ⟨k1, hk1⟩ : ∃ k1, k1 = k + 1 := ⟨_, rfl⟩
        obtain ⟨m, hm⟩ : ∃ m, m = k1 % N := ⟨_, rfl⟩
        have hnt := HNT.out
        have hml : m < N := by rw [hm]; exact Nat.mod_lt _ (by omega)
        have e1 : IntKind.i64.wrap ((k : Int) + 1) = (k1 : Int) := by rw [IntKind.wrap_i64] <;> omega
        have e2 : (k1 : Int) % (N : Int) = (m : Int) := by rw [hm]; rfl
        have e3 : IntKind.u64.wrap (k : Int) = (k : Int) := by rw [IntKind.wrap_u64] <;> omega
        have e4 : IntKind.u64.wrap (m : Int) = (m : Int) := by rw [IntKind.wrap_u64] <;> omega
        have e5 : ((N : Int) == 0) = false := beq_eq_false_iff_ne.2 (by omega)
        have e6 : N ≠ 0 := by omega
        have e7 : (N == 0) = false := beq_eq_false_iff_ne.2 (by omega)
        have e8 : ¬ (N : Int) = 0 := by omega
        have HK1 := Lib.hid hk1
        have HM := Lib.hid (show (k + 1) % N = m from by rw [hm, hk1])
        have HLT := Lib.hid hlt
        have APP := Lib.hid (fun ty => appS1 (ty := ty) HO.out (spZ (k : Int) (m : Int)) #[.int .u64 0, .int .u64 0, .int .u64 (k : Int), .int .u64 (m : Int), .string ⟨#[]⟩, .string ⟨#[]⟩, .int .i64 0, .int .i64 0, .bool false, .slice none 0 0] rfl (by omega) HSZ.out)
        clear hk1 hm hlt hnt hml
        go_wp2_with (at_builtin; (refine wpList_app rfl (.tmp 41) (.tmp 50) _ _ rfl rfl rfl (APP.out _) ?_); rintro v5 w5 ⟨ho5, hg5⟩; have HB5 := Lib.hid (hg5.below HB.out HSZ.out (own_block_ge HO.out)); have HS5 := Lib.hid (Nat.le_trans HSZ.out hg5.grown.size); obtain ⟨A5, c5, rfl, _, _⟩ := own_rd ho5; have HO5 := Lib.hid ho5; clear ho5 hg5)
        go_roundw
        case rel => exact ⟨k + 1, c5, A5, by first | (rw [HK1.out]) | go_num, rfl, Lib.hid HLT.out, Lib.hid (by rw [ringP_step, List.flatMap_append, HM.out]; simpa using HO5.out), HB5, HS5⟩
        case measure => have := HLT.out; have := HK1.out; simp [intOf]; omega
      · have hkn : N = k := by have := HK.out; omega
        subst hkn
        have d0 : decide ((N : Int) < (N : Int)) = false := decide_eq_false (by omega)
        have d1 : decide (N < N) = false := decide_eq_false (by omega)
        clear hlt
        go_upto_region 10 with fail
        clear d0 d1
        generalize wr = wz at *
        go_loopw [6, 8] (fun v vi wq => ∃ (j q c' : Nat) (A' : Option Addr), vi = .int .i64 (j : Int) ∧ v = .slice A' q c' ∧ Hid (q = N + j ∧ j ≤ T) ∧ Hid (wq.ownsRow b0 34 10 (.slice A' q c') q ((ringP N N ++ tailP N j).flatMap Ls.cells)) ∧ Hid (Below b0 w wq) ∧ Hid (b0 ≤ wq.heap.size)) (fun _ vi _ => T - (intOf vi).toNat)
        case atStart => exact ⟨0, N, c', A', rfl, rfl, Lib.hid ⟨rfl, Nat.zero_le _⟩, Lib.hid (by rw [show tailP N 0 = [] from rfl, List.append_nil]; exact HO.out), HB, HSZ⟩
        clear HO HB HSZ HK
        case round =>
          obtain ⟨j, q, c', A', rfl, rfl, HJ, HO, HB, HSZ⟩ := hrel
          by_cases hlt : j < T
          · have d0 : decide ((j : Int) < (T : Int)) = true := decide_eq_true (by omega)
            have d1 : decide (j < T) = true := decide_eq_true hlt
            have hnt := HNT.out
            obtain ⟨j1, hj1⟩ : ∃ j1, j1 = j + 1 := ⟨_, rfl⟩
            obtain ⟨h, hh⟩ : ∃ h, h = 100 + j := ⟨_, rfl⟩
            obtain ⟨m, hm⟩ : ∃ m, m = N - 1 := ⟨_, rfl⟩
            have e1 : IntKind.i64.wrap ((j : Int) + 1) = (j1 : Int) := by rw [IntKind.wrap_i64] <;> omega
            have e2 : IntKind.i64.wrap (100 + (j : Int)) = (h : Int) := by rw [IntKind.wrap_i64] <;> omega
            have e3 : IntKind.i64.wrap ((N : Int) - 1) = (m : Int) := by rw [IntKind.wrap_i64] <;> omega
            have e4 : IntKind.u64.wrap (h : Int) = (h : Int) := by rw [IntKind.wrap_u64] <;> omega
            have e5 : IntKind.u64.wrap (m : Int) = (m : Int) := by rw [IntKind.wrap_u64] <;> omega
            have HJ1 := Lib.hid hj1
            have HHM := Lib.hid (And.intro hh hm)
            have HLT := Lib.hid hlt
            have APP := Lib.hid (fun ty => appS1 (ty := ty) HO.out (spZ (h : Int) (m : Int)) #[.int .u64 0, .int .u64 0, .int .u64 (h : Int), .int .u64 (m : Int), .string ⟨#[]⟩, .string ⟨#[]⟩, .int .i64 0, .int .i64 0, .bool false, .slice none 0 0] rfl (by have := HJ.out; omega) HSZ.out)
            clear hj1 hh hm hlt hnt
            go_wp2_with (at_builtin; (refine wpList_app rfl (.tmp 57) (.tmp 65) _ _ rfl rfl rfl (APP.out _) ?_); rintro v5 w5 ⟨ho5, hg5⟩; have HB5 := Lib.hid (hg5.below HB.out HSZ.out (own_block_ge HO.out)); have HS5 := Lib.hid (Nat.le_trans HSZ.out hg5.grown.size); obtain ⟨A5, c5, rfl, _, _⟩ := own_rd ho5; have HO5 := Lib.hid ho5; clear ho5 hg5)
            go_roundw
            case rel => exact ⟨j1, q + 1, c5, A5, rfl, rfl, Lib.hid (by have := HLT.out; have := HJ1.out; have := HJ.out; omega), Lib.hid (by rw [HJ1.out, tailP_step, ← List.append_assoc, List.flatMap_append, ← HHM.out.1, ← HHM.out.2]; simpa using HO5.out), HB5, HS5⟩
            case measure => have := HLT.out; have := HJ1.out; simp [intOf]; omega
          · have hjt : T = j := by have := HJ.out; omega
            subst hjt
            have d0 : decide ((T : Int) < (T : Int)) = false := decide_eq_false (by omega)
            have d1 : decide (T < T) = false := decide_eq_false (by omega)
            have hnt := HNT.out
            have hql : q = (ringS N T).length := by rw [ringS_len]; exact HJ.out.1
            have hrd : RdSps wr wr.heap.size A' (ringS N T) := ⟨by
              obtain ⟨A9, c9, e9, _, h9⟩ := own_rd HO.out
              injection e9 with e9 _ _
              subst e9
              rw [ringS_is]; exact h9, ringS_ok hnt.1 hnt.2.1 hnt.2.2⟩
            have PC := Lib.hid (parents_any (ringS N T) A' q c' wr.heap.size wr hrd (Nat.le_refl _) hql (by have := HJ.out; omega))
            have DC := fun (w2 : World) (hb2 : Below wr.heap.size wr w2) => Lib.hid (depths_any (ringS N T) A' q c' wr.heap.size w2 (hrd.below hb2) hb2.size hql (by have := HJ.out; omega))
            have HDC := Lib.hid DC
            have HQL := Lib.hid hql
            clear hlt hrd hql hnt DC
            go_upto_region 15 with (first
              | (go_at_call 13; (with_reducible refine PC.out.mono ?_); rintro ex w2 ⟨gp, P, rfl, hp2, ho2, hb2⟩; have HP2 := Lib.hid hp2; have HO2 := Lib.hid ho2; have HB2 := Lib.hid hb2; have DC := HDC.out w2 hb2; clear hp2 ho2 hb2)
              | (go_at_call 17; (with_reducible refine DC.out.mono ?_); rintro ex w3 ⟨gd, P3, D, rfl, hp3, hd3, ho3, hb3⟩; have HP3 := Lib.hid hp3; have HD3 := Lib.hid hd3; have HO3 := Lib.hid ho3; have HB3 := Lib.hid hb3; clear hp3 hd3 ho3 hb3))
            clear PC DC HDC d0 d1
            have HPF := Lib.hid (ring_par HNT.out.1 HNT.out.2.1 HP2.out)
            have HDF := Lib.hid (ring_dep HNT.out.1 HNT.out.2.1 HP3.out (by have h := HD3.out; rw [HJ.out.1] at h; exact h))
            have HOP := Lib.hid (own_below HO2.out HB3.out)
            have HFIN := Lib.hid (show Below w.heap.size w w3 from by rw [← HB0.out]; exact HB.out.trans ((HB2.out.mono HSZ.out).trans (HB3.out.mono (Nat.le_trans HSZ.out HB2.out.size))))
            go_upto_region 18 with fail
            go_loopw [11] (fun vi wq => ∃ (k : Nat), vi = .int .i64 (k : Int) ∧ Hid (k ≤ N) ∧ w3 = wq) (fun vi _ => N - (intOf vi).toNat)
            case atStart => exact ⟨0, rfl, Lib.hid (Nat.zero_le _), rfl⟩
            case round =>
              obtain ⟨k, rfl, HK, hw⟩ := hrel
              subst hw
              by_cases hlt : k < N
              · have d0 : decide ((k : Int) < (N : Int)) = true := decide_eq_true (by omega)
                have d1 : decide (k < N) = true := decide_eq_true hlt
                have hnt := HNT.out
                have hq := HJ.out.1
                obtain ⟨k1, hk1⟩ : ∃ k1, k1 = k + 1 := ⟨_, rfl⟩
                obtain ⟨dk, hdk⟩ : ∃ dk, dk = N - k := ⟨_, rfl⟩
                obtain ⟨N1, hn1⟩ : ∃ N1, N1 = N - 1 := ⟨_, rfl⟩
                have HK1 := Lib.hid hk1
                have HDK := Lib.hid hdk
                have HN1 := Lib.hid hn1
                have HLT := Lib.hid hlt
                have e1 : IntKind.i64.wrap ((k : Int) + 1) = (k1 : Int) := by rw [IntKind.wrap_i64] <;> omega
                have e2 : IntKind.i64.wrap ((N : Int) - (k : Int)) = (dk : Int) := by rw [IntKind.wrap_i64] <;> omega
                have e3 : IntKind.i64.wrap ((N : Int) - 1) = (N1 : Int) := by rw [IntKind.wrap_i64] <;> omega
                have i0 : (0 : Int) ≤ (k : Int) := by omega
                have i1 : (k : Int) < (q : Int) := by omega
                rcases (show k = 0 ∨ (0 < k ∧ k < N1) ∨ (0 < k ∧ k = N1) from by omega) with hk | hk | hk
                · clear hk1 hdk
                  by_cases h2 : k = N1
                  · have f2 : ((k : Int) == (N1 : Int)) = true := beq_iff_eq.2 (by omega)
                    have f2' : (k == N1) = true := beq_iff_eq.2 h2
                    clear h2 hn1
                    have f1 : ((k : Int) == 0) = true := beq_iff_eq.2 (by omega)
                    have f1' : (k == 0) = true := beq_iff_eq.2 (by omega)
                    have f3 : decide ((0 : Int) < (k : Int)) = false := decide_eq_false (by omega)
                    have f3' : decide (0 < k) = false := decide_eq_false (by omega)
                    have hp : P[k]? = some (-1) := by rw [hk]; exact HPF.out.1
                    have hd : D[k]? = some 0 := by rw [hk]; exact HDF.out.1
                    obtain ⟨p0, _⟩ := own_atZ HOP.out hp
                    obtain ⟨q0', _⟩ := own_atN HO3.out hd
                    have q0 : w3.cell? ⟨gd, k, none⟩ = some (.int .i64 0) := q0'
                    clear q0' hp hd
                    clear hk hlt hnt hq
                    go_wp2_with fail
                    go_roundw
                    case rel => exact ⟨k1, rfl, Lib.hid (by have := HLT.out; have := HK1.out; omega), trivial⟩
                    case measure => have := HLT.out; have := HK1.out; simp [intOf]; omega
                  · have f2 : ((k : Int) == (N1 : Int)) = false := beq_eq_false_iff_ne.2 (by omega)
                    have f2' : (k == N1) = false := beq_eq_false_iff_ne.2 h2
                    clear h2 hn1
                    have f1 : ((k : Int) == 0) = true := beq_iff_eq.2 (by omega)
                    have f1' : (k == 0) = true := beq_iff_eq.2 (by omega)
                    have f3 : decide ((0 : Int) < (k : Int)) = false := decide_eq_false (by omega)
                    have f3' : decide (0 < k) = false := decide_eq_false (by omega)
                    have hp : P[k]? = some (-1) := by rw [hk]; exact HPF.out.1
                    have hd : D[k]? = some 0 := by rw [hk]; exact HDF.out.1
                    obtain ⟨p0, _⟩ := own_atZ HOP.out hp
                    obtain ⟨q0', _⟩ := own_atN HO3.out hd
                    have q0 : w3.cell? ⟨gd, k, none⟩ = some (.int .i64 0) := q0'
                    clear q0' hp hd
                    clear hk hlt hnt hq
                    go_wp2_with fail
                    go_roundw
                    case rel => exact ⟨k1, rfl, Lib.hid (by have := HLT.out; have := HK1.out; omega), trivial⟩
                    case measure => have := HLT.out; have := HK1.out; simp [intOf]; omega
                · clear hk1 hdk
                  have f1 : ((k : Int) == 0) = false := beq_eq_false_iff_ne.2 (by omega)
                  have f1' : (k == 0) = false := beq_eq_false_iff_ne.2 (by omega)
                  have f3 : decide ((0 : Int) < (k : Int)) = true := decide_eq_true (by omega)
                  have f3' : decide (0 < k) = true := decide_eq_true (by omega)
                  have hp0 := HPF.out.2.1 k (by omega) hlt
                  have hd : D[k]? = some dk := by rw [HDK.out]; exact HDF.out.2.1 k (by omega) hlt
                  obtain ⟨q0, _⟩ := own_atN HO3.out hd
                  have f2 : ((k : Int) == (N1 : Int)) = false := beq_eq_false_iff_ne.2 (by omega)
                  have f2' : (k == N1) = false := beq_eq_false_iff_ne.2 (by omega)
                  rw [Nat.mod_eq_of_lt (by omega), ← HK1.out] at hp0
                  obtain ⟨p0, _⟩ := own_atZ HOP.out hp0
                  clear hp0 hd
                  clear hn1 hk hlt hnt hq
                  go_wp2_with fail
                  go_roundw
                  case rel => exact ⟨k1, rfl, Lib.hid (by have := HLT.out; have := HK1.out; omega), trivial⟩
                  case measure => have := HLT.out; have := HK1.out; simp [intOf]; omega
                · clear hk1 hdk
                  have f1 : ((k : Int) == 0) = false := beq_eq_false_iff_ne.2 (by omega)
                  have f1' : (k == 0) = false := beq_eq_false_iff_ne.2 (by omega)
                  have f3 : decide ((0 : Int) < (k : Int)) = true := decide_eq_true (by omega)
                  have f3' : decide (0 < k) = true := decide_eq_true (by omega)
                  have hp0 := HPF.out.2.1 k (by omega) hlt
                  have hd : D[k]? = some dk := by rw [HDK.out]; exact HDF.out.2.1 k (by omega) hlt
                  obtain ⟨q0, _⟩ := own_atN HO3.out hd
                  have f2 : ((k : Int) == (N1 : Int)) = true := beq_iff_eq.2 (by omega)
                  have f2' : (k == N1) = true := beq_iff_eq.2 (by omega)
                  rw [show k + 1 = N by omega, Nat.mod_self] at hp0
                  obtain ⟨p0', _⟩ := own_atZ HOP.out hp0
                  have p0 : w3.cell? ⟨gp, k, none⟩ = some (.int .i64 0) := p0'
                  clear p0' hp0 hd
                  clear hn1 hk hlt hnt hq
                  go_wp2_with fail
                  go_roundw
                  case rel => exact ⟨k1, rfl, Lib.hid (by have := HLT.out; have := HK1.out; omega), trivial⟩
                  case measure => have := HLT.out; have := HK1.out; simp [intOf]; omega
              · have d0 : decide ((k : Int) < (N : Int)) = false := decide_eq_false (by omega)
                have d1 : decide (k < N) = false := decide_eq_false hlt
                clear hlt
                go_upto_region 30 with fail
                clear d0 d1
                by_cases hone : N = 1
                · as_aux_lemma =>
                  have g1 : ((N : Int) == 1) = true := beq_iff_eq.2 (by omega)
                  have g1' : (N == 1) = true := beq_iff_eq.2 (by omega)
                  have HONE := Lib.hid hone
                  clear hone
                  go_loopw [14] (fun vi wq => ∃ (j : Nat), vi = .int .i64 (j : Int) ∧ Hid (N ≤ j ∧ j ≤ q) ∧ w3 = wq) (fun vi _ => q - (intOf vi).toNat)
                  case atStart => exact ⟨N, rfl, Lib.hid ⟨Nat.le_refl _, by have := HJ.out; omega⟩, rfl⟩
                  case round =>
                    obtain ⟨j, rfl, HJJ, hw⟩ := hrel
                    subst hw
                    by_cases hlt : j < q
                    · have d0 : decide ((j : Int) < (q : Int)) = true := decide_eq_true (by omega)
                      have d1 : decide (j < q) = true := decide_eq_true hlt
                      have hnt := HNT.out
                      have hjj := HJJ.out
                      have hq := HJ.out.1
                      obtain ⟨j1, hj1⟩ : ∃ j1, j1 = j + 1 := ⟨_, rfl⟩
                      have HJ1 := Lib.hid hj1
                      have HLT := Lib.hid hlt
                      have e1 : IntKind.i64.wrap ((j : Int) + 1) = (j1 : Int) := by rw [IntKind.wrap_i64] <;> omega
                      obtain ⟨N1, hn1⟩ : ∃ N1, N1 = N - 1 := ⟨_, rfl⟩
                      have e3 : IntKind.i64.wrap ((N : Int) - 1) = (N1 : Int) := by rw [IntKind.wrap_i64] <;> omega
                      have hp := HPF.out.2.2 (j - N) (by omega)
                      have hd := HDF.out.2.2 (j - N) (by omega)
                      rw [show N + (j - N) = j by omega] at hp hd
                      rw [← hn1] at hp
                      rw [if_pos HONE.out] at hd
                      obtain ⟨p0, _⟩ := own_atZ HOP.out hp
                      obtain ⟨q0', _⟩ := own_atN HO3.out hd
                      have q0 : w3.cell? ⟨gd, j, none⟩ = some (.int .i64 1) := q0'
                      have i0 : (0 : Int) ≤ (j : Int) := by omega
                      have i1 : (j : Int) < (q : Int) := by omega
                      clear q0' hp hd hn1 hj1 hq hjj hnt hlt
                      go_wp2_with fail
                      go_roundw
                      case rel => exact ⟨j1, rfl, Lib.hid (by have := HLT.out; have := HJ1.out; have := HJJ.out; omega), trivial⟩
                      case measure => have := HLT.out; have := HJ1.out; simp [intOf]; omega
                    · have d0 : decide ((j : Int) < (q : Int)) = false := decide_eq_false (by omega)
                      have d1 : decide (j < q) = false := decide_eq_false hlt
                      clear hlt
                      go_wp2_with fail
                      go_ret
                      exact ⟨rfl, HFIN.out⟩
                · as_aux_lemma =>
                  have g1 : ((N : Int) == 1) = false := beq_eq_false_iff_ne.2 (by omega)
                  have g1' : (N == 1) = false := beq_eq_false_iff_ne.2 (by omega)
                  have HONE := Lib.hid hone
                  clear hone
                  go_loopw [14] (fun vi wq => ∃ (j : Nat), vi = .int .i64 (j : Int) ∧ Hid (N ≤ j ∧ j ≤ q) ∧ w3 = wq) (fun vi _ => q - (intOf vi).toNat)
                  case atStart => exact ⟨N, rfl, Lib.hid ⟨Nat.le_refl _, by have := HJ.out; omega⟩, rfl⟩
                  case round =>
                    obtain ⟨j, rfl, HJJ, hw⟩ := hrel
                    subst hw
                    by_cases hlt : j < q
                    · have d0 : decide ((j : Int) < (q : Int)) = true := decide_eq_true (by omega)
                      have d1 : decide (j < q) = true := decide_eq_true hlt
                      have hnt := HNT.out
                      have hjj := HJJ.out
                      have hq := HJ.out.1
                      obtain ⟨j1, hj1⟩ : ∃ j1, j1 = j + 1 := ⟨_, rfl⟩
                      have HJ1 := Lib.hid hj1
                      have HLT := Lib.hid hlt
                      have e1 : IntKind.i64.wrap ((j : Int) + 1) = (j1 : Int) := by rw [IntKind.wrap_i64] <;> omega
                      obtain ⟨N1, hn1⟩ : ∃ N1, N1 = N - 1 := ⟨_, rfl⟩
                      have e3 : IntKind.i64.wrap ((N : Int) - 1) = (N1 : Int) := by rw [IntKind.wrap_i64] <;> omega
                      have hp := HPF.out.2.2 (j - N) (by omega)
                      have hd := HDF.out.2.2 (j - N) (by omega)
                      rw [show N + (j - N) = j by omega] at hp hd
                      rw [← hn1] at hp
                      rw [if_neg HONE.out] at hd
                      obtain ⟨p0, _⟩ := own_atZ HOP.out hp
                      obtain ⟨q0', _⟩ := own_atN HO3.out hd
                      have q0 : w3.cell? ⟨gd, j, none⟩ = some (.int .i64 2) := q0'
                      have i0 : (0 : Int) ≤ (j : Int) := by omega
                      have i1 : (j : Int) < (q : Int) := by omega
                      clear q0' hp hd hn1 hj1 hq hjj hnt hlt
                      go_wp2_with fail
                      go_roundw
                      case rel => exact ⟨j1, rfl, Lib.hid (by have := HLT.out; have := HJ1.out; have := HJJ.out; omega), trivial⟩
                      case measure => have := HLT.out; have := HJ1.out; simp [intOf]; omega
                    · have d0 : decide ((j : Int) < (q : Int)) = false := decide_eq_false (by omega)
                      have d1 : decide (j < q) = false := decide_eq_false hlt
                      clear hlt
                      go_wp2_with fail
                      go_ret
                      exact ⟨rfl, HFIN.out⟩
end Go.Proofs.Ytgldjjmpjaegfaa
