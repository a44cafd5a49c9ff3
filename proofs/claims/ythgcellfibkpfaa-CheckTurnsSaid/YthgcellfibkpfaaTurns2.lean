/- CheckTurns: bytes of which one bit, or two, or up to 32 in a row, were turned have another sum. -/
import Derived.Test.YthgcellfibkpfaaTurns2a
import Derived.Test.YthgcellfibkpfaaApp
import Derived.Test.YthgcellfibkpfaaCb
namespace Go.Proofs.Ythgcellfibkpfaa
open Go.RowKit
set_option linter.unusedVariables false

theorem infoB4 : (Try.prog.info? 5).map (fun i => (i.zero, i.size, i.bytes)) = some (some (.int .u8 0), 1, 1) := by kernel_rfl

theorem form_own {w : World} {base : Nat} {e : TypeId} {size : Nat} {v : Value} {n : Nat} {xs : List Value} (h : w.ownsRow base e size v n xs) (hn : 0 < n) : ∃ g cap, v = .slice (some ⟨g, 0, none⟩) n cap := by
  obtain ⟨g, cap, hv, _⟩ := h.form hn
  exact ⟨g, cap, hv⟩
/-- A row of one's own of bytes, behind one more turned. -/
theorem own_byte {w : World} {base g cap : Nat} {l : List UInt8} {p : Nat} {y : UInt8} {n : Nat} (hn : n = l.length) (h : w.ownsRow base 5 1 (.slice (some ⟨g, 0, none⟩) n cap) n (l.map B8)) (hp : p < l.length) :
    w.frozen? ⟨g, p, none⟩ = false ∧ w.cell? ⟨g, p, none⟩ = some (.int .u8 ((l.getD p 0).toNat : Int)) ∧
      (w.setCell ⟨g, p, none⟩ (.int .u8 (y.toNat : Int))).ownsRow base 5 1 (.slice (some ⟨g, 0, none⟩) n cap) n ((l.set p y).map B8) ∧
      Grew w (w.setCell ⟨g, p, none⟩ (.int .u8 (y.toNat : Int))) (.slice (some ⟨g, 0, none⟩) n cap) (.slice (some ⟨g, 0, none⟩) n cap) := by
  obtain ⟨a, b, c, d⟩ := own_set h (i := p) (by omega) (.int .u8 (y.toNat : Int))
  refine ⟨a, ?_, ?_, d⟩
  · rw [b]; simp [B8, List.getD, hp]
  · rw [List.map_set]; exact c

set_option maxHeartbeats 4000000 in
set_option maxRecDepth 100000 in
theorem turns2_in (A : Option Addr) (l : List UInt8) (c : Nat) (i k x : Nat) (w : World) (hx : x < 4294967296) (h4 : 4 ≤ l.length) (hl : l.length ≤ 300) (hi : i < 8 * l.length) (hk : k < 8 * l.length) (hne : i ≠ k) (hb : Rd w w.heap.size A (l.map B8)) :
    Calls Try.prog 4 #[.slice A l.length c, .int .i64 i, .int .i64 k, .int .u32 x] w fun e w' => e = .returned (.bool true) ∧ Below w.heap.size w w' := by
  obtain ⟨i0, hi0, hz0, hz1, hz2⟩ := info_parts infoB4
  have q1 : (i : Int) < 8 * (l.length : Int) := by omega
  have q2 : (k : Int) < 8 * (l.length : Int) := by omega
  have q3 : ((i : Int) == (k : Int)) = false := by rw [beq_eq_false_iff_ne]; omega
  have q4 : ¬ l.length < 4 := by omega
  have q5 : ¬ 300 < l.length := by omega
  have HS := Lib.hid (fun W (h : Below w.heap.size w W) => sum_calls A l c _ W (hb.below h) (by omega))
  have HB := Lib.hid hb
  clear hb
  obtain ⟨p, hp⟩ : ∃ p, p = i / 8 := ⟨_, rfl⟩
  obtain ⟨r, hr⟩ : ∃ r, r = i % 8 := ⟨_, rfl⟩
  obtain ⟨p', hp'⟩ : ∃ p, p = k / 8 := ⟨_, rfl⟩
  obtain ⟨r', hr'⟩ : ∃ r, r = k % 8 := ⟨_, rfl⟩
  have d1 : (i : Int) / 8 = (p : Int) := by omega
  have d2 : (k : Int) / 8 = (p' : Int) := by omega
  have d3 : (i : Int) % 8 = (r : Int) := by omega
  have d4 : (k : Int) % 8 = (r' : Int) := by omega
  have r8 : r < 8 := by omega
  have r8' : r' < 8 := by omega
  have ip : p < l.length := by omega
  have kp : p' < l.length := by omega
  have N1 := Cm.one_ne l i hi
  have N2 := Cm.two_ne l i k (by omega) hi hk hne
  have L1 := Cm.flip_len l i
  have L2 := (Cm.flip_len (Cm.flip l i) k).trans L1
  obtain ⟨u, hu⟩ : ∃ u, u = l.getD p 0 := ⟨_, rfl⟩
  obtain ⟨u', hu'⟩ : ∃ u, u = (Cm.flip l i).getD p' 0 := ⟨_, rfl⟩
  have X1 : bits .xor .u8 (u.toNat : Int) (2 ^ r % 256) = ((u ^^^ Cm.bitb i).toNat : Int) := by
    have h1 : (2 : Nat) ^ r < 256 := Nat.lt_of_lt_of_le (Nat.pow_lt_pow_right (by omega) r8) (by decide : 2 ^ 8 ≤ 256)
    have h2 : ((2 : Int) ^ r % 256) = ((2 ^ r : Nat) : Int) := by rw [show (2 : Int) ^ r = ((2 ^ r : Nat) : Int) from by push_cast; rfl]; exact Int.emod_eq_of_lt (Int.natCast_nonneg _) (by exact_mod_cast h1)
    rw [h2, u8_xor_nat _ _ u.toNat_lt h1, UInt8.toNat_xor, Cm.bitb_nat, hr]
  have X2 : bits .xor .u8 (u'.toNat : Int) (2 ^ r' % 256) = ((u' ^^^ Cm.bitb k).toNat : Int) := by
    have h1 : (2 : Nat) ^ r' < 256 := Nat.lt_of_lt_of_le (Nat.pow_lt_pow_right (by omega) r8') (by decide : 2 ^ 8 ≤ 256)
    have h2 : ((2 : Int) ^ r' % 256) = ((2 ^ r' : Nat) : Int) := by rw [show (2 : Int) ^ r' = ((2 ^ r' : Nat) : Int) from by push_cast; rfl]; exact Int.emod_eq_of_lt (Int.natCast_nonneg _) (by exact_mod_cast h1)
    rw [h2, u8_xor_nat _ _ u'.toNat_lt h1, UInt8.toNat_xor, Cm.bitb_nat, hr']
  have E1 : l.set p (u ^^^ Cm.bitb i) = Cm.flip l i := by rw [hu, hp]; rfl
  have E2 : (Cm.flip l i).set p' (u' ^^^ Cm.bitb k) = Cm.flip (Cm.flip l i) k := by rw [hu', hp']; rfl
  have u1 := u.toNat_lt
  have u2 := u'.toNat_lt
  clear hp hr hp' hr' hne
  have HU := Lib.hid hu
  have HU' := Lib.hid hu'
  clear hu hu'
  generalize Cm.flip (Cm.flip l i) k = l2 at *
  generalize Cm.flip l i = l1 at *
  generalize u ^^^ Cm.bitb i = y1 at *
  generalize u' ^^^ Cm.bitb k = y2 at *
  have N3 : x = 0 → ∀ a, a + 4 ≤ l.length → Cm.sum (Cm.bu l a x 4) = Cm.sum l := fun h0 a ha => by rw [h0]; exact Cm.burst_zero l a ha
  have N4 : x ≠ 0 → ∀ a, a + 4 ≤ l.length → Cm.sum (Cm.bu l a x 4) ≠ Cm.sum l := fun h0 a ha => Cm.burst_ne l a x hx ha h0
  have S1 := Lib.hid (fun A' c' B W h => sumN A' l1 l.length c' B W L1.symm h (by omega))
  have S2 := Lib.hid (fun A' c' B W h => sumN A' l2 l.length c' B W L2.symm h (by omega))
  have M3 := Lib.hid N3
  have M4 := Lib.hid N4
  have n1 : ((Cm.sum l1 : Int) != (Cm.sum l : Int)) = true := by rw [bne_iff_ne]; omega
  have n2 : ((Cm.sum l2 : Int) != (Cm.sum l : Int)) = true := by rw [bne_iff_ne]; omega
  clear N1 N2 N3 N4
  generalize Cm.sum l1 = s1 at *
  generalize Cm.sum l2 = s2 at *
  generalize Cm.sum l = s at *
  have HE1 := Lib.hid E1
  have HE2 := Lib.hid E2
  have HL1 := Lib.hid L1
  have HL2 := Lib.hid L2
  clear E1 E2 L1 L2
  have hcase : ∃ a, a + 4 ≤ l.length ∧ (((l.length : Int) - 4 = (a : Int) ∧ a < p) ∨ (a = p ∧ ¬ ((l.length : Int) - 4 < (a : Int)))) := by
    rcases Nat.lt_or_ge (l.length - 4) p with h | h
    · exact ⟨l.length - 4, by omega, .inl ⟨by omega, h⟩⟩
    · exact ⟨p, by omega, .inr ⟨rfl, by omega⟩⟩
  obtain ⟨a, ha4, hcase⟩ := hcase
  rcases hcase with ⟨hs1, hs2⟩ | ⟨hs1, hs2⟩
  case' inr => subst hs1
  all_goals
    go_enter Try.func4, Try.ntmps4
    go_wp2_with (first
      | (have hd := done1; clear done1; go_at_call 8; refine (S1.out _ _ _ _ (Rd.of_own O4.out)).mono ?_; rintro e w4 ⟨rfl, rfl⟩; obtain ⟨f5, c5, o5, gr5⟩ := own_byte (y := y2) HL1.out.symm O4.out (by rw [HL1.out]; exact kp); rw [← HU'.out] at c5; rw [HE2.out] at o5; have O5 := Lib.hid o5; have G5 := Lib.hid (G4.out.trans gr5); clear o5 gr5; have done2 := trivial)
      | (have hd := done2; clear done2; go_at_call 8; refine (S2.out _ _ _ _ (Rd.of_own O5.out)).mono ?_; rintro e w5 ⟨rfl, rfl⟩; have B5 := Lib.hid (G5.out.below B1.out B1.out.size (by simp [Value.ownBlock])); have z5 := G5.out.grown.size; have done3 := trivial)
      | (have hd := done3; clear done3; at_builtin; refine wpList_app rfl (.const (.slice none 0 0)) (.tmp 94) _ _ rfl rfl rfl (run_append_rd _ w1.heap.size _ _ 5 i0 _ 1 1 Try.underlying22 hi0 hz0 hz1 hz2 rfl _ 0 [] (World.ownsRow_nil _ _ _ _) _ _ _ _ (l.map B8) (by simp) (HB.out.below B5.out) (by simp [B8, Value.oneCell']) (by unfold maxLen; omega) (by omega) z5) ?_; rintro v6 w6 ⟨ho6, hg6⟩; rw [List.nil_append, Nat.zero_add] at ho6; obtain ⟨g6, c6, rfl⟩ := form_own ho6 (by omega); have O6 := Lib.hid ho6; have B6 := Lib.hid (hg6.below B5.out B5.out.size (by simp [Value.ownBlock])); clear ho6 hg6; have done4 := trivial)
      | (go_at_call 7; refine (alive2_calls _).mono ?_; rintro e w1 ⟨rfl, hb1⟩; have B1 := Lib.hid hb1; clear hb1)
      | (have hd := done0; clear done0; at_builtin; refine wpList_app rfl (.const (.slice none 0 0)) (.tmp 60) _ _ rfl rfl rfl (run_append_rd _ w1.heap.size _ _ 5 i0 _ 1 1 Try.underlying22 hi0 hz0 hz1 hz2 rfl _ 0 [] (World.ownsRow_nil _ _ _ _) _ _ _ _ (l.map B8) (by simp) (HB.out.below B1.out) (by simp [B8, Value.oneCell']) (by unfold maxLen; omega) (by omega) (Nat.le_refl _)) ?_; rintro v3 w3 ⟨ho3, hg3⟩; rw [List.nil_append, Nat.zero_add] at ho3; obtain ⟨g3, c3, rfl⟩ := form_own ho3 (by omega); obtain ⟨f4, c4, o4, gr4⟩ := own_byte (y := y1) rfl ho3 ip; rw [← HU.out] at c4; rw [HE1.out] at o4; have O4 := Lib.hid o4; have G4 := Lib.hid (hg3.trans gr4); clear ho3 hg3 o4 gr4; have done1 := trivial)
      | (go_at_call 8; refine (HS.out _ B1.out).mono ?_; rintro e w2 ⟨rfl, rfl⟩; have done0 := trivial))
    go_loopw [16] (fun jv wr => ∃ j : Nat, j ≤ 4 ∧ jv = .int .i64 j ∧ wr.ownsRow w1.heap.size 5 1 (.slice (some ⟨g6, 0, none⟩) l.length c6) l.length ((Cm.bu l a x j).map B8) ∧ Hid (Below w.heap.size w wr)) (fun jv _ => 4 - (intOf jv).toNat)
    case atStart => exact ⟨0, by omega, rfl, O6.out, B6⟩
    case round =>
      obtain ⟨j, hj, rfl, ho, HBw⟩ := hrel
      by_cases hj4 : j < 4
      · obtain ⟨v, hv⟩ : ∃ v, v = (Cm.bu l a x j).getD (a + j) 0 := ⟨_, rfl⟩
        obtain ⟨y, hy⟩ : ∃ y, y = UInt8.ofNat (x / 256 ^ j % 256) := ⟨_, rfl⟩
        obtain ⟨f7, c7, o7, gr7⟩ := own_byte (y := v ^^^ y) (Cm.bu_len l a x j).symm ho (p := a + j) (by rw [Cm.bu_len]; omega)
        rw [← hv] at c7
        have ia : (a : Int) + (j : Int) = ((a + j : Nat) : Int) := by omega
        have iaj : a + j < l.length := by omega
        obtain ⟨aj, haj⟩ : ∃ aj, a + j = aj := ⟨_, rfl⟩
        rw [haj] at f7 c7 o7 gr7 ia iaj hv
        have HAJ := Lib.hid haj
        clear haj
        have yb := y.toNat_lt
        have vb := v.toNat_lt
        have x7 : bits .xor .u8 (v.toNat : Int) (y.toNat : Int) = ((v ^^^ y).toNat : Int) := by rw [u8_xor_nat _ _ vb yb, UInt8.toNat_xor]
        have e7 : bits .and .u32 ((x : Int) / 2 ^ (8 * j)) 255 = (y.toNat : Int) := by
          have e : (2 : Int) ^ (8 * j) = ((256 ^ j : Nat) : Int) := by rw [Int.pow_mul]; push_cast; rfl
          rw [e, ← Int.natCast_ediv, and255 _ (Nat.lt_of_le_of_lt (Nat.div_le_self _ _) hx), hy, Cm.toNat_mod]
        have HY := Lib.hid hy
        have HV := Lib.hid hv
        have O7 := Lib.hid o7
        have G7 := Lib.hid gr7
        clear hy hv o7 gr7 ho
        obtain ⟨vy, hvy⟩ : ∃ vy, vy = v ^^^ y := ⟨_, rfl⟩
        rw [← hvy] at x7 O7 G7
        have HVY := Lib.hid hvy
        clear hvy
        go_wp2
        go_roundw
        case rel =>
          refine ⟨j + 1, by omega, by go_num, ?_, Lib.hid (G7.out.below HBw.out HBw.out.size (fun k hk => Nat.le_trans B1.out.size (own_block_ge O7.out k hk)))⟩
          have e : Cm.bu l a x (j + 1) = (Cm.bu l a x j).set aj vy := by
            show (Cm.bu l a x j).set (a + j) _ = _
            rw [HAJ.out, HVY.out, HV.out, HY.out]
          rw [e]
          exact O7.out
        case measure => simp [intOf]; omega
      · have hj5 : j = 4 := by omega
        subst hj5
        have O8 := Lib.hid ho
        have SD := Lib.hid (fun B W h => sumN (some ⟨g6, 0, none⟩) (Cm.bu l a x 4) l.length c6 B W (Cm.bu_len l a x 4).symm h (by rw [Cm.bu_len]; omega))
        clear ho
        by_cases hx0 : x = 0
        · have hd := M3.out hx0 a ha4
          have q8 : ((x : Int) == 0) = true := by rw [beq_iff_eq]; omega
          rw [hd] at SD
          clear hd
          go_wp2_with (go_at_call 8; refine (SD.out _ _ (Rd.of_own O8.out)).mono ?_; rintro e w8 ⟨rfl, rfl⟩)
          go_ret
          exact ⟨rfl, HBw.out⟩
        · have hd := M4.out hx0 a ha4
          have q8 : ((x : Int) == 0) = false := by rw [beq_eq_false_iff_ne]; omega
          have q9 : ((Cm.sum (Cm.bu l a x 4) : Int) == (s : Int)) = false := by rw [beq_eq_false_iff_ne]; omega
          generalize Cm.sum (Cm.bu l a x 4) = sd at *
          clear hd
          go_wp2_with (go_at_call 8; refine (SD.out _ _ (Rd.of_own O8.out)).mono ?_; rintro e w8 ⟨rfl, rfl⟩)
          go_ret
          exact ⟨rfl, HBw.out⟩
end Go.Proofs.Ythgcellfibkpfaa
