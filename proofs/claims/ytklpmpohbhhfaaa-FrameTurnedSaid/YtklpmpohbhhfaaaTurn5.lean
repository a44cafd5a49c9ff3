/- FrameTurned: behind a record of which a byte was turned nothing is read, and all ahead of it is. -/
import Derived.Test.YtklpmpohbhhfaaaTurn5a
import Derived.Test.YtklpmpohbhhfaaaFt
namespace Go.Proofs.Ytklpmpohbhhfaaa
open Go.RowKit
set_option linter.unusedVariables false

theorem own_le {w : World} {base n c : Nat} {e : TypeId} {A : Option Addr} {xs : List Value} (h : w.ownsRow base e 1 (.slice A n c) n xs) : n ≤ c := by
  obtain ⟨A', c', hv, hc, _⟩ := own_rd h
  injection hv with h1 h2 h3
  omega
theorem own_byte5 {w : World} {base g cap : Nat} {l : List UInt8} {p : Nat} {y : UInt8} {n : Nat} (hn : n = l.length) (h : w.ownsRow base 5 1 (.slice (some ⟨g, 0, none⟩) n cap) n (l.map B8)) (hp : p < l.length) :
    w.frozen? ⟨g, p, none⟩ = false ∧ w.cell? ⟨g, p, none⟩ = some (.int .u8 ((l.getD p 0).toNat : Int)) ∧
      (w.setCell ⟨g, p, none⟩ (.int .u8 (y.toNat : Int))).ownsRow base 5 1 (.slice (some ⟨g, 0, none⟩) n cap) n ((l.set p y).map B8) ∧
      Grew w (w.setCell ⟨g, p, none⟩ (.int .u8 (y.toNat : Int))) (.slice (some ⟨g, 0, none⟩) n cap) (.slice (some ⟨g, 0, none⟩) n cap) := by
  obtain ⟨a, b, c, d⟩ := own_set h (i := p) (by omega) (.int .u8 (y.toNat : Int))
  refine ⟨a, ?_, ?_, d⟩
  · rw [b]; simp [B8, List.getD, hp]
  · rw [List.map_set]; exact c

set_option maxHeartbeats 4000000 in
set_option maxRecDepth 100000 in
theorem turned_in (A : Option Addr) (l : List (List UInt8)) (n c at_ by_ bit : Nat) (w : World) (hn : n = l.length) (hc : n ≤ c) (h1 : 1 ≤ n) (h12 : n ≤ 12) (hat : at_ < n) (hbit : bit < 8) (hby : by_ ≤ 9223372036854775807) (hr : Rds w w.heap.size A l) :
    Calls Try.prog 6 #[.slice A n c, .int .i64 at_, .int .i64 by_, .int .i64 bit] w fun e w' => e = .returned (.bool true) ∧ Below w.heap.size w w' := by
  obtain ⟨b0, off0, _, _, rfl, _, _, _⟩ := hr.at_ (k := 0) (by omega)
  have HN := Lib.hid hn
  have HR := Lib.hid hr
  clear hn hr
  have q1 : ¬ n < 1 := by omega
  have q2 : ¬ 12 < n := by omega
  have q3 : ¬ (n : Int) ≤ (at_ : Int) := by omega
  have q4 : ¬ 7 < bit := by omega
  have d1 : decide ((n : Int) < 1) = false := by simp; omega
  have d2 : decide (12 < (n : Int)) = false := by simp; omega
  have d3 : decide ((at_ : Int) < 0) = false := by simp
  have d4 : decide (n ≤ at_) = false := by simp; omega
  have d5 : decide ((by_ : Int) < 0) = false := by simp
  have d6 : decide ((bit : Int) < 0) = false := by simp
  have d7 : decide (7 < (bit : Int)) = false := by simp; omega
  go_enter Try.func6, Try.ntmps6
  go_wp2_with (go_at_call 7; refine (alive5_calls _).mono ?_; rintro e w1 ⟨rfl, hb1⟩; have B1 := Lib.hid hb1; clear hb1)
  clear d1 d2 d3 d4 d5 d6 d7 q1 q2 q3 q4
  go_loopw [10, 11, 12] (fun b fr i wr => ∃ k f : Nat, k ≤ n ∧ i = .int .i64 k ∧ fr = .int .i64 f ∧ f ≤ 1368 ∧ Hid (at_ < k → f = (Fm.recs (l.take at_)).length) ∧ Hid (∀ p ∈ l.take k, p.length ≤ 100) ∧ Hid (wr.ownsRow w.heap.size 5 1 b (Fm.recs (l.take k)).length ((Fm.recs (l.take k)).map B8)) ∧ Hid (Below w.heap.size w wr)) (fun _ _ i _ => n - (intOf i).toNat)
  case atStart => exact ⟨0, 0, by omega, rfl, rfl, by omega, Lib.hid (fun h => absurd h (by omega)), Lib.hid (by simp), Lib.hid (World.ownsRow_nil _ _ _ _), B1⟩
  case round =>
    obtain ⟨k, f, hk, rfl, rfl, hf, HF, HL, HO, HW⟩ := hrel
    have hws := HW.out.size
    have hrl : (Fm.recs (l.take k)).length ≤ 1368 := by
      have := Fm.recs_le (l.take k) 100 HL.out
      have h2 : (l.take k).length ≤ 12 := by rw [List.length_take]; omega
      omega
    by_cases hlt : k < n
    · obtain ⟨b', off', X, cx, e0, hbl, hcell, hx1, hx2, hxr⟩ := (HR.out.below HW.out).at_ (k := k) (by have := HN.out; omega)
      simp only [Option.some.injEq, Addr.mk.injEq] at e0
      obtain ⟨rfl, rfl, _⟩ := e0
      have i0 : (0 : Int) ≤ (k : Int) := by omega
      have i1 : (k : Int) < (n : Int) := by omega
      have hsn := Fm.recs_snoc l k (by have := HN.out; omega)
      have htk : l.take (k + 1) = l.take k ++ [l.getD k []] := by
        have hk' : k < l.length := by have := HN.out; omega
        rw [List.take_succ_eq_append_getElem hk']; simp [List.getD, hk']
      have HSN := Lib.hid hsn
      have HTK := Lib.hid htk
      have XR := Lib.hid hxr
      clear hsn htk hxr
      generalize l.getD k [] = p at *
      by_cases h100 : 100 < p.length
      · go_wp2
        go_ret
        exact ⟨rfl, HW.out⟩
      · have hp2 : p.length ≤ 100 := by omega
        have HB := Lib.hid (bytes_calls X p cx _ wr XR.out (by omega) (by omega))
        have hrp : (Fm.rec p).length ≤ 105 := by rw [Fm.rec_small p (by omega)]; omega
        have HL2 : Hid (∀ q ∈ l.take (k + 1), q.length ≤ 100) := by
          show ∀ q ∈ l.take (k + 1), q.length ≤ 100
          rw [HTK.out]
          intro q hq
          rcases List.mem_append.1 hq with hq | hq
          · exact HL.out q hq
          · simp at hq; subst hq; exact hp2
        have hf2 : Hid (at_ < k + 1 → (if k = at_ then (Fm.recs (l.take k)).length else f) = (Fm.recs (l.take at_)).length) := by
          show at_ < k + 1 → _
          intro h
          by_cases hka : k = at_
          · rw [if_pos hka, hka]
          · rw [if_neg hka]; exact HF.out (by omega)
        generalize hR : Fm.recs (l.take k) = R at *
        have HRR := Lib.hid hR
        clear hR HF HL
        obtain ⟨bA, bc, hbv, hbc, _⟩ := own_rd HO.out
        subst hbv
        by_cases hka : k = at_
        · have q5 : ((k : Int) == (at_ : Int)) = true := by rw [beq_iff_eq]; omega
          rw [if_pos hka] at hf2
          clear hka
          go_wp2_with (first
            | (go_at_call 10; refine HB.out.mono ?_; rintro e w2 ⟨v2, rfl, ho2, hg2⟩; have hb2 := hg2.new; obtain ⟨A2, c2, rfl, hc2, hr2⟩ := own_rd ho2; have R2 := Lib.hid hr2; have B2 := Lib.hid (HW.out.trans (hb2.mono hws)); have O2 := Lib.hid (own_below HO.out hb2); have z2 := B2.out.size; clear ho2 hg2 hb2 hr2)
            | (at_builtin; refine wpList_app rfl (.tmp 69) (.tmp 74) _ _ rfl rfl rfl (appB O2.out R2.out (by omega) z2) ?_; rintro v3 w3 ⟨ho3, hg3⟩; have B3 := Lib.hid (hg3.below B2.out z2 (own_block_ge O2.out)); have O3 := Lib.hid ho3; clear ho3 hg3))
          go_roundw
          case rel => exact ⟨k + 1, _, by omega, by go_num, rfl, by omega, hf2, HL2, by rw [HSN.out]; exact O3, B3⟩
          case measure => simp [intOf]; omega
        · have q5 : ((k : Int) == (at_ : Int)) = false := by rw [beq_eq_false_iff_ne]; omega
          rw [if_neg hka] at hf2
          clear hka
          go_wp2_with (first
            | (go_at_call 10; refine HB.out.mono ?_; rintro e w2 ⟨v2, rfl, ho2, hg2⟩; have hb2 := hg2.new; obtain ⟨A2, c2, rfl, hc2, hr2⟩ := own_rd ho2; have R2 := Lib.hid hr2; have B2 := Lib.hid (HW.out.trans (hb2.mono hws)); have O2 := Lib.hid (own_below HO.out hb2); have z2 := B2.out.size; clear ho2 hg2 hb2 hr2)
            | (at_builtin; refine wpList_app rfl (.tmp 69) (.tmp 74) _ _ rfl rfl rfl (appB O2.out R2.out (by omega) z2) ?_; rintro v3 w3 ⟨ho3, hg3⟩; have B3 := Lib.hid (hg3.below B2.out z2 (own_block_ge O2.out)); have O3 := Lib.hid ho3; clear ho3 hg3))
          go_roundw
          case rel => exact ⟨k + 1, f, by omega, by go_num, rfl, by omega, hf2, HL2, by rw [HSN.out]; exact O3, B3⟩
          case measure => simp [intOf]; omega
    · have hkn : k = n := by omega
      subst hkn
      have htk : l.take k = l := List.take_of_length_le (by have := HN.out; omega)
      rw [htk] at HL HO hrl
      have hfe := HF.out hat
      subst hfe
      clear htk HF
      obtain ⟨b', off', X, cx, e0, hbl, hcell, hx1, hx2, hxr⟩ := (HR.out.below HW.out).at_ (k := at_) (by have := HN.out; omega)
      simp only [Option.some.injEq, Addr.mk.injEq] at e0
      obtain ⟨rfl, rfl, _⟩ := e0
      have i0 : (0 : Int) ≤ (at_ : Int) := by omega
      have i1 : (at_ : Int) < (k : Int) := by omega
      have hpl : (l.getD at_ []).length ≤ 100 := HL.out _ (by have hk' : at_ < l.length := (by have := HN.out; omega); simp [List.getD, hk'])
      by_cases hp0 : (l.getD at_ []).length = 0
      · have q6 : (((l.getD at_ []).length : Int) == 0) = true := by rw [beq_iff_eq]; omega
        generalize l.getD at_ [] = p at *
        go_wp2
        go_ret
        exact ⟨rfl, HW.out⟩
      · obtain ⟨m, hm⟩ : ∃ m, m = by_ % (l.getD at_ []).length := ⟨_, rfl⟩
        have hm1 : m < (l.getD at_ []).length := by rw [hm]; exact Nat.mod_lt _ (by omega)
        have em : (by_ : Int) % ((l.getD at_ []).length : Int) = (m : Int) := by rw [hm]; rfl
        have q6 : (((l.getD at_ []).length : Int) == 0) = false := by rw [beq_eq_false_iff_ne]; omega
        obtain ⟨ht1, ht2⟩ := Fm.turned l at_ m bit (by have := HN.out; omega) hm1 hbit HL.out
        have hrl2 : (Fm.recs (l.take at_)).length ≤ 1368 := hf
        have h1b : (2 : Nat) ^ bit < 256 := Nat.lt_of_lt_of_le (Nat.pow_lt_pow_right (by omega) hbit) (by decide : 2 ^ 8 ≤ 256)
        have h2b : ((2 : Int) ^ bit % 256) = ((2 ^ bit : Nat) : Int) := by rw [show (2 : Int) ^ bit = ((2 ^ bit : Nat) : Int) from by push_cast; rfl]; exact Int.emod_eq_of_lt (Int.natCast_nonneg _) (by exact_mod_cast h1b)
        have hsame := Lib.hid (fun W B A' c' (h : Rds W B A' (l.take at_)) (h2 : Rds W B (some ⟨b0, off0, none⟩) l) => same_calls A' (l.take at_) at_ c' (some ⟨b0, off0, none⟩) (l.take at_) at_ c B W (by rw [List.length_take]; have := HN.out; omega) (by rw [List.length_take]; have := HN.out; omega) h (h2.take at_) (by omega) (by omega))
        simp only [decide_true] at hsame
        have hlt_ : (l.take at_).length = at_ := by rw [List.length_take]; have := HN.out; omega
        clear hm hpl hp0
        generalize l.getD at_ [] = p at *
        generalize hR : Fm.recs l = R at *
        generalize hF : (Fm.recs (l.take at_)).length = F at *
        obtain ⟨j, hj⟩ : ∃ j, j = F + 5 + m := ⟨_, rfl⟩
        have e1 : (F : Int) + 5 + (m : Int) = (j : Int) := by omega
        rw [← hj] at ht1 ht2
        have hj3 : j ≤ 2000 := by omega
        have HJ := Lib.hid hj
        clear hj hR hF HL
        obtain ⟨g, cg, hbv, _⟩ := HO.out.form (by omega)
        subst hbv
        obtain ⟨fz, cl, o2, g2⟩ := own_byte5 (y := R.getD j 0 ^^^ UInt8.ofNat (2 ^ bit)) rfl HO.out ht1
        have X1 : bits .xor .u8 ((R.getD j 0).toNat : Int) (2 ^ bit % 256) = ((R.getD j 0 ^^^ UInt8.ofNat (2 ^ bit)).toNat : Int) := by
          rw [h2b, u8_xor_nat _ _ (R.getD j 0).toNat_lt h1b, UInt8.toNat_xor, UInt8.toNat_ofNat']
          congr 2
          exact (Nat.mod_eq_of_lt h1b).symm
        have hlen2 : (R.set j (R.getD j 0 ^^^ UInt8.ofNat (2 ^ bit))).length = R.length := List.length_set ..
        generalize R.set j (R.getD j 0 ^^^ UInt8.ofNat (2 ^ bit)) = R2 at *
        generalize R.getD j 0 ^^^ UInt8.ofNat (2 ^ bit) = y at *
        have uu := (R.getD j 0).toNat_lt
        generalize R.getD j 0 = u at *
        have hcc := own_le o2
        have B2 := Lib.hid (g2.below HW.out hws (own_block_ge HO.out))
        have HSP := Lib.hid (split_calls (some ⟨g, 0, none⟩) R2 R.length cg (w := _) hlen2.symm (Rd.of_own o2) hcc (by omega))
        rw [ht2] at HSP
        have z2 := B2.out.size
        have i3 : ¬ (R.length : Int) ≤ (j : Int) := by omega
        have i4 : (j : Int) < (R.length : Int) := by omega
        have i5 : (at_ : Int) ≤ (k : Int) := by omega
        have i6 : (at_ : Int) ≤ (c : Int) := by omega
        have FZ := Lib.hid fz
        clear h2b h1b ht2 o2 g2 HO hxr
        go_wp2_with (first
          | (go_at_call 8; refine HSP.out.mono ?_; rintro e w3 ⟨v3, rfl, ho3, hb3⟩; obtain ⟨A3, c3, rfl, hc3, hr3⟩ := ho3.rds; rw [hlt_]; have R3 := Lib.hid hr3; have B3 := Lib.hid (B2.out.trans (hb3.mono z2)); have z3 := B3.out.size; clear ho3 hb3 hr3)
          | (go_at_call 12; refine (hsame.out _ _ _ _ R3.out ((HR.out.below B3.out).more z3)).mono ?_; rintro e w4 ⟨rfl, i4, rfl⟩))
        go_ret
        exact ⟨rfl, below_drewN B3.out _⟩
end Go.Proofs.Ytklpmpohbhhfaaa
