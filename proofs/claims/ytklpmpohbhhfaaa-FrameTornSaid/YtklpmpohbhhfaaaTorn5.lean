/- FrameTorn: records one behind the other are read back, and of a beginning of them just those that are whole. -/
import Derived.Test.YtklpmpohbhhfaaaAl5
import Derived.Test.YtklpmpohbhhfaaaFt
namespace Go.Proofs.Ytklpmpohbhhfaaa
open Go.RowKit
set_option linter.unusedVariables false

theorem Fm.recs_ge : ∀ q : List (List UInt8), q.length ≤ (Fm.recs q).length
  | [] => by simp
  | a :: r => by
    have e : Fm.recs (a :: r) = Fm.rec a ++ Fm.recs r := by simp [Fm.recs]
    have h1 := Fm.rec_len a
    have h2 := (Mi.put_len a.length).1
    have h3 := Fm.recs_ge r
    rw [e, List.length_append, List.length_cons]
    omega
theorem Fm.splits_more (ps : List (List UInt8)) (m : List UInt8) (h : ∀ p ∈ ps, p.length < 18446744073709551616) (hm : (Fm.first m).2.2 = false) : Fm.splits (Fm.recs ps ++ m) = (ps, (Fm.recs ps).length) := by
  unfold Fm.splits
  refine Fm.split_recs ps _ m ?_ h hm
  have := Fm.recs_ge ps
  rw [List.length_append]; omega
theorem Fm.splits_all (ps : List (List UInt8)) (h : ∀ p ∈ ps, p.length < 18446744073709551616) : Fm.splits (Fm.recs ps) = (ps, (Fm.recs ps).length) := by
  have := Fm.splits_more ps [] h (by rw [Fm.first_nil])
  rwa [List.append_nil] at this
theorem Fm.splits_cut (l : List (List UInt8)) (k m : Nat) (hl : ∀ p ∈ l, p.length < 18446744073709551616) (hk : k ≤ (Fm.recs l).length) (hm : m ≤ l.length) (h1 : (Fm.recs (l.take m)).length ≤ k) (h2 : m = l.length ∨ k < (Fm.recs (l.take (m + 1))).length) :
    Fm.splits ((Fm.recs l).take k) = (l.take m, (Fm.recs (l.take m)).length) := by
  rcases Nat.lt_or_ge m l.length with hml | hml
  · have h3 : k < (Fm.recs (l.take (m + 1))).length := by
      rcases h2 with h2 | h2
      · omega
      · exact h2
    rw [Fm.recs_snoc l m hml, List.length_append] at h3
    have e : (Fm.recs l).take k = Fm.recs (l.take m) ++ (Fm.rec (l.getD m [])).take (k - (Fm.recs (l.take m)).length) := by
      rw [Fm.recs_parts l m hml, List.take_append, List.take_of_length_le (by omega)]
      congr 1
      rw [List.take_append_of_le_length (by omega)]
    rw [e]
    refine Fm.splits_more _ _ (fun q hq => hl q (List.mem_of_mem_take hq)) ?_
    rw [Fm.first_take _ _ (hl _ (by simp [List.getD, hml])) (by omega)]
  · have e : l.take m = l := List.take_of_length_le hml
    rw [e] at h1 ⊢
    rw [List.take_of_length_le (by omega)]
    exact Fm.splits_all l hl

theorem infoI5 : (Try.prog.info? 3).map (fun i => (i.zero, i.size, i.bytes)) = some (some (.int .i64 0), 1, 8) := by kernel_rfl
/-- append of one number onto a row of one's own. -/
theorem appI {w : World} {ty : TypeId} {base : Nat} {v : Value} {q : Nat} {xs : List Value} (hown : w.ownsRow base 3 1 v q xs) {B : Nat} {a : Addr} {x : Int} (hr : Rd w B (some a) [.int .i64 x]) (hq : q ≤ 4294967296) (hbase : base ≤ w.heap.size) :
    ∃ v' w', (Builtin.append_ #[30, 30] ty #[v, .slice (some a) 1 1]).run Try.prog w = .ok v' w' ∧ (w'.ownsRow base 3 1 v' (q + 1) (xs ++ [.int .i64 x]) ∧ Grew w w' v v') := by
  obtain ⟨i0, hi, hz0, hz1, hz2⟩ := info_parts infoI5
  obtain ⟨v', w', h1, h2, h3⟩ := run_append_rd (P := Try.prog) w base 30 ty 3 i0 _ 1 8 Try.underlying30 hi hz0 hz1 hz2 rfl v q xs hown B (some a) 1 1 [.int .i64 x] rfl hr (by simp [Value.oneCell']) (by unfold maxLen; omega) (by omega) hbase
  exact ⟨v', w', h1, h2, h3⟩
/-- A cell of what reads as these. -/
theorem Rd.cellk {w : World} {B : Nat} {A : Option Addr} {xs : List Value} (h : Rd w B A xs) {k : Nat} {u : Value} (hu : xs[k]? = some u) : ∃ b off, A = some ⟨b, off, none⟩ ∧ b < B ∧ w.cell? ⟨b, off + k, none⟩ = some u := by
  have hk : k < xs.length := by
    rcases Nat.lt_or_ge k xs.length with h | h
    · exact h
    · rw [List.getElem?_eq_none h] at hu; cases hu
  obtain ⟨a, rfl, hb, hc⟩ := h (by omega)
  have hs : a.spot = none := by
    obtain ⟨b, off, spot⟩ := a
    rcases spot with _ | s
    · rfl
    · have h00 := hc 0 (xs[0]'(by omega)) (List.getElem?_eq_getElem (by omega))
      simp [Addr.add, World.cell?] at h00
      split at h00 <;> simp at h00
  obtain ⟨b, off, spot⟩ := a
  simp only at hs
  subst hs
  have e2 : (⟨b, off, none⟩ : Addr).add k = ⟨b, off + k, none⟩ := by unfold Addr.add; split <;> simp_all
  exact ⟨b, off, rfl, hb, by rw [← e2]; exact hc k _ hu⟩

def Fm.ends (l : List (List UInt8)) (k : Nat) : List Value := (List.range k).map fun i => .int .i64 ((Fm.recs (l.take (i + 1))).length : Nat)
theorem Fm.ends_snoc (l : List (List UInt8)) (k : Nat) : Fm.ends l (k + 1) = Fm.ends l k ++ [.int .i64 ((Fm.recs (l.take (k + 1))).length : Nat)] := by simp [Fm.ends, List.range_succ]
theorem Fm.ends_at (l : List (List UInt8)) (n k : Nat) (h : k < n) : (Fm.ends l n)[k]? = some (.int .i64 ((Fm.recs (l.take (k + 1))).length : Nat)) := by simp [Fm.ends, h]

set_option maxHeartbeats 1000000 in
set_option maxRecDepth 100000 in
theorem torn_out (A : Option Addr) (n c : Nat) (k : Int) (w : World) (h : 20 < n ∨ k < 0) (hl : n ≤ maxLen) :
    Calls Try.prog 4 #[.slice A n c, .int .i64 k] w fun e w' => e = .returned (.bool true) ∧ Below w.heap.size w w' := by
  unfold maxLen at hl
  have hh : (20 < n) ∨ (¬ 20 < n ∧ k < 0) := by omega
  clear h
  rcases hh with h1 | ⟨h1, h2⟩
  all_goals
    go_enter Try.func4, Try.ntmps4
    go_wp2_with (go_at_call 7; refine (alive5_calls _).mono ?_; rintro e w1 ⟨rfl, hb1⟩)
    go_ret
    exact ⟨rfl, hb1⟩

set_option maxHeartbeats 4000000 in
set_option maxRecDepth 100000 in
theorem torn_in (A : Option Addr) (l : List (List UInt8)) (n c cut : Nat) (w : World) (hn : n = l.length) (hc : n ≤ c) (h20 : n ≤ 20) (hcut : cut ≤ 9223372036854775807) (hr : Rds w w.heap.size A l) :
    Calls Try.prog 4 #[.slice A n c, .int .i64 cut] w fun e w' => e = .returned (.bool true) ∧ Below w.heap.size w w' := by
  have HN := Lib.hid hn
  have HR := Lib.hid hr
  clear hn hr
  have q2 : ¬ 20 < n := by omega
  have d2 : decide (20 < (n : Int)) = false := by simp; omega
  have d3 : decide ((cut : Int) < 0) = false := by simp
  go_enter Try.func4, Try.ntmps4
  go_wp2_with (go_at_call 7; refine (alive5_calls _).mono ?_; rintro e w1 ⟨rfl, hb1⟩; have B1 := Lib.hid hb1; clear hb1)
  clear d2 d3 q2
  go_loopw [6, 7, 8] (fun b en i wr => ∃ k : Nat, k ≤ n ∧ i = .int .i64 k ∧ Hid (∀ p ∈ l.take k, p.length ≤ 200) ∧ Hid (wr.ownsRow w.heap.size 5 1 b (Fm.recs (l.take k)).length ((Fm.recs (l.take k)).map B8)) ∧ Hid (wr.ownsRow w.heap.size 3 1 en k (Fm.ends l k)) ∧ Hid (Below w.heap.size w wr)) (fun _ _ i _ => n - (intOf i).toNat)
  case atStart => exact ⟨0, by omega, rfl, Lib.hid (by simp), Lib.hid (World.ownsRow_nil _ _ _ _), Lib.hid (World.ownsRow_nil _ _ _ _), B1⟩
  case round =>
    obtain ⟨k, hk, rfl, HL, HO, HE, HW⟩ := hrel
    have hws := HW.out.size
    have hrl : (Fm.recs (l.take k)).length ≤ 4280 := by
      have := Fm.recs_le (l.take k) 200 HL.out
      have h2 : (l.take k).length ≤ 20 := by rw [List.length_take]; omega
      omega
    by_cases hlt : k < n
    · obtain ⟨b', off', X, cx, rfl, hbl, hcell, hx1, hx2, hxr⟩ := (HR.out.below HW.out).at_ (k := k) (by have := HN.out; omega)
      have i0 : (0 : Int) ≤ (k : Int) := by omega
      have i1 : (k : Int) < (n : Int) := by omega
      have hsn := Fm.recs_snoc l k (by have := HN.out; omega)
      have hes := Fm.ends_snoc l k
      have htk : l.take (k + 1) = l.take k ++ [l.getD k []] := by
        have hk' : k < l.length := by have := HN.out; omega
        rw [List.take_succ_eq_append_getElem hk']; simp [List.getD, hk']
      have HSN := Lib.hid hsn
      have HES := Lib.hid hes
      have HTK := Lib.hid htk
      have XR := Lib.hid hxr
      clear hsn htk hxr hes
      generalize l.getD k [] = p at *
      by_cases h100 : 200 < p.length
      · go_wp2
        go_ret
        exact ⟨rfl, HW.out⟩
      · have hp2 : p.length ≤ 200 := by omega
        have HB := Lib.hid (bytes_calls X p cx _ wr XR.out (by omega) (by omega))
        have hrp : (Fm.rec p).length ≤ 214 := by have := Fm.rec_len p; have := (Mi.put_len p.length).2; omega
        have HL2 : Hid (∀ q ∈ l.take (k + 1), q.length ≤ 200) := by
          show ∀ q ∈ l.take (k + 1), q.length ≤ 200
          rw [HTK.out]
          intro q hq
          rcases List.mem_append.1 hq with hq | hq
          · exact HL.out q hq
          · simp at hq; subst hq; exact hp2
        generalize hR : Fm.recs (l.take k) = R at *
        generalize hE : Fm.ends l k = E at *
        clear hR hE HL
        obtain ⟨bA, bc, hbv, hbc, _⟩ := own_rd HO.out
        subst hbv
        obtain ⟨eA, ec, hev, hec, _⟩ := own_rd HE.out
        subst hev
        go_wp2_with (first
          | (have hd := done1; clear done1; at_builtin; refine wpList_app rfl (.tmp 48) (.tmp 51) _ _ rfl rfl rfl (appI (E3.out.alloc _) (Rd.one w3 (.int .i64 ((R.length : Int) + ((Fm.rec p).length : Int))) _) (by omega) (by simp; omega)) ?_; rintro v4 w4 ⟨ho4, hg4⟩; have B4 := Lib.hid (hg4.alloc.below B3.out z3 (own_block_ge E3.out)); have E4 := Lib.hid ho4; have O4 := Lib.hid (own_grew O3.out hg4.alloc (own_apart O3.out E3.out (by decide))); clear ho4 hg4)
          | (go_at_call 10; refine HB.out.mono ?_; rintro e w2 ⟨v2, rfl, ho2, hg2⟩; have hb2 := hg2.new; obtain ⟨A2, c2, rfl, hc2, hr2⟩ := own_rd ho2; have R2 := Lib.hid hr2; have B2 := Lib.hid (HW.out.trans (hb2.mono hws)); have O2 := Lib.hid (own_below HO.out hb2); have E2 := Lib.hid (own_below HE.out hb2); have z2 := B2.out.size; clear ho2 hg2 hb2 hr2)
          | (at_builtin; refine wpList_app rfl (.tmp 41) (.tmp 46) _ _ rfl rfl rfl (appB O2.out R2.out (by omega) z2) ?_; rintro v3 w3 ⟨ho3, hg3⟩; rw [List.length_append] at ho3; have B3 := Lib.hid (hg3.below B2.out z2 (own_block_ge O2.out)); have O3 := Lib.hid ho3; have E3 := Lib.hid (own_grew E2.out hg3 (own_apart E2.out O2.out (by decide))); have z3 := B3.out.size; obtain ⟨A3, c3, rfl, _, _⟩ := own_rd ho3; have done1 := trivial; clear ho3 hg3))
        go_roundw
        case rel => exact ⟨k + 1, by omega, by go_num, HL2, by rw [HSN.out, List.length_append]; exact O4, by rw [HES.out, HSN.out, List.length_append]; exact E4, B4⟩
        case measure => simp [intOf]; omega
    · have hkn : k = n := by omega
      subst hkn
      have htk : l.take k = l := List.take_of_length_le (by have := HN.out; omega)
      rw [htk] at HL HO hrl
      clear htk
      obtain ⟨bA, bc, hbv, hbc, hbr⟩ := own_rd HO.out
      subst hbv
      obtain ⟨eA, ec, hev, hec, her⟩ := own_rd HE.out
      subst hev
      have hall := Fm.splits_all l (fun q hq => by have := HL.out q hq; omega)
      have HSP := Lib.hid (split_calls bA (Fm.recs l) (Fm.recs l).length bc wr rfl hbr hbc (by omega))
      rw [hall] at HSP
      generalize hR : Fm.recs l = R at *
      have HRR := Lib.hid hR
      clear hR hall
      have RB := Lib.hid hbr
      have RE := Lib.hid her
      clear hbr her HO HE
      obtain ⟨kk, hkk⟩ : ∃ kk, kk = cut % (R.length + 1) := ⟨_, rfl⟩
      have hk1 : kk ≤ R.length := by have := Nat.mod_lt cut (show 0 < R.length + 1 by omega); omega
      have ek : (cut : Int) % ((R.length : Int) + 1) = (kk : Int) := by rw [hkk]; rfl
      have q6 : ((R.length : Int) + 1 == 0) = false := by rw [beq_eq_false_iff_ne]; omega
      clear hkk
      go_wp2_with (first
        | (go_at_call 8; refine HSP.out.mono ?_; rintro e w3 ⟨v3, rfl, ho3, hb3⟩; obtain ⟨A3, c3, rfl, hc3, hr3⟩ := ho3.rds; rw [← HN.out]; have R3 := Lib.hid hr3; have B3 := Lib.hid (HW.out.trans (hb3.mono hws)); have z3 := B3.out.size; have RB3 := Lib.hid (((RB.out.below hb3).more hb3.size)); have RE3 := Lib.hid (((RE.out.below hb3).more hb3.size)); clear ho3 hb3 hr3)
        | (go_at_call 12; refine (same_calls _ l k _ _ l k _ _ _ HN.out HN.out R3.out ((HR.out.below B3.out).more z3) (by omega) (by omega)).mono ?_; simp only [decide_true]; rintro e w5 ⟨rfl, hj⟩; have B5 : Hid (Below w.heap.size w w5) := (by obtain ⟨j, rfl⟩ := hj; exact below_drewN B3.out j); have RB5 : Hid (Rd w5 w5.heap.size bA (R.map B8)) := (by obtain ⟨j, rfl⟩ := hj; exact RB3.out); have RE5 : Hid (Rd w5 w5.heap.size eA (Fm.ends l k)) := (by obtain ⟨j, rfl⟩ := hj; exact RE3.out); have z5 := B5.out.size; clear hj))
      go_loop [12, 13] (fun nn en => ∃ m F : Nat, m ≤ k ∧ nn = .int .i64 m ∧ en = .int .i64 F ∧ F ≤ kk ∧ Hid ((Fm.recs (l.take m)).length = F)) (fun nn _ => k - (intOf nn).toNat)
      case atStart => exact ⟨0, 0, by omega, rfl, rfl, by omega, Lib.hid (by simp [Fm.recs])⟩
      case round =>
        obtain ⟨m, F, hm, rfl, rfl, hFm, HFm⟩ := hrel
        by_cases hmk : m < k
        · obtain ⟨b', off', rfl, _, hcell⟩ := RE5.out.cellk (Fm.ends_at l k m hmk)
          have i0 : (0 : Int) ≤ (m : Int) := by omega
          have i1 : (m : Int) < (k : Int) := by omega
          obtain ⟨F2, hF2⟩ : ∃ F2, F2 = (Fm.recs (l.take (m + 1))).length := ⟨_, rfl⟩
          rw [← hF2] at hcell
          have HF2 := Lib.hid hF2
          clear hF2
          by_cases hle : F2 ≤ kk
          · go_wp2
            go_round
            case rel => exact ⟨m + 1, F2, by omega, by go_num, rfl, hle, Lib.hid HF2.out.symm⟩
            case measure => simp [intOf]; omega
          · have HX : Hid (m = l.length ∨ kk < (Fm.recs (l.take (m + 1))).length) := Lib.hid (.inr (by rw [← HF2.out]; omega))
            have hlt2 : ¬ (F2 : Int) ≤ (kk : Int) := by omega
            have HC := Lib.hid (Fm.splits_cut l kk m (fun q hq => by have := HL.out q hq; omega) (by rw [HRR.out]; omega) (by have := HN.out; omega) (by rw [HFm.out]; exact hFm) HX.out)
            rw [HRR.out, HFm.out] at HC
            have HSP2 := Lib.hid (split_calls bA (R.take kk) kk bc w5 (by rw [List.length_take]; omega) (by rw [List.map_take]; exact RB5.out.take kk) (by omega) (by omega))
            rw [HC.out] at HSP2
            have hlm : (l.take m).length = m := by rw [List.length_take]; have := HN.out; omega
            have HLM := Lib.hid hlm
            clear hlm
            go_wp2_with (first
              | (go_at_call 8; refine HSP2.out.mono ?_; rintro e w6 ⟨v6, rfl, ho6, hb6⟩; obtain ⟨A6, c6, rfl, hc6, hr6⟩ := ho6.rds; rw [HLM.out]; have R6 := Lib.hid hr6; have B6 := Lib.hid (B5.out.trans (hb6.mono z5)); have z6 := B6.out.size; clear ho6 hb6 hr6)
              | (go_at_call 12; refine (same_calls _ (l.take m) m _ _ (l.take m) m _ _ _ HLM.out.symm HLM.out.symm R6.out (((HR.out.below B6.out).more z6).take m) (by omega) (by omega)).mono ?_; simp only [decide_true]; rintro e w7 ⟨rfl, i7, rfl⟩))
            go_ret
            exact ⟨rfl, below_drewN B6.out _⟩
        · have HX : Hid (m = l.length ∨ kk < (Fm.recs (l.take (m + 1))).length) := Lib.hid (.inl (by have := HN.out; omega))
          have HC := Lib.hid (Fm.splits_cut l kk m (fun q hq => by have := HL.out q hq; omega) (by rw [HRR.out]; omega) (by have := HN.out; omega) (by rw [HFm.out]; exact hFm) HX.out)
          rw [HRR.out, HFm.out] at HC
          have HSP2 := Lib.hid (split_calls bA (R.take kk) kk bc w5 (by rw [List.length_take]; omega) (by rw [List.map_take]; exact RB5.out.take kk) (by omega) (by omega))
          rw [HC.out] at HSP2
          have hlm : (l.take m).length = m := by rw [List.length_take]; have := HN.out; omega
          have HLM := Lib.hid hlm
          clear hlm
          go_wp2_with (first
            | (go_at_call 8; refine HSP2.out.mono ?_; rintro e w6 ⟨v6, rfl, ho6, hb6⟩; obtain ⟨A6, c6, rfl, hc6, hr6⟩ := ho6.rds; rw [HLM.out]; have R6 := Lib.hid hr6; have B6 := Lib.hid (B5.out.trans (hb6.mono z5)); have z6 := B6.out.size; clear ho6 hb6 hr6)
            | (go_at_call 12; refine (same_calls _ (l.take m) m _ _ (l.take m) m _ _ _ HLM.out.symm HLM.out.symm R6.out (((HR.out.below B6.out).more z6).take m) (by omega) (by omega)).mono ?_; simp only [decide_true]; rintro e w7 ⟨rfl, i7, rfl⟩))
          go_ret
          exact ⟨rfl, below_drewN B6.out _⟩
end Go.Proofs.Ytklpmpohbhhfaaa
