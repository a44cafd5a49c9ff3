/- The record that bytes begin with: the code's answer. -/
import Derived.Test.YtbdiamhhlabojaaDoorFb
namespace Go.Proofs.YtbdiamhhlabojaaDoor
open Go.RowKit
set_option linter.unusedVariables false

/-- Bytes lie in a plain block. -/
theorem Rd.plain {w : World} {B : Nat} {A : Option Addr} {l : List UInt8} (h : Rd w B A (l.map B8)) (hl : 0 < l.length) : ∃ b off, A = some ⟨b, off, none⟩ ∧ b < B ∧ ∀ j, j < l.length → w.cell? ⟨b, off + j, none⟩ = some (.int .u8 ((l.getD j 0).toNat : Int)) := by
  have hm : ∀ j, j < l.length → (l.map B8)[j]? = some (.int .u8 ((l.getD j 0).toNat : Int)) := fun j hj => by simp [B8, List.getD, hj]
  obtain ⟨a, rfl, hb, hc⟩ := h (by simpa using hl)
  have hs : a.spot = none := by
    obtain ⟨b, off, spot⟩ := a
    rcases spot with _ | s
    · rfl
    · have h00 := hc 0 _ (hm 0 hl)
      simp [Addr.add, World.cell?] at h00
      split at h00 <;> simp at h00
  obtain ⟨b, off, spot⟩ := a
  simp only at hs
  subst hs
  have e : ∀ j, (⟨b, off, none⟩ : Addr).add j = ⟨b, off + j, none⟩ := by
    intro j; unfold Addr.add; split <;> simp_all
  exact ⟨b, off, rfl, hb, fun j hj => by rw [← e]; exact hc _ _ (hm j hj)⟩

theorem shl_or (a b c d : Nat) (ha : a < 256) (hb : b < 256) (hc : c < 256) (hd : d < 256) :
    bits .or .u32 (bits .or .u32 (bits .or .u32 (a : Int) ((b * 256 : Nat) : Int)) ((c * 65536 : Nat) : Int)) ((d * 16777216 : Nat) : Int) = ((a + b * 256 + c * 65536 + d * 16777216 : Nat) : Int) := by
  rw [u32_or_nat a (b * 256) (by omega) (by omega), Nat.or_comm, nat_join 8 (b * 256) a (by omega) (by omega)]
  rw [u32_or_nat _ (c * 65536) (by omega) (by omega), Nat.or_comm, nat_join 16 (c * 65536) _ (by omega) (by omega)]
  rw [u32_or_nat _ (d * 16777216) (by omega) (by omega), Nat.or_comm, nat_join 24 (d * 16777216) _ (by omega) (by omega)]
  congr 1; omega

set_option maxHeartbeats 1000000 in
set_option maxRecDepth 100000 in
theorem cget_calls (A : Option Addr) (l : List UInt8) (n c B : Nat) (w : World) (hn : n = l.length) (hb : Rd w B A (l.map B8)) (h4 : 4 ≤ l.length) (hl : l.length ≤ 140737488355328) :
    Calls Tryd.prog 77 #[.slice A n c] w fun e w' => e = .returned (.int .u32 (Fm.val4 l : Nat)) ∧ ∃ k, w' = w.drewN k := by
  obtain ⟨b, off, rfl, _, hc⟩ := hb.plain (by omega)
  have c0 : w.cell? ⟨b, off, none⟩ = some (.int .u8 ((l.getD 0 0).toNat : Int)) := hc 0 (by omega)
  have c1 := hc 1 (by omega)
  have c2 := hc 2 (by omega)
  have c3 := hc 3 (by omega)
  have HV : Hid (Fm.val4 l = (l.getD 0 0).toNat + (l.getD 1 0).toNat * 256 + (l.getD 2 0).toNat * 65536 + (l.getD 3 0).toNat * 16777216) := rfl
  have b0 : (l.getD 0 0).toNat < 256 := (l.getD 0 0).toNat_lt
  have b1 : (l.getD 1 0).toNat < 256 := (l.getD 1 0).toNat_lt
  have b2 : (l.getD 2 0).toNat < 256 := (l.getD 2 0).toNat_lt
  have b3 : (l.getD 3 0).toNat < 256 := (l.getD 3 0).toNat_lt
  clear hc hb
  generalize (l.getD 0 0).toNat = v0 at *
  generalize (l.getD 1 0).toNat = v1 at *
  generalize (l.getD 2 0).toNat = v2 at *
  generalize (l.getD 3 0).toNat = v3 at *
  have e := shl_or v0 v1 v2 v3 b0 b1 b2 b3
  rw [← HV.out] at e
  have i0 : (0 : Int) < (n : Int) := by omega
  have i1 : (1 : Int) < (n : Int) := by omega
  have i2 : (2 : Int) < (n : Int) := by omega
  have i3 : (3 : Int) < (n : Int) := by omega
  have j0 : 0 < n := by omega
  have j1 : 1 < n := by omega
  have j2 : 2 < n := by omega
  have j3 : 3 < n := by omega
  have j4 : ¬ n < 4 := by omega
  have nl : n ≤ 140737488355328 := by omega
  clear hn hl h4
  have m1 : (v1 : Int) * 256 = ((v1 * 256 : Nat) : Int) := by omega
  have m2 : (v2 : Int) * 65536 = ((v2 * 65536 : Nat) : Int) := by omega
  have m3 : (v3 : Int) * 16777216 = ((v3 * 16777216 : Nat) : Int) := by omega
  rw [← m1, ← m2, ← m3] at e
  have E := Lib.hid e
  clear m1 m2 m3 e
  go_enter Tryd.func77, Tryd.ntmps77
  go_wp2
  go_quiet (fail)
  go_wp2
  go_ret
  refine ⟨congrArg Ending.returned (congrArg (Value.int .u32) E.out), nq, rfl⟩

theorem val4_take (l : List UInt8) (h : 4 ≤ l.length) : Fm.val4 (l.take 4) = Fm.val4 l := by
  match l, h with
  | a :: b :: c :: d :: r, _ => rfl

theorem below_draw3 (w : World) (n : Nat) : Below w.heap.size w (w.drewN n) := ⟨rfl, rfl, rfl, Nat.le_refl _, fun _ _ => rfl⟩
/-- nil, or a copy. -/
theorem first_no {l : List UInt8} (h : ¬ Fm.ok l) : Fm.first l = ([], 0, false) := by unfold Fm.first; rw [if_neg h]

set_option maxHeartbeats 2000000 in
set_option maxRecDepth 100000 in
theorem first_calls (A : Option Addr) (l : List UInt8) (n c B : Nat) (w : World) (hn : n = l.length) (hb : Rd w B A (l.map B8)) (hB : B ≤ w.heap.size) (hc : n ≤ c) (hl : n ≤ 1000000) :
    Calls Tryd.prog 64 #[.slice A n c] w fun e w' => ∃ v', e = .returned (.tuple #[v', .int .i64 (Fm.first l).2.1, .bool (Fm.first l).2.2]) ∧ w'.ownsRow w.heap.size 5 1 v' (Fm.first l).1.length ((Fm.first l).1.map B8) ∧ Below w.heap.size w w' := by
  have HB := Lib.hid hb
  have HN := Lib.hid hn
  have HG := Lib.hid (getN A l n c B w hn hb (by omega))
  have hno := Mi.getAux_no l 0 0
  have hk := Mi.get_len l
  have hlt := Mi.get_lt l
  have hok : Fm.ok l ↔ ((Mi.get l).2.2 = true ∧ (Mi.get l).2.1 + 4 + (Mi.get l).1 ≤ l.length ∧ (l.drop (Mi.get l).2.1).take 4 = Cm.le4 (Cm.sum ((l.drop ((Mi.get l).2.1 + 4)).take (Mi.get l).1))) := Iff.rfl
  have hyes : Fm.ok l → Fm.first l = ((l.drop ((Mi.get l).2.1 + 4)).take (Mi.get l).1, (Mi.get l).2.1 + 4 + (Mi.get l).1, true) := fun h => by unfold Fm.first; rw [if_pos h]
  have hnoo : ¬ Fm.ok l → Fm.first l = ([], 0, false) := first_no
  rw [show Mi.getAux 0 0 l = Mi.get l from rfl] at hno
  clear hn hb
  obtain ⟨⟨m, k, g⟩, hg⟩ : ∃ x, x = Mi.get l := ⟨_, rfl⟩
  rw [← hg] at HG hno hk hlt hok hyes
  simp only at HG hno hk hlt hok hyes
  clear hg
  have hkn : k ≤ n := by have := HN.out; omega
  rcases g with _ | _
  · have h := hno rfl
    simp only [Prod.mk.injEq] at h
    obtain ⟨rfl, rfl, _⟩ := h
    have hf := hnoo (by rw [hok]; simp)
    have HF := Lib.hid hf
    clear hf hok hyes hnoo hno
    go_enter Tryd.func64, Tryd.ntmps64
    go_wp2_with (go_at_call 76; refine HG.out.mono ?_; rintro e w1 ⟨rfl, rfl⟩)
    go_ret3
    exact ⟨_, by rw [HF.out]; rfl, by rw [HF.out]; exact World.ownsRow_nil _ _ _ _, Below.refl _ _⟩
  · have hok2 : Fm.ok l ↔ (k + 4 + m ≤ n ∧ (l.drop k).take 4 = Cm.le4 (Cm.sum ((l.drop (k + 4)).take m))) := by rw [hok, HN.out]; simp
    clear hok hno
    by_cases h4 : n - k < 4
    · have hf := hnoo (by rw [hok2]; omega)
      have HF := Lib.hid hf
      have h4' : (n : Int) - (k : Int) < 4 := by omega
      clear hf hok2 hyes hnoo
      go_enter Tryd.func64, Tryd.ntmps64
      go_wp2_with (go_at_call 76; refine HG.out.mono ?_; rintro e w1 ⟨rfl, rfl⟩)
      go_ret3
      exact ⟨_, by rw [HF.out]; rfl, by rw [HF.out]; exact World.ownsRow_nil _ _ _ _, Below.refl _ _⟩
    · have h4' : ¬ (n : Int) - (k : Int) < 4 := by omega
      have hb1 : (k : Int) + 4 ≤ (n : Int) := by omega
      obtain ⟨bg, hbg⟩ : ∃ bg, bg = k + 4 := ⟨_, rfl⟩
      have e1 : (k : Int) + 4 = (bg : Int) := by omega
      obtain ⟨rm, hrm⟩ : ∃ rm, rm = n - bg := ⟨_, rfl⟩
      have e2 : (n : Int) - (bg : Int) = (rm : Int) := by omega
      by_cases hm : rm < m
      · have hf := hnoo (by rw [hok2]; omega)
        have HF := Lib.hid hf
        have hm' : (rm : Int) < (m : Int) := by omega
        have hrm2 : rm ≤ 1000000 := by omega
        clear hf hok2 hyes hnoo hbg hrm
        go_enter Tryd.func64, Tryd.ntmps64
        go_wp2_with (go_at_call 76; refine HG.out.mono ?_; rintro e w1 ⟨rfl, rfl⟩)
        go_ret3
        exact ⟨_, by rw [HF.out]; rfl, by rw [HF.out]; exact World.ownsRow_nil _ _ _ _, Below.refl _ _⟩
      · have hm' : ¬ (rm : Int) < (m : Int) := by omega
        have hrm2 : rm ≤ 1000000 := by omega
        obtain ⟨en, hen⟩ : ∃ en, en = bg + m := ⟨_, rfl⟩
        have e3 : (bg : Int) + (m : Int) = (en : Int) := by omega
        have hen2 : en ≤ n := by omega
        have hkc : ¬ c = k := by omega
        have hd1 := (HB.out.drop (k := k) (cap := c) (by simp; have := HN.out; omega))
        rw [if_neg hkc, ← List.map_drop] at hd1
        have HC := Lib.hid (cget_calls _ (l.drop k) (n - k) (c - k) B w (by rw [List.length_drop]; have := HN.out; omega) hd1 (by rw [List.length_drop]; have := HN.out; omega) (by rw [List.length_drop]; have := HN.out; omega))
        have hPl : ((l.drop bg).take m).length = m := by rw [List.length_take, List.length_drop]; have := HN.out; omega
        have hd2 : Rd w B (if c = bg then A else A.map (·.add bg)) (((l.drop bg).take m).map B8) := by
          have := (HB.out.drop (k := bg) (cap := c) (by simp; have := HN.out; omega)).take m
          rw [← List.map_drop, ← List.map_take] at this
          exact this
        have hv : (l.drop k).take 4 = Cm.le4 (Cm.sum ((l.drop bg).take m)) ↔ Fm.val4 (l.drop k) = Cm.sum ((l.drop bg).take m) := by
          rw [Fm.sum_eq_iff _ _ (by rw [List.length_take, List.length_drop]; have := HN.out; omega) (Cm.sum_lt _), val4_take _ (by rw [List.length_drop]; have := HN.out; omega)]
        have hok3 : Fm.ok l ↔ Fm.val4 (l.drop k) = Cm.sum ((l.drop bg).take m) := by
          rw [hok2, ← hbg, hv]
          exact ⟨fun h => h.2, fun h => ⟨by omega, h⟩⟩
        rw [← hbg, ← hen] at hyes
        clear hok2 hv hd1
        have hmen : en - bg = m := by omega
        have HD2 := Lib.hid hd2
        have b1 : bg ≤ en := by omega
        have b2 : en ≤ c := by omega
        have hm7 : m ≤ 1000000 := by omega
        clear hd2 hbg hrm hen
        generalize (l.drop bg).take m = P at *
        generalize Fm.val4 (l.drop k) = vv at *
        have hcase : (∃ A', (c = bg → A' = A) ∧ (¬ c = bg → A' = A.map (·.add bg)) ∧ Hid (Rd w B A' (P.map B8))) := ⟨_, fun h => if_pos h, fun h => if_neg h, HD2⟩
        clear HD2
        obtain ⟨A', hA1, hA2, HA⟩ := hcase
        have HS := Lib.hid (fun j => sumN A' P m (c - bg) B (w.drewN j) hPl.symm (HA.out.drewN j) (by omega))
        have HK := Lib.hid (fun j => clone_calls A' P (c - bg) B (w.drewN j) (HA.out.drewN j) (by exact hB) (by omega))
        rw [hPl] at HK
        have xs := Cm.sum_lt P
        generalize hsp : Cm.sum P = sp at *
        clear hsp
        have hbc : bg < c ∨ c = bg := by omega
        rcases hbc with hbc | hbc
        · have hne : ¬ c = bg := by omega
          have ha := hA2 hne
          subst ha
          clear hA1 hA2
          by_cases hvv : vv = sp
          · have hf := hyes (hok3.2 hvv)
            have HF := Lib.hid hf
            have hb0 : ((vv : Int) != (sp : Int)) = false := by rw [bne_eq_false_iff_eq]; omega
            clear hf hyes hnoo hok3
            go_enter Tryd.func64, Tryd.ntmps64
            go_wp2_with (first
              | (go_at_call 76; refine HG.out.mono ?_; rintro e w1 ⟨rfl, rfl⟩)
              | (go_at_call 77; refine HC.out.mono ?_; rintro e w2 ⟨rfl, j, rfl⟩)
              | (go_at_call 44; refine (HS.out _).mono ?_; rintro e w3 ⟨rfl, rfl⟩)
              | (go_at_call 47; refine (HK.out _).mono ?_; rintro e w4 ⟨v4, rfl, ho4, hg4⟩))
            go_ret3
            exact ⟨v4, by rw [HF.out]; rfl, by rw [HF.out, hPl]; exact ho4, (below_draw3 w _).trans (show Below w.heap.size (w.drewN _) w4 from hg4.new)⟩
          · have hf := hnoo (fun h => hvv (hok3.1 h))
            have HF := Lib.hid hf
            have hb0 : ((vv : Int) != (sp : Int)) = true := by rw [bne_iff_ne]; omega
            clear hf hyes hnoo hok3
            go_enter Tryd.func64, Tryd.ntmps64
            go_wp2_with (first
              | (go_at_call 76; refine HG.out.mono ?_; rintro e w1 ⟨rfl, rfl⟩)
              | (go_at_call 77; refine HC.out.mono ?_; rintro e w2 ⟨rfl, j, rfl⟩)
              | (go_at_call 44; refine (HS.out _).mono ?_; rintro e w3 ⟨rfl, rfl⟩)
              | (go_at_call 47; refine (HK.out _).mono ?_; rintro e w4 ⟨v4, rfl, ho4, hg4⟩))
            go_ret3
            exact ⟨_, by rw [HF.out]; rfl, by rw [HF.out]; exact World.ownsRow_nil _ _ _ _, below_draw3 _ _⟩
        · have ha := hA1 hbc
          subst ha
          have hm0 : m = 0 := by omega
          have hen0 : en = c := by omega
          subst hm0
          subst hen0
          subst hbc
          simp only [Nat.sub_self] at HS HK
          clear hA1 hA2 hmen hm' b1 b2 e3
          by_cases hvv : vv = sp
          · have hf := hyes (hok3.2 hvv)
            have HF := Lib.hid hf
            have hb0 : ((vv : Int) != (sp : Int)) = false := by rw [bne_eq_false_iff_eq]; omega
            clear hf hyes hnoo hok3
            go_enter Tryd.func64, Tryd.ntmps64
            go_wp2_with (first
              | (go_at_call 76; refine HG.out.mono ?_; rintro e w1 ⟨rfl, rfl⟩)
              | (go_at_call 77; refine HC.out.mono ?_; rintro e w2 ⟨rfl, j, rfl⟩)
              | (go_at_call 44; refine (HS.out _).mono ?_; rintro e w3 ⟨rfl, rfl⟩)
              | (go_at_call 47; refine (HK.out _).mono ?_; rintro e w4 ⟨v4, rfl, ho4, hg4⟩))
            go_ret3
            exact ⟨v4, by rw [HF.out]; rfl, by rw [HF.out, hPl]; exact ho4, (below_draw3 w _).trans (show Below w.heap.size (w.drewN _) w4 from hg4.new)⟩
          · have hf := hnoo (fun h => hvv (hok3.1 h))
            have HF := Lib.hid hf
            have hb0 : ((vv : Int) != (sp : Int)) = true := by rw [bne_iff_ne]; omega
            clear hf hyes hnoo hok3
            go_enter Tryd.func64, Tryd.ntmps64
            go_wp2_with (first
              | (go_at_call 76; refine HG.out.mono ?_; rintro e w1 ⟨rfl, rfl⟩)
              | (go_at_call 77; refine HC.out.mono ?_; rintro e w2 ⟨rfl, j, rfl⟩)
              | (go_at_call 44; refine (HS.out _).mono ?_; rintro e w3 ⟨rfl, rfl⟩)
              | (go_at_call 47; refine (HK.out _).mono ?_; rintro e w4 ⟨v4, rfl, ho4, hg4⟩))
            go_ret3
            exact ⟨_, by rw [HF.out]; rfl, by rw [HF.out]; exact World.ownsRow_nil _ _ _ _, below_draw3 _ _⟩
end Go.Proofs.YtbdiamhhlabojaaDoor
