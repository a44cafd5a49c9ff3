/- All records that bytes begin with: the document's answer. -/
import Derived.Test.YtklpmpohbhhfaaaFs
import Derived.Deep.RegionWith
namespace Go.Proofs.Ytklpmpohbhhfaaa
open Go.RowKit
set_option linter.unusedVariables false

theorem below_drew1 {B : Nat} {a w : World} (h : Below B a w) : Below B a w.drew := ⟨h.os, h.tape, h.output, h.size, h.block⟩
theorem tlS (l : List UInt8) : (S8 l).toList = l := ByteArray.toList_mk l

/-- When no record begins there, as the document asks it. -/
theorem Fm.no_ok {l : List UInt8} (h : ¬ Fm.ok l) : (Fm.first l).2.2 = false := by unfold Fm.first; rw [if_neg h]
theorem Fm.yes_ok {l : List UInt8} (h : Fm.ok l) : Fm.first l = ((l.drop ((Mi.get l).2.1 + 4)).take (Mi.get l).1, (Mi.get l).2.1 + 4 + (Mi.get l).1, true) := by unfold Fm.first; rw [if_pos h]

theorem appBn {w : World} {ty : TypeId} {base : Nat} {v : Value} {q : Nat} {k l : List UInt8} (hown : w.ownsRow base 5 1 v q (k.map B8)) {B : Nat} {A : Option Addr} {c : Nat} (hr : Rd w B A (l.map B8))
    (hl : k.length + l.length ≤ 4294967296) (hbase : base ≤ w.heap.size) (hq : q = k.length) {m : Nat} (hm : m = l.length) :
    ∃ v' w', (Builtin.append_ #[22, 22] ty #[v, .slice A m c]).run Try.prog w = .ok v' w' ∧ (w'.ownsRow base 5 1 v' (q + m) ((k ++ l).map B8) ∧ Grew w w' v v') := by
  subst hm
  subst hq
  obtain ⟨v', w', h1, h2, h3⟩ := appB (ty := ty) hown hr hl hbase (c := c)
  exact ⟨v', w', h1, by rw [List.length_append] at h2; exact h2, h3⟩
theorem rgetN (A : Option Addr) (l : List UInt8) (n c B : Nat) (w : World) (hn : n = l.length) (hb : Rd w B A (l.map B8)) (hl : l.length ≤ 140737488355328) :
    Calls Try.prog 14 #[.slice A n c] w fun e w' => e = .returned (.tuple #[.int .u64 (Mi.get l).1, .int .i64 (Mi.get l).2.1, .bool (Mi.get l).2.2]) ∧ w = w' := by
  subst hn; exact rget_calls A l c B w hb hl
theorem rsumN (A : Option Addr) (l : List UInt8) (n c B : Nat) (w : World) (hn : n = l.length) (hb : Rd w B A (l.map B8)) (hl : l.length ≤ 140737488355328) :
    Calls Try.prog 16 #[.slice A n c] w fun e w' => e = .returned (.int .u32 (Cm.sum l : Nat)) ∧ w = w' := by
  subst hn; exact rsum_calls A l c B w hb hl

set_option maxHeartbeats 4000000 in
set_option maxRecDepth 100000 in
theorem rsplit_calls (A : Option Addr) (l : List UInt8) (n c : Nat) (w : World) (hn : n = l.length) (hb : Rd w w.heap.size A (l.map B8)) (hc : n ≤ c) (hl : n ≤ 1000000) :
    Calls Try.prog 9 #[.slice A n c] w fun e w' => ∃ v', e = .returned (.tuple #[v', .int .i64 ((Fm.splits l).2 : Nat)]) ∧ Owns w' w.heap.size v' (Fm.splits l).1 ∧ Below w.heap.size w w' := by
  obtain ⟨i0_, hi_, hz0, hz1, hz2⟩ := info_parts infoB
  have HB := Lib.hid hb
  have HN := Lib.hid hn
  clear hn hb
  go_enter Try.func9, Try.ntmps9
  go_wp2
  go_loopw [4, 5] (fun o i wr => ∃ (ps : List (List UInt8)) (e f : Nat), i = .int .i64 e ∧ e ≤ n ∧ n < f + e ∧ ps.length ≤ e ∧ Hid (Fm.splits l = (ps ++ (Fm.split f (l.drop e)).1, e + (Fm.split f (l.drop e)).2)) ∧ Hid (Owns wr w.heap.size o ps) ∧ Hid (Below w.heap.size w wr)) (fun _ i _ => n - (intOf i).toNat)
  case atStart => exact ⟨[], 0, n + 1, rfl, by omega, by omega, by simp, by rw [HN.out]; simp [Fm.splits, Hid], Owns.nil _ _, Below.refl _ _⟩
  case round =>
    obtain ⟨ps, e, f, rfl, he, hf, hps, HE, HO, HW⟩ := hrel
    have hws := HW.out.size
    have hno : ¬ Fm.ok (l.drop e) → Fm.splits l = (ps, e) := fun h => by rw [HE.out, Fm.split_no f _ (Fm.no_ok h)]; simp
    by_cases hen : e < n
    · obtain ⟨b0, o0, hA0, _, _⟩ := HB.out.plain (by have := HN.out; omega)
      subst hA0
      have hce : ¬ c = e := by omega
      have hd := ((HB.out.below HW.out).drop (k := e) (cap := c) (by simp; have := HN.out; omega))
      rw [← List.map_drop, if_neg hce] at hd
      simp only [Option.map_some, Addr.add_lit] at hd
      have hdl : (l.drop e).length = n - e := by rw [List.length_drop]; have := HN.out; omega
      have HG := Lib.hid (rgetN _ (l.drop e) (n - e) (c - e) _ wr hdl.symm hd (by omega))
      have hgn := Mi.getAux_no (l.drop e) 0 0
      rw [show Mi.getAux 0 0 (l.drop e) = Mi.get (l.drop e) from rfl] at hgn
      have hk := Mi.get_len (l.drop e)
      have hlt := Mi.get_lt (l.drop e)
      have hok : Fm.ok (l.drop e) ↔ ((Mi.get (l.drop e)).2.2 = true ∧ (Mi.get (l.drop e)).2.1 + 4 + (Mi.get (l.drop e)).1 ≤ (l.drop e).length ∧ ((l.drop e).drop (Mi.get (l.drop e)).2.1).take 4 = Cm.le4 (Cm.sum (((l.drop e).drop ((Mi.get (l.drop e)).2.1 + 4)).take (Mi.get (l.drop e)).1))) := Iff.rfl
      have hyes := fun h => Fm.yes_ok (l := l.drop e) h
      obtain ⟨⟨m, k, g⟩, hg⟩ : ∃ x, x = Mi.get (l.drop e) := ⟨_, rfl⟩
      rw [← hg] at HG hgn hk hlt hok hyes
      simp only at HG hgn hk hlt hok hyes
      clear hg
      rw [hdl] at hk hok
      have e1 : (n : Int) - (e : Int) - (k : Int) = ((n - e - k : Nat) : Int) := by omega
      rcases g with _ | _
      · have h := hgn rfl
        simp only [Prod.mk.injEq] at h
        obtain ⟨rfl, rfl, _⟩ := h
        have HF := Lib.hid (hno (by rw [hok]; simp))
        clear hok hyes hno hgn e1 hd hdl
        go_wp2_with (go_at_call 14; refine HG.out.mono ?_; rintro e w1 ⟨rfl, rfl⟩)
        go_ret2
        exact ⟨_, by rw [HF.out]; rfl, by rw [HF.out]; exact HO.out, HW.out⟩
      · have hok2 : Fm.ok (l.drop e) ↔ (k + 4 + m ≤ n - e ∧ ((l.drop e).drop k).take 4 = Cm.le4 (Cm.sum (((l.drop e).drop (k + 4)).take m))) := by rw [hok]; simp
        clear hok hgn
        by_cases h4 : n - e - k < 4
        · have HF := Lib.hid (hno (by rw [hok2]; omega))
          have h4' : (n : Int) - (e : Int) - (k : Int) - 4 < 0 := by omega
          clear hok2 hyes hno hd hdl e1
          go_wp2_with (go_at_call 14; refine HG.out.mono ?_; rintro e w1 ⟨rfl, rfl⟩)
          go_ret2
          exact ⟨_, by rw [HF.out]; rfl, by rw [HF.out]; exact HO.out, HW.out⟩
        · obtain ⟨rm, hrm⟩ : ∃ rm, rm = n - e - k - 4 := ⟨_, rfl⟩
          have e2 : (n : Int) - (e : Int) - (k : Int) - 4 = (rm : Int) := by omega
          have hrm2 : rm ≤ 1000000 := by omega
          clear e1
          by_cases hm : rm < m
          · have HF := Lib.hid (hno (by rw [hok2]; omega))
            have hm' : (rm : Int) < (m : Int) := by omega
            clear hok2 hyes hno hd hdl hrm
            go_wp2_with (go_at_call 14; refine HG.out.mono ?_; rintro e w1 ⟨rfl, rfl⟩)
            go_ret2
            exact ⟨_, by rw [HF.out]; rfl, by rw [HF.out]; exact HO.out, HW.out⟩
          · have hm' : ¬ (rm : Int) < (m : Int) := by omega
            obtain ⟨ek, hek⟩ : ∃ ek, ek = e + k := ⟨_, rfl⟩
            have f1 : (e : Int) + (k : Int) = (ek : Int) := by omega
            obtain ⟨bg, hbg⟩ : ∃ bg, bg = ek + 4 := ⟨_, rfl⟩
            have f2 : (ek : Int) + 4 = (bg : Int) := by omega
            obtain ⟨en, hen⟩ : ∃ en, en = bg + m := ⟨_, rfl⟩
            have f3 : (bg : Int) + (m : Int) = (en : Int) := by omega
            have hkc : ¬ c = ek := by omega
            have s1 : IntKind.i64.wrap ((e : Int) + (k : Int)) = (ek : Int) := by rw [f1, IntKind.wrap_i64]; omega
            have s2' : IntKind.i64.wrap ((ek : Int) + 4) = (bg : Int) := by rw [f2, IntKind.wrap_i64]; omega
            have s3' : IntKind.i64.wrap (ek : Int) = (ek : Int) := by rw [IntKind.wrap_i64]; omega
            have s4' : IntKind.i64.wrap (bg : Int) = (bg : Int) := by rw [IntKind.wrap_i64]; omega
            have t1 : (0 : Int) ≤ (ek : Int) := by omega
            have t2 : (ek : Int) ≤ (bg : Int) := by omega
            have t3 : (bg : Int) ≤ (c : Int) := by omega
            have t4 : (0 : Int) ≤ (bg : Int) := by omega
            have hb4 : bg - ek = 4 := by omega
            have hem : en - bg = m := by omega
            have g1 : ek ≤ bg := by omega
            have g2 : bg ≤ en := by omega
            have g3 : en ≤ n := by omega
            have g4 : en ≤ c := by omega
            have g5 : bg ≤ c := by omega
            have hm7 : m ≤ 1000000 := by omega
            have hPl : ((l.drop bg).take m).length = m := by rw [List.length_take, List.length_drop]; have := HN.out; omega
            have hQl : ((l.drop ek).take 4).length = 4 := by rw [List.length_take, List.length_drop]; have := HN.out; omega
            have hok3 : Fm.ok (l.drop e) ↔ (l.drop ek).take 4 = Cm.le4 (Cm.sum ((l.drop bg).take m)) := by
              rw [hok2, List.drop_drop, List.drop_drop, ← hek, show e + (k + 4) = bg from by omega]
              exact ⟨fun h => h.2, fun h => ⟨by omega, h⟩⟩
            rw [List.drop_drop, show e + (k + 4) = bg from by omega] at hyes
            have hd1 := ((HB.out.below HW.out).drop (k := ek) (cap := c) (by simp; have := HN.out; omega)).take 4
            rw [← List.map_drop, ← List.map_take, if_neg hkc] at hd1
            simp only [Option.map_some, Addr.add_lit] at hd1
            have hd2 := ((HB.out.below HW.out).drop (k := bg) (cap := c) (by simp; have := HN.out; omega)).take m
            rw [← List.map_drop, ← List.map_take] at hd2
            have hcv := fun W (h : Below w.heap.size wr W) => run_str (P := Try.prog) 22 5 9 Try.underlying22 Try.underlying5 Try.underlying9 (w := W) (hd1.below h) 4 (c - ek) hQl.symm
            obtain ⟨s2, hs2⟩ : ∃ s2, s2 = S8 ((l.drop ek).take 4) := ⟨_, rfl⟩
            rw [← hs2] at hcv
            have HC := Lib.hid (fun W (h : Below wr.heap.size wr W) => hcv W (h.mono hws))
            have HS2 := Lib.hid hs2
            clear hok2 hd1 hcv hs2 hd hdl
            generalize (l.drop ek).take 4 = Q at *
            generalize (l.drop bg).take m = P at *
            have hcase : (∃ A', (c = bg → A' = some ⟨b0, o0, none⟩) ∧ (¬ c = bg → A' = some ⟨b0, o0 + bg, none⟩) ∧ Hid (Rd wr w.heap.size A' (P.map B8))) := ⟨_, fun h => if_pos h, fun h => by rw [if_neg h]; simp only [Option.map_some, Addr.add_lit], hd2⟩
            clear hd2
            obtain ⟨A', hA1, hA2, HA⟩ := hcase
            have HS := Lib.hid (fun W (h : Below wr.heap.size wr W) => rsumN A' P m (c - bg) _ W hPl.symm (HA.out.below (h.mono hws)) (by omega))
            have xs := Cm.sum_lt P
            generalize hsp : Cm.sum P = sp at *
            clear hsp
            have HPL := Lib.hid hPl
            clear hPl
            have HEK := Lib.hid hek
            have HBG := Lib.hid hbg
            have HEN := Lib.hid hen
            have hef : e < en := by omega
            have hene : en = e + (k + 4 + m) := by omega
            have HENE := Lib.hid hene
            have hbc : bg < c ∨ c = bg := by omega
            rcases hbc with hbc | hbc
            · have hne : ¬ c = bg := by omega
              have ha := hA2 hne
              subst ha
              clear hA1 hA2
              by_cases hQ : Q = Cm.le4 sp
              · clear hrm hek hbg hen hene
                have HE2 : Hid (Fm.splits l = ((ps ++ [P]) ++ (Fm.split (f - 1) (l.drop en)).1, en + (Fm.split (f - 1) (l.drop en)).2)) := by
                  have h1 := hyes (hok3.2 hQ)
                  have h2 := Fm.split_yes (f - 1) (l.drop e) (by rw [h1])
                  rw [show f - 1 + 1 = f from by omega, h1] at h2
                  simp only at h2
                  rw [HE.out, h2, List.drop_drop, ← HENE.out]
                  simp [Hid]; omega
                have q8 : ((S8 (Cm.le4 sp)).toList == s2.toList) = true := by rw [HS2.out, hQ]; simp
                clear hyes hno hok3
                go_wp2_with (go_at_call 14; refine HG.out.mono ?_; rintro e w1 ⟨rfl, rfl⟩)
                have kA := HC.out wr (Below.refl _ _)
                have kB := HC.out wr.drew (below_drew1 (Below.refl _ _))
                go_region_with
                  ((first
                    | (go_at_call 16; refine (HS.out _ (by first | exact Below.refl _ _ | exact below_drew1 (Below.refl _ _))).mono ?_; rintro e w4 ⟨rfl, rfl⟩)
                    | (go_at_call 15; refine (four_calls sp _ xs).mono ?_; rintro e w5 ⟨v5, rfl, ho5, hg5⟩; have B5 : Hid (Below wr.heap.size wr w5) := (by first | exact hg5.new | exact (grew_drew hg5).new); obtain ⟨A5, c5, rfl, hc5, hr5⟩ := own_rd ho5; have k5 := run_str (P := Try.prog) 22 5 9 Try.underlying22 Try.underlying5 Try.underlying9 hr5 (Cm.le4 sp).length c5 rfl; have k6 := run_str (P := Try.prog) 22 5 9 Try.underlying22 Try.underlying5 Try.underlying9 (w := w5.drew) hr5 (Cm.le4 sp).length c5 rfl; have kC := HC.out w5 B5.out; have kD := HC.out w5.drew (below_drew1 B5.out); clear ho5 hg5 hr5)))
                all_goals
                  have O5 := Lib.hid (HO.out.below B5.out)
                  have W5 := Lib.hid (HW.out.trans (B5.out.mono hws))
                  have z5 := W5.out.size
                  have P5 := Lib.hid (HA.out.below (B5.out.mono hws))
                  go_wp2_with (first
                    | (at_builtin; refine wpList_app rfl (.const (.slice none 0 0)) (.tmp 71) _ _ rfl rfl rfl (appBn (k := []) (World.ownsRow_nil _ w5.heap.size _ _) P5.out (by have := HPL.out; simp only [List.length_nil]; omega) (Nat.le_refl _) rfl HPL.out.symm) ?_; rintro v7 w7 ⟨ho7, hg7⟩; rw [Nat.zero_add, List.nil_append] at ho7; have b7 := hg7.new; have W7 := Lib.hid (W5.out.trans (b7.mono z5)); have z7 := W7.out.size; have O7 := Lib.hid (O5.out.below b7); have p7 := Lib.hid (show w7.ownsRow w.heap.size 5 1 v7 P.length (P.map B8) from by rw [HPL.out]; exact own_mono ho7 z5); obtain ⟨A7, c7, rfl, _, _⟩ := own_rd ho7; clear ho7 hg7 b7)
                    | (at_builtin; refine wpList_app rfl (.tmp 70) (.tmp 73) _ _ rfl rfl rfl (appO (O7.out.below ((Below.refl _ _).alloc (Nat.le_refl _) _)) (own_below p7.out ((Below.refl _ _).alloc (Nat.le_refl _) _)) (Rd.one w7 _ _) (by omega) (by simp; omega)) ?_; rintro v8 w8 ⟨ho8, hg8⟩; have W8 := Lib.hid (hg8.alloc.below W7.out z7 O7.out.own_ge); have O8 := Lib.hid ho8; clear ho8 hg8))
                  go_roundw
                  case rel => exact ⟨ps ++ [P], en, f - 1, by go_num, by omega, by omega, by simp; omega, HE2, O8, W8⟩
                  case measure => simp [intOf]; omega
              · clear hrm hek hbg hen hene
                have HF := Lib.hid (hno (fun h => hQ (hok3.1 h)))
                have q8 : ((S8 (Cm.le4 sp)).toList == s2.toList) = false := by rw [HS2.out, tlS, tlS, beq_eq_false_iff_ne]; exact fun h => hQ h.symm
                clear hyes hno hok3
                go_wp2_with (go_at_call 14; refine HG.out.mono ?_; rintro e w1 ⟨rfl, rfl⟩)
                have kA := HC.out wr (Below.refl _ _)
                have kB := HC.out wr.drew (below_drew1 (Below.refl _ _))
                go_region_with
                  ((first
                    | (go_at_call 16; refine (HS.out _ (by first | exact Below.refl _ _ | exact below_drew1 (Below.refl _ _))).mono ?_; rintro e w4 ⟨rfl, rfl⟩)
                    | (go_at_call 15; refine (four_calls sp _ xs).mono ?_; rintro e w5 ⟨v5, rfl, ho5, hg5⟩; have B5 : Hid (Below wr.heap.size wr w5) := (by first | exact hg5.new | exact (grew_drew hg5).new); obtain ⟨A5, c5, rfl, hc5, hr5⟩ := own_rd ho5; have k5 := run_str (P := Try.prog) 22 5 9 Try.underlying22 Try.underlying5 Try.underlying9 hr5 (Cm.le4 sp).length c5 rfl; have k6 := run_str (P := Try.prog) 22 5 9 Try.underlying22 Try.underlying5 Try.underlying9 (w := w5.drew) hr5 (Cm.le4 sp).length c5 rfl; have kC := HC.out w5 B5.out; have kD := HC.out w5.drew (below_drew1 B5.out); clear ho5 hg5 hr5)))
                all_goals
                  go_wp2
                  go_ret2
                  exact ⟨_, by rw [HF.out]; rfl, by rw [HF.out]; exact (HO.out.below B5.out), HW.out.trans (B5.out.mono hws)⟩
            · have ha := hA1 hbc
              subst ha
              have hm0 : m = 0 := by omega
              have hen0 : en = c := by omega
              subst hm0
              subst hen0
              subst hbc
              simp only [Nat.sub_self] at HS
              rw [hb4] at HC
              clear hA1 hA2 hem hm' f3
              by_cases hQ : Q = Cm.le4 sp
              · clear hrm hek hbg hen hene
                have HE2 : Hid (Fm.splits l = ((ps ++ [P]) ++ (Fm.split (f - 1) (l.drop en)).1, en + (Fm.split (f - 1) (l.drop en)).2)) := by
                  have h1 := hyes (hok3.2 hQ)
                  have h2 := Fm.split_yes (f - 1) (l.drop e) (by rw [h1])
                  rw [show f - 1 + 1 = f from by omega, h1] at h2
                  simp only at h2
                  rw [HE.out, h2, List.drop_drop, ← HENE.out]
                  simp [Hid]; omega
                have q8 : ((S8 (Cm.le4 sp)).toList == s2.toList) = true := by rw [HS2.out, hQ]; simp
                clear hyes hno hok3
                go_wp2_with (go_at_call 14; refine HG.out.mono ?_; rintro e w1 ⟨rfl, rfl⟩)
                have kA := HC.out wr (Below.refl _ _)
                have kB := HC.out wr.drew (below_drew1 (Below.refl _ _))
                go_region_with
                  ((first
                    | (go_at_call 16; refine (HS.out _ (by first | exact Below.refl _ _ | exact below_drew1 (Below.refl _ _))).mono ?_; rintro e w4 ⟨rfl, rfl⟩)
                    | (go_at_call 15; refine (four_calls sp _ xs).mono ?_; rintro e w5 ⟨v5, rfl, ho5, hg5⟩; have B5 : Hid (Below wr.heap.size wr w5) := (by first | exact hg5.new | exact (grew_drew hg5).new); obtain ⟨A5, c5, rfl, hc5, hr5⟩ := own_rd ho5; have k5 := run_str (P := Try.prog) 22 5 9 Try.underlying22 Try.underlying5 Try.underlying9 hr5 (Cm.le4 sp).length c5 rfl; have k6 := run_str (P := Try.prog) 22 5 9 Try.underlying22 Try.underlying5 Try.underlying9 (w := w5.drew) hr5 (Cm.le4 sp).length c5 rfl; have kC := HC.out w5 B5.out; have kD := HC.out w5.drew (below_drew1 B5.out); clear ho5 hg5 hr5)))
                all_goals
                  have O5 := Lib.hid (HO.out.below B5.out)
                  have W5 := Lib.hid (HW.out.trans (B5.out.mono hws))
                  have z5 := W5.out.size
                  have P5 := Lib.hid (HA.out.below (B5.out.mono hws))
                  go_wp2_with (first
                    | (at_builtin; refine wpList_app rfl (.const (.slice none 0 0)) (.tmp 71) _ _ rfl rfl rfl (appBn (k := []) (World.ownsRow_nil _ w5.heap.size _ _) P5.out (by have := HPL.out; simp only [List.length_nil]; omega) (Nat.le_refl _) rfl HPL.out.symm) ?_; rintro v7 w7 ⟨ho7, hg7⟩; rw [Nat.zero_add, List.nil_append] at ho7; have b7 := hg7.new; have W7 := Lib.hid (W5.out.trans (b7.mono z5)); have z7 := W7.out.size; have O7 := Lib.hid (O5.out.below b7); have p7 := Lib.hid (show w7.ownsRow w.heap.size 5 1 v7 P.length (P.map B8) from by rw [HPL.out]; exact own_mono ho7 z5); obtain ⟨A7, c7, rfl, _, _⟩ := own_rd ho7; clear ho7 hg7 b7)
                    | (at_builtin; refine wpList_app rfl (.tmp 70) (.tmp 73) _ _ rfl rfl rfl (appO (O7.out.below ((Below.refl _ _).alloc (Nat.le_refl _) _)) (own_below p7.out ((Below.refl _ _).alloc (Nat.le_refl _) _)) (Rd.one w7 _ _) (by omega) (by simp; omega)) ?_; rintro v8 w8 ⟨ho8, hg8⟩; have W8 := Lib.hid (hg8.alloc.below W7.out z7 O7.out.own_ge); have O8 := Lib.hid ho8; clear ho8 hg8))
                  go_roundw
                  case rel => exact ⟨ps ++ [P], en, f - 1, by go_num, by omega, by omega, by simp; omega, HE2, O8, W8⟩
                  case measure => simp [intOf]; omega
              · clear hrm hek hbg hen hene
                have HF := Lib.hid (hno (fun h => hQ (hok3.1 h)))
                have q8 : ((S8 (Cm.le4 sp)).toList == s2.toList) = false := by rw [HS2.out, tlS, tlS, beq_eq_false_iff_ne]; exact fun h => hQ h.symm
                clear hyes hno hok3
                go_wp2_with (go_at_call 14; refine HG.out.mono ?_; rintro e w1 ⟨rfl, rfl⟩)
                have kA := HC.out wr (Below.refl _ _)
                have kB := HC.out wr.drew (below_drew1 (Below.refl _ _))
                go_region_with
                  ((first
                    | (go_at_call 16; refine (HS.out _ (by first | exact Below.refl _ _ | exact below_drew1 (Below.refl _ _))).mono ?_; rintro e w4 ⟨rfl, rfl⟩)
                    | (go_at_call 15; refine (four_calls sp _ xs).mono ?_; rintro e w5 ⟨v5, rfl, ho5, hg5⟩; have B5 : Hid (Below wr.heap.size wr w5) := (by first | exact hg5.new | exact (grew_drew hg5).new); obtain ⟨A5, c5, rfl, hc5, hr5⟩ := own_rd ho5; have k5 := run_str (P := Try.prog) 22 5 9 Try.underlying22 Try.underlying5 Try.underlying9 hr5 (Cm.le4 sp).length c5 rfl; have k6 := run_str (P := Try.prog) 22 5 9 Try.underlying22 Try.underlying5 Try.underlying9 (w := w5.drew) hr5 (Cm.le4 sp).length c5 rfl; have kC := HC.out w5 B5.out; have kD := HC.out w5.drew (below_drew1 B5.out); clear ho5 hg5 hr5)))
                all_goals
                  go_wp2
                  go_ret2
                  exact ⟨_, by rw [HF.out]; rfl, by rw [HF.out]; exact (HO.out.below B5.out), HW.out.trans (B5.out.mono hws)⟩
    · have hen2 : n = e := by omega
      have HF := Lib.hid (hno (fun h => by have := h.2.1; rw [List.length_drop] at this; have := HN.out; omega))
      clear hno
      go_wp2
      go_ret2
      exact ⟨_, by rw [HF.out]; rfl, by rw [HF.out]; exact HO.out, HW.out⟩
end Go.Proofs.Ytklpmpohbhhfaaa
