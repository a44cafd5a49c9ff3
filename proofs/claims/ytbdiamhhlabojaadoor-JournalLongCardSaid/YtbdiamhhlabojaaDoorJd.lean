/- journal.Open: segments of whole records. -/
import Derived.Test.YtbdiamhhlabojaaDoorJc
namespace Go.Proofs.YtbdiamhhlabojaaDoor
open Go.RowKit
set_option linter.unusedVariables false
set_option linter.unusedSimpArgs false
set_option maxRecDepth 100000

theorem recs_ge : ∀ ps : List (List UInt8), ps.length ≤ (Fm.recs ps).length
  | [] => by simp
  | a :: r => by
    have e : Fm.recs (a :: r) = Fm.rec a ++ Fm.recs r := by simp [Fm.recs]
    have h1 := Fm.rec_len a
    have h3 := recs_ge r
    rw [e, List.length_append, List.length_cons]
    omega
theorem splits_recs (ps : List (List UInt8)) (h : ∀ p ∈ ps, p.length < 18446744073709551616) : Fm.splits (Fm.recs ps) = (ps, (Fm.recs ps).length) := by
  unfold Fm.splits
  have h1 := Fm.split_recs ps ((Fm.recs ps).length + 1) [] (by have := recs_ge ps; omega) h (by rw [Fm.first_nil])
  rwa [List.append_nil] at h1
/-- All of another row, appended. -/
theorem appOs {w : World} {ty : TypeId} {base n2 c2 : Nat} {v : Value} {A2 : Option Addr} {ls ls2 : List (List UInt8)} (h : Owns w base v ls) (h2 : Owns w base (.slice A2 n2 c2) ls2) (hn2 : n2 = ls2.length) (hl : ls.length + ls2.length ≤ 4294967296) (hbase : base ≤ w.heap.size) :
    ∃ v' w', (Builtin.append_ #[22, 22] ty #[v, .slice A2 n2 c2]).run Tryd.prog w = .ok v' w' ∧ (Owns w' base v' (ls ++ ls2) ∧ Grew w w' v v') := by
  subst hn2
  obtain ⟨i0, hi, hz0, hz1, hz2⟩ := info_parts infoS
  obtain ⟨vs, h1, hone, h3⟩ := h
  obtain ⟨vs2, g1, gone, g3⟩ := h2
  have e1 : vs.length = ls.length := by have := h1.1; omega
  have e2 : vs2.length = ls2.length := by have := g1.1; omega
  obtain ⟨v', w', r1, r2, r3⟩ := run_append_rd (P := Tryd.prog) w base 22 ty 30 i0 _ 1 24 Tryd.underlying22 hi hz0 hz1 hz2 rfl v ls.length vs h1 w.heap.size A2 ls2.length c2 vs2 (by omega) (Rd.of_own g1) gone (by unfold maxLen; omega) (by omega) hbase
  refine ⟨v', w', r1, ⟨vs ++ vs2, by rw [List.length_append]; exact r2, ?_, ?_⟩, r3⟩
  · intro u hu
    rcases List.mem_append.1 hu with hu | hu
    · exact hone u hu
    · exact gone u hu
  · intro i u m hu hm
    rcases Nat.lt_or_ge i ls.length with hi | hi
    · rw [List.getElem?_append_left (by omega)] at hu
      rw [List.getElem?_append_left hi] at hm
      exact own_grew (h3 i u m hu hm) r3 (own_apart (h3 i u m hu hm) h1 (by decide))
    · rw [List.getElem?_append_right (by omega)] at hu
      rw [List.getElem?_append_right hi] at hm
      rw [show i - vs.length = i - ls.length by omega] at hu
      exact own_grew (g3 _ u m hu hm) r3 (own_apart (g3 _ u m hu hm) h1 (by decide))
theorem Owns.ne {w : World} {base jb D : Nat} {v : Value} {ls : List (List UInt8)} {first at_ : Int} (h : Owns w base v ls) (hj : JAt w jb D first at_) : v.ownBlock ≠ some jb := by
  obtain ⟨vs, h1, _⟩ := h
  exact own_ne h1 hj (by decide)
theorem Owns.aside {w : World} {base jb D : Nat} {v : Value} {ls : List (List UInt8)} {first at_ : Int} (h : Owns w base v ls) (hj : JAt w jb D first at_) (j : Nat) (u : Value) : Owns (w.setCell ⟨jb, j, none⟩ u) base v ls := by
  obtain ⟨vs, h1, h2, h3⟩ := h
  exact ⟨vs, own_aside h1 (own_ne h1 hj (by decide)) _ _, h2, fun i x l hx hl => own_aside (h3 i x l hx hl) (own_ne (h3 i x l hx hl) hj (by decide)) _ _⟩
/-- Where a journal goes on behind its first i segments. -/
def atO (f0 : Nat) (ps : List (List (List UInt8))) : Nat → Int
  | 0 => f0
  | i + 1 => if 2000 ≤ (Fm.recs (ps.getD i [])).length then (f0 : Int) + i + 1 else (f0 : Int) + i
set_option maxHeartbeats 4000000 in
theorem open_any (base D : Nat) (f0 : Nat) (ps : List (List (List UInt8))) (m : Mp) (us room : Int) (n t : Nat) (S : Nat → Prop) (w : World) (h : DvN w base D m us room n S) (hn : n ≤ 900000) (ht : t = ps.length) (hft : f0 + t < 99)
    (hseg : ∀ i q, ps[i]? = some q → (∃ su, m (nmJ (f0 + i)) = some (Fm.recs q, su)) ∧ (Fm.recs q).length ≤ 1000000 ∧ ∀ p ∈ q, p.length < 18446744073709551616) (hend : m (nmJ (f0 + t)) = none) (hall : (ps.flatMap id).length ≤ 1000000) :
    Calls Tryd.prog 11 #[.pointer (some ⟨D, 0, none⟩), .int .i64 (f0 : Int)] w fun e w' => ∃ v, e = .returned (.tuple #[.pointer (some ⟨w.heap.size, 0, none⟩), v]) ∧ Owns w' w.heap.size v (ps.flatMap id) ∧ JAt w' w.heap.size D f0 (atO f0 ps t) ∧ Below w.heap.size w w' := by
  have HD := Lib.hid h
  have HT := Lib.hid ht
  have HSEG := Lib.hid hseg
  have HEND := Lib.hid hend
  have HALL := Lib.hid hall
  have b1 : max (f0 : Int) 0 = (f0 : Int) := by omega
  have b2 : min (f0 : Int) 1099511627776 = (f0 : Int) := by omega
  have HJ0 : Hid (JAt (w.alloc (.cells #[.pointer (some ⟨D, 0, none⟩), .int .i64 (f0 : Int), .int .i64 (f0 : Int)] 72)) w.heap.size D f0 (atO f0 ps 0)) := Lib.hid (heap_alloc_new w _)
  clear h ht hseg hend hall
  go_enter Tryd.func11, Tryd.ntmps11
  go_wp2_with fail
  obtain ⟨jb, hjb⟩ : ∃ jb, jb = w.heap.size := ⟨_, rfl⟩
  have HJB := Lib.hid hjb
  have HB0 : Hid (Below w.heap.size w (w.alloc (.cells #[.pointer (some ⟨D, 0, none⟩), .int .i64 (f0 : Int), .int .i64 (f0 : Int)] 72))) := Lib.hid ((Below.refl _ _).alloc (Nat.le_refl _) _)
  rw [← hjb] at HJ0 HB0 ⊢
  clear hjb b1 b2
  go_loopw [7, 8] (fun v iv wr => ∃ i : Nat, iv = .int .i64 ((f0 + i : Nat) : Int) ∧ i ≤ t ∧ Hid (Owns wr jb v ((ps.take i).flatMap id)) ∧ Hid (JAt wr jb D f0 (atO f0 ps i)) ∧ Hid (Below jb w wr)) (fun _ iv _ => f0 + t - (intOf iv).toNat)
  case atStart => exact ⟨0, rfl, Nat.zero_le _, Lib.hid (Owns.nil _ _), HJ0, HB0⟩
  case round =>
    obtain ⟨i, rfl, hi, HO, HJ, HB⟩ := hrel
    clear HJ0 HB0
    obtain ⟨N, hN⟩ : ∃ N, N = f0 + i := ⟨_, rfl⟩
    have HNI := Lib.hid hN
    have hN99 : N ≤ 98 := by omega
    rw [← hN]
    have HDR : Hid (DvN wr base D m us room n S) := Lib.hid (HD.out.below (by have h := HB.out; rw [HJB.out] at h; exact h))
    have NA := Lib.hid (name_any N (by omega))
    by_cases hlt : i < t
    · obtain ⟨q, hq⟩ : ∃ q, ps[i]? = some q := ⟨_, List.getElem?_eq_getElem (by rw [← HT.out]; exact hlt)⟩
      obtain ⟨⟨su, hsu⟩, hx6, hp64⟩ := HSEG.out i q hq
      obtain ⟨x, hx⟩ : ∃ x, x = Fm.recs q := ⟨_, rfl⟩
      rw [← hx] at hsu hx6
      rw [← hN] at hsu
      have RD := Lib.hid (readN base D m us room n S (nmJ N) (x, su) wr HDR.out (by omega) hsu)
      obtain ⟨xl, hxl⟩ : ∃ xl, xl = x.length := ⟨_, rfl⟩
      have hxe : x.length = xl := hxl.symm
      have HSP : Hid (Fm.splits x = (q, xl)) := Lib.hid (by rw [hxl, hx]; exact splits_recs q hp64)
      have hx8 : xl ≤ 1000000 := by omega
      have HXL := Lib.hid hxl
      have HX := Lib.hid hx
      have HQ := Lib.hid hq
      have HLEN : Hid (((ps.take i).flatMap id).length + q.length ≤ 1000000) := Lib.hid (by
        have h1 : ps = ps.take i ++ q :: ps.drop (i + 1) := by
          have h2 := List.drop_eq_getElem_cons (l := ps) (i := i) (by rw [← HT.out]; exact hlt)
          have h3 : ps[i]'(by rw [← HT.out]; exact hlt) = q := (List.getElem?_eq_some_iff.1 hq).2
          rw [h3] at h2
          rw [← h2, List.take_append_drop]
        have h4 := HALL.out
        rw [h1, List.flatMap_append, List.length_append, List.flatMap_cons, List.length_append] at h4
        show _ + (id q).length ≤ _
        omega)
      clear hsu hx6 hp64 hq hx hxl hN
      go_upto_region 11 with (first
        | (go_at_call 20; (with_reducible refine RD.out.mono ?_); rintro e w2 ⟨A2, c2, rfl, ho2, hb2⟩; have HR2 : Hid (Rd w2 w2.heap.size A2 (x.map B8)) := Lib.hid (Rd.of_own ho2); have HC2 : Hid (x.length ≤ c2) := Lib.hid (own_capq ho2).1; have HJ2 := Lib.hid (show JAt w2 jb D f0 (atO f0 ps i) from (hb2.block _ HJ.out.lt).trans HJ.out); have HO2 := Lib.hid (HO.out.below hb2); have HB2 := Lib.hid (HB.out.trans (hb2.mono (Nat.le_of_lt HJ.out.lt))); clear ho2 hb2)
        | (go_at_call 21; (with_reducible refine (NA.out _).mono ?_); rintro e wn ⟨rfl, hwn⟩; subst hwn))
      have SC := Lib.hid (split_calls A2 x xl c2 w2 HXL.out HR2.out (by have := HC2.out; omega) hx8)
      rw [HSP.out] at SC
      obtain ⟨ql, hql⟩ : ∃ ql, ql = q.length := ⟨_, rfl⟩
      have HQL := Lib.hid hql
      clear hql hx8 hxe
      go_upto_region 12 with (go_at_call 39; (with_reducible refine SC.out.mono ?_); rintro e w3 ⟨v3, rfl, ho3, hb3⟩; obtain ⟨A3, c3, hv3⟩ : ∃ A3 c3, v3 = .slice A3 ql c3 := (by obtain ⟨vs, h1, _⟩ := ho3; obtain ⟨A3, c3, hv, _⟩ := own_rd h1; exact ⟨A3, c3, by rw [hv, HQL.out]⟩); subst hv3; have HO3b : Hid (Owns w3 jb (.slice A3 ql c3) q) := Lib.hid (ho3.mono (Nat.le_of_lt HJ2.out.lt)); have HJ3 := Lib.hid (show JAt w3 jb D f0 (atO f0 ps i) from (hb3.block _ HJ2.out.lt).trans HJ2.out); have HO3 := Lib.hid (HO2.out.below hb3); have HB3 := Lib.hid (HB2.out.trans (hb3.mono (Nat.le_of_lt HJ2.out.lt))); clear ho3 hb3)
      clear SC RD NA
      have APP := Lib.hid (fun ty => appOs (ty := ty) HO3.out HO3b.out HQL.out (by have := HLEN.out; omega) (Nat.le_of_lt HJ3.out.lt))
      go_upto_region 13 with (at_builtin; (refine wpList_app rfl (.tmp 42) (.tmp 43) _ _ rfl rfl rfl (APP.out _) ?_); rintro v4 w4 ⟨ho4, hg4⟩; have HO4 := Lib.hid ho4; have HJ4 := Lib.hid (show JAt w4 jb D f0 (atO f0 ps i) from (hg4.grown.block jb HJ3.out.lt (fun e => HO3.out.ne HJ3.out e.symm)).trans HJ3.out); have HB4 := Lib.hid (hg4.below HB3.out (Nat.le_of_lt HJ3.out.lt) HO3.out.own_ge); clear ho4 hg4)
      clear APP
      have cj4 : w4.cell? ⟨jb, 2, none⟩ = some (.int .i64 (atO f0 ps i)) := cell_of_row _ _ 2 _ _ (0, 0) HJ4.out
      have fj4 : w4.frozen? ⟨jb, 2, none⟩ = false := by have h := HJ4.out; unfold JAt at h; simp [World.frozen?, h]
      go_upto_region 14 with fail
      have HJ5 : Hid (JAt (w4.setCell ⟨jb, 2, none⟩ (.int .i64 (N : Int))) jb D f0 (N : Int)) := Lib.hid (heap_setCell_same w4 jb 2 _ _ _ HJ4.out)
      have HO5 := Lib.hid (HO4.out.aside HJ4.out 2 (.int .i64 (N : Int)))
      have HB5 : Hid (Below jb w (w4.setCell ⟨jb, 2, none⟩ (.int .i64 (N : Int)))) := Lib.hid (HB4.out.setCell (Nat.le_refl _) _)
      clear cj4 fj4
      generalize w4.setCell ⟨jb, 2, none⟩ (.int .i64 (N : Int)) = w5 at *
      have HAT : Hid (atO f0 ps (i + 1) = if 2000 ≤ xl then (N : Int) + 1 else (N : Int)) := Lib.hid (by
        show (if 2000 ≤ (Fm.recs (ps.getD i [])).length then (f0 : Int) + i + 1 else (f0 : Int) + i) = _
        rw [List.getD_eq_getElem?_getD, HQ.out]
        show (if 2000 ≤ (Fm.recs q).length then (f0 : Int) + i + 1 else (f0 : Int) + i) = _
        rw [← HX.out, ← HXL.out, HNI.out]
        push_cast
        rfl)
      have HFM : (ps.take (i + 1)).flatMap id = (ps.take i).flatMap id ++ q := by
        rw [List.take_add_one, HQ.out, List.flatMap_append]
        show _ ++ ([q].flatMap id) = _
        simp
      rw [← HFM] at HO5
      clear HFM
      have d0 : decide ((xl : Int) < (xl : Int)) = false := decide_eq_false (by omega)
      by_cases hfull : 2000 ≤ xl
      · have d1 : decide ((2000 : Int) ≤ (xl : Int)) = true := decide_eq_true (by omega)
        have cj5 : w5.cell? ⟨jb, 2, none⟩ = some (.int .i64 (N : Int)) := cell_of_row _ _ 2 _ _ (0, 0) HJ5.out
        have fj5 : w5.frozen? ⟨jb, 2, none⟩ = false := by have h := HJ5.out; unfold JAt at h; simp [World.frozen?, h]
        go_upto_region 7 with fail
        have HJ6 : Hid (JAt (w5.setCell ⟨jb, 2, none⟩ (.int .i64 ((N : Int) + 1))) jb D f0 ((N : Int) + 1)) := Lib.hid (heap_setCell_same w5 jb 2 _ _ _ HJ5.out)
        have HO6 := Lib.hid (HO5.out.aside HJ5.out 2 (.int .i64 ((N : Int) + 1)))
        have HB6 : Hid (Below jb w (w5.setCell ⟨jb, 2, none⟩ (.int .i64 ((N : Int) + 1)))) := Lib.hid (HB5.out.setCell (Nat.le_refl _) _)
        clear cj5 fj5
        generalize w5.setCell ⟨jb, 2, none⟩ (.int .i64 ((N : Int) + 1)) = w6 at *
        go_wp2_with fail
        go_roundw
        case rel => exact ⟨i + 1, by have h := HNI.out; subst h; go_num, by omega, HO6, Lib.hid (by have h := HJ6.out; rw [HAT.out, if_pos hfull]; exact h), HB6⟩
        case measure => have h := HNI.out; simp [intOf]; omega
      · have d1 : decide ((2000 : Int) ≤ (xl : Int)) = false := decide_eq_false (by omega)
        go_wp2_with fail
        go_roundw
        case rel => exact ⟨i + 1, by have h := HNI.out; subst h; go_num, by omega, HO5, Lib.hid (by have h := HJ5.out; rw [HAT.out, if_neg hfull]; exact h), HB5⟩
        case measure => have h := HNI.out; simp [intOf]; omega
    · obtain rfl : i = t := by omega
      have RN := Lib.hid (read_notN base D m us room n S (nmJ N) wr HDR.out (by omega) (by rw [hN]; exact HEND.out))
      clear hN
      go_wp2_with (first
        | (go_at_call 20; (with_reducible refine RN.out.mono ?_); rintro e w2 ⟨rfl, hb2⟩; have HB2 := Lib.hid hb2; clear hb2)
        | (go_at_call 21; (with_reducible refine (NA.out _).mono ?_); rintro e wn ⟨rfl, hwn⟩; subst hwn))
      go_ret2
      rw [← HJB.out]
      refine ⟨_, rfl, ?_, (HB2.out.block _ HJ.out.lt).trans HJ.out, HB.out.trans (HB2.out.mono (Nat.le_of_lt HJ.out.lt))⟩
      have h := HO.out.below HB2.out
      rw [List.take_of_length_le (Nat.le_of_eq HT.out.symm)] at h
      exact h
end Go.Proofs.YtbdiamhhlabojaaDoor
