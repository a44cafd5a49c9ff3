/- SlotsPlay: any row of calls leaves what the document says. -/
import Derived.Test.YtajpnimjkkmcmaaZs
import Derived.Test.YtajpnimjkkmcmaaAl12
import Derived.Test.YtajpnimjkkmcmaaOpE
namespace Go.Proofs.Ytajpnimjkkmcmaa
open Go.RowKit
set_option linter.unusedVariables false
set_option linter.unusedSimpArgs false
set_option maxRecDepth 100000

/-- What a call leaves. -/
def stepA (L : List Ex) (y : La) : List Ex := if y.wy = 0 then putsX y.l L else if y.wy = 1 then L.flatMap (fun x => if x.bl ≠ y.bk then [x] else []) else if y.wy = 2 then L.map (mvX y.bk y.to) else L
theorem stepA_two {L : List Ex} (h : Two L) (y : La) : Two (stepA L y) := by
  unfold stepA
  split
  · exact (puts_same y.l L h).2
  · split
    · exact two_flat h _ (fun x => by by_cases h : x.bl = y.bk <;> simp [h])
    · split
      · exact two_map h _ (fun x => by unfold mvX; split <;> exact ⟨rfl, rfl⟩)
      · exact h
theorem stepA_len (L : List Ex) (y : La) : (stepA L y).length ≤ L.length + y.l.length := by
  unfold stepA
  split
  · exact putsX_len y.l L
  · split
    · refine Nat.le_trans ?_ (Nat.le_add_right _ _)
      induction L with
      | nil => exact Nat.le_refl _
      | cons x r ih =>
        rw [List.flatMap_cons, List.length_append, List.length_cons]
        have : (if x.bl ≠ y.bk then [x] else []).length ≤ 1 := by split <;> simp
        omega
    · split
      · rw [List.length_map]; omega
      · omega
/-- Two rows of one's own of the same exemplars, held against each other. -/
theorem same_rows (A A2 : Option Addr) (n c c2 : Nat) (l : List Ex) (w : World) (hn : n = l.length) (hr : Rd w w.heap.size A (l.flatMap Ex.cells)) (hr2 : Rd w w.heap.size A2 (l.flatMap Ex.cells)) (hs : n ≤ 100000) :
    Calls Try.prog 19 #[.slice A n c, .slice A2 n c2] w fun e w' => e = .returned (.bool true) ∧ Below w.heap.size w w' := sameslots_eq A A2 n c c2 l w.heap.size w hs hn hr hr2
set_option maxHeartbeats 32000000 in
theorem play12 (lA : Option Addr) (l : List La) (n c : Nat) (sv op : ByteArray) (w : World) (hn : n = l.length) (hr : RdActs w w.heap.size lA l) : Calls Try.prog 3 #[.slice lA n c, .string sv, .string op] w fun e w' => e = .returned (.bool true) ∧ Below w.heap.size w w' := by
  have ALV := Lib.hid (fun W => alive12_calls W)
  by_cases h1 : 40 < n
  · have d1 : decide ((40 : Int) < (n : Int)) = true := decide_eq_true (by omega)
    clear hn
    go_enter Try.func3, Try.ntmps3
    go_wp2_with (go_at_call 12; (with_reducible refine (ALV.out _).mono ?_); rintro ex w1 ⟨rfl, hb1⟩; have HB1 := Lib.hid hb1; clear hb1)
    go_ret
    exact ⟨rfl, HB1.out⟩
  have d1 : decide ((40 : Int) < (n : Int)) = false := decide_eq_false (by omega)
  by_cases h2 : 50 < sv.size
  · have d2 : decide ((50 : Int) < (sv.size : Int)) = true := decide_eq_true (by omega)
    clear hn
    go_enter Try.func3, Try.ntmps3
    go_wp2_with (go_at_call 12; (with_reducible refine (ALV.out _).mono ?_); rintro ex w1 ⟨rfl, hb1⟩; have HB1 := Lib.hid hb1; clear hb1)
    go_ret
    exact ⟨rfl, HB1.out⟩
  have d2 : decide ((50 : Int) < (sv.size : Int)) = false := decide_eq_false (by omega)
  by_cases h3 : 50 < op.size
  · have d3 : decide ((50 : Int) < (op.size : Int)) = true := decide_eq_true (by omega)
    clear hn
    go_enter Try.func3, Try.ntmps3
    go_wp2_with (go_at_call 12; (with_reducible refine (ALV.out _).mono ?_); rintro ex w1 ⟨rfl, hb1⟩; have HB1 := Lib.hid hb1; clear hb1)
    go_ret
    exact ⟨rfl, HB1.out⟩
  have d3 : decide ((50 : Int) < (op.size : Int)) = false := decide_eq_false (by omega)
  have HN := Lib.hid hn
  have HR := Lib.hid hr
  have h40 : n ≤ 40 := by omega
  clear hn hr h1 h2 h3
  go_enter Try.func3, Try.ntmps3
  go_wp2_with (go_at_call 12; (with_reducible refine (ALV.out _).mono ?_); rintro ex w1 ⟨rfl, hb1⟩; have HB1 := Lib.hid hb1; clear hb1)
  clear d1 d2 d3
  go_loopw [8, 9, 10] (fun a b i wr => ∃ (k q ca cb : Nat) (Aa Ab : Option Addr) (L : List Ex), k ≤ n ∧ i = .int .i64 k ∧ a = .slice Aa q ca ∧ b = .slice Ab q cb ∧ q ≤ 20 * k ∧ Hid (q = L.length) ∧ Hid (Two L) ∧ Hid (Rd wr wr.heap.size Aa (L.flatMap Ex.cells)) ∧ Hid (Rd wr wr.heap.size Ab (L.flatMap Ex.cells)) ∧ Hid (Below w.heap.size w wr)) (fun _ _ i _ => n - (intOf i).toNat)
  case atStart => exact ⟨0, 0, 0, 0, none, none, [], Nat.zero_le _, rfl, rfl, rfl, Nat.zero_le _, Lib.hid rfl, Lib.hid (fun e => Nat.zero_le _), Lib.hid Rd.nil, Lib.hid Rd.nil, HB1⟩
  case round =>
    obtain ⟨k, q, ca, cb, Aa, Ab, L, hk, rfl, rfl, rfl, hqk, HQ, HT, HRA, HRB, HB⟩ := hrel
    have hws := HB.out.size
    by_cases hlt : k < n
    · obtain ⟨y, hy⟩ : ∃ y, l[k]? = some y := ⟨l[k]'(by rw [← HN.out]; exact hlt), List.getElem?_eq_getElem _⟩
      obtain ⟨a, rfl, hab, hcc, hre⟩ := act_at (HR.out.below HB.out) hy
      have a0 : wr.cell? (a.add (k * 4)) = some (.int .i64 y.wy) := hcc 0 _ rfl
      have a1 : wr.cell? ⟨(a.add (k * 4)).block, (a.add (k * 4)).off + 1, none⟩ = some (.int .i64 y.bk) := cell_far (hcc 1 _ rfl) (by decide)
      have a2 : wr.cell? ⟨(a.add (k * 4)).block, (a.add (k * 4)).off + 2, none⟩ = some (.int .i64 y.to) := cell_far (hcc 2 _ rfl) (by decide)
      have a3 : wr.cell? ⟨(a.add (k * 4)).block, (a.add (k * 4)).off + 3, none⟩ = some (.slice y.A y.l.length y.c) := cell_far (hcc 3 _ rfl) (by decide)
      have i1 : (k : Int) < (n : Int) := by omega
      have i0 : (0 : Int) ≤ (k : Int) := by omega
      obtain ⟨m, hm⟩ : ∃ m, m = y.l.length := ⟨_, rfl⟩
      have HM := Lib.hid hm
      rw [← hm] at a3
      have HRE := Lib.hid (hre.more hws)
      clear hm hy hre
      by_cases c20 : 20 < m
      · have d4 : decide ((20 : Int) < (m : Int)) = true := decide_eq_true (by omega)
        clear hcc
        go_wp2_with fail
        go_ret
        exact ⟨rfl, HB.out⟩
      have d4 : decide ((20 : Int) < (m : Int)) = false := decide_eq_false (by omega)
      have HT2 := Lib.hid (stepA_two HT.out y)
      have HL2 := Lib.hid (stepA_len L y)
      have hq800 : q ≤ 800 := by omega
      have HCC := Lib.hid (fun V (hV : Below wr.heap.size wr V) => (show V.cell? (a.add (k * 4)) = some (.int .i64 y.wy) ∧ V.cell? ⟨(a.add (k * 4)).block, (a.add (k * 4)).off + 1, none⟩ = some (.int .i64 y.bk) ∧ V.cell? ⟨(a.add (k * 4)).block, (a.add (k * 4)).off + 2, none⟩ = some (.int .i64 y.to) ∧ V.cell? ⟨(a.add (k * 4)).block, (a.add (k * 4)).off + 3, none⟩ = some (.slice y.A m y.c) from
        have hal : (a.add (k * 4)).block < wr.heap.size := by rw [block_add]; omega
        ⟨(hV.cell hal).trans a0, (hV.cell (p := ⟨_, _, none⟩) hal).trans a1, (hV.cell (p := ⟨_, _, none⟩) hal).trans a2, (hV.cell (p := ⟨_, _, none⟩) hal).trans a3⟩))
      have HREL := Lib.hid (fun (V : World) (A2 A3 : Option Addr) (n2 c2 c3 : Nat) (h1 : n2 = (stepA L y).length) (h2 : Rd V V.heap.size A2 ((stepA L y).flatMap Ex.cells)) (h3 : Rd V V.heap.size A3 ((stepA L y).flatMap Ex.cells)) (hV : Below wr.heap.size wr V) =>
        (show ∃ (k' q ca cb : Nat) (Aa Ab : Option Addr) (L : List Ex), k' ≤ n ∧ Value.int .i64 ((k : Int) + 1) = .int .i64 k' ∧ Value.slice A2 n2 c2 = .slice Aa q ca ∧ Value.slice A3 n2 c3 = .slice Ab q cb ∧ q ≤ 20 * k' ∧ Hid (q = L.length) ∧ Hid (Two L) ∧ Hid (Rd V V.heap.size Aa (L.flatMap Ex.cells)) ∧ Hid (Rd V V.heap.size Ab (L.flatMap Ex.cells)) ∧ Hid (Below w.heap.size w V) from
          ⟨k + 1, n2, c2, c3, A2, A3, stepA L y, by omega, by go_num, rfl, rfl, by have := HL2.out; have := HM.out; have := HQ.out; omega, Lib.hid h1, HT2, Lib.hid h2, Lib.hid h3, Lib.hid (HB.out.trans (hV.mono hws))⟩))
      by_cases w0 : y.wy = 0
      · have e0 : (y.wy == 0) = true := by simpa using w0
        have HS : Hid (stepA L y = putsX y.l L) := Lib.hid (by unfold stepA; rw [if_pos w0])
        rw [HS.out] at HREL HL2
        have HSAME := Lib.hid (puts_same y.l L HT.out).1
        have C1 := Lib.hid (puts_any Aa y.A q ca m y.c L y.l wr.heap.size wr HQ.out HM.out HRA.out HRE.out (Nat.le_refl _) (by omega) (by omega))
        have C2 := Lib.hid (fun V (hV : Below wr.heap.size wr V) => dputs_any Ab y.A q cb m y.c L y.l wr.heap.size V HQ.out HM.out (HRB.out.below hV) (HRE.out.below hV) hV.size (by omega) (by omega))
        rw [← HSAME.out] at C2
        clear HSAME
        generalize putsX y.l L = K at *
        generalize y.wy = wy at *
        generalize y.bk = bk at *
        generalize y.to = to at *
        go_wp2_with (first
          | (have hd := done2; go_at_call 19; (with_reducible refine (same_rows A2 A3 n3 c2 c3 K w3 HN3.out (HRA3.out.below HB3.out |>.more HB3.out.size) (Rd.of_slice HO3.out) (by have := HN3.out; have := HL2.out; have := HQ.out; have := HM.out; omega)).mono ?_); rintro ex w4 ⟨rfl, hb4⟩; have HB4 := Lib.hid hb4; clear hb4 hd done2)
          | (have hd := done1; go_at_call 14; (with_reducible refine (C2.out _ HB2.out).mono ?_); rintro ex w3 ⟨A3, n3, c3, rfl, hn3, ho3, hb3⟩; have HN3 := Lib.hid hn3; have HO3 := Lib.hid ho3; have HB3 := Lib.hid hb3; clear hn3 ho3 hb3; have e23 : n3 = n2 := HN3.out.trans HN2.out.symm; subst e23; have HRA3 := Lib.hid (Rd.of_slice HO2.out); have done2 := trivial; clear hd done1)
          | (go_at_call 13; (with_reducible refine C1.out.mono ?_); rintro ex w2 ⟨A2, n2, c2, rfl, hn2, ho2, hb2⟩; have HN2 := Lib.hid hn2; have HO2 := Lib.hid ho2; have HB2 := Lib.hid hb2; clear hn2 ho2 hb2; obtain ⟨b0, b1, b2, b3⟩ := HCC.out w2 HB2.out; clear a0 a1 a2 a3; have done1 := trivial))
        go_roundw
        case rel => exact HREL.out w4 A2 A3 n3 c2 c3 HN3.out ((((HRA3.out.below HB3.out).more HB3.out.size).below HB4.out).more HB4.out.size) (((Rd.of_slice HO3.out).below HB4.out).more HB4.out.size) (HB2.out.trans ((HB3.out.trans (HB4.out.mono HB3.out.size)).mono HB2.out.size))
        case measure => simp [intOf]; omega
      · have e0 : (y.wy == 0) = false := by simpa using w0
        by_cases w1 : y.wy = 1
        · have e1 : (y.wy == 1) = true := by simpa using w1
          have HS : Hid (stepA L y = L.flatMap (fun x => if x.bl ≠ y.bk then [x] else [])) := Lib.hid (by unfold stepA; rw [if_neg w0, if_pos w1])
          rw [HS.out] at HREL HL2
          have C1 := Lib.hid (drop_any Aa q ca L y.bk wr.heap.size wr (fun x => if x.bl ≠ y.bk then [x] else []) (fun _ => rfl) HQ.out HRA.out (Nat.le_refl _) (by omega))
          have C2 := Lib.hid (fun V (hV : Below wr.heap.size wr V) => ddrop_any Ab q cb L y.bk wr.heap.size V (fun x => if x.bl ≠ y.bk then [x] else []) (fun _ => rfl) HQ.out (HRB.out.below hV) hV.size (by omega))
          generalize L.flatMap (fun x => if x.bl ≠ y.bk then [x] else []) = K at *
          generalize y.wy = wy at *
          generalize y.bk = bk at *
          generalize y.to = to at *
          go_wp2_with (first
            | (have hd := done2; go_at_call 19; (with_reducible refine (same_rows A2 A3 n3 c2 c3 K w3 HN3.out (HRA3.out.below HB3.out |>.more HB3.out.size) (Rd.of_slice HO3.out) (by have := HN3.out; have := HL2.out; have := HQ.out; have := HM.out; omega)).mono ?_); rintro ex w4 ⟨rfl, hb4⟩; have HB4 := Lib.hid hb4; clear hb4 hd done2)
            | (have hd := done1; go_at_call 16; (with_reducible refine (C2.out _ HB2.out).mono ?_); rintro ex w3 ⟨A3, n3, c3, rfl, hn3, ho3, hb3⟩; have HN3 := Lib.hid hn3; have HO3 := Lib.hid ho3; have HB3 := Lib.hid hb3; clear hn3 ho3 hb3; have e23 : n3 = n2 := HN3.out.trans HN2.out.symm; subst e23; have HRA3 := Lib.hid (Rd.of_slice HO2.out); have done2 := trivial; clear hd done1)
            | (go_at_call 15; (with_reducible refine C1.out.mono ?_); rintro ex w2 ⟨A2, n2, c2, rfl, hn2, ho2, hb2⟩; have HN2 := Lib.hid hn2; have HO2 := Lib.hid ho2; have HB2 := Lib.hid hb2; clear hn2 ho2 hb2; obtain ⟨b0, b1, b2, b3⟩ := HCC.out w2 HB2.out; clear a0 a1 a2 a3; have done1 := trivial))
          go_roundw
          case rel => exact HREL.out w4 A2 A3 n3 c2 c3 HN3.out ((((HRA3.out.below HB3.out).more HB3.out.size).below HB4.out).more HB4.out.size) (((Rd.of_slice HO3.out).below HB4.out).more HB4.out.size) (HB2.out.trans ((HB3.out.trans (HB4.out.mono HB3.out.size)).mono HB2.out.size))
          case measure => simp [intOf]; omega
        · have e1 : (y.wy == 1) = false := by simpa using w1
          by_cases w2 : y.wy = 2
          · have e2 : (y.wy == 2) = true := by simpa using w2
            have HS : Hid (stepA L y = L.map (mvX y.bk y.to)) := Lib.hid (by unfold stepA; rw [if_neg w0, if_neg w1, if_pos w2])
            rw [HS.out] at HREL HL2
            have C1 := Lib.hid (fun V (hV : Below wr.heap.size wr V) => move_any Aa q ca L y.bk y.to wr.heap.size V HQ.out (HRA.out.below hV) hV.size (by omega))
            have C2 := Lib.hid (fun V (hV : Below wr.heap.size wr V) => dmove_any Ab q cb L y.bk y.to wr.heap.size V HQ.out (HRB.out.below hV) hV.size (by omega))
            generalize L.map (mvX y.bk y.to) = K at *
            generalize y.wy = wy at *
            generalize y.bk = bk at *
            generalize y.to = to at *
            go_upto_region 18 with fail
            go_still_tail 11, (by kernel_rfl)
            change wpList _ _ _ _ _ wr.drew
            have HBD := Lib.hid (show Below wr.heap.size wr wr.drew from ⟨rfl, rfl, rfl, Nat.le_refl _, fun _ _ => rfl⟩)
            clear a0 a1 a2 a3
            generalize hwd : wr.drew = wd at *
            have HWD := Lib.hid (show wd.heap.size = wr.heap.size from by rw [← hwd]; rfl)
            clear hwd
            go_upto_region 19 with (go_at_call 17; (with_reducible refine (C1.out _ HBD.out).mono ?_); rintro ex w2 ⟨A2, n2, c2, rfl, hn2, ho2, hb2⟩; have HN2 := Lib.hid hn2; have HO2 := Lib.hid ho2; have HB2 := Lib.hid hb2; clear hn2 ho2 hb2)
            have HB2' := Lib.hid (HBD.out.trans (HB2.out.mono (by have := HWD.out; omega)))
            obtain ⟨b0, b1, b2, b3⟩ := HCC.out w2 HB2'.out
            go_still_tail 11, (by kernel_rfl)
            change wpList _ _ _ _ _ w2.drew
            have HBD2 := Lib.hid (show Below w2.heap.size w2 w2.drew from ⟨rfl, rfl, rfl, Nat.le_refl _, fun _ _ => rfl⟩)
            clear b0 b1 b2 b3
            have HO2D := Lib.hid (show w2.drew.ownsRow wd.heap.size 38 6 (.slice A2 n2 c2) n2 (K.flatMap Ex.cells) from HO2.out)
            have HB2D := Lib.hid (show Below wr.heap.size wr w2.drew from HB2'.out.trans (HBD2.out.mono HB2'.out.size))
            clear HO2 HBD2
            generalize w2.drew = w2d at *
            go_wp2_with (first
              | (have hd := done2; go_at_call 19; (with_reducible refine (same_rows A2 A3 n3 c2 c3 K w3 HN3.out (HRA3.out.below HB3.out |>.more HB3.out.size) (Rd.of_slice HO3.out) (by have := HN3.out; have := HL2.out; have := HQ.out; have := HM.out; omega)).mono ?_); rintro ex w4 ⟨rfl, hb4⟩; have HB4 := Lib.hid hb4; clear hb4 hd done2)
              | (go_at_call 18; (with_reducible refine (C2.out _ HB2D.out).mono ?_); rintro ex w3 ⟨A3, n3, c3, rfl, hn3, ho3, hb3⟩; have HN3 := Lib.hid hn3; have HO3 := Lib.hid ho3; have HB3 := Lib.hid hb3; clear hn3 ho3 hb3; have e23 : n3 = n2 := HN3.out.trans HN2.out.symm; subst e23; have HRA3 := Lib.hid (Rd.of_slice HO2D.out); have done2 := trivial))
            go_roundw
            case rel => exact HREL.out w4 A2 A3 n3 c2 c3 HN3.out ((((HRA3.out.below HB3.out).more HB3.out.size).below HB4.out).more HB4.out.size) (((Rd.of_slice HO3.out).below HB4.out).more HB4.out.size) (HB2D.out.trans ((HB3.out.trans (HB4.out.mono HB3.out.size)).mono HB2D.out.size))
            case measure => simp [intOf]; omega
          · have e2 : (y.wy == 2) = false := by simpa using w2
            have HS : Hid (stepA L y = L) := Lib.hid (by unfold stepA; rw [if_neg w0, if_neg w1, if_neg w2])
            rw [HS.out] at HREL HL2
            have SAM := Lib.hid (same_rows Aa Ab q ca cb L wr HQ.out HRA.out HRB.out (by omega))
            clear HCC hcc
            generalize y.wy = wy at *
            generalize y.bk = bk at *
            generalize y.to = to at *
            go_wp2_with (go_at_call 19; (with_reducible refine SAM.out.mono ?_); rintro ex w4 ⟨rfl, hb4⟩; have HB4 := Lib.hid hb4; clear hb4)
            go_roundw
            case rel => exact HREL.out w4 Aa Ab q ca cb HQ.out ((HRA.out.below HB4.out).more HB4.out.size) ((HRB.out.below HB4.out).more HB4.out.size) HB4.out
            case measure => simp [intOf]; omega
    · obtain rfl : k = n := by omega
      have FN := Lib.hid (find_any Aa q ca L sv op wr.heap.size wr (fun x => if x.sv = sv ∧ x.op = op then [x] else []) (fun _ => rfl) HQ.out HRA.out (Nat.le_refl _) (by omega))
      have FF := Lib.hid (fun V (hV : Below wr.heap.size wr V) => dfind_any Ab q cb L sv op wr.heap.size V (fun x => if x.sv = sv ∧ x.op = op then [x] else []) (fun _ => rfl) HQ.out (HRB.out.below hV) hV.size (by omega))
      have HFL := Lib.hid (show (L.flatMap (fun x => if x.sv = sv ∧ x.op = op then [x] else [])).length ≤ 800 from by
        have h := HQ.out
        refine Nat.le_trans (m := L.length) ?_ (by omega)
        clear h
        generalize L = L
        induction L with
        | nil => exact Nat.le_refl _
        | cons x r ih =>
          rw [List.flatMap_cons, List.length_append, List.length_cons]
          have : (if x.sv = sv ∧ x.op = op then [x] else []).length ≤ 1 := by split <;> simp
          omega)
      generalize L.flatMap (fun x => if x.sv = sv ∧ x.op = op then [x] else []) = K at *
      go_wp2_with (first
        | (have hd := done2; go_at_call 19; (with_reducible refine (same_rows A2 A3 n3 c2 c3 K w3 HN3.out (HRA3.out.below HB3.out |>.more HB3.out.size) (Rd.of_slice HO3.out) (by have := HN3.out; have := HFL.out; omega)).mono ?_); rintro ex w4 ⟨rfl, hb4⟩; have HB4 := Lib.hid hb4; clear hb4 hd done2)
        | (have hd := done1; go_at_call 21; (with_reducible refine (FF.out _ HB2.out).mono ?_); rintro ex w3 ⟨A3, n3, c3, rfl, hn3, ho3, hb3⟩; have HN3 := Lib.hid hn3; have HO3 := Lib.hid ho3; have HB3 := Lib.hid hb3; clear hn3 ho3 hb3; have e23 : n3 = n2 := HN3.out.trans HN2.out.symm; subst e23; have HRA3 := Lib.hid (Rd.of_slice HO2.out); have done2 := trivial; clear hd done1)
        | (go_at_call 20; (with_reducible refine FN.out.mono ?_); rintro ex w2 ⟨A2, n2, c2, rfl, hn2, ho2, hb2⟩; have HN2 := Lib.hid hn2; have HO2 := Lib.hid ho2; have HB2 := Lib.hid hb2; clear hn2 ho2 hb2; have done1 := trivial))
      go_ret
      exact ⟨rfl, HB.out.trans ((HB2.out.trans ((HB3.out.trans (HB4.out.mono HB3.out.size)).mono HB2.out.size)).mono hws)⟩
end Go.Proofs.Ytajpnimjkkmcmaa
