/- symMerge of slices' stable sort. -/
import Derived.Test.YtgldjjmpjaegfaaSyd
namespace Go.Proofs.Ytgldjjmpjaegfaa
open Go.RowKit
set_option linter.unusedVariables false
set_option linter.unusedSimpArgs false
set_option maxRecDepth 100000

set_option maxHeartbeats 32000000 in
theorem sym_gen (O : Sy.Ord Nat) (PTR : Value) (B0 U : Nat) (w0 : World) (CMP : CmpOkN O PTR B0 U w0) (L : List Nat) (base g n cap a m b : Nat) (w : World) (hO : w.ownsRow base 3 1 (.slice (some ⟨g, 0, none⟩) n cap) n ((L).map encN)) (hU : ∀ x ∈ L, x < U) (hW : Below B0 w0 w) (hB0 : B0 ≤ base) (hbase : base ≤ w.heap.size) (ham : a < m) (hmb : m < b) (hbn : b ≤ n) (hsm : n ≤ 1000000) (hA : Sy.SortedOn O L a m) (hB : Sy.SortedOn O L m b) (hC : Sy.Cross O L a m b) (hm0 : m ≠ a + 1) (hb0 : b ≠ m + 1)
    (IH : ∀ (L' : List Nat) (a' m' b' : Nat) (w' : World), b' - a' < b - a → w'.ownsRow base 3 1 (.slice (some ⟨g, 0, none⟩) n cap) n ((L').map encN) → (∀ x ∈ L', x < U) → Below B0 w0 w' → base ≤ w'.heap.size → a' < m' → m' < b' → b' ≤ n → Sy.SortedOn O L' a' m' → Sy.SortedOn O L' m' b' → Sy.Cross O L' a' m' b' → Calls Try.prog 53 #[.slice (some ⟨g, 0, none⟩) n cap, .int .i64 (a' : Int), .int .i64 (m' : Int), .int .i64 (b' : Int), FV PTR] w' (SymOf O L' base g n cap a' b' w')) : Calls Try.prog 53 #[.slice (some ⟨g, 0, none⟩) n cap, .int .i64 (a : Int), .int .i64 (m : Int), .int .i64 (b : Int), FV PTR] w (SymOf O L base g n cap a b w) := by
  have HIH := Lib.hid IH
  clear IH
  have HO := Lib.hid hO
  have HU := Lib.hid hU
  have HW0 := Lib.hid hW
  have HA := Lib.hid hA
  have HBS := Lib.hid hB
  have HC := Lib.hid hC
  have HCM := Lib.hid CMP
  have hLn := own_lenN hO
  have HLN := Lib.hid hLn
  have hadd : ∀ q : Nat, (⟨g, 0, none⟩ : Addr).add q = ⟨g, q, none⟩ := fun q => by rw [Addr.add_lit, Nat.zero_add]
  have hadd : Hid (∀ q : Nat, (⟨g, 0, none⟩ : Addr).add q = ⟨g, q, none⟩) := Lib.hid hadd
  clear hO hU hW hA hB hC CMP
  have em : IntKind.i64.wrap ((m : Int) - (a : Int)) = ((m - a : Nat) : Int) := by rw [IntKind.wrap_i64] <;> omega
  obtain ⟨dm, hdm⟩ : ∃ dm, dm = m - a := ⟨_, rfl⟩
  have em2 : ((dm : Int) == 1) = false := beq_eq_false_iff_ne.2 (by omega)
  have em3 : (dm == 1) = false := beq_eq_false_iff_ne.2 (by omega)
  have eb : IntKind.i64.wrap ((b : Int) - (m : Int)) = ((b - m : Nat) : Int) := by rw [IntKind.wrap_i64] <;> omega
  obtain ⟨db, hdb⟩ : ∃ db, db = b - m := ⟨_, rfl⟩
  have eb2 : ((db : Int) == 1) = false := beq_eq_false_iff_ne.2 (by omega)
  have eb3 : (db == 1) = false := beq_eq_false_iff_ne.2 (by omega)
  rw [← hdm] at em
  rw [← hdb] at eb
  obtain ⟨mid, hmid⟩ : ∃ mid, mid = (a + b) / 2 := ⟨_, rfl⟩
  have ec : ((a : Int) + (b : Int)) / 2 = (mid : Int) := by omega
  obtain ⟨nn, hnn⟩ : ∃ nn, nn = mid + m := ⟨_, rfl⟩
  have en : IntKind.i64.wrap ((mid : Int) + (m : Int)) = (nn : Int) := by rw [IntKind.wrap_i64] <;> omega
  obtain ⟨p, hp⟩ : ∃ p, nn = p + 1 := ⟨nn - 1, by omega⟩
  have ep : IntKind.i64.wrap ((nn : Int) - 1) = (p : Int) := by rw [IntKind.wrap_i64] <;> omega
  obtain ⟨lo, hi, hlh⟩ : ∃ lo hi : Nat, (mid < m ∧ nn = lo + b ∧ hi = mid) ∨ (¬ mid < m ∧ lo = a ∧ hi = m) := by
    by_cases h : mid < m
    · exact ⟨nn - b, mid, .inl ⟨h, by omega, rfl⟩⟩
    · exact ⟨a, m, .inr ⟨h, rfl, rfl⟩⟩
  have HLH := Lib.hid hlh
  have HMID := Lib.hid (show a < mid ∧ mid < b ∧ lo ≤ hi ∧ a ≤ lo ∧ hi ≤ mid ∧ hi ≤ m ∧ nn ≤ lo + b ∧ nn = mid + m ∧ nn = p + 1 from by omega)
  clear hmid hm0 hb0 hdm hdb hlh hnn hp
  go_enter Try.func53, Try.ntmps53
  go_upto_if 140 with fail
  clear em em2 em3 eb eb2 eb3 ec en
  go_cut [20, 21] (fun s r wx => s = .int .i64 (lo : Int) ∧ r = .int .i64 (hi : Int) ∧ w = wx)
  case first => as_aux_lemma =>
    rcases HLH.out with ⟨h1, h2, h3⟩ | ⟨h1, h2, h3⟩
    · have f1 : decide ((mid : Int) < (m : Int)) = true := decide_eq_true (by omega)
      have f1' : decide (mid < m) = true := decide_eq_true h1
      have ex : IntKind.i64.wrap ((nn : Int) - (b : Int)) = (lo : Int) := by rw [IntKind.wrap_i64] <;> (have := HMID.out; omega)
      have H3 := Lib.hid h3
      have h1' : (mid : Int) < (m : Int) := by omega
      clear h2 h3
      go_wp2_with fail
      go_meet
      exact ⟨rfl, by rw [H3.out], rfl⟩
    · have f1 : decide ((mid : Int) < (m : Int)) = false := decide_eq_false (by omega)
      have f1' : decide (mid < m) = false := decide_eq_false h1
      have H2 := Lib.hid h2
      have H3 := Lib.hid h3
      have h1' : ¬ (mid : Int) < (m : Int) := by omega
      clear h2 h3
      go_wp2_with fail
      go_meet
      exact ⟨by rw [H2.out], by rw [H3.out], rfl⟩
  case rest => as_aux_lemma =>
    obtain ⟨rfl, rfl, rfl⟩ := hcut
    go_upto_region 33 with fail
    clear ep
    go_loopw [20, 21] (fun vs vr wq => ∃ s r : Nat, vs = .int .i64 (s : Int) ∧ vr = .int .i64 (r : Int) ∧ s ≤ r ∧ r ≤ hi ∧ Hid (lo ≤ s) ∧ Hid (s = lo ∨ ∃ x y, L[s - 1]? = some x ∧ L[nn - s]? = some y ∧ O.lt x y) ∧ Hid (r = hi ∨ ∃ x y, L[p - r]? = some y ∧ L[r]? = some x ∧ O.lt y x) ∧ Hid (Below w.heap.size w wq)) (fun vs vr _ => (intOf vr).toNat - (intOf vs).toNat)
    case atStart => exact ⟨lo, hi, rfl, rfl, HMID.out.2.2.1, Nat.le_refl _, Lib.hid (Nat.le_refl _), Lib.hid (.inl rfl), Lib.hid (.inl rfl), Lib.hid (Below.refl _ _)⟩
    case round =>
      obtain ⟨s, r, rfl, rfl, hsr, hrh, HLS, HL1, HL2, HW⟩ := hrel
      have hws := HW.out.size
      by_cases hlt : s < r
      · obtain ⟨c, hc⟩ : ∃ c, c = (s + r) / 2 := ⟨_, rfl⟩
        have e1 : ((s : Int) + (r : Int)) / 2 = (c : Int) := by omega
        have hc1 : s ≤ c ∧ c < r := by omega
        have hM := HMID.out
        have hl := HLS.out
        obtain ⟨q, hq⟩ : ∃ q, q = p - c := ⟨_, rfl⟩
        have hq1 : m ≤ q ∧ q < b := by rcases HLH.out with h | h <;> omega
        have e2 : IntKind.i64.wrap ((p : Int) - (c : Int)) = (q : Int) := by rw [IntKind.wrap_i64] <;> omega
        obtain ⟨x, hx⟩ : ∃ x, L[c]? = some x := ⟨_, List.getElem?_eq_getElem (by have := HLN.out; omega)⟩
        obtain ⟨y, hy⟩ : ∃ y, L[q]? = some y := ⟨_, List.getElem?_eq_getElem (by have := HLN.out; omega)⟩
        have HX := Lib.hid hx
        have HY := Lib.hid hy
        have hOw := own_below HO.out HW.out
        obtain ⟨x0, _⟩ := own_atN hOw hx
        obtain ⟨y0, _⟩ := own_atN hOw hy
        have htag : O.tag x < O.tag y := HC.out c q x y (by omega) (by omega) hq1.1 hq1.2 hx hy
        have CM := fun p : NowB wr => Lib.hid (HCM.out p.W (HW0.out.trans ((HW.out.trans (p.h.mono HW.out.size)).mono (by omega))) y x (HU.out _ (List.mem_of_getElem? HY.out)) (HU.out _ (List.mem_of_getElem? HX.out)))
        have a0 : (0 : Int) ≤ (c : Int) := by omega
        have a1 : (c : Int) < (n : Int) := by omega
        have h0 : (0 : Int) ≤ (q : Int) := by omega
        have h1 : (q : Int) < (n : Int) := by omega
        have HHH := Lib.hid hc1
        have HQP := Lib.hid (show p - c = q ∧ nn - (c + 1) = q from by omega)
        have ij : (s : Int) < (r : Int) := by omega
        have nn1 : (n : Int) ≤ 1000000 := by omega
        have nn2 : (c : Int) ≤ 1000000 := by omega
        by_cases hcc : O.cf y x < 0
        · have d1 : decide (O.cf y x < 0) = true := decide_eq_true hcc
          have HLT := Lib.hid (O.low htag hcc)
          clear hc hx hy hcc htag hOw hc1 hM hl hq hq1
          generalize O.cf y x = oo at *
          go_wp2_with fail
          have n0 := fun p : NowB wr => p.cell x0
          have n1 := fun p : NowB wr => p.cell y0
          clear x0 y0
          refine wp_region_quiet_below (by kernel_rfl) (by kernel_rfl) ?_
          repeat (go_big_quiet_step ((go_at_call 47; with_reducible exact Calls.now_of (CM _).out)))
          refine wpQuiet_nil ?_
          intro _ hw'
          obtain ⟨pp, hw''⟩ := hw'
          subst hw''
          have HW9 := Lib.hid (HW.out.trans (pp.h.mono HW.out.size))
          have HP9 := Lib.hid pp.h
          generalize pp.W = w9 at *
          go_wp2_with fail
          go_roundw
          case rel => exact ⟨s, c, rfl, rfl, by have := HHH.out; omega, by have := HHH.out; omega, HLS, HL1, Lib.hid (.inr ⟨x, y, by rw [HQP.out.1]; exact HY.out, HX.out, HLT.out⟩), HW9⟩
          case measure => have := HHH.out; simp [intOf]; omega
        · have d1 : decide (O.cf y x < 0) = false := decide_eq_false hcc
          have HLT := Lib.hid (O.not htag hcc)
          clear hc hx hy hcc htag hOw hc1 hM hl hq hq1
          generalize O.cf y x = oo at *
          go_wp2_with fail
          have n0 := fun p : NowB wr => p.cell x0
          have n1 := fun p : NowB wr => p.cell y0
          clear x0 y0
          refine wp_region_quiet_below (by kernel_rfl) (by kernel_rfl) ?_
          repeat (go_big_quiet_step ((go_at_call 47; with_reducible exact Calls.now_of (CM _).out)))
          refine wpQuiet_nil ?_
          intro _ hw'
          obtain ⟨pp, hw''⟩ := hw'
          subst hw''
          have HW9 := Lib.hid (HW.out.trans (pp.h.mono HW.out.size))
          have HP9 := Lib.hid pp.h
          generalize pp.W = w9 at *
          go_wp2_with fail
          go_roundw
          case rel => exact ⟨c + 1, r, by go_num, rfl, by have := HHH.out; omega, by omega, Lib.hid (by have := HHH.out; have := HLS.out; omega), Lib.hid (.inr ⟨x, y, by simpa using HX.out, by rw [HQP.out.2]; exact HY.out, HLT.out⟩), HL2, HW9⟩
          case measure => have := HHH.out; simp [intOf]; omega
      · obtain rfl : s = r := by omega
        have hM := HMID.out
        have hl := HLS.out
        obtain ⟨e, he⟩ : ∃ e, e = nn - s := ⟨_, rfl⟩
        have ee : IntKind.i64.wrap ((nn : Int) - (s : Int)) = (e : Int) := by rw [IntKind.wrap_i64] <;> omega
        have HE := Lib.hid (show s ≤ m ∧ s ≤ mid ∧ a ≤ s ∧ e = mid + m - s ∧ e ≤ b ∧ m ≤ e ∧ mid ≤ e from by rcases HLH.out with h | h <;> omega)
        have HC1 : Hid (s = a ∨ e = b ∨ ∃ x y, L[s - 1]? = some x ∧ L[e]? = some y ∧ O.lt x y) := Lib.hid (by
          rcases HL1.out with h | ⟨x, y, h1, h2, h3⟩
          · rcases HLH.out with g | g
            · exact .inr (.inl (by omega))
            · exact .inl (by omega)
          · exact .inr (.inr ⟨x, y, h1, by rw [he]; exact h2, h3⟩))
        have HC2 : Hid (s = m ∨ e = m ∨ ∃ x y, L[e - 1]? = some x ∧ L[s]? = some y ∧ O.lt x y) := Lib.hid (by
          rcases HL2.out with h | ⟨x, y, h1, h2, h3⟩
          · rcases HLH.out with g | g
            · exact .inr (.inl (by omega))
            · exact .inl (by omega)
          · exact .inr (.inr ⟨y, x, by rw [show e - 1 = p - s by omega]; exact h1, h2, h3⟩))
        have HOw := Lib.hid (own_below HO.out HW.out)
        have HBw := Lib.hid (show Below base w wr from HW.out.mono hbase)
        have HSZ := Lib.hid (show base ≤ wr.heap.size from by omega)
        clear HL1 HL2 hsr hrh hlt he HW hM hl
        obtain ⟨gb, hgb⟩ : ∃ gb, gb = decide (s < m ∧ m < e) := ⟨_, rfl⟩
        have HGB := Lib.hid hgb
        clear hgb
        go_upto_region 39 with fail
        go_cut [185] (fun v wx => v = .bool gb ∧ wr = wx)
        case first => as_aux_lemma =>
          by_cases g1 : s < m
          · by_cases g2 : m < e
            · have f1 : decide ((s : Int) < (m : Int)) = true := decide_eq_true (by omega)
              have f1' : decide (s < m) = true := decide_eq_true (by omega)
              have f2 : decide ((m : Int) < (e : Int)) = true := decide_eq_true (by omega)
              have f2' : decide (m < e) = true := decide_eq_true (by omega)
              have this : decide (s < m ∧ m < e) = true := decide_eq_true ⟨g1, g2⟩
              have this := Lib.hid this
              go_wp2_with fail
              go_meet
              exact ⟨by rw [HGB.out, this.out], rfl⟩
            · have f1 : decide ((s : Int) < (m : Int)) = true := decide_eq_true (by omega)
              have f1' : decide (s < m) = true := decide_eq_true (by omega)
              have f2 : decide ((m : Int) < (e : Int)) = false := decide_eq_false (by omega)
              have f2' : decide (m < e) = false := decide_eq_false (by omega)
              have this : decide (s < m ∧ m < e) = false := decide_eq_false (by omega)
              have this := Lib.hid this
              go_wp2_with fail
              go_meet
              exact ⟨by rw [HGB.out, this.out], rfl⟩
          · have f1 : decide ((s : Int) < (m : Int)) = false := decide_eq_false (by omega)
            have f1' : decide (s < m) = false := decide_eq_false (by omega)
            have this : decide (s < m ∧ m < e) = false := decide_eq_false (by omega)
            have this := Lib.hid this
            go_wp2_with fail
            go_meet
            exact ⟨by rw [HGB.out, this.out], rfl⟩
        case rest => as_aux_lemma =>
          obtain ⟨rfl, hwe⟩ := hcut
          subst hwe
          go_upto_if 185 with fail
          go_cut [] (fun wx => Hid (∃ M, Sy.ByF (Sy.rotF s m e) L M ∧ wx.ownsRow base 3 1 (.slice (some ⟨g, 0, none⟩) n cap) n ((M).map encN) ∧ Below base w wx))
          case first => as_aux_lemma =>
            cases gb
            · have gno : ¬ (s < m ∧ m < e) := of_decide_eq_false HGB.out.symm
              have HID := Lib.hid (show Sy.ByF (Sy.rotF s m e) L L from by
                rcases (show s = m ∨ e = m by have := HE.out; omega) with h | h
                · rw [h]; exact Sy.rot_id2 L m e
                · rw [h]; exact Sy.rot_id3 L s m)
              clear gno
              go_wp2_with fail
              go_meet
              exact Lib.hid ⟨L, HID.out, HOw.out, HBw.out⟩
            · obtain ⟨g1, g2⟩ : s < m ∧ m < e := of_decide_eq_true HGB.out.symm
              have SW := Lib.hid (rotate_any (FV PTR) L base g n cap s m e wr HOw.out g1 g2 (by have := HE.out; omega) hsm HSZ.out)
              clear g1 g2
              go_wp2_with (go_at_call 54; (with_reducible refine SW.out.mono ?_); rintro ex w3 ⟨rfl, M, hM, hoM, hbM⟩)
              go_meet
              exact Lib.hid ⟨M, hM, hoM, HBw.out.trans hbM⟩
          case rest => as_aux_lemma =>
            obtain ⟨M, hRM, hMo, hMb⟩ := hcut.out
            have hE := HE.out
            have hM := HMID.out
            have HORD := Lib.hid (Sy.cut_order O ham hmb hM.1 hM.2.1 hE.2.2.1 hE.1 hE.2.2.2.1 hE.2.1 hE.2.2.2.2.1 HA.out HBS.out HC1.out HC2.out hRM)
            have HCRO := Lib.hid (Sy.cut_cross O ham hmb hE.2.2.1 hE.1 hE.2.2.2.1 hE.2.1 hE.2.2.2.2.1 HC.out hRM)
            have HRS := Lib.hid ((Sy.rot_same hRM hE.1 hE.2.2.2.2.2.1).wide hE.2.2.1 (by omega) hE.2.2.2.2.1)
            have HMo := Lib.hid hMo
            have HMB := Lib.hid hMb
            have HMU := Lib.hid (HRS.out.all HU.out)
            have HMW := Lib.hid (HW0.out.trans (hMb.mono hB0))
            have HMS := Lib.hid (Nat.le_trans hbase hMb.size)
            clear hRM hMo hMb HOw HBw HSZ HC1 HC2 hcut hE hM
            generalize wc = wr at *
            obtain ⟨gb, hgb⟩ : ∃ gb, gb = decide (a < s ∧ s < mid) := ⟨_, rfl⟩
            have HGB := Lib.hid hgb
            clear hgb
            go_upto_region 41 with fail
            go_cut [199] (fun v wx => v = .bool gb ∧ wr = wx)
            case first => as_aux_lemma =>
              by_cases g1 : a < s
              · by_cases g2 : s < mid
                · have f1 : decide ((a : Int) < (s : Int)) = true := decide_eq_true (by omega)
                  have f1' : decide (a < s) = true := decide_eq_true (by omega)
                  have f2 : decide ((s : Int) < (mid : Int)) = true := decide_eq_true (by omega)
                  have f2' : decide (s < mid) = true := decide_eq_true (by omega)
                  have this : decide (a < s ∧ s < mid) = true := decide_eq_true ⟨g1, g2⟩
                  have this := Lib.hid this
                  go_wp2_with fail
                  go_meet
                  exact ⟨by rw [HGB.out, this.out], rfl⟩
                · have f1 : decide ((a : Int) < (s : Int)) = true := decide_eq_true (by omega)
                  have f1' : decide (a < s) = true := decide_eq_true (by omega)
                  have f2 : decide ((s : Int) < (mid : Int)) = false := decide_eq_false (by omega)
                  have f2' : decide (s < mid) = false := decide_eq_false (by omega)
                  have this : decide (a < s ∧ s < mid) = false := decide_eq_false (by omega)
                  have this := Lib.hid this
                  go_wp2_with fail
                  go_meet
                  exact ⟨by rw [HGB.out, this.out], rfl⟩
              · have f1 : decide ((a : Int) < (s : Int)) = false := decide_eq_false (by omega)
                have f1' : decide (a < s) = false := decide_eq_false (by omega)
                have this : decide (a < s ∧ s < mid) = false := decide_eq_false (by omega)
                have this := Lib.hid this
                go_wp2_with fail
                go_meet
                exact ⟨by rw [HGB.out, this.out], rfl⟩
            case rest => as_aux_lemma =>
              obtain ⟨rfl, hwe⟩ := hcut
              subst hwe
              go_upto_if 199 with fail
              go_cut [] (fun wx => Hid (∃ M1, Sy.SameOn M M1 a mid ∧ Sy.SortedOn O M1 a mid ∧ wx.ownsRow base 3 1 (.slice (some ⟨g, 0, none⟩) n cap) n ((M1).map encN) ∧ Below base w wx))
              case first => as_aux_lemma =>
                cases gb
                · have gno : ¬ (a < s ∧ s < mid) := of_decide_eq_false HGB.out.symm
                  have HS1 := Lib.hid (show Sy.SortedOn O M a mid from by
                    rcases (show s = a ∨ s = mid by have := HE.out; omega) with h | h
                    · have h2 := HORD.out.1.2.1; rw [h] at h2; exact h2
                    · have h2 := HORD.out.1.1; rw [h] at h2; exact h2)
                  clear gno
                  go_wp2_with fail
                  go_meet
                  exact Lib.hid ⟨M, Sy.SameOn.refl _ _ _, HS1.out, HMo.out, HMB.out⟩
                · obtain ⟨g1, g2⟩ : a < s ∧ s < mid := of_decide_eq_true HGB.out.symm
                  have IC := Lib.hid (HIH.out M a s mid wr (by have := HMID.out; omega) HMo.out HMU.out HMW.out HMS.out g1 g2 (by have := HMID.out; omega) HORD.out.1.1 HORD.out.1.2.1 HCRO.out.1)
                  clear g1 g2
                  go_wp2_with (go_at_call 53; (with_reducible refine IC.out.mono ?_); rintro ex w4 ⟨rfl, M1, hs1, ho1, hw1, hb1⟩)
                  go_meet
                  exact Lib.hid ⟨M1, hs1, ho1, hw1, HMB.out.trans hb1⟩
              case rest => as_aux_lemma =>
                obtain ⟨M1, hs1, ho1, hM1, hb1⟩ := hcut.out
                have HS1 := Lib.hid hs1
                have HO1 := Lib.hid ho1
                have H1o := Lib.hid hM1
                have H1B := Lib.hid hb1
                have H1U := Lib.hid (hs1.all HMU.out)
                have H1W := Lib.hid (HW0.out.trans (hb1.mono hB0))
                have H1S := Lib.hid (Nat.le_trans hbase hb1.size)
                clear hs1 ho1 hM1 hb1 hcut HMo HMB HMU HMW HMS
                generalize wc = wr at *
                obtain ⟨gb, hgb⟩ : ∃ gb, gb = decide (mid < e ∧ e < b) := ⟨_, rfl⟩
                have HGB := Lib.hid hgb
                clear hgb
                go_upto_region 43 with fail
                go_cut [213] (fun v wx => v = .bool gb ∧ wr = wx)
                case first => as_aux_lemma =>
                  by_cases g1 : mid < e
                  · by_cases g2 : e < b
                    · have f1 : decide ((mid : Int) < (e : Int)) = true := decide_eq_true (by omega)
                      have f1' : decide (mid < e) = true := decide_eq_true (by omega)
                      have f2 : decide ((e : Int) < (b : Int)) = true := decide_eq_true (by omega)
                      have f2' : decide (e < b) = true := decide_eq_true (by omega)
                      have this : decide (mid < e ∧ e < b) = true := decide_eq_true ⟨g1, g2⟩
                      have this := Lib.hid this
                      go_wp2_with fail
                      go_meet
                      exact ⟨by rw [HGB.out, this.out], rfl⟩
                    · have f1 : decide ((mid : Int) < (e : Int)) = true := decide_eq_true (by omega)
                      have f1' : decide (mid < e) = true := decide_eq_true (by omega)
                      have f2 : decide ((e : Int) < (b : Int)) = false := decide_eq_false (by omega)
                      have f2' : decide (e < b) = false := decide_eq_false (by omega)
                      have this : decide (mid < e ∧ e < b) = false := decide_eq_false (by omega)
                      have this := Lib.hid this
                      go_wp2_with fail
                      go_meet
                      exact ⟨by rw [HGB.out, this.out], rfl⟩
                  · have f1 : decide ((mid : Int) < (e : Int)) = false := decide_eq_false (by omega)
                    have f1' : decide (mid < e) = false := decide_eq_false (by omega)
                    have this : decide (mid < e ∧ e < b) = false := decide_eq_false (by omega)
                    have this := Lib.hid this
                    go_wp2_with fail
                    go_meet
                    exact ⟨by rw [HGB.out, this.out], rfl⟩
                case rest => as_aux_lemma =>
                  obtain ⟨rfl, hwe⟩ := hcut
                  subst hwe
                  cases gb
                  · have gno : ¬ (mid < e ∧ e < b) := of_decide_eq_false HGB.out.symm
                    have HS3 := Lib.hid (show Sy.SortedOn O M1 mid b from by
                      rcases (show e = mid ∨ e = b by have := HE.out; omega) with h | h
                      · have h2 := HORD.out.1.2.2.2; rw [h] at h2; exact h2.aside O HS1.out (.inr (Nat.le_refl _))
                      · have h2 := HORD.out.1.2.2.1; rw [h] at h2; exact h2.aside O HS1.out (.inr (Nat.le_refl _)))
                    clear gno
                    go_wp2_with fail
                    go_end0
                    have hj := Sy.join_sorted O HORD.out.2 (by have := HMID.out; omega) (by have := HMID.out; omega) HS1.out HO1.out (Sy.SameOn.refl M1 mid b) HS3.out
                    exact ⟨rfl, M1, HRS.out.trans hj.1, hj.2, H1o.out, H1B.out⟩
                  · obtain ⟨g1, g2⟩ : mid < e ∧ e < b := of_decide_eq_true HGB.out.symm
                    have IC := Lib.hid (HIH.out M1 mid e b wr (by have := HMID.out; omega) H1o.out H1U.out H1W.out H1S.out g1 g2 hbn (HORD.out.1.2.2.1.aside O HS1.out (.inr (Nat.le_refl _))) (HORD.out.1.2.2.2.aside O HS1.out (.inr (Nat.le_of_lt g1))) (Sy.cross_same O HCRO.out.2 HS1.out (.inr (Nat.le_refl _))))
                    clear g1 g2
                    go_wp2_with (go_at_call 53; (with_reducible refine IC.out.mono ?_); rintro ex w5 ⟨rfl, M2, hs2, ho2, hw2, hb2⟩)
                    go_end0
                    have hj := Sy.join_sorted O HORD.out.2 (by have := HMID.out; omega) (by have := HMID.out; omega) HS1.out HO1.out hs2 ho2
                    exact ⟨rfl, M2, HRS.out.trans hj.1, hj.2, hw2, H1B.out.trans hb2⟩
theorem symmerge_any (O : Sy.Ord Nat) (PTR : Value) (B0 U : Nat) (w0 : World) (CMP : CmpOkN O PTR B0 U w0) (base g n cap : Nat) (hB0 : B0 ≤ base) (hsm : n ≤ 1000000) : ∀ (d : Nat) (L : List Nat) (a m b : Nat) (w : World), b - a ≤ d → w.ownsRow base 3 1 (.slice (some ⟨g, 0, none⟩) n cap) n ((L).map encN) → (∀ x ∈ L, x < U) → Below B0 w0 w → base ≤ w.heap.size → a < m → m < b → b ≤ n → Sy.SortedOn O L a m → Sy.SortedOn O L m b → Sy.Cross O L a m b → Calls Try.prog 53 #[.slice (some ⟨g, 0, none⟩) n cap, .int .i64 (a : Int), .int .i64 (m : Int), .int .i64 (b : Int), FV PTR] w (SymOf O L base g n cap a b w) := by
  intro d
  induction d with
  | zero => intro L a m b w hd _ _ _ _ ham hmb; omega
  | succ d ih =>
    intro L a m b w hd hO hU hW hbase ham hmb hbn hA hB hC
    by_cases hm : m = a + 1
    · exact sym_left O PTR B0 U w0 CMP L base g n cap a m b w hO hU hW hB0 hbase ham hmb hbn hsm hA hB hC hm
    · by_cases hb : b = m + 1
      · exact sym_right O PTR B0 U w0 CMP L base g n cap a m b w hO hU hW hB0 hbase ham hmb hbn hsm hA hB hC hm hb
      · refine sym_gen O PTR B0 U w0 CMP L base g n cap a m b w hO hU hW hB0 hbase ham hmb hbn hsm hA hB hC hm hb ?_
        intro L' a' m' b' w' h1 h2 h3 h4 h5 h6 h7 h8 h9 h10 h11
        exact ih L' a' m' b' w' (by omega) h2 h3 h4 h5 h6 h7 h8 h9 h10 h11
end Go.Proofs.Ytgldjjmpjaegfaa
