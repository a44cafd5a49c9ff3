/- FrameJoin: the records of two rows, one behind the other, are those of both, and what is none between them ends it. -/
import Derived.Test.YtklpmpohbhhfaaaTorn5
namespace Go.Proofs.Ytklpmpohbhhfaaa
open Go.RowKit
set_option linter.unusedVariables false

theorem Rds.join {w : World} {B : Nat} {A : Option Addr} {va vb : List Value} {a b : List (List UInt8)} (h : Rd w B A (va ++ vb)) (h1 : va.length = a.length) (h2 : vb.length = b.length)
    (ea : ∀ (i : Nat) (l : List UInt8), a[i]? = some l → ∃ A' c', va[i]? = some (.slice A' l.length c') ∧ l.length ≤ c' ∧ c' ≤ maxLen ∧ Rd w B A' (l.map B8))
    (eb : ∀ (i : Nat) (l : List UInt8), b[i]? = some l → ∃ A' c', vb[i]? = some (.slice A' l.length c') ∧ l.length ≤ c' ∧ c' ≤ maxLen ∧ Rd w B A' (l.map B8)) : Rds w B A (a ++ b) := by
  refine ⟨va ++ vb, h, by simp [h1, h2], fun i l hl => ?_⟩
  rcases Nat.lt_or_ge i a.length with hi | hi
  · rw [List.getElem?_append_left hi] at hl
    obtain ⟨A', c', e, r⟩ := ea i l hl
    exact ⟨A', c', by rw [List.getElem?_append_left (by omega)]; exact e, r⟩
  · rw [List.getElem?_append_right hi] at hl
    obtain ⟨A', c', e, r⟩ := eb _ l hl
    exact ⟨A', c', by rw [List.getElem?_append_right (by omega), h1]; exact e, r⟩
/-- What an argument of slices is, taken apart. -/
theorem Rds.cells {w : World} {B : Nat} {A : Option Addr} {a : List (List UInt8)} (h : Rds w B A a) : ∃ va : List Value, va.length = a.length ∧ (∀ u ∈ va, u.oneCell' = true) ∧ (∀ w' B', Below B w w' → B ≤ B' → Rd w' B' A va ∧ ∀ (i : Nat) (l : List UInt8), a[i]? = some l → ∃ A' c', va[i]? = some (.slice A' l.length c') ∧ l.length ≤ c' ∧ c' ≤ maxLen ∧ Rd w' B' A' (l.map B8)) := by
  obtain ⟨va, h1, h2, h3⟩ := h
  refine ⟨va, h2, fun u hu => ?_, fun w' B' hb hB => ⟨(h1.below hb).more hB, fun i l hl => ?_⟩⟩
  · obtain ⟨i, hi, rfl⟩ := List.getElem_of_mem hu
    have hl : a[i]? = some (a[i]'(by omega)) := List.getElem?_eq_getElem (by omega)
    obtain ⟨A', c', e, _⟩ := h3 i _ hl
    rw [List.getElem?_eq_getElem hi] at e
    injection e with e
    rw [e]; rfl
  · obtain ⟨A', c', e, x, y, z⟩ := h3 i l hl
    exact ⟨A', c', e, x, y, (z.below hb).more hB⟩
/-- append of such onto a row of one's own. -/
theorem appL {w : World} {ty : TypeId} {base : Nat} {v : Value} {q : Nat} {xs : List Value} (hown : w.ownsRow base 22 1 v q xs) {B : Nat} {A : Option Addr} {c : Nat} {vs : List Value} (hr : Rd w B A vs) (h1 : ∀ u ∈ vs, u.oneCell' = true) (hq : q + vs.length ≤ 1000000) (hbase : base ≤ w.heap.size) {m : Nat} (hm : m = vs.length) :
    ∃ v' w', (Builtin.append_ #[24, 24] ty #[v, .slice A m c]).run Try.prog w = .ok v' w' ∧ (w'.ownsRow base 22 1 v' (q + m) (xs ++ vs) ∧ Grew w w' v v') := by
  subst hm
  obtain ⟨i0, hi, hz0, hz1, hz2⟩ := info_parts infoS
  obtain ⟨v', w', r1, r2, r3⟩ := run_append_rd (P := Try.prog) w base 24 ty 22 i0 _ 1 24 Try.underlying24 hi hz0 hz1 hz2 rfl v q xs hown B A vs.length c vs (by simp) hr h1 (by unfold maxLen; omega) (by omega) hbase
  exact ⟨v', w', r1, r2, r3⟩
theorem appBm {w : World} {ty : TypeId} {base : Nat} {v : Value} {q : Nat} {k l : List UInt8} (hown : w.ownsRow base 5 1 v q (k.map B8)) {B : Nat} {A : Option Addr} {c : Nat} (hr : Rd w B A (l.map B8))
    (hl : k.length + l.length ≤ 4294967296) (hbase : base ≤ w.heap.size) (hq : q = k.length) {m : Nat} (hm : m = l.length) :
    ∃ v' w', (Builtin.append_ #[22, 22] ty #[v, .slice A m c]).run Try.prog w = .ok v' w' ∧ (w'.ownsRow base 5 1 v' (q + m) ((k ++ l).map B8) ∧ Grew w w' v v') := by
  subst hm
  subst hq
  obtain ⟨v', w', h1, h2, h3⟩ := appB (ty := ty) hown hr hl hbase (c := c)
  exact ⟨v', w', h1, by rw [List.length_append] at h2; exact h2, h3⟩

set_option maxHeartbeats 1000000 in
set_option maxRecDepth 100000 in
theorem join5_out (aA : Option Addr) (an ac : Nat) (bA : Option Addr) (bn bc : Nat) (j : Int) (w : World) (h : 12 < an ∨ 12 < bn) (ha : an ≤ maxLen) (hb : bn ≤ maxLen) :
    Calls Try.prog 5 #[.slice aA an ac, .slice bA bn bc, .int .u8 j] w fun e w' => e = .returned (.bool true) ∧ Below w.heap.size w w' := by
  unfold maxLen at ha hb
  have hh : (12 < an) ∨ (¬ 12 < an ∧ 12 < bn) := by omega
  clear h
  rcases hh with h1 | ⟨h1, h2⟩
  all_goals
    go_enter Try.func5, Try.ntmps5
    go_wp2_with (go_at_call 7; refine (alive5_calls _).mono ?_; rintro e w1 ⟨rfl, hb1⟩)
    go_ret
    exact ⟨rfl, hb1⟩

set_option maxHeartbeats 4000000 in
set_option maxRecDepth 100000 in
theorem join5_in (aA : Option Addr) (a : List (List UInt8)) (an ac : Nat) (bA : Option Addr) (b : List (List UInt8)) (bn bc j : Nat) (w : World) (hna : an = a.length) (hnb : bn = b.length) (hca : an ≤ ac) (hcb : bn ≤ bc) (h12a : an ≤ 12) (h12b : bn ≤ 12) (hj : j < 256) (ra : Rds w w.heap.size aA a) (rb : Rds w w.heap.size bA b) :
    Calls Try.prog 5 #[.slice aA an ac, .slice bA bn bc, .int .u8 j] w fun e w' => e = .returned (.bool true) ∧ Below w.heap.size w w' := by
  have NA := Lib.hid hna
  have NB := Lib.hid hnb
  have RA := Lib.hid ra
  have RB := Lib.hid rb
  clear hna hnb ra rb
  have q1 : ¬ 12 < an := by omega
  have q2 : ¬ 12 < bn := by omega
  have d1 : decide (12 < (an : Int)) = false := by simp; omega
  have d2 : decide (12 < (bn : Int)) = false := by simp; omega
  go_enter Try.func5, Try.ntmps5
  go_wp2_with (go_at_call 7; refine (alive5_calls _).mono ?_; rintro e w1 ⟨rfl, hb1⟩; have B1 := Lib.hid hb1; clear hb1)
  clear d1 d2 q1 q2
  go_loopw [8, 10] (fun x i wr => ∃ k : Nat, k ≤ an ∧ i = .int .i64 k ∧ Hid (∀ p ∈ a.take k, p.length ≤ 200) ∧ Hid (wr.ownsRow w.heap.size 5 1 x (Fm.recs (a.take k)).length ((Fm.recs (a.take k)).map B8)) ∧ Hid (Below w.heap.size w wr)) (fun _ i _ => an - (intOf i).toNat)
  case atStart => exact ⟨0, by omega, rfl, Lib.hid (by simp), Lib.hid (World.ownsRow_nil _ _ _ _), B1⟩
  case round =>
    obtain ⟨k, hk, rfl, HL, HO, HW⟩ := hrel
    have hws := HW.out.size
    have hrl : (Fm.recs (a.take k)).length ≤ 2568 := by
      have := Fm.recs_le (a.take k) 200 HL.out
      have h2 : (a.take k).length ≤ 12 := by rw [List.length_take]; omega
      omega
    by_cases hlt : k < an
    · obtain ⟨b', off', Z, cx, rfl, hbl, hcell, hx1, hx2, hxr⟩ := (RA.out.below HW.out).at_ (k := k) (by have := NA.out; omega)
      have i0 : (0 : Int) ≤ (k : Int) := by omega
      have i1 : (k : Int) < (an : Int) := by omega
      have hsn := Fm.recs_snoc a k (by have := NA.out; omega)
      have htk : a.take (k + 1) = a.take k ++ [a.getD k []] := by
        have hk' : k < a.length := by have := NA.out; omega
        rw [List.take_succ_eq_append_getElem hk']; simp [List.getD, hk']
      have HSN := Lib.hid hsn
      have HTK := Lib.hid htk
      have XR := Lib.hid hxr
      clear hsn htk hxr
      generalize a.getD k [] = p at *
      by_cases h100 : 200 < p.length
      · go_wp2
        go_ret
        exact ⟨rfl, HW.out⟩
      · have hp2 : p.length ≤ 200 := by omega
        have HBY := Lib.hid (bytes_calls Z p cx _ wr XR.out (by omega) (by omega))
        have hrp : (Fm.rec p).length ≤ 214 := by have := Fm.rec_len p; have := (Mi.put_len p.length).2; omega
        have HL2 : Hid (∀ q ∈ a.take (k + 1), q.length ≤ 200) := by
          show ∀ q ∈ a.take (k + 1), q.length ≤ 200
          rw [HTK.out]
          intro q hq
          rcases List.mem_append.1 hq with hq | hq
          · exact HL.out q hq
          · simp at hq; subst hq; exact hp2
        generalize hR : Fm.recs (a.take k) = R at *
        clear hR HL
        obtain ⟨yA, yc, hbv, hbc, _⟩ := own_rd HO.out
        subst hbv
        go_wp2_with (first
          | (go_at_call 10; refine HBY.out.mono ?_; rintro e w2 ⟨v2, rfl, ho2, hg2⟩; have hb2 := hg2.new; obtain ⟨A2, c2, rfl, hc2, hr2⟩ := own_rd ho2; have R2 := Lib.hid hr2; have B2 := Lib.hid (HW.out.trans (hb2.mono hws)); have O2 := Lib.hid (own_below HO.out hb2); have z2 := B2.out.size; clear ho2 hg2 hb2 hr2)
          | (at_builtin; refine wpList_app rfl (.tmp 42) (.tmp 47) _ _ rfl rfl rfl (appB O2.out R2.out (by omega) z2) ?_; rintro v3 w3 ⟨ho3, hg3⟩; have B3 := Lib.hid (hg3.below B2.out z2 (own_block_ge O2.out)); have O3 := Lib.hid ho3; clear ho3 hg3))
        go_roundw
        case rel => exact ⟨k + 1, by omega, by go_num, HL2, by rw [HSN.out]; exact O3, B3⟩
        case measure => simp [intOf]; omega
    · have hkn : an = k := by omega
      subst hkn
      have htk : a.take an = a := List.take_of_length_le (by have := NA.out; omega)
      rw [htk] at HL HO hrl
      clear htk
      obtain ⟨xA, xc, hbv, hxc, hxr⟩ := own_rd HO.out
      subst hbv
      have HLA := Lib.hid HL.out
      have RX := Lib.hid hxr
      have RB0 := Lib.hid ((RB.out.below HW.out).more hws)
      have RA0 := Lib.hid ((RA.out.below HW.out).more hws)
      have BW := Lib.hid HW.out
      have hwz := hws
      have hxl : (Fm.recs a).length ≤ 2568 := hrl
      clear HL HO HW hxr hws hrl RA RB B1
      generalize hX : Fm.recs a = X at *
      have HX := Lib.hid hX
      clear hX
      generalize wr = w0 at *
      go_wp2
      go_loopw [9, 11] (fun x i wr => ∃ k : Nat, k ≤ bn ∧ i = .int .i64 k ∧ Hid (∀ p ∈ b.take k, p.length ≤ 200) ∧ Hid (wr.ownsRow w0.heap.size 5 1 x (Fm.recs (b.take k)).length ((Fm.recs (b.take k)).map B8)) ∧ Hid (Below w0.heap.size w0 wr)) (fun _ i _ => bn - (intOf i).toNat)
      case atStart => exact ⟨0, by omega, rfl, Lib.hid (by simp), Lib.hid (World.ownsRow_nil _ _ _ _), Lib.hid (Below.refl _ _)⟩
      case round =>
        obtain ⟨k, hk, rfl, HL, HO, HW⟩ := hrel
        have hws := HW.out.size
        have hrl : (Fm.recs (b.take k)).length ≤ 2568 := by
          have := Fm.recs_le (b.take k) 200 HL.out
          have h2 : (b.take k).length ≤ 12 := by rw [List.length_take]; omega
          omega
        by_cases hlt : k < bn
        · obtain ⟨b', off', Z, cx, rfl, hbl, hcell, hx1, hx2, hxr⟩ := (RB0.out.below HW.out).at_ (k := k) (by have := NB.out; omega)
          have i0 : (0 : Int) ≤ (k : Int) := by omega
          have i1 : (k : Int) < (bn : Int) := by omega
          have hsn := Fm.recs_snoc b k (by have := NB.out; omega)
          have htk : b.take (k + 1) = b.take k ++ [b.getD k []] := by
            have hk' : k < b.length := by have := NB.out; omega
            rw [List.take_succ_eq_append_getElem hk']; simp [List.getD, hk']
          have HSN := Lib.hid hsn
          have HTK := Lib.hid htk
          have XR := Lib.hid hxr
          clear hsn htk hxr
          generalize b.getD k [] = p at *
          by_cases h100 : 200 < p.length
          · go_wp2
            go_ret
            exact ⟨rfl, BW.out.trans (HW.out.mono hwz)⟩
          · have hp2 : p.length ≤ 200 := by omega
            have HBY := Lib.hid (bytes_calls Z p cx _ wr XR.out (by omega) (by omega))
            have hrp : (Fm.rec p).length ≤ 214 := by have := Fm.rec_len p; have := (Mi.put_len p.length).2; omega
            have HL2 : Hid (∀ q ∈ b.take (k + 1), q.length ≤ 200) := by
              show ∀ q ∈ b.take (k + 1), q.length ≤ 200
              rw [HTK.out]
              intro q hq
              rcases List.mem_append.1 hq with hq | hq
              · exact HL.out q hq
              · simp at hq; subst hq; exact hp2
            generalize hR : Fm.recs (b.take k) = R at *
            clear hR HL
            obtain ⟨yA, yc, hbv, hbc, _⟩ := own_rd HO.out
            subst hbv
            go_wp2_with (first
              | (go_at_call 10; refine HBY.out.mono ?_; rintro e w2 ⟨v2, rfl, ho2, hg2⟩; have hb2 := hg2.new; obtain ⟨A2, c2, rfl, hc2, hr2⟩ := own_rd ho2; have R2 := Lib.hid hr2; have B2 := Lib.hid (HW.out.trans (hb2.mono hws)); have O2 := Lib.hid (own_below HO.out hb2); have z2 := B2.out.size; clear ho2 hg2 hb2 hr2)
              | (at_builtin; refine wpList_app rfl (.tmp 61) (.tmp 66) _ _ rfl rfl rfl (appB O2.out R2.out (by omega) z2) ?_; rintro v3 w3 ⟨ho3, hg3⟩; have B3 := Lib.hid (hg3.below B2.out z2 (own_block_ge O2.out)); have O3 := Lib.hid ho3; clear ho3 hg3))
            go_roundw
            case rel => exact ⟨k + 1, by omega, by go_num, HL2, by rw [HSN.out]; exact O3, B3⟩
            case measure => simp [intOf]; omega
        · have hkn : bn = k := by omega
          subst hkn
          have htk : b.take bn = b := List.take_of_length_le (by have := NB.out; omega)
          rw [htk] at HL HO hrl
          clear htk
          obtain ⟨yA, yc, hbv, hyc, hyr⟩ := own_rd HO.out
          subst hbv
          have RY := Lib.hid hyr
          have RX2 := Lib.hid ((RX.out.below HW.out).more hws)
          have RA2 := Lib.hid ((RA0.out.below HW.out).more hws)
          have RB2 := Lib.hid ((RB0.out.below HW.out).more hws)
          have BW2 := Lib.hid (BW.out.trans (HW.out.mono hwz))
          have HLB := Lib.hid HL.out
          have hyl : (Fm.recs b).length ≤ 2568 := hrl
          have hall : Fm.splits (X ++ Fm.recs b) = (a ++ b, X.length + (Fm.recs b).length) := by
            rw [← HX.out, ← Fm.recs_append, Fm.splits_all (a ++ b) (fun q hq => by
              rcases List.mem_append.1 hq with h | h
              · have := HLA.out q h; omega
              · have := HLB.out q h; omega), Fm.recs_append, List.length_append]
          obtain ⟨cj, hcj1, hcj2⟩ := Mi.or128u (UInt8.ofNat j)
          have hjn : (UInt8.ofNat j).toNat = j := by rw [UInt8.toNat_ofNat']; omega
          rw [hjn] at hcj2
          have hjunk : Fm.splits (X ++ ([cj, 0] ++ Fm.recs b)) = (a, X.length) := by
            rw [← HX.out]
            exact Fm.splits_more a _ (fun q hq => by have := HLA.out q hq; omega) (by rw [show [cj, 0] ++ Fm.recs b = cj :: 0 :: Fm.recs b from rfl, Fm.first_junk cj (Fm.recs b) hcj1])
          clear HL HO HW hyr hws hrl RX RA0 RB0 BW hwz
          generalize Fm.recs b = Y at *
          clear HX hjn hcj1
          generalize wr = w2 at *
          obtain ⟨va, va1, va2, va3⟩ := RA2.out.cells
          obtain ⟨vb, vb1, vb2, vb3⟩ := RB2.out.cells
          have VA3 := Lib.hid va3
          have VB3 := Lib.hid vb3
          have VA2 := Lib.hid va2
          have VB2 := Lib.hid vb2
          have hva := Lib.hid va1
          have hvb := Lib.hid vb1
          have hva4 : va.length ≤ 12 := by have := NA.out; omega
          have hvb4 : vb.length ≤ 12 := by have := NB.out; omega
          have SP1 := Lib.hid (fun A c W (hr : Rd W W.heap.size A ((X ++ Y).map B8)) (hc : X.length + Y.length ≤ c) => split_calls A (X ++ Y) (X.length + Y.length) c W (by rw [List.length_append]) hr hc (by omega))
          rw [hall] at SP1
          have SP2 := Lib.hid (fun A c W (hr : Rd W W.heap.size A ((X ++ ([cj, 0] ++ Y)).map B8)) (hc : X.length + 2 + Y.length ≤ c) => split_calls A (X ++ ([cj, 0] ++ Y)) (X.length + 2 + Y.length) c W (by simp; omega) hr hc (by omega))
          rw [hjunk] at SP2
          clear hall hjunk va1 va2 va3 vb1 vb2 vb3
          have cjb := cj.toNat_lt
          have d0 : True := trivial
          go_wp2_with (first
            | (have hd := d10; clear d10; go_at_call 12; refine (same_calls _ a an _ _ a an _ _ _ NA.out NA.out M12.out RA12.out (by omega) (by omega)).mono ?_; simp only [decide_true]; rintro e w15 ⟨rfl, j15, rfl⟩)
            | (have hd := d9; clear d9; go_at_call 12; refine (same_calls _ (a ++ b) (an + bn) _ _ (a ++ b) (an + bn) _ _ _ (by rw [List.length_append, ← NA.out, ← NB.out]) (by rw [List.length_append, ← NA.out, ← NB.out]) L11.out J11.out (by omega) (by omega)).mono ?_; simp only [decide_true]; rintro e w12 ⟨rfl, hj12⟩; have B12 : Hid (Below w2.heap.size w2 w12) := (by obtain ⟨i, rfl⟩ := hj12; exact below_drewN B11.out i); have M12 : Hid (Rds w12 w11.heap.size mA a) := (by obtain ⟨i, rfl⟩ := hj12; exact M11.out.drewN i); have RA12 : Hid (Rds w12 w11.heap.size aA a) := (by obtain ⟨i, rfl⟩ := hj12; exact RA11.out.drewN i); clear hj12; have d10 := trivial)
            | (have hd := d8; clear d8; at_builtin; refine wpList_app rfl (.tmp 90) (.tmp 91) _ _ rfl rfl rfl (appL O10.out (VB3.out _ _ B10.out z10).1 VB2.out (by omega) zd10 (by rw [hvb.out, NB.out])) ?_; rintro v11 w11 ⟨ho11, hg11⟩; have D11 := Lib.hid (hg11.below D10.out zd10 (own_block_ge O10.out)); have B11 := Lib.hid (B9.out.trans (D11.out.mono z9)); have z11 := B11.out.size; obtain ⟨A11, c11, rfl, _, hr11⟩ := own_rd ho11; have J11 := Lib.hid (Rds.join hr11 hva.out hvb.out (VA3.out _ _ B11.out z11).2 (VB3.out _ _ B11.out z11).2); have zd11 := D11.out.size; have L11 := Lib.hid ((L9.out.below D11.out).more zd11); have M11 := Lib.hid ((M9.out.below D11.out).more zd11); have RA11 := Lib.hid ((RA2.out.below B11.out).more z11); clear ho11 hg11 hr11; have d9 := trivial)
            | (have hd := d7; clear d7; at_builtin; refine wpList_app rfl (.const (.slice none 0 0)) (.tmp 89) _ _ rfl rfl rfl (appL (World.ownsRow_nil _ w9.heap.size _ _) (VA3.out _ _ B9.out z9).1 VA2.out (by omega) (Nat.le_refl _) (by rw [hva.out, NA.out])) ?_; rintro v10 w10 ⟨ho10, hg10⟩; rw [Nat.zero_add, List.nil_append] at ho10; have D10 := Lib.hid (hg10.below (Below.refl w9.heap.size w9) (Nat.le_refl _) (by simp [Value.ownBlock])); have B10 := Lib.hid (B9.out.trans (D10.out.mono z9)); have z10 := B10.out.size; have zd10 := D10.out.size; obtain ⟨A10, c10, rfl, _, _⟩ := own_rd ho10; have O10 := Lib.hid ho10; clear ho10 hg10; have d8 := trivial)
            | (have hd := d6; clear d6; go_at_call 8; refine (SP2.out _ _ _ R8.out hc8).mono ?_; rintro e w9 ⟨v9, rfl, ho9, hb9⟩; have C9 := Lib.hid (C8.out.trans (hb9.mono zc8)); have B9 := Lib.hid (B5.out.trans (C9.out.mono z5)); have z9 := B9.out.size; have zc9 := C9.out.size; obtain ⟨mA, mc, rfl, _, hr9⟩ := ho9.rds; rw [← NA.out]; have M9 := Lib.hid hr9; have L9 := Lib.hid ((L5.out.below C9.out).more zc9); clear ho9 hb9 hr9; have d7 := trivial)
            | (have hd := d5; clear d5; at_builtin; refine wpList_app rfl (.tmp 82) (.tmp 83) _ _ rfl rfl rfl (appBm (k := X ++ [cj, 0]) O7.out (RY.out.below B7.out) (by simp; omega) zc7 (by simp) rfl) ?_; rintro v8 w8 ⟨ho8, hg8⟩; rw [List.append_assoc] at ho8; have C8 := Lib.hid (hg8.below C7.out zc7 (own_block_ge O7.out)); have zc8 := C8.out.size; obtain ⟨A8, c8, rfl, hc8, hr8⟩ := own_rd ho8; have R8 := Lib.hid hr8; clear ho8 hg8 hr8; have d6 := trivial)
            | (have hd := d4; clear d4; at_builtin; refine wpList_app rfl (.tmp 78) (.tmp 81) _ _ rfl rfl rfl (appBm (k := X) (l := [cj, 0]) (O6.out.alloc _) (show Rd _ _ _ (([cj, 0] : List UInt8).map B8) from Rd.lit w6 _ _) (by simp; omega) (by simp; omega) rfl rfl) ?_; rintro v7 w7 ⟨ho7, hg7⟩; have C7 := Lib.hid (hg7.alloc.below C6.out zc6 (own_block_ge O6.out)); have zc7 := C7.out.size; have B7 := Lib.hid (B5.out.trans (C7.out.mono z5)); obtain ⟨A7, c7, rfl, _, _⟩ := own_rd ho7; have O7 := Lib.hid ho7; clear ho7 hg7; have d5 := trivial)
            | (have hd := d3; clear d3; at_builtin; refine wpList_app rfl (.const (.slice none 0 0)) (.tmp 77) _ _ rfl rfl rfl (appBm (k := []) (World.ownsRow_nil _ w5.heap.size _ _) (RX2.out.below B5.out) (by simp; omega) (Nat.le_refl _) rfl rfl) ?_; rintro v6 w6 ⟨ho6, hg6⟩; rw [Nat.zero_add, List.nil_append] at ho6; have C6 := Lib.hid (hg6.below (Below.refl w5.heap.size w5) (Nat.le_refl _) (by simp [Value.ownBlock])); have zc6 := C6.out.size; obtain ⟨A6, c6, rfl, _, _⟩ := own_rd ho6; have O6 := Lib.hid ho6; clear ho6 hg6; have d4 := trivial)
            | (have hd := d2; clear d2; go_at_call 8; refine (SP1.out _ _ _ R4.out hc4).mono ?_; rintro e w5 ⟨v5, rfl, ho5, hb5⟩; have B5 := Lib.hid (B4.out.trans (hb5.mono z4)); have z5 := B5.out.size; obtain ⟨lA, lc, rfl, _, hr5⟩ := ho5.rds; rw [List.length_append, ← NA.out, ← NB.out]; have L5 := Lib.hid hr5; clear ho5 hb5 hr5; have d3 := trivial)
            | (have hd := d1; clear d1; at_builtin; refine wpList_app rfl (.tmp 70) (.tmp 71) _ _ rfl rfl rfl (appBm O3.out (RY.out.below B3.out) (by omega) z3 rfl rfl) ?_; rintro v4 w4 ⟨ho4, hg4⟩; have B4 := Lib.hid (hg4.below B3.out z3 (own_block_ge O3.out)); have z4 := B4.out.size; obtain ⟨A4, c4, rfl, hc4, hr4⟩ := own_rd ho4; have R4 := Lib.hid hr4; clear ho4 hg4 hr4; have d2 := trivial)
            | (have hd := d0; clear d0; at_builtin; refine wpList_app rfl (.const (.slice none 0 0)) (.tmp 69) _ _ rfl rfl rfl (appBm (k := []) (World.ownsRow_nil _ w2.heap.size _ _) RX2.out (by simp; omega) (Nat.le_refl _) rfl rfl) ?_; rintro v3 w3 ⟨ho3, hg3⟩; rw [Nat.zero_add, List.nil_append] at ho3; have B3 := Lib.hid (hg3.below (Below.refl w2.heap.size w2) (Nat.le_refl _) (by simp [Value.ownBlock])); have z3 := B3.out.size; obtain ⟨A3, c3, rfl, _, _⟩ := own_rd ho3; have O3 := Lib.hid ho3; clear ho3 hg3; have d1 := trivial))
          go_ret
          exact ⟨rfl, BW2.out.trans ((below_drewN B12.out j15).mono BW2.out.size)⟩
end Go.Proofs.Ytklpmpohbhhfaaa
