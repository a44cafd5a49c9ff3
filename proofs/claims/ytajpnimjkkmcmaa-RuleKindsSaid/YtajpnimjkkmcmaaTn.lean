/- RuleTorn: no beginning of a policy is one, and none with more behind. -/
import Derived.Test.YtajpnimjkkmcmaaAl13
import Derived.Test.YtajpnimjkkmcmaaGx
import Derived.Test.YtajpnimjkkmcmaaPw2
namespace Go.Proofs.Ytajpnimjkkmcmaa
open Go.RowKit
set_option linter.unusedVariables false
set_option linter.unusedSimpArgs false
set_option maxRecDepth 100000

theorem put_one (n : Nat) (h : n ≤ 127) : (Mi.put n).length = 1 := by rw [Mi.put_step n (by omega), if_neg (by omega)]; rfl
mutual
theorem bts_le : ∀ (t : Rt), t.all = true → t.bts.length ≤ 36 * t.cnt
  | .mk k n key val kids, ha => by
    rw [Rt.all_mk, Bool.and_eq_true] at ha
    obtain ⟨h1, h2⟩ := ha
    rw [Rt.bts_mk, Rt.cnt_mk, List.length_cons]
    have hl := btsL_le kids h2
    split
    · simp; omega
    · split
      · rename_i c6
        have hk : key.size ≤ 16 ∧ val.size ≤ 16 := by
          unfold oneR at h1
          rw [if_pos c6] at h1
          simp at h1
          omega
        have s1 : key.data.toList.length = key.size := size_list key
        have s2 : val.data.toList.length = val.size := size_list val
        have e1 := put_one key.data.toList.length (by omega)
        have e2 := put_one val.data.toList.length (by omega)
        simp only [Mi.text, List.length_append, e1, e2]
        omega
      · split
        · have := (Mi.put_len kids.length).2
          simp only [List.length_append]
          omega
        · have := (Mi.put_len n.toNat).2
          omega
theorem btsL_le : ∀ (l : List Rt), allL l = true → (btsL l).length ≤ 36 * cntL l
  | [], _ => by simp [btsL]
  | r :: rs, h => by
    rw [allL, Bool.and_eq_true] at h
    rw [btsL, List.length_append, cntL]
    have h1 := bts_le r h.1
    have h2 := btsL_le rs h.2
    omega
end
theorem bts_small {t : Rt} (h : t.right = true) : t.bts.length ≤ 720 := by
  obtain ⟨h1, h2, h3⟩ := (t.right_iff).1 h
  have := bts_le t h3
  omega
theorem lit5 (w : World) : Rd (w.alloc (.cells #[.int .u8 5] 5)) (w.alloc (.cells #[.int .u8 5] 5)).heap.size (some ⟨w.heap.size, 0, none⟩) (([5] : List UInt8).map B8) := by
  have h := Rd.lit w #[.int .u8 5] 5
  refine Rd.more (B := w.heap.size + 1) ?_ (by simp)
  simpa [B8] using h
theorem read_not (l : List UInt8) (h : reads l = false) (hl : l.length ≤ 1000) (A : Option Addr) (n c : Nat) (W : World) (hn : n = l.length) (hr : Rd W W.heap.size A (l.map B8)) (hnc : n ≤ c) (hcm : c ≤ maxLen) :
    Calls Try.prog 25 #[.slice A n c] W fun e w' => ∃ (k q : Int) (y s : ByteArray) (A' : Option Addr) (m e' : Nat), e = .returned (.tuple #[.agg #[.int .i64 k, .int .i64 q, .string y, .string s, .slice A' m e'], .int .i64 2]) ∧ Below W.heap.size W w' := by
  refine (read_any A l n c W.heap.size W hn hr (Nat.le_refl _) hnc hcm hl).mono ?_
  rintro e w' ⟨cs, rfl, h1, h2⟩
  obtain ⟨k, q, y, v, ks, A', c', _, rfl⟩ := h1.inv
  have he : readE l = 2 := by unfold readE; rw [h]; rfl
  rw [he]
  exact ⟨k, q, y, v, A', _, c', rfl, h2⟩
set_option maxHeartbeats 32000000 in
theorem torn13 {w : World} {t : Rt} {c : List Value} (h : RdR w w.heap.size t c) (cut : Int) (hcm : cut ≤ 9223372036854775807) :
    Calls Try.prog 7 #[.agg c.toArray, .int .i64 cut] w fun e w' => e = .returned (.bool true) ∧ Below w.heap.size w w' := by
  have ALV := Lib.hid (fun W => alive13_calls W)
  have KB := Lib.hid (fun W (hW : Below w.heap.size w W) => refbytes_all h W hW hW.size (fun hr => by have := bts_small hr; omega))
  have KF := Lib.hid (fun W (hW : Below w.heap.size w W) => few13_any h W hW hW.size)
  have NM := Lib.hid (fun n W => num_any13 n W)
  obtain ⟨fw, hfw⟩ : ∃ fw, few13 t = fw := ⟨_, rfl⟩
  rw [hfw] at KF
  have HS := Lib.hid (fun hr : t.right = true => bts_small hr)
  have HC := Lib.hid (fun hr : t.right = true => reads_cut hr)
  have HM := Lib.hid (fun hr : t.right = true => reads_more hr 5 [])
  have HP := Lib.hid t.bts_ne
  obtain ⟨ri, hri⟩ : ∃ ri, t.right = ri := ⟨_, rfl⟩
  rw [hri] at KB HS HC HM
  obtain ⟨k, n, key, val, kids, kA, kc, ht, rfl⟩ := h.inv
  generalize t.bts = X at KB HS HC HM HP
  clear hfw hri ht h
  generalize kids.length = m at KB KF ⊢
  simp only [rcs] at KB KF ⊢
  have R0 := Lib.hid (heap_alloc_new w (.cells #[.int .i64 k, .int .i64 n, .string key, .string val, .slice kA m kc] 43))
  have B0 := Lib.hid ((Below.refl w.heap.size w).alloc (Nat.le_refl _) (.cells #[.int .i64 k, .int .i64 n, .string key, .string val, .slice kA m kc] 43))
  have hz0 : w.heap.size < (w.alloc (.cells #[.int .i64 k, .int .i64 n, .string key, .string val, .slice kA m kc] 43)).heap.size := by simp
  cases fw
  · generalize (if ri = true then X else []) = Y at KB
    clear HS HC HM HP
    go_enter Try.func7, Try.ntmps7
    go_wp2_with (first
      | (go_at_call 23; (with_reducible refine (KF.out _ B2.out).mono ?_); rintro e w3 ⟨rfl, hb3⟩; have B3 := Lib.hid (B2.out.trans (hb3.mono B2.out.size)); have HX3 := Lib.hid ((HX2.out.below hb3).more hb3.size); (clear c0 c1 c2 c3 c4); clear hb3)
      | (go_at_call 29; (with_reducible refine (KB.out _ B1.out).mono ?_); rintro e w2 ⟨v2, rfl, ho2, hb2⟩; obtain ⟨xA, xc, rfl, hxc, hxr⟩ := own_rd ho2; have hcx := own_cap ho2; have R2 := Lib.hid ((hb2.block w.heap.size hz1).trans R1.out); have B2 := Lib.hid (B1.out.trans (hb2.mono B1.out.size)); have HX2 := Lib.hid hxr; have HXC := Lib.hid hcx; (clear c0 c1 c2 c3 c4); have c0 : w2.cell? ⟨w.heap.size, 0, none⟩ = some (.int .i64 k) := cell_of_row _ _ 0 _ _ (0, 0) R2.out; have c1 : w2.cell? ⟨w.heap.size, 1, none⟩ = some (.int .i64 n) := cell_of_row _ _ 1 _ _ (0, 0) R2.out; have c2 : w2.cell? ⟨w.heap.size, 2, none⟩ = some (.string key) := cell_of_row _ _ 2 _ _ (0, 0) R2.out; have c3 : w2.cell? ⟨w.heap.size, 3, none⟩ = some (.string val) := cell_of_row _ _ 3 _ _ (0, 0) R2.out; have c4 : w2.cell? ⟨w.heap.size, 4, none⟩ = some (.slice kA m kc) := cell_of_row _ _ 4 _ _ (0, 0) R2.out; clear hb2 ho2 hxr hcx hxc)
      | (go_at_call 22; (with_reducible refine (ALV.out _).mono ?_); rintro e w1 ⟨rfl, hb1⟩; have R1 := Lib.hid ((hb1.block w.heap.size hz0).trans R0.out); have hz1 : w.heap.size < w1.heap.size := Nat.lt_of_lt_of_le hz0 hb1.size; have B1 := Lib.hid (B0.out.trans (hb1.mono B0.out.size)); have c0 : w1.cell? ⟨w.heap.size, 0, none⟩ = some (.int .i64 k) := cell_of_row _ _ 0 _ _ (0, 0) R1.out; have c1 : w1.cell? ⟨w.heap.size, 1, none⟩ = some (.int .i64 n) := cell_of_row _ _ 1 _ _ (0, 0) R1.out; have c2 : w1.cell? ⟨w.heap.size, 2, none⟩ = some (.string key) := cell_of_row _ _ 2 _ _ (0, 0) R1.out; have c3 : w1.cell? ⟨w.heap.size, 3, none⟩ = some (.string val) := cell_of_row _ _ 3 _ _ (0, 0) R1.out; have c4 : w1.cell? ⟨w.heap.size, 4, none⟩ = some (.slice kA m kc) := cell_of_row _ _ 4 _ _ (0, 0) R1.out; clear hb1))
    go_ret
    exact ⟨rfl, B3.out⟩
  · cases ri
    · simp only [Bool.false_eq_true, if_false] at KB
      clear HS HC HM HP
      go_enter Try.func7, Try.ntmps7
      go_wp2_with (first
        | (go_at_call 23; (with_reducible refine (KF.out _ B2.out).mono ?_); rintro e w3 ⟨rfl, hb3⟩; have B3 := Lib.hid (B2.out.trans (hb3.mono B2.out.size)); have HX3 := Lib.hid ((HX2.out.below hb3).more hb3.size); (clear c0 c1 c2 c3 c4); clear hb3)
        | (go_at_call 29; (with_reducible refine (KB.out _ B1.out).mono ?_); rintro e w2 ⟨v2, rfl, ho2, hb2⟩; obtain ⟨xA, xc, rfl, hxc, hxr⟩ := own_rd ho2; have hcx := own_cap ho2; have R2 := Lib.hid ((hb2.block w.heap.size hz1).trans R1.out); have B2 := Lib.hid (B1.out.trans (hb2.mono B1.out.size)); have HX2 := Lib.hid hxr; have HXC := Lib.hid hcx; (clear c0 c1 c2 c3 c4); have c0 : w2.cell? ⟨w.heap.size, 0, none⟩ = some (.int .i64 k) := cell_of_row _ _ 0 _ _ (0, 0) R2.out; have c1 : w2.cell? ⟨w.heap.size, 1, none⟩ = some (.int .i64 n) := cell_of_row _ _ 1 _ _ (0, 0) R2.out; have c2 : w2.cell? ⟨w.heap.size, 2, none⟩ = some (.string key) := cell_of_row _ _ 2 _ _ (0, 0) R2.out; have c3 : w2.cell? ⟨w.heap.size, 3, none⟩ = some (.string val) := cell_of_row _ _ 3 _ _ (0, 0) R2.out; have c4 : w2.cell? ⟨w.heap.size, 4, none⟩ = some (.slice kA m kc) := cell_of_row _ _ 4 _ _ (0, 0) R2.out; clear hb2 ho2 hxr hcx hxc)
        | (go_at_call 22; (with_reducible refine (ALV.out _).mono ?_); rintro e w1 ⟨rfl, hb1⟩; have R1 := Lib.hid ((hb1.block w.heap.size hz0).trans R0.out); have hz1 : w.heap.size < w1.heap.size := Nat.lt_of_lt_of_le hz0 hb1.size; have B1 := Lib.hid (B0.out.trans (hb1.mono B0.out.size)); have c0 : w1.cell? ⟨w.heap.size, 0, none⟩ = some (.int .i64 k) := cell_of_row _ _ 0 _ _ (0, 0) R1.out; have c1 : w1.cell? ⟨w.heap.size, 1, none⟩ = some (.int .i64 n) := cell_of_row _ _ 1 _ _ (0, 0) R1.out; have c2 : w1.cell? ⟨w.heap.size, 2, none⟩ = some (.string key) := cell_of_row _ _ 2 _ _ (0, 0) R1.out; have c3 : w1.cell? ⟨w.heap.size, 3, none⟩ = some (.string val) := cell_of_row _ _ 3 _ _ (0, 0) R1.out; have c4 : w1.cell? ⟨w.heap.size, 4, none⟩ = some (.slice kA m kc) := cell_of_row _ _ 4 _ _ (0, 0) R1.out; clear hb1))
      go_ret
      exact ⟨rfl, B3.out⟩
    · simp only [if_true] at KB
      obtain ⟨xl, hxl⟩ : ∃ xl, xl = X.length := ⟨_, rfl⟩
      have hx0 : 0 < xl := by have := HP.out; omega
      have q1 : ((xl : Int) == 0) = false := by rw [beq_eq_false_iff_ne]; omega
      have HXL := Lib.hid hxl
      clear hxl
      by_cases hcut : cut < 0
      · clear HS HC HM HP
        have d1 : decide (cut < 0) = true := decide_eq_true hcut
        go_enter Try.func7, Try.ntmps7
        go_wp2_with (first
          | (go_at_call 23; (with_reducible refine (KF.out _ B2.out).mono ?_); rintro e w3 ⟨rfl, hb3⟩; have B3 := Lib.hid (B2.out.trans (hb3.mono B2.out.size)); have HX3 := Lib.hid ((HX2.out.below hb3).more hb3.size); (clear c0 c1 c2 c3 c4); clear hb3)
          | (go_at_call 29; (with_reducible refine (KB.out _ B1.out).mono ?_); rintro e w2 ⟨v2, rfl, ho2, hb2⟩; rw [← HXL.out] at ho2; obtain ⟨xA, xc, rfl, hxc, hxr⟩ := own_rd ho2; have hcx := own_cap ho2; have R2 := Lib.hid ((hb2.block w.heap.size hz1).trans R1.out); have B2 := Lib.hid (B1.out.trans (hb2.mono B1.out.size)); have HX2 := Lib.hid hxr; have HXC := Lib.hid hcx; (clear c0 c1 c2 c3 c4); have c0 : w2.cell? ⟨w.heap.size, 0, none⟩ = some (.int .i64 k) := cell_of_row _ _ 0 _ _ (0, 0) R2.out; have c1 : w2.cell? ⟨w.heap.size, 1, none⟩ = some (.int .i64 n) := cell_of_row _ _ 1 _ _ (0, 0) R2.out; have c2 : w2.cell? ⟨w.heap.size, 2, none⟩ = some (.string key) := cell_of_row _ _ 2 _ _ (0, 0) R2.out; have c3 : w2.cell? ⟨w.heap.size, 3, none⟩ = some (.string val) := cell_of_row _ _ 3 _ _ (0, 0) R2.out; have c4 : w2.cell? ⟨w.heap.size, 4, none⟩ = some (.slice kA m kc) := cell_of_row _ _ 4 _ _ (0, 0) R2.out; clear hb2 ho2 hxr hcx hxc)
          | (go_at_call 22; (with_reducible refine (ALV.out _).mono ?_); rintro e w1 ⟨rfl, hb1⟩; have R1 := Lib.hid ((hb1.block w.heap.size hz0).trans R0.out); have hz1 : w.heap.size < w1.heap.size := Nat.lt_of_lt_of_le hz0 hb1.size; have B1 := Lib.hid (B0.out.trans (hb1.mono B0.out.size)); have c0 : w1.cell? ⟨w.heap.size, 0, none⟩ = some (.int .i64 k) := cell_of_row _ _ 0 _ _ (0, 0) R1.out; have c1 : w1.cell? ⟨w.heap.size, 1, none⟩ = some (.int .i64 n) := cell_of_row _ _ 1 _ _ (0, 0) R1.out; have c2 : w1.cell? ⟨w.heap.size, 2, none⟩ = some (.string key) := cell_of_row _ _ 2 _ _ (0, 0) R1.out; have c3 : w1.cell? ⟨w.heap.size, 3, none⟩ = some (.string val) := cell_of_row _ _ 3 _ _ (0, 0) R1.out; have c4 : w1.cell? ⟨w.heap.size, 4, none⟩ = some (.slice kA m kc) := cell_of_row _ _ 4 _ _ (0, 0) R1.out; clear hb1))
        go_ret
        exact ⟨rfl, B3.out⟩
      · obtain ⟨cu, rfl⟩ := Int.eq_ofNat_of_zero_le (show 0 ≤ cut by omega)
        have HS7 : Hid (X.length ≤ 720) := Lib.hid (HS.out rfl)
        have hx7 : xl ≤ 720 := by have := HXL.out; have := HS7.out; omega
        obtain ⟨r, hr⟩ : ∃ r, r = cu % xl := ⟨_, rfl⟩
        have hr1 : r < xl := by rw [hr]; exact Nat.mod_lt _ hx0
        have er : (cu : Int) % (xl : Int) = (r : Int) := by rw [hr]; rfl
        have HERT : Hid ((cu : Int).tmod (xl : Int) = (r : Int)) := Lib.hid (by rw [Int.tmod_eq_emod_of_nonneg (by omega)]; exact er)
        have q2 : (xl = 0) = False := by simp; omega
        have d1 : decide ((cu : Int) < 0) = false := decide_eq_false (by omega)
        have HLT : Hid (r = (X.take r).length) := Lib.hid (by have := HXL.out; rw [List.length_take]; omega)
        obtain ⟨n8, hn8⟩ : ∃ n8, n8 = (X ++ [(5 : UInt8)]).length := ⟨_, rfl⟩
        have HN8 := Lib.hid hn8
        have KR1 := Lib.hid (read_not (X.take r) (HC.out rfl r (by have := HXL.out; omega)) (by have := HLT.out; omega))
        have KR2 := Lib.hid (read_not (X ++ [5]) (HM.out rfl) (by have := HXL.out; rw [List.length_append]; simp; omega))
        clear hr hcut HS HC HM HP hn8
        go_enter Try.func7, Try.ntmps7
        go_wp2_with (first
          | (go_at_call 31; (with_reducible refine (NM.out _ _).mono ?_); rintro e wn ⟨rfl, rfl⟩)
          | (have hd := done8; go_at_call 25; (with_reducible refine (KR2.out A8 n8 c8 w8 HN8.out HR8.out HC8.out.1 HC8.out.2).mono ?_); rintro e w9 ⟨k9, q9, y9, s9, A9, m9, e9, rfl, hb9⟩; have HL9 := hb9.trans (((Below.refl w9.heap.size w9).alloc (Nat.le_refl _) (.cells #[.int .i64 k9, .int .i64 q9, .string y9, .string s9, .slice A9 m9 e9] 43)).mono hb9.size); have B9 := Lib.hid (B8'.out.trans (HL9.mono B8'.out.size)); clear hb9 HL9 hd)
          | (have hd := done6; at_builtin; (refine wpList_app rfl (.tmp 43) (.tmp 44) _ _ rfl rfl rfl (A2.out _) ?_); rintro v8 w8 ⟨ho8, hg8⟩; rw [← HN8.out] at ho8; obtain ⟨A8, c8, rfl, _, hr8⟩ := own_rd ho8; have hc8 := own_cap ho8; have HC8 := Lib.hid hc8; have HR8 := Lib.hid hr8; have B8' := Lib.hid (hg8.below (B6.out.trans (HA6.out.mono B6.out.size)) (Nat.le_trans B6.out.size HA6.out.size) (fun q hq => Nat.le_trans B4.out.size (own_block_ge (own_below HO6.out HA6.out) q hq))); clear ho8 hg8 hc8 hr8 hd done6; have done8 := trivial)
          | (have hd := done4; at_builtin; (refine wpList_app rfl (.const (.slice none 0 0)) (.tmp 42) _ _ rfl rfl rfl (A1.out _) ?_); rintro v6 w6 ⟨ho6, hg6⟩; rw [List.nil_append] at ho6; have HO6 := Lib.hid ho6; have B6 := Lib.hid (B4.out.trans (hg6.new.mono B4.out.size)); have HA6 := Lib.hid ((Below.refl w6.heap.size w6).alloc (Nat.le_refl _) (.cells #[.int .u8 5] 5)); have A2 := Lib.hid (fun ty => appB (ty := ty) (c := 1) (own_below HO6.out HA6.out) (lit5 w6) (by have := HXL.out; have := HS7.out; simp; omega) (Nat.le_trans hg6.grown.size HA6.out.size)); have HG6 := Lib.hid hg6.grown.size; clear ho6 hg6 hd done4; have done6 := trivial)
          | (go_at_call 25; (with_reducible refine (KR1.out xA _ xc w3 HLT.out HT3.out i5 HXC.out.2).mono ?_); rintro e w4 ⟨k4, q4, y4, s4, A4, m4, e4, rfl, hb4⟩; have HL4 := hb4.trans (((Below.refl w4.heap.size w4).alloc (Nat.le_refl _) (.cells #[.int .i64 k4, .int .i64 q4, .string y4, .string s4, .slice A4 m4 e4] 43)).mono hb4.size); have B4 := Lib.hid (B3.out.trans (HL4.mono B3.out.size)); have HX4 := Lib.hid ((HX3.out.below HL4).more HL4.size); have A1 := Lib.hid (fun ty => appB (ty := ty) (c := xc) (own_nil (w4.alloc (.cells #[.int .i64 k4, .int .i64 q4, .string y4, .string s4, .slice A4 m4 e4] 43)) (w4.alloc (.cells #[.int .i64 k4, .int .i64 q4, .string y4, .string s4, .slice A4 m4 e4] 43)).heap.size) HX4.out (by have := HXL.out; have := HS7.out; simp; omega) (Nat.le_refl _)); rw [← HXL.out] at A1; clear hb4 HL4; have done4 := trivial)
          | (go_at_call 23; (with_reducible refine (KF.out _ B2.out).mono ?_); rintro e w3 ⟨rfl, hb3⟩; have B3 := Lib.hid (B2.out.trans (hb3.mono B2.out.size)); have HX3 := Lib.hid ((HX2.out.below hb3).more hb3.size); (clear c0 c1 c2 c3 c4); clear hb3; have HT3 : Hid (Rd w3 w3.heap.size xA ((X.take r).map B8)) := Lib.hid (by rw [List.map_take]; exact HX3.out.take r); have i5 : r ≤ xc := (Nat.le_trans (Nat.le_of_lt hr1) HXC.out.1); have i1 : (0 : Int) ≤ r := (by omega); have i2 : (r : Int) ≤ xl := (by omega); have i3 : (r : Int) ≤ xc := (by omega); have i4 : r ≤ xl := (by omega))
          | (go_at_call 29; (with_reducible refine (KB.out _ B1.out).mono ?_); rintro e w2 ⟨v2, rfl, ho2, hb2⟩; rw [← HXL.out] at ho2; obtain ⟨xA, xc, rfl, hxc, hxr⟩ := own_rd ho2; have hcx := own_cap ho2; have R2 := Lib.hid ((hb2.block w.heap.size hz1).trans R1.out); have B2 := Lib.hid (B1.out.trans (hb2.mono B1.out.size)); have HX2 := Lib.hid hxr; have HXC := Lib.hid hcx; (clear c0 c1 c2 c3 c4); have c0 : w2.cell? ⟨w.heap.size, 0, none⟩ = some (.int .i64 k) := cell_of_row _ _ 0 _ _ (0, 0) R2.out; have c1 : w2.cell? ⟨w.heap.size, 1, none⟩ = some (.int .i64 n) := cell_of_row _ _ 1 _ _ (0, 0) R2.out; have c2 : w2.cell? ⟨w.heap.size, 2, none⟩ = some (.string key) := cell_of_row _ _ 2 _ _ (0, 0) R2.out; have c3 : w2.cell? ⟨w.heap.size, 3, none⟩ = some (.string val) := cell_of_row _ _ 3 _ _ (0, 0) R2.out; have c4 : w2.cell? ⟨w.heap.size, 4, none⟩ = some (.slice kA m kc) := cell_of_row _ _ 4 _ _ (0, 0) R2.out; clear hb2 ho2 hxr hcx hxc)
          | (go_at_call 22; (with_reducible refine (ALV.out _).mono ?_); rintro e w1 ⟨rfl, hb1⟩; have R1 := Lib.hid ((hb1.block w.heap.size hz0).trans R0.out); have hz1 : w.heap.size < w1.heap.size := Nat.lt_of_lt_of_le hz0 hb1.size; have B1 := Lib.hid (B0.out.trans (hb1.mono B0.out.size)); have c0 : w1.cell? ⟨w.heap.size, 0, none⟩ = some (.int .i64 k) := cell_of_row _ _ 0 _ _ (0, 0) R1.out; have c1 : w1.cell? ⟨w.heap.size, 1, none⟩ = some (.int .i64 n) := cell_of_row _ _ 1 _ _ (0, 0) R1.out; have c2 : w1.cell? ⟨w.heap.size, 2, none⟩ = some (.string key) := cell_of_row _ _ 2 _ _ (0, 0) R1.out; have c3 : w1.cell? ⟨w.heap.size, 3, none⟩ = some (.string val) := cell_of_row _ _ 3 _ _ (0, 0) R1.out; have c4 : w1.cell? ⟨w.heap.size, 4, none⟩ = some (.slice kA m kc) := cell_of_row _ _ 4 _ _ (0, 0) R1.out; clear hb1))
        go_ret
        exact ⟨rfl, B9.out⟩
end Go.Proofs.Ytajpnimjkkmcmaa
