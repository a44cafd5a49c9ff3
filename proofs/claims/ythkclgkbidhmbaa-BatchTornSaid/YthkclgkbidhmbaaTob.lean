/- BatchTorn, one of its four ways. -/
import Derived.Test.YthkclgkbidhmbaaTo
import Derived.Test.YthkclgkbidhmbaaSn4
namespace Go.Proofs.Ythkclgkbidhmbaa
open Go.RowKit
set_option linter.unusedVariables false
set_option linter.unusedSimpArgs false
set_option maxRecDepth 100000

set_option maxHeartbeats 32000000 in
theorem torn4_b (A : Option Addr) (l : List Ls) (n c : Nat) (cut bit : Nat) (w : World) (hn : n = l.length) (hy : RdSps w w.heap.size A l) (hl : n ≤ maxLen) (hfw : fewAll l = true) (hrl : rightL l = true) (hcb : cut ≤ 9223372036854775807 ∧ bit ≤ 9223372036854775807)
    (hke : Bm.okB ((batchBytes l).take (cut % (batchBytes l).length)) = true) (hkf : Bm.okB (batchBytes l ++ [0]) = false) :
    Calls Try.prog 13 #[.slice A n c, .int .i64 (cut : Int), .int .i64 (bit : Int)] w fun e w' => e = .returned (.bool true) ∧ Below w.heap.size w w' := by
  obtain ⟨i0, hi0, hz0, hz1, hz2⟩ := info_parts infoB4'
  have HFW : Hid (∀ W, Below w.heap.size w W → Calls Try.prog 36 #[.slice A n c] W fun e w' => e = .returned (.bool true) ∧ Below W.heap.size W w') := Lib.hid (fun W hW => by rw [← hfw]; exact fewall_any A l n c w.heap.size W hn (hy.below hW) hW.size hl)
  have KBD : Hid (∀ W, Below w.heap.size w W → Calls Try.prog 51 #[.slice A n c] W (BytesOf (batchBytes l) W)) := Lib.hid (fun W hW => by have h := dbatchbytes_any A l n c w.heap.size W hn (hy.below hW) hW.size hl; rw [hrl, if_pos rfl] at h; exact h)
  obtain ⟨hx0, hx3⟩ := batch_len l hrl
  have hflip : ∀ k, k < 8 * (batchBytes l).length → Bm.okB (Cm.flip (batchBytes l) k) = false := fun k hk => by
    have hno : ¬ Ct.ok (Cm.flip (batchBytes l) k) := flip_no (encB l) k hk
    unfold Bm.okB
    rw [decide_eq_false hno]
    rfl
  generalize batchBytes l = X at *
  obtain ⟨xl, hxl⟩ : ∃ xl, xl = X.length := ⟨_, rfl⟩
  have HXL := Lib.hid hxl
  rw [← hxl] at hx0 hx3 hke hflip
  obtain ⟨r, hr⟩ : ∃ r, r = cut % xl := ⟨_, rfl⟩
  obtain ⟨k, hk⟩ : ∃ k, k = bit % (8 * xl) := ⟨_, rfl⟩
  rw [← hr] at hke
  have hr1 : r < xl := by rw [hr]; exact Nat.mod_lt _ hx0
  have hk1 : k < 8 * xl := by rw [hk]; exact Nat.mod_lt _ (by omega)
  have er : (cut : Int) % (xl : Int) = (r : Int) := by rw [hr]; rfl
  have ert : (cut : Int).tmod (xl : Int) = (r : Int) := by rw [Int.tmod_eq_emod_of_nonneg (by omega)]; exact er
  have ek : (bit : Int) % (8 * (xl : Int)) = (k : Int) := by rw [hk]; push_cast; rfl
  have hkg := hflip k hk1
  obtain ⟨p, hp⟩ : ∃ p, p = k / 8 := ⟨_, rfl⟩
  obtain ⟨t, ht⟩ : ∃ t, t = k % 8 := ⟨_, rfl⟩
  have dp : (k : Int) / 8 = (p : Int) := by omega
  have dt : (k : Int) % 8 = (t : Int) := by omega
  have t8 : t < 8 := by omega
  have hpx : p < xl := by omega
  obtain ⟨u, hu⟩ : ∃ u, u = X.getD p 0 := ⟨_, rfl⟩
  have HU := Lib.hid hu
  have X1 : bits .xor .u8 (u.toNat : Int) (2 ^ t % 256) = ((u ^^^ Cm.bitb k).toNat : Int) := by
    have h1 : (2 : Nat) ^ t < 256 := Nat.lt_of_lt_of_le (Nat.pow_lt_pow_right (by omega) t8) (by decide : 2 ^ 8 ≤ 256)
    have h2 : ((2 : Int) ^ t % 256) = ((2 ^ t : Nat) : Int) := by rw [show (2 : Int) ^ t = ((2 ^ t : Nat) : Int) from by push_cast; rfl]; exact Int.emod_eq_of_lt (Int.natCast_nonneg _) (by exact_mod_cast h1)
    rw [h2, u8_xor_nat _ _ u.toNat_lt h1, UInt8.toNat_xor, Cm.bitb_nat, ht]
  have HFL : Hid (X.set p (u ^^^ Cm.bitb k) = Cm.flip X k) := Lib.hid (by rw [hu, hp]; rfl)
  generalize u ^^^ Cm.bitb k = yy at *
  have u1 := u.toNat_lt
  obtain ⟨s1, KR1⟩ := read_er (X.take r) (by rw [List.length_take]; omega)
  obtain ⟨s2, KR2⟩ := read_er (X ++ [0]) (by rw [List.length_append, ← hxl]; simp; omega)
  obtain ⟨s3, KR3⟩ := read_er (Cm.flip X k) (by rw [Cm.flip_len]; omega)
  rw [hke, if_pos rfl] at KR1
  rw [hkf, if_neg (by simp)] at KR2
  rw [hkg, if_neg (by simp)] at KR3
  have HR1 := Lib.hid KR1
  have HR2 := Lib.hid KR2
  have HR3 := Lib.hid KR3
  have HLT : Hid (r = (X.take r).length) := Lib.hid (by rw [List.length_take]; omega)
  have HLF : Hid (xl = (Cm.flip X k).length) := Lib.hid (by rw [Cm.flip_len]; exact hxl)
  have KWE : Hid (∀ (A : Option Addr) (n c B : Nat) (w : World), n = (X.take r).length → Rd w B A ((X.take r).map B8) → B ≤ w.heap.size → (n ≤ c ∧ c ≤ maxLen) → Calls Try.prog 53 #[.slice A n c] w fun e w' => e = .returned (.bool true) ∧ Below w.heap.size w w') := Lib.hid (fun A n c B w h1 h2 h3 h4 => by rw [← hke]; exact wholly_any (X.take r) A n c B w (by rw [← h1]; have := HLT.out; omega) h1 h2 h3 h4)
  have HWF : Hid (∀ (A : Option Addr) (n c B : Nat) (w : World), n = (X ++ [0]).length → Rd w B A ((X ++ [0]).map B8) → B ≤ w.heap.size → (n ≤ c ∧ c ≤ maxLen) → Calls Try.prog 53 #[.slice A n c] w fun e w' => e = .returned (.bool false) ∧ Below w.heap.size w w') := Lib.hid (fun A n c B w h1 h2 h3 h4 => by rw [← hkf]; exact wholly_any (X ++ [0]) A n c B w (by rw [List.length_append, ← hxl]; simp; omega) h1 h2 h3 h4)
  have q1 : ((xl : Int) == 0) = false := by rw [beq_eq_false_iff_ne]; omega
  have q2 : (xl = 0) = False := by simp; omega
  have q3 : ((8 * (xl : Int)) == 0) = false := by rw [beq_eq_false_iff_ne]; omega
  have hc0 := hcb.1
  have hc1 := hcb.2
  have HE := Lib.hid (And.intro hx0 (And.intro hx3 (And.intro hr1 (And.intro hk1 (And.intro hc0 hc1)))))
  have HERT := Lib.hid ert
  clear hn hy hfw hrl hke hkf hflip hkg hxl hr hk hp ht hu KR1 KR2 KR3 hcb ert hk1
  go_enter Try.func13, Try.ntmps13
  go_wp2_with fail
  refine (alive4_calls _).mono ?_
  rintro e w1 ⟨rfl, hb1⟩
  have HB1 := Lib.hid hb1
  clear hb1
  go_wp2_with fail
  refine (KBD.out w1 HB1.out).mono ?_
  rintro e w2 ⟨v2, rfl, ho2, hb2⟩
  rw [← HXL.out] at ho2
  have hcx := own_cap' ho2
  obtain ⟨xA, xc, rfl, hxc, hxr⟩ := own_rd ho2
  have HXC : Hid (xl ≤ xc ∧ xc ≤ maxLen) := Lib.hid ⟨hxc, hcx _ _ rfl⟩
  have HX2 := Lib.hid hxr
  have HB2 := Lib.hid (HB1.out.trans (hb2.mono HB1.out.size))
  clear hb2 ho2 hxr hcx HB1 KBD
  go_wp2_with fail
  refine (HFW.out w2 HB2.out).mono ?_
  rintro e w3 ⟨rfl, hb3⟩
  have HB3 := Lib.hid (HB2.out.trans (hb3.mono HB2.out.size))
  have HX3 := Lib.hid ((HX2.out.below hb3).more hb3.size)
  clear hb3 HFW HB2 HX2
  have i1 : (0 : Int) ≤ r := by omega
  have i2 : (r : Int) ≤ xl := by omega
  have i3 : (r : Int) ≤ xc := by omega
  have i4 : r ≤ xl := by omega
  have i5 : r ≤ xc := by omega
  go_wp2_with fail
  have HT3 : Hid (Rd w3 w3.heap.size xA ((X.take r).map B8)) := Lib.hid (by rw [List.map_take]; exact HX3.out.take r)
  refine (HR1.out xA r xc w3.heap.size w3 HLT.out HT3.out (Nat.le_refl _) ⟨i5, HXC.out.2⟩).mono ?_
  rintro e w4 ⟨vE, lE, rfl, hoE, _, hb4⟩
  obtain ⟨eA, ec, rfl, _, _⟩ := hoE.rd
  have HB4 := Lib.hid (HB3.out.trans (hb4.mono HB3.out.size))
  have HX4 := Lib.hid ((HX3.out.below hb4).more hb4.size)
  clear hoE hb4 HT3 HX3 HB3 HR1
  generalize lE.length = en at *
  have A1 := Lib.hid (fun ty => appB (ty := ty) (c := xc) (own_nil w4 w4.heap.size) HX4.out (by have := HXL.out; simp; omega) (Nat.le_refl _))
  rw [← HXL.out] at A1
  have hz4 : w4.heap.size ≤ w4.heap.size := Nat.le_refl _
  go_wp2_with (first
    | (have hd := done5; clear done5; at_builtin; (refine wpList_app rfl (.tmp 53) (.tmp 54) _ _ rfl rfl rfl (A6.out _) ?_); rintro v6 w6 ⟨ho6, hg6⟩; have HO6 := Lib.hid ho6; have HG6 := Lib.hid hg6; clear ho6 hg6; have done6 := trivial)
    | (at_builtin; (refine wpList_app rfl (.const (.slice none 0 0)) (.tmp 52) _ _ rfl rfl rfl (A1.out _) ?_); rintro v5 w5 ⟨ho5, hg5⟩; rw [List.nil_append] at ho5; have HO5 := Lib.hid ho5; have HG5 := Lib.hid hg5.new; have AL := Lib.hid ((Below.refl w5.heap.size w5).alloc (Nat.le_refl _) (.cells #[.int .u8 0] 5)); have A6 := Lib.hid (fun ty => appB (ty := ty) (c := 1) (own_below HO5.out AL.out) (lit_zero w5) (by have := HXL.out; simp; omega) (Nat.le_trans HG5.out.size AL.out.size)); clear ho5 hg5; have done5 := trivial))
  clear done6
  have HB6' : Hid (Below w4.heap.size w4 w6) := Lib.hid (HG6.out.below ((HG5.out.trans (AL.out.mono HG5.out.size))) (Nat.le_trans HG5.out.size AL.out.size) (own_block_ge (own_below HO5.out AL.out)))
  have HB6 := Lib.hid (HB4.out.trans (HB6'.out.mono HB4.out.size))
  have HX6 := Lib.hid ((HX4.out.below HB6'.out).more HB6'.out.size)
  have hc6 := own_cap' HO6.out
  obtain ⟨A6', c6, rfl, hcc6, hr6⟩ := own_rd HO6.out
  have HC6 := Lib.hid (hc6 _ _ rfl)
  refine (HR2.out A6' _ c6 w6.heap.size w6 rfl hr6 (Nat.le_refl _) ⟨hcc6, HC6.out⟩).mono ?_
  rintro e w7 ⟨vF, lF, rfl, hoF, _, hb7⟩
  obtain ⟨fA, fc, rfl, _, _⟩ := hoF.rd
  have HB7 := Lib.hid (HB6.out.trans (hb7.mono HB6.out.size))
  have HX7 := Lib.hid ((HX6.out.below hb7).more hb7.size)
  clear hoF hb7 hr6 hcc6 hc6 HC6 HX6 HB6 HB6' HX4 HB4 HO5 HG5 AL A1 A6 HO6 HG6 HR2 hz4
  generalize lF.length = fn at *
  generalize (X ++ [0]).length = x1l
  have A8 := Lib.hid (fun ty => appB (ty := ty) (c := xc) (own_nil w7 w7.heap.size) HX7.out (by have := HXL.out; simp; omega) (Nat.le_refl _))
  rw [← HXL.out] at A8
  go_wp2_with (at_builtin; (refine wpList_app rfl (.const (.slice none 0 0)) (.tmp 59) _ _ rfl rfl rfl (A8.out _) ?_); rintro v8 w8 ⟨ho8, hg8⟩; rw [List.nil_append, ← HXL.out] at ho8; obtain ⟨g8, c8, rfl⟩ := form_own ho8 (by omega); obtain ⟨f5, c5, o5, gr5⟩ := own_byte (y := yy) HXL.out ho8 (by rw [← HXL.out]; exact hpx); rw [← HU.out] at c5; rw [HFL.out] at o5; have O5 := Lib.hid o5; have HG8 := Lib.hid hg8.new; have G5 := Lib.hid gr5; have HO8 := Lib.hid ho8; clear o5 gr5 hg8 ho8)
  have HB9' : Hid (Below w7.heap.size w7 (w8.setCell ⟨g8, p, none⟩ (.int .u8 (yy.toNat : Int)))) := Lib.hid (G5.out.below HG8.out HG8.out.size (own_block_ge HO8.out))
  have HB9 := Lib.hid (HB7.out.trans (HB9'.out.mono HB7.out.size))
  have HX9 := Lib.hid ((HX7.out.below HB9'.out).more HB9'.out.size)
  generalize w8.setCell ⟨g8, p, none⟩ (.int .u8 (yy.toNat : Int)) = w9 at *
  have hc9 := own_cap' O5.out
  have hr9 := Rd.of_own O5.out
  have hcc9 := (own_cap O5.out).1
  refine (HR3.out (some ⟨g8, 0, none⟩) xl c8 w9.heap.size w9 HLF.out hr9 (Nat.le_refl _) ⟨hcc9, hc9 _ _ rfl⟩).mono ?_
  rintro e w10 ⟨vG, lG, rfl, hoG, _, hb10⟩
  obtain ⟨gA, gc, rfl, _, _⟩ := hoG.rd
  have HB10 := Lib.hid (HB9.out.trans (hb10.mono HB9.out.size))
  have HX10 := Lib.hid ((HX9.out.below hb10).more hb10.size)
  clear hoG hb10 hc9 hr9 hcc9 HX9 HX7 HB9 HB9' HB7 A8 f5 c5 O5 G5 HO8 HG8 HR3 X1 u1 dp dt hpx t8 ek q3
  generalize lG.length = gn at *
  have HWE := Lib.hid (KWE.out xA r xc w10.heap.size w10 HLT.out (by rw [List.map_take]; exact HX10.out.take r) (Nat.le_refl _) ⟨i5, HXC.out.2⟩)
  clear KWE HERT
  go_wp2_with (first
    | (go_at_call 53; (with_reducible refine (HWE.out).mono ?_); rintro e w11 ⟨rfl, hb11⟩; have HB11 := Lib.hid (HB10.out.trans (hb11.mono HB10.out.size)); have HX11 := Lib.hid ((HX10.out.below hb11).more hb11.size); clear hb11; have done1 := trivial)
    | (go_at_call 52; (with_reducible refine (num4_any _ _).mono ?_); rintro e wN ⟨rfl, rfl⟩))
  go_ret
  exact ⟨rfl, HB11.out⟩
end Go.Proofs.Ythkclgkbidhmbaa
