/- The document's Parents, walked. -/
import Derived.Test.YtgldjjmpjaegfaaSzd
import Derived.Test.YtgldjjmpjaegfaaSyr
import Derived.Test.YtgldjjmpjaegfaaLx
namespace Go.Proofs.Ytgldjjmpjaegfaa
open Go.RowKit Go.Maps
set_option linter.unusedVariables false
set_option linter.unusedSimpArgs false
set_option maxRecDepth 100000

theorem encZ_one (L : List Int) : ∀ u ∈ L.map encZ, u.oneCell' = true := fun u hu => by
  obtain ⟨i, _, rfl⟩ := List.mem_map.1 hu; rfl
theorem appZs {w : World} {base n m c B : Nat} {v : Value} {xs : List Value} {ty : TypeId} {A : Option Addr} {L : List Int} (h : w.ownsRow base 3 1 v n xs) (hr : Rd w B A (L.map encZ)) (hm : m = L.length) (hn : n + m ≤ 1000000) (hbase : base ≤ w.heap.size) :
    ∃ v' w', (Builtin.append_ #[26, 26] ty #[v, .slice A m c]).run Try.prog w = .ok v' w' ∧ (w'.ownsRow base 3 1 v' (n + m) (xs ++ L.map encZ) ∧ Grew w w' v v') := by
  obtain ⟨i0, hi, hz0, hz1, hz2⟩ := info_parts info_int
  exact run_append_rd (P := Try.prog) w base 26 ty 3 i0 _ 1 8 Try.underlying26 hi hz0 hz1 hz2 rfl v n xs h B A m c (L.map encZ) (by rw [List.length_map, hm]; omega) hr (encZ_one L) (by unfold maxLen; omega) (by omega) hbase
theorem own_setzz {w : World} {base g cap n i : Nat} {P : List Int} (h : w.ownsRow base 3 1 (.slice (some ⟨g, 0, none⟩) n cap) n (P.map encZ)) (hi : i < n) (z : Int) : w.frozen? ⟨g, i, none⟩ = false ∧ (∃ u, w.cell? ⟨g, i, none⟩ = some u) ∧ (w.setCell ⟨g, i, none⟩ (.int .i64 z)).ownsRow base 3 1 (.slice (some ⟨g, 0, none⟩) n cap) n ((P.set i z).map encZ) ∧ Grew w (w.setCell ⟨g, i, none⟩ (.int .i64 z)) (.slice (some ⟨g, 0, none⟩) n cap) (.slice (some ⟨g, 0, none⟩) n cap) := by
  have s := own_setq h (i := i) (by omega) (.int .i64 z)
  have c := (own_cells h i (by omega)).2.2
  exact ⟨s.1, Option.isSome_iff_exists.1 c, by rw [List.map_set]; exact s.2.2.1, s.2.2.2⟩
set_option maxHeartbeats 16000000 in
theorem refparents_any (l : List Ls) (A : Option Addr) (n c B : Nat) (w : World) (hS : RdSps w B A l) (hB : B ≤ w.heap.size) (hn : n = l.length) (hsm : n ≤ 100000) :
    Calls Try.prog 14 #[.slice A n c] w fun e w' => ∃ A' c' P, e = .returned (.slice A' n c') ∧ Sy.ParOf (namedM l) P ∧ w'.ownsRow w.heap.size 3 1 (.slice A' n c') n (P.map encZ) ∧ Below w.heap.size w w' := by
  have HN := Lib.hid hn
  have HSs := Lib.hid hS
  have HBW := Lib.hid hB
  have hNL := namedM_len l
  have hNP := namedM_plain l
  rw [← hn] at hNL hNP
  have HNL := Lib.hid hNL
  have HNP := Lib.hid hNP
  obtain ⟨b0, hb0⟩ : ∃ b0, b0 = w.heap.size := ⟨_, rfl⟩
  have HB0 := Lib.hid hb0
  obtain ⟨W1, hrun, hown, hbl, hsz⟩ := make_intN n (by omega) w
  have HOW := Lib.hid (show W1.ownsRow b0 3 1 (.slice (some ⟨w.heap.size, 0, none⟩) n n) n ((List.replicate n (0 : Int)).map encZ) from by rw [hb0]; exact hown)
  have HBL := Lib.hid (show Below b0 w W1 from by rw [hb0]; exact hbl)
  have HSB := Lib.hid (show ∀ W, Below b0 w W → b0 ≤ W.heap.size from fun W h => by have := h.size; omega)
  have HSQ := Lib.hid (show ∀ W, Below b0 w W → RdSps W B A l from fun W h => hS.below (h.mono (by rw [hb0]; exact hB)))
  rw [← hb0]
  clear hS hB hn hNL hNP hown hbl hsz hb0 HSs HBW HB0
  go_enter Try.func14, Try.ntmps14
  go_upto_region 3 with fail
  generalize w.heap.size = gp at *
  clear hrun
  go_loopw [4] (fun vi wq => ∃ (i : Nat) (PP : List Int), vi = .int .i64 (i : Int) ∧ Hid (i ≤ n) ∧ Hid (PP.length = n ∧ ∀ j, j < i → PP[j]? = (namedM l)[j]?) ∧ Hid (wq.ownsRow b0 3 1 (.slice (some ⟨gp, 0, none⟩) n n) n (PP.map encZ)) ∧ Hid (Below b0 w wq)) (fun vi _ => n - (intOf vi).toNat)
  case atStart => exact ⟨0, _, rfl, Lib.hid (Nat.zero_le _), Lib.hid ⟨by simp, fun j hj => by omega⟩, HOW, HBL⟩
  clear HOW HBL
  case round =>
    obtain ⟨i, PP, rfl, HI, HPP, HO, HB⟩ := hrel
    by_cases hlt : i < n
    · as_aux_lemma =>
      have d0 : decide ((i : Int) < (n : Int)) = true := decide_eq_true (by omega)
      have d1 : decide (i < n) = true := decide_eq_true hlt
      have i0 : (0 : Int) ≤ (i : Int) := by omega
      have i1 : (i : Int) < (n : Int) := by omega
      obtain ⟨n1, hn1⟩ : ∃ n1, n = n1 + 1 := ⟨n - 1, by omega⟩
      have e0 : IntKind.i64.wrap ((n : Int) - 1) = (n1 : Int) := by rw [IntKind.wrap_i64] <;> omega
      obtain ⟨i9, hi9⟩ : ∃ i9, i9 = i + 1 := ⟨_, rfl⟩
      have e1 : IntKind.i64.wrap ((i : Int) + 1) = (i9 : Int) := by rw [IntKind.wrap_i64] <;> omega
      obtain ⟨fz, ⟨u0, hu0⟩, ho2, hg2⟩ := own_setzz HO.out hlt (-1)
      have hb2 := hg2.below HB.out (HSB.out _ HB.out) (own_block_ge HO.out)
      obtain ⟨x, hx⟩ : ∃ x, l[i]? = some x := ⟨_, List.getElem?_eq_getElem (by rw [← HN.out]; exact hlt)⟩
      have HX := Lib.hid hx
      have HN1 := Lib.hid hn1
      have HI9 := Lib.hid hi9
      have HLT := Lib.hid hlt
      have HO2 := Lib.hid ho2
      have HB2 := Lib.hid hb2
      have HPV : Hid ((PP.set i (-1))[i]? = some (-1)) := Lib.hid (List.getElem?_set_self (by rw [HPP.out.1]; exact hlt))
      have HPP2 : Hid ((PP.set i (-1)).length = n ∧ ∀ j, j < i → (PP.set i (-1))[j]? = (namedM l)[j]?) := Lib.hid ⟨by rw [List.length_set]; exact HPP.out.1, fun j hj => by rw [List.getElem?_set_ne (by omega)]; exact HPP.out.2 j hj⟩
      clear hn1 hi9 hlt ho2 hb2 hg2 hx HO HB HPP
      go_upto_region 7 with fail
      clear d0 d1 hu0 fz e0
      generalize PP.set i (-1) = PP1 at *
      obtain ⟨ids, hids⟩ : ∃ ids, ids = l.map fun y => y.s.id := ⟨_, rfl⟩
      have HIDS := Lib.hid hids
      clear hids
      go_loopw [5] (fun vk wq => ∃ (k : Int) (q : Nat) (PP : List Int) (v : Int), vk = .int .i64 k ∧ Hid (k = (q : Int) - 1 ∧ q ≤ n) ∧ Hid (PP.length = n ∧ ∀ j, j < i → PP[j]? = (namedM l)[j]?) ∧ Hid (PP[i]? = some v) ∧ Hid (Sy.Dn ids x.s.pa i q v) ∧ Hid (wq.ownsRow b0 3 1 (.slice (some ⟨gp, 0, none⟩) n n) n (PP.map encZ)) ∧ Hid (Below b0 w wq)) (fun vk _ => (intOf vk + 1).toNat)
      case atStart => exact ⟨(n1 : Int), n, PP1, -1, rfl, Lib.hid (by have := HN1.out; omega), HPP2, HPV, Lib.hid (by have h := Sy.Dn.start ids x.s.pa i; rw [HIDS.out, List.length_map, ← HN.out] at h; rw [HIDS.out]; exact h), HO2, HB2⟩
      clear HPP2 HPV HO2 HB2
      case round =>
        obtain ⟨k, q, PP2, v, rfl, HKQ, HPP3, HPV, HD, HO, HB⟩ := hrel
        rcases (show q = 0 ∨ 0 < q from Nat.eq_zero_or_pos q) with hq | hq
        · have hk : k = -1 := by have := HKQ.out; omega
          subst hk hq
          have d2 : decide ((0 : Int) ≤ (-1 : Int)) = false := by decide
          have HV := Lib.hid (show v = plO (namedO ids x.s.pa i) from HD.out.fin)
          have HNM := Lib.hid (show (namedM l)[i]? = some v from by rw [namedM_at HX.out, HV.out, HIDS.out])
          go_wp2_with fail
          go_roundw
          case rel => exact ⟨i9, PP2, by first | rfl | go_num, Lib.hid (by have := HLT.out; have := HI9.out; omega), Lib.hid ⟨HPP3.out.1, fun j hj => by
            rcases Nat.lt_or_ge j i with h | h
            · exact HPP3.out.2 j h
            · rw [show j = i by have := HI9.out; omega, HPV.out, HNM.out]⟩, HO, HB⟩
          case measure => have := HLT.out; have := HI9.out; simp [intOf]; omega
        · obtain ⟨m, rfl⟩ : ∃ m, q = m + 1 := ⟨q - 1, by omega⟩
          obtain rfl : k = (m : Int) := by have := HKQ.out; omega
          have hmn : m < n := by have := HKQ.out; omega
          obtain ⟨y, hy⟩ : ∃ y, l[m]? = some y := ⟨_, List.getElem?_eq_getElem (by rw [← HN.out]; exact hmn)⟩
          have hsp := HSQ.out _ HB.out
          obtain ⟨aa, haa, haab, hca, hra⟩ := hsp.at_ hy
          obtain ⟨ab, hab2, habb, hcb, hrb⟩ := hsp.at_ HX.out
          rw [haa] at hab2
          obtain rfl : aa = ab := by injection hab2
          subst haa
          obtain ⟨u, hu⟩ : ∃ u, u = y.s.id := ⟨_, rfl⟩
          obtain ⟨p, hp⟩ : ∃ p, p = x.s.pa := ⟨_, rfl⟩
          rw [← hp] at HD
          have c1 : wr.cell? ⟨(aa.add (m * 10)).block, (aa.add (m * 10)).off + 2, none⟩ = some (.int .u64 u) := by rw [hu]; exact cell_far (hca 2 _ rfl) (by decide)
          have c2 : wr.cell? ⟨(aa.add (i * 10)).block, (aa.add (i * 10)).off + 3, none⟩ = some (.int .u64 p) := by rw [hp]; exact cell_far (hcb 3 _ rfl) (by decide)
          have hI : ids[m]? = some u := by rw [HIDS.out, List.getElem?_map, hy, hu]; rfl
          have k0 : (0 : Int) ≤ (m : Int) := by omega
          have k1 : (m : Int) < (n : Int) := by omega
          obtain ⟨kz, hkz⟩ : ∃ kz, kz = (m : Int) - 1 := ⟨_, rfl⟩
          have e2 : IntKind.i64.wrap ((m : Int) - 1) = kz := by rw [IntKind.wrap_i64] <;> omega
          have d2 : decide ((0 : Int) ≤ (m : Int)) = true := decide_eq_true k0
          have HKZ := Lib.hid hkz
          have HMN := Lib.hid hmn
          have HP := Lib.hid hp
          have HU := Lib.hid hI
          clear hkz hmn hp hI hu hcb hca hrb hra haab habb hab2 hsp hy hq
          rcases (show m = i ∨ (m ≠ i ∧ u = p) ∨ (m ≠ i ∧ u ≠ p) from by by_cases h1 : m = i; exact .inl h1; by_cases h2 : u = p; exact .inr (.inl ⟨h1, h2⟩); exact .inr (.inr ⟨h1, h2⟩)) with hc | hc | hc
          · as_aux_lemma =>
            have HD2 := Lib.hid (HD.out.miss (.inl hc))
            subst hc
            go_upto_region 9 with fail
            refine wp_region_quiet_lex (by kernel_rfl) (by kernel_rfl) ?_
            repeat (go_big_quiet_step (fail))
            refine wpQuiet_nil ?_
            intro _ hw'
            obtain ⟨nq, hw''⟩ := hw'
            subst hw''
            go_wp2_with fail
            go_roundw
            case rel => exact ⟨kz, m, PP2, v, by first | rfl | go_num, Lib.hid (by have := HKZ.out; have := HMN.out; omega), HPP3, HPV, by rw [← HP.out]; exact HD2, HO, Lib.hid (HB.out.trans ⟨rfl, rfl, rfl, Nat.le_refl _, fun _ _ => rfl⟩)⟩
            case measure => have := HKZ.out; simp [intOf]; omega
          · as_aux_lemma =>
            obtain ⟨hc1, rfl⟩ := hc
            have HD2 := Lib.hid (HD.out.hit hc1 HU.out)
            have f1 : ((m : Int) == (i : Int)) = false := beq_eq_false_iff_ne.2 (by omega)
            have f2 : (m == i) = false := beq_eq_false_iff_ne.2 hc1
            have f5 : ((m : Int) != (i : Int)) = true := by simp [bne, f1]
            have f6 : (m != i) = true := by simp [bne, f2]
            obtain ⟨fz, ⟨u0, hu0⟩, ho2, hg2⟩ := own_setzz HO.out HLT.out (m : Int)
            have hb2 := hg2.below HB.out (HSB.out _ HB.out) (own_block_ge HO.out)
            have HO2 := Lib.hid ho2
            have HB2 := Lib.hid hb2
            have HPP4 : Hid ((PP2.set i (m : Int)).length = n ∧ ∀ j, j < i → (PP2.set i (m : Int))[j]? = (namedM l)[j]?) := Lib.hid ⟨by rw [List.length_set]; exact HPP3.out.1, fun j hj => by rw [List.getElem?_set_ne (by omega)]; exact HPP3.out.2 j hj⟩
            have HPV4 : Hid ((PP2.set i (m : Int))[i]? = some (m : Int)) := Lib.hid (List.getElem?_set_self (by rw [HPP3.out.1]; exact HLT.out))
            clear hc1 ho2 hb2 hg2
            go_upto_region 9 with fail
            refine wp_region_quiet_lex (by kernel_rfl) (by kernel_rfl) ?_
            repeat (go_big_quiet_step (fail))
            refine wpQuiet_nil ?_
            intro _ hw'
            obtain ⟨nq, hw''⟩ := hw'
            subst hw''
            go_wp2_with fail
            go_roundw
            case rel => exact ⟨kz, m, _, _, by first | rfl | go_num, Lib.hid (by have := HKZ.out; have := HMN.out; omega), HPP4, HPV4, by rw [← HP.out]; exact HD2, HO2, Lib.hid (HB2.out.trans ⟨rfl, rfl, rfl, Nat.le_refl _, fun _ _ => rfl⟩)⟩
            case measure => have := HKZ.out; simp [intOf]; omega
          · as_aux_lemma =>
            have HD2 := Lib.hid (HD.out.miss (.inr (by rw [HU.out]; exact fun e => hc.2 (by injection e))))
            have f1 : ((m : Int) == (i : Int)) = false := beq_eq_false_iff_ne.2 (by omega)
            have f2 : (m == i) = false := beq_eq_false_iff_ne.2 hc.1
            have f5 : ((m : Int) != (i : Int)) = true := by simp [bne, f1]
            have f6 : (m != i) = true := by simp [bne, f2]
            have f3 : (u == p) = false := beq_eq_false_iff_ne.2 hc.2
            clear hc
            go_upto_region 9 with fail
            refine wp_region_quiet_lex (by kernel_rfl) (by kernel_rfl) ?_
            repeat (go_big_quiet_step (fail))
            refine wpQuiet_nil ?_
            intro _ hw'
            obtain ⟨nq, hw''⟩ := hw'
            subst hw''
            go_wp2_with fail
            go_roundw
            case rel => exact ⟨kz, m, PP2, v, by first | rfl | go_num, Lib.hid (by have := HKZ.out; have := HMN.out; omega), HPP3, HPV, by rw [← HP.out]; exact HD2, HO, Lib.hid (HB.out.trans ⟨rfl, rfl, rfl, Nat.le_refl _, fun _ _ => rfl⟩)⟩
            case measure => have := HKZ.out; simp [intOf]; omega
    · as_aux_lemma =>
      obtain rfl : n = i := by have := HI.out; omega
      have d0 : decide ((n : Int) < (n : Int)) = false := decide_eq_false (by omega)
      have d1 : decide (n < n) = false := decide_eq_false (by omega)
      have hPN : PP = namedM l := List.ext_getElem? fun j => by
        rcases Nat.lt_or_ge j n with h | h
        · exact HPP.out.2 j h
        · rw [List.getElem?_eq_none (by rw [HPP.out.1]; exact h), List.getElem?_eq_none (by rw [HNL.out]; exact h)]
      subst hPN
      generalize hNM : namedM l = N at *
      have HNM := Lib.hid hNM
      clear hNM
      obtain ⟨A9, c9, e9, _, hrd9⟩ := own_rd HO.out
      injection e9 with e9 e10 e11
      subst e9
      have APP := Lib.hid (fun ty => appZs (ty := ty) (n := 0) (m := n) (c := n) (base := b0) (World.ownsRow_nil wr b0 3 1) hrd9 HNL.out.symm (by omega) (HSB.out _ HB.out))
      clear hlt HPP hrd9 e10 e11
      go_upto_region 13 with (at_builtin; (refine wpList_app rfl (.const (.slice none 0 0)) (.tmp 50) _ _ rfl rfl rfl (APP.out _) ?_); rintro v5 w5 ⟨ho5, hg5⟩; have HO5 := Lib.hid ho5; have HG5 := Lib.hid hg5; clear ho5 hg5)
      clear APP
      have HC5 : Hid (w5.ownsRow b0 3 1 v5 n (N.map encZ)) := Lib.hid (by have h := HO5.out; rw [Nat.zero_add, List.nil_append] at h; exact h)
      have HB5 := Lib.hid (HG5.out.below HB.out (HSB.out _ HB.out) (by intro k hk; simp [Value.ownBlock] at hk))
      have HP5 := Lib.hid (own_grew HO.out HG5.out (.inr (by simp [Value.ownBlock])))
      obtain ⟨A5, c5, rfl, _, _⟩ := own_rd HC5.out
      have HFA : Hid (0 < n → ∃ g5, A5 = some ⟨g5, 0, none⟩ ∧ g5 ≠ gp) := Lib.hid (fun h0 => by
        obtain ⟨g5, rfl, _, hbg, _, _, cur, hcur, _⟩ := own_parts HC5.out h0
        refine ⟨g5, rfl, fun e => ?_⟩
        rcases HG5.out.blk with e2 | ⟨g, e2, hg⟩
        · simp [Value.ownBlock] at e2
        · simp only [Value.ownBlock] at e2
          injection e2 with e2
          have h3 := (own_baseY HO.out).2
          omega)
      clear d0 d1 HO5 HG5 HO HB
      go_loopw [7] (fun vi wq => ∃ (i : Nat) (C : List Int), vi = .int .i64 (i : Int) ∧ Hid (i ≤ n) ∧ Hid (Sy.Ct N C n i) ∧ Hid (wq.ownsRow b0 3 1 (.slice A5 n c5) n (C.map encZ)) ∧ Hid (wq.ownsRow b0 3 1 (.slice (some ⟨gp, 0, none⟩) n n) n (N.map encZ)) ∧ Hid (Below b0 w wq)) (fun vi _ => n - (intOf vi).toNat)
      case atStart => exact ⟨0, N, rfl, Lib.hid (Nat.zero_le _), Lib.hid (Sy.Ct.start HNL.out), HC5, HP5, HB5⟩
      clear HC5 HP5 HB5
      case round =>
        obtain ⟨i, C, rfl, HI, HCT, HC, HO, HB⟩ := hrel
        by_cases hlt : i < n
        · as_aux_lemma =>
          have d0 : decide ((i : Int) < (n : Int)) = true := decide_eq_true (by omega)
          have d1 : decide (i < n) = true := decide_eq_true hlt
          have i0 : (0 : Int) ≤ (i : Int) := by omega
          have i1 : (i : Int) < (n : Int) := by omega
          obtain ⟨i9, hi9⟩ : ∃ i9, i9 = i + 1 := ⟨_, rfl⟩
          have e1 : IntKind.i64.wrap ((i : Int) + 1) = (i9 : Int) := by rw [IntKind.wrap_i64] <;> omega
          obtain ⟨z0, hz0⟩ : ∃ z0, N[i]? = some z0 := ⟨_, List.getElem?_eq_getElem (by rw [HNL.out]; exact hlt)⟩
          obtain ⟨p0, _⟩ := own_atZ HO.out hz0
          have HZ0 := Lib.hid (show z0 = plO (Sy.it (Sy.pf N) (0 + 1) i) from Sy.pf_at HNP.out hz0)
          obtain ⟨g5, rfl, hgne⟩ := HFA.out (by omega)
          have HI9 := Lib.hid hi9
          have HLT := Lib.hid hlt
          have HGNE := Lib.hid hgne
          clear hi9 hlt hz0 hgne
          go_upto_region 18 with fail
          clear d0 d1 p0
          go_loopw [8, 9, 10] (fun vb va vq wq => ∃ (b : Bool) (z : Int) (q : Nat), vb = .bool b ∧ va = .int .i64 z ∧ vq = .int .i64 (q : Int) ∧ Hid (q ≤ n) ∧ Hid (z = plO (Sy.it (Sy.pf N) (q + 1) i)) ∧ Hid (Sy.Rg (Sy.pf N) i q b) ∧ wr = wq) (fun _ _ vq _ => n - (intOf vq).toNat)
          case atStart => exact ⟨true, z0, 0, rfl, rfl, rfl, Lib.hid (Nat.zero_le _), HZ0, Lib.hid (Sy.Rg.start _ _), rfl⟩
          case round =>
            obtain ⟨b, z, q, rfl, rfl, rfl, HQ, HZ, HR, hw⟩ := hrel
            subst hw
            obtain ⟨fz, ⟨u0, hu0⟩, ho2, hg2⟩ := own_setzz HC.out HLT.out (-1)
            have hb2 := hg2.below HB.out (HSB.out _ HB.out) (own_block_ge HC.out)
            have hp2 := own_grew HO.out hg2 (.inr (by simp only [Value.ownBlock]; intro e; injection e with e; exact HGNE.out e.symm))
            have HO2 := Lib.hid ho2
            have HB2 := Lib.hid hb2
            have HP2 := Lib.hid hp2
            clear ho2 hb2 hp2 hg2
            have KEEP : ¬ Sy.LR (Sy.pf N) i → Hid (Sy.Ct N C n i9) := fun h => Lib.hid (by rw [HI9.out]; exact HCT.out.keep h)
            have CUT : Sy.LR (Sy.pf N) i → Hid (Sy.Ct N (C.set i (-1)) n i9) := fun h => Lib.hid (by rw [HI9.out]; exact HCT.out.cut HLT.out h)
            rcases Nat.lt_or_ge q n with hq | hq
            · have d2 : decide ((q : Int) < (n : Int)) = true := decide_eq_true (by omega)
              have d3 : decide (q < n) = true := decide_eq_true hq
              cases hu : Sy.it (Sy.pf N) (q + 1) i with
              | none =>
                obtain rfl : z = -1 := by rw [HZ.out, hu]; rfl
                have HK := KEEP (HR.out.no hu)
                have f1 : ((-1 : Int) == (i : Int)) = false := beq_eq_false_iff_ne.2 (by omega)
                have d4 : decide ((0 : Int) ≤ (-1 : Int)) = false := by decide
                clear KEEP CUT hu hq
                go_wp2_with fail
                go_roundw
                case rel => exact ⟨i9, C, by first | rfl | go_num, Lib.hid (by have := HLT.out; have := HI9.out; omega), HK, HC, HO, HB⟩
                case measure => have := HLT.out; have := HI9.out; simp [intOf]; omega
              | some u =>
                obtain rfl : z = (u : Int) := by rw [HZ.out, hu]; rfl
                have d4 : decide ((0 : Int) ≤ (u : Int)) = true := decide_eq_true (by omega)
                by_cases hui : u = i
                · subst hui
                  have hy := HR.out.yes hu
                  cases b
                  · have HK := KEEP (fun h => by have := hy.1 h; cases this)
                    clear KEEP CUT hy hq
                    go_wp2_with fail
                    go_roundw
                    case rel => exact ⟨i9, C, by first | rfl | go_num, Lib.hid (by have := HLT.out; have := HI9.out; omega), HK, HC, HO, HB⟩
                    case measure => have := HLT.out; have := HI9.out; simp [intOf]; omega
                  · have HK := CUT (hy.2 rfl)
                    clear KEEP CUT hy hq
                    go_wp2_with fail
                    go_roundw
                    case rel => exact ⟨i9, _, by first | rfl | go_num, Lib.hid (by have := HLT.out; have := HI9.out; omega), HK, HO2, HP2, HB2⟩
                    case measure => have := HLT.out; have := HI9.out; simp [intOf]; omega
                · have hun : u < n := it_lt HNP.out HLT.out _ hu
                  obtain ⟨z1, hz1⟩ : ∃ z1, N[u]? = some z1 := ⟨_, List.getElem?_eq_getElem (by rw [HNL.out]; exact hun)⟩
                  obtain ⟨p1, _⟩ := own_atZ HO.out hz1
                  have HZ1 := Lib.hid (show z1 = plO (Sy.it (Sy.pf N) (q + 1 + 1) i) from by
                    have h := Sy.pf_at HNP.out hz1
                    show z1 = plO ((Sy.it (Sy.pf N) (q + 1) i).bind (Sy.pf N))
                    rw [hu]; exact h)
                  have HR1 := Lib.hid (HR.out.step hu hui)
                  have f1 : ((u : Int) == (i : Int)) = false := beq_eq_false_iff_ne.2 (by omega)
                  have f2 : (u == i) = false := beq_eq_false_iff_ne.2 hui
                  have f5 : ((u : Int) != (i : Int)) = true := by simp [bne, f1]
                  have f6 : (u != i) = true := by simp [bne, f2]
                  have j0 : (0 : Int) ≤ (u : Int) := by omega
                  have j1 : (u : Int) < (n : Int) := by omega
                  obtain ⟨q1, hq1⟩ : ∃ q1, q1 = q + 1 := ⟨_, rfl⟩
                  have e2 : IntKind.i64.wrap ((q : Int) + 1) = (q1 : Int) := by rw [IntKind.wrap_i64] <;> omega
                  rw [← hq1] at HZ1 HR1
                  have HQ1 := Lib.hid hq1
                  have HQL := Lib.hid hq
                  by_cases hlo : i < u
                  · have d6 : decide ((i : Int) < (u : Int)) = true := decide_eq_true (by omega)
                    have d7 : decide (i < u) = true := decide_eq_true hlo
                    rw [d7, Bool.and_true] at HR1
                    clear KEEP CUT hq1 hz1 hun hui hu hq hlo
                    cases b
                    all_goals (go_wp2_with fail; go_roundw; (case rel => exact ⟨_, z1, q1, rfl, rfl, by first | rfl | go_num, Lib.hid (by have := HQL.out; have := HQ1.out; omega), HZ1, HR1, trivial⟩); (case measure => have := HQL.out; have := HQ1.out; simp [intOf]; omega))
                  · have d6 : decide ((i : Int) < (u : Int)) = false := decide_eq_false (by omega)
                    have d7 : decide (i < u) = false := decide_eq_false hlo
                    rw [d7, Bool.and_false] at HR1
                    clear KEEP CUT hq1 hz1 hun hui hu hq hlo
                    cases b
                    all_goals (go_wp2_with fail; go_roundw; (case rel => exact ⟨_, z1, q1, rfl, rfl, by first | rfl | go_num, Lib.hid (by have := HQL.out; have := HQ1.out; omega), HZ1, HR1, trivial⟩); (case measure => have := HQL.out; have := HQ1.out; simp [intOf]; omega))
            · obtain rfl : n = q := by have := HQ.out; omega
              have d2 : decide ((n : Int) < (n : Int)) = false := decide_eq_false (by omega)
              have d3 : decide (n < n) = false := decide_eq_false (by omega)
              have hno := Sy.Rg.long HNP.out HLT.out HR.out
              have hzi : z ≠ (i : Int) := fun e => hno ⟨n + 1, by omega, by
                have h := HZ.out
                rw [e] at h
                cases hu : Sy.it (Sy.pf N) (n + 1) i with
                | none => rw [hu] at h; change (i : Int) = -1 at h; omega
                | some u => rw [hu] at h; change (i : Int) = (u : Int) at h; rw [show u = i by omega]⟩
              have f1 : (z == (i : Int)) = false := beq_eq_false_iff_ne.2 hzi
              have HK := KEEP (fun h => hno h.1)
              clear KEEP CUT hno hzi hq
              go_wp2_with fail
              go_roundw
              case rel => exact ⟨i9, C, by first | rfl | go_num, Lib.hid (by have := HLT.out; have := HI9.out; omega), HK, HC, HO, HB⟩
              case measure => have := HLT.out; have := HI9.out; simp [intOf]; omega
        · as_aux_lemma =>
          obtain rfl : n = i := by have := HI.out; omega
          have d0 : decide ((n : Int) < (n : Int)) = false := decide_eq_false (by omega)
          have d1 : decide (n < n) = false := decide_eq_false (by omega)
          clear hlt
          go_wp2_with fail
          go_ret
          exact ⟨A5, c5, C, rfl, by rw [HNM.out]; exact HCT.out.fin HNL.out, HC.out, HB.out⟩
end Go.Proofs.Ytgldjjmpjaegfaa
