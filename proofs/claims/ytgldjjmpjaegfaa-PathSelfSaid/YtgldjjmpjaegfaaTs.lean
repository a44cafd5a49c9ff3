/- Several texts of tools, one behind the other. -/
import Derived.Test.YtgldjjmpjaegfaaSzb
import Derived.Test.YtgldjjmpjaegfaaSyr
import Derived.Test.YtgldjjmpjaegfaaLx
import Derived.Test.YtgldjjmpjaegfaaBs
/- The document's Parents, plainly. -/
namespace Go.Proofs.Ytgldjjmpjaegfaa.Sy
open Go.Proofs.Ytgldjjmpjaegfaa
set_option linter.unusedVariables false
set_option linter.unusedSimpArgs false

/-- What the document's loop has found among the places from k on. -/
def Dn (I : List Int) (p : Int) (i k : Nat) (v : Int) : Prop :=
  (v = -1 ∧ ∀ j, k ≤ j → j ≠ i → I[j]? ≠ some p) ∨ ∃ j : Nat, v = (j : Int) ∧ k ≤ j ∧ j ≠ i ∧ I[j]? = some p ∧ ∀ j', k ≤ j' → j' < j → j' ≠ i → I[j']? ≠ some p
theorem Dn.start (I : List Int) (p : Int) (i : Nat) : Dn I p i I.length (-1) := .inl ⟨rfl, fun j hj _ h => by rw [List.getElem?_eq_none hj] at h; cases h⟩
theorem Dn.hit {I : List Int} {p : Int} {i k : Nat} {v : Int} (h : Dn I p i (k + 1) v) (hk : k ≠ i) (hp : I[k]? = some p) : Dn I p i k (k : Int) := .inr ⟨k, rfl, Nat.le_refl _, hk, hp, fun j' h1 h2 => by omega⟩
theorem Dn.miss {I : List Int} {p : Int} {i k : Nat} {v : Int} (h : Dn I p i (k + 1) v) (hp : k = i ∨ I[k]? ≠ some p) : Dn I p i k v := by
  have key : ∀ j, j ≠ i → j = k → I[j]? ≠ some p := fun j h1 h2 => by
    rcases hp with e | e
    · omega
    · rw [h2]; exact e
  rcases h with ⟨h1, h2⟩ | ⟨j, h1, h2, h3, h4, h5⟩
  · refine .inl ⟨h1, fun j hj hi => ?_⟩
    rcases Nat.lt_or_ge k j with h | h
    · exact h2 j h hi
    · exact key j hi (by omega)
  · refine .inr ⟨j, h1, by omega, h3, h4, fun j' a b c => ?_⟩
    rcases Nat.lt_or_ge k j' with h | h
    · exact h5 j' h b c
    · exact key j' c (by omega)
theorem Dn.fin {I : List Int} {p : Int} {i : Nat} {v : Int} (h : Dn I p i 0 v) : v = plO (namedO I p i) := by
  have hs := plc_sorted I p
  rcases h with ⟨h1, h2⟩ | ⟨j, h1, _, h3, h4, h5⟩
  · cases ho : namedO I p i with
    | none => exact h1
    | some j =>
      obtain ⟨_, a, b⟩ := namedO_lt ho
      exact absurd b (h2 j (Nat.zero_le _) a)
  · have hj : j ∈ plc I p := plc_mem.2 h4
    have hle : ∀ j' : Nat, namedO I p i = some j' → j ≤ j' := fun j' ho => by
      obtain ⟨_, a, b⟩ := namedO_lt ho
      rcases Nat.lt_or_ge j' j with h | h
      · exact absurd b (h5 j' (Nat.zero_le _) h a)
      · exact h
    suffices hx : ∃ j', namedO I p i = some j' ∧ j' ≤ j by
      obtain ⟨j', ho, hl⟩ := hx
      have := hle j' ho
      rw [ho, h1, show j' = j by omega]; rfl
    unfold namedO
    obtain ⟨q, hq⟩ := List.getElem?_of_mem hj
    have hq1 := List.getElem?_eq_some_iff.1 hq
    have hq1b := hq1.2
    have hq1a := hq1.1
    cases hp0 : (plc I p)[0]? with
    | none => rw [List.getElem?_eq_none_iff] at hp0; omega
    | some a =>
      have ha := List.getElem?_eq_some_iff.1 hp0
      by_cases hai : a = i
      · subst hai
        rw [if_pos rfl]
        have hq0 : q ≠ 0 := fun e => by
          subst e
          rw [hp0] at hq
          injection hq with hq
          omega
        have hb : (plc I p)[1]? = some ((plc I p)[1]'(by omega)) := List.getElem?_eq_getElem (by omega)
        refine ⟨_, hb, ?_⟩
        rcases Nat.lt_or_ge 1 q with h | h
        · have := List.pairwise_iff_getElem.1 hs 1 q (by omega) hq1.1 h
          rw [hq1.2] at this; omega
        · have e : q = 1 := by omega
          subst e
          exact Nat.le_of_eq hq1.2
      · rw [if_neg (fun e => hai (by injection e))]
        refine ⟨a, rfl, ?_⟩
        rcases Nat.eq_zero_or_pos q with e | h
        · subst e; rw [hp0] at hq; injection hq with hq; omega
        · have := List.pairwise_iff_getElem.1 hs 0 q ha.1 hq1.1 h
          rw [hq1.2, ha.2] at this; omega
/-- The document's walk round a ring: q + 1 steps from i, never at i. -/
structure Rg (f : Nat → Option Nat) (i q : Nat) (b : Bool) : Prop where
  far : ∀ m, 0 < m → m ≤ q → ∃ u, it f m i = some u ∧ u ≠ i
  low : b = true ↔ ∀ m u, 0 < m → m ≤ q → it f m i = some u → i < u
theorem Rg.start (f : Nat → Option Nat) (i : Nat) : Rg f i 0 true := ⟨fun m h1 h2 => by omega, ⟨fun _ m u h1 h2 => by omega, fun _ => rfl⟩⟩
theorem Rg.step {f : Nat → Option Nat} {i q u : Nat} {b : Bool} (h : Rg f i q b) (hu : it f (q + 1) i = some u) (hne : u ≠ i) : Rg f i (q + 1) (b && decide (i < u)) := by
  refine ⟨fun m h1 h2 => ?_, ⟨fun hb m v h1 h2 hv => ?_, fun hall => ?_⟩⟩
  · rcases Nat.lt_or_ge q m with h3 | h3
    · rw [show m = q + 1 by omega]; exact ⟨u, hu, hne⟩
    · exact h.far m h1 h3
  · rw [Bool.and_eq_true] at hb
    rcases Nat.lt_or_ge q m with h3 | h3
    · rw [show m = q + 1 by omega, hu] at hv
      injection hv with hv
      rw [← hv]; exact of_decide_eq_true hb.2
    · exact h.low.1 hb.1 m v h1 h3 hv
  · rw [Bool.and_eq_true]
    exact ⟨h.low.2 fun m v h1 h2 hv => hall m v h1 (by omega) hv, decide_eq_true (hall (q + 1) u (by omega) (Nat.le_refl _) hu)⟩
theorem Rg.no {f : Nat → Option Nat} {i q : Nat} {b : Bool} (h : Rg f i q b) (hu : it f (q + 1) i = none) : ¬ LR f i := fun hl => by
  obtain ⟨u, hu2⟩ := ring_some hl.1 (q + 1)
  rw [hu] at hu2; cases hu2
theorem Rg.yes {f : Nat → Option Nat} {i q : Nat} {b : Bool} (h : Rg f i q b) (hu : it f (q + 1) i = some i) : LR f i ↔ b = true := by
  constructor
  · intro hl
    exact h.low.2 fun m u h1 h2 hv => by
      obtain ⟨u', hu', hne⟩ := h.far m h1 h2
      rw [hv] at hu'
      injection hu' with e
      have := hl.2 m u hv
      omega
  · intro hb
    refine ⟨⟨q + 1, by omega, hu⟩, fun k u hk => ?_⟩
    have hmod : it f (k % (q + 1)) i = some u := by
      have e : k = (q + 1) * (k / (q + 1)) + k % (q + 1) := (Nat.div_add_mod k (q + 1)).symm
      rw [e, it_add, ring_mul hu] at hk
      exact hk
    have hlt := Nat.mod_lt k (show 0 < q + 1 by omega)
    rcases Nat.eq_zero_or_pos (k % (q + 1)) with h0 | h0
    · rw [h0] at hmod
      injection hmod with e
      exact Nat.le_of_eq e
    · exact Nat.le_of_lt (h.low.1 hb _ u h0 (by omega) hmod)
/-- After as many steps as there are places it would have come back. -/
theorem Rg.long {P : List Int} {n i : Nat} {b : Bool} (hp : Plain P n) (hi : i < n) (h : Rg (pf P) i n b) : ¬ OnRing (pf P) i := fun ho => by
  obtain ⟨m, hm, he, hfirst⟩ := first_back ho
  have hmn : n < m := by
    rcases Nat.lt_or_ge n m with h1 | h1
    · exact h1
    · obtain ⟨u, hu, hne⟩ := h.far m hm h1
      rw [he] at hu; injection hu with hu; omega
  have hall : ∀ k, ∃ u, it (pf P) k i = some u := fun k => ring_some ho k
  have hnd : ((List.range m).map fun k => (it (pf P) k i).getD 0).Nodup := by
    rw [List.nodup_iff_pairwise_ne, List.pairwise_map, List.pairwise_iff_getElem]
    intro a c ha hc hac hee
    rw [List.getElem_range, List.getElem_range] at hee
    rw [List.length_range] at ha hc
    obtain ⟨x, hx⟩ := hall a
    obtain ⟨y, hy⟩ := hall c
    rw [hx, hy] at hee
    have e : x = y := hee
    subst e
    -- m - c steps on it is back
    have h1 : it (pf P) (m - c) x = some i := by
      have h2 : it (pf P) (c + (m - c)) i = some i := by rw [show c + (m - c) = m by omega]; exact he
      rw [it_add, hy] at h2
      exact h2
    have h3 : it (pf P) (a + (m - c)) i = some i := by rw [it_add, hx]; exact h1
    exact hfirst (a + (m - c)) (by omega) (by omega) h3
  have h1 := nd_le n _ hnd (fun y hy => by
    obtain ⟨k, _, rfl⟩ := List.mem_map.1 hy
    obtain ⟨u, hu⟩ := hall k
    rw [hu]; exact it_lt hp hi k hu)
  rw [List.length_map, List.length_range] at h1
  omega
/-- The cut parents behind i of them. -/
structure Ct (N C : List Int) (n i : Nat) : Prop where
  len : C.length = n
  old : ∀ v, v < i → (LR (pf N) v → C[v]? = some (-1)) ∧ (¬ LR (pf N) v → C[v]? = N[v]?)
  new : ∀ v, i ≤ v → C[v]? = N[v]?
theorem Ct.start {N : List Int} {n : Nat} (h : N.length = n) : Ct N N n 0 := ⟨h, fun v hv => by omega, fun v _ => rfl⟩
theorem Ct.cut {N C : List Int} {n i : Nat} (h : Ct N C n i) (hi : i < n) (hl : LR (pf N) i) : Ct N (C.set i (-1)) n (i + 1) := by
  refine ⟨by rw [List.length_set]; exact h.len, fun v hv => ?_, fun v hv => by rw [List.getElem?_set_ne (by omega)]; exact h.new v (by omega)⟩
  by_cases e : i = v
  · subst e
    rw [List.getElem?_set_self (by rw [h.len]; exact hi)]
    exact ⟨fun _ => rfl, fun hn => absurd hl hn⟩
  · rw [List.getElem?_set_ne e]
    exact h.old v (by omega)
theorem Ct.keep {N C : List Int} {n i : Nat} (h : Ct N C n i) (hl : ¬ LR (pf N) i) : Ct N C n (i + 1) := by
  refine ⟨h.len, fun v hv => ?_, fun v hv => h.new v (by omega)⟩
  by_cases e : i = v
  · subst e
    exact ⟨fun hy => absurd hy hl, fun _ => h.new i (Nat.le_refl _)⟩
  · exact h.old v (by omega)
theorem Ct.fin {N C : List Int} {n : Nat} (h : Ct N C n n) (hN : N.length = n) : ParOf N C := by
  refine ⟨by rw [h.len, hN], fun v => ?_⟩
  rcases Nat.lt_or_ge v n with hv | hv
  · exact h.old v hv
  · refine ⟨fun hl => ?_, fun _ => h.new v hv⟩
    obtain ⟨u, hu⟩ := ring_some hl.1 1
    have hu : pf N v = some u := hu
    have := pf_lt hu
    omega
end Go.Proofs.Ytgldjjmpjaegfaa.Sy

/- The document's Parents, walked. -/
namespace Go.Proofs.Ytgldjjmpjaegfaa
open Go.RowKit Go.Maps
set_option linter.unusedVariables false
set_option linter.unusedSimpArgs false
set_option maxRecDepth 100000

theorem encZ_one (L : List Int) : ∀ u ∈ L.map encZ, u.oneCell' = true := fun u hu => by
  obtain ⟨i, _, rfl⟩ := List.mem_map.1 hu; rfl
theorem appZs {w : World} {base n m c B : Nat} {v : Value} {xs : List Value} {ty : TypeId} {A : Option Addr} {L : List Int} (h : w.ownsRow base 3 1 v n xs) (hr : Rd w B A (L.map encZ)) (hm : m = L.length) (hn : n + m ≤ 1000000) (hbase : base ≤ w.heap.size) :
    ∃ v' w', (Builtin.append_ #[26, 26] ty #[v, .slice A m c]).run Try.prog w = .ok v' w' ∧ (w'.ownsRow base 3 1 v' (n + m) (xs ++ L.map encZ) ∧ Grew w w' v v') := by
  obtain ⟨i0, hi, hz0, hz1, hz2⟩ := info_parts info_int
  exact run_append_rd (P := Try.prog) w base 26 ty 3 i0 _ 1 8 Try.underlying26 hi hz0 hz1 hz2 rfl v n xs h B A m c (L.map encZ) (by rw [List.length_map, hm]; omega) hr (encZ_one L) (by unfold maxLen; omega) (by omega) hbase
theorem own_setzz {w : World} {base g cap n i : Nat} {P : List Int} (h : w.ownsRow base 3 1 (.slice (some ⟨g, 0, none⟩) n cap) n (P.map encZ)) (hi : i < n) (z : Int) : w.frozen? ⟨g, i, none⟩ = false ∧ (∃ u, w.cell? ⟨g, i, none⟩ = some u) ∧ (w.setCell ⟨g, i, none⟩ (.int .i64 z)).ownsRow base 3 1 (.slice (some ⟨g, 0, none⟩) n cap) n ((P.set i z).map encZ) ∧ Grew w (w.setCell ⟨g, i, none⟩ (.int .i64 z)) (.slice (some ⟨g, 0, none⟩) n cap) (.slice (some ⟨g, 0, none⟩) n cap) := by
  have s := own_setq h (i := i) (by omega) (.int .i64 z)
  have c := (own_cells h i (by omega)).2.2
  exact ⟨s.1, Option.isSome_iff_exists.1 c, by rw [List.map_set]; exact s.2.2.1, s.2.2.2⟩
set_option maxHeartbeats 16000000 in
theorem refparents_any (l : List Ls) (A : Option Addr) (n c B : Nat) (w : World) (hS : RdSps w B A l) (hB : B ≤ w.heap.size) (hn : n = l.length) (hsm : n ≤ 100000) :
    Calls Try.prog 14 #[.slice A n c] w fun e w' => ∃ A' c' P, e = .returned (.slice A' n c') ∧ Sy.ParOf (namedM l) P ∧ w'.ownsRow w.heap.size 3 1 (.slice A' n c') n (P.map encZ) ∧ Below w.heap.size w w' := by
  have HN := Lib.hid hn
  have HSs := Lib.hid hS
  have HBW := Lib.hid hB
  have hNL := namedM_len l
  have hNP := namedM_plain l
  rw [← hn] at hNL hNP
  have HNL := Lib.hid hNL
  have HNP := Lib.hid hNP
  obtain ⟨b0, hb0⟩ : ∃ b0, b0 = w.heap.size := ⟨_, rfl⟩
  have HB0 := Lib.hid hb0
  obtain ⟨W1, hrun, hown, hbl, hsz⟩ := make_intN n (by omega) w
  have HOW := Lib.hid (show W1.ownsRow b0 3 1 (.slice (some ⟨w.heap.size, 0, none⟩) n n) n ((List.replicate n (0 : Int)).map encZ) from by rw [hb0]; exact hown)
  have HBL := Lib.hid (show Below b0 w W1 from by rw [hb0]; exact hbl)
  have HSB := Lib.hid (show ∀ W, Below b0 w W → b0 ≤ W.heap.size from fun W h => by have := h.size; omega)
  have HSQ := Lib.hid (show ∀ W, Below b0 w W → RdSps W B A l from fun W h => hS.below (h.mono (by rw [hb0]; exact hB)))
  rw [← hb0]
  clear hS hB hn hNL hNP hown hbl hsz hb0 HSs HBW HB0
  go_enter Try.func14, Try.ntmps14
  go_upto_region 3 with fail
  generalize w.heap.size = gp at *
  clear hrun
  go_loopw [4] (fun vi wq => ∃ (i : Nat) (PP : List Int), vi = .int .i64 (i : Int) ∧ Hid (i ≤ n) ∧ Hid (PP.length = n ∧ ∀ j, j < i → PP[j]? = (namedM l)[j]?) ∧ Hid (wq.ownsRow b0 3 1 (.slice (some ⟨gp, 0, none⟩) n n) n (PP.map encZ)) ∧ Hid (Below b0 w wq)) (fun vi _ => n - (intOf vi).toNat)
  case atStart => exact ⟨0, _, rfl, Lib.hid (Nat.zero_le _), Lib.hid ⟨by simp, fun j hj => by omega⟩, HOW, HBL⟩
  clear HOW HBL
  case round =>
    obtain ⟨i, PP, rfl, HI, HPP, HO, HB⟩ := hrel
    by_cases hlt : i < n
    · as_aux_lemma =>
      have d0 : decide ((i : Int) < (n : Int)) = true := decide_eq_true (by omega)
      have d1 : decide (i < n) = true := decide_eq_true hlt
      have i0 : (0 : Int) ≤ (i : Int) := by omega
      have i1 : (i : Int) < (n : Int) := by omega
      obtain ⟨n1, hn1⟩ : ∃ n1, n = n1 + 1 := ⟨n - 1, by omega⟩
      have e0 : IntKind.i64.wrap ((n : Int) - 1) = (n1 : Int) := by rw [IntKind.wrap_i64] <;> omega
      obtain ⟨i9, hi9⟩ : ∃ i9, i9 = i + 1 := ⟨_, rfl⟩
      have e1 : IntKind.i64.wrap ((i : Int) + 1) = (i9 : Int) := by rw [IntKind.wrap_i64] <;> omega
      obtain ⟨fz, ⟨u0, hu0⟩, ho2, hg2⟩ := own_setzz HO.out hlt (-1)
      have hb2 := hg2.below HB.out (HSB.out _ HB.out) (own_block_ge HO.out)
      obtain ⟨x, hx⟩ : ∃ x, l[i]? = some x := ⟨_, List.getElem?_eq_getElem (by rw [← HN.out]; exact hlt)⟩
      have HX := Lib.hid hx
      have HN1 := Lib.hid hn1
      have HI9 := Lib.hid hi9
      have HLT := Lib.hid hlt
      have HO2 := Lib.hid ho2
      have HB2 := Lib.hid hb2
      have HPV : Hid ((PP.set i (-1))[i]? = some (-1)) := Lib.hid (List.getElem?_set_self (by rw [HPP.out.1]; exact hlt))
      have HPP2 : Hid ((PP.set i (-1)).length = n ∧ ∀ j, j < i → (PP.set i (-1))[j]? = (namedM l)[j]?) := Lib.hid ⟨by rw [List.length_set]; exact HPP.out.1, fun j hj => by rw [List.getElem?_set_ne (by omega)]; exact HPP.out.2 j hj⟩
      clear hn1 hi9 hlt ho2 hb2 hg2 hx HO HB HPP
      go_upto_region 7 with fail
      clear d0 d1 hu0 fz e0
      generalize PP.set i (-1) = PP1 at *
      obtain ⟨ids, hids⟩ : ∃ ids, ids = l.map fun y => y.s.id := ⟨_, rfl⟩
      have HIDS := Lib.hid hids
      clear hids
      go_loopw [5] (fun vk wq => ∃ (k : Int) (q : Nat) (PP : List Int) (v : Int), vk = .int .i64 k ∧ Hid (k = (q : Int) - 1 ∧ q ≤ n) ∧ Hid (PP.length = n ∧ ∀ j, j < i → PP[j]? = (namedM l)[j]?) ∧ Hid (PP[i]? = some v) ∧ Hid (Sy.Dn ids x.s.pa i q v) ∧ Hid (wq.ownsRow b0 3 1 (.slice (some ⟨gp, 0, none⟩) n n) n (PP.map encZ)) ∧ Hid (Below b0 w wq)) (fun vk _ => (intOf vk + 1).toNat)
      case atStart => exact ⟨(n1 : Int), n, PP1, -1, rfl, Lib.hid (by have := HN1.out; omega), HPP2, HPV, Lib.hid (by have h := Sy.Dn.start ids x.s.pa i; rw [HIDS.out, List.length_map, ← HN.out] at h; rw [HIDS.out]; exact h), HO2, HB2⟩
      clear HPP2 HPV HO2 HB2
      case round =>
        obtain ⟨k, q, PP2, v, rfl, HKQ, HPP3, HPV, HD, HO, HB⟩ := hrel
        rcases (show q = 0 ∨ 0 < q from Nat.eq_zero_or_pos q) with hq | hq
        · have hk : k = -1 := by have := HKQ.out; omega
          subst hk hq
          have d2 : decide ((0 : Int) ≤ (-1 : Int)) = false := by decide
          have HV := Lib.hid (show v = plO (namedO ids x.s.pa i) from HD.out.fin)
          have HNM := Lib.hid (show (namedM l)[i]? = some v from by rw [namedM_at HX.out, HV.out, HIDS.out])
          go_wp2_with fail
          go_roundw
          case rel => exact ⟨i9, PP2, by first | rfl | go_num, Lib.hid (by have := HLT.out; have := HI9.out; omega), Lib.hid ⟨HPP3.out.1, fun j hj => by
            rcases Nat.lt_or_ge j i with h | h
            · exact HPP3.out.2 j h
            · rw [show j = i by have := HI9.out; omega, HPV.out, HNM.out]⟩, HO, HB⟩
          case measure => have := HLT.out; have := HI9.out; simp [intOf]; omega
        · obtain ⟨m, rfl⟩ : ∃ m, q = m + 1 := ⟨q - 1, by omega⟩
          obtain rfl : k = (m : Int) := by have := HKQ.out; omega
          have hmn : m < n := by have := HKQ.out; omega
          obtain ⟨y, hy⟩ : ∃ y, l[m]? = some y := ⟨_, List.getElem?_eq_getElem (by rw [← HN.out]; exact hmn)⟩
          have hsp := HSQ.out _ HB.out
          obtain ⟨aa, haa, haab, hca, hra⟩ := hsp.at_ hy
          obtain ⟨ab, hab2, habb, hcb, hrb⟩ := hsp.at_ HX.out
          rw [haa] at hab2
          obtain rfl : aa = ab := by injection hab2
          subst haa
          obtain ⟨u, hu⟩ : ∃ u, u = y.s.id := ⟨_, rfl⟩
          obtain ⟨p, hp⟩ : ∃ p, p = x.s.pa := ⟨_, rfl⟩
          rw [← hp] at HD
          have c1 : wr.cell? ⟨(aa.add (m * 10)).block, (aa.add (m * 10)).off + 2, none⟩ = some (.int .u64 u) := by rw [hu]; exact cell_far (hca 2 _ rfl) (by decide)
          have c2 : wr.cell? ⟨(aa.add (i * 10)).block, (aa.add (i * 10)).off + 3, none⟩ = some (.int .u64 p) := by rw [hp]; exact cell_far (hcb 3 _ rfl) (by decide)
          have hI : ids[m]? = some u := by rw [HIDS.out, List.getElem?_map, hy, hu]; rfl
          have k0 : (0 : Int) ≤ (m : Int) := by omega
          have k1 : (m : Int) < (n : Int) := by omega
          obtain ⟨kz, hkz⟩ : ∃ kz, kz = (m : Int) - 1 := ⟨_, rfl⟩
          have e2 : IntKind.i64.wrap ((m : Int) - 1) = kz := by rw [IntKind.wrap_i64] <;> omega
          have d2 : decide ((0 : Int) ≤ (m : Int)) = true := decide_eq_true k0
          have HKZ := Lib.hid hkz
          have HMN := Lib.hid hmn
          have HP := Lib.hid hp
          have HU := Lib.hid hI
          clear hkz hmn hp hI hu hcb hca hrb hra haab habb hab2 hsp hy hq
          rcases (show m = i ∨ (m ≠ i ∧ u = p) ∨ (m ≠ i ∧ u ≠ p) from by by_cases h1 : m = i; exact .inl h1; by_cases h2 : u = p; exact .inr (.inl ⟨h1, h2⟩); exact .inr (.inr ⟨h1, h2⟩)) with hc | hc | hc
          · as_aux_lemma =>
            have HD2 := Lib.hid (HD.out.miss (.inl hc))
            subst hc
            go_upto_region 9 with fail
            refine wp_region_quiet_lex (by kernel_rfl) (by kernel_rfl) ?_
            repeat (go_big_quiet_step (fail))
            refine wpQuiet_nil ?_
            intro _ hw'
            obtain ⟨nq, hw''⟩ := hw'
            subst hw''
            go_wp2_with fail
            go_roundw
            case rel => exact ⟨kz, m, PP2, v, by first | rfl | go_num, Lib.hid (by have := HKZ.out; have := HMN.out; omega), HPP3, HPV, by rw [← HP.out]; exact HD2, HO, Lib.hid (HB.out.trans ⟨rfl, rfl, rfl, Nat.le_refl _, fun _ _ => rfl⟩)⟩
            case measure => have := HKZ.out; simp [intOf]; omega
          · as_aux_lemma =>
            obtain ⟨hc1, rfl⟩ := hc
            have HD2 := Lib.hid (HD.out.hit hc1 HU.out)
            have f1 : ((m : Int) == (i : Int)) = false := beq_eq_false_iff_ne.2 (by omega)
            have f2 : (m == i) = false := beq_eq_false_iff_ne.2 hc1
            have f5 : ((m : Int) != (i : Int)) = true := by simp [bne, f1]
            have f6 : (m != i) = true := by simp [bne, f2]
            obtain ⟨fz, ⟨u0, hu0⟩, ho2, hg2⟩ := own_setzz HO.out HLT.out (m : Int)
            have hb2 := hg2.below HB.out (HSB.out _ HB.out) (own_block_ge HO.out)
            have HO2 := Lib.hid ho2
            have HB2 := Lib.hid hb2
            have HPP4 : Hid ((PP2.set i (m : Int)).length = n ∧ ∀ j, j < i → (PP2.set i (m : Int))[j]? = (namedM l)[j]?) := Lib.hid ⟨by rw [List.length_set]; exact HPP3.out.1, fun j hj => by rw [List.getElem?_set_ne (by omega)]; exact HPP3.out.2 j hj⟩
            have HPV4 : Hid ((PP2.set i (m : Int))[i]? = some (m : Int)) := Lib.hid (List.getElem?_set_self (by rw [HPP3.out.1]; exact HLT.out))
            clear hc1 ho2 hb2 hg2
            go_upto_region 9 with fail
            refine wp_region_quiet_lex (by kernel_rfl) (by kernel_rfl) ?_
            repeat (go_big_quiet_step (fail))
            refine wpQuiet_nil ?_
            intro _ hw'
            obtain ⟨nq, hw''⟩ := hw'
            subst hw''
            go_wp2_with fail
            go_roundw
            case rel => exact ⟨kz, m, _, _, by first | rfl | go_num, Lib.hid (by have := HKZ.out; have := HMN.out; omega), HPP4, HPV4, by rw [← HP.out]; exact HD2, HO2, Lib.hid (HB2.out.trans ⟨rfl, rfl, rfl, Nat.le_refl _, fun _ _ => rfl⟩)⟩
            case measure => have := HKZ.out; simp [intOf]; omega
          · as_aux_lemma =>
            have HD2 := Lib.hid (HD.out.miss (.inr (by rw [HU.out]; exact fun e => hc.2 (by injection e))))
            have f1 : ((m : Int) == (i : Int)) = false := beq_eq_false_iff_ne.2 (by omega)
            have f2 : (m == i) = false := beq_eq_false_iff_ne.2 hc.1
            have f5 : ((m : Int) != (i : Int)) = true := by simp [bne, f1]
            have f6 : (m != i) = true := by simp [bne, f2]
            have f3 : (u == p) = false := beq_eq_false_iff_ne.2 hc.2
            clear hc
            go_upto_region 9 with fail
            refine wp_region_quiet_lex (by kernel_rfl) (by kernel_rfl) ?_
            repeat (go_big_quiet_step (fail))
            refine wpQuiet_nil ?_
            intro _ hw'
            obtain ⟨nq, hw''⟩ := hw'
            subst hw''
            go_wp2_with fail
            go_roundw
            case rel => exact ⟨kz, m, PP2, v, by first | rfl | go_num, Lib.hid (by have := HKZ.out; have := HMN.out; omega), HPP3, HPV, by rw [← HP.out]; exact HD2, HO, Lib.hid (HB.out.trans ⟨rfl, rfl, rfl, Nat.le_refl _, fun _ _ => rfl⟩)⟩
            case measure => have := HKZ.out; simp [intOf]; omega
    · as_aux_lemma =>
      obtain rfl : n = i := by have := HI.out; omega
      have d0 : decide ((n : Int) < (n : Int)) = false := decide_eq_false (by omega)
      have d1 : decide (n < n) = false := decide_eq_false (by omega)
      have hPN : PP = namedM l := List.ext_getElem? fun j => by
        rcases Nat.lt_or_ge j n with h | h
        · exact HPP.out.2 j h
        · rw [List.getElem?_eq_none (by rw [HPP.out.1]; exact h), List.getElem?_eq_none (by rw [HNL.out]; exact h)]
      subst hPN
      generalize hNM : namedM l = N at *
      have HNM := Lib.hid hNM
      clear hNM
      obtain ⟨A9, c9, e9, _, hrd9⟩ := own_rd HO.out
      injection e9 with e9 e10 e11
      subst e9
      have APP := Lib.hid (fun ty => appZs (ty := ty) (n := 0) (m := n) (c := n) (base := b0) (World.ownsRow_nil wr b0 3 1) hrd9 HNL.out.symm (by omega) (HSB.out _ HB.out))
      clear hlt HPP hrd9 e10 e11
      go_upto_region 13 with (at_builtin; (refine wpList_app rfl (.const (.slice none 0 0)) (.tmp 50) _ _ rfl rfl rfl (APP.out _) ?_); rintro v5 w5 ⟨ho5, hg5⟩; have HO5 := Lib.hid ho5; have HG5 := Lib.hid hg5; clear ho5 hg5)
      clear APP
      have HC5 : Hid (w5.ownsRow b0 3 1 v5 n (N.map encZ)) := Lib.hid (by have h := HO5.out; rw [Nat.zero_add, List.nil_append] at h; exact h)
      have HB5 := Lib.hid (HG5.out.below HB.out (HSB.out _ HB.out) (by intro k hk; simp [Value.ownBlock] at hk))
      have HP5 := Lib.hid (own_grew HO.out HG5.out (.inr (by simp [Value.ownBlock])))
      obtain ⟨A5, c5, rfl, _, _⟩ := own_rd HC5.out
      have HFA : Hid (0 < n → ∃ g5, A5 = some ⟨g5, 0, none⟩ ∧ g5 ≠ gp) := Lib.hid (fun h0 => by
        obtain ⟨g5, rfl, _, hbg, _, _, cur, hcur, _⟩ := own_parts HC5.out h0
        refine ⟨g5, rfl, fun e => ?_⟩
        rcases HG5.out.blk with e2 | ⟨g, e2, hg⟩
        · simp [Value.ownBlock] at e2
        · simp only [Value.ownBlock] at e2
          injection e2 with e2
          have h3 := (own_baseY HO.out).2
          omega)
      clear d0 d1 HO5 HG5 HO HB
      go_loopw [7] (fun vi wq => ∃ (i : Nat) (C : List Int), vi = .int .i64 (i : Int) ∧ Hid (i ≤ n) ∧ Hid (Sy.Ct N C n i) ∧ Hid (wq.ownsRow b0 3 1 (.slice A5 n c5) n (C.map encZ)) ∧ Hid (wq.ownsRow b0 3 1 (.slice (some ⟨gp, 0, none⟩) n n) n (N.map encZ)) ∧ Hid (Below b0 w wq)) (fun vi _ => n - (intOf vi).toNat)
      case atStart => exact ⟨0, N, rfl, Lib.hid (Nat.zero_le _), Lib.hid (Sy.Ct.start HNL.out), HC5, HP5, HB5⟩
      clear HC5 HP5 HB5
      case round =>
        obtain ⟨i, C, rfl, HI, HCT, HC, HO, HB⟩ := hrel
        by_cases hlt : i < n
        · as_aux_lemma =>
          have d0 : decide ((i : Int) < (n : Int)) = true := decide_eq_true (by omega)
          have d1 : decide (i < n) = true := decide_eq_true hlt
          have i0 : (0 : Int) ≤ (i : Int) := by omega
          have i1 : (i : Int) < (n : Int) := by omega
          obtain ⟨i9, hi9⟩ : ∃ i9, i9 = i + 1 := ⟨_, rfl⟩
          have e1 : IntKind.i64.wrap ((i : Int) + 1) = (i9 : Int) := by rw [IntKind.wrap_i64] <;> omega
          obtain ⟨z0, hz0⟩ : ∃ z0, N[i]? = some z0 := ⟨_, List.getElem?_eq_getElem (by rw [HNL.out]; exact hlt)⟩
          obtain ⟨p0, _⟩ := own_atZ HO.out hz0
          have HZ0 := Lib.hid (show z0 = plO (Sy.it (Sy.pf N) (0 + 1) i) from Sy.pf_at HNP.out hz0)
          obtain ⟨g5, rfl, hgne⟩ := HFA.out (by omega)
          have HI9 := Lib.hid hi9
          have HLT := Lib.hid hlt
          have HGNE := Lib.hid hgne
          clear hi9 hlt hz0 hgne
          go_upto_region 18 with fail
          clear d0 d1 p0
          go_loopw [8, 9, 10] (fun vb va vq wq => ∃ (b : Bool) (z : Int) (q : Nat), vb = .bool b ∧ va = .int .i64 z ∧ vq = .int .i64 (q : Int) ∧ Hid (q ≤ n) ∧ Hid (z = plO (Sy.it (Sy.pf N) (q + 1) i)) ∧ Hid (Sy.Rg (Sy.pf N) i q b) ∧ wr = wq) (fun _ _ vq _ => n - (intOf vq).toNat)
          case atStart => exact ⟨true, z0, 0, rfl, rfl, rfl, Lib.hid (Nat.zero_le _), HZ0, Lib.hid (Sy.Rg.start _ _), rfl⟩
          case round =>
            obtain ⟨b, z, q, rfl, rfl, rfl, HQ, HZ, HR, hw⟩ := hrel
            subst hw
            obtain ⟨fz, ⟨u0, hu0⟩, ho2, hg2⟩ := own_setzz HC.out HLT.out (-1)
            have hb2 := hg2.below HB.out (HSB.out _ HB.out) (own_block_ge HC.out)
            have hp2 := own_grew HO.out hg2 (.inr (by simp only [Value.ownBlock]; intro e; injection e with e; exact HGNE.out e.symm))
            have HO2 := Lib.hid ho2
            have HB2 := Lib.hid hb2
            have HP2 := Lib.hid hp2
            clear ho2 hb2 hp2 hg2
            have KEEP : ¬ Sy.LR (Sy.pf N) i → Hid (Sy.Ct N C n i9) := fun h => Lib.hid (by rw [HI9.out]; exact HCT.out.keep h)
            have CUT : Sy.LR (Sy.pf N) i → Hid (Sy.Ct N (C.set i (-1)) n i9) := fun h => Lib.hid (by rw [HI9.out]; exact HCT.out.cut HLT.out h)
            rcases Nat.lt_or_ge q n with hq | hq
            · have d2 : decide ((q : Int) < (n : Int)) = true := decide_eq_true (by omega)
              have d3 : decide (q < n) = true := decide_eq_true hq
              cases hu : Sy.it (Sy.pf N) (q + 1) i with
              | none =>
                obtain rfl : z = -1 := by rw [HZ.out, hu]; rfl
                have HK := KEEP (HR.out.no hu)
                have f1 : ((-1 : Int) == (i : Int)) = false := beq_eq_false_iff_ne.2 (by omega)
                have d4 : decide ((0 : Int) ≤ (-1 : Int)) = false := by decide
                clear KEEP CUT hu hq
                go_wp2_with fail
                go_roundw
                case rel => exact ⟨i9, C, by first | rfl | go_num, Lib.hid (by have := HLT.out; have := HI9.out; omega), HK, HC, HO, HB⟩
                case measure => have := HLT.out; have := HI9.out; simp [intOf]; omega
              | some u =>
                obtain rfl : z = (u : Int) := by rw [HZ.out, hu]; rfl
                have d4 : decide ((0 : Int) ≤ (u : Int)) = true := decide_eq_true (by omega)
                by_cases hui : u = i
                · subst hui
                  have hy := HR.out.yes hu
                  cases b
                  · have HK := KEEP (fun h => by have := hy.1 h; cases this)
                    clear KEEP CUT hy hq
                    go_wp2_with fail
                    go_roundw
                    case rel => exact ⟨i9, C, by first | rfl | go_num, Lib.hid (by have := HLT.out; have := HI9.out; omega), HK, HC, HO, HB⟩
                    case measure => have := HLT.out; have := HI9.out; simp [intOf]; omega
                  · have HK := CUT (hy.2 rfl)
                    clear KEEP CUT hy hq
                    go_wp2_with fail
                    go_roundw
                    case rel => exact ⟨i9, _, by first | rfl | go_num, Lib.hid (by have := HLT.out; have := HI9.out; omega), HK, HO2, HP2, HB2⟩
                    case measure => have := HLT.out; have := HI9.out; simp [intOf]; omega
                · have hun : u < n := it_lt HNP.out HLT.out _ hu
                  obtain ⟨z1, hz1⟩ : ∃ z1, N[u]? = some z1 := ⟨_, List.getElem?_eq_getElem (by rw [HNL.out]; exact hun)⟩
                  obtain ⟨p1, _⟩ := own_atZ HO.out hz1
                  have HZ1 := Lib.hid (show z1 = plO (Sy.it (Sy.pf N) (q + 1 + 1) i) from by
                    have h := Sy.pf_at HNP.out hz1
                    show z1 = plO ((Sy.it (Sy.pf N) (q + 1) i).bind (Sy.pf N))
                    rw [hu]; exact h)
                  have HR1 := Lib.hid (HR.out.step hu hui)
                  have f1 : ((u : Int) == (i : Int)) = false := beq_eq_false_iff_ne.2 (by omega)
                  have f2 : (u == i) = false := beq_eq_false_iff_ne.2 hui
                  have f5 : ((u : Int) != (i : Int)) = true := by simp [bne, f1]
                  have f6 : (u != i) = true := by simp [bne, f2]
                  have j0 : (0 : Int) ≤ (u : Int) := by omega
                  have j1 : (u : Int) < (n : Int) := by omega
                  obtain ⟨q1, hq1⟩ : ∃ q1, q1 = q + 1 := ⟨_, rfl⟩
                  have e2 : IntKind.i64.wrap ((q : Int) + 1) = (q1 : Int) := by rw [IntKind.wrap_i64] <;> omega
                  rw [← hq1] at HZ1 HR1
                  have HQ1 := Lib.hid hq1
                  have HQL := Lib.hid hq
                  by_cases hlo : i < u
                  · have d6 : decide ((i : Int) < (u : Int)) = true := decide_eq_true (by omega)
                    have d7 : decide (i < u) = true := decide_eq_true hlo
                    rw [d7, Bool.and_true] at HR1
                    clear KEEP CUT hq1 hz1 hun hui hu hq hlo
                    cases b
                    all_goals (go_wp2_with fail; go_roundw; (case rel => exact ⟨_, z1, q1, rfl, rfl, by first | rfl | go_num, Lib.hid (by have := HQL.out; have := HQ1.out; omega), HZ1, HR1, trivial⟩); (case measure => have := HQL.out; have := HQ1.out; simp [intOf]; omega))
                  · have d6 : decide ((i : Int) < (u : Int)) = false := decide_eq_false (by omega)
                    have d7 : decide (i < u) = false := decide_eq_false hlo
                    rw [d7, Bool.and_false] at HR1
                    clear KEEP CUT hq1 hz1 hun hui hu hq hlo
                    cases b
                    all_goals (go_wp2_with fail; go_roundw; (case rel => exact ⟨_, z1, q1, rfl, rfl, by first | rfl | go_num, Lib.hid (by have := HQL.out; have := HQ1.out; omega), HZ1, HR1, trivial⟩); (case measure => have := HQL.out; have := HQ1.out; simp [intOf]; omega))
            · obtain rfl : n = q := by have := HQ.out; omega
              have d2 : decide ((n : Int) < (n : Int)) = false := decide_eq_false (by omega)
              have d3 : decide (n < n) = false := decide_eq_false (by omega)
              have hno := Sy.Rg.long HNP.out HLT.out HR.out
              have hzi : z ≠ (i : Int) := fun e => hno ⟨n + 1, by omega, by
                have h := HZ.out
                rw [e] at h
                cases hu : Sy.it (Sy.pf N) (n + 1) i with
                | none => rw [hu] at h; change (i : Int) = -1 at h; omega
                | some u => rw [hu] at h; change (i : Int) = (u : Int) at h; rw [show u = i by omega]⟩
              have f1 : (z == (i : Int)) = false := beq_eq_false_iff_ne.2 hzi
              have HK := KEEP (fun h => hno h.1)
              clear KEEP CUT hno hzi hq
              go_wp2_with fail
              go_roundw
              case rel => exact ⟨i9, C, by first | rfl | go_num, Lib.hid (by have := HLT.out; have := HI9.out; omega), HK, HC, HO, HB⟩
              case measure => have := HLT.out; have := HI9.out; simp [intOf]; omega
        · as_aux_lemma =>
          obtain rfl : n = i := by have := HI.out; omega
          have d0 : decide ((n : Int) < (n : Int)) = false := decide_eq_false (by omega)
          have d1 : decide (n < n) = false := decide_eq_false (by omega)
          clear hlt
          go_wp2_with fail
          go_ret
          exact ⟨A5, c5, C, rfl, by rw [HNM.out]; exact HCT.out.fin HNL.out, HC.out, HB.out⟩
end Go.Proofs.Ytgldjjmpjaegfaa

/- The document's kids, plainly. -/
namespace Go.Proofs.Ytgldjjmpjaegfaa.Sy
open Go.Proofs.Ytgldjjmpjaegfaa
set_option linter.unusedVariables false
set_option linter.unusedSimpArgs false

/-- Those of the first n that hang on z, one before the other. -/
structure KidS (s : Nat → Int) (P : List Int) (z : Int) (n : Nat) (K : List Nat) : Prop where
  ord : K.Pairwise (ordSt s).lt
  mem : ∀ x, x ∈ K ↔ x < n ∧ P[x]? = some z
theorem KidS.start (s : Nat → Int) (P : List Int) (z : Int) : KidS s P z 0 [] := ⟨List.Pairwise.nil, fun x => by simp⟩
theorem KidS.nd {s : Nat → Int} {P : List Int} {z : Int} {n : Nat} {K : List Nat} (h : KidS s P z n K) : K.Nodup :=
  List.nodup_iff_pairwise_ne.2 (h.ord.imp fun {a b} hab => by intro e; rw [← e] at hab; exact (ordSt s).irr a hab)
theorem KidS.len {s : Nat → Int} {P : List Int} {z : Int} {n : Nat} {K : List Nat} (h : KidS s P z n K) : K.length ≤ n := nd_le n K h.nd fun x hx => ((h.mem x).1 hx).1
theorem KidS.skip {s : Nat → Int} {P : List Int} {z : Int} {n : Nat} {K : List Nat} (h : KidS s P z n K) (hn : P[n]? ≠ some z) : KidS s P z (n + 1) K := by
  refine ⟨h.ord, fun x => ?_⟩
  rw [h.mem]
  constructor
  · rintro ⟨h1, h2⟩; exact ⟨by omega, h2⟩
  · rintro ⟨h1, h2⟩
    refine ⟨?_, h2⟩
    rcases Nat.lt_or_ge x n with h3 | h3
    · exact h3
    · rw [show x = n by omega] at h2; exact absurd h2 hn
theorem KidS.ins {s : Nat → Int} {P : List Int} {z : Int} {n k : Nat} {K : List Nat} (h : KidS s P z n K) (hn : P[n]? = some z) (hk : k ≤ K.length) (hi : ∀ j x, k ≤ j → K[j]? = some x → s n < s x) (hl : k = 0 ∨ ∃ x, K[k - 1]? = some x ∧ s x ≤ s n) : KidS s P z (n + 1) (K.take k ++ [n] ++ K.drop k) := by
  have hsp := h.ord
  rw [← List.take_append_drop k K, List.pairwise_append] at hsp
  have hlo : ∀ y ∈ K.take k, (ordSt s).lt y n := fun y hy => by
    obtain ⟨j, hj⟩ := List.getElem?_of_mem hy
    have hjl := (List.getElem?_eq_some_iff.1 hj).1
    rw [List.length_take] at hjl
    rw [List.getElem?_take, if_pos (by omega)] at hj
    have hyn := ((h.mem y).1 (List.mem_of_getElem? hj)).1
    rcases hl with hl | ⟨x, hx, hle⟩
    · omega
    · have hxs : s y ≤ s n := by
        rcases Nat.lt_or_ge j (k - 1) with h1 | h1
        · have h2 := List.getElem?_eq_some_iff.1 hj
          have h3 := List.getElem?_eq_some_iff.1 hx
          have h4 := List.pairwise_iff_getElem.1 h.ord j (k - 1) h2.1 h3.1 h1
          rw [h2.2, h3.2] at h4
          have h5 : s y < s x ∨ (s y = s x ∧ y < x) := h4
          omega
        · rw [show j = k - 1 by omega, hx] at hj
          injection hj with hj
          rw [← hj]; exact hle
      have : s y < s n ∨ (s y = s n ∧ y < n) := by omega
      exact this
  have hhi : ∀ y ∈ K.drop k, (ordSt s).lt n y := fun y hy => by
    obtain ⟨j, hj⟩ := List.getElem?_of_mem hy
    rw [List.getElem?_drop] at hj
    exact .inl (hi (k + j) y (by omega) hj)
  refine ⟨?_, fun x => ?_⟩
  · rw [List.append_assoc, List.pairwise_append]
    refine ⟨hsp.1, ?_, fun a ha b hb => ?_⟩
    · rw [List.singleton_append, List.pairwise_cons]
      exact ⟨hhi, hsp.2.1⟩
    · rw [List.singleton_append, List.mem_cons] at hb
      rcases hb with e | e
      · rw [e]; exact hlo a ha
      · exact hsp.2.2 a ha b e
  · have hm : x ∈ K.take k ++ [n] ++ K.drop k ↔ x = n ∨ x ∈ K := by
      conv => rhs; rhs; rw [← List.take_append_drop k K]
      simp only [List.mem_append, List.mem_singleton]
      constructor
      · rintro ((a | a) | a)
        · exact .inr (.inl a)
        · exact .inl a
        · exact .inr (.inr a)
      · rintro (a | a | a)
        · exact .inl (.inr a)
        · exact .inl (.inl a)
        · exact .inr a
    rw [hm, h.mem]
    constructor
    · rintro (e | ⟨h1, h2⟩)
      · rw [e]; exact ⟨by omega, hn⟩
      · exact ⟨by omega, h2⟩
    · rintro ⟨h1, h2⟩
      by_cases e : x = n
      · exact .inl e
      · exact .inr ⟨by omega, h2⟩
theorem sorted_eq {s : Nat → Int} : ∀ {K K' : List Nat}, K.Pairwise (ordSt s).lt → K'.Pairwise (ordSt s).lt → (∀ x, x ∈ K ↔ x ∈ K') → K = K'
  | [], [], _, _, _ => rfl
  | [], y :: K', _, _, h => by have := (h y).2 List.mem_cons_self; cases this
  | x :: K, [], _, _, h => by have := (h x).1 List.mem_cons_self; cases this
  | x :: K, y :: K', h1, h2, h => by
    rw [List.pairwise_cons] at h1 h2
    have hasym : ∀ a b, (ordSt s).lt a b → (ordSt s).lt b a → False := fun a b p q => (ordSt s).irr a ((ordSt s).trans p q)
    have e : x = y := by
      rcases List.mem_cons.1 ((h x).1 List.mem_cons_self) with e | e
      · exact e
      · rcases List.mem_cons.1 ((h y).2 List.mem_cons_self) with e2 | e2
        · exact e2.symm
        · exact absurd (h2.1 x e) (fun p => hasym _ _ p (h1.1 y e2))
    subst e
    congr 1
    refine sorted_eq h1.2 h2.2 fun z => ?_
    have hx1 : x ∉ K := fun hm => (ordSt s).irr x (h1.1 x hm)
    have hx2 : x ∉ K' := fun hm => (ordSt s).irr x (h2.1 x hm)
    have hz := h z
    rw [List.mem_cons, List.mem_cons] at hz
    constructor
    · intro hm
      rcases hz.1 (.inr hm) with e | e
      · rw [e] at hm; exact absurd hm hx1
      · exact e
    · intro hm
      rcases hz.2 (.inr hm) with e | e
      · rw [e] at hm; exact absurd hm hx2
      · exact e
theorem KidS.eq {s : Nat → Int} {P : List Int} {z : Int} {n : Nat} {K K' : List Nat} (h : KidS s P z n K) (h' : KidS s P z n K') : K = K' := sorted_eq h.ord h'.ord fun x => by rw [h.mem, h'.mem]
/-- The place that stands for what a span hangs on. -/
def ofZ (n : Nat) (z : Int) : Nat := if z = -1 then n else z.toNat
theorem KidS.of {l : List Ls} {P : List Int} {n : Nat} {M : List Nat} {z : Int} (hn : n = l.length) (hM : Bys l M) (hp : Plain P n) (hl : P.length = n) (hz : z = -1 ∨ (0 ≤ z ∧ z < n)) : KidS (stS l) P z n (M.filter fun q => parN P n q == ofZ n z) := by
  refine ⟨hM.1.filter _, fun x => ?_⟩
  rw [List.mem_filter, hM.2.1, ← hn, beq_iff_eq]
  constructor
  · rintro ⟨h1, h2⟩
    refine ⟨h1, ?_⟩
    obtain ⟨u, hu⟩ : ∃ u, P[x]? = some u := ⟨_, List.getElem?_eq_getElem (by omega)⟩
    have := hp x u hu
    unfold parN at h2
    rw [hu] at h2 ⊢
    simp only at h2
    unfold ofZ at h2
    congr 1
    split at h2 <;> split at h2 <;> omega
  · rintro ⟨h1, h2⟩
    refine ⟨h1, ?_⟩
    have := hp x z h2
    unfold parN ofZ
    rw [h2]
end Go.Proofs.Ytgldjjmpjaegfaa.Sy

/- The document's kids, walked. -/
namespace Go.Proofs.Ytgldjjmpjaegfaa
open Go.RowKit Go.Maps
set_option linter.unusedVariables false
set_option linter.unusedSimpArgs false
set_option maxRecDepth 100000

theorem PI.ToldG.doneI {ops : Array Oper} {a0 : Act} {R : World → World → Prop} {G : Nat → World → Prop} {FF : Nat → Value → World → Prop} {nd : List (Nat × Nat)} {I : (Nat → Bool) → Act → World → Prop} {L : Nat → Bool} {i : Nat} {o : Oper} {a : Act} {w : World} (T : PI.ToldG ops a0 R G FF nd I L i o a w) (j : Nat) (h : (o.after.any fun e => Region.binds .any e && e.on == j) = true) : L j = true := by
  obtain ⟨e, he, hb, rfl⟩ := PI.after_of h
  exact T.done e he hb
theorem GOESI {N : Nat} : PI.Goes (fun a b => Below N a b) := ⟨fun w => Below.refl _ w, fun _ _ _ h q => h.trans q⟩
def InF (A' A3 : Option Addr) (n c p N e : Nat) (L : List Nat) : Nat → Value → World → Prop
  | 0, u, _ => u = .slice A' n c
  | 1, u, _ => u = .int .i64 (p : Int)
  | 2, u, _ => u = .slice A' p c
  | 3, u, w => w.ownsRow N 3 1 u (p) ((L.take p).map encN)
  | 4, u, _ => u = .int .i64 (e : Int)
  | 5, u, w => w.ownsRow N 3 1 u (1) (([e]).map encN)
  | 6, u, w => w.ownsRow N 3 1 u (p + 1) ((L.take p ++ [e]).map encN)
  | 7, u, _ => u = .slice A' n c
  | 8, u, _ => u = .int .i64 (p : Int)
  | 9, u, _ => u = .slice A3 (n - p) (c - p)
  | 10, u, w => w.ownsRow N 3 1 u (n + 1) ((L.take p ++ [e] ++ L.drop p).map encN)
  | 11, u, w => w.ownsRow N 3 1 u (n + 1) ((L.take p ++ [e] ++ L.drop p).map encN)
  | _, _, _ => True
theorem InF.keep {A' A3 : Option Addr} {n c p N e : Nat} {L : List Nat} {i : Nat} {u : Value} {w w' : World} (h : InF A' A3 n c p N e L i u w) (hr : ∀ m xs, w.ownsRow N 3 1 u m xs → w'.ownsRow N 3 1 u m xs) : InF A' A3 n c p N e L i u w' := by
  match i, h with
  | 0, h => exact h
  | 1, h => exact h
  | 2, h => exact h
  | 3, h => exact hr _ _ h
  | 4, h => exact h
  | 5, h => exact hr _ _ h
  | 6, h => exact hr _ _ h
  | 7, h => exact h
  | 8, h => exact h
  | 9, h => exact h
  | 10, h => exact hr _ _ h
  | 11, h => exact hr _ _ h
  | _ + 12, h => trivial
theorem InF.other {A' A3 : Option Addr} {n c p N e : Nat} {L : List Nat} {i : Nat} {u : Value} {w w' : World} (h : InF A' A3 n c p N e L i u w) (hi : ¬ (i = 3 ∨ i = 5 ∨ i = 6 ∨ i = 10 ∨ i = 11)) : InF A' A3 n c p N e L i u w' := by
  match i, h, hi with
  | 0, h, hi => exact h
  | 1, h, hi => exact h
  | 2, h, hi => exact h
  | 3, h, hi => exact absurd (by decide) hi
  | 4, h, hi => exact h
  | 5, h, hi => exact absurd (by decide) hi
  | 6, h, hi => exact absurd (by decide) hi
  | 7, h, hi => exact h
  | 8, h, hi => exact h
  | 9, h, hi => exact h
  | 10, h, hi => exact absurd (by decide) hi
  | 11, h, hi => exact absurd (by decide) hi
  | _ + 12, h, hi => trivial
theorem rdN_take {w : World} {B : Nat} {A : Option Addr} {L : List Nat} {j : Nat} (hr : Rd w B A (L.map encN)) : Rd w B A ((L.take j).map encN) := fun h0 => by
  rw [List.length_map, List.length_take] at h0
  obtain ⟨a, h1, h2, h3⟩ := hr (by rw [List.length_map]; omega)
  refine ⟨a, h1, h2, fun i u hu => h3 i u ?_⟩
  rw [List.map_take, List.getElem?_take] at hu
  split at hu
  · exact hu
  · cases hu
theorem rdN_drop {w : World} {B : Nat} {a : Addr} {L : List Nat} {j : Nat} (hj : j ≤ L.length) (hr : Rd w B (some a) (L.map encN)) : Rd w B (some (a.add j)) ((L.drop j).map encN) := fun h0 => by
  rw [List.length_map, List.length_drop] at h0
  obtain ⟨a', h1, h2, h3⟩ := hr (by rw [List.length_map]; omega)
  injection h1 with h1
  subst h1
  refine ⟨_, rfl, by unfold Addr.add; split <;> exact h2, fun i u hu => ?_⟩
  rw [List.map_drop, List.getElem?_drop] at hu
  have h4 := h3 (j + i) u hu
  rw [add_add]
  exact h4

set_option maxHeartbeats 16000000 in
theorem refkids_any (l : List Ls) (A : Option Addr) (sn sc B : Nat) (P : List Int) (pA : Option Addr) (pc : Nat) (z : Int) (w : World) (hS : RdSps w B A l) (hP : Rd w B pA (P.map encZ)) (hB : B ≤ w.heap.size) (hn : sn = l.length) (hpl : P.length = sn) (hsm : sn ≤ 1000) :
    Calls Try.prog 39 #[.slice A sn sc, .slice pA sn pc, .int .i64 z] w fun e w' => ∃ A' c' K, e = .returned (.slice A' K.length c') ∧ Sy.KidS (stS l) P z sn K ∧ w'.ownsRow w.heap.size 3 1 (.slice A' K.length c') K.length (K.map encN) ∧ Below w.heap.size w w' := by
  have HN := Lib.hid hn
  have HPL := Lib.hid hpl
  obtain ⟨b0, hb0⟩ : ∃ b0, b0 = w.heap.size := ⟨_, rfl⟩
  have HSQ := Lib.hid (show ∀ W, Below b0 w W → RdSps W B A l from fun W h => hS.below (h.mono (by rw [hb0]; exact hB)))
  have HPQ := Lib.hid (show ∀ W, Below b0 w W → Rd W B pA (P.map encZ) from fun W h => hP.below (h.mono (by rw [hb0]; exact hB)))
  have HSB := Lib.hid (show ∀ W, Below b0 w W → b0 ≤ W.heap.size from fun W h => by have := h.size; omega)
  rw [← hb0]
  clear hS hP hB hn hpl hb0
  go_enter Try.func39, Try.ntmps39
  go_upto_region 3 with fail
  go_loopw [7, 8] (fun vo vi wq => ∃ (i n c : Nat) (A' : Option Addr) (L : List Nat), vi = .int .i64 (i : Int) ∧ vo = .slice A' n c ∧ Hid (i ≤ sn) ∧ Hid (L.length = n) ∧ Hid (Sy.KidS (stS l) P z i L) ∧ Hid (wq.ownsRow b0 3 1 (.slice A' n c) n (L.map encN)) ∧ Hid (Below b0 w wq)) (fun _ vi _ => sn - (intOf vi).toNat)
  case atStart => exact ⟨0, 0, 0, none, [], rfl, rfl, Lib.hid (Nat.zero_le _), Lib.hid rfl, Lib.hid (Sy.KidS.start _ _ _), Lib.hid (World.ownsRow_nil _ _ _ _), Lib.hid (Below.refl _ _)⟩
  case round =>
    obtain ⟨e, n, c, A', L, rfl, rfl, HI, HL, HK, HROW, HB⟩ := hrel
    by_cases hlt : e < sn
    · have d0 : decide ((e : Int) < (sn : Int)) = true := decide_eq_true (by omega)
      have d1 : decide (e < sn) = true := decide_eq_true hlt
      have i0 : (0 : Int) ≤ (e : Int) := by omega
      have i1 : (e : Int) < (sn : Int) := by omega
      obtain ⟨e9, he9⟩ : ∃ e9, e9 = e + 1 := ⟨_, rfl⟩
      have e1 : IntKind.i64.wrap ((e : Int) + 1) = (e9 : Int) := by rw [IntKind.wrap_i64] <;> omega
      obtain ⟨y, hy⟩ : ∃ y, P[e]? = some y := ⟨_, List.getElem?_eq_getElem (by rw [HPL.out]; exact hlt)⟩
      obtain ⟨ap, hap, hapb, hpc⟩ := (HPQ.out _ HB.out) (by rw [List.length_map, HPL.out]; omega)
      subst hap
      have xp : wr.cell? (ap.add e) = some (.int .i64 y) := hpc e _ (by rw [List.getElem?_map, hy]; rfl)
      have HE9 := Lib.hid he9
      have HLT := Lib.hid hlt
      by_cases hyz : y = z
      · subst hyz
        have HPE := Lib.hid hy
        clear he9 hlt hy hpc hapb
        go_upto_region 7 with fail
        clear d0 d1 xp
        generalize wr = wz at *
        go_loopw [9] (fun vk wq => ∃ (k : Nat), vk = .int .i64 (k : Int) ∧ Hid (k ≤ n) ∧ Hid (∀ j x, k ≤ j → L[j]? = some x → stS l e < stS l x) ∧ Hid (Below wz.heap.size wz wq)) (fun vk _ => (intOf vk).toNat)
        case atStart => exact ⟨n, rfl, Lib.hid (Nat.le_refl _), Lib.hid (fun j x hj hx => by have := (List.getElem?_eq_some_iff.1 hx).1; have := HL.out; omega), Lib.hid (Below.refl _ _)⟩
        case round =>
          obtain ⟨p, rfl, HKN, HUP, HBQ⟩ := hrel
          have HB2 := Lib.hid (HB.out.trans (HBQ.out.mono (HSB.out _ HB.out)))
          have HROW2 := Lib.hid (own_below HROW.out HBQ.out)
          have hex : ∃ x, l[e]? = some x := ⟨_, List.getElem?_eq_getElem (by rw [← HN.out]; exact HLT.out)⟩
          obtain ⟨xe, hxe⟩ := hex
          have hse := stS_at hxe
          rcases (show p = 0 ∨ (0 < p ∧ ∃ x, L[p - 1]? = some x) from by
            rcases Nat.eq_zero_or_pos p with h | h
            · exact .inl h
            · exact .inr ⟨h, _, List.getElem?_eq_getElem (by have := HKN.out; have := HL.out; omega)⟩) with hp | ⟨hp, x, hx⟩
          · as_aux_lemma =>
            have HK2 := Lib.hid (HK.out.ins HPE.out (by omega) HUP.out (.inl hp))
            have HPN : Hid (p ≤ n) := Lib.hid (by omega)
            have d2 : decide ((0 : Int) < (p : Int)) = false := decide_eq_false (by omega)
            have d3 : decide (0 < p) = false := decide_eq_false (by omega)
            clear hxe hse hp
            go_upto_region 7 with fail
            refine wp_region_quiet_lex (by kernel_rfl) (by kernel_rfl) ?_
            repeat (go_big_quiet_step (fail))
            refine wpQuiet_nil ?_
            intro _ hw'
            obtain ⟨nq, hw''⟩ := hw'
            subst hw''
            go_upto_region 9 with fail
            obtain ⟨W0, hW0⟩ : ∃ W0, W0 = wr.drewN nq := ⟨_, rfl⟩
            have HROW3 : Hid (W0.ownsRow b0 3 1 (.slice A' n c) n (L.map encN)) := Lib.hid (by rw [hW0]; exact HROW2.out)
            have HB3 : Hid (Below b0 w W0) := Lib.hid (by rw [hW0]; exact HB2.out.trans ⟨rfl, rfl, rfl, Nat.le_refl _, fun _ _ => rfl⟩)
            have HLN : Hid (L.length = n ∧ p ≤ n ∧ n ≤ 100000) := Lib.hid (by have := HPN.out; have := HK.out.len; have := HL.out; have := HLT.out; omega)
            have HCAP : Hid (n ≤ c ∧ c ≤ maxLen) := Lib.hid (own_capq HROW3.out)
            rw [← hW0]
            clear hW0 HROW2 HROW HB2 HB HBQ HKN
            have HROW := HROW3
            clear HROW3
            obtain ⟨W, hW⟩ : ∃ W, W = W0.drew := ⟨_, rfl⟩
            obtain ⟨N, hN⟩ : ∃ N, N = W.heap.size := ⟨_, rfl⟩
            have hNW : N = W0.heap.size := by rw [hN, hW]; rfl
            obtain ⟨A3, hA3⟩ : ∃ A3 : Option Addr, A3 = (if c = p then A' else A'.map (·.add p)) := ⟨_, rfl⟩
            have HRD : Hid (∀ w3, Below N W w3 → Rd w3 N A' ((L.take p).map encN) ∧ Rd w3 N A3 ((L.drop p).map encN)) := Lib.hid (fun w3 hW3 => by
              obtain ⟨A4, c4, e4, _, hr4⟩ := own_rd HROW.out
              injection e4 with e4
              subst e4
              have h5 : Rd W0.drew N A' (L.map encN) := by rw [hNW]; exact hr4.below ⟨rfl, rfl, rfl, Nat.le_refl _, fun _ _ => rfl⟩
              have h4 : Rd w3 N A' (L.map encN) := by rw [← hW] at h5; exact h5.below hW3
              refine ⟨rdN_take h4, ?_⟩
              rw [hA3]
              by_cases hc : c = p
              · rw [if_pos hc, List.drop_of_length_le (by have := HLN.out; have := HCAP.out; omega)]
                exact Rd.nil
              · rw [if_neg hc]
                rcases hAA : A' with _ | a
                · have hz := HROW.out.2
                  rw [hAA] at hz
                  rcases hz with ⟨h0, _⟩ | ⟨_, _, _, h0, _⟩
                  · injection h0 with _ h1 h2; have := HLN.out; omega
                  · injection h0 with h0; cases h0
                · rw [hAA] at h4
                  exact rdN_drop (by have := HLN.out; omega) h4)
            have HA3 := Lib.hid hA3
            have HWW := Lib.hid hW
            have HNN := Lib.hid hN
            have HNW := Lib.hid hNW
            have p0 : (p : Int) ≤ (n : Int) := by have := HLN.out; omega
            have p1 : p ≤ n := HLN.out.2.1
            have p2 : n ≤ c := HCAP.out.1
            have p3 : (0 : Int) ≤ (p : Int) := by omega
            have p4 : (p : Int) ≤ (c : Int) := by omega
            have p5 : (n : Int) ≤ (c : Int) := by omega
            have p6 : p ≤ c := by omega
            clear hA3 hN hW hNW
            refine PI.wp_region_persG (R := fun a b => Below N a b) (G := fun _ _ => True) (I := PI.RI [(3, 48), (5, 50), (6, 51), (10, 55)] [(6, 3), (3, 6), (10, 6), (6, 10), (10, 3), (3, 10)]) [(2, 0), (2, 1), (3, 2), (5, 4), (6, 3), (6, 5), (9, 7), (9, 8), (10, 6), (10, 9), (11, 10)] [11] (by kernel_rfl) (PI.formed_of (by kernel_rfl)) GOESI (fun _ => trivial) (InF A' A3 n c p N e L) (PI.RI.start (n := 57) (by decide) rfl) ?_ ?_
            · rw [← HWW.out]
              intro i o ho
              rcases i with _ | _ | _ | _ | _ | _ | _ | _ | _ | _ | _ | _ | i
              · obtain rfl := Option.some.inj (show some _ = some o from ho)
                refine PI.shown_val rfl fun a w3 L0 hr T => ?_
                have h1 : a.eval (.tmp 7) = .slice A' n c := T.was 7 (by kernel_rfl)
                exact ⟨.slice A' n c, w3, by simp only [execOp, h1]; simp [go_sem], PI.Post.pure GOESI rfl (PI.RI.pure T.inv _ (by decide) (Nat.le_refl _))⟩
              · obtain rfl := Option.some.inj (show some _ = some o from ho)
                refine PI.shown_val rfl fun a w3 L0 hr T => ?_
                have h1 : a.eval (.tmp 9) = .int .i64 (p : Int) := T.was 9 (by kernel_rfl)
                exact ⟨.int .i64 (p : Int), w3, by simp only [execOp, h1]; simp [go_sem], PI.Post.pure GOESI rfl (PI.RI.pure T.inv _ (by decide) (Nat.le_refl _))⟩
              · obtain rfl := Option.some.inj (show some _ = some o from ho)
                refine PI.shown_val rfl fun a w3 L0 hr T => ?_
                have h1 : a.eval (.tmp 45) = .slice A' n c := T.at_ 0 45 (by kernel_rfl) (by kernel_rfl) (by kernel_rfl)
                have h2 : a.eval (.tmp 46) = .int .i64 (p : Int) := T.at_ 1 46 (by kernel_rfl) (by kernel_rfl) (by kernel_rfl)
                exact ⟨.slice A' p c, w3, by simp only [execOp, h1, h2, Option.map]; rcases A' with _ | a' <;> simp [go_sem, p0, p1, p2, p3, p4, p5, p6], PI.Post.pure GOESI rfl (PI.RI.pure T.inv _ (by decide) (Nat.le_refl _))⟩
              · obtain rfl := Option.some.inj (show some _ = some o from ho)
                refine PI.shown_val rfl fun a w3 L0 hr T => ?_
                have h1 : a.eval (.tmp 47) = .slice A' p c := T.at_ 2 47 (by kernel_rfl) (by kernel_rfl) (by kernel_rfl)
                have h0 : a.eval (.const (.slice none 0 0)) = .slice none 0 0 := rfl
                have hsz : N ≤ w3.heap.size := by rw [HNN.out]; exact hr.size
                obtain ⟨v4, w4, e4, ho4, hg4⟩ := appIs (ty := 26) (c := c) (base := w3.heap.size) (n := 0) (xs := []) (World.ownsRow_nil w3 _ 3 1) (L := L.take p) ((HRD.out w3 hr).1) (m := p) (by rw [List.length_take]; have := HLN.out; omega) (by have := HLN.out; omega) (Nat.le_refl _)
                rw [Nat.zero_add, List.nil_append] at ho4
                have hb4 := hg4.new
                exact ⟨v4, w4, by simp only [execOp, resolve, invoke, builtin, Sem.run_bind, Sem.run_pure, Result.andThen_ok, List.map_toArray, List.map_cons, List.map_nil, h0, h1, e4], hb4.mono hsz, own_mono ho4 hsz, fun _ _ h => h, fun j v _ _ _ _ h => h.keep (fun m xs ho => own_below ho hb4), PI.RI.row T.inv (by decide) (by decide) [] (by decide) (by decide) (fun j hj => by cases hj) hb4.size (fun b hvb => ⟨own_block_lt ho4 b hvb, .inl (own_block_ge ho4 b hvb)⟩)⟩
              · obtain rfl := Option.some.inj (show some _ = some o from ho)
                refine PI.shown_val rfl fun a w3 L0 hr T => ?_
                have h1 : a.eval (.tmp 8) = .int .i64 (e : Int) := T.was 8 (by kernel_rfl)
                exact ⟨.int .i64 (e : Int), w3, by simp only [execOp, h1]; simp [go_sem], PI.Post.pure GOESI rfl (PI.RI.pure T.inv _ (by decide) (Nat.le_refl _))⟩
              · obtain rfl := Option.some.inj (show some _ = some o from ho)
                refine PI.shown_val rfl fun a w3 L0 hr T => ?_
                have h1 : a.eval (.tmp 49) = .int .i64 (e : Int) := T.at_ 4 49 (by kernel_rfl) (by kernel_rfl) (by kernel_rfl)
                have hsz : N ≤ w3.heap.size := by rw [HNN.out]; exact hr.size
                have ho4 : (w3.alloc (.cells #[.int .i64 (e : Int)] 3)).ownsRow N 3 1 (.slice (some ⟨w3.heap.size, 0, none⟩) 1 1) 1 (([e] : List Nat).map encN) := World.ownsRow_lit (base := N) (e := 3) (size := 1) w3 #[.int .i64 (e : Int)] 1 hsz (by decide) rfl
                have hb4 := (Below.refl w3.heap.size w3).alloc (Nat.le_refl _) (.cells #[.int .i64 (e : Int)] 3)
                have h1b := h1
                simp only [Act.eval, Array.getD_eq_getD_getElem?] at h1b
                exact ⟨.slice (some ⟨w3.heap.size, 0, none⟩) 1 1, _, by (simp only [execOp]; first | (simp [go_sem, h1b]; done) | (simp [go_sem, h1b]; rfl)), hb4.mono hsz, ho4, fun _ _ h => h, fun j v _ _ _ _ h => h.keep (fun m xs ho => own_below ho hb4), PI.RI.row T.inv (by decide) (by decide) [] (by decide) (by decide) (fun j hj => by cases hj) hb4.size (fun b hvb => ⟨own_block_lt ho4 b hvb, .inl (by injection hvb with hvb; rw [← hvb]; exact Nat.le_refl _)⟩)⟩
              · obtain rfl := Option.some.inj (show some _ = some o from ho)
                refine PI.shown_val rfl fun a w3 L0 hr T => ?_
                have h1 : w3.ownsRow N 3 1 (a.eval (.tmp 48)) (p) ((L.take p).map encN) := T.at_ 3 48 (by kernel_rfl) (by kernel_rfl) (by kernel_rfl)
                have h2 : w3.ownsRow N 3 1 (a.eval (.tmp 50)) (1) (([e]).map encN) := T.at_ 5 50 (by kernel_rfl) (by kernel_rfl) (by kernel_rfl)
                have hsz : N ≤ w3.heap.size := by rw [HNN.out]; exact hr.size
                obtain ⟨A5, c5, hv5, _, hrd5⟩ := own_rd h2
                obtain ⟨v4, w4, e4, ho4, hg4⟩ := appIs (ty := 26) (c := c5) h1 (L := [e]) hrd5 (m := 1) rfl (by have := HLN.out; omega) hsz
                rw [← List.map_append] at ho4
                have HI := T.inv
                have hge := own_block_ge h1
                have hL : L0 3 = true := T.doneI 3 (by kernel_rfl)
                refine ⟨v4, w4, by simp only [execOp, resolve, invoke, builtin, Sem.run_bind, Sem.run_pure, Result.andThen_ok, List.map_toArray, List.map_cons, List.map_nil, hv5, e4], hg4.below (Below.refl _ _) hsz hge, ho4, fun _ _ h => h, fun j v hj hLj hnd hvj h => ?_, PI.RI.row HI (by decide) (by decide) [(3, 48)] (by decide) (by decide) (fun j hj => by rw [List.mem_singleton] at hj; subst hj; exact hL) hg4.grown.size (fun b hvb => ⟨own_block_lt ho4 b hvb, by
                  rcases hg4.blk with hk | ⟨g, hk, hk2⟩
                  · exact .inr ⟨_, List.mem_singleton.2 rfl, by rw [← hvb, hk]; rfl⟩
                  · rw [hk] at hvb; injection hvb with hvb; exact .inl (by omega)⟩)⟩
                by_cases hjr : j = 3 ∨ j = 5 ∨ j = 6 ∨ j = 10 ∨ j = 11
                · rcases hjr with rfl | rfl | rfl | rfl | rfl
                  · simp [PI.needB] at hnd
                  · simp [PI.needB] at hnd
                  · exact absurd rfl hj
                  · exact absurd (T.shut_ 10 6 (by kernel_rfl) hLj) (by rw [T.yetNot]; decide)
                  · exact absurd (T.shut_ 11 6 (by kernel_rfl) hLj) (by rw [T.yetNot]; decide)
                · exact InF.other h hjr
              · obtain rfl := Option.some.inj (show some _ = some o from ho)
                refine PI.shown_val rfl fun a w3 L0 hr T => ?_
                have h1 : a.eval (.tmp 7) = .slice A' n c := T.was 7 (by kernel_rfl)
                exact ⟨.slice A' n c, w3, by simp only [execOp, h1]; simp [go_sem], PI.Post.pure GOESI rfl (PI.RI.pure T.inv _ (by decide) (Nat.le_refl _))⟩
              · obtain rfl := Option.some.inj (show some _ = some o from ho)
                refine PI.shown_val rfl fun a w3 L0 hr T => ?_
                have h1 : a.eval (.tmp 9) = .int .i64 (p : Int) := T.was 9 (by kernel_rfl)
                exact ⟨.int .i64 (p : Int), w3, by simp only [execOp, h1]; simp [go_sem], PI.Post.pure GOESI rfl (PI.RI.pure T.inv _ (by decide) (Nat.le_refl _))⟩
              · obtain rfl := Option.some.inj (show some _ = some o from ho)
                refine PI.shown_val rfl fun a w3 L0 hr T => ?_
                have h1 : a.eval (.tmp 52) = .slice A' n c := T.at_ 7 52 (by kernel_rfl) (by kernel_rfl) (by kernel_rfl)
                have h2 : a.eval (.tmp 53) = .int .i64 (p : Int) := T.at_ 8 53 (by kernel_rfl) (by kernel_rfl) (by kernel_rfl)
                exact ⟨.slice A3 (n - p) (c - p), w3, by simp only [execOp, h1, h2, Option.map]; rw [HA3.out]; rcases A' with _ | a' <;> simp [go_sem, p0, p1, p2, p3, p4, p5, p6], PI.Post.pure GOESI rfl (PI.RI.pure T.inv _ (by decide) (Nat.le_refl _))⟩
              · obtain rfl := Option.some.inj (show some _ = some o from ho)
                refine PI.shown_val rfl fun a w3 L0 hr T => ?_
                have h1 : w3.ownsRow N 3 1 (a.eval (.tmp 51)) (p + 1) ((L.take p ++ [e]).map encN) := T.at_ 6 51 (by kernel_rfl) (by kernel_rfl) (by kernel_rfl)
                have h2 : a.eval (.tmp 54) = .slice A3 (n - p) (c - p) := T.at_ 9 54 (by kernel_rfl) (by kernel_rfl) (by kernel_rfl)
                have hsz : N ≤ w3.heap.size := by rw [HNN.out]; exact hr.size
                obtain ⟨v4, w4, e4, ho4, hg4⟩ := appIs (ty := 26) (c := c - p) h1 (L := L.drop p) ((HRD.out w3 hr).2) (m := n - p) (by rw [List.length_drop]; have := HLN.out; omega) (by have := HLN.out; omega) hsz
                rw [show p + 1 + (n - p) = n + 1 by omega, ← List.map_append] at ho4
                have HI := T.inv
                have hge := own_block_ge h1
                have hL : L0 6 = true := T.doneI 6 (by kernel_rfl)
                refine ⟨v4, w4, by simp only [execOp, resolve, invoke, builtin, Sem.run_bind, Sem.run_pure, Result.andThen_ok, List.map_toArray, List.map_cons, List.map_nil, h2, e4], hg4.below (Below.refl _ _) hsz hge, ho4, fun _ _ h => h, fun j v hj hLj hnd hvj h => ?_, PI.RI.row HI (by decide) (by decide) [(6, 51)] (by decide) (by decide) (fun j hj => by rw [List.mem_singleton] at hj; subst hj; exact hL) hg4.grown.size (fun b hvb => ⟨own_block_lt ho4 b hvb, by
                  rcases hg4.blk with hk | ⟨g, hk, hk2⟩
                  · exact .inr ⟨_, List.mem_singleton.2 rfl, by rw [← hvb, hk]; rfl⟩
                  · rw [hk] at hvb; injection hvb with hvb; exact .inl (by omega)⟩)⟩
                by_cases hjr : j = 3 ∨ j = 5 ∨ j = 6 ∨ j = 10 ∨ j = 11
                · rcases hjr with rfl | rfl | rfl | rfl | rfl
                  · simp [PI.needB, hL] at hnd
                  · simp [PI.needB, hL] at hnd
                  · simp [PI.needB] at hnd
                  · exact absurd rfl hj
                  · exact absurd (T.shut_ 11 10 (by kernel_rfl) hLj) (by rw [T.yetNot]; decide)
                · exact InF.other h hjr
              · obtain rfl := Option.some.inj (show some _ = some o from ho)
                refine PI.shown_val rfl fun a w3 L0 hr T => ?_
                have h1 : w3.ownsRow N 3 1 (a.eval (.tmp 55)) (n + 1) ((L.take p ++ [e] ++ L.drop p).map encN) := T.at_ 10 55 (by kernel_rfl) (by kernel_rfl) (by kernel_rfl)
                exact ⟨a.eval (.tmp 55), w3, by simp only [execOp]; simp [go_sem], PI.Post.pure GOESI h1 (PI.RI.pure T.inv _ (by decide) (Nat.le_refl _))⟩
              · cases ho
            · rw [← HWW.out]
              intro x9 w9 hr hf he _
              have h1 := hf 11 _ 7 rfl rfl (by decide)
              change w9.ownsRow N 3 1 (x9 11) (n + 1) ((L.take p ++ [e] ++ L.drop p).map encN) at h1
              obtain ⟨A9, c9, hv9, hc9, _⟩ := own_rd h1
              rw [hv9] at h1
              have HB9 := Lib.hid (show Below N W0 w9 from by have h2 := hr; rw [HWW.out] at h2; exact (show Below N W0 W0.drew from ⟨rfl, rfl, rfl, Nat.le_refl _, fun _ _ => rfl⟩).trans h2)
              have HO9 := Lib.hid h1
              simp only [PI.putAll, Act.put, List.setIfInBounds_toArray, List.set_cons_zero, List.set_cons_succ]
              rw [hv9]
              clear hf he h1 hr hv9 hc9
              have HLE := Lib.hid (show b0 ≤ N from by rw [HNW.out]; have := HB3.out.size; exact HSB.out _ HB3.out)
              go_wp2_with fail
              go_roundw
              case rel => exact ⟨e9, n + 1, c9, A9, _, by first | rfl | go_num, rfl, Lib.hid (by have := HLT.out; have := HE9.out; omega), Lib.hid (by simp only [List.length_append, List.length_take, List.length_drop, List.length_cons, List.length_nil]; have := HLN.out; omega), by rw [HE9.out]; exact HK2, Lib.hid (own_mono HO9.out HLE.out), Lib.hid (HB3.out.trans (HB9.out.mono HLE.out))⟩
              case measure => have := HLT.out; have := HE9.out; simp [intOf]; omega
          · have hxl := (HK.out.mem x).1 (List.mem_of_getElem? hx)
            have hxs : x < sn := by have := HLT.out; omega
            obtain ⟨xx, hxx⟩ : ∃ xx, l[x]? = some xx := ⟨_, List.getElem?_eq_getElem (by rw [← HN.out]; exact hxs)⟩
            have hsx := stS_at hxx
            have hsp := HSQ.out _ HB2.out
            obtain ⟨aa, haa, haab, hca, hra⟩ := hsp.at_ hxe
            obtain ⟨ab, hab2, habb, hcb, hrb⟩ := hsp.at_ hxx
            rw [haa] at hab2
            obtain rfl : aa = ab := by injection hab2
            subst haa
            obtain ⟨u, hu⟩ : ∃ u, u = stS l e := ⟨_, rfl⟩
            obtain ⟨v, hv⟩ : ∃ v, v = stS l x := ⟨_, rfl⟩
            have c1 : wr.cell? ⟨(aa.add (e * 10)).block, (aa.add (e * 10)).off + 6, none⟩ = some (.int .i64 u) := by rw [hu, hse]; exact cell_far (hca 6 _ rfl) (by decide)
            have c2 : wr.cell? ⟨(aa.add (x * 10)).block, (aa.add (x * 10)).off + 6, none⟩ = some (.int .i64 v) := by rw [hv, hsx]; exact cell_far (hcb 6 _ rfl) (by decide)
            obtain ⟨g, rfl, _, _, _, _, _, _⟩ := own_parts HROW2.out (by have := HKN.out; omega)
            obtain ⟨pm, hpm⟩ : ∃ pm, pm = p - 1 := ⟨_, rfl⟩
            rw [← hpm] at hx
            obtain ⟨c3, _⟩ := own_atN HROW2.out hx
            have e2 : IntKind.i64.wrap ((p : Int) - 1) = (pm : Int) := by have := HKN.out; have := HK.out.len; have := HL.out; have := HLT.out; rw [IntKind.wrap_i64] <;> omega
            have d2 : decide ((0 : Int) < (p : Int)) = true := decide_eq_true (by omega)
            have d3 : decide (0 < p) = true := decide_eq_true hp
            have j0 : (0 : Int) ≤ (pm : Int) := by omega
            have j1 : (pm : Int) < (n : Int) := by have := HKN.out; omega
            have j2 : (0 : Int) ≤ (x : Int) := by omega
            have j3 : (x : Int) < (sn : Int) := by omega
            have HPM := Lib.hid (And.intro hpm hp)
            have HU := Lib.hid (And.intro hu hv)
            have HX := Lib.hid hx
            clear hpm hp hu hv hrb hcb hra hca haab habb hab2 hsp hsx hxx hxs hxl hse hxe hx
            by_cases hlo : u < v
            · as_aux_lemma =>
              have d4 : decide (u < v) = true := decide_eq_true hlo
              have HUP2 := Lib.hid (show ∀ j x, pm ≤ j → L[j]? = some x → stS l e < stS l x from fun j x' hj hx' => by
                rcases Nat.lt_or_ge j p with h | h
                · have : j = pm := by have := HPM.out; omega
                  subst this
                  rw [HX.out] at hx'
                  injection hx' with hx'
                  rw [← hx', ← HU.out.1, ← HU.out.2]; exact hlo
                · exact HUP.out j x' h hx')
              clear hlo
              go_upto_region 7 with fail
              refine wp_region_quiet_lex (by kernel_rfl) (by kernel_rfl) ?_
              repeat (go_big_quiet_step (fail))
              refine wpQuiet_nil ?_
              intro _ hw'
              obtain ⟨nq, hw''⟩ := hw'
              subst hw''
              go_wp2_with fail
              go_roundw
              case rel => exact ⟨pm, by first | rfl | go_num, Lib.hid (by have := HPM.out; have := HKN.out; omega), HUP2, Lib.hid (HBQ.out.trans ⟨rfl, rfl, rfl, Nat.le_refl _, fun _ _ => rfl⟩)⟩
              case measure => have := HPM.out; simp [intOf]; omega
            · as_aux_lemma =>
              have d4 : decide (u < v) = false := decide_eq_false hlo
              have HUP2 : Hid (p = 0 ∨ ∃ x, L[p - 1]? = some x ∧ stS l x ≤ stS l e) := Lib.hid (.inr ⟨x, by rw [← HPM.out.1]; exact HX.out, by rw [← HU.out.1, ← HU.out.2]; omega⟩)
              have HPN : Hid (p ≤ n) := Lib.hid HKN.out
              have HK2 := Lib.hid (HK.out.ins HPE.out (by have := HKN.out; have := HL.out; omega) HUP.out HUP2.out)
              clear hlo
              go_upto_region 7 with fail
              refine wp_region_quiet_lex (by kernel_rfl) (by kernel_rfl) ?_
              repeat (go_big_quiet_step (fail))
              refine wpQuiet_nil ?_
              intro _ hw'
              obtain ⟨nq, hw''⟩ := hw'
              subst hw''
              go_upto_region 9 with fail
              obtain ⟨W0, hW0⟩ : ∃ W0, W0 = wr.drewN nq := ⟨_, rfl⟩
              have HROW3 : Hid (W0.ownsRow b0 3 1 (.slice (some ⟨g, 0, none⟩) n c) n (L.map encN)) := Lib.hid (by rw [hW0]; exact HROW2.out)
              have HB3 : Hid (Below b0 w W0) := Lib.hid (by rw [hW0]; exact HB2.out.trans ⟨rfl, rfl, rfl, Nat.le_refl _, fun _ _ => rfl⟩)
              have HLN : Hid (L.length = n ∧ p ≤ n ∧ n ≤ 100000) := Lib.hid (by have := HPN.out; have := HK.out.len; have := HL.out; have := HLT.out; omega)
              have HCAP : Hid (n ≤ c ∧ c ≤ maxLen) := Lib.hid (own_capq HROW3.out)
              rw [← hW0]
              clear hW0 HROW2 HROW HB2 HB HBQ HKN
              obtain ⟨A', hA9⟩ : ∃ A' : Option Addr, A' = some ⟨g, 0, none⟩ := ⟨_, rfl⟩
              rw [← hA9] at HROW3 ⊢
              clear hA9 c3
              have HROW := HROW3
              clear HROW3
              obtain ⟨W, hW⟩ : ∃ W, W = W0.drew := ⟨_, rfl⟩
              obtain ⟨N, hN⟩ : ∃ N, N = W.heap.size := ⟨_, rfl⟩
              have hNW : N = W0.heap.size := by rw [hN, hW]; rfl
              obtain ⟨A3, hA3⟩ : ∃ A3 : Option Addr, A3 = (if c = p then A' else A'.map (·.add p)) := ⟨_, rfl⟩
              have HRD : Hid (∀ w3, Below N W w3 → Rd w3 N A' ((L.take p).map encN) ∧ Rd w3 N A3 ((L.drop p).map encN)) := Lib.hid (fun w3 hW3 => by
                obtain ⟨A4, c4, e4, _, hr4⟩ := own_rd HROW.out
                injection e4 with e4
                subst e4
                have h5 : Rd W0.drew N A' (L.map encN) := by rw [hNW]; exact hr4.below ⟨rfl, rfl, rfl, Nat.le_refl _, fun _ _ => rfl⟩
                have h4 : Rd w3 N A' (L.map encN) := by rw [← hW] at h5; exact h5.below hW3
                refine ⟨rdN_take h4, ?_⟩
                rw [hA3]
                by_cases hc : c = p
                · rw [if_pos hc, List.drop_of_length_le (by have := HLN.out; have := HCAP.out; omega)]
                  exact Rd.nil
                · rw [if_neg hc]
                  rcases hAA : A' with _ | a
                  · have hz := HROW.out.2
                    rw [hAA] at hz
                    rcases hz with ⟨h0, _⟩ | ⟨_, _, _, h0, _⟩
                    · injection h0 with _ h1 h2; have := HLN.out; omega
                    · injection h0 with h0; cases h0
                  · rw [hAA] at h4
                    exact rdN_drop (by have := HLN.out; omega) h4)
              have HA3 := Lib.hid hA3
              have HWW := Lib.hid hW
              have HNN := Lib.hid hN
              have HNW := Lib.hid hNW
              have p0 : (p : Int) ≤ (n : Int) := by have := HLN.out; omega
              have p1 : p ≤ n := HLN.out.2.1
              have p2 : n ≤ c := HCAP.out.1
              have p3 : (0 : Int) ≤ (p : Int) := by omega
              have p4 : (p : Int) ≤ (c : Int) := by omega
              have p5 : (n : Int) ≤ (c : Int) := by omega
              have p6 : p ≤ c := by omega
              clear hA3 hN hW hNW
              refine PI.wp_region_persG (R := fun a b => Below N a b) (G := fun _ _ => True) (I := PI.RI [(3, 48), (5, 50), (6, 51), (10, 55)] [(6, 3), (3, 6), (10, 6), (6, 10), (10, 3), (3, 10)]) [(2, 0), (2, 1), (3, 2), (5, 4), (6, 3), (6, 5), (9, 7), (9, 8), (10, 6), (10, 9), (11, 10)] [11] (by kernel_rfl) (PI.formed_of (by kernel_rfl)) GOESI (fun _ => trivial) (InF A' A3 n c p N e L) (PI.RI.start (n := 57) (by decide) rfl) ?_ ?_
              · rw [← HWW.out]
                intro i o ho
                rcases i with _ | _ | _ | _ | _ | _ | _ | _ | _ | _ | _ | _ | i
                · obtain rfl := Option.some.inj (show some _ = some o from ho)
                  refine PI.shown_val rfl fun a w3 L0 hr T => ?_
                  have h1 : a.eval (.tmp 7) = .slice A' n c := T.was 7 (by kernel_rfl)
                  exact ⟨.slice A' n c, w3, by simp only [execOp, h1]; simp [go_sem], PI.Post.pure GOESI rfl (PI.RI.pure T.inv _ (by decide) (Nat.le_refl _))⟩
                · obtain rfl := Option.some.inj (show some _ = some o from ho)
                  refine PI.shown_val rfl fun a w3 L0 hr T => ?_
                  have h1 : a.eval (.tmp 9) = .int .i64 (p : Int) := T.was 9 (by kernel_rfl)
                  exact ⟨.int .i64 (p : Int), w3, by simp only [execOp, h1]; simp [go_sem], PI.Post.pure GOESI rfl (PI.RI.pure T.inv _ (by decide) (Nat.le_refl _))⟩
                · obtain rfl := Option.some.inj (show some _ = some o from ho)
                  refine PI.shown_val rfl fun a w3 L0 hr T => ?_
                  have h1 : a.eval (.tmp 45) = .slice A' n c := T.at_ 0 45 (by kernel_rfl) (by kernel_rfl) (by kernel_rfl)
                  have h2 : a.eval (.tmp 46) = .int .i64 (p : Int) := T.at_ 1 46 (by kernel_rfl) (by kernel_rfl) (by kernel_rfl)
                  exact ⟨.slice A' p c, w3, by simp only [execOp, h1, h2, Option.map]; rcases A' with _ | a' <;> simp [go_sem, p0, p1, p2, p3, p4, p5, p6], PI.Post.pure GOESI rfl (PI.RI.pure T.inv _ (by decide) (Nat.le_refl _))⟩
                · obtain rfl := Option.some.inj (show some _ = some o from ho)
                  refine PI.shown_val rfl fun a w3 L0 hr T => ?_
                  have h1 : a.eval (.tmp 47) = .slice A' p c := T.at_ 2 47 (by kernel_rfl) (by kernel_rfl) (by kernel_rfl)
                  have h0 : a.eval (.const (.slice none 0 0)) = .slice none 0 0 := rfl
                  have hsz : N ≤ w3.heap.size := by rw [HNN.out]; exact hr.size
                  obtain ⟨v4, w4, e4, ho4, hg4⟩ := appIs (ty := 26) (c := c) (base := w3.heap.size) (n := 0) (xs := []) (World.ownsRow_nil w3 _ 3 1) (L := L.take p) ((HRD.out w3 hr).1) (m := p) (by rw [List.length_take]; have := HLN.out; omega) (by have := HLN.out; omega) (Nat.le_refl _)
                  rw [Nat.zero_add, List.nil_append] at ho4
                  have hb4 := hg4.new
                  exact ⟨v4, w4, by simp only [execOp, resolve, invoke, builtin, Sem.run_bind, Sem.run_pure, Result.andThen_ok, List.map_toArray, List.map_cons, List.map_nil, h0, h1, e4], hb4.mono hsz, own_mono ho4 hsz, fun _ _ h => h, fun j v _ _ _ _ h => h.keep (fun m xs ho => own_below ho hb4), PI.RI.row T.inv (by decide) (by decide) [] (by decide) (by decide) (fun j hj => by cases hj) hb4.size (fun b hvb => ⟨own_block_lt ho4 b hvb, .inl (own_block_ge ho4 b hvb)⟩)⟩
                · obtain rfl := Option.some.inj (show some _ = some o from ho)
                  refine PI.shown_val rfl fun a w3 L0 hr T => ?_
                  have h1 : a.eval (.tmp 8) = .int .i64 (e : Int) := T.was 8 (by kernel_rfl)
                  exact ⟨.int .i64 (e : Int), w3, by simp only [execOp, h1]; simp [go_sem], PI.Post.pure GOESI rfl (PI.RI.pure T.inv _ (by decide) (Nat.le_refl _))⟩
                · obtain rfl := Option.some.inj (show some _ = some o from ho)
                  refine PI.shown_val rfl fun a w3 L0 hr T => ?_
                  have h1 : a.eval (.tmp 49) = .int .i64 (e : Int) := T.at_ 4 49 (by kernel_rfl) (by kernel_rfl) (by kernel_rfl)
                  have hsz : N ≤ w3.heap.size := by rw [HNN.out]; exact hr.size
                  have ho4 : (w3.alloc (.cells #[.int .i64 (e : Int)] 3)).ownsRow N 3 1 (.slice (some ⟨w3.heap.size, 0, none⟩) 1 1) 1 (([e] : List Nat).map encN) := World.ownsRow_lit (base := N) (e := 3) (size := 1) w3 #[.int .i64 (e : Int)] 1 hsz (by decide) rfl
                  have hb4 := (Below.refl w3.heap.size w3).alloc (Nat.le_refl _) (.cells #[.int .i64 (e : Int)] 3)
                  have h1b := h1
                  simp only [Act.eval, Array.getD_eq_getD_getElem?] at h1b
                  exact ⟨.slice (some ⟨w3.heap.size, 0, none⟩) 1 1, _, by (simp only [execOp]; first | (simp [go_sem, h1b]; done) | (simp [go_sem, h1b]; rfl)), hb4.mono hsz, ho4, fun _ _ h => h, fun j v _ _ _ _ h => h.keep (fun m xs ho => own_below ho hb4), PI.RI.row T.inv (by decide) (by decide) [] (by decide) (by decide) (fun j hj => by cases hj) hb4.size (fun b hvb => ⟨own_block_lt ho4 b hvb, .inl (by injection hvb with hvb; rw [← hvb]; exact Nat.le_refl _)⟩)⟩
                · obtain rfl := Option.some.inj (show some _ = some o from ho)
                  refine PI.shown_val rfl fun a w3 L0 hr T => ?_
                  have h1 : w3.ownsRow N 3 1 (a.eval (.tmp 48)) (p) ((L.take p).map encN) := T.at_ 3 48 (by kernel_rfl) (by kernel_rfl) (by kernel_rfl)
                  have h2 : w3.ownsRow N 3 1 (a.eval (.tmp 50)) (1) (([e]).map encN) := T.at_ 5 50 (by kernel_rfl) (by kernel_rfl) (by kernel_rfl)
                  have hsz : N ≤ w3.heap.size := by rw [HNN.out]; exact hr.size
                  obtain ⟨A5, c5, hv5, _, hrd5⟩ := own_rd h2
                  obtain ⟨v4, w4, e4, ho4, hg4⟩ := appIs (ty := 26) (c := c5) h1 (L := [e]) hrd5 (m := 1) rfl (by have := HLN.out; omega) hsz
                  rw [← List.map_append] at ho4
                  have HI := T.inv
                  have hge := own_block_ge h1
                  have hL : L0 3 = true := T.doneI 3 (by kernel_rfl)
                  refine ⟨v4, w4, by simp only [execOp, resolve, invoke, builtin, Sem.run_bind, Sem.run_pure, Result.andThen_ok, List.map_toArray, List.map_cons, List.map_nil, hv5, e4], hg4.below (Below.refl _ _) hsz hge, ho4, fun _ _ h => h, fun j v hj hLj hnd hvj h => ?_, PI.RI.row HI (by decide) (by decide) [(3, 48)] (by decide) (by decide) (fun j hj => by rw [List.mem_singleton] at hj; subst hj; exact hL) hg4.grown.size (fun b hvb => ⟨own_block_lt ho4 b hvb, by
                    rcases hg4.blk with hk | ⟨g, hk, hk2⟩
                    · exact .inr ⟨_, List.mem_singleton.2 rfl, by rw [← hvb, hk]; rfl⟩
                    · rw [hk] at hvb; injection hvb with hvb; exact .inl (by omega)⟩)⟩
                  by_cases hjr : j = 3 ∨ j = 5 ∨ j = 6 ∨ j = 10 ∨ j = 11
                  · rcases hjr with rfl | rfl | rfl | rfl | rfl
                    · simp [PI.needB] at hnd
                    · simp [PI.needB] at hnd
                    · exact absurd rfl hj
                    · exact absurd (T.shut_ 10 6 (by kernel_rfl) hLj) (by rw [T.yetNot]; decide)
                    · exact absurd (T.shut_ 11 6 (by kernel_rfl) hLj) (by rw [T.yetNot]; decide)
                  · exact InF.other h hjr
                · obtain rfl := Option.some.inj (show some _ = some o from ho)
                  refine PI.shown_val rfl fun a w3 L0 hr T => ?_
                  have h1 : a.eval (.tmp 7) = .slice A' n c := T.was 7 (by kernel_rfl)
                  exact ⟨.slice A' n c, w3, by simp only [execOp, h1]; simp [go_sem], PI.Post.pure GOESI rfl (PI.RI.pure T.inv _ (by decide) (Nat.le_refl _))⟩
                · obtain rfl := Option.some.inj (show some _ = some o from ho)
                  refine PI.shown_val rfl fun a w3 L0 hr T => ?_
                  have h1 : a.eval (.tmp 9) = .int .i64 (p : Int) := T.was 9 (by kernel_rfl)
                  exact ⟨.int .i64 (p : Int), w3, by simp only [execOp, h1]; simp [go_sem], PI.Post.pure GOESI rfl (PI.RI.pure T.inv _ (by decide) (Nat.le_refl _))⟩
                · obtain rfl := Option.some.inj (show some _ = some o from ho)
                  refine PI.shown_val rfl fun a w3 L0 hr T => ?_
                  have h1 : a.eval (.tmp 52) = .slice A' n c := T.at_ 7 52 (by kernel_rfl) (by kernel_rfl) (by kernel_rfl)
                  have h2 : a.eval (.tmp 53) = .int .i64 (p : Int) := T.at_ 8 53 (by kernel_rfl) (by kernel_rfl) (by kernel_rfl)
                  exact ⟨.slice A3 (n - p) (c - p), w3, by simp only [execOp, h1, h2, Option.map]; rw [HA3.out]; rcases A' with _ | a' <;> simp [go_sem, p0, p1, p2, p3, p4, p5, p6], PI.Post.pure GOESI rfl (PI.RI.pure T.inv _ (by decide) (Nat.le_refl _))⟩
                · obtain rfl := Option.some.inj (show some _ = some o from ho)
                  refine PI.shown_val rfl fun a w3 L0 hr T => ?_
                  have h1 : w3.ownsRow N 3 1 (a.eval (.tmp 51)) (p + 1) ((L.take p ++ [e]).map encN) := T.at_ 6 51 (by kernel_rfl) (by kernel_rfl) (by kernel_rfl)
                  have h2 : a.eval (.tmp 54) = .slice A3 (n - p) (c - p) := T.at_ 9 54 (by kernel_rfl) (by kernel_rfl) (by kernel_rfl)
                  have hsz : N ≤ w3.heap.size := by rw [HNN.out]; exact hr.size
                  obtain ⟨v4, w4, e4, ho4, hg4⟩ := appIs (ty := 26) (c := c - p) h1 (L := L.drop p) ((HRD.out w3 hr).2) (m := n - p) (by rw [List.length_drop]; have := HLN.out; omega) (by have := HLN.out; omega) hsz
                  rw [show p + 1 + (n - p) = n + 1 by omega, ← List.map_append] at ho4
                  have HI := T.inv
                  have hge := own_block_ge h1
                  have hL : L0 6 = true := T.doneI 6 (by kernel_rfl)
                  refine ⟨v4, w4, by simp only [execOp, resolve, invoke, builtin, Sem.run_bind, Sem.run_pure, Result.andThen_ok, List.map_toArray, List.map_cons, List.map_nil, h2, e4], hg4.below (Below.refl _ _) hsz hge, ho4, fun _ _ h => h, fun j v hj hLj hnd hvj h => ?_, PI.RI.row HI (by decide) (by decide) [(6, 51)] (by decide) (by decide) (fun j hj => by rw [List.mem_singleton] at hj; subst hj; exact hL) hg4.grown.size (fun b hvb => ⟨own_block_lt ho4 b hvb, by
                    rcases hg4.blk with hk | ⟨g, hk, hk2⟩
                    · exact .inr ⟨_, List.mem_singleton.2 rfl, by rw [← hvb, hk]; rfl⟩
                    · rw [hk] at hvb; injection hvb with hvb; exact .inl (by omega)⟩)⟩
                  by_cases hjr : j = 3 ∨ j = 5 ∨ j = 6 ∨ j = 10 ∨ j = 11
                  · rcases hjr with rfl | rfl | rfl | rfl | rfl
                    · simp [PI.needB, hL] at hnd
                    · simp [PI.needB, hL] at hnd
                    · simp [PI.needB] at hnd
                    · exact absurd rfl hj
                    · exact absurd (T.shut_ 11 10 (by kernel_rfl) hLj) (by rw [T.yetNot]; decide)
                  · exact InF.other h hjr
                · obtain rfl := Option.some.inj (show some _ = some o from ho)
                  refine PI.shown_val rfl fun a w3 L0 hr T => ?_
                  have h1 : w3.ownsRow N 3 1 (a.eval (.tmp 55)) (n + 1) ((L.take p ++ [e] ++ L.drop p).map encN) := T.at_ 10 55 (by kernel_rfl) (by kernel_rfl) (by kernel_rfl)
                  exact ⟨a.eval (.tmp 55), w3, by simp only [execOp]; simp [go_sem], PI.Post.pure GOESI h1 (PI.RI.pure T.inv _ (by decide) (Nat.le_refl _))⟩
                · cases ho
              · rw [← HWW.out]
                intro x9 w9 hr hf he _
                have h1 := hf 11 _ 7 rfl rfl (by decide)
                change w9.ownsRow N 3 1 (x9 11) (n + 1) ((L.take p ++ [e] ++ L.drop p).map encN) at h1
                obtain ⟨A9, c9, hv9, hc9, _⟩ := own_rd h1
                rw [hv9] at h1
                have HB9 := Lib.hid (show Below N W0 w9 from by have h2 := hr; rw [HWW.out] at h2; exact (show Below N W0 W0.drew from ⟨rfl, rfl, rfl, Nat.le_refl _, fun _ _ => rfl⟩).trans h2)
                have HO9 := Lib.hid h1
                simp only [PI.putAll, Act.put, List.setIfInBounds_toArray, List.set_cons_zero, List.set_cons_succ]
                rw [hv9]
                clear hf he h1 hr hv9 hc9
                have HLE := Lib.hid (show b0 ≤ N from by rw [HNW.out]; have := HB3.out.size; exact HSB.out _ HB3.out)
                go_wp2_with fail
                go_roundw
                case rel => exact ⟨e9, n + 1, c9, A9, _, by first | rfl | go_num, rfl, Lib.hid (by have := HLT.out; have := HE9.out; omega), Lib.hid (by simp only [List.length_append, List.length_take, List.length_drop, List.length_cons, List.length_nil]; have := HLN.out; omega), by rw [HE9.out]; exact HK2, Lib.hid (own_mono HO9.out HLE.out), Lib.hid (HB3.out.trans (HB9.out.mono HLE.out))⟩
                case measure => have := HLT.out; have := HE9.out; simp [intOf]; omega
      · as_aux_lemma =>
        have HK2 := Lib.hid (HK.out.skip (by rw [hy]; exact fun e => hyz (by injection e)))
        have f1 : (y == z) = false := beq_eq_false_iff_ne.2 hyz
        have f2 : (y != z) = true := by simp [bne, f1]
        clear he9 hlt hy hpc hapb hyz
        go_wp2_with fail
        go_roundw
        case rel => exact ⟨e9, n, c, A', L, by first | rfl | go_num, rfl, Lib.hid (by have := HLT.out; have := HE9.out; omega), HL, by rw [HE9.out]; exact HK2, HROW, HB⟩
        case measure => have := HLT.out; have := HE9.out; simp [intOf]; omega
    · as_aux_lemma =>
      obtain rfl : sn = e := by have := HI.out; omega
      have d0 : decide ((sn : Int) < (sn : Int)) = false := decide_eq_false (by omega)
      have d1 : decide (sn < sn) = false := decide_eq_false (by omega)
      clear hlt
      go_wp2_with fail
      go_ret
      have hl := HL.out
      subst hl
      exact ⟨A', c, L, rfl, HK.out, HROW.out, HB.out⟩
end Go.Proofs.Ytgldjjmpjaegfaa

/- The document's below, plainly; rows of places, more of them. -/
namespace Go.Proofs.Ytgldjjmpjaegfaa
open Go.RowKit
set_option linter.unusedVariables false
set_option linter.unusedSimpArgs false

theorem KO.join {w w' : World} {b : Nat} {C1 C2 : List Value} {K1 K2 : List (List Nat)} (h1 : KO w b C1 K1) (hb : Below w.heap.size w w') (h2 : KO w' w.heap.size C2 K2) (hbw : b ≤ w.heap.size) : KO w' b (C1 ++ C2) (K1 ++ K2) := by
  have hlt : ∀ (j : Nat) (v : Value) (g : Nat), C1[j]? = some v → v.ownBlock = some g → g < w.heap.size := fun j v g hv hg => by
    have hj := (List.getElem?_eq_some_iff.1 hv).1
    have hL : ∃ L, K1[j]? = some L := ⟨_, List.getElem?_eq_getElem (by have := h1.len; omega)⟩
    obtain ⟨L, hL⟩ := hL
    exact own_blk_lt (h1.own j v L hv hL).2 hg
  have hge : ∀ (j : Nat) (v : Value) (g : Nat), C2[j]? = some v → v.ownBlock = some g → w.heap.size ≤ g := fun j v g hv hg => by
    have hj := (List.getElem?_eq_some_iff.1 hv).1
    have hL : ∃ L, K2[j]? = some L := ⟨_, List.getElem?_eq_getElem (by have := h2.len; omega)⟩
    obtain ⟨L, hL⟩ := hL
    exact own_block_ge (h2.own j v L hv hL).2 g hg
  refine ⟨by rw [List.length_append, List.length_append, h1.len, h2.len], fun j v L hv hL => ?_, fun j j' v v' hne hv hv' => ?_⟩
  · rcases Nat.lt_or_ge j C1.length with h | h
    · rw [List.getElem?_append_left h] at hv
      rw [List.getElem?_append_left (by rw [← h1.len]; exact h)] at hL
      obtain ⟨a, c⟩ := h1.own j v L hv hL
      exact ⟨a, own_below c hb⟩
    · rw [List.getElem?_append_right h] at hv
      rw [List.getElem?_append_right (by rw [← h1.len]; exact h), ← h1.len] at hL
      obtain ⟨a, c⟩ := h2.own _ v L hv hL
      exact ⟨a, own_mono c hbw⟩
  · rcases Nat.lt_or_ge j C1.length with h | h <;> rcases Nat.lt_or_ge j' C1.length with h' | h'
    · rw [List.getElem?_append_left h] at hv
      rw [List.getElem?_append_left h'] at hv'
      exact h1.far j j' v v' hne hv hv'
    · rw [List.getElem?_append_left h] at hv
      rw [List.getElem?_append_right h'] at hv'
      cases hg : v.ownBlock with
      | none => exact .inl rfl
      | some g =>
        refine .inr fun e => ?_
        have a := hlt j v g hv hg
        have c := hge _ v' g hv' e.symm
        omega
    · rw [List.getElem?_append_right h] at hv
      rw [List.getElem?_append_left h'] at hv'
      cases hg : v.ownBlock with
      | none => exact .inl rfl
      | some g =>
        refine .inr fun e => ?_
        have a := hge _ v g hv hg
        have c := hlt j' v' g hv' e.symm
        omega
    · rw [List.getElem?_append_right h] at hv
      rw [List.getElem?_append_right h'] at hv'
      exact h2.far _ _ v v' (by omega) hv hv'
theorem KO.left {w : World} {b : Nat} {C1 C2 : List Value} {K1 K2 : List (List Nat)} (h : KO w b (C1 ++ C2) (K1 ++ K2)) (hl : C1.length = K1.length) : KO w b C1 K1 := by
  refine ⟨hl, fun j v L hv hL => ?_, fun j j' v v' hne hv hv' => ?_⟩
  · exact h.own j v L (by rw [List.getElem?_append_left (List.getElem?_eq_some_iff.1 hv).1]; exact hv) (by rw [List.getElem?_append_left (List.getElem?_eq_some_iff.1 hL).1]; exact hL)
  · exact h.far j j' v v' hne (by rw [List.getElem?_append_left (List.getElem?_eq_some_iff.1 hv).1]; exact hv) (by rw [List.getElem?_append_left (List.getElem?_eq_some_iff.1 hv').1]; exact hv')
theorem KO.mono {w : World} {b b' : Nat} {C : List Value} {K : List (List Nat)} (h : KO w b C K) (hb : b' ≤ b) : KO w b' C K := ⟨h.len, fun j v L hv hL => ⟨(h.own j v L hv hL).1, own_mono (h.own j v L hv hL).2 hb⟩, h.far⟩
theorem KO.two {w : World} {b : Nat} (X Y : List Nat) (hX : X = []) (hY : Y = []) : KO w b [.slice none 0 0, .slice none 0 0] [X, Y] := by subst hX; subst hY; exact KO.start w b 2
namespace Sy
theorem ordM_len (K : List (List Nat)) : ∀ (f : Nat) (S : List Nat), (ordM K f S).length ≤ f
  | 0, S => by cases S <;> exact Nat.le_refl _
  | f + 1, [] => by rw [ordM_nil]; exact Nat.zero_le _
  | f + 1, i :: S => by
    show (i :: ordM K f _).length ≤ _
    rw [List.length_cons]
    have := ordM_len K f ((K[i]?).getD [] ++ S)
    omega
theorem Ost.run_fin {P : List Int} {n : Nat} {M : List Nat} (h : All n M) : ∀ (f : Nat) (O S : List Nat), Ost P n O S → O.length + f = n → Ost P n (O ++ ordM (kidsL P n M) f S) [] := by
  intro f
  induction f with
  | zero =>
    intro O S I hl
    have := I.len
    obtain rfl : S = [] := List.eq_nil_of_length_eq_zero (by omega)
    rw [ordM_nil, List.append_nil]; exact I
  | succ f ih =>
    intro O S I hl
    cases S with
    | nil => rw [ordM_nil, List.append_nil]; exact I
    | cons x S =>
      have hx : x < n := I.lt x (List.mem_append_right _ List.mem_cons_self)
      show Ost P n (O ++ (x :: ordM (kidsL P n M) f (((kidsL P n M)[x]?).getD [] ++ S))) []
      rw [kidsL_at M (Nat.le_of_lt hx)]
      have h2 := ih (O ++ [x]) _ (I.step h) (by rw [List.length_append, List.length_singleton]; omega)
      rw [List.append_assoc] at h2
      exact h2
/-- A place for one more. -/
theorem KidS.place {s : Nat → Int} {P : List Int} {z : Int} {n : Nat} {K : List Nat} : ∀ p, p ≤ K.length → (∀ j x, p ≤ j → K[j]? = some x → s n < s x) → ∃ k, k ≤ K.length ∧ (∀ j x, k ≤ j → K[j]? = some x → s n < s x) ∧ (k = 0 ∨ ∃ x, K[k - 1]? = some x ∧ s x ≤ s n)
  | 0, hp, hu => ⟨0, hp, hu, .inl rfl⟩
  | p + 1, hp, hu => by
    obtain ⟨x, hx⟩ : ∃ x, K[p]? = some x := ⟨_, List.getElem?_eq_getElem (by omega)⟩
    by_cases h : s n < s x
    · exact KidS.place (P := P) (z := z) p (by omega) fun j y hj hy => by
        rcases Nat.lt_or_ge j (p + 1) with h1 | h1
        · rw [show j = p by omega, hx] at hy
          injection hy with hy
          rw [← hy]; exact h
        · exact hu j y h1 hy
    · exact ⟨p + 1, hp, hu, .inr ⟨x, by rw [show p + 1 - 1 = p by omega]; exact hx, by omega⟩⟩
theorem KidS.all (s : Nat → Int) (P : List Int) (z : Int) : ∀ n, ∃ K, KidS s P z n K
  | 0 => ⟨[], KidS.start s P z⟩
  | n + 1 => by
    obtain ⟨K, hK⟩ := KidS.all s P z n
    by_cases h : P[n]? = some z
    · obtain ⟨k, h1, h2, h3⟩ := KidS.place (P := P) (z := z) (K := K) (s := s) (n := n) K.length (Nat.le_refl _) (fun j x hj hx => by have := (List.getElem?_eq_some_iff.1 hx).1; omega)
      exact ⟨_, hK.ins h h1 h2 h3⟩
    · exact ⟨K, hK.skip h⟩
theorem bys_ex (l : List Ls) : ∃ M, Bys l M := by
  obtain ⟨K, hK⟩ := KidS.all (stS l) (List.replicate l.length (0 : Int)) 0 l.length
  have hm : ∀ x, x ∈ K ↔ x < l.length := fun x => by
    rw [hK.mem]
    constructor
    · exact fun h => h.1
    · intro h
      exact ⟨h, by rw [List.getElem?_replicate, if_pos h]⟩
  refine ⟨K, hK.ord, hm, ?_⟩
  have h1 := nd_le l.length K hK.nd fun x hx => (hm x).1 hx
  have h2 := sub_len (List.range l.length) K List.nodup_range fun x hx => (hm x).2 (List.mem_range.1 hx)
  rw [List.length_range] at h2
  omega
/-- All that the document's walk over a tree leans on. -/
structure Fo (l : List Ls) (n : Nat) (P : List Int) (M O : List Nat) : Prop where
  ln : n = l.length
  par : ParOf (namedM l) P
  bys : Bys l M
  all : All n M
  plain : Plain P n
  pl : P.length = n
  eq : O = ordM (kidsL P n M) n (M.filter fun i => parN P n i == n)
  ost : Ost P n O []
  run : Run (fun x => M.filter fun q => parN P n q == x) (M.filter fun i => parN P n i == n) O
  nd : O.Nodup
  mem : ∀ x, x ∈ O ↔ x < n
theorem fo_of {l : List Ls} {n : Nat} {P : List Int} {M : List Nat} (hn : n = l.length) (hP : ParOf (namedM l) P) (hM : Bys l M) : Fo l n P M (ordM (kidsL P n M) n (M.filter fun i => parN P n i == n)) := by
  have ha := bys_all hM hn
  have hp : Plain P n := by rw [hn]; exact plain_par hP
  have hl : P.length = n := by rw [hP.1, namedM_len, hn]
  have ho := Ost.run_fin (P := P) ha n [] _ (Ost.start ha) (by simp)
  rw [List.nil_append] at ho
  have hnd := ho.nd
  rw [List.append_nil] at hnd
  exact ⟨hn, hP, hM, ha, hp, hl, rfl, ho, Ost.run (P := P) ha n [] _ (Ost.start ha) (by simp), hnd, ho.fin hP (by rw [namedM_len, hn]) hp hl⟩
theorem Fo.len {l : List Ls} {n : Nat} {P : List Int} {M O : List Nat} (h : Fo l n P M O) : O.length ≤ n := nd_le n O h.nd fun x hx => (h.mem x).1 hx
/-- What is below each. -/
theorem Fo.sub {l : List Ls} {n x : Nat} {P : List Int} {M O : List Nat} (h : Fo l n P M O) (hx : x < n) : ∃ B, Run (fun x => M.filter fun q => parN P n q == x) (M.filter fun q => parN P n q == x) B ∧ B.length < n ∧ ∀ y ∈ B, y < n := by
  obtain ⟨A, B, C, e, hB⟩ := h.run.at_ x ((h.mem x).2 hx)
  refine ⟨B, hB, ?_, fun y hy => (h.mem y).1 (by rw [e]; exact List.mem_append_right _ (List.mem_cons_of_mem _ (List.mem_append_left _ hy)))⟩
  have := h.len
  rw [e, List.length_append, List.length_cons, List.length_append] at this
  omega
end Sy
end Go.Proofs.Ytgldjjmpjaegfaa

/- The document's below, walked. -/
namespace Go.Proofs.Ytgldjjmpjaegfaa
open Go.RowKit Go.Maps
set_option linter.unusedVariables false
set_option linter.unusedSimpArgs false
set_option maxRecDepth 100000

theorem KO.app {w : World} {b i j m c : Nat} {C : List Value} {K : List (List Nat)} {vi : Value} {A : Option Addr} {Li Lj : List Nat} (ty : TypeId) (h : KO w b C K) (hi : C[i]? = some vi) (hLi : K[i]? = some Li) (hj : C[j]? = some (.slice A m c)) (hLj : K[j]? = some Lj) (hm : m = Lj.length) (hn : Li.length + Lj.length ≤ 1000000) (hb : b ≤ w.heap.size) :
    ∃ v' w', (Builtin.append_ #[26, 26] ty #[vi, .slice A m c]).run Try.prog w = .ok v' w' ∧ (KO w' b (C.set i v') (K.set i (Li ++ Lj)) ∧ Grew w w' vi v' ∧ ∃ A' c', v' = .slice A' (Li.length + Lj.length) c') := by
  obtain ⟨h1, h2⟩ := h.own i vi Li hi hLi
  obtain ⟨h3, h4⟩ := h.own j _ Lj hj hLj
  obtain ⟨A9, c9, e9, _, hrd⟩ := own_rd h4
  injection e9 with e9 e10 e11
  subst e9
  obtain ⟨v', w', r1, r2, r3⟩ := appIs (ty := ty) (m := m) (c := c) h2 hrd hm (by omega) hb
  rw [← List.map_append, hm] at r2
  obtain ⟨A5, c5, e5, _, _⟩ := own_rd r2
  exact ⟨v', w', r1, h.put hi hLi r3 (by rw [List.length_append]) r2, r3, A5, c5, e5⟩
theorem KO.ge {w : World} {b i : Nat} {C : List Value} {K : List (List Nat)} {v : Value} {L : List Nat} (h : KO w b C K) (hi : C[i]? = some v) (hL : K[i]? = some L) : ∀ k, v.ownBlock = some k → b ≤ k := own_block_ge (h.own i v L hi hL).2
theorem KO.one {w : World} {b n c : Nat} {A : Option Addr} {L : List Nat} (h : w.ownsRow b 3 1 (.slice A n c) n (L.map encN)) (hn : n = L.length) : KO w b [.slice A n c] [L] := by
  subst hn
  refine ⟨rfl, fun j v L' hv hL => ?_, fun j j' v v' hne hv hv' => ?_⟩
  · cases j with
    | zero => injection hv with hv; injection hL with hL; subst hv hL; exact ⟨⟨A, c, rfl⟩, h⟩
    | succ j => cases hv
  · cases j with
    | zero => cases j' with
      | zero => exact absurd rfl hne
      | succ j' => cases hv'
    | succ j => cases hv
def hdZ (z : Int) : List Nat := if z = -1 then [] else [z.toNat]
/-- What the document's below hands back. -/
def BelowOf (Q : List Nat) (g : Nat → Nat) (w : World) (e : Ending) (w' : World) : Prop := ∃ v1 v2, e = .returned (.tuple #[v1, v2]) ∧ KO w' w.heap.size [v1, v2] [Q, Q.map g] ∧ Below w.heap.size w w'
set_option maxHeartbeats 16000000 in
theorem refbelow_any (l : List Ls) (lA : Option Addr) (sn sc B : Nat) (P : List Int) (pA : Option Addr) (pc : Nat) (M O0 : List Nat) (hF : Sy.Fo l sn P M O0) (g : Nat → Nat) (hg : ∀ x, g x ≤ 1000) (hsm : sn ≤ 1000) :
    ∀ (m : Nat) (z : Int) (O' : List Nat) (deep : Nat) (w : World), RdSps w B lA l → Rd w B pA (P.map encZ) → B ≤ w.heap.size → (z = -1 ∨ (0 ≤ z ∧ z < sn)) → Sy.Run (fun x => M.filter fun q => parN P sn q == x) (M.filter fun q => parN P sn q == Sy.ofZ sn z) O' → O'.length ≤ m → O'.length ≤ 1000 → deep ≤ 1000 → (z = -1 → ∀ y ∈ (M.filter fun q => parN P sn q == Sy.ofZ sn z), g y = deep) → (0 ≤ z → g z.toNat = deep) → (∀ x ∈ hdZ z ++ O', ∀ y ∈ (M.filter fun q => parN P sn q == x), g y = g x + 1) →
    Calls Try.prog 34 #[.slice lA sn sc, .slice pA sn pc, .int .i64 z, .int .i64 (deep : Int)] w (BelowOf (hdZ z ++ O') g w) := by
  have HF := Lib.hid hF
  have HG := Lib.hid hg
  clear hF hg
  intro m
  induction m using Nat.strongRecOn with
  | _ m IH =>
  intro z O' deep w hS hP hB hz hrun hlen hlen2 hdeep hg1 hg2 hgk
  have HIH := Lib.hid IH
  obtain ⟨b0, hb0⟩ : ∃ b0, b0 = w.heap.size := ⟨_, rfl⟩
  have HSQ := Lib.hid (show ∀ W, Below b0 w W → RdSps W B lA l from fun W h => hS.below (h.mono (by rw [hb0]; exact hB)))
  have HPQ := Lib.hid (show ∀ W, Below b0 w W → Rd W B pA (P.map encZ) from fun W h => hP.below (h.mono (by rw [hb0]; exact hB)))
  have HSB := Lib.hid (show ∀ W, Below b0 w W → b0 ≤ W.heap.size from fun W h => by have := h.size; omega)
  have HBB := Lib.hid (show ∀ W, Below b0 w W → B ≤ W.heap.size from fun W h => by have := h.size; omega)
  have HB0 := Lib.hid hb0
  have HKM := Lib.hid (Sy.KidS.of HF.out.ln HF.out.bys HF.out.plain HF.out.pl hz)
  have HRUN := Lib.hid hrun
  have HLEN := Lib.hid (And.intro hlen hlen2)
  have HGK := Lib.hid hgk
  have KC := fun (W : World) (h : Below b0 w W) => Lib.hid (refkids_any l lA sn sc B P pA pc z W (HSQ.out W h) (HPQ.out W h) (HBB.out W h) HF.out.ln HF.out.pl hsm)
  obtain ⟨Tk, hTk⟩ : ∃ Tk, Tk = M.filter fun q => parN P sn q == Sy.ofZ sn z := ⟨_, rfl⟩
  have HTK := Lib.hid hTk
  have HDP := Lib.hid hdeep
  have HNV := Lib.hid (show ∀ (hd : List Nat) (d1 : Nat), (∀ y ∈ Tk, g y = d1) → d1 ≤ 1001 → True from fun _ _ _ _ => trivial)
  clear IH hS hP hB hrun hlen hlen2 hgk hb0 HNV
  rcases hz with rfl | hz
  · have HD1 := Lib.hid (show (∀ y ∈ Tk, g y = deep) ∧ deep ≤ 1001 from ⟨fun y hy => hg1 rfl y (by rw [← hTk]; exact hy), by omega⟩)
    have hhd : hdZ (-1) = [] := by unfold hdZ; rw [if_pos rfl]
    have HHD := Lib.hid (show hdZ (-1) = [] from hhd)
    have d0 : decide ((0 : Int) ≤ (-1 : Int)) = false := by decide
    clear hg1 hg2 hTk hhd hdeep
    go_enter Try.func34, Try.ntmps34
    go_upto_region 6 with fail
    clear d0
    have HKO : Hid (KO w b0 [.slice none 0 0, .slice none 0 0] [hdZ (-1), (hdZ (-1)).map g]) := Lib.hid (KO.two _ _ HHD.out (by rw [HHD.out]; rfl))
    have HB1 : Hid (Below b0 w w) := Lib.hid (Below.refl _ _)
    have HDL : Hid (deep + 0 = deep) := Lib.hid rfl
    go_upto_region 7 with (go_at_call 39; (with_reducible refine (KC _ HB1.out).out.mono ?_); rintro ex w5 ⟨A5, c5, K, rfl, hk5, ho5, hb5⟩; have HK5 := Lib.hid hk5; have HO5 := Lib.hid ho5; have HB5 := Lib.hid hb5; clear hk5 ho5 hb5)
    clear KC
    obtain rfl : K = Tk := by rw [HTK.out]; exact HK5.out.eq HKM.out
    have HKT : Hid (KO w5 b0 [.slice none 0 0, .slice none 0 0, .slice A5 K.length c5] [hdZ (-1), (hdZ (-1)).map g, K]) := Lib.hid (HKO.out.join HB5.out (show KO w5 w.heap.size [.slice A5 K.length c5] [K] from KO.one HO5.out rfl) (HSB.out _ HB1.out))
    have HB6 := Lib.hid (HB1.out.trans (HB5.out.mono (HSB.out _ HB1.out)))
    have HKL := Lib.hid (show ∀ t ∈ K, t < sn from fun t ht => ((HK5.out.mem t).1 ht).1)
    have HR0 : Hid (Sy.Run (fun x => M.filter fun q => parN P sn q == x) K O') := Lib.hid (by rw [HTK.out]; exact HRUN.out)
    obtain ⟨tn, htn⟩ : ∃ tn, tn = K.length := ⟨_, rfl⟩
    rw [← htn] at HKT ⊢
    have HTN := Lib.hid htn
    have htl : K.length ≤ sn := HK5.out.len
    have htl2 : tn ≤ 1000 := by omega
    clear HKO HO5 HB5 HK5 HRUN HTK htl htn HB1
    go_upto_region 8 with fail
    go_loopw [10, 11, 13] (fun v1 v2 vj wq => ∃ (j : Nat) (O1 O2 : List Nat) (n1 : Nat) (A1 A2 : Option Addr) (c1 c2 : Nat), v1 = .slice A1 n1 c1 ∧ v2 = .slice A2 n1 c2 ∧ vj = .int .i64 (j : Int) ∧ Hid (j ≤ tn) ∧ Hid (n1 = (hdZ (-1) ++ O1).length) ∧ Hid (O' = O1 ++ O2) ∧ Hid (Sy.Run (fun x => M.filter fun q => parN P sn q == x) (K.drop j) O2) ∧ Hid (KO wq b0 [.slice A1 n1 c1, .slice A2 n1 c2, .slice A5 tn c5] [hdZ (-1) ++ O1, (hdZ (-1) ++ O1).map g, K]) ∧ Hid (Below b0 w wq)) (fun _ _ vj _ => tn - (intOf vj).toNat)
    case atStart => exact ⟨0, [], O', _, _, _, _, _, rfl, rfl, rfl, Lib.hid (Nat.zero_le _), Lib.hid (by rw [List.append_nil, HHD.out]; rfl), Lib.hid rfl, HR0, by rw [List.append_nil]; exact HKT, HB6⟩
    clear HKT HB6 HR0
    case round =>
      obtain ⟨j, O1, O2, n1, A1, A2, c1, c2, rfl, rfl, rfl, HJ, HN1, HOO, HR, HKO, HB⟩ := hrel
      by_cases hlt : j < tn
      · as_aux_lemma =>
        have d0 : decide ((j : Int) < (tn : Int)) = true := decide_eq_true (by omega)
        have d1' : decide (j < tn) = true := decide_eq_true hlt
        have i0 : (0 : Int) ≤ (j : Int) := by omega
        have i1 : (j : Int) < (tn : Int) := by omega
        obtain ⟨j9, hj9⟩ : ∃ j9, j9 = j + 1 := ⟨_, rfl⟩
        have e1 : IntKind.i64.wrap ((j : Int) + 1) = (j9 : Int) := by rw [IntKind.wrap_i64] <;> omega
        obtain ⟨t, ht⟩ : ∃ t, K[j]? = some t := ⟨_, List.getElem?_eq_getElem (by rw [← HTN.out]; exact hlt)⟩
        have htn := HKL.out t (List.mem_of_getElem? ht)
        have hoT := (HKO.out.own 2 _ _ rfl rfl).2
        rw [← HTN.out] at hoT
        obtain ⟨gT, rfl, _, _, _, _, _, _⟩ := own_parts hoT (by omega)
        obtain ⟨p0, _⟩ := own_atN hoT ht
        have hdrop : K.drop j = t :: K.drop (j + 1) := by
          have h := List.getElem?_eq_some_iff.1 ht
          rw [List.drop_eq_getElem_cons h.1, h.2]
        have hR := HR.out
        rw [hdrop] at hR
        obtain ⟨Ot, O3, hO23, hRt, hR3⟩ := hR.split [t] (K.drop (j + 1)) rfl
        have hRt2 : ∃ Ot', Ot = t :: Ot' ∧ Sy.Run (fun x => M.filter fun q => parN P sn q == x) (M.filter fun q => parN P sn q == t) Ot' := by
          cases hRt with
          | cons h => rw [List.append_nil] at h; exact ⟨_, rfl, h⟩
        obtain ⟨Ot', rfl, hRt3⟩ := hRt2
        have hof : Sy.ofZ sn (t : Int) = t := by unfold Sy.ofZ; rw [if_neg (by omega)]; rfl
        have hht : hdZ (t : Int) = [t] := by unfold hdZ; rw [if_neg (by omega)]; rfl
        have hlen := HLEN.out
        have hOO := HOO.out
        have hll : O'.length = O1.length + (Ot'.length + 1 + O3.length) := by rw [hOO, hO23]; simp; omega
        have hn1 := HN1.out
        have htk : t ∈ K := List.mem_of_getElem? ht
        have IHC := Lib.hid (HIH.out Ot'.length (by omega) (t : Int) Ot' deep wr (HSQ.out _ HB.out) (HPQ.out _ HB.out) (HBB.out _ HB.out) (.inr ⟨by omega, by omega⟩) (by rw [hof]; exact hRt3) (Nat.le_refl _) (by omega) (by have := HG.out t; rw [HD1.out.1 t htk] at this; exact this) (fun e => by omega) (fun _ => HD1.out.1 t htk) (fun x hx y hy => HGK.out x (by
          rw [hht] at hx
          rw [hOO, hO23]
          refine List.mem_append_right _ (List.mem_append_right _ (List.mem_append_left _ ?_))
          simpa using hx) y hy))
        rw [hht, show [t] ++ Ot' = t :: Ot' from rfl] at IHC
        have HN2 := Lib.hid (show (hdZ (-1) ++ O1).length + (Ot'.length + 1) ≤ 100000 from by
          have hh : (hdZ (-1)).length ≤ 1 := by rw [HHD.out]; simp
          rw [List.length_append]; omega)
        have HO23 := Lib.hid hO23
        have HR3 := Lib.hid hR3
        have HJ9 := Lib.hid hj9
        have HLT := Lib.hid hlt
        clear hj9 hlt ht htn hoT hdrop hR hO23 hRt hR3 hRt3 hof hht hlen hOO hll hn1 htk
        go_upto_region 11 with (go_at_call 34; (with_reducible refine IHC.out.mono ?_); rintro ex w7 ⟨x7, y7, rfl, hk7, hb7⟩; have HK7 := Lib.hid hk7; have HB7 := Lib.hid hb7; clear hk7 hb7)
        clear IHC d0 d1'
        have HKJ : Hid (KO w7 b0 [.slice A1 n1 c1, .slice A2 n1 c2, .slice (some ⟨gT, 0, none⟩) tn c5, x7, y7] [hdZ (-1) ++ O1, (hdZ (-1) ++ O1).map g, K, t :: Ot', (t :: Ot').map g]) := Lib.hid (HKO.out.join HB7.out HK7.out (HSB.out _ HB.out))
        have HB8 := Lib.hid (HB.out.trans (HB7.out.mono (HSB.out _ HB.out)))
        obtain ⟨⟨A7, c7, rfl⟩, _⟩ := HK7.out.own 0 x7 _ rfl rfl
        obtain ⟨⟨A8, c8, rfl⟩, _⟩ := HK7.out.own 1 y7 _ rfl rfl
        obtain ⟨nt, hnt⟩ : ∃ nt, nt = (t :: Ot').length := ⟨_, rfl⟩
        have hnt2 : ((t :: Ot').map g).length = nt := by rw [List.length_map, hnt]
        rw [hnt2] at HKJ ⊢
        rw [← hnt] at HKJ ⊢
        have HNT := Lib.hid hnt
        have hntb : nt ≤ 100000 := by have := HN2.out; rw [hnt, List.length_cons]; omega
        have AP1 := Lib.hid (fun ty => KO.app ty HKJ.out (i := 0) (j := 3) rfl rfl rfl rfl (by rw [HNT.out]) (by have := HN2.out; rw [List.length_cons]; omega) (HSB.out _ HB8.out))
        clear hnt hnt2 HK7 HB7 HKO HB
        go_upto_region 12 with (at_builtin; (refine wpList_app rfl (.tmp 49) (.tmp 50) _ _ rfl rfl rfl (AP1.out _) ?_); rintro v9 w9 ⟨hk9, hg9, A9, c9, rfl⟩; have HK9 := Lib.hid hk9; have HG9 := Lib.hid hg9; clear hk9 hg9)
        have HB9 := Lib.hid (HG9.out.below HB8.out (HSB.out _ HB8.out) (KO.ge HKJ.out (i := 0) rfl rfl))
        clear AP1 HKJ HG9 HB8
        have AP2 := Lib.hid (fun ty => KO.app ty HK9.out (i := 1) (j := 4) rfl rfl rfl rfl (by rw [List.length_map, HNT.out]) (by have := HN2.out; rw [List.length_map, List.length_map, List.length_cons]; omega) (HSB.out _ HB9.out))
        go_wp2_with (at_builtin; (refine wpList_app rfl (.tmp 52) (.tmp 53) _ _ rfl rfl rfl (AP2.out _) ?_); rintro v10 w10 ⟨hk10, hg10, A10, c10, rfl⟩; have HK10 := Lib.hid hk10; have HG10 := Lib.hid hg10; clear hk10 hg10)
        have HB10 := Lib.hid (HG10.out.below HB9.out (HSB.out _ HB9.out) (KO.ge HK9.out (i := 1) rfl rfl))
        clear AP2 HK9 HG10 HB9
        have HKF : Hid (KO w10 b0 [.slice A9 ((hdZ (-1) ++ O1).length + (t :: Ot').length) c9, .slice A10 (((hdZ (-1) ++ O1).map g).length + ((t :: Ot').map g).length) c10, .slice (some ⟨gT, 0, none⟩) tn c5] [hdZ (-1) ++ (O1 ++ t :: Ot'), (hdZ (-1) ++ (O1 ++ t :: Ot')).map g, K]) := Lib.hid (by
          have h : KO w10 b0 ([.slice A9 ((hdZ (-1) ++ O1).length + (t :: Ot').length) c9, .slice A10 (((hdZ (-1) ++ O1).map g).length + ((t :: Ot').map g).length) c10, .slice (some ⟨gT, 0, none⟩) tn c5] ++ [.slice A7 nt c7, .slice A8 nt c8]) ([(hdZ (-1) ++ O1) ++ (t :: Ot'), (hdZ (-1) ++ O1).map g ++ (t :: Ot').map g, K] ++ [t :: Ot', (t :: Ot').map g]) := HK10.out
          have h2 := h.left rfl
          rw [← List.map_append, List.append_assoc] at h2
          exact h2)
        clear HK10
        have e2 : (hdZ (-1) ++ O1).length + (t :: Ot').length = (hdZ (-1)).length + O1.length + (Ot'.length + 1) := by rw [List.length_append, List.length_cons]
        have e3 : ((hdZ (-1) ++ O1).map g).length + ((t :: Ot').map g).length = (hdZ (-1)).length + O1.length + (Ot'.length + 1) := by rw [List.length_map, List.length_map, List.length_append, List.length_cons]
        rw [e2, e3] at HKF
        go_roundw
        case rel => exact ⟨j9, O1 ++ t :: Ot', O3, _, A9, A10, c9, c10, rfl, rfl, by first | rfl | go_num, Lib.hid (by have := HLT.out; have := HJ9.out; omega), Lib.hid (by simp only [List.length_append, List.length_cons]; omega), Lib.hid (by rw [HOO.out, HO23.out, List.append_assoc]), by rw [HJ9.out]; exact HR3, HKF, HB10⟩
        case measure => have := HLT.out; have := HJ9.out; simp [intOf]; omega
      · as_aux_lemma =>
        obtain rfl : tn = j := by have := HJ.out; omega
        have d0 : decide ((tn : Int) < (tn : Int)) = false := decide_eq_false (by omega)
        have d1' : decide (tn < tn) = false := decide_eq_false (by omega)
        have hO2 : O2 = [] := by
          have h := HR.out
          rw [List.drop_eq_nil_of_le (by rw [← HTN.out]; exact Nat.le_refl _)] at h
          cases h; rfl
        have HOE : Hid (O1 = O') := Lib.hid (by rw [HOO.out, hO2, List.append_nil])
        clear hlt hO2
        go_wp2_with fail
        go_ret2
        refine ⟨_, _, rfl, ?_, by rw [← HB0.out]; exact HB.out⟩
        rw [← HOE.out, ← HB0.out]
        exact KO.left (C2 := [.slice A5 tn c5]) (K2 := [K]) HKO.out rfl
  · obtain ⟨x, rfl⟩ : ∃ x : Nat, z = (x : Int) := ⟨z.toNat, by omega⟩
    have hhd : hdZ (x : Int) = [x] := by unfold hdZ; rw [if_neg (by omega)]; rfl
    have hx1 : sn = sn := rfl
    have HHD := Lib.hid hhd
    have hof : Sy.ofZ sn (x : Int) = x := by unfold Sy.ofZ; rw [if_neg (by omega)]; rfl
    obtain ⟨d1, hd1⟩ : ∃ d1, d1 = deep + 1 := ⟨_, rfl⟩
    have HD1 := Lib.hid (show (∀ y ∈ Tk, g y = d1) ∧ d1 ≤ 1001 from ⟨fun y hy => by
      rw [HGK.out x (by rw [hhd]; exact List.mem_append_left _ List.mem_cons_self) y (by rw [hTk, hof] at hy; exact hy), hd1]
      have h := hg2 (by omega)
      rw [show ((x : Int)).toNat = x from rfl] at h
      rw [h], by omega⟩)
    have hgx : g x = deep := by
      have h := hg2 (by omega)
      rw [show ((x : Int)).toNat = x from rfl] at h
      exact h
    have e0 : IntKind.i64.wrap ((deep : Int) + 1) = (d1 : Int) := by rw [IntKind.wrap_i64] <;> omega
    have d0 : decide ((0 : Int) ≤ (x : Int)) = true := decide_eq_true (by omega)
    have AP1 := Lib.hid (fun ty => appI1 (ty := ty) (World.ownsRow_nil w b0 3 1) (x : Int) #[.int .i64 (x : Int)] rfl (by omega) (HSB.out w (Below.refl _ _)))
    have HGX := Lib.hid hgx
    clear hg1 hg2 hTk hhd hof hd1 hgx hz hx1 hdeep
    go_enter Try.func34, Try.ntmps34
    go_upto_region 4 with (at_builtin; (refine wpList_app rfl (.tmp 18) (.tmp 20) _ _ rfl rfl rfl (AP1.out _) ?_); rintro v3 w3 ⟨ho3, hg3⟩; have HO3 := Lib.hid ho3; have HG3 := Lib.hid hg3; clear ho3 hg3)
    have HB3 := Lib.hid (HG3.out.below (Below.refl b0 w) (HSB.out w (Below.refl _ _)) (by intro k hk; simp [Value.ownBlock] at hk))
    obtain ⟨A3, c3, rfl, _, _⟩ := own_rd HO3.out
    have AP2 := Lib.hid (fun ty => appI1 (ty := ty) (World.ownsRow_nil w3 w3.heap.size 3 1) (deep : Int) #[.int .i64 (deep : Int)] rfl (by omega) (Nat.le_refl _))
    clear AP1
    go_upto_region 6 with (at_builtin; (refine wpList_app rfl (.tmp 22) (.tmp 24) _ _ rfl rfl rfl (AP2.out _) ?_); rintro v4 w4 ⟨ho4, hg4⟩; have HO4 := Lib.hid ho4; have HG4 := Lib.hid hg4; clear ho4 hg4)
    obtain ⟨A4, c4, rfl, _, _⟩ := own_rd HO4.out
    have HKO : Hid (KO w4 b0 [.slice A3 1 c3, .slice A4 1 c4] [hdZ (x : Int), (hdZ (x : Int)).map g]) := Lib.hid (by
      rw [HHD.out, show [x].map g = [deep] by rw [List.map_singleton, HGX.out]]
      have k1 : KO w3 b0 [.slice A3 1 c3] [[x]] := KO.one HO3.out rfl
      have k2 : KO w4 w3.heap.size [.slice A4 1 c4] [[deep]] := KO.one HO4.out rfl
      exact k1.join HG4.out.new k2 (HSB.out _ HB3.out))
    have HB1 := Lib.hid (HB3.out.trans (HG4.out.new.mono (HSB.out _ HB3.out)))
    clear AP2 HO3 HG3 HO4 HG4 d0 e0
    go_upto_region 7 with (go_at_call 39; (with_reducible refine (KC _ HB1.out).out.mono ?_); rintro ex w5 ⟨A5, c5, K, rfl, hk5, ho5, hb5⟩; have HK5 := Lib.hid hk5; have HO5 := Lib.hid ho5; have HB5 := Lib.hid hb5; clear hk5 ho5 hb5)
    clear KC
    obtain rfl : K = Tk := by rw [HTK.out]; exact HK5.out.eq HKM.out
    have HKT : Hid (KO w5 b0 [.slice A3 1 c3, .slice A4 1 c4, .slice A5 K.length c5] [hdZ (x : Int), (hdZ (x : Int)).map g, K]) := Lib.hid (HKO.out.join HB5.out (show KO w5 w4.heap.size [.slice A5 K.length c5] [K] from KO.one HO5.out rfl) (HSB.out _ HB1.out))
    have HB6 := Lib.hid (HB1.out.trans (HB5.out.mono (HSB.out _ HB1.out)))
    have HKL := Lib.hid (show ∀ t ∈ K, t < sn from fun t ht => ((HK5.out.mem t).1 ht).1)
    have HR0 : Hid (Sy.Run (fun x => M.filter fun q => parN P sn q == x) K O') := Lib.hid (by rw [HTK.out]; exact HRUN.out)
    obtain ⟨tn, htn⟩ : ∃ tn, tn = K.length := ⟨_, rfl⟩
    rw [← htn] at HKT ⊢
    have HTN := Lib.hid htn
    have htl : K.length ≤ sn := HK5.out.len
    have htl2 : tn ≤ 1000 := by omega
    clear HKO HO5 HB5 HK5 HRUN HTK htl htn HB1
    go_upto_region 8 with fail
    go_loopw [10, 11, 13] (fun v1 v2 vj wq => ∃ (j : Nat) (O1 O2 : List Nat) (n1 : Nat) (A1 A2 : Option Addr) (c1 c2 : Nat), v1 = .slice A1 n1 c1 ∧ v2 = .slice A2 n1 c2 ∧ vj = .int .i64 (j : Int) ∧ Hid (j ≤ tn) ∧ Hid (n1 = (hdZ (x : Int) ++ O1).length) ∧ Hid (O' = O1 ++ O2) ∧ Hid (Sy.Run (fun x => M.filter fun q => parN P sn q == x) (K.drop j) O2) ∧ Hid (KO wq b0 [.slice A1 n1 c1, .slice A2 n1 c2, .slice A5 tn c5] [hdZ (x : Int) ++ O1, (hdZ (x : Int) ++ O1).map g, K]) ∧ Hid (Below b0 w wq)) (fun _ _ vj _ => tn - (intOf vj).toNat)
    case atStart => exact ⟨0, [], O', _, _, _, _, _, rfl, rfl, rfl, Lib.hid (Nat.zero_le _), Lib.hid (by rw [List.append_nil, HHD.out]; rfl), Lib.hid rfl, HR0, by rw [List.append_nil]; exact HKT, HB6⟩
    clear HKT HB6 HR0
    case round =>
      obtain ⟨j, O1, O2, n1, A1, A2, c1, c2, rfl, rfl, rfl, HJ, HN1, HOO, HR, HKO, HB⟩ := hrel
      by_cases hlt : j < tn
      · as_aux_lemma =>
        have d0 : decide ((j : Int) < (tn : Int)) = true := decide_eq_true (by omega)
        have d1' : decide (j < tn) = true := decide_eq_true hlt
        have i0 : (0 : Int) ≤ (j : Int) := by omega
        have i1 : (j : Int) < (tn : Int) := by omega
        obtain ⟨j9, hj9⟩ : ∃ j9, j9 = j + 1 := ⟨_, rfl⟩
        have e1 : IntKind.i64.wrap ((j : Int) + 1) = (j9 : Int) := by rw [IntKind.wrap_i64] <;> omega
        obtain ⟨t, ht⟩ : ∃ t, K[j]? = some t := ⟨_, List.getElem?_eq_getElem (by rw [← HTN.out]; exact hlt)⟩
        have htn := HKL.out t (List.mem_of_getElem? ht)
        have hoT := (HKO.out.own 2 _ _ rfl rfl).2
        rw [← HTN.out] at hoT
        obtain ⟨gT, rfl, _, _, _, _, _, _⟩ := own_parts hoT (by omega)
        obtain ⟨p0, _⟩ := own_atN hoT ht
        have hdrop : K.drop j = t :: K.drop (j + 1) := by
          have h := List.getElem?_eq_some_iff.1 ht
          rw [List.drop_eq_getElem_cons h.1, h.2]
        have hR := HR.out
        rw [hdrop] at hR
        obtain ⟨Ot, O3, hO23, hRt, hR3⟩ := hR.split [t] (K.drop (j + 1)) rfl
        have hRt2 : ∃ Ot', Ot = t :: Ot' ∧ Sy.Run (fun x => M.filter fun q => parN P sn q == x) (M.filter fun q => parN P sn q == t) Ot' := by
          cases hRt with
          | cons h => rw [List.append_nil] at h; exact ⟨_, rfl, h⟩
        obtain ⟨Ot', rfl, hRt3⟩ := hRt2
        have hof : Sy.ofZ sn (t : Int) = t := by unfold Sy.ofZ; rw [if_neg (by omega)]; rfl
        have hht : hdZ (t : Int) = [t] := by unfold hdZ; rw [if_neg (by omega)]; rfl
        have hlen := HLEN.out
        have hOO := HOO.out
        have hll : O'.length = O1.length + (Ot'.length + 1 + O3.length) := by rw [hOO, hO23]; simp; omega
        have hn1 := HN1.out
        have htk : t ∈ K := List.mem_of_getElem? ht
        have IHC := Lib.hid (HIH.out Ot'.length (by omega) (t : Int) Ot' d1 wr (HSQ.out _ HB.out) (HPQ.out _ HB.out) (HBB.out _ HB.out) (.inr ⟨by omega, by omega⟩) (by rw [hof]; exact hRt3) (Nat.le_refl _) (by omega) (by have := HG.out t; rw [HD1.out.1 t htk] at this; exact this) (fun e => by omega) (fun _ => HD1.out.1 t htk) (fun x hx y hy => HGK.out x (by
          rw [hht] at hx
          rw [hOO, hO23]
          refine List.mem_append_right _ (List.mem_append_right _ (List.mem_append_left _ ?_))
          simpa using hx) y hy))
        rw [hht, show [t] ++ Ot' = t :: Ot' from rfl] at IHC
        have HN2 := Lib.hid (show (hdZ (x : Int) ++ O1).length + (Ot'.length + 1) ≤ 100000 from by
          have hh : (hdZ (x : Int)).length ≤ 1 := by rw [HHD.out]; simp
          rw [List.length_append]; omega)
        have HO23 := Lib.hid hO23
        have HR3 := Lib.hid hR3
        have HJ9 := Lib.hid hj9
        have HLT := Lib.hid hlt
        clear hj9 hlt ht htn hoT hdrop hR hO23 hRt hR3 hRt3 hof hht hlen hOO hll hn1 htk
        go_upto_region 11 with (go_at_call 34; (with_reducible refine IHC.out.mono ?_); rintro ex w7 ⟨x7, y7, rfl, hk7, hb7⟩; have HK7 := Lib.hid hk7; have HB7 := Lib.hid hb7; clear hk7 hb7)
        clear IHC d0 d1'
        have HKJ : Hid (KO w7 b0 [.slice A1 n1 c1, .slice A2 n1 c2, .slice (some ⟨gT, 0, none⟩) tn c5, x7, y7] [hdZ (x : Int) ++ O1, (hdZ (x : Int) ++ O1).map g, K, t :: Ot', (t :: Ot').map g]) := Lib.hid (HKO.out.join HB7.out HK7.out (HSB.out _ HB.out))
        have HB8 := Lib.hid (HB.out.trans (HB7.out.mono (HSB.out _ HB.out)))
        obtain ⟨⟨A7, c7, rfl⟩, _⟩ := HK7.out.own 0 x7 _ rfl rfl
        obtain ⟨⟨A8, c8, rfl⟩, _⟩ := HK7.out.own 1 y7 _ rfl rfl
        obtain ⟨nt, hnt⟩ : ∃ nt, nt = (t :: Ot').length := ⟨_, rfl⟩
        have hnt2 : ((t :: Ot').map g).length = nt := by rw [List.length_map, hnt]
        rw [hnt2] at HKJ ⊢
        rw [← hnt] at HKJ ⊢
        have HNT := Lib.hid hnt
        have hntb : nt ≤ 100000 := by have := HN2.out; rw [hnt, List.length_cons]; omega
        have AP1 := Lib.hid (fun ty => KO.app ty HKJ.out (i := 0) (j := 3) rfl rfl rfl rfl (by rw [HNT.out]) (by have := HN2.out; rw [List.length_cons]; omega) (HSB.out _ HB8.out))
        clear hnt hnt2 HK7 HB7 HKO HB
        go_upto_region 12 with (at_builtin; (refine wpList_app rfl (.tmp 49) (.tmp 50) _ _ rfl rfl rfl (AP1.out _) ?_); rintro v9 w9 ⟨hk9, hg9, A9, c9, rfl⟩; have HK9 := Lib.hid hk9; have HG9 := Lib.hid hg9; clear hk9 hg9)
        have HB9 := Lib.hid (HG9.out.below HB8.out (HSB.out _ HB8.out) (KO.ge HKJ.out (i := 0) rfl rfl))
        clear AP1 HKJ HG9 HB8
        have AP2 := Lib.hid (fun ty => KO.app ty HK9.out (i := 1) (j := 4) rfl rfl rfl rfl (by rw [List.length_map, HNT.out]) (by have := HN2.out; rw [List.length_map, List.length_map, List.length_cons]; omega) (HSB.out _ HB9.out))
        go_wp2_with (at_builtin; (refine wpList_app rfl (.tmp 52) (.tmp 53) _ _ rfl rfl rfl (AP2.out _) ?_); rintro v10 w10 ⟨hk10, hg10, A10, c10, rfl⟩; have HK10 := Lib.hid hk10; have HG10 := Lib.hid hg10; clear hk10 hg10)
        have HB10 := Lib.hid (HG10.out.below HB9.out (HSB.out _ HB9.out) (KO.ge HK9.out (i := 1) rfl rfl))
        clear AP2 HK9 HG10 HB9
        have HKF : Hid (KO w10 b0 [.slice A9 ((hdZ (x : Int) ++ O1).length + (t :: Ot').length) c9, .slice A10 (((hdZ (x : Int) ++ O1).map g).length + ((t :: Ot').map g).length) c10, .slice (some ⟨gT, 0, none⟩) tn c5] [hdZ (x : Int) ++ (O1 ++ t :: Ot'), (hdZ (x : Int) ++ (O1 ++ t :: Ot')).map g, K]) := Lib.hid (by
          have h : KO w10 b0 ([.slice A9 ((hdZ (x : Int) ++ O1).length + (t :: Ot').length) c9, .slice A10 (((hdZ (x : Int) ++ O1).map g).length + ((t :: Ot').map g).length) c10, .slice (some ⟨gT, 0, none⟩) tn c5] ++ [.slice A7 nt c7, .slice A8 nt c8]) ([(hdZ (x : Int) ++ O1) ++ (t :: Ot'), (hdZ (x : Int) ++ O1).map g ++ (t :: Ot').map g, K] ++ [t :: Ot', (t :: Ot').map g]) := HK10.out
          have h2 := h.left rfl
          rw [← List.map_append, List.append_assoc] at h2
          exact h2)
        clear HK10
        have e2 : (hdZ (x : Int) ++ O1).length + (t :: Ot').length = (hdZ (x : Int)).length + O1.length + (Ot'.length + 1) := by rw [List.length_append, List.length_cons]
        have e3 : ((hdZ (x : Int) ++ O1).map g).length + ((t :: Ot').map g).length = (hdZ (x : Int)).length + O1.length + (Ot'.length + 1) := by rw [List.length_map, List.length_map, List.length_append, List.length_cons]
        rw [e2, e3] at HKF
        go_roundw
        case rel => exact ⟨j9, O1 ++ t :: Ot', O3, _, A9, A10, c9, c10, rfl, rfl, by first | rfl | go_num, Lib.hid (by have := HLT.out; have := HJ9.out; omega), Lib.hid (by simp only [List.length_append, List.length_cons]; omega), Lib.hid (by rw [HOO.out, HO23.out, List.append_assoc]), by rw [HJ9.out]; exact HR3, HKF, HB10⟩
        case measure => have := HLT.out; have := HJ9.out; simp [intOf]; omega
      · as_aux_lemma =>
        obtain rfl : tn = j := by have := HJ.out; omega
        have d0 : decide ((tn : Int) < (tn : Int)) = false := decide_eq_false (by omega)
        have d1' : decide (tn < tn) = false := decide_eq_false (by omega)
        have hO2 : O2 = [] := by
          have h := HR.out
          rw [List.drop_eq_nil_of_le (by rw [← HTN.out]; exact Nat.le_refl _)] at h
          cases h; rfl
        have HOE : Hid (O1 = O') := Lib.hid (by rw [HOO.out, hO2, List.append_nil])
        clear hlt hO2
        go_wp2_with fail
        go_ret2
        refine ⟨_, _, rfl, ?_, by rw [← HB0.out]; exact HB.out⟩
        rw [← HOE.out, ← HB0.out]
        exact KO.left (C2 := [.slice A5 tn c5]) (K2 := [K]) HKO.out rfl
end Go.Proofs.Ytgldjjmpjaegfaa
