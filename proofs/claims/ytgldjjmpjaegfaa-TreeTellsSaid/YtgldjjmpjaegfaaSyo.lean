/- tree.Kids: of each span its kids, in their order; at the end those without parent. -/
import Derived.Test.YtgldjjmpjaegfaaSyn
import Derived.Test.YtgldjjmpjaegfaaSyi
namespace Go.Proofs.Ytgldjjmpjaegfaa
open Go.RowKit Go.Maps
set_option linter.unusedVariables false
set_option linter.unusedSimpArgs false
set_option maxRecDepth 100000

/-- Rows of one's own of places, side by side. -/
structure KO (w : World) (bK : Nat) (C : List Value) (K : List (List Nat)) : Prop where
  len : C.length = K.length
  own : ∀ (j : Nat) (v : Value) (L : List Nat), C[j]? = some v → K[j]? = some L → (∃ A c, v = .slice A L.length c) ∧ w.ownsRow bK 3 1 v L.length (L.map encN)
  far : ∀ (j j' : Nat) (v v' : Value), j ≠ j' → C[j]? = some v → C[j']? = some v' → v.ownBlock = none ∨ v.ownBlock ≠ v'.ownBlock
theorem own_blk_lt {w : World} {base e size n g : Nat} {v : Value} {xs : List Value} (h : w.ownsRow base e size v n xs) (hg : v.ownBlock = some g) : g < w.heap.size := by
  rcases h.2 with ⟨rfl, _⟩ | ⟨k, cap, cur, rfl, _, hk, _⟩
  · simp [Value.ownBlock] at hg
  · simp only [Value.ownBlock] at hg
    injection hg with hg
    subst hg
    exact (Array.getElem?_eq_some_iff.1 hk).1
theorem KO.other {w : World} {bK : Nat} {C : List Value} {K : List (List Nat)} (h : KO w bK C K) {j j' : Nat} {v v' x : Value} {L' : List Nat} (hne : j ≠ j') (hv : C[j]? = some v) (hx : C[j']? = some x) (hL : K[j']? = some L') {w' : World} (hg : Grew w w' v v') : (x.ownBlock = none ∨ x.ownBlock ≠ v'.ownBlock) ∧ (v'.ownBlock = none ∨ v'.ownBlock ≠ x.ownBlock) := by
  have f1 := h.far j j' v x hne hv hx
  have f2 := h.far j' j x v hne.symm hx hv
  rcases hg.blk with e | ⟨g, e, hgg⟩
  · rw [e]; exact ⟨f2, f1⟩
  · have ho := (h.own j' x L' hx hL).2
    have hne2 : x.ownBlock ≠ some g := fun he => by have := own_blk_lt ho he; omega
    rw [e]
    exact ⟨.inr hne2, .inr hne2.symm⟩
theorem KO.put {w w' : World} {bK j m : Nat} {C : List Value} {K : List (List Nat)} {v v' : Value} {L : List Nat} (h : KO w bK C K) (hv : C[j]? = some v) (hL : K[j]? = some L) (hg : Grew w w' v v') {L2 : List Nat} (hm : m = L2.length) (ho : w'.ownsRow bK 3 1 v' m (L2.map encN)) : KO w' bK (C.set j v') (K.set j L2) := by
  subst hm
  have hjC := (List.getElem?_eq_some_iff.1 hv).1
  have hjK := (List.getElem?_eq_some_iff.1 hL).1
  have kat : ∀ j' : Nat, j ≠ j' → ∀ x, C[j']? = some x → ∃ L', K[j']? = some L' := fun j' _ x hx => by
    have := (List.getElem?_eq_some_iff.1 hx).1
    exact ⟨_, List.getElem?_eq_getElem (by have := h.len; omega)⟩
  refine ⟨by rw [List.length_set, List.length_set]; exact h.len, fun j' x L' hx hL' => ?_, fun a b x y hab hx hy => ?_⟩
  · by_cases e : j = j'
    · subst e
      rw [List.getElem?_set_self hjC] at hx
      rw [List.getElem?_set_self hjK] at hL'
      injection hx with hx
      injection hL' with hL'
      subst hx hL'
      obtain ⟨A, c, e, _⟩ := own_rd ho
      exact ⟨⟨A, c, e⟩, ho⟩
    · rw [List.getElem?_set_ne e] at hx hL'
      obtain ⟨h1, h2⟩ := h.own j' x L' hx hL'
      refine ⟨h1, own_grew h2 hg ?_⟩
      rcases h.far j j' v x e hv hx with f | f
      · exact .inl f
      · exact .inr f.symm
  · by_cases ea : j = a
    · subst ea
      rw [List.getElem?_set_self hjC] at hx
      rw [List.getElem?_set_ne hab] at hy
      injection hx with hx
      subst hx
      obtain ⟨L', hL'⟩ := kat b hab y hy
      exact (h.other hab hv hy hL' hg).2
    · rw [List.getElem?_set_ne ea] at hx
      by_cases eb : j = b
      · subst eb
        rw [List.getElem?_set_self hjC] at hy
        injection hy with hy
        subst hy
        obtain ⟨L', hL'⟩ := kat a ea x hx
        exact (h.other ea hv hx hL' hg).1
      · rw [List.getElem?_set_ne eb] at hy
        exact h.far a b x y hab hx hy
theorem KO.step {w w' : World} {bK j i : Nat} {C : List Value} {K : List (List Nat)} {v v' : Value} {L : List Nat} (h : KO w bK C K) (hv : C[j]? = some v) (hL : K[j]? = some L) (hg : Grew w w' v v') (ho : w'.ownsRow bK 3 1 v' (L.length + 1) (L.map encN ++ [encN i])) : KO w' bK (C.set j v') (K.set j (L ++ [i])) :=
  h.put hv hL hg (by rw [List.length_append, List.length_singleton]) (by rw [List.map_append]; exact ho)
theorem KO.below {w w' : World} {bK : Nat} {C : List Value} {K : List (List Nat)} (h : KO w bK C K) (hb : Below w.heap.size w w') : KO w' bK C K :=
  ⟨h.len, fun j v L hv hL => ⟨(h.own j v L hv hL).1, own_below (h.own j v L hv hL).2 hb⟩, h.far⟩
/-- A store into a row of another type. -/
theorem KO.set {w : World} {bK b gk n cap i : Nat} {C ys : List Value} {K : List (List Nat)} (h : KO w bK C K) (ho : w.ownsRow b 26 1 (.slice (some ⟨gk, 0, none⟩) n cap) n ys) (hi : i < n) (u : Value) : KO (w.setCell ⟨gk, i, none⟩ u) bK C K := by
  refine ⟨h.len, fun j v L hv hL => ⟨(h.own j v L hv hL).1, own_grew (h.own j v L hv hL).2 (own_set ho hi u).2.2.2 ?_⟩, h.far⟩
  rcases ho.2 with ⟨h0, _⟩ | ⟨g, cap', cur, hv', _, hgg, _⟩
  · cases h0
  · simp only [Value.slice.injEq, Option.some.injEq, Addr.mk.injEq] at hv'
    obtain ⟨⟨rfl, _⟩, _, rfl⟩ := hv'
    exact .inr (own_not (h.own j v L hv hL).2 hgg (by decide))
theorem KO.start (w : World) (bK n : Nat) : KO w bK (List.replicate n (.slice none 0 0)) (List.replicate n []) := by
  have h0 : ∀ (j : Nat) (v : Value), (List.replicate n (Value.slice none 0 0))[j]? = some v → v = .slice none 0 0 := fun j v h => by
    obtain ⟨_, h2⟩ := List.getElem?_eq_some_iff.1 h
    rw [List.getElem_replicate] at h2; exact h2.symm
  have h1 : ∀ (j : Nat) (L : List Nat), (List.replicate n ([] : List Nat))[j]? = some L → L = [] := fun j v h => by
    obtain ⟨_, h2⟩ := List.getElem?_eq_some_iff.1 h
    rw [List.getElem_replicate] at h2; exact h2.symm
  refine ⟨by rw [List.length_replicate, List.length_replicate], fun j v L hv hL => ?_, fun j j' v v' _ hv _ => ?_⟩
  · rw [h0 j v hv, h1 j L hL]
    exact ⟨⟨none, 0, rfl⟩, World.ownsRow_nil _ _ _ _⟩
  · rw [h0 j v hv]; exact .inl rfl
/-- Of whom a span is a kid: at the end n. -/
def parN (P : List Int) (n i : Nat) : Nat := match P[i]? with
  | some z => if z = -1 then n else z.toNat
  | none => n
def kidsL (P : List Int) (n : Nat) (M : List Nat) : List (List Nat) := (List.range (n + 1)).map fun j => M.filter fun i => parN P n i == j
theorem kidsL_len (P : List Int) (n : Nat) (M : List Nat) : (kidsL P n M).length = n + 1 := by unfold kidsL; rw [List.length_map, List.length_range]
theorem kidsL_at {P : List Int} {n j : Nat} (M : List Nat) (hj : j ≤ n) : (kidsL P n M)[j]? = some (M.filter fun i => parN P n i == j) := by
  unfold kidsL
  rw [List.getElem?_map, List.getElem?_range (by omega)]; rfl
theorem kidsL_step {P : List Int} {n i : Nat} (M : List Nat) (hi : parN P n i ≤ n) : kidsL P n (M ++ [i]) = (kidsL P n M).set (parN P n i) ((M.filter fun q => parN P n q == parN P n i) ++ [i]) := by
  apply List.ext_getElem?
  intro j
  rcases Nat.lt_or_ge n j with hj | hj
  · rw [List.getElem?_eq_none (by rw [kidsL_len]; omega), List.getElem?_eq_none (by rw [List.length_set, kidsL_len]; omega)]
  · rw [kidsL_at _ hj]
    by_cases e : parN P n i = j
    · subst e
      rw [List.getElem?_set_self (by rw [kidsL_len]; omega), List.filter_append]
      simp
    · rw [List.getElem?_set_ne e, kidsL_at _ hj, List.filter_append]
      simp [e]
theorem kidsL_nil (P : List Int) (n : Nat) : kidsL P n [] = List.replicate (n + 1) [] := by
  unfold kidsL
  apply List.ext_getElem?
  intro j
  rcases Nat.lt_or_ge j (n + 1) with h | h
  · rw [List.getElem?_map, List.getElem?_range h, List.getElem?_replicate, if_pos h]; rfl
  · rw [List.getElem?_eq_none (by simp; omega), List.getElem?_eq_none (by simp; omega)]
theorem parN_le {P : List Int} {n i : Nat} (hp : Sy.Plain P n) : parN P n i ≤ n := by
  unfold parN
  split
  · rename_i z hz
    have := hp i z hz
    split <;> omega
  · exact Nat.le_refl _
theorem info_ints : (Try.prog.info? 26).map (fun i => (i.zero, i.size, i.bytes)) = some (some (.slice none 0 0), 1, 24) := by kernel_rfl
theorem make_rowsN (n : Nat) (hn : n ≤ 100001) (W : World) :
    ∃ W', (Instr.makeSlice 44 (.int .i64 (n : Int)) (.int .i64 (n : Int))).run Try.prog W = .ok (.slice (some ⟨W.heap.size, 0, none⟩) n n) W' ∧ W'.ownsRow W.heap.size 26 1 (.slice (some ⟨W.heap.size, 0, none⟩) n n) n (List.replicate n (.slice none 0 0)) ∧ Below W.heap.size W W' ∧ W'.heap.size = W.heap.size + 1 := by
  obtain ⟨i0, hi, hz0, hs, hb⟩ := info_parts info_ints
  have h := run_makeSlice (P := Try.prog) (w := W) 44 26 i0 _ Try.underlying44 hi hz0 .i64 .i64 (n : Int) (n : Int) (by omega) (Int.le_refl _) (by rw [hs]; simp only [Int.toNat_natCast]; omega) (by rw [hb]; omega) (by omega)
  rw [hs] at h
  simp only [Int.toNat_natCast, Nat.mul_one] at h
  have hc : (Value.slice none 0 0).cells = #[Value.slice none 0 0] := rfl
  refine ⟨_, h, ⟨by simp, .inr ⟨W.heap.size, n, madeCells (Value.slice none 0 0).cells n, rfl, Nat.le_refl _, heap_alloc_new W _, Nat.le_refl _, by unfold maxLen; omega, ?_, ?_⟩⟩, (Below.refl W.heap.size W).alloc (Nat.le_refl _) _, by simp⟩
  · have := congrArg List.length (made_rep _ hc n); simpa using this
  · rw [made_rep _ hc n]; exact List.take_of_length_le (by simp)
set_option maxHeartbeats 16000000 in
theorem kids_any (l : List Ls) (A : Option Addr) (n c B : Nat) (w : World) (hS : RdSps w B A l) (hB : B ≤ w.heap.size) (hn : n = l.length) (hsm : n ≤ 100000) :
    Calls Try.prog 32 #[.slice A n c] w fun e w' => ∃ g C P M bK, e = .returned (.slice (some ⟨g, 0, none⟩) (n + 1 : Nat) (n + 1 : Nat)) ∧ Sy.ParOf (namedM l) P ∧ Bys l M ∧ w.heap.size ≤ bK ∧ KO w' bK C (kidsL P n M) ∧ w'.ownsRow w.heap.size 26 1 (.slice (some ⟨g, 0, none⟩) (n + 1) (n + 1)) (n + 1) C ∧ Below w.heap.size w w' := by
  have PA := Lib.hid (parents_any l A n c B w hS hB hn hsm)
  have HSs := Lib.hid hS
  have HBB := Lib.hid hB
  have HN := Lib.hid hn
  have hNP := namedM_plain l
  rw [← hn] at hNP
  have HNP := Lib.hid hNP
  clear hS hB hn hNP
  obtain ⟨n1, hn1⟩ : ∃ n1, n1 = n + 1 := ⟨_, rfl⟩
  have HN1 := Lib.hid hn1
  have e0 : IntKind.i64.wrap ((n : Int) + 1) = (n1 : Int) := by rw [IntKind.wrap_i64] <;> omega
  go_enter Try.func32, Try.ntmps32
  go_upto_region 2 with (go_at_call 13; (with_reducible refine PA.out.mono ?_); rintro ex w1 ⟨gp, P, rfl, hp1, ho1, hb1⟩; have HP1 := Lib.hid hp1; have HO1 := Lib.hid ho1; have HB1 := Lib.hid hb1; clear hp1 ho1 hb1)
  clear PA
  obtain ⟨W5, hrun, hown, hbl, hsz⟩ := make_rowsN n1 (by omega) w1
  have hz1 := HB1.out.size
  have BS := Lib.hid (bystart_any l A n c B W5 ((HSs.out.below (HB1.out.mono HBB.out)).below (hbl.mono (Nat.le_trans HBB.out hz1))) (by have := HBB.out; omega) HN.out (by omega))
  have HOG := Lib.hid hown
  have HBL := Lib.hid hbl
  have HSZ := Lib.hid (And.intro hz1 hsz)
  clear hown hbl hsz hn1 hz1
  go_upto_region 4 with (go_at_call 40; (with_reducible refine BS.out.mono ?_); rintro ex w2 ⟨gm, cm, M, rfl, hby, ho2, hb2⟩; have HBY := Lib.hid hby; have HO2 := Lib.hid ho2; have HB2 := Lib.hid hb2; clear hby ho2 hb2)
  obtain ⟨b0, hb0⟩ : ∃ b0, b0 = w.heap.size := ⟨_, rfl⟩
  have HB0 := Lib.hid hb0
  obtain ⟨gk, hgk⟩ : ∃ gk, gk = w1.heap.size := ⟨_, rfl⟩
  have hz := HSZ.out
  have hgp := own_baseY HO1.out
  have hgm := own_baseY HO2.out
  have hs2 := HB2.out.size
  obtain ⟨bK, hbK⟩ : ∃ bK, bK = w2.heap.size := ⟨_, rfl⟩
  have HG := Lib.hid (show gp ≠ gk ∧ gm ≠ gk ∧ b0 ≤ gk ∧ gp < bK ∧ gm < bK ∧ b0 ≤ bK from by omega)
  have HOP2 := Lib.hid (own_mono (own_below (own_below HO1.out HBL.out) HB2.out) (base' := b0) (by omega))
  have HOM2 := Lib.hid (own_mono HO2.out (base' := b0) (by omega))
  have HOC2 := Lib.hid (own_mono (own_below HOG.out HB2.out) (base' := b0) (by omega))
  have HBW2 := Lib.hid (show Below b0 w w2 from by rw [hb0]; exact (HB1.out.trans (HBL.out.mono (by omega))).trans (HB2.out.mono (by omega)))
  have HKO2 := Lib.hid (show KO w2 bK (List.replicate n1 (.slice none 0 0)) (kidsL P n (M.take 0)) from by rw [List.take_zero, kidsL_nil, ← HN1.out]; exact KO.start w2 bK n1)
  have HSK := Lib.hid (show bK ≤ w2.heap.size from by omega)
  have HML := Lib.hid (show M.length = n from by rw [HBY.out.2.2, ← HN.out])
  have HMM := Lib.hid (show ∀ x ∈ M, x < n from fun x hx => by rw [HN.out]; exact (HBY.out.2.1 x).1 hx)
  have HPP := Lib.hid (show Sy.Plain P n from fun v z h => by
    by_cases hl : Sy.LR (Sy.pf (namedM l)) v
    · rw [(HP1.out.2 v).1 hl] at h; injection h with h; omega
    · rw [(HP1.out.2 v).2 hl] at h; exact HNP.out v z h)
  have HPL := Lib.hid (show P.length = n from by rw [HP1.out.1, namedM_len, ← HN.out])
  rw [← hgk] at HOC2
  clear HO1 HO2 HOG HBL HB1 HB2 HSZ hz hgp hgm hs2 hbK BS hb0
  rw [← hgk]
  clear hgk hrun
  go_loopw [17] (fun vi wq => ∃ (k : Nat) (C : List Value), vi = .int .i64 (k : Int) ∧ k ≤ n ∧ Hid (KO wq bK C (kidsL P n (M.take k))) ∧ Hid (wq.ownsRow b0 26 1 (.slice (some ⟨gk, 0, none⟩) n1 n1) n1 C) ∧ Hid (wq.ownsRow b0 3 1 (.slice (some ⟨gp, 0, none⟩) n n) n (P.map encZ)) ∧ Hid (wq.ownsRow b0 3 1 (.slice (some ⟨gm, 0, none⟩) n cm) n (M.map encN)) ∧ Hid (Below b0 w wq) ∧ Hid (bK ≤ wq.heap.size)) (fun vi _ => n - (intOf vi).toNat)
  case atStart => exact ⟨0, _, rfl, Nat.zero_le _, HKO2, HOC2, HOP2, HOM2, HBW2, HSK⟩
  clear HKO2 HOC2 HOP2 HOM2 HBW2 HSK
  case round =>
    obtain ⟨k, C, rfl, hk, HKO, HOC, HOP, HOM, HB, HSK⟩ := hrel
    by_cases hlt : k < n
    · obtain ⟨i, hi⟩ : ∃ i, M[k]? = some i := ⟨_, List.getElem?_eq_getElem (by rw [HML.out]; exact hlt)⟩
      have hin := HMM.out i (List.mem_of_getElem? hi)
      obtain ⟨z, hz⟩ : ∃ z, P[i]? = some z := ⟨_, List.getElem?_eq_getElem (by rw [HPL.out]; exact hin)⟩
      obtain ⟨m0, _⟩ := own_atN HOM.out hi
      obtain ⟨p0, _⟩ := own_atZ HOP.out hz
      obtain ⟨j, hj⟩ : ∃ j, j = parN P n i := ⟨_, rfl⟩
      have hjn : j ≤ n := by rw [hj]; exact parN_le HPP.out
      have hcl : C.length = n1 := by have := HOC.out.1; omega
      obtain ⟨v, hv⟩ : ∃ v, C[j]? = some v := ⟨_, List.getElem?_eq_getElem (by have := HN1.out; omega)⟩
      have hL := kidsL_at (P := P) (M.take k) hjn
      obtain ⟨L, hLe⟩ : ∃ L, L = (M.take k).filter fun i => parN P n i == j := ⟨_, rfl⟩
      rw [← hLe] at hL
      obtain ⟨⟨A', c', rfl⟩, hov⟩ := HKO.out.own j v L hv hL
      have hLl : L.length ≤ k := by rw [hLe]; exact Nat.le_trans (List.length_filter_le _ _) (by rw [List.length_take]; omega)
      have hjn1 : j < n1 := by have := HN1.out; omega
      obtain ⟨s1, s2, _⟩ := own_setY HOC.out (i := j) (by omega) (.bool true)
      rw [hv] at s2
      have HNX := Lib.hid (show kidsL P n (M.take (k + 1)) = (kidsL P n (M.take k)).set j (L ++ [i]) from by
        rw [List.take_add_one, hi, hLe, hj]
        exact kidsL_step (M.take k) (parN_le HPP.out))
      have HPS := Lib.hid (show ∀ (v5 : Value) (w5 : World), w5.ownsRow bK 3 1 v5 (L.length + 1) (L.map encN ++ [encN i]) → Grew wr w5 (.slice A' L.length c') v5 → w5.frozen? ⟨gk, j, none⟩ = false ∧ w5.cell? ⟨gk, j, none⟩ = some (.slice A' L.length c') ∧ Hid (KO (w5.setCell ⟨gk, j, none⟩ v5) bK (C.set j v5) (kidsL P n (M.take (k + 1)))) ∧ Hid ((w5.setCell ⟨gk, j, none⟩ v5).ownsRow b0 26 1 (.slice (some ⟨gk, 0, none⟩) n1 n1) n1 (C.set j v5)) ∧ Hid ((w5.setCell ⟨gk, j, none⟩ v5).ownsRow b0 3 1 (.slice (some ⟨gp, 0, none⟩) n n) n (P.map encZ)) ∧ Hid ((w5.setCell ⟨gk, j, none⟩ v5).ownsRow b0 3 1 (.slice (some ⟨gm, 0, none⟩) n cm) n (M.map encN)) ∧ Hid (Below b0 w (w5.setCell ⟨gk, j, none⟩ v5)) ∧ Hid (bK ≤ (w5.setCell ⟨gk, j, none⟩ v5).heap.size) from fun v5 w5 ho5 hg5 => by
        have hge := own_block_ge hov
        have hG := HG.out
        have nb : ∀ (g n' cap' : Nat) (e : TypeId) (ys : List Value), g < bK → wr.ownsRow b0 e 1 (.slice (some ⟨g, 0, none⟩) n' cap') n' ys → w5.ownsRow b0 e 1 (.slice (some ⟨g, 0, none⟩) n' cap') n' ys := fun g n' cap' e ys hgb h => own_grew h hg5 (by
          cases hb : (Value.slice A' L.length c').ownBlock with
          | none => exact .inl rfl
          | some q => have := hge q hb; exact .inr (by simp [Value.ownBlock]; omega))
        have hgkb : gk < bK ∨ bK ≤ gk := Nat.lt_or_ge _ _
        have hOC5 : w5.ownsRow b0 26 1 (.slice (some ⟨gk, 0, none⟩) n1 n1) n1 C := own_grew HOC.out hg5 (.inr (by
          rcases HOC.out.2 with ⟨h0, _⟩ | ⟨g, cap', cur, hv', _, hgg, _⟩
          · cases h0
          · simp only [Value.slice.injEq, Option.some.injEq, Addr.mk.injEq] at hv'
            obtain ⟨⟨rfl, _⟩, _, rfl⟩ := hv'
            exact (own_not hov hgg (by decide)).symm))
        obtain ⟨h1, h2, h3, h4⟩ := own_set hOC5 hjn1 v5
        refine ⟨h1, by rw [h2, hv], Lib.hid ?_, Lib.hid h3, Lib.hid (own_elseZ (nb gp n n _ _ hG.2.2.2.1 HOP.out) hOC5 hG.1 hjn1 v5), Lib.hid (own_elseZ (nb gm n cm _ _ hG.2.2.2.2.1 HOM.out) hOC5 hG.2.1 hjn1 v5), Lib.hid ?_, Lib.hid ?_⟩
        · rw [HNX.out]; exact (HKO.out.step hv hL hg5 ho5).set hOC5 hjn1 v5
        · exact (hg5.below HB.out (by have := HSK.out; omega) (fun q hq => by have := hge q hq; omega)).setCell (p := ⟨gk, j, none⟩) hG.2.2.1 v5
        · have := hg5.grown.size; have := HSK.out; simp; omega)
      have APP := Lib.hid (fun ty => appI1 (ty := ty) hov (i : Int) #[.int .i64 (i : Int)] rfl (by omega) HSK.out)
      have HLT := Lib.hid hlt
      have i0 : (0 : Int) ≤ (i : Int) := by omega
      have i1 : (i : Int) < (n : Int) := by omega
      have k0 : (0 : Int) ≤ (k : Int) := by omega
      have k1 : (k : Int) < (n : Int) := by omega
      have j0 : (0 : Int) ≤ (j : Int) := by omega
      have j1 : (j : Int) < (n1 : Int) := by omega
      have HJ := Lib.hid hj
      have HZ := Lib.hid hz
      obtain ⟨q, hq⟩ : ∃ q, q = L.length := ⟨_, rfl⟩
      rw [← hq] at APP s2 HPS
      clear hi hin hj hjn hcl hv hL hLe hov hLl hjn1 hlt hk hz hq
      by_cases hzm : z = -1
      · subst hzm
        obtain rfl : j = n := by rw [HJ.out]; unfold parN; rw [HZ.out]; rfl
        go_wp2_with (at_builtin; (refine wpList_app rfl (.tmp 34) (.tmp 36) _ _ rfl rfl rfl (APP.out _) ?_); rintro v5 w5 ⟨ho5, hg5⟩; obtain ⟨A5, c5, rfl, _, _⟩ := own_rd ho5; obtain ⟨t1, t2, HKO5, HOC5, HOP5, HOM5, HB5, HSK5⟩ := HPS.out _ w5 ho5 hg5; clear ho5 hg5 s1 s2 m0 p0)
        go_roundw
        case rel => exact ⟨k + 1, C.set j _, by go_num, HLT.out, HKO5, HOC5, HOP5, HOM5, HB5, HSK5⟩
        case measure => have := HLT.out; simp [intOf]; omega
      · have hzj : z = (j : Int) := by
          have h1 := HPP.out i z HZ.out
          rw [HJ.out]; unfold parN; rw [HZ.out]
          simp only [hzm, if_false]; omega
        subst hzj
        have b1 : ((j : Int) == -1) = false := beq_eq_false_iff_ne.2 hzm
        clear hzm
        go_wp2_with (at_builtin; (refine wpList_app rfl (.tmp 34) (.tmp 36) _ _ rfl rfl rfl (APP.out _) ?_); rintro v5 w5 ⟨ho5, hg5⟩; obtain ⟨A5, c5, rfl, _, _⟩ := own_rd ho5; obtain ⟨t1, t2, HKO5, HOC5, HOP5, HOM5, HB5, HSK5⟩ := HPS.out _ w5 ho5 hg5; clear ho5 hg5 s1 s2 m0 p0)
        go_roundw
        case rel => exact ⟨k + 1, C.set j _, by go_num, HLT.out, HKO5, HOC5, HOP5, HOM5, HB5, HSK5⟩
        case measure => have := HLT.out; simp [intOf]; omega
    · obtain rfl : k = n := by omega
      go_wp2_with fail
      go_ret
      exact ⟨gk, C, P, M, bK, by rw [HN1.out] <;> rfl, HP1.out, HBY.out, by rw [← HB0.out]; exact HG.out.2.2.2.2.2, by have h := HKO.out; rwa [List.take_of_length_le (by rw [HML.out]; exact Nat.le_refl _)] at h, by rw [← HB0.out, ← HN1.out]; exact HOC.out, by rw [← HB0.out]; exact HB.out⟩
end Go.Proofs.Ytgldjjmpjaegfaa
