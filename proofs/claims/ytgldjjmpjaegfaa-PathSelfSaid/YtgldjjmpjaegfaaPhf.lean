/- Chapter 30, path: Self, the code's. -/
import Derived.Test.YtgldjjmpjaegfaaPhc
import Derived.Test.YtgldjjmpjaegfaaPhe
namespace Go.Proofs.Ytgldjjmpjaegfaa
open Go.RowKit Go.Maps
set_option linter.unusedVariables false
set_option linter.unusedSimpArgs false
set_option maxRecDepth 100000

def Bn (l : List Ls) (i : Nat) : Int := ((l[i]?).map fun x => endB x.s).getD 0
theorem Bn_at {l : List Ls} {i : Nat} {x : Ls} (h : l[i]? = some x) : Bn l i = endB x.s := by unfold Bn; rw [h]; rfl
theorem Bn_bd (l : List Ls) (i : Nat) : 0 ≤ Bn l i ∧ Bn l i ≤ En l i := by
  unfold Bn En
  cases l[i]? with
  | none => simp
  | some x => exact endB_bd x.s
/-- What a span's kids take. -/
def kidI (l : List Ls) (P : List Int) (n : Nat) (M : List Nat) (k : Nat) : List (Int × Int) := (M.filter fun q => parN P n q == k).map fun q => (Bn l q, En l q)
def SelfIs (l : List Ls) (n : Nat) (i s : Int) : Prop := ((i < 0 ∨ (n : Int) ≤ i ∨ (l.all fun x => right x.s) = false) ∧ s = 0) ∨ ∃ k : Nat, i = (k : Int) ∧ k < n ∧ (l.all fun x => right x.s) = true ∧ ∃ P M O, Sy.Fo l n P M O ∧ s = (Sy.CI (kidI l P n M k) (Bn l k) (En l k) : Int)
theorem self_eq {l : List Ls} {n : Nat} {i s t : Int} (h : SelfIs l n i s) (k : SelfIs l n i t) : s = t := by
  rcases h with ⟨h1, h2⟩ | ⟨a, h1, h2, h3, P, M, O, hF, h4⟩ <;> rcases k with ⟨k1, k2⟩ | ⟨b, k1, k2, k3, P', M', O', hF', k4⟩
  · rw [h2, k2]
  · rcases h1 with h | h | h
    · omega
    · omega
    · rw [h] at k3; cases k3
  · rcases k1 with h | h | h
    · omega
    · omega
    · rw [h] at h3; cases h3
  · have e := parOf_ext hF.par hF'.par
    subst e
    have e2 := Sy.bys_eq hF.bys hF'.bys
    subst e2
    have e3 : a = b := by omega
    subst e3
    rw [h4, k4]
theorem all_right {l : List Ls} (h : (l.all fun x => right x.s) = true) {x : Nat} {y : Ls} (hy : l[x]? = some y) : Bn l x = stS l x * 1000 := by
  have h1 := List.all_eq_true.1 h y (List.mem_of_getElem? hy)
  rw [Bn_at hy, stS_at hy]
  unfold endB
  rw [if_pos h1]
theorem kids_sorted {l : List Ls} {n : Nat} {P : List Int} {M O : List Nat} (hF : Sy.Fo l n P M O) (h : (l.all fun x => right x.s) = true) (k : Nat) : (kidI l P n M k).Pairwise (fun a b => a.1 ≤ b.1) := by
  unfold kidI
  rw [List.pairwise_map]
  refine ((hF.bys.1.filter _).imp_of_mem fun {a b} ha hb hab => ?_)
  have ga : ∀ a, a ∈ (M.filter fun q => parN P n q == k) → Bn l a = stS l a * 1000 := fun a ha => by
    have h1 := ((Sy.kid_mem hF.all).1 ha).1
    exact all_right h (List.getElem?_eq_getElem (by rw [← hF.ln]; exact h1))
  dsimp only
  rw [ga a ha, ga b hb]
  have : stS l a < stS l b ∨ (stS l a = stS l b ∧ a < b) := hab
  omega
theorem kids_ord (l : List Ls) (P : List Int) (n : Nat) (M : List Nat) (k : Nat) : ∀ x ∈ kidI l P n M k, x.1 ≤ x.2 := fun x hx => by
  obtain ⟨q, _, rfl⟩ := List.mem_map.1 hx
  exact (Bn_bd l q).2
set_option maxHeartbeats 16000000 in
theorem self_any (l : List Ls) (A : Option Addr) (n c B : Nat) (i : Int) (w : World) (hS : RdSps w B A l) (hB : B ≤ w.heap.size) (hn : n = l.length) (hsm : n ≤ 500) :
    Calls Try.prog 27 #[.slice A n c, .int .i64 i] w fun e w' => ∃ s, e = .returned (.int .i64 s) ∧ SelfIs l n i s ∧ Below w.heap.size w w' := by
  have RC := Lib.hid (pright_any A l n c B w hn hS hB (by omega))
  have HN := Lib.hid hn
  obtain ⟨b0, hb0⟩ : ∃ b0, b0 = w.heap.size := ⟨_, rfl⟩
  have HSQ := Lib.hid (show ∀ W, Below b0 w W → RdSps W B A l from fun W h => hS.below (h.mono (by rw [hb0]; exact hB)))
  have HBB := Lib.hid (show ∀ W, Below b0 w W → B ≤ W.heap.size from fun W h => by have := h.size; omega)
  have HSB := Lib.hid (show ∀ W, Below b0 w W → b0 ≤ W.heap.size from fun W h => by have := h.size; omega)
  have HB0 := Lib.hid hb0
  have KC := fun (W : World) (h : Below b0 w W) => Lib.hid (kids_any l A n c B W (HSQ.out W h) (HBB.out W h) hn (by omega))
  obtain ⟨fb, hfb⟩ : ∃ fb, fb = l.all fun x => right x.s := ⟨_, rfl⟩
  rw [← hfb] at RC
  have HFB := Lib.hid hfb
  rw [← hb0]
  clear hn hS hfb hB hb0
  rcases (show i < 0 ∨ (¬ i < 0 ∧ (n : Int) ≤ i) ∨ (¬ i < 0 ∧ ¬ (n : Int) ≤ i ∧ fb = false) ∨ (¬ i < 0 ∧ ¬ (n : Int) ≤ i ∧ fb = true) from by
    cases fb <;> simp <;> omega) with hc | hc | hc | hc
  · have d1 : decide (i < 0) = true := decide_eq_true hc
    have HC := Lib.hid hc
    clear hc KC
    go_enter Try.func27, Try.ntmps27
    go_wp2_with fail
    go_ret
    exact ⟨0, rfl, .inl ⟨.inl HC.out, rfl⟩, Below.refl _ _⟩
  · have d1 : decide (i < 0) = false := decide_eq_false hc.1
    have d2 : decide ((n : Int) ≤ i) = true := decide_eq_true hc.2
    have HC := Lib.hid hc.2
    clear hc KC
    go_enter Try.func27, Try.ntmps27
    go_wp2_with fail
    go_ret
    exact ⟨0, rfl, .inl ⟨.inr (.inl HC.out), rfl⟩, Below.refl _ _⟩
  · obtain ⟨hc1, hc2, rfl⟩ := hc
    have d1 : decide (i < 0) = false := decide_eq_false hc1
    have d2 : decide ((n : Int) ≤ i) = false := decide_eq_false hc2
    clear hc1 hc2 KC
    go_enter Try.func27, Try.ntmps27
    go_wp2_with (go_at_call 37; (with_reducible refine RC.out.mono ?_); rintro ex w1 ⟨rfl, hb1⟩; have HB1 := Lib.hid (show Below b0 w w1 from by rw [HB0.out]; exact hb1); clear hb1)
    go_ret
    exact ⟨0, rfl, .inl ⟨.inr (.inr HFB.out.symm), rfl⟩, HB1.out⟩
  · obtain ⟨hc1, hc2, rfl⟩ := hc
    obtain ⟨k, rfl⟩ : ∃ k : Nat, i = (k : Int) := ⟨i.toNat, by omega⟩
    have d1 : decide ((k : Int) < 0) = false := decide_eq_false hc1
    have d2 : decide ((n : Int) ≤ (k : Int)) = false := decide_eq_false hc2
    have d3 : decide (n ≤ k) = false := decide_eq_false (by omega)
    have HKN := Lib.hid (show k < n from by omega)
    have i0 : (0 : Int) ≤ (k : Int) := by omega
    have i1 : (k : Int) < (n : Int) := by omega
    have i2 : (k : Int) < ((n + 1 : Nat) : Int) := by omega
    have i4 : (k : Int) < (n : Int) + 1 := by omega
    clear hc1 hc2
    go_enter Try.func27, Try.ntmps27
    go_upto_region 3 with (go_at_call 37; (with_reducible refine RC.out.mono ?_); rintro ex w1 ⟨rfl, hb1⟩; have HB1 := Lib.hid (show Below b0 w w1 from by rw [HB0.out]; exact hb1); clear hb1)
    clear RC d1 d2 d3
    have xlt := HKN.out
    obtain ⟨xx, xhx⟩ : ∃ x, l[k]? = some x := ⟨_, List.getElem?_eq_getElem (by rw [← HN.out]; exact xlt)⟩
    have xhE := En_at xhx
    have xhB := Bn_at xhx
    obtain ⟨aa, haa, _, hc, xhl⟩ := (HSQ.out _ HB1.out).at_ xhx
    subst haa
    obtain ⟨⟨x0, x1, x2, x3, x4, x5, x6, x7, x8, xats⟩, xA, xc⟩ := xx
    obtain ⟨xm, xhm⟩ : ∃ m, m = xats.length := ⟨_, rfl⟩
    have c0 : w1.cell? (aa.add (k * 10)) = some (.int .u64 x0) := hc 0 _ rfl
    have c1 : w1.cell? ⟨(aa.add (k * 10)).block, (aa.add (k * 10)).off + 1, none⟩ = some (.int .u64 x1) := cell_far (hc 1 _ rfl) (by omega)
    have c2 : w1.cell? ⟨(aa.add (k * 10)).block, (aa.add (k * 10)).off + 2, none⟩ = some (.int .u64 x2) := cell_far (hc 2 _ rfl) (by omega)
    have c3 : w1.cell? ⟨(aa.add (k * 10)).block, (aa.add (k * 10)).off + 3, none⟩ = some (.int .u64 x3) := cell_far (hc 3 _ rfl) (by omega)
    have c4 : w1.cell? ⟨(aa.add (k * 10)).block, (aa.add (k * 10)).off + 4, none⟩ = some (.string x4) := cell_far (hc 4 _ rfl) (by omega)
    have c5 : w1.cell? ⟨(aa.add (k * 10)).block, (aa.add (k * 10)).off + 5, none⟩ = some (.string x5) := cell_far (hc 5 _ rfl) (by omega)
    have c6 : w1.cell? ⟨(aa.add (k * 10)).block, (aa.add (k * 10)).off + 6, none⟩ = some (.int .i64 x6) := cell_far (hc 6 _ rfl) (by omega)
    have c7 : w1.cell? ⟨(aa.add (k * 10)).block, (aa.add (k * 10)).off + 7, none⟩ = some (.int .i64 x7) := cell_far (hc 7 _ rfl) (by omega)
    have c8 : w1.cell? ⟨(aa.add (k * 10)).block, (aa.add (k * 10)).off + 8, none⟩ = some (.bool x8) := cell_far (hc 8 _ rfl) (by omega)
    have c9 : w1.cell? ⟨(aa.add (k * 10)).block, (aa.add (k * 10)).off + 9, none⟩ = some (.slice xA xm xc) := by rw [xhm]; exact cell_far (hc 9 _ rfl) (by omega)
    have ECc := Lib.hid (ends_lit x0 x1 x2 x3 x4 x5 x6 x7 x8 xats xA xc xm B w1 xhm xhl (HBB.out _ HB1.out))
    obtain ⟨xeB, xheB⟩ : ∃ eB, eB = Bn l k := ⟨_, rfl⟩
    obtain ⟨xeE, xheE⟩ : ∃ eE, eE = En l k := ⟨_, rfl⟩
    rw [← xhB, ← xheB, ← xhE, ← xheE] at ECc
    have HxE := Lib.hid xheE
    have HxB := Lib.hid xheB
    clear hc xhl xhm xheB xheE xhE xhB xhx
    clear xlt
    go_upto_region 5 with (go_at_call 23; (with_reducible refine ECc.out.mono ?_); rintro ex w2 ⟨rfl, hb2⟩; have HB2 := Lib.hid (HB1.out.trans (hb2.mono (HSB.out _ HB1.out))); clear hb2)
    clear ECc c0 c1 c2 c3 c4 c5 c6 c7 c8 c9
    have HKC := Lib.hid (show Calls Try.prog 32 #[.slice (some aa) n c] w2 (fun e w3 => ∃ gk A2 c2 T P M O, e = .returned (.slice (some ⟨gk, 0, none⟩) (n + 1 : Nat) (n + 1 : Nat)) ∧ Sy.Fo l n P M O ∧ T = (M.filter fun q => parN P n q == k) ∧ w3.cell? ⟨gk, k, none⟩ = some (.slice A2 T.length c2) ∧ Rd w3 w3.heap.size A2 (T.map encN) ∧ Below w2.heap.size w2 w3) from (KC _ HB2.out).out.mono (by
      rintro ex w3 ⟨gk, C, P, M, bK, rfl, hp3, hm3, hbk3, hko3, ho3, hb3⟩
      have hF := Sy.fo_of HN.out hp3 hm3
      have hcl : C.length = n + 1 := by have := hko3.len; rw [kidsL_len] at this; exact this
      obtain ⟨v, hv⟩ : ∃ v, C[k]? = some v := ⟨_, List.getElem?_eq_getElem (by have := HKN.out; omega)⟩
      obtain ⟨⟨A2, c2, rfl⟩, h2⟩ := hko3.own k v _ hv (kidsL_at M (by have := HKN.out; omega))
      refine ⟨gk, A2, c2, _, P, M, _, rfl, hF, rfl, ?_, own_read h2 (Nat.le_refl _), hb3⟩
      have h3 := (own_cells ho3 k (by have := HKN.out; omega)).2.1
      rw [hv] at h3
      exact h3))
    clear KC
    go_upto_region 6 with (go_at_call 32; (with_reducible refine HKC.out.mono ?_); rintro ex w3 ⟨gk, A2, c2, T, P, M, O, rfl, hF, hT, p3, hr3, hb3⟩; have HF := Lib.hid hF; have HT := Lib.hid hT; have HR3 := Lib.hid hr3; have HB3 := Lib.hid (HB2.out.trans (hb3.mono (HSB.out _ HB2.out))); have a3 : (⟨gk, 0, none⟩ : Addr).add k = ⟨gk, k, none⟩ := (by rw [Addr.add_lit, Nat.zero_add]); clear hF hT hr3 hb3)
    clear HKC p3 a3
    obtain ⟨tn, htn⟩ : ∃ tn, tn = T.length := ⟨_, rfl⟩
    rw [← htn]
    have HTN := Lib.hid htn
    have HTL := Lib.hid (show tn ≤ n ∧ ∀ t ∈ T, t < n from by
      rw [htn, HT.out]
      exact ⟨Sy.nd_le n _ (HF.out.all.nd.filter _) fun x hx => ((Sy.kid_mem HF.out.all).1 hx).1, fun t ht => ((Sy.kid_mem HF.out.all).1 ht).1⟩)
    have HXB := Lib.hid (show 0 ≤ xeB ∧ xeB ≤ xeE ∧ xeE ≤ 2000000000000000 from by
      have h1 := Bn_bd l k
      have h2 := En_bd l k
      rw [HxB.out, HxE.out]; omega)
    clear htn
    go_loopw [5, 7, 39] (fun va vo vj wq => ∃ (j : Nat) (at_ own : Int), vj = .int .i64 (j : Int) ∧ va = .int .i64 at_ ∧ vo = .int .i64 own ∧ Hid (j ≤ tn) ∧ Hid (0 ≤ at_ ∧ at_ ≤ 2000000000000000 ∧ 0 ≤ own ∧ own ≤ (j : Int) * 2000000000000000) ∧ Hid (Sy.selfF xeE ((T.drop j).map fun q => (Bn l q, En l q)) at_ own = Sy.selfF xeE (T.map fun q => (Bn l q, En l q)) xeB 0) ∧ Hid (Below w3.heap.size w3 wq)) (fun _ _ vj _ => tn - (intOf vj).toNat)
    case atStart => exact ⟨0, xeB, 0, rfl, rfl, rfl, Lib.hid (Nat.zero_le _), Lib.hid (by have := HXB.out; omega), Lib.hid rfl, Lib.hid (Below.refl _ _)⟩
    case round =>
      obtain ⟨j, at_, own, rfl, rfl, rfl, HJ, HAO, HSF, HWQ⟩ := hrel
      have HBR := Lib.hid (show Below b0 w wr from HB3.out.trans (HWQ.out.mono (HSB.out _ HB3.out)))
      by_cases hjt : j < tn
      · as_aux_lemma =>
        have d0 : decide ((j : Int) < (tn : Int)) = true := decide_eq_true (by omega)
        have d1 : decide (j < tn) = true := decide_eq_true hjt
        have j0 : (0 : Int) ≤ (j : Int) := by omega
        have j1 : (j : Int) < (tn : Int) := by omega
        have hao := HAO.out
        have hxb := HXB.out
        obtain ⟨j9, hj9⟩ : ∃ j9, j9 = j + 1 := ⟨_, rfl⟩
        have e1 : IntKind.i64.wrap ((j : Int) + 1) = (j9 : Int) := by have := HTL.out.1; rw [IntKind.wrap_i64] <;> omega
        obtain ⟨t, ht⟩ : ∃ t, T[j]? = some t := ⟨_, List.getElem?_eq_getElem (by rw [← HTN.out]; exact hjt)⟩
        have ylt : t < n := HTL.out.2 t (List.mem_of_getElem? ht)
        obtain ⟨ta, hta, htab, htc⟩ := HR3.out (by rw [List.length_map, ← HTN.out]; omega)
        subst hta
        have pt : wr.cell? (ta.add j) = some (.int .i64 (t : Int)) := by
          have h := htc j _ (by rw [List.getElem?_map, ht]; rfl)
          rw [show wr.cell? (ta.add j) = w3.cell? (ta.add j) from HWQ.out.cell (by rw [block_add]; exact htab)]
          exact h
        have i6 : (0 : Int) ≤ (t : Int) := by omega
        have i7 : (t : Int) < (n : Int) := by omega
        have hbt := Bn_bd l t
        have het := En_bd l t
        obtain ⟨yx, yhx⟩ : ∃ x, l[t]? = some x := ⟨_, List.getElem?_eq_getElem (by rw [← HN.out]; exact ylt)⟩
        have yhE := En_at yhx
        have yhB := Bn_at yhx
        obtain ⟨ab, haa, _, hd, yhl⟩ := (HSQ.out _ HBR.out).at_ yhx
        obtain rfl : aa = ab := by injection haa
        obtain ⟨⟨y0, y1, y2, y3, y4, y5, y6, y7, y8, yats⟩, yA, yc⟩ := yx
        obtain ⟨ym, yhm⟩ : ∃ m, m = yats.length := ⟨_, rfl⟩
        have d0 : wr.cell? (aa.add (t * 10)) = some (.int .u64 y0) := hd 0 _ rfl
        have d1 : wr.cell? ⟨(aa.add (t * 10)).block, (aa.add (t * 10)).off + 1, none⟩ = some (.int .u64 y1) := cell_far (hd 1 _ rfl) (by omega)
        have d2 : wr.cell? ⟨(aa.add (t * 10)).block, (aa.add (t * 10)).off + 2, none⟩ = some (.int .u64 y2) := cell_far (hd 2 _ rfl) (by omega)
        have d3 : wr.cell? ⟨(aa.add (t * 10)).block, (aa.add (t * 10)).off + 3, none⟩ = some (.int .u64 y3) := cell_far (hd 3 _ rfl) (by omega)
        have d4 : wr.cell? ⟨(aa.add (t * 10)).block, (aa.add (t * 10)).off + 4, none⟩ = some (.string y4) := cell_far (hd 4 _ rfl) (by omega)
        have d5 : wr.cell? ⟨(aa.add (t * 10)).block, (aa.add (t * 10)).off + 5, none⟩ = some (.string y5) := cell_far (hd 5 _ rfl) (by omega)
        have d6 : wr.cell? ⟨(aa.add (t * 10)).block, (aa.add (t * 10)).off + 6, none⟩ = some (.int .i64 y6) := cell_far (hd 6 _ rfl) (by omega)
        have d7 : wr.cell? ⟨(aa.add (t * 10)).block, (aa.add (t * 10)).off + 7, none⟩ = some (.int .i64 y7) := cell_far (hd 7 _ rfl) (by omega)
        have d8 : wr.cell? ⟨(aa.add (t * 10)).block, (aa.add (t * 10)).off + 8, none⟩ = some (.bool y8) := cell_far (hd 8 _ rfl) (by omega)
        have d9 : wr.cell? ⟨(aa.add (t * 10)).block, (aa.add (t * 10)).off + 9, none⟩ = some (.slice yA ym yc) := by rw [yhm]; exact cell_far (hd 9 _ rfl) (by omega)
        have ECd := Lib.hid (ends_lit y0 y1 y2 y3 y4 y5 y6 y7 y8 yats yA yc ym B wr yhm yhl (HBB.out _ HBR.out))
        obtain ⟨yeB, yheB⟩ : ∃ eB, eB = Bn l t := ⟨_, rfl⟩
        obtain ⟨yeE, yheE⟩ : ∃ eE, eE = En l t := ⟨_, rfl⟩
        rw [← yhB, ← yheB, ← yhE, ← yheE] at ECd
        have HyE := Lib.hid yheE
        have HyB := Lib.hid yheB
        clear hd yhl yhm yheB yheE yhE yhB yhx
        have hye := HyE.out
        have hyb := HyB.out
        obtain ⟨mi, hmi⟩ : ∃ mi, mi = min yeB xeE := ⟨_, rfl⟩
        obtain ⟨df, hdf⟩ : ∃ df, df = mi - at_ := ⟨_, rfl⟩
        obtain ⟨mx, hmx⟩ : ∃ mx, mx = max df 0 := ⟨_, rfl⟩
        obtain ⟨ow, how⟩ : ∃ ow, ow = own + mx := ⟨_, rfl⟩
        obtain ⟨at2, hat⟩ : ∃ at2, at2 = max at_ yeE := ⟨_, rfl⟩
        have e2 : (if xeE < yeB then xeE else yeB) = mi := by rw [hmi]; split <;> omega
        have e3 : IntKind.i64.wrap (mi - at_) = df := by rw [IntKind.wrap_i64] <;> omega
        have e4 : (if df < 0 then 0 else df) = mx := by rw [hmx]; split <;> omega
        have e5 : IntKind.i64.wrap (own + mx) = ow := by have := HTL.out.1; rw [IntKind.wrap_i64] <;> omega
        have e6 : (if at_ < yeE then yeE else at_) = at2 := by rw [hat]; split <;> omega
        have HSF2 := Lib.hid (show Sy.selfF xeE ((T.drop j9).map fun q => (Bn l q, En l q)) at2 ow = Sy.selfF xeE (T.map fun q => (Bn l q, En l q)) xeB 0 from by
          rw [← HSF.out]
          have hdrop : T.drop j = t :: T.drop (j + 1) := by
            have h := List.getElem?_eq_some_iff.1 ht
            rw [List.drop_eq_getElem_cons h.1, h.2]
          rw [hdrop, List.map_cons, hj9, hat, how, hmx, hdf, hmi, hye, hyb]
          rfl)
        have HAO2 := Lib.hid (show 0 ≤ at2 ∧ at2 ≤ 2000000000000000 ∧ 0 ≤ ow ∧ ow ≤ (j9 : Int) * 2000000000000000 from by omega)
        have HJ9 := Lib.hid hj9
        have HJT := Lib.hid hjt
        clear hat how hmx hdf hmi hye hyb hbt het htc htab ht ylt hj9 hjt hao hxb
        go_wp2_with (go_at_call 23; (with_reducible refine ECd.out.mono ?_); rintro ex w7 ⟨rfl, hb7⟩; have HB7 := Lib.hid (HWQ.out.trans (hb7.mono HWQ.out.size)); clear hb7)
        go_roundw
        case rel => exact ⟨j9, at2, ow, by first | rfl | go_num, rfl, rfl, Lib.hid (by have := HJT.out; have := HJ9.out; omega), HAO2, HSF2, HB7⟩
        case measure => have := HJT.out; have := HJ9.out; simp [intOf]; omega
      · as_aux_lemma =>
        obtain rfl : tn = j := by have := HJ.out; omega
        have d0 : decide ((tn : Int) < (tn : Int)) = false := decide_eq_false (by omega)
        have d1 : decide (tn < tn) = false := decide_eq_false (by omega)
        have hao := HAO.out
        have hxb := HXB.out
        obtain ⟨df, hdf⟩ : ∃ df, df = xeE - at_ := ⟨_, rfl⟩
        obtain ⟨mx, hmx⟩ : ∃ mx, mx = max df 0 := ⟨_, rfl⟩
        obtain ⟨ow, how⟩ : ∃ ow, ow = own + mx := ⟨_, rfl⟩
        have e3 : IntKind.i64.wrap (xeE - at_) = df := by rw [IntKind.wrap_i64] <;> omega
        have e4 : (if df < 0 then 0 else df) = mx := by rw [hmx]; split <;> omega
        have e5 : IntKind.i64.wrap (own + mx) = ow := by have := HTL.out.1; rw [IntKind.wrap_i64] <;> omega
        have HS := Lib.hid (show SelfIs l n (k : Int) ow from .inr ⟨k, rfl, HKN.out, HFB.out.symm, P, M, O, HF.out, by
          have h := HSF.out
          rw [List.drop_eq_nil_of_le (by rw [← HTN.out]; exact Nat.le_refl _)] at h
          have h2 := Sy.selfF_is xeE (kidI l P n M k) xeB 0 (kids_sorted HF.out HFB.out.symm k) (kids_ord l P n M k)
          unfold kidI at h2
          rw [← HT.out, ← h] at h2
          have h3 : own + max (xeE - at_) 0 = 0 + ((Sy.CI (T.map fun q => (Bn l q, En l q)) xeB xeE : Nat) : Int) := h2
          rw [← HxB.out, ← HxE.out]
          unfold kidI
          rw [← HT.out, how, hmx, hdf, h3]
          omega⟩)
        clear hjt hdf hmx how hao hxb
        go_wp2_with fail
        go_ret
        exact ⟨ow, by first | rfl | go_num, HS.out, HBR.out⟩
end Go.Proofs.Ytgldjjmpjaegfaa
