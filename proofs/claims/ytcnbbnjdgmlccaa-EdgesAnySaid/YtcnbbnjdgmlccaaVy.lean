/- EdgesAny. -/
import Derived.Test.YtcnbbnjdgmlccaaVe
import Derived.Test.YtcnbbnjdgmlccaaFew
namespace Go.Proofs.Ytcnbbnjdgmlccaa
open Go.RowKit
set_option linter.unusedVariables false
set_option linter.unusedSimpArgs false
set_option maxRecDepth 100000

theorem calls_len (l : List Ls) (k : Nat) : (callsK l k).length ≤ k := by
  unfold callsK
  refine Nat.le_trans (List.length_filterMap_le _ _) ?_
  rw [List.length_map, List.length_take]
  omega
theorem add_at (w W : World) (hW : Below w.heap.size w W) (A0 : Option Addr) (n0 c0 : Nat) (L0 : List Eg) (hn0 : n0 = L0.length) (hr : Rd W W.heap.size A0 (L0.flatMap Eg.cells)) (hs : n0 ≤ 1000) (hok : EgOk L0) (aA : Option Addr) (na ca : Nat) (la : List Ls) (hna : na = la.length) (hya : RdSps w w.heap.size aA la) (h60 : na ≤ 60) (most mo : Int) (hmo : mo = max most 0) (hmr : -9223372036854775808 ≤ most ∧ most ≤ 9223372036854775807) :
    Calls Try.prog 9 #[.slice A0 n0 c0, .slice aA na ca, .int .i64 most] W fun e w' => ∃ (A' : Option Addr) (n' c' : Nat) (M : List Eg), e = .returned (.slice A' n' c') ∧ n' = M.length ∧ n' ≤ n0 + 60 ∧ CA mo L0 (callsK la na) M ∧ EgOk M ∧ Rd w' w'.heap.size A' (M.flatMap Eg.cells) ∧ Below w.heap.size w w' ∧ Below W.heap.size W w' :=
  (add_any A0 n0 c0 L0 aA na ca la most mo W.heap.size W hn0 hr (by omega) hok hna ((hya.below hW).more hW.size) (Nat.le_refl _) (by omega) hmo hmr).mono fun e w' h => by
    obtain ⟨A', n', c', M, h1, h2, h3, h4, h5, h6, h7⟩ := h
    exact ⟨A', n', c', M, h1, h2, by omega, h4, h5, Rd.of_owng h6, hW.trans (h7.mono hW.size), h7⟩
theorem add_nil (w W : World) (hW : Below w.heap.size w W) (aA : Option Addr) (na ca : Nat) (la : List Ls) (hna : na = la.length) (hya : RdSps w w.heap.size aA la) (h60 : na ≤ 60) (most mo : Int) (hmo : mo = max most 0) (hmr : -9223372036854775808 ≤ most ∧ most ≤ 9223372036854775807) :
    Calls Try.prog 9 #[.slice none 0 0, .slice aA na ca, .int .i64 most] W fun e w' => ∃ (A' : Option Addr) (n' c' : Nat) (M : List Eg), e = .returned (.slice A' n' c') ∧ n' = M.length ∧ n' ≤ 0 + 60 ∧ CA mo [] (callsK la na) M ∧ EgOk M ∧ Rd w' w'.heap.size A' (M.flatMap Eg.cells) ∧ Below w.heap.size w w' ∧ Below W.heap.size W w' :=
  add_at w W hW none 0 0 [] rfl Rd.nil (by decide) (fun y h => by cases h) aA na ca la hna hya h60 most mo hmo hmr
theorem any_same {mo : Int} {a b c : List Call} {M1 M2 M3 N1 N2 N3 : List Eg} (h0 : 0 ≤ mo) (ha : a.length ≤ 60) (hb : b.length ≤ 60) (hc : c.length ≤ 60) (h1 : CA mo [] a M1) (h2 : CA mo M1 b M2) (h3 : CA mo M2 c M3) (k1 : CA mo [] c N1) (k2 : CA mo N1 a N2) (k3 : CA mo N2 b N3) : M3 = N3 ∧ M3.Pairwise bef := by
  have x1 := Tally.steps h0 (Tally.nil mo) (by simp; omega) h1
  have x2 := Tally.steps h0 x1 (by simp; omega) h2
  have x3 := Tally.steps h0 x2 (by simp; omega) h3
  have y1 := Tally.steps h0 (Tally.nil mo) (by simp; omega) k1
  have y2 := Tally.steps h0 y1 (by simp; omega) k2
  have y3 := Tally.steps h0 y2 (by simp; omega) k3
  refine ⟨Tally.same x3 y3 (fun f t => ?_) (fun f t => ?_), x3.ord⟩
  · simp only [cntC, List.nil_append, List.countP_append]; omega
  · simp only [errC, List.nil_append, List.countP_append]; omega
set_option maxHeartbeats 16000000 in
theorem any11 (aA bA cA : Option Addr) (na nb nc ca cb cc : Nat) (la lb lc : List Ls) (most : Int) (w : World) (hna : na = la.length) (hnb : nb = lb.length) (hnc : nc = lc.length) (hya : RdSps w w.heap.size aA la) (hyb : RdSps w w.heap.size bA lb) (hyc : RdSps w w.heap.size cA lc) (hma : na ≤ maxLen) (hmb : nb ≤ maxLen) (hmc : nc ≤ maxLen) (hmr : -9223372036854775808 ≤ most ∧ most ≤ 9223372036854775807) :
    Calls Try.prog 3 #[.slice aA na ca, .slice bA nb cb, .slice cA nc cc, .int .i64 most] w fun e w' => e = .returned (.bool true) ∧ Below w.heap.size w w' := by
  have Fa := Lib.hid (fun W (hW : Below w.heap.size w W) => fewall_any aA la na ca w.heap.size W hna (hya.below hW) hW.size hma)
  have Fb := Lib.hid (fun W (hW : Below w.heap.size w W) => fewall_any bA lb nb cb w.heap.size W hnb (hyb.below hW) hW.size hmb)
  have Fc := Lib.hid (fun W (hW : Below w.heap.size w W) => fewall_any cA lc nc cc w.heap.size W hnc (hyc.below hW) hW.size hmc)
  have HNa := Lib.hid hna
  have HNb := Lib.hid hnb
  have HNc := Lib.hid hnc
  have HYa := Lib.hid hya
  have HYb := Lib.hid hyb
  have HYc := Lib.hid hyc
  obtain ⟨mo, hmo⟩ : ∃ mo, mo = max most 0 := ⟨_, rfl⟩
  have HMO := Lib.hid hmo
  have hm0 : 0 ≤ mo := by omega
  have H6a : Hid (fewAll la = true → na ≤ 60) := Lib.hid (fun h => by unfold fewAll at h; simp at h; omega)
  have H6b : Hid (fewAll lb = true → nb ≤ 60) := Lib.hid (fun h => by unfold fewAll at h; simp at h; omega)
  have H6c : Hid (fewAll lc = true → nc ≤ 60) := Lib.hid (fun h => by unfold fewAll at h; simp at h; omega)
  clear hna hnb hnc hya hyb hyc hmo hma hmb hmc
  go_enter Try.func3, Try.ntmps3
  generalize fewAll la = fa at *
  generalize fewAll lb = fb at *
  generalize fewAll lc = fc at *
  cases fa
  · go_wp2_with (first
        | (go_at_call 8; (with_reducible refine (Fa.out _ HB1.out).mono ?_); rintro ex w2 ⟨rfl, hb2⟩; have HB2 := Lib.hid (HB1.out.trans (hb2.mono HB1.out.size)); clear hb2)
        | (go_at_call 7; (with_reducible refine (alive11_calls _).mono ?_); rintro ex w1 ⟨rfl, hb1⟩; have HB1 := Lib.hid hb1; clear hb1))
    go_ret
    exact ⟨rfl, HB2.out⟩
  cases fb
  · go_wp2_with (first
        | (go_at_call 8; (with_reducible refine (Fb.out _ HB2.out).mono ?_); rintro ex w3 ⟨rfl, hb3⟩; have HB3 := Lib.hid (HB2.out.trans (hb3.mono HB2.out.size)); clear hb3)
        | (go_at_call 8; (with_reducible refine (Fa.out _ HB1.out).mono ?_); rintro ex w2 ⟨rfl, hb2⟩; have HB2 := Lib.hid (HB1.out.trans (hb2.mono HB1.out.size)); clear hb2)
        | (go_at_call 7; (with_reducible refine (alive11_calls _).mono ?_); rintro ex w1 ⟨rfl, hb1⟩; have HB1 := Lib.hid hb1; clear hb1))
    go_ret
    exact ⟨rfl, HB3.out⟩
  cases fc
  · go_wp2_with (first
        | (go_at_call 8; (with_reducible refine (Fc.out _ HB3.out).mono ?_); rintro ex w4 ⟨rfl, hb4⟩; have HB4 := Lib.hid (HB3.out.trans (hb4.mono HB3.out.size)); clear hb4)
        | (go_at_call 8; (with_reducible refine (Fb.out _ HB2.out).mono ?_); rintro ex w3 ⟨rfl, hb3⟩; have HB3 := Lib.hid (HB2.out.trans (hb3.mono HB2.out.size)); clear hb3)
        | (go_at_call 8; (with_reducible refine (Fa.out _ HB1.out).mono ?_); rintro ex w2 ⟨rfl, hb2⟩; have HB2 := Lib.hid (HB1.out.trans (hb2.mono HB1.out.size)); clear hb2)
        | (go_at_call 7; (with_reducible refine (alive11_calls _).mono ?_); rintro ex w1 ⟨rfl, hb1⟩; have HB1 := Lib.hid hb1; clear hb1))
    go_ret
    exact ⟨rfl, HB4.out⟩
  have h60a := H6a.out rfl
  have h60b := H6b.out rfl
  have h60c := H6c.out rfl
  go_upto_region 4 with (first
    | (go_at_call 8; (with_reducible refine (Fc.out _ HB3.out).mono ?_); rintro ex w4 ⟨rfl, hb4⟩; have HB4 := Lib.hid (HB3.out.trans (hb4.mono HB3.out.size)); clear hb4)
    | (go_at_call 8; (with_reducible refine (Fb.out _ HB2.out).mono ?_); rintro ex w3 ⟨rfl, hb3⟩; have HB3 := Lib.hid (HB2.out.trans (hb3.mono HB2.out.size)); clear hb3)
    | (go_at_call 8; (with_reducible refine (Fa.out _ HB1.out).mono ?_); rintro ex w2 ⟨rfl, hb2⟩; have HB2 := Lib.hid (HB1.out.trans (hb2.mono HB1.out.size)); clear hb2)
    | (go_at_call 7; (with_reducible refine (alive11_calls _).mono ?_); rintro ex w1 ⟨rfl, hb1⟩; have HB1 := Lib.hid hb1; clear hb1))
  go_upto_region 5 with (first
    | (go_at_call 9; (with_reducible refine (add_at w _ HB6.out A2 n2 c2 M2 HN2.out HR2.out hs2 HE2.out cA nc cc lc HNc.out HYc.out h60c most mo HMO.out hmr).mono ?_); rintro ex w7 ⟨A3, n3, c3, M3, rfl, hn3, hl3, hc3, he3, hr3, hb3, hx3⟩; have hs3 : n3 ≤ 1000 := (by omega); have HN3 := Lib.hid hn3; have HC3 := Lib.hid hc3; have HE3 := Lib.hid he3; have HR3 := Lib.hid hr3; have HB7 := Lib.hid hb3; have HX3 := Lib.hid hx3; clear hn3 hc3 he3 hr3 hb3 hx3)
    | (go_at_call 9; (with_reducible refine (add_at w _ HB5.out A1 n1 c1 M1 HN1.out HR1.out hs1 HE1.out bA nb cb lb HNb.out HYb.out h60b most mo HMO.out hmr).mono ?_); rintro ex w6 ⟨A2, n2, c2, M2, rfl, hn2, hl2, hc2, he2, hr2, hb2, hx2⟩; have hs2 : n2 ≤ 1000 := (by omega); have HN2 := Lib.hid hn2; have HC2 := Lib.hid hc2; have HE2 := Lib.hid he2; have HR2 := Lib.hid hr2; have HB6 := Lib.hid hb2; have HX2 := Lib.hid hx2; clear hn2 hc2 he2 hr2 hb2 hx2)
    | (go_at_call 9; (with_reducible refine (add_nil w _ HB4.out  aA na ca la HNa.out HYa.out h60a most mo HMO.out hmr).mono ?_); rintro ex w5 ⟨A1, n1, c1, M1, rfl, hn1, hl1, hc1, he1, hr1, hb1, hx1⟩; have hs1 : n1 ≤ 1000 := (by omega); have HN1 := Lib.hid hn1; have HC1 := Lib.hid hc1; have HE1 := Lib.hid he1; have HR1 := Lib.hid hr1; have HB5 := Lib.hid hb1; have HX1 := Lib.hid hx1; clear hn1 hc1 he1 hr1 hb1 hx1))
  go_upto_region 6 with (first
    | (go_at_call 9; (with_reducible refine (add_at w _ HB9.out A5 n5 c5 M5 HN5.out HR5.out hs5 HE5.out bA nb cb lb HNb.out HYb.out h60b most mo HMO.out hmr).mono ?_); rintro ex w10 ⟨A6, n6, c6, M6, rfl, hn6, hl6, hc6, he6, hr6, hb6, hx6⟩; have hs6 : n6 ≤ 1000 := (by omega); have HN6 := Lib.hid hn6; have HC6 := Lib.hid hc6; have HE6 := Lib.hid he6; have HR6 := Lib.hid hr6; have HB10 := Lib.hid hb6; have HX6 := Lib.hid hx6; clear hn6 hc6 he6 hr6 hb6 hx6)
    | (go_at_call 9; (with_reducible refine (add_at w _ HB8.out A4 n4 c4 M4 HN4.out HR4.out hs4 HE4.out aA na ca la HNa.out HYa.out h60a most mo HMO.out hmr).mono ?_); rintro ex w9 ⟨A5, n5, c5, M5, rfl, hn5, hl5, hc5, he5, hr5, hb5, hx5⟩; have hs5 : n5 ≤ 1000 := (by omega); have HN5 := Lib.hid hn5; have HC5 := Lib.hid hc5; have HE5 := Lib.hid he5; have HR5 := Lib.hid hr5; have HB9 := Lib.hid hb5; have HX5 := Lib.hid hx5; clear hn5 hc5 he5 hr5 hb5 hx5)
    | (go_at_call 9; (with_reducible refine (add_nil w _ HB7.out  cA nc cc lc HNc.out HYc.out h60c most mo HMO.out hmr).mono ?_); rintro ex w8 ⟨A4, n4, c4, M4, rfl, hn4, hl4, hc4, he4, hr4, hb4, hx4⟩; have hs4 : n4 ≤ 1000 := (by omega); have HN4 := Lib.hid hn4; have HC4 := Lib.hid hc4; have HE4 := Lib.hid he4; have HR4 := Lib.hid hr4; have HB8 := Lib.hid hb4; have HX4 := Lib.hid hx4; clear hn4 hc4 he4 hr4 hb4 hx4))
  obtain ⟨hM, hord⟩ := any_same hm0 (Nat.le_trans (calls_len _ _) h60a) (Nat.le_trans (calls_len _ _) h60b) (Nat.le_trans (calls_len _ _) h60c) HC1.out HC2.out HC3.out HC4.out HC5.out HC6.out
  have HORD := Lib.hid hord
  subst hM
  have hn36 : n6 = n3 := by rw [HN6.out, HN3.out]
  subst hn36
  have hz7 := HX4.out.size
  have hz8 := HX5.out.size
  have hz9 := HX6.out.size
  have HX := Lib.hid (HX4.out.trans ((HX5.out.trans (HX6.out.mono hz8)).mono hz7))
  have HR3' := Lib.hid (((HR3.out.below HX.out).more HX.out.size))
  have SE := Lib.hid (sameedges_eq A3 A6 n6 c3 c6 M3 w10.heap.size w10 (by omega) HN3.out HR3'.out HR6.out)
  have OR := Lib.hid (fun W (hW : Below w10.heap.size w10 W) => ordered_any A3 n6 c3 M3 w10.heap.size W (by omega) HN3.out (HR3'.out.below hW) HORD.out)
  clear hord hz7 hz8 hz9
  go_wp2_with (first
    | (go_at_call 11; (with_reducible refine (OR.out _ HB11.out).mono ?_); rintro ex w12 ⟨rfl, hb12⟩; have HB12 := Lib.hid (HB11.out.trans (hb12.mono HB11.out.size)); clear hb12)
    | (go_at_call 10; (with_reducible refine SE.out.mono ?_); rintro ex w11 ⟨rfl, hb11⟩; have HB11 := Lib.hid hb11; clear hb11))
  go_ret
  exact ⟨rfl, HB10.out.trans (HB12.out.mono HB10.out.size)⟩
end Go.Proofs.Ytcnbbnjdgmlccaa
