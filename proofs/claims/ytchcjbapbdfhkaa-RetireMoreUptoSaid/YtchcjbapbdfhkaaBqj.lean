/- RetireMore: with more room, and more time, none goes that would not with less. -/
import Derived.Test.YtchcjbapbdfhkaaBqi
import Derived.BigQuiet
namespace Go.Proofs.Ytchcjbapbdfhkaa
open Go.RowKit Go.Maps
set_option linter.unusedVariables false
set_option linter.unusedSimpArgs false
set_option maxRecDepth 100000

theorem letGo_len (b : Int) : ∀ (f : Nat) (l : List Hd), (letGo b f l).length ≤ f
  | 0, _ => by simp [letGo]
  | f + 1, l => by
    unfold letGo
    split
    · have := letGo_len b f (l.eraseIdx (minAt l))
      simp only [List.length_cons]
      omega
    · simp
theorem choose_len (l : List Bl) (now keep b : Int) : (choose l now keep b).length ≤ 2 * l.length := by
  unfold choose
  rw [List.length_append]
  have h1 := gone_len now keep l
  have h2 := letGo_len b (othL now keep l).length (othL now keep l)
  omega
theorem mAt_sorted {l : List Hd} (h : l.Pairwise fun a b => a.bo ≤ b.bo) : ∀ k, k ≤ l.length → mAt l k = 0
  | 0, _ => rfl
  | k + 1, hk => by
    have ih := mAt_sorted h k (by omega)
    have h1 : l[k]? = some l[k] := List.getElem?_eq_getElem (by omega)
    have h2 : l[mAt l k]? = some l[0] := by rw [ih]; exact List.getElem?_eq_getElem (by omega)
    rw [mAt_step h1 h2, if_neg, ih]
    rcases Nat.eq_zero_or_pos k with h0 | h0
    · subst h0; omega
    · have := (List.pairwise_iff_getElem.1 h) 0 k (by omega) (by omega) h0
      omega
/-- What goes for want of room, where the blocks stand by age. -/
def goS (budget : Int) : List Hd → List Int
  | [] => []
  | x :: r => if budget < (totH (x :: r) : Int) ∧ r ≠ [] then x.nu :: goS budget r else []
theorem letGo_sorted (budget : Int) : ∀ (l : List Hd), l.Pairwise (fun a b => a.bo ≤ b.bo) → letGo budget l.length l = goS budget l
  | [], _ => rfl
  | x :: r, h => by
    have hm : minAt (x :: r) = 0 := mAt_sorted h _ (Nat.le_refl _)
    have ih := letGo_sorted budget r (List.pairwise_cons.1 h).2
    by_cases hc : budget < (totH (x :: r) : Int) ∧ r ≠ []
    · have h1 : 1 < (x :: r).length := by
        rcases r with _ | ⟨y, r⟩
        · exact absurd rfl hc.2
        · simp
      show letGo budget (r.length + 1) (x :: r) = _
      rw [letGo_go hc.1 h1 (m := x) (by rw [hm]; rfl), hm]
      unfold goS
      rw [if_pos hc]
      show x.nu :: letGo budget r.length r = _
      rw [ih]
    · rw [letGo_stop]
      · unfold goS
        rw [if_neg hc]
      · rintro ⟨h1, h2⟩
        refine hc ⟨h1, ?_⟩
        rintro rfl
        simp at h2
theorem goS_more {b b' : Int} (hb : b ≤ b') : ∀ l : List Hd, goS b' l <+: goS b l
  | [] => List.prefix_refl _
  | x :: r => by
    unfold goS
    by_cases h' : b' < (totH (x :: r) : Int) ∧ r ≠ []
    · rw [if_pos h', if_pos ⟨by omega, h'.2⟩]
      exact (List.prefix_cons_inj _).2 (goS_more hb r)
    · rw [if_neg h']
      exact List.nil_prefix
/-- All that goes, where the blocks stand by age. -/
def goA (now keep budget : Int) : List Bl → List Int
  | [] => []
  | x :: r => if tooOld now keep x = true then x.nu :: goA now keep budget r else goS budget ((x :: r).map Bl.hd)
theorem old_mono {now keep : Int} {x y : Bl} (hn : 0 ≤ now ∧ now ≤ 1099511627776) (hx : 0 ≤ x.bo ∧ x.bo ≤ 1099511627776) (hy : 0 ≤ y.bo ∧ y.bo ≤ 1099511627776) (h : x.bo ≤ y.bo) (ho : tooOld now keep x = false) : tooOld now keep y = false := by
  unfold tooOld satR at *
  simp only [decide_eq_false_iff_not] at *
  rw [if_neg (by omega), if_neg (by omega)] at *
  omega
theorem pair_hd {l : List Bl} (h : l.Pairwise fun a b => a.bo ≤ b.bo) : (l.map Bl.hd).Pairwise fun a b => a.bo ≤ b.bo := by
  rw [List.pairwise_map]
  exact h
theorem choose_sorted {now keep budget : Int} (hn : 0 ≤ now ∧ now ≤ 1099511627776) : ∀ (l : List Bl), (∀ x ∈ l, 0 ≤ x.bo ∧ x.bo ≤ 1099511627776) → l.Pairwise (fun a b => a.bo ≤ b.bo) → choose l now keep budget = goA now keep budget l
  | [], _, _ => rfl
  | x :: r, hb, hp => by
    have ih := choose_sorted (keep := keep) (budget := budget) hn r (fun y hy => hb y (by simp [hy])) (List.pairwise_cons.1 hp).2
    cases ho : tooOld now keep x
    · have hall : ∀ y ∈ x :: r, tooOld now keep y = false := fun y hy => by
        rcases List.mem_cons.1 hy with rfl | hy
        · exact ho
        · exact old_mono hn (hb x (by simp)) (hb y (by simp [hy])) ((List.pairwise_cons.1 hp).1 y hy) ho
      have h1 : goneL now keep (x :: r) = [] := by
        unfold goneL
        rw [List.filter_eq_nil_iff.2 (fun y hy => by rw [hall y hy]; simp)]
        rfl
      have h2 : othL now keep (x :: r) = (x :: r).map Bl.hd := by
        unfold othL
        rw [List.filter_eq_self.2 (fun y hy => by rw [hall y hy]; rfl)]
      unfold choose
      rw [h1, h2, List.nil_append, letGo_sorted _ _ (pair_hd hp)]
      conv => rhs; unfold goA
      rw [if_neg (by rw [ho]; simp)]
    · have h1 : goneL now keep (x :: r) = x.nu :: goneL now keep r := by
        unfold goneL
        rw [List.filter_cons_of_pos ho]
        rfl
      have h2 : othL now keep (x :: r) = othL now keep r := by
        unfold othL
        rw [List.filter_cons_of_neg (by rw [ho]; simp)]
      unfold choose at ih ⊢
      rw [h1, h2, List.cons_append, ih]
      conv => rhs; unfold goA
      rw [if_pos ho]
theorem old_keep {now keep keep' : Int} {x : Bl} (h : keep ≤ keep') (ho : tooOld now keep x = false) : tooOld now keep' x = false := by
  unfold tooOld at *
  simp only [decide_eq_false_iff_not] at *
  omega
theorem goA_more {now keep keep' b b' : Int} (hn : 0 ≤ now ∧ now ≤ 1099511627776) (hk : keep ≤ keep') (hb : b ≤ b') : ∀ (l : List Bl), (∀ x ∈ l, 0 ≤ x.bo ∧ x.bo ≤ 1099511627776) → l.Pairwise (fun a b => a.bo ≤ b.bo) → goA now keep' b' l <+: goA now keep b l
  | [], _, _ => List.prefix_refl _
  | x :: r, hr, hp => by
    have hr' : ∀ y ∈ r, 0 ≤ y.bo ∧ y.bo ≤ 1099511627776 := fun y hy => hr y (by simp [hy])
    have ih := goA_more hn hk hb r hr' (List.pairwise_cons.1 hp).2
    cases ho' : tooOld now keep' x
    · cases ho : tooOld now keep x
      · unfold goA
        rw [if_neg (by rw [ho']; simp), if_neg (by rw [ho]; simp)]
        exact goS_more hb _
      · conv => lhs; unfold goA
        conv => rhs; unfold goA
        rw [if_neg (by rw [ho']; simp), if_pos ho]
        rw [List.map_cons]
        unfold goS
        by_cases hc : b' < (totH (x.hd :: r.map Bl.hd) : Int) ∧ r.map Bl.hd ≠ []
        · rw [if_pos hc]
          refine (List.prefix_cons_inj _).2 ?_
          have e : goA now keep' b' r = goS b' (r.map Bl.hd) := by
            rcases r with _ | ⟨y, r⟩
            · exact absurd rfl hc.2
            · have hy : tooOld now keep' y = false := old_mono hn (hr x (by simp)) (hr y (by simp)) ((List.pairwise_cons.1 hp).1 y (by simp)) ho'
              unfold goA
              rw [if_neg (by rw [hy]; simp)]
          rw [← e]
          exact ih
        · rw [if_neg hc]
          exact List.nil_prefix
    · have ho : tooOld now keep x = true := by
        cases h : tooOld now keep x
        · rw [old_keep hk h] at ho'; cases ho'
        · rfl
      conv => lhs; unfold goA
      conv => rhs; unfold goA
      rw [if_pos ho', if_pos ho]
      exact (List.prefix_cons_inj _).2 ih
theorem choose_more {now keep keep' b b' : Int} (l : List Bl) (hn : 0 ≤ now ∧ now ≤ 1099511627776) (hk : keep ≤ keep') (hb : b ≤ b') (h1 : ∀ x ∈ l, 0 ≤ x.bo ∧ x.bo ≤ 1099511627776) (h2 : l.Pairwise (fun a b => a.bo ≤ b.bo)) : choose l now keep' b' <+: choose l now keep b := by
  rw [choose_sorted hn l h1 h2, choose_sorted hn l h1 h2]
  exact goA_more hn hk hb l h1 h2
theorem pair_adj {l : List Bl} (h : ∀ j x y, l[j]? = some x → l[j + 1]? = some y → x.bo ≤ y.bo) : l.Pairwise fun a b => a.bo ≤ b.bo := by
  induction l with
  | nil => exact List.Pairwise.nil
  | cons x r ih =>
    have hr := ih (fun j a b ha hb => h (j + 1) a b (by simpa using ha) (by simpa using hb))
    refine List.pairwise_cons.2 ⟨fun y hy => ?_, hr⟩
    rcases r with _ | ⟨z, r⟩
    · cases hy
    · have hz := h 0 x z rfl rfl
      rcases List.mem_cons.1 hy with rfl | hy
      · exact hz
      · exact Int.le_trans hz ((List.pairwise_cons.1 hr).1 y hy)
set_option maxHeartbeats 16000000 in
theorem more20 (A : Option Addr) (l : List Bl) (n c : Nat) (now keep budget lon mor : Int) (w : World) (hn : n = l.length) (hy : RdBls w w.heap.size A l) (hok : ∀ x ∈ l, x.ok) (hb : ∀ x ∈ l, x.l.length ≤ 1048576) :
    Calls Try.prog 14 #[.slice A n c, .int .i64 now, .int .i64 keep, .int .i64 budget, .int .i64 lon, .int .i64 mor] w fun e w' => e = .returned (.bool true) ∧ Below w.heap.size w w' := by
  have HFW := Lib.hid (fun W (hW : Below w.heap.size w W) => few19_any A l n c w.heap.size W hn (hy.below hW) hok hW.size hb)
  have HN := Lib.hid hn
  have HY := Lib.hid hy
  have HK := Lib.hid hok
  clear hn hy hok hb
  by_cases h0 : now < 0
  · have e0 : decide (now < 0) = true := decide_eq_true h0
    go_enter Try.func14, Try.ntmps14
    go_wp2_with fail
    refine (alive20_calls _).mono ?_
    rintro e w0 ⟨rfl, hb0⟩
    have HB0 := Lib.hid hb0
    clear hb0
    go_wp2_with fail
    refine (HFW.out w0 HB0.out).mono ?_
    rintro e w1 ⟨fb, rfl, hfb, hb1⟩
    have HB1 := Lib.hid (HB0.out.trans (hb1.mono HB0.out.size))
    have HGD := Lib.hid hfb
    clear hb1 hfb
    cases fb
    · go_wp2_with fail
      go_ret
      exact ⟨rfl, HB1.out⟩
    go_wp2_with fail
    go_ret
    exact ⟨rfl, HB1.out⟩
  have e0 : decide (now < 0) = false := decide_eq_false h0
  by_cases h1 : 1099511627776 < now
  · have e1 : decide (1099511627776 < now) = true := decide_eq_true h1
    go_enter Try.func14, Try.ntmps14
    go_wp2_with fail
    refine (alive20_calls _).mono ?_
    rintro e w0 ⟨rfl, hb0⟩
    have HB0 := Lib.hid hb0
    clear hb0
    go_wp2_with fail
    refine (HFW.out w0 HB0.out).mono ?_
    rintro e w1 ⟨fb, rfl, hfb, hb1⟩
    have HB1 := Lib.hid (HB0.out.trans (hb1.mono HB0.out.size))
    have HGD := Lib.hid hfb
    clear hb1 hfb
    cases fb
    · go_wp2_with fail
      go_ret
      exact ⟨rfl, HB1.out⟩
    go_wp2_with fail
    go_ret
    exact ⟨rfl, HB1.out⟩
  have e1 : decide (1099511627776 < now) = false := decide_eq_false h1
  by_cases h2 : keep < 0
  · have e2 : decide (keep < 0) = true := decide_eq_true h2
    go_enter Try.func14, Try.ntmps14
    go_wp2_with fail
    refine (alive20_calls _).mono ?_
    rintro e w0 ⟨rfl, hb0⟩
    have HB0 := Lib.hid hb0
    clear hb0
    go_wp2_with fail
    refine (HFW.out w0 HB0.out).mono ?_
    rintro e w1 ⟨fb, rfl, hfb, hb1⟩
    have HB1 := Lib.hid (HB0.out.trans (hb1.mono HB0.out.size))
    have HGD := Lib.hid hfb
    clear hb1 hfb
    cases fb
    · go_wp2_with fail
      go_ret
      exact ⟨rfl, HB1.out⟩
    go_wp2_with fail
    go_ret
    exact ⟨rfl, HB1.out⟩
  have e2 : decide (keep < 0) = false := decide_eq_false h2
  by_cases h3 : 1073741824 < keep
  · have e3 : decide (1073741824 < keep) = true := decide_eq_true h3
    go_enter Try.func14, Try.ntmps14
    go_wp2_with fail
    refine (alive20_calls _).mono ?_
    rintro e w0 ⟨rfl, hb0⟩
    have HB0 := Lib.hid hb0
    clear hb0
    go_wp2_with fail
    refine (HFW.out w0 HB0.out).mono ?_
    rintro e w1 ⟨fb, rfl, hfb, hb1⟩
    have HB1 := Lib.hid (HB0.out.trans (hb1.mono HB0.out.size))
    have HGD := Lib.hid hfb
    clear hb1 hfb
    cases fb
    · go_wp2_with fail
      go_ret
      exact ⟨rfl, HB1.out⟩
    go_wp2_with fail
    go_ret
    exact ⟨rfl, HB1.out⟩
  have e3 : decide (1073741824 < keep) = false := decide_eq_false h3
  by_cases h4 : budget < 0
  · have e4 : decide (budget < 0) = true := decide_eq_true h4
    go_enter Try.func14, Try.ntmps14
    go_wp2_with fail
    refine (alive20_calls _).mono ?_
    rintro e w0 ⟨rfl, hb0⟩
    have HB0 := Lib.hid hb0
    clear hb0
    go_wp2_with fail
    refine (HFW.out w0 HB0.out).mono ?_
    rintro e w1 ⟨fb, rfl, hfb, hb1⟩
    have HB1 := Lib.hid (HB0.out.trans (hb1.mono HB0.out.size))
    have HGD := Lib.hid hfb
    clear hb1 hfb
    cases fb
    · go_wp2_with fail
      go_ret
      exact ⟨rfl, HB1.out⟩
    go_wp2_with fail
    go_ret
    exact ⟨rfl, HB1.out⟩
  have e4 : decide (budget < 0) = false := decide_eq_false h4
  by_cases h5 : 1073741824 < budget
  · have e5 : decide (1073741824 < budget) = true := decide_eq_true h5
    go_enter Try.func14, Try.ntmps14
    go_wp2_with fail
    refine (alive20_calls _).mono ?_
    rintro e w0 ⟨rfl, hb0⟩
    have HB0 := Lib.hid hb0
    clear hb0
    go_wp2_with fail
    refine (HFW.out w0 HB0.out).mono ?_
    rintro e w1 ⟨fb, rfl, hfb, hb1⟩
    have HB1 := Lib.hid (HB0.out.trans (hb1.mono HB0.out.size))
    have HGD := Lib.hid hfb
    clear hb1 hfb
    cases fb
    · go_wp2_with fail
      go_ret
      exact ⟨rfl, HB1.out⟩
    go_wp2_with fail
    go_ret
    exact ⟨rfl, HB1.out⟩
  have e5 : decide (1073741824 < budget) = false := decide_eq_false h5
  by_cases h6 : lon < 0
  · have e6 : decide (lon < 0) = true := decide_eq_true h6
    go_enter Try.func14, Try.ntmps14
    go_wp2_with fail
    refine (alive20_calls _).mono ?_
    rintro e w0 ⟨rfl, hb0⟩
    have HB0 := Lib.hid hb0
    clear hb0
    go_wp2_with fail
    refine (HFW.out w0 HB0.out).mono ?_
    rintro e w1 ⟨fb, rfl, hfb, hb1⟩
    have HB1 := Lib.hid (HB0.out.trans (hb1.mono HB0.out.size))
    have HGD := Lib.hid hfb
    clear hb1 hfb
    cases fb
    · go_wp2_with fail
      go_ret
      exact ⟨rfl, HB1.out⟩
    go_wp2_with fail
    go_ret
    exact ⟨rfl, HB1.out⟩
  have e6 : decide (lon < 0) = false := decide_eq_false h6
  by_cases h7 : 1073741824 < lon
  · have e7 : decide (1073741824 < lon) = true := decide_eq_true h7
    go_enter Try.func14, Try.ntmps14
    go_wp2_with fail
    refine (alive20_calls _).mono ?_
    rintro e w0 ⟨rfl, hb0⟩
    have HB0 := Lib.hid hb0
    clear hb0
    go_wp2_with fail
    refine (HFW.out w0 HB0.out).mono ?_
    rintro e w1 ⟨fb, rfl, hfb, hb1⟩
    have HB1 := Lib.hid (HB0.out.trans (hb1.mono HB0.out.size))
    have HGD := Lib.hid hfb
    clear hb1 hfb
    cases fb
    · go_wp2_with fail
      go_ret
      exact ⟨rfl, HB1.out⟩
    go_wp2_with fail
    go_ret
    exact ⟨rfl, HB1.out⟩
  have e7 : decide (1073741824 < lon) = false := decide_eq_false h7
  by_cases h8 : mor < 0
  · have e8 : decide (mor < 0) = true := decide_eq_true h8
    go_enter Try.func14, Try.ntmps14
    go_wp2_with fail
    refine (alive20_calls _).mono ?_
    rintro e w0 ⟨rfl, hb0⟩
    have HB0 := Lib.hid hb0
    clear hb0
    go_wp2_with fail
    refine (HFW.out w0 HB0.out).mono ?_
    rintro e w1 ⟨fb, rfl, hfb, hb1⟩
    have HB1 := Lib.hid (HB0.out.trans (hb1.mono HB0.out.size))
    have HGD := Lib.hid hfb
    clear hb1 hfb
    cases fb
    · go_wp2_with fail
      go_ret
      exact ⟨rfl, HB1.out⟩
    go_wp2_with fail
    go_ret
    exact ⟨rfl, HB1.out⟩
  have e8 : decide (mor < 0) = false := decide_eq_false h8
  by_cases h9 : 1073741824 < mor
  · have e9 : decide (1073741824 < mor) = true := decide_eq_true h9
    go_enter Try.func14, Try.ntmps14
    go_wp2_with fail
    refine (alive20_calls _).mono ?_
    rintro e w0 ⟨rfl, hb0⟩
    have HB0 := Lib.hid hb0
    clear hb0
    go_wp2_with fail
    refine (HFW.out w0 HB0.out).mono ?_
    rintro e w1 ⟨fb, rfl, hfb, hb1⟩
    have HB1 := Lib.hid (HB0.out.trans (hb1.mono HB0.out.size))
    have HGD := Lib.hid hfb
    clear hb1 hfb
    cases fb
    · go_wp2_with fail
      go_ret
      exact ⟨rfl, HB1.out⟩
    go_wp2_with fail
    go_ret
    exact ⟨rfl, HB1.out⟩
  have e9 : decide (1073741824 < mor) = false := decide_eq_false h9
  have hnow : 0 ≤ now ∧ now ≤ 1099511627776 := by omega
  have hkeep : 0 ≤ keep ∧ keep ≤ 1073741824 := by omega
  have hbud : 0 ≤ budget ∧ budget ≤ 1073741824 := by omega
  have hlon : 0 ≤ lon ∧ lon ≤ 1073741824 := by omega
  have hmor : 0 ≤ mor ∧ mor ≤ 1073741824 := by omega
  clear h0 h1 h2 h3 h4 h5 h6 h7 h8 h9
  go_enter Try.func14, Try.ntmps14
  go_wp2_with fail
  refine (alive20_calls _).mono ?_
  rintro e w0 ⟨rfl, hb0⟩
  have HB0 := Lib.hid hb0
  clear hb0
  go_wp2_with fail
  refine (HFW.out w0 HB0.out).mono ?_
  rintro e w1 ⟨fb, rfl, hfb, hb1⟩
  have HB1 := Lib.hid (HB0.out.trans (hb1.mono HB0.out.size))
  have HGD := Lib.hid hfb
  clear hb1 hfb
  cases fb
  · go_wp2_with fail
    go_ret
    exact ⟨rfl, HB1.out⟩
  have HG := Lib.hid (HGD.out (by first | rfl | trivial))
  have hn12 : n ≤ 12 := by rw [HN.out]; exact HG.out.1
  clear HGD
  go_wp2_with fail
  go_loopw [14] (fun iv wr => ∃ k : Nat, iv = .int .i64 (k : Int) ∧ k ≤ n ∧ Hid (∀ j x, j < k → l[j]? = some x → 0 ≤ x.bo ∧ x.bo ≤ 1099511627776) ∧ Hid (∀ j x y, j + 1 < k → l[j]? = some x → l[j + 1]? = some y → x.bo ≤ y.bo) ∧ Hid (Below w.heap.size w wr)) (fun iv _ => n - (intOf iv).toNat)
  case atStart => exact ⟨0, rfl, Nat.zero_le _, Lib.hid (fun j x h => by omega), Lib.hid (fun j x y h => by omega), HB1⟩
  case round =>
    clear HB1
    obtain ⟨k, rfl, hk, HR, HP, HB⟩ := hrel
    by_cases hlt : k < n
    · obtain ⟨x, hx⟩ : ∃ x, l[k]? = some x := ⟨_, List.getElem?_eq_getElem (by rw [← HN.out]; exact hlt)⟩
      have hR := HY.out.below HB.out
      obtain ⟨m, hm⟩ : ∃ m, m = x.l.length := ⟨_, rfl⟩
      have hx' : l[k]? = some ⟨x.nu, x.bo, x.ti, x.l, x.A, x.c⟩ := hx
      obtain ⟨a, ha, hab, c0, c1, c2, c3, _⟩ := blcells hR hx' m hm
      subst ha
      have HX := Lib.hid hx
      obtain ⟨nu, hnu⟩ : ∃ nu, nu = x.nu := ⟨_, rfl⟩
      obtain ⟨bo, hbo⟩ : ∃ bo, bo = x.bo := ⟨_, rfl⟩
      rw [← hnu] at c0
      rw [← hbo] at c1
      have HBO := Lib.hid hbo
      have i0 : (0 : Int) ≤ (k : Int) := by omega
      have i1 : (k : Int) < (n : Int) := by omega
      clear c2 c3 hm hx hx' hR hnu hbo
      by_cases hb1 : bo < 0
      · have d1 : decide (bo < 0) = true := decide_eq_true hb1
        clear hb1
        go_upto_region 7 with fail
        go_quiet (fail)
        go_wp2_with fail
        go_ret
        exact ⟨rfl, ⟨HB.out.os, HB.out.tape, HB.out.output, HB.out.size, HB.out.block⟩⟩
      have d1 : decide (bo < 0) = false := decide_eq_false hb1
      by_cases hb2 : 1099511627776 < bo
      · have d2 : decide (1099511627776 < bo) = true := decide_eq_true hb2
        clear hb1 hb2
        go_upto_region 7 with fail
        go_quiet (fail)
        go_wp2_with fail
        go_ret
        exact ⟨rfl, ⟨HB.out.os, HB.out.tape, HB.out.output, HB.out.size, HB.out.block⟩⟩
      have d2 : decide (1099511627776 < bo) = false := decide_eq_false hb2
      have HR2 : Hid (∀ j x, j < k + 1 → l[j]? = some x → 0 ≤ x.bo ∧ x.bo ≤ 1099511627776) := Lib.hid (fun j y hj hy => by
        rcases Nat.lt_or_ge j k with h | h
        · exact HR.out j y h hy
        · obtain rfl : j = k := by omega
          rw [HX.out] at hy
          injection hy with hy
          subst hy
          rw [← HBO.out]
          omega)
      clear hb1 hb2
      rcases Nat.eq_zero_or_pos k with h0 | h0
      · have d3 : decide ((0 : Int) < (k : Int)) = false := decide_eq_false (by omega)
        have d4 : decide (0 < k) = false := decide_eq_false (by omega)
        have HP2 : Hid (∀ j x y, j + 1 < k + 1 → l[j]? = some x → l[j + 1]? = some y → x.bo ≤ y.bo) := Lib.hid (fun j x y hj => by omega)
        clear h0
        go_upto_region 7 with fail
        go_quiet (fail)
        have hBq : Below w.heap.size w (wr.drewN nq) := ⟨HB.out.os, HB.out.tape, HB.out.output, HB.out.size, HB.out.block⟩
        have HBq := Lib.hid hBq
        clear hBq c0 c1
        generalize wr.drewN nq = wz at *
        go_wp2_with fail
        go_loopw [15] (fun pv wr => ∃ p : Nat, pv = .int .i64 (p : Int) ∧ p ≤ k ∧ Hid (Below w.heap.size w wr)) (fun pv _ => k - (intOf pv).toNat)
        case atStart => exact ⟨0, rfl, Nat.zero_le _, HBq⟩
        case round =>
          clear HBq HB
          obtain ⟨p, rfl, hp, HB⟩ := hrel
          by_cases hpk : p < k
          · obtain ⟨z, hz⟩ : ∃ z, l[p]? = some z := ⟨_, List.getElem?_eq_getElem (by rw [← HN.out]; omega)⟩
            have hz' : l[p]? = some ⟨z.nu, z.bo, z.ti, z.l, z.A, z.c⟩ := hz
            obtain ⟨a3, ha3, _, y0, _, _, _, _⟩ := blcells (HY.out.below HB.out) hz' z.l.length rfl
            injection ha3 with ha3
            subst ha3
            have hx' : l[k]? = some ⟨x.nu, x.bo, x.ti, x.l, x.A, x.c⟩ := HX.out
            obtain ⟨a4, ha4, _, x0, _, _, _, _⟩ := blcells (HY.out.below HB.out) hx' x.l.length rfl
            injection ha4 with ha4
            subst ha4
            obtain ⟨zn, hzn⟩ : ∃ zn, zn = z.nu := ⟨_, rfl⟩
            obtain ⟨xn, hxn⟩ : ∃ xn, xn = x.nu := ⟨_, rfl⟩
            rw [← hzn] at y0
            rw [← hxn] at x0
            have q0 : (0 : Int) ≤ (p : Int) := by omega
            have q1 : (p : Int) < (n : Int) := by omega
            clear hz hz' hx' hzn hxn
            by_cases hzx : zn = xn
            · have d6 : (zn == xn) = true := by simpa using hzx
              clear hzx
              go_upto_region 12 with fail
              go_quiet (fail)
              go_wp2_with fail
              go_ret
              exact ⟨rfl, ⟨HB.out.os, HB.out.tape, HB.out.output, HB.out.size, HB.out.block⟩⟩
            · have d6 : (zn == xn) = false := by simpa using hzx
              clear hzx
              go_upto_region 12 with fail
              go_quiet (fail)
              go_wp2_with fail
              go_roundw
              case rel => exact ⟨p + 1, by go_num, by omega, Lib.hid ⟨HB.out.os, HB.out.tape, HB.out.output, HB.out.size, HB.out.block⟩⟩
              case measure => simp [intOf]; omega
          · obtain rfl : p = k := by omega
            go_wp2_with fail
            go_roundw
            case rel => exact ⟨p + 1, by go_num, by omega, HR2, HP2, HB⟩
            case measure => simp [intOf]; omega
      · have d3 : decide ((0 : Int) < (k : Int)) = true := decide_eq_true (by omega)
        have d4 : decide (0 < k) = true := decide_eq_true h0
        obtain ⟨j, hj⟩ : ∃ j, k = j + 1 := ⟨k - 1, by omega⟩
        obtain ⟨y, hy⟩ : ∃ y, l[j]? = some y := ⟨_, List.getElem?_eq_getElem (by rw [← HN.out]; omega)⟩
        have hy' : l[j]? = some ⟨y.nu, y.bo, y.ti, y.l, y.A, y.c⟩ := hy
        obtain ⟨a2, ha2, _, z0, z1, _, _, _⟩ := blcells (HY.out.below HB.out) hy' y.l.length rfl
        injection ha2 with ha2
        subst ha2
        obtain ⟨pb, hpb⟩ : ∃ pb, pb = y.bo := ⟨_, rfl⟩
        rw [← hpb] at z1
        have HPB := Lib.hid hpb
        have HYY := Lib.hid hy
        have hwj : IntKind.i64.wrap ((k : Int) - 1) = (j : Int) := by rw [IntKind.wrap_i64]; omega
        have hwj2 : (k : Int) - 1 = (j : Int) := by omega
        have p0 : (0 : Int) ≤ (j : Int) := by omega
        have p1 : (j : Int) < (n : Int) := by omega
        have HJ := Lib.hid hj
        clear z0 hy hy' hpb hj h0
        by_cases hpo : bo < pb
        · have d5 : decide (bo < pb) = true := decide_eq_true hpo
          go_upto_region 7 with fail
          go_quiet (fail)
          go_wp2_with fail
          go_ret
          exact ⟨rfl, ⟨HB.out.os, HB.out.tape, HB.out.output, HB.out.size, HB.out.block⟩⟩
        have d5 : decide (bo < pb) = false := decide_eq_false hpo
        have HP2 : Hid (∀ j x y, j + 1 < k + 1 → l[j]? = some x → l[j + 1]? = some y → x.bo ≤ y.bo) := Lib.hid (fun q u v hq hu hv => by
          rcases Nat.lt_or_ge (q + 1) k with h | h
          · exact HP.out q u v h hu hv
          · obtain rfl : q = j := by have := HJ.out; omega
            rw [HYY.out] at hu
            injection hu with hu
            subst hu
            rw [← HJ.out, HX.out] at hv
            injection hv with hv
            subst hv
            rw [← HPB.out, ← HBO.out]
            omega)
        go_upto_region 7 with fail
        go_quiet (fail)
        clear z1 hwj hwj2 p0 p1 d5 hpo
        have hBq : Below w.heap.size w (wr.drewN nq) := ⟨HB.out.os, HB.out.tape, HB.out.output, HB.out.size, HB.out.block⟩
        have HBq := Lib.hid hBq
        clear hBq c0 c1
        generalize wr.drewN nq = wz at *
        go_wp2_with fail
        go_loopw [15] (fun pv wr => ∃ p : Nat, pv = .int .i64 (p : Int) ∧ p ≤ k ∧ Hid (Below w.heap.size w wr)) (fun pv _ => k - (intOf pv).toNat)
        case atStart => exact ⟨0, rfl, Nat.zero_le _, HBq⟩
        case round =>
          clear HBq HB
          obtain ⟨p, rfl, hp, HB⟩ := hrel
          by_cases hpk : p < k
          · obtain ⟨z, hz⟩ : ∃ z, l[p]? = some z := ⟨_, List.getElem?_eq_getElem (by rw [← HN.out]; omega)⟩
            have hz' : l[p]? = some ⟨z.nu, z.bo, z.ti, z.l, z.A, z.c⟩ := hz
            obtain ⟨a3, ha3, _, y0, _, _, _, _⟩ := blcells (HY.out.below HB.out) hz' z.l.length rfl
            injection ha3 with ha3
            subst ha3
            have hx' : l[k]? = some ⟨x.nu, x.bo, x.ti, x.l, x.A, x.c⟩ := HX.out
            obtain ⟨a4, ha4, _, x0, _, _, _, _⟩ := blcells (HY.out.below HB.out) hx' x.l.length rfl
            injection ha4 with ha4
            subst ha4
            obtain ⟨zn, hzn⟩ : ∃ zn, zn = z.nu := ⟨_, rfl⟩
            obtain ⟨xn, hxn⟩ : ∃ xn, xn = x.nu := ⟨_, rfl⟩
            rw [← hzn] at y0
            rw [← hxn] at x0
            have q0 : (0 : Int) ≤ (p : Int) := by omega
            have q1 : (p : Int) < (n : Int) := by omega
            clear hz hz' hx' hzn hxn
            by_cases hzx : zn = xn
            · have d6 : (zn == xn) = true := by simpa using hzx
              clear hzx
              go_upto_region 12 with fail
              go_quiet (fail)
              go_wp2_with fail
              go_ret
              exact ⟨rfl, ⟨HB.out.os, HB.out.tape, HB.out.output, HB.out.size, HB.out.block⟩⟩
            · have d6 : (zn == xn) = false := by simpa using hzx
              clear hzx
              go_upto_region 12 with fail
              go_quiet (fail)
              go_wp2_with fail
              go_roundw
              case rel => exact ⟨p + 1, by go_num, by omega, Lib.hid ⟨HB.out.os, HB.out.tape, HB.out.output, HB.out.size, HB.out.block⟩⟩
              case measure => simp [intOf]; omega
          · obtain rfl : p = k := by omega
            go_wp2_with fail
            go_roundw
            case rel => exact ⟨p + 1, by go_num, by omega, HR2, HP2, HB⟩
            case measure => simp [intOf]; omega
    · obtain rfl : k = n := by omega
      have hpre := fun kl bm (h1 : keep ≤ kl) (h2 : budget ≤ bm) => choose_more l hnow h1 h2 (fun x hx => by
        obtain ⟨j, hj⟩ := List.getElem?_of_mem hx
        refine HR.out j x ?_ hj
        rcases Nat.lt_or_ge j l.length with h | h
        · rw [HN.out]; exact h
        · rw [List.getElem?_eq_none h] at hj; cases hj) (pair_adj (fun j x y hx hy => HP.out j x y (by
        rcases Nat.lt_or_ge (j + 1) l.length with h | h
        · rw [HN.out]; exact h
        · rw [List.getElem?_eq_none h] at hy; cases hy) hx hy))
      obtain ⟨kl, hkl⟩ : ∃ kl, kl = keep + lon := ⟨_, rfl⟩
      obtain ⟨bm, hbm⟩ : ∃ bm, bm = budget + mor := ⟨_, rfl⟩
      have HPRE := Lib.hid (hpre kl bm (by omega) (by omega))
      have hw1 : IntKind.i64.wrap (keep + lon) = kl := by rw [IntKind.wrap_i64]; omega
      have hw2 : IntKind.i64.wrap (budget + mor) = bm := by rw [IntKind.wrap_i64]; omega
      have hw3 : keep + lon = kl := hkl.symm
      have hw4 : budget + mor = bm := hbm.symm
      have CX := Lib.hid (fun (b : Int) (kp : Int) W (hW : Below w.heap.size w W) => choose_any A k c w.heap.size l now kp b W HN.out (HY.out.below hW) hW.size (by omega) HG.out.each HK.out (by omega))
      have CX1 := Lib.hid (CX.out budget keep)
      have CX2 := Lib.hid (CX.out bm kl)
      have hxl : (choose l now keep budget).length ≤ 24 := by have := choose_len l now keep budget; have := HN.out; omega
      generalize choose l now keep budget = X at *
      generalize choose l now kl bm = Y at *
      clear hpre hkl hbm CX HR HP
      go_wp2_with (first
        | (have hd := done1; clear done1; go_at_call 42; (with_reducible refine (CX2.out _ HB1.out).mono ?_); rintro e w2 ⟨v2, rfl, ho2, hb2⟩; have HO2 := Lib.hid ho2; have HO1 := Lib.hid (own_below HO1.out hb2); have HB2 := Lib.hid (HB1.out.trans (hb2.mono HB1.out.size)); clear ho2 hb2)
        | (go_at_call 42; (with_reducible refine (CX1.out _ HB.out).mono ?_); rintro e w1 ⟨v1, rfl, ho1, hb1⟩; have HO1 := Lib.hid ho1; have HB1 := Lib.hid (HB.out.trans (hb1.mono HB.out.size)); have done1 := trivial; clear ho1 hb1))
      obtain ⟨Ax, cx, hv1, _, hrx⟩ := own_rd HO1.out
      obtain ⟨Ay, cy, hv2, _, hry⟩ := own_rd HO2.out
      subst hv1
      subst hv2
      have HRX := Lib.hid hrx
      have HRY := Lib.hid hry
      have hle : Y.length ≤ X.length := HPRE.out.length_le
      have HMEM : Hid (∀ v, v ∈ Y → v ∈ X) := Lib.hid (fun v hv => HPRE.out.subset hv)
      clear hrx hry HO1 HO2 CX1 CX2 hd HG HY HK HFW HB HB1
      obtain ⟨nx, hnx⟩ : ∃ nx, nx = X.length := ⟨_, rfl⟩
      obtain ⟨ny, hny⟩ : ∃ ny, ny = Y.length := ⟨_, rfl⟩
      rw [← hnx, ← hny] at hle ⊢
      rw [← hnx] at hxl
      have HNX := Lib.hid hnx
      have HNY := Lib.hid hny
      clear hnx hny
      go_loopw [18] (fun iv wr => ∃ i : Nat, iv = .int .i64 (i : Int) ∧ i ≤ ny ∧ Hid (Below w2.heap.size w2 wr)) (fun iv _ => ny - (intOf iv).toNat)
      case atStart => exact ⟨0, rfl, Nat.zero_le _, Lib.hid (Below.refl _ _)⟩
      case round =>
        obtain ⟨i, rfl, hi, HB⟩ := hrel
        by_cases hil : i < ny
        · obtain ⟨yv, hyv⟩ : ∃ yv, Y[i]? = some yv := ⟨_, List.getElem?_eq_getElem (by rw [← HNY.out]; exact hil)⟩
          have hmem := HMEM.out yv (List.mem_of_getElem? hyv)
          obtain ⟨ax, hax, hxb, hxc⟩ := HRX.out (by rw [List.length_map, ← HNX.out]; omega)
          obtain ⟨ay, hay, hyb, hyc⟩ := HRY.out (by rw [List.length_map, ← HNY.out]; omega)
          subst hax
          subst hay
          have hyi := hyc i (.int .i64 yv) (by rw [List.getElem?_map, hyv]; rfl)
          have HYI := Lib.hid hyi
          have HXC := Lib.hid hxc
          have HM := Lib.hid hmem
          have hay2 : (ay.add i).block < w2.heap.size := by rw [block_add]; exact hyb
          have j0 : (0 : Int) ≤ (i : Int) := by omega
          have j1 : (i : Int) < (ny : Int) := by omega
          clear hyv hmem hxc hyc hyi
          go_wp2_with fail
          generalize wr = wx at *
          go_loopw [20, 19] (fun qv bv wr => ∃ (q : Nat) (b : Bool), qv = .int .i64 (q : Int) ∧ bv = .bool b ∧ q ≤ nx ∧ Hid (decide (yv ∈ X.take q) = b) ∧ Hid (Below w2.heap.size w2 wr)) (fun qv _ _ => nx - (intOf qv).toNat)
          case atStart => exact ⟨0, false, rfl, rfl, Nat.zero_le _, Lib.hid (by simp), HB⟩
          case round =>
            clear HB
            obtain ⟨q, b, rfl, rfl, hq, HD, HB⟩ := hrel
            by_cases hql : q < nx
            · obtain ⟨xv, hxv⟩ : ∃ xv, X[q]? = some xv := ⟨_, List.getElem?_eq_getElem (by rw [← HNX.out]; exact hql)⟩
              have x0 := (HB.out.cell (p := ax.add q) (by rw [block_add]; exact hxb)).trans (HXC.out q (.int .i64 xv) (by rw [List.getElem?_map, hxv]; rfl))
              have y0 := (HB.out.cell hay2).trans HYI.out
              have hst : X.take (q + 1) = X.take q ++ [xv] := by rw [List.take_add_one, hxv]; rfl
              have HST := Lib.hid hst
              have q0 : (0 : Int) ≤ (q : Int) := by omega
              have q1 : (q : Int) < (nx : Int) := by omega
              clear hxv hst
              cases b
              · by_cases hxy : xv = yv
                · have d6 : (xv == yv) = true := by simpa using hxy
                  have HD2 : Hid (decide (yv ∈ X.take (q + 1)) = true) := Lib.hid (by rw [HST.out]; simp [hxy])
                  clear hxy
                  go_upto_region 23 with fail
                  go_quiet (fail)
                  go_wp2_with fail
                  go_roundw
                  case rel => exact ⟨q + 1, true, by go_num, rfl, by omega, HD2, Lib.hid ⟨HB.out.os, HB.out.tape, HB.out.output, HB.out.size, HB.out.block⟩⟩
                  case measure => simp [intOf]; omega
                · have d6 : (xv == yv) = false := by simpa using hxy
                  have HD2 : Hid (decide (yv ∈ X.take (q + 1)) = false) := Lib.hid (by
                    have h := of_decide_eq_false HD.out
                    rw [HST.out]
                    exact decide_eq_false (fun hh => by
                      rcases List.mem_append.1 hh with h1 | h1
                      · exact h h1
                      · simp at h1; exact hxy h1.symm))
                  clear hxy
                  go_upto_region 23 with fail
                  go_quiet (fail)
                  go_wp2_with fail
                  go_roundw
                  case rel => exact ⟨q + 1, false, by go_num, rfl, by omega, HD2, Lib.hid ⟨HB.out.os, HB.out.tape, HB.out.output, HB.out.size, HB.out.block⟩⟩
                  case measure => simp [intOf]; omega
              · have HD2 : Hid (decide (yv ∈ X.take (q + 1)) = true) := Lib.hid (by
                  have h := of_decide_eq_true HD.out
                  rw [HST.out]
                  exact decide_eq_true (List.mem_append_left _ h))
                go_upto_region 23 with fail
                go_quiet (fail)
                go_wp2_with fail
                go_roundw
                case rel => exact ⟨q + 1, true, by go_num, rfl, by omega, HD2, Lib.hid ⟨HB.out.os, HB.out.tape, HB.out.output, HB.out.size, HB.out.block⟩⟩
                case measure => simp [intOf]; omega
            · obtain rfl : q = nx := by omega
              have hbt : b = true := by
                rw [← HD.out, List.take_of_length_le (by rw [← HNX.out]; exact Nat.le_refl _)]
                exact decide_eq_true HM.out
              subst hbt
              go_wp2_with fail
              go_roundw
              case rel => exact ⟨i + 1, by go_num, by omega, HB⟩
              case measure => simp [intOf]; omega
        · obtain rfl : i = ny := by omega
          have d7 : decide ((i : Int) ≤ (nx : Int)) = true := decide_eq_true (by omega)
          have d8 : decide (i ≤ nx) = true := decide_eq_true hle
          go_wp2_with fail
          go_ret
          exact ⟨rfl, HB2.out.trans (HB.out.mono HB2.out.size)⟩
end Go.Proofs.Ytchcjbapbdfhkaa
