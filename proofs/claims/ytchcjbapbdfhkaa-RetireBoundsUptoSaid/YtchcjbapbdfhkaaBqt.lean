/- RetireBounds. -/
import Derived.Test.YtchcjbapbdfhkaaBqi
import Derived.Test.YtchcjbapbdfhkaaBqs
namespace Go.Proofs.Ytchcjbapbdfhkaa
open Go.RowKit Go.Maps
set_option linter.unusedVariables false
set_option linter.unusedSimpArgs false
set_option maxRecDepth 100000

theorem mAt_min (l : List Hd) : ∀ k, k ≤ l.length → ∀ j, j < k → ∀ b m, l[j]? = some b → l[mAt l k]? = some m → m.bo ≤ b.bo
  | 0, _, j, hj, _, _, _, _ => by omega
  | k + 1, hk, j, hj, b, m, hb, hm => by
    have hlt := mAt_lt l k (by omega) (by omega)
    have h1 : l[k]? = some l[k] := List.getElem?_eq_getElem (by omega)
    have h2 : l[mAt l k]? = some l[mAt l k] := List.getElem?_eq_getElem hlt
    have hs := mAt_step h1 h2
    rw [hs] at hm
    by_cases hc : l[k].bo < l[mAt l k].bo
    · rw [if_pos hc, h1] at hm
      injection hm with hm
      rcases Nat.lt_or_ge j k with h | h
      · have := mAt_min l k (by omega) j h b _ hb h2
        rw [← hm]; omega
      · obtain rfl : j = k := by omega
        rw [h1] at hb
        injection hb with hb
        rw [← hm, ← hb]
        exact Int.le_refl _
    · rw [if_neg hc, h2] at hm
      injection hm with hm
      rcases Nat.lt_or_ge j k with h | h
      · have := mAt_min l k (by omega) j h b _ hb h2
        rw [← hm]; exact this
      · obtain rfl : j = k := by omega
        rw [h1] at hb
        injection hb with hb
        rw [← hm, ← hb]
        omega
def rmv (v : Int) (S : List Bl) : List Bl := S.filter fun x => x.nu != v
inductive Run (now keep budget : Int) : List Bl → List Int → Prop
  | nil {S : List Bl} (h1 : ∀ y ∈ S, ¬ keep < now - y.bo) (h2 : S.length < 2 ∨ (totH (S.map Bl.hd) : Int) ≤ budget) : Run now keep budget S []
  | cons {S : List Bl} {v : Int} {vs : List Int} (x : Bl) (hx : x ∈ S) (hv : x.nu = v) (h : keep < now - x.bo ∨ ((∀ y ∈ S, x.bo ≤ y.bo) ∧ budget < (totH (S.map Bl.hd) : Int) ∧ 2 ≤ S.length)) (hr : Run now keep budget (rmv v S) vs) : Run now keep budget S (v :: vs)
theorem nu_inj : ∀ {S : List Bl}, (S.map Bl.nu).Nodup → ∀ x ∈ S, ∀ y ∈ S, x.nu = y.nu → x = y
  | [], _, x, hx, _, _, _ => by cases hx
  | a :: r, h, x, hx, y, hy, e => by
    rw [List.map_cons, List.nodup_cons] at h
    rcases List.mem_cons.1 hx with hx1 | hx1
    · rcases List.mem_cons.1 hy with hy1 | hy1
      · rw [hx1, hy1]
      · exact absurd (by rw [← hx1, e]; exact List.mem_map_of_mem hy1) h.1
    · rcases List.mem_cons.1 hy with hy1 | hy1
      · exact absurd (by rw [← hy1, ← e]; exact List.mem_map_of_mem hx1) h.1
      · exact nu_inj h.2 x hx1 y hy1 e
theorem rmv_none {v : Int} {S : List Bl} (h : ∀ y ∈ S, y.nu ≠ v) : rmv v S = S := by
  unfold rmv
  exact List.filter_eq_self.2 (fun y hy => by simpa using h y hy)
theorem rm_erase : ∀ {S : List Bl} {p : Nat} {x : Bl}, (S.map Bl.nu).Nodup → S[p]? = some x → rmv x.nu S = S.eraseIdx p
  | [], p, x, _, h => by simp at h
  | y :: r, 0, x, hn, h => by
    simp only [List.getElem?_cons_zero, Option.some.injEq] at h
    subst h
    rw [List.map_cons, List.nodup_cons] at hn
    have h1 := rmv_none (v := y.nu) (S := r) (fun z hz e => hn.1 (by rw [← e]; exact List.mem_map_of_mem hz))
    unfold rmv at h1 ⊢
    rw [List.filter_cons_of_neg (by simp), h1]
    rfl
  | y :: r, p + 1, x, hn, h => by
    rw [List.map_cons, List.nodup_cons] at hn
    have hx : r[p]? = some x := by simpa using h
    have hne : y.nu ≠ x.nu := fun e => hn.1 (by rw [e]; exact List.mem_map_of_mem (List.mem_of_getElem? hx))
    have ih := rm_erase hn.2 hx
    unfold rmv at ih ⊢
    rw [List.filter_cons_of_pos (by simpa using hne), ih]
    rfl
theorem rmv_nodup {v : Int} {S : List Bl} (h : (S.map Bl.nu).Nodup) : ((rmv v S).map Bl.nu).Nodup := List.Nodup.sublist (List.Sublist.map _ List.filter_sublist) h
theorem rmv_mem {v : Int} {S : List Bl} {y : Bl} (h : y ∈ rmv v S) : y ∈ S := (List.mem_filter.1 h).1
theorem run_go {now keep budget : Int} : ∀ (f : Nat) (S : List Bl), S.length = f → (S.map Bl.nu).Nodup → (∀ y ∈ S, ¬ keep < now - y.bo) → Run now keep budget S (letGo budget f (S.map Bl.hd))
  | 0, S, hf, _, hy => Run.nil hy (.inl (by omega))
  | f + 1, S, hf, hn, hy => by
    by_cases hc : budget < (totH (S.map Bl.hd) : Int) ∧ 1 < (S.map Bl.hd).length
    · have hl : (S.map Bl.hd).length = f + 1 := by rw [List.length_map, hf]
      have hml : minAt (S.map Bl.hd) < S.length := by
        have := mAt_lt (S.map Bl.hd) _ (Nat.le_refl _) (by omega)
        rw [List.length_map] at this
        unfold minAt
        rw [List.length_map]
        exact this
      obtain ⟨p, hp⟩ : ∃ p, p = minAt (S.map Bl.hd) := ⟨_, rfl⟩
      rw [← hp] at hml
      obtain ⟨x, hx⟩ : ∃ x, S[p]? = some x := ⟨_, List.getElem?_eq_getElem hml⟩
      have hm : (S.map Bl.hd)[minAt (S.map Bl.hd)]? = some x.hd := by rw [← hp, List.getElem?_map, hx]; rfl
      rw [letGo_go hc.1 hc.2 hm, ← hp, erase_map, ← rm_erase hn hx]
      refine Run.cons x (List.mem_of_getElem? hx) rfl (.inr ⟨fun y hyS => ?_, hc.1, by omega⟩) (run_go f _ ?_ (rmv_nodup hn) (fun y h => hy y (rmv_mem h)))
      · obtain ⟨j, hj⟩ := List.getElem?_of_mem hyS
        have hjl : j < S.length := by
          rcases Nat.lt_or_ge j S.length with h | h
          · exact h
          · rw [List.getElem?_eq_none h] at hj; cases hj
        exact mAt_min (S.map Bl.hd) (S.map Bl.hd).length (Nat.le_refl _) j (by rw [List.length_map]; exact hjl) y.hd x.hd (by rw [List.getElem?_map, hj]; rfl) hm
      · show (rmv x.nu S).length = f
        rw [rm_erase hn hx, List.length_eraseIdx_of_lt hml]
        omega
    · rw [letGo_stop hc]
      refine Run.nil hy ?_
      rw [List.length_map] at hc
      by_cases h1 : 1 < S.length
      · right
        by_cases h2 : budget < (totH (S.map Bl.hd) : Int)
        · exact absurd ⟨h2, h1⟩ hc
        · omega
      · left; omega
theorem old_iff {now keep : Int} (hn : 0 ≤ now ∧ now ≤ 1099511627776) {y : Bl} (hb : 0 ≤ y.bo ∧ y.bo ≤ 1099511627776) : tooOld now keep y = decide (keep < now - y.bo) := by
  unfold tooOld satR
  rw [if_neg (by omega), if_neg (by omega)]
theorem fil_comm {α : Type} (f g : α → Bool) (l : List α) : (l.filter f).filter g = (l.filter g).filter f := by
  rw [List.filter_filter, List.filter_filter]
  congr 1
  funext x
  exact Bool.and_comm _ _
theorem run_all {now keep budget : Int} (hnow : 0 ≤ now ∧ now ≤ 1099511627776) : ∀ (o S : List Bl), S.filter (tooOld now keep) = o → (S.map Bl.nu).Nodup → (∀ y ∈ S, 0 ≤ y.bo ∧ y.bo ≤ 1099511627776) → Run now keep budget S (o.map Bl.nu ++ letGo budget (S.filter fun x => !tooOld now keep x).length ((S.filter fun x => !tooOld now keep x).map Bl.hd))
  | [], S, ho, hn, hb => by
    have h1 : ∀ y ∈ S, tooOld now keep y = false := fun y hy => by
      have := List.filter_eq_nil_iff.1 ho y hy
      simpa using this
    have h2 : S.filter (fun x => !tooOld now keep x) = S := List.filter_eq_self.2 (fun y hy => by rw [h1 y hy]; rfl)
    rw [h2]
    exact run_go _ S rfl hn (fun y hy => by
      have h3 := h1 y hy
      rw [old_iff hnow (hb y hy)] at h3
      exact of_decide_eq_false h3)
  | x :: r, S, ho, hn, hb => by
    have hxf : x ∈ S.filter (tooOld now keep) := by rw [ho]; exact List.mem_cons_self ..
    obtain ⟨hx, hxo⟩ := List.mem_filter.1 hxf
    have hno : ((x :: r).map Bl.nu).Nodup := by rw [← ho]; exact List.Nodup.sublist (List.Sublist.map _ List.filter_sublist) hn
    rw [List.map_cons, List.nodup_cons] at hno
    have e1 : (rmv x.nu S).filter (tooOld now keep) = r := by
      unfold rmv
      rw [fil_comm, ho, List.filter_cons_of_neg (by simp)]
      exact rmv_none (fun z hz e => hno.1 (by rw [← e]; exact List.mem_map_of_mem hz))
    have e2 : (rmv x.nu S).filter (fun x => !tooOld now keep x) = S.filter fun x => !tooOld now keep x := by
      unfold rmv
      rw [fil_comm]
      refine rmv_none (fun z hz e => ?_)
      obtain ⟨hz1, hz2⟩ := List.mem_filter.1 hz
      have := nu_inj hn z hz1 x hx e
      subst this
      rw [hxo] at hz2
      cases hz2
    have ih := run_all (budget := budget) hnow r (rmv x.nu S) e1 (rmv_nodup hn) (fun y hy => hb y (rmv_mem hy))
    rw [e2] at ih
    refine Run.cons x hx rfl (.inl ?_) ih
    rw [old_iff hnow (hb x hx)] at hxo
    exact of_decide_eq_true hxo
theorem choose_run {now keep budget : Int} (hnow : 0 ≤ now ∧ now ≤ 1099511627776) {l : List Bl} (hn : (l.map Bl.nu).Nodup) (hb : ∀ y ∈ l, 0 ≤ y.bo ∧ y.bo ≤ 1099511627776) : Run now keep budget l (choose l now keep budget) := by
  have h := run_all (budget := budget) (keep := keep) hnow _ l rfl hn hb
  unfold choose goneL othL
  rw [List.length_map]
  exact h
theorem nodup_of {l : List Bl} (h : ∀ (j p : Nat) (x z : Bl), p < j → l[j]? = some x → l[p]? = some z → z.nu ≠ x.nu) : (l.map Bl.nu).Nodup := by
  unfold List.Nodup
  rw [List.pairwise_map, List.pairwise_iff_getElem]
  intro i j hi hj hij
  exact h j i _ _ hij (List.getElem?_eq_getElem hj) (List.getElem?_eq_getElem hi)
theorem rmv_step {v : Int} {S : List Bl} {k : Nat} {x : Bl} (h : S[k]? = some x) : rmv v (S.take (k + 1)) = if x.nu = v then rmv v (S.take k) else rmv v (S.take k) ++ [x] := by
  unfold rmv
  rw [List.take_add_one, h, List.filter_append]
  by_cases e : x.nu = v
  · rw [if_pos e]; simp [e]
  · rw [if_neg e]; simp [e]
def allGe (xb : Int) (S : List Bl) : Bool := S.all fun z => decide (xb ≤ z.bo)
theorem allGe_app (xb : Int) (S : List Bl) (z : Bl) : allGe xb (S ++ [z]) = (allGe xb S && decide (xb ≤ z.bo)) := by
  unfold allGe
  simp
theorem allGe_of {xb : Int} {S : List Bl} (h : ∀ z ∈ S, xb ≤ z.bo) : allGe xb S = true := by
  unfold allGe
  exact List.all_eq_true.2 (fun z hz => decide_eq_true (h z hz))
def AtOf (v at_ : Int) (S : List Bl) (k : Nat) : Prop := (at_ = -1 ∧ ∀ y ∈ S.take k, y.nu ≠ v) ∨ ∃ p y, p < k ∧ S[p]? = some y ∧ y.nu = v ∧ at_ = (p : Int)
set_option maxHeartbeats 32000000 in
theorem bounds20 (A : Option Addr) (l : List Bl) (n c : Nat) (now keep budget : Int) (w : World) (hn : n = l.length) (hy : RdBls w w.heap.size A l) (hok : ∀ x ∈ l, x.ok) (hb : ∀ x ∈ l, x.l.length ≤ 1048576) :
    Calls Try.prog 12 #[.slice A n c, .int .i64 now, .int .i64 keep, .int .i64 budget] w fun e w' => e = .returned (.bool true) ∧ Below w.heap.size w w' := by
  have HFW := Lib.hid (fun W (hW : Below w.heap.size w W) => few19_any A l n c w.heap.size W hn (hy.below hW) hok hW.size hb)
  have HN := Lib.hid hn
  have HY := Lib.hid hy
  have HK := Lib.hid hok
  clear hn hy hok hb
  by_cases h0 : now < 0
  · have e0 : decide (now < 0) = true := decide_eq_true h0
    go_enter Try.func12, Try.ntmps12
    go_wp2_with fail
    refine (alive20_calls _).mono ?_
    rintro e w0 ⟨rfl, hb0⟩
    have HB0 := Lib.hid hb0
    clear hb0
    go_wp2_with fail
    refine (HFW.out w0 HB0.out).mono ?_
    rintro e w1 ⟨fb, rfl, hfb, hb1⟩
    have HB1 := Lib.hid (HB0.out.trans (hb1.mono HB0.out.size))
    have HGD := Lib.hid hfb
    clear hb1 hfb
    cases fb
    · go_wp2_with fail
      go_ret
      exact ⟨rfl, HB1.out⟩
    go_wp2_with fail
    go_ret
    exact ⟨rfl, HB1.out⟩
  have e0 : decide (now < 0) = false := decide_eq_false h0
  by_cases h1 : 1099511627776 < now
  · have e1 : decide (1099511627776 < now) = true := decide_eq_true h1
    go_enter Try.func12, Try.ntmps12
    go_wp2_with fail
    refine (alive20_calls _).mono ?_
    rintro e w0 ⟨rfl, hb0⟩
    have HB0 := Lib.hid hb0
    clear hb0
    go_wp2_with fail
    refine (HFW.out w0 HB0.out).mono ?_
    rintro e w1 ⟨fb, rfl, hfb, hb1⟩
    have HB1 := Lib.hid (HB0.out.trans (hb1.mono HB0.out.size))
    have HGD := Lib.hid hfb
    clear hb1 hfb
    cases fb
    · go_wp2_with fail
      go_ret
      exact ⟨rfl, HB1.out⟩
    go_wp2_with fail
    go_ret
    exact ⟨rfl, HB1.out⟩
  have e1 : decide (1099511627776 < now) = false := decide_eq_false h1
  by_cases h2 : keep < 0
  · have e2 : decide (keep < 0) = true := decide_eq_true h2
    go_enter Try.func12, Try.ntmps12
    go_wp2_with fail
    refine (alive20_calls _).mono ?_
    rintro e w0 ⟨rfl, hb0⟩
    have HB0 := Lib.hid hb0
    clear hb0
    go_wp2_with fail
    refine (HFW.out w0 HB0.out).mono ?_
    rintro e w1 ⟨fb, rfl, hfb, hb1⟩
    have HB1 := Lib.hid (HB0.out.trans (hb1.mono HB0.out.size))
    have HGD := Lib.hid hfb
    clear hb1 hfb
    cases fb
    · go_wp2_with fail
      go_ret
      exact ⟨rfl, HB1.out⟩
    go_wp2_with fail
    go_ret
    exact ⟨rfl, HB1.out⟩
  have e2 : decide (keep < 0) = false := decide_eq_false h2
  by_cases h3 : 1073741824 < keep
  · have e3 : decide (1073741824 < keep) = true := decide_eq_true h3
    go_enter Try.func12, Try.ntmps12
    go_wp2_with fail
    refine (alive20_calls _).mono ?_
    rintro e w0 ⟨rfl, hb0⟩
    have HB0 := Lib.hid hb0
    clear hb0
    go_wp2_with fail
    refine (HFW.out w0 HB0.out).mono ?_
    rintro e w1 ⟨fb, rfl, hfb, hb1⟩
    have HB1 := Lib.hid (HB0.out.trans (hb1.mono HB0.out.size))
    have HGD := Lib.hid hfb
    clear hb1 hfb
    cases fb
    · go_wp2_with fail
      go_ret
      exact ⟨rfl, HB1.out⟩
    go_wp2_with fail
    go_ret
    exact ⟨rfl, HB1.out⟩
  have e3 : decide (1073741824 < keep) = false := decide_eq_false h3
  have hnow : 0 ≤ now ∧ now ≤ 1099511627776 := by omega
  have hkeep : 0 ≤ keep ∧ keep ≤ 1073741824 := by omega
  clear h0 h1 h2 h3
  go_enter Try.func12, Try.ntmps12
  go_wp2_with fail
  refine (alive20_calls _).mono ?_
  rintro e w0 ⟨rfl, hb0⟩
  have HB0 := Lib.hid hb0
  clear hb0
  go_wp2_with fail
  refine (HFW.out w0 HB0.out).mono ?_
  rintro e w1 ⟨fb, rfl, hfb, hb1⟩
  have HB1 := Lib.hid (HB0.out.trans (hb1.mono HB0.out.size))
  have HGD := Lib.hid hfb
  clear hb1 hfb
  cases fb
  · go_wp2_with fail
    go_ret
    exact ⟨rfl, HB1.out⟩
  have HG := Lib.hid (HGD.out (by first | rfl | trivial))
  have hn12 : n ≤ 12 := by rw [HN.out]; exact HG.out.1
  clear HGD
  go_wp2_with fail
  go_loopw [10] (fun iv wr => ∃ k : Nat, iv = .int .i64 (k : Int) ∧ k ≤ n ∧ Hid (∀ j x, j < k → l[j]? = some x → 0 ≤ x.bo ∧ x.bo ≤ 1099511627776) ∧ Hid (∀ j p x z, j < k → p < j → l[j]? = some x → l[p]? = some z → z.nu ≠ x.nu) ∧ Hid (Below w.heap.size w wr)) (fun iv _ => n - (intOf iv).toNat)
  case atStart => exact ⟨0, rfl, Nat.zero_le _, Lib.hid (fun j x h => by omega), Lib.hid (fun j p x z h => by omega), HB1⟩
  case round =>
    clear HB1
    obtain ⟨k, rfl, hk, HR, HP, HB⟩ := hrel
    by_cases hlt : k < n
    · obtain ⟨x, hx⟩ : ∃ x, l[k]? = some x := ⟨_, List.getElem?_eq_getElem (by rw [← HN.out]; exact hlt)⟩
      have hx' : l[k]? = some ⟨x.nu, x.bo, x.ti, x.l, x.A, x.c⟩ := hx
      obtain ⟨a, ha, hab, c0, c1, c2, c3, _⟩ := blcells (HY.out.below HB.out) hx' x.l.length rfl
      subst ha
      have HX := Lib.hid hx
      obtain ⟨bo, hbo⟩ : ∃ bo, bo = x.bo := ⟨_, rfl⟩
      rw [← hbo] at c1
      have HBO := Lib.hid hbo
      have i0 : (0 : Int) ≤ (k : Int) := by omega
      have i1 : (k : Int) < (n : Int) := by omega
      clear c0 c2 c3 hx hx' hbo
      by_cases hb1 : bo < 0
      · have d1 : decide (bo < 0) = true := decide_eq_true hb1
        clear hb1
        go_wp2_with fail
        go_ret
        exact ⟨rfl, HB.out⟩
      have d1 : decide (bo < 0) = false := decide_eq_false hb1
      by_cases hb2 : 1099511627776 < bo
      · have d2 : decide (1099511627776 < bo) = true := decide_eq_true hb2
        clear hb1 hb2
        go_wp2_with fail
        go_ret
        exact ⟨rfl, HB.out⟩
      have d2 : decide (1099511627776 < bo) = false := decide_eq_false hb2
      have HR2 : Hid (∀ j x, j < k + 1 → l[j]? = some x → 0 ≤ x.bo ∧ x.bo ≤ 1099511627776) := Lib.hid (fun j y hj hy => by
        rcases Nat.lt_or_ge j k with h | h
        · exact HR.out j y h hy
        · obtain rfl : j = k := by omega
          rw [HX.out] at hy
          injection hy with hy
          subst hy
          rw [← HBO.out]
          omega)
      clear hb1 hb2
      go_wp2_with fail
      clear c1
      generalize wr = wx at *
      go_loopw [11] (fun pv wr => ∃ p : Nat, pv = .int .i64 (p : Int) ∧ p ≤ k ∧ Hid (∀ q z, q < p → l[q]? = some z → z.nu ≠ x.nu) ∧ Hid (Below w.heap.size w wr)) (fun pv _ => k - (intOf pv).toNat)
      case atStart => exact ⟨0, rfl, Nat.zero_le _, Lib.hid (fun q z h => by omega), HB⟩
      case round =>
        clear HB
        obtain ⟨p, rfl, hp, HQ, HB⟩ := hrel
        by_cases hpk : p < k
        · obtain ⟨z, hz⟩ : ∃ z, l[p]? = some z := ⟨_, List.getElem?_eq_getElem (by rw [← HN.out]; omega)⟩
          have HZ := Lib.hid hz
          have hz' : l[p]? = some ⟨z.nu, z.bo, z.ti, z.l, z.A, z.c⟩ := hz
          obtain ⟨a3, ha3, _, y0, _, _, _, _⟩ := blcells (HY.out.below HB.out) hz' z.l.length rfl
          injection ha3 with ha3
          subst ha3
          have hx' : l[k]? = some ⟨x.nu, x.bo, x.ti, x.l, x.A, x.c⟩ := HX.out
          obtain ⟨a4, ha4, _, x0, _, _, _, _⟩ := blcells (HY.out.below HB.out) hx' x.l.length rfl
          injection ha4 with ha4
          subst ha4
          obtain ⟨zn, hzn⟩ : ∃ zn, zn = z.nu := ⟨_, rfl⟩
          obtain ⟨xn, hxn⟩ : ∃ xn, xn = x.nu := ⟨_, rfl⟩
          have HZX := Lib.hid (And.intro hzn hxn)
          rw [← hzn] at y0
          rw [← hxn] at x0
          have q0 : (0 : Int) ≤ (p : Int) := by omega
          have q1 : (p : Int) < (n : Int) := by omega
          clear hz hz' hx' hzn hxn
          by_cases hzx : zn = xn
          · have d6 : (zn == xn) = true := by simpa using hzx
            clear hzx
            go_upto_region 12 with fail
            go_quiet (fail)
            go_wp2_with fail
            go_ret
            exact ⟨rfl, ⟨HB.out.os, HB.out.tape, HB.out.output, HB.out.size, HB.out.block⟩⟩
          · have d6 : (zn == xn) = false := by simpa using hzx
            have HQ2 : Hid (∀ q z, q < p + 1 → l[q]? = some z → z.nu ≠ x.nu) := Lib.hid (fun q u hq hu => by
              rcases Nat.lt_or_ge q p with h | h
              · exact HQ.out q u h hu
              · obtain rfl : q = p := by omega
                rw [HZ.out] at hu
                injection hu with hu
                subst hu
                rw [← HZX.out.1, ← HZX.out.2]
                exact hzx)
            clear hzx
            go_upto_region 12 with fail
            go_quiet (fail)
            go_wp2_with fail
            go_roundw
            case rel => exact ⟨p + 1, by go_num, by omega, HQ2, Lib.hid ⟨HB.out.os, HB.out.tape, HB.out.output, HB.out.size, HB.out.block⟩⟩
            case measure => simp [intOf]; omega
        · obtain rfl : p = k := by omega
          have HP2 : Hid (∀ j q x z, j < p + 1 → q < j → l[j]? = some x → l[q]? = some z → z.nu ≠ x.nu) := Lib.hid (fun j q u z hj hq hu hz => by
            rcases Nat.lt_or_ge j p with h | h
            · exact HP.out j q u z h hq hu hz
            · obtain rfl : j = p := by omega
              rw [HX.out] at hu
              injection hu with hu
              subst hu
              exact HQ.out q z hq hz)
          go_wp2_with fail
          go_roundw
          case rel => exact ⟨p + 1, by go_num, by omega, HR2, HP2, HB⟩
          case measure => simp [intOf]; omega
    · obtain rfl : k = n := by omega
      have hlk : ∀ j x, l[j]? = some x → j < k := fun j x hj => by
        rcases Nat.lt_or_ge j l.length with h | h
        · rw [HN.out]; exact h
        · rw [List.getElem?_eq_none h] at hj; cases hj
      have HBD : Hid (∀ y ∈ l, 0 ≤ y.bo ∧ y.bo ≤ 1099511627776) := Lib.hid (fun y hy => by
        obtain ⟨j, hj⟩ := List.getElem?_of_mem hy
        exact HR.out j y (hlk j y hj) hj)
      have hnd := nodup_of (fun j p x z hp hx hz => HP.out j p x z (hlk j x hx) hp hx hz)
      have hrun := choose_run (keep := keep) (budget := budget) hnow hnd HBD.out
      have HND := Lib.hid hnd
      have CX := Lib.hid (choose_any A k c w.heap.size l now keep budget wr HN.out (HY.out.below HB.out) HB.out.size (by omega) HG.out.each HK.out (by omega))
      have hxl : (choose l now keep budget).length ≤ 24 := by have := choose_len20 l now keep budget; have := HN.out; omega
      generalize choose l now keep budget = X at *
      obtain ⟨nx, hnx⟩ : ∃ nx, nx = X.length := ⟨_, rfl⟩
      rw [← hnx] at hxl
      have HNX := Lib.hid hnx
      have HRUN : Hid (Run now keep budget l (X.drop 0)) := Lib.hid hrun
      clear hnx hlk hrun hnd HR HP HFW
      go_wp2_with (go_at_call 42; (with_reducible refine CX.out.mono ?_); rintro e w2 ⟨v2, rfl, ho2, hb2⟩; obtain ⟨Ax, cx, hv2, _, hrx⟩ := own_rd ho2; rw [← HNX.out] at hv2; subst hv2; have HRX := Lib.hid hrx; have HB2 := Lib.hid (HB.out.trans (hb2.mono HB.out.size)); have HYS := Lib.hid ((HY.out.below HB2.out).more HB2.out.size); clear ho2 hb2 hrx)
      go_loopw [14, 13] (fun iv lv wr => ∃ (i : Nat) (S : List Bl) (As : Option Addr) (cs q : Nat), iv = .int .i64 (i : Int) ∧ lv = .slice As q cs ∧ i ≤ nx ∧ q ≤ k ∧ Hid (q = S.length ∧ (∀ y ∈ S, y ∈ l) ∧ (S.map Bl.nu).Nodup) ∧ Hid (Run now keep budget S (X.drop i)) ∧ Hid (RdBls wr wr.heap.size As S) ∧ Hid (Below w2.heap.size w2 wr)) (fun iv _ _ => nx - (intOf iv).toNat)
      case atStart => exact ⟨0, l, A, c, k, rfl, rfl, Nat.zero_le _, Nat.le_refl _, Lib.hid ⟨HN.out, fun _ h => h, HND.out⟩, HRUN, HYS, Lib.hid (Below.refl _ _)⟩
      case round =>
        clear HRUN HYS HB
        obtain ⟨i, S, As, cs, q, rfl, rfl, hi, hqk, HS, HRUN, HRS, HB⟩ := hrel
        have TOT := Lib.hid (fun W (hW : Below wr.heap.size wr W) => dtotal_any As q cs wr.heap.size S W HS.out.1 (HRS.out.below hW) hW.size (by omega) (fun x hx => HG.out.each x (HS.out.2.1 x hx)) (fun x hx => HK.out x (HS.out.2.1 x hx)))
        by_cases hil : i < nx
        · obtain ⟨v, hv⟩ : ∃ v, X[i]? = some v := ⟨_, List.getElem?_eq_getElem (by rw [← HNX.out]; exact hil)⟩
          have hdr : X.drop i = v :: X.drop (i + 1) := by
            rw [List.drop_eq_getElem_cons (by rw [← HNX.out]; exact hil)]
            congr 1
            rw [List.getElem?_eq_getElem (by rw [← HNX.out]; exact hil)] at hv
            injection hv
          have hru := HRUN.out
          rw [hdr] at hru
          obtain ⟨x, hxS, hxv, hxh, HRN⟩ : ∃ x, x ∈ S ∧ x.nu = v ∧ (keep < now - x.bo ∨ ((∀ y ∈ S, x.bo ≤ y.bo) ∧ budget < (totH (S.map Bl.hd) : Int) ∧ 2 ≤ S.length)) ∧ Hid (Run now keep budget (rmv v S) (X.drop (i + 1))) := by
            cases hru with
            | cons x a b c d => exact ⟨x, a, b, c, Lib.hid d⟩
          obtain ⟨ax, hax, hxb, hxc⟩ := HRX.out (by rw [List.length_map, ← HNX.out]; omega)
          subst hax
          have HV : Hid (w2.cell? (ax.add i) = some (.int .i64 v)) := Lib.hid (hxc i (.int .i64 v) (by rw [List.getElem?_map, hv]; rfl))
          have hxb2 : (ax.add i).block < w2.heap.size := by rw [block_add]; exact hxb
          have HXS := Lib.hid hxS
          have HXV := Lib.hid hxv
          have HXH := Lib.hid hxh
          have i0 : (0 : Int) ≤ (i : Int) := by omega
          have i1 : (i : Int) < (nx : Int) := by omega
          have hw2r := HB.out.size
          clear hv hdr hru hxS hxv hxh hxc HRUN
          go_wp2_with fail
          generalize wr = wx at *
          go_loopw [18, 15, 16] (fun kv mv av wz => ∃ (j : Nat) (at_ : Int), kv = .int .i64 (j : Int) ∧ av = .int .i64 at_ ∧ j ≤ q ∧ -1 ≤ at_ ∧ at_ < (j : Int) ∧ Hid (AtOf v at_ S j) ∧ Hid (wz.ownsRow wx.heap.size 24 4 mv (rmv v (S.take j)).length ((rmv v (S.take j)).flatMap Bl.cells)) ∧ Hid (Below wx.heap.size wx wz)) (fun kv _ _ _ => q - (intOf kv).toNat)
          case atStart => exact ⟨0, -1, rfl, rfl, Nat.zero_le _, by omega, by omega, Lib.hid (.inl ⟨rfl, fun y h => by simp at h⟩), Lib.hid (World.ownsRow_nil _ _ _ _), Lib.hid (Below.refl _ _)⟩
          case round =>
            obtain ⟨j, at_, rfl, rfl, hj, ha1, ha2, HAT, HM, HZ⟩ := hrel
            have hzs := HZ.out.size
            have hml : (rmv v (S.take j)).length ≤ 12 := by
              have h1 : (rmv v (S.take j)).length ≤ (S.take j).length := List.length_filter_le _ _
              rw [List.length_take] at h1
              omega
            by_cases hjl : j < q
            · obtain ⟨y, hy⟩ : ∃ y, S[j]? = some y := ⟨_, List.getElem?_eq_getElem (by rw [← HS.out.1]; exact hjl)⟩
              have hRz := HRS.out.below HZ.out
              have hst := rmv_step (v := v) hy
              obtain ⟨nu, bo, ti, es, eA, ec⟩ := y
              have HYJ := Lib.hid hy
              obtain ⟨m, hm⟩ : ∃ m, m = es.length := ⟨_, rfl⟩
              obtain ⟨az, haz, hab, c0, c1, c2, c3, hre⟩ := blcells hRz hy m hm
              subst haz
              have x0 := (HZ.out.cell (p := ax.add i) (by omega)).trans ((HB.out.cell hxb2).trans HV.out)
              have k0 : (0 : Int) ≤ (j : Int) := by omega
              have k1 : (j : Int) < (q : Int) := by omega
              simp only at hst
              by_cases e : nu = v
              · have d6 : (nu == v) = true := by simpa using e
                rw [if_pos e] at hst
                have HST := Lib.hid hst
                have HA2 : Hid (AtOf v (j : Int) S (j + 1)) := Lib.hid (.inr ⟨j, _, by omega, HYJ.out, e, rfl⟩)
                clear hst hy hRz hm hre c1 c2 c3 e
                go_upto_region 25 with fail
                go_quiet (fail)
                go_wp2_with fail
                go_roundw
                case rel => exact ⟨j + 1, (j : Int), by go_num, rfl, by omega, by omega, by omega, HA2, Lib.hid (by rw [HST.out]; exact HM.out), Lib.hid ⟨HZ.out.os, HZ.out.tape, HZ.out.output, HZ.out.size, HZ.out.block⟩⟩
                case measure => simp [intOf]; omega
              · have d6 : (nu == v) = false := by simpa using e
                rw [if_neg e] at hst
                have HST := Lib.hid hst
                have HA2 : Hid (AtOf v at_ S (j + 1)) := Lib.hid (by
                  rcases HAT.out with ⟨h1, h2⟩ | ⟨p, y, h1, h2, h3, h4⟩
                  · refine .inl ⟨h1, fun y hy => ?_⟩
                    rw [List.take_add_one, HYJ.out] at hy
                    rcases List.mem_append.1 hy with h | h
                    · exact h2 y h
                    · simp at h
                      subst h
                      exact e
                  · exact .inr ⟨p, y, by omega, h2, h3, h4⟩)
                clear hst hy e HYJ
                go_upto_region 25 with fail
                go_quiet (fail)
                have HMq : Hid ((wr.drewN nq).ownsRow wx.heap.size 24 4 u15 (rmv v (S.take j)).length ((rmv v (S.take j)).flatMap Bl.cells)) := Lib.hid HM.out
                have HZq : Hid (Below wx.heap.size wx (wr.drewN nq)) := Lib.hid ⟨HZ.out.os, HZ.out.tape, HZ.out.output, HZ.out.size, HZ.out.block⟩
                have hzq : wx.heap.size ≤ (wr.drewN nq).heap.size := hzs
                have b0 : (wr.drewN nq).cell? (az.add (j * 4)) = _ := c0
                have b1 : (wr.drewN nq).cell? ⟨(az.add (j * 4)).block, (az.add (j * 4)).off + 1, none⟩ = _ := c1
                have b2 : (wr.drewN nq).cell? ⟨(az.add (j * 4)).block, (az.add (j * 4)).off + 2, none⟩ = _ := c2
                have b3 : (wr.drewN nq).cell? ⟨(az.add (j * 4)).block, (az.add (j * 4)).off + 3, none⟩ = _ := c3
                clear c0 c1 c2 c3 HM HZ x0 hRz hre
                generalize wr.drewN nq = wq at *
                have hBL := (Below.refl wq.heap.size wq).alloc (Nat.le_refl _) (.cells #[.int .i64 nu, .int .i64 bo, .int .i64 ti, .slice eA m ec] 24)
                have HM2 := Lib.hid (own_below HMq.out hBL)
                have HZ2 := Lib.hid (HZq.out.trans (hBL.mono hzq))
                have APO := Lib.hid (fun ty => appBl1 (ty := ty) HM2.out ⟨nu, bo, ti, es, eA, ec⟩ (by have h := Rd.lit wq #[.int .i64 nu, .int .i64 bo, .int .i64 ti, .slice eA m ec] 24; rw [hm] at h ⊢; exact h) (by omega) (by simp; omega))
                clear hm hBL
                go_wp2_with (at_builtin; (refine wpList_app rfl (.tmp 112) (.tmp 117) _ _ rfl rfl rfl (APO.out _) ?_); rintro v9 w9 ⟨ho9, hg9⟩; have HM9 := Lib.hid ho9; have HZ9 := Lib.hid (hg9.below HZ2.out (by simp; omega) (own_block_ge HM2.out)); clear ho9 hg9)
                go_roundw
                case rel => exact ⟨j + 1, at_, by go_num, rfl, by omega, by omega, by omega, HA2, Lib.hid (by rw [HST.out]; exact HM9.out), HZ9⟩
                case measure => simp [intOf]; omega
            · obtain rfl : j = q := by omega
              have htk : S.take j = S := List.take_of_length_le (by rw [← HS.out.1]; exact Nat.le_refl _)
              obtain ⟨p, y, hp, hyp, hyv, rfl⟩ : ∃ p y, p < j ∧ S[p]? = some y ∧ y.nu = v ∧ at_ = (p : Int) := by
                rcases HAT.out with ⟨_, h2⟩ | h
                · rw [htk] at h2
                  exact absurd HXV.out (h2 x HXS.out)
                · exact h
              obtain rfl : y = x := nu_inj HS.out.2.2 y (List.mem_of_getElem? hyp) x HXS.out (hyv.trans HXV.out.symm)
              rw [htk] at HM
              have HYP := Lib.hid hyp
              obtain ⟨Am, cm, hmv, _, hrm⟩ := own_rd HM.out
              obtain ⟨q2, hq2⟩ : ∃ q2, q2 = (rmv v S).length := ⟨_, rfl⟩
              rw [← hq2] at hmv
              subst hmv
              have HQ2 := Lib.hid hq2
              have hq2b : q2 ≤ j := by rw [hq2, HS.out.1]; exact List.length_filter_le _ _
              have HRM : Hid (RdBls wr wr.heap.size Am (rmv v S)) := Lib.hid ⟨hrm, fun z hz => ((HRS.out.below HZ.out).each z (rmv_mem hz)).more hzs⟩
              have hbx := HBD.out y (HS.out.2.1 y HXS.out)
              obtain ⟨xb, hxb3⟩ : ∃ xb, xb = y.bo := ⟨_, rfl⟩
              rw [← hxb3] at hbx
              have HXB := Lib.hid hxb3
              have hp0 : decide ((p : Int) < 0) = false := decide_eq_false (by omega)
              have i2 : (0 : Int) ≤ (p : Int) := by omega
              have i3 : (p : Int) < (j : Int) := by omega
              clear htk hyp hyv hrm hq2 hxb3 HAT ha1 ha2 HM hml
              go_wp2_with fail
              generalize wr = wy at *
              have CEL : Hid (∀ W, Below wx.heap.size wx W → ∀ (t : Nat) z, S[t]? = some z → ∃ az, As = some az ∧ W.cell? ⟨(az.add (t * 4)).block, (az.add (t * 4)).off + 1, none⟩ = some (.int .i64 z.bo)) := Lib.hid (fun W hW t z hz => by
                have hz' : S[t]? = some ⟨z.nu, z.bo, z.ti, z.l, z.A, z.c⟩ := hz
                obtain ⟨az, haz, _, _, c1, _, _, _⟩ := blcells (HRS.out.below hW) hz' z.l.length rfl
                exact ⟨az, haz, c1⟩)
              go_loopw [19, 17] (fun kv bv wz => ∃ (t : Nat) (b : Bool), kv = .int .i64 (t : Int) ∧ bv = .bool b ∧ t ≤ j ∧ Hid (b = allGe xb (S.take t)) ∧ Hid (Below wy.heap.size wy wz)) (fun kv _ _ => j - (intOf kv).toNat)
              case atStart => exact ⟨0, true, rfl, rfl, Nat.zero_le _, Lib.hid (by simp [allGe]), Lib.hid (Below.refl _ _)⟩
              case round =>
                obtain ⟨t, b, rfl, rfl, ht, HD, HW⟩ := hrel
                by_cases htj : t < j
                · obtain ⟨z, hz⟩ : ∃ z, S[t]? = some z := ⟨_, List.getElem?_eq_getElem (by rw [← HS.out.1]; exact htj)⟩
                  have hst : S.take (t + 1) = S.take t ++ [z] := by rw [List.take_add_one, hz]; rfl
                  have HST := Lib.hid hst
                  obtain ⟨az, haz, c1⟩ := CEL.out wr (HZ.out.trans (HW.out.mono hzs)) t z hz
                  obtain ⟨az2, haz2, e1⟩ := CEL.out wr (HZ.out.trans (HW.out.mono hzs)) p y HYP.out
                  subst haz
                  injection haz2 with haz2
                  subst haz2
                  rw [← HXB.out] at e1
                  obtain ⟨zb, hzb⟩ : ∃ zb, zb = z.bo := ⟨_, rfl⟩
                  rw [← hzb] at c1
                  have HZB := Lib.hid hzb
                  have k0 : (0 : Int) ≤ (t : Int) := by omega
                  have k1 : (t : Int) < (j : Int) := by omega
                  clear hz hst hzb
                  cases b
                  · have HD2 : Hid (false = allGe xb (S.take (t + 1))) := Lib.hid (by
                      rw [HST.out, allGe_app, ← HD.out]
                      rfl)
                    go_upto_region 33 with fail
                    go_quiet (fail)
                    go_wp2_with fail
                    go_roundw
                    case rel => exact ⟨t + 1, false, by go_num, rfl, by omega, HD2, Lib.hid ⟨HW.out.os, HW.out.tape, HW.out.output, HW.out.size, HW.out.block⟩⟩
                    case measure => simp [intOf]; omega
                  · by_cases hle : xb ≤ zb
                    · have d7 : decide (xb ≤ zb) = true := decide_eq_true hle
                      have HD2 : Hid (true = allGe xb (S.take (t + 1))) := Lib.hid (by
                        rw [HST.out, allGe_app, ← HD.out, ← HZB.out, d7]
                        rfl)
                      clear hle
                      go_upto_region 33 with fail
                      go_quiet (fail)
                      go_wp2_with fail
                      go_roundw
                      case rel => exact ⟨t + 1, true, by go_num, rfl, by omega, HD2, Lib.hid ⟨HW.out.os, HW.out.tape, HW.out.output, HW.out.size, HW.out.block⟩⟩
                      case measure => simp [intOf]; omega
                    · have d7 : decide (xb ≤ zb) = false := decide_eq_false hle
                      have HD2 : Hid (false = allGe xb (S.take (t + 1))) := Lib.hid (by
                        rw [HST.out, allGe_app, ← HD.out, ← HZB.out, d7]
                        rfl)
                      clear hle
                      go_upto_region 33 with fail
                      go_quiet (fail)
                      go_wp2_with fail
                      go_roundw
                      case rel => exact ⟨t + 1, false, by go_num, rfl, by omega, HD2, Lib.hid ⟨HW.out.os, HW.out.tape, HW.out.output, HW.out.size, HW.out.block⟩⟩
                      case measure => simp [intOf]; omega
                · obtain rfl : t = j := by omega
                  obtain ⟨az2, haz2, e1⟩ := CEL.out wr (HZ.out.trans (HW.out.mono hzs)) p y HYP.out
                  subst haz2
                  rw [← HXB.out] at e1
                  have hww : Below wx.heap.size wx wr := HZ.out.trans (HW.out.mono hzs)
                  have HWW := Lib.hid hww
                  have TOT2 := Lib.hid (TOT.out wr hww)
                  have tw : IntKind.i64.wrap (now - xb) = now - xb := by rw [IntKind.wrap_i64]; omega
                  have HRM2 : Hid (RdBls wr wy.heap.size Am (rmv v S)) := Lib.hid (HRM.out.below HW.out)
                  have HS2 : Hid (q2 = (rmv v S).length ∧ (∀ y ∈ rmv v S, y ∈ l) ∧ ((rmv v S).map Bl.nu).Nodup) := Lib.hid ⟨HQ2.out, fun u hu => HS.out.2.1 u (rmv_mem hu), rmv_nodup HS.out.2.2⟩
                  by_cases hold : keep < now - xb
                  · have d8 : decide (keep < now - xb) = true := decide_eq_true hold
                    clear hold hww
                    go_wp2_with fail
                    go_roundw
                    case rel => exact ⟨i + 1, rmv v S, Am, cm, q2, by go_num, rfl, by omega, by omega, HS2, HRN, Lib.hid (HRM2.out.more HW.out.size), Lib.hid (HB.out.trans (HWW.out.mono hw2r))⟩
                    case measure => simp [intOf]; omega
                  · have d8 : decide (keep < now - xb) = false := decide_eq_false hold
                    obtain ⟨m1, m2, m3⟩ : (∀ z ∈ S, xb ≤ z.bo) ∧ budget < (totH (S.map Bl.hd) : Int) ∧ 2 ≤ S.length := by
                      rcases HXH.out with h | h
                      · exact absurd (by rw [HXB.out]; exact h) hold
                      · rw [HXB.out]; exact h
                    have hbt : b = true := by
                      rw [HD.out]
                      exact allGe_of (fun z hz => m1 z (List.mem_of_mem_take hz))
                    subst hbt
                    obtain ⟨tt, htt⟩ : ∃ tt, tt = totH (S.map Bl.hd) := ⟨_, rfl⟩
                    rw [← htt] at m2 TOT2
                    rw [← HS.out.1] at m3
                    have d9 : decide ((tt : Int) ≤ budget) = false := decide_eq_false (by omega)
                    have d10 : decide ((t : Int) < 2) = false := decide_eq_false (by omega)
                    have d11 : decide (t < 2) = false := decide_eq_false (by omega)
                    clear m1 m2 m3 htt hold hww
                    go_wp2_with (go_at_call 45; (with_reducible refine TOT2.out.mono ?_); rintro e w6 ⟨rfl, hb6⟩; have HWW6 := Lib.hid (HWW.out.trans (hb6.mono HWW.out.size)); have HRM6 := Lib.hid ((HRM2.out.more HW.out.size).below hb6); have hs6 := hb6.size; clear hb6)
                    go_roundw
                    case rel => exact ⟨i + 1, rmv v S, Am, cm, q2, by go_num, rfl, by omega, by omega, HS2, HRN, Lib.hid (HRM6.out.more hs6), Lib.hid (HB.out.trans (HWW6.out.mono hw2r))⟩
                    case measure => simp [intOf]; omega
        · obtain rfl : i = nx := by omega
          have hdr : X.drop i = [] := List.drop_of_length_le (by rw [← HNX.out]; exact Nat.le_refl _)
          have hru := HRUN.out
          rw [hdr] at hru
          obtain ⟨f1, f2⟩ : (∀ y ∈ S, ¬ keep < now - y.bo) ∧ (S.length < 2 ∨ (totH (S.map Bl.hd) : Int) ≤ budget) := by
            cases hru with
            | nil a b => exact ⟨a, b⟩
          have HF1 := Lib.hid f1
          have HF2 := Lib.hid f2
          have hw2r := HB.out.size
          clear hdr hru f1 f2 HRUN
          go_wp2_with fail
          generalize wr = wx at *
          go_loopw [21] (fun kv wz => ∃ t : Nat, kv = .int .i64 (t : Int) ∧ t ≤ q ∧ Hid (Below wx.heap.size wx wz)) (fun kv _ => q - (intOf kv).toNat)
          case atStart => exact ⟨0, rfl, Nat.zero_le _, Lib.hid (Below.refl _ _)⟩
          case round =>
            obtain ⟨t, rfl, ht, HW⟩ := hrel
            by_cases htj : t < q
            · obtain ⟨z, hz⟩ : ∃ z, S[t]? = some z := ⟨_, List.getElem?_eq_getElem (by rw [← HS.out.1]; exact htj)⟩
              have hz' : S[t]? = some ⟨z.nu, z.bo, z.ti, z.l, z.A, z.c⟩ := hz
              obtain ⟨az, haz, _, _, c1, _, _, _⟩ := blcells (HRS.out.below HW.out) hz' z.l.length rfl
              subst haz
              have hyo := HF1.out z (List.mem_of_getElem? hz)
              have hbx := HBD.out z (HS.out.2.1 z (List.mem_of_getElem? hz))
              obtain ⟨zb, hzb⟩ : ∃ zb, zb = z.bo := ⟨_, rfl⟩
              rw [← hzb] at c1 hyo hbx
              have tw : IntKind.i64.wrap (now - zb) = now - zb := by rw [IntKind.wrap_i64]; omega
              have d8 : decide (keep < now - zb) = false := decide_eq_false (by omega)
              have k0 : (0 : Int) ≤ (t : Int) := by omega
              have k1 : (t : Int) < (q : Int) := by omega
              clear hz hz' hzb hyo
              go_wp2_with fail
              go_roundw
              case rel => exact ⟨t + 1, by go_num, by omega, HW⟩
              case measure => simp [intOf]; omega
            · obtain rfl : t = q := by omega
              by_cases h2 : t < 2
              · have d10 : decide ((t : Int) < 2) = true := decide_eq_true (by omega)
                have d11 : decide (t < 2) = true := decide_eq_true h2
                go_wp2_with fail
                go_ret
                exact ⟨rfl, HB2.out.trans ((HB.out.trans (HW.out.mono hw2r)).mono HB2.out.size)⟩
              · have d10 : decide ((t : Int) < 2) = false := decide_eq_false (by omega)
                have d11 : decide (t < 2) = false := decide_eq_false h2
                have TOT2 := Lib.hid (TOT.out wr HW.out)
                have hbb : (totH (S.map Bl.hd) : Int) ≤ budget := by
                  rcases HF2.out with h | h
                  · rw [← HS.out.1] at h
                    exact absurd h h2
                  · exact h
                generalize totH (S.map Bl.hd) = tt at *
                have d9 : decide ((tt : Int) ≤ budget) = true := decide_eq_true hbb
                clear hbb h2
                go_wp2_with (go_at_call 45; (with_reducible refine TOT2.out.mono ?_); rintro e w6 ⟨rfl, hb6⟩; have HW6 := Lib.hid (HW.out.trans (hb6.mono HW.out.size)); clear hb6)
                go_ret
                exact ⟨rfl, HB2.out.trans ((HB.out.trans (HW6.out.mono hw2r)).mono HB2.out.size)⟩
end Go.Proofs.Ytchcjbapbdfhkaa
