/- RetireNone. -/
import Derived.Test.YtchcjbapbdfhkaaBqi
import Derived.Test.YtchcjbapbdfhkaaBqo
namespace Go.Proofs.Ytchcjbapbdfhkaa
open Go.RowKit Go.Maps
set_option linter.unusedVariables false
set_option linter.unusedSimpArgs false
set_option maxRecDepth 100000

theorem right_size (x : Bl) (h : rightBk x.nu x.bo x.ti (x.l.map Le.ep) = true) : 0 < x.bytes.length := by
  unfold Bl.bytes bkBytes
  rw [h]
  simp only [↓reduceIte, List.length_append]
  have h4 : (Cm.le4 (Cm.sum (encBk x.nu x.bo x.ti (x.l.map Le.ep)))).length = 4 := rfl
  omega
theorem young_all {l : List Bl} {now keep : Int} (h : ∀ x ∈ l, tooOld now keep x = false) : goneL now keep l = [] ∧ othL now keep l = l.map Bl.hd := by
  unfold goneL othL
  constructor
  · rw [List.filter_eq_nil_iff.2 (fun y hy => by rw [h y hy]; simp)]
    rfl
  · rw [List.filter_eq_self.2 (fun y hy => by rw [h y hy]; rfl)]
theorem old_all {l : List Bl} {now keep : Int} (h : ∀ x ∈ l, tooOld now keep x = true) : (choose l now keep 1099511627776).length = l.length := by
  unfold choose goneL othL
  rw [List.filter_eq_self.2 h, List.filter_eq_nil_iff.2 (fun y hy => by rw [h y hy]; simp)]
  simp [letGo]
theorem tot_pos : ∀ {l : List Hd}, (∀ x ∈ l, 0 < x.sz) → l ≠ [] → 0 < totH l
  | [], _, h => absurd rfl h
  | x :: r, h, _ => by
    have := h x (by simp)
    unfold totH
    simp only [List.map_cons, List.sum_cons]
    omega
theorem letGo_zero : ∀ (f : Nat) (l : List Hd), (∀ x ∈ l, 0 < x.sz) → l.length ≤ f → (letGo 0 f l).length = l.length - 1
  | 0, l, _, hf => by
    have h0 : l.length = 0 := by omega
    simp [letGo, h0]
  | f + 1, l, h, hf => by
    by_cases h1 : 1 < l.length
    · have hne : l ≠ [] := fun e => by rw [e] at h1; simp at h1
      have hp := tot_pos h hne
      have hml : minAt l < l.length := mAt_lt l _ (Nat.le_refl _) (by omega)
      have hm : l[minAt l]? = some l[minAt l] := List.getElem?_eq_getElem hml
      rw [letGo_go (by omega) h1 hm, List.length_cons, letGo_zero f (l.eraseIdx (minAt l)) (fun x hx => h x (List.mem_of_mem_eraseIdx hx)) (by rw [List.length_eraseIdx_of_lt hml]; omega), List.length_eraseIdx_of_lt hml]
      omega
    · rw [letGo_stop (by rintro ⟨_, h2⟩; exact h1 h2)]
      simp only [List.length_nil]
      omega
theorem none_all (l : List Bl) (now : Int) (hr : ∀ x ∈ l, rightBk x.nu x.bo x.ti (x.l.map Le.ep) = true ∧ x.bo ≤ now) (hn : now ≤ 1099511627776) :
    choose l now 1099511627776 (totH (l.map Bl.hd) : Nat) = [] ∧ (choose l now 1099511627776 0).length = l.length - 1 ∧ (choose l now (-1) 1099511627776).length = l.length := by
  have hbo : ∀ x ∈ l, 0 ≤ x.bo ∧ x.bo ≤ 1099511627776 ∧ x.bo ≤ now := fun x hx => by
    have h1 := (rightBk_parts (hr x hx).1).2.1
    exact ⟨h1.1, h1.2, (hr x hx).2⟩
  have hy : ∀ x ∈ l, tooOld now 1099511627776 x = false := fun x hx => by
    have h1 := hbo x hx
    unfold tooOld satR
    refine decide_eq_false ?_
    split <;> omega
  have ho : ∀ x ∈ l, tooOld now (-1) x = true := fun x hx => by
    have h1 := hbo x hx
    unfold tooOld satR
    refine decide_eq_true ?_
    split <;> omega
  obtain ⟨g1, g2⟩ := young_all hy
  refine ⟨?_, ?_, old_all ho⟩
  · unfold choose
    rw [g1, g2, letGo_stop (by rintro ⟨h, _⟩; omega)]
    rfl
  · unfold choose
    rw [g1, g2, List.nil_append, letGo_zero _ _ (fun x hx => by
      obtain ⟨y, hy, rfl⟩ := List.mem_map.1 hx
      exact right_size y (hr y hy).1) (Nat.le_refl _), List.length_map]
set_option maxHeartbeats 16000000 in
theorem none20 (A : Option Addr) (l : List Bl) (n c : Nat) (now : Int) (w : World) (hn : n = l.length) (hy : RdBls w w.heap.size A l) (hok : ∀ x ∈ l, x.ok) (hb : ∀ x ∈ l, x.l.length ≤ 1048576) (hnow : -9223372036854775808 ≤ now ∧ now ≤ 9223372036854775807) :
    Calls Try.prog 13 #[.slice A n c, .int .i64 now] w fun e w' => e = .returned (.bool true) ∧ Below w.heap.size w w' := by
  have HFW := Lib.hid (fun W (hW : Below w.heap.size w W) => few19_any A l n c w.heap.size W hn (hy.below hW) hok hW.size hb)
  have HN := Lib.hid hn
  have HY := Lib.hid hy
  have HK := Lib.hid hok
  have HNW := Lib.hid hnow
  clear hn hy hok hb hnow
  by_cases h0 : n < 1
  · have e0 : decide ((n : Int) < 1) = true := decide_eq_true (by omega)
    have e0' : decide (n < 1) = true := decide_eq_true (by omega)
    have e0'' : decide (n = 0) = true := decide_eq_true (by omega)
    go_enter Try.func13, Try.ntmps13
    go_wp2_with fail
    refine (alive20_calls _).mono ?_
    rintro e w0 ⟨rfl, hb0⟩
    have HB0 := Lib.hid hb0
    clear hb0
    go_wp2_with fail
    refine (HFW.out w0 HB0.out).mono ?_
    rintro e w1 ⟨fb, rfl, hfb, hb1⟩
    have HB1 := Lib.hid (HB0.out.trans (hb1.mono HB0.out.size))
    have HGD := Lib.hid hfb
    clear hb1 hfb
    cases fb
    · go_wp2_with fail
      go_ret
      exact ⟨rfl, HB1.out⟩
    go_wp2_with fail
    go_ret
    exact ⟨rfl, HB1.out⟩
  have e0 : decide ((n : Int) < 1) = false := decide_eq_false (by omega)
  have e0' : decide (n < 1) = false := decide_eq_false (by omega)
  have e0'' : decide (n = 0) = false := decide_eq_false (by omega)
  go_enter Try.func13, Try.ntmps13
  go_wp2_with fail
  refine (alive20_calls _).mono ?_
  rintro e w0 ⟨rfl, hb0⟩
  have HB0 := Lib.hid hb0
  clear hb0
  go_wp2_with fail
  refine (HFW.out w0 HB0.out).mono ?_
  rintro e w1 ⟨fb, rfl, hfb, hb1⟩
  have HB1 := Lib.hid (HB0.out.trans (hb1.mono HB0.out.size))
  have HGD := Lib.hid hfb
  clear hb1 hfb
  cases fb
  · go_wp2_with fail
    go_ret
    exact ⟨rfl, HB1.out⟩
  have HG := Lib.hid (HGD.out (by first | rfl | trivial))
  have hn12 : n ≤ 12 := by rw [HN.out]; exact HG.out.1
  clear HGD e0 e0'
  go_wp2_with fail
  go_loopw [6] (fun iv wr => ∃ k : Nat, iv = .int .i64 (k : Int) ∧ k ≤ n ∧ Hid (∀ j x, j < k → l[j]? = some x → rightBk x.nu x.bo x.ti (x.l.map Le.ep) = true ∧ x.bo ≤ now) ∧ Hid (0 < k → now ≤ 1099511627776) ∧ Hid (Below w.heap.size w wr)) (fun iv _ => n - (intOf iv).toNat)
  case atStart => exact ⟨0, rfl, Nat.zero_le _, Lib.hid (fun j x h => by omega), Lib.hid (fun h => by omega), HB1⟩
  case round =>
    clear HB1
    obtain ⟨k, rfl, hk, HR, HP, HB⟩ := hrel
    by_cases hlt : k < n
    · obtain ⟨x, hx⟩ : ∃ x, l[k]? = some x := ⟨_, List.getElem?_eq_getElem (by rw [← HN.out]; exact hlt)⟩
      have hR := HY.out.below HB.out
      obtain ⟨m, hm⟩ : ∃ m, m = x.l.length := ⟨_, rfl⟩
      have hx' : l[k]? = some ⟨x.nu, x.bo, x.ti, x.l, x.A, x.c⟩ := hx
      obtain ⟨a, ha, hab, c0, c1, c2, c3, hre⟩ := blcells hR hx' m hm
      subst ha
      have HX := Lib.hid hx
      have hbox := (HK.out x (List.mem_of_getElem? hx)).bo
      have hsx := HG.out.each x (List.mem_of_getElem? hx)
      have hws := HB.out.size
      have RBC := Lib.hid (drightblk_any x.nu x.bo x.ti x.A x.l m x.c w.heap.size wr hm hre hws (by omega) (fun e he => Nat.le_trans (hsx.2 e he) (by omega)))
      have habw : (a.add (k * 4)).block < wr.heap.size := by rw [block_add]; omega
      have HC1 := Lib.hid c1
      have i0 : (0 : Int) ≤ (k : Int) := by omega
      have i1 : (k : Int) < (n : Int) := by omega
      cases hrb : rightBk x.nu x.bo x.ti (x.l.map Le.ep)
      · rw [hrb] at RBC
        clear hx hR hm hx' hre hsx hrb
        generalize x.nu = nu at *
        generalize x.bo = bo at *
        generalize x.ti = ti at *
        go_wp2_with (go_at_call 24; (with_reducible refine RBC.out.mono ?_); rintro e w5 ⟨rfl, hb5⟩; have HB5 := Lib.hid (HB.out.trans (hb5.mono hws)); clear hb5)
        go_ret
        exact ⟨rfl, HB5.out⟩
      · rw [hrb] at RBC
        have HRB := Lib.hid hrb
        obtain ⟨bo, hbo⟩ : ∃ bo, bo = x.bo := ⟨_, rfl⟩
        have HBO := Lib.hid hbo
        rw [← hbo] at c1 hbox RBC
        rw [← hbo] at HC1
        clear hx hR hm hx' hre hsx hrb hbo
        generalize hnu : x.nu = nu at RBC c0
        generalize hti : x.ti = ti at RBC c2
        clear hnu hti
        by_cases q1 : now < bo
        · have d1 : decide (now < bo) = true := decide_eq_true q1
          go_wp2_with (go_at_call 24; (with_reducible refine RBC.out.mono ?_); rintro e w5 ⟨rfl, hb5⟩; have HB5 := Lib.hid (HB.out.trans (hb5.mono hws)); have c1 := (hb5.cell (p := ⟨(a.add (k * 4)).block, (a.add (k * 4)).off + 1, none⟩) habw).trans HC1.out; clear hb5)
          go_ret
          exact ⟨rfl, HB5.out⟩
        have d1 : decide (now < bo) = false := decide_eq_false q1
        by_cases q2 : 1099511627776 < now
        · have d2 : decide (1099511627776 < now) = true := decide_eq_true q2
          go_wp2_with (go_at_call 24; (with_reducible refine RBC.out.mono ?_); rintro e w5 ⟨rfl, hb5⟩; have HB5 := Lib.hid (HB.out.trans (hb5.mono hws)); have c1 := (hb5.cell (p := ⟨(a.add (k * 4)).block, (a.add (k * 4)).off + 1, none⟩) habw).trans HC1.out; clear hb5)
          go_ret
          exact ⟨rfl, HB5.out⟩
        have d2 : decide (1099511627776 < now) = false := decide_eq_false q2
        have HR2 : Hid (∀ j x, j < k + 1 → l[j]? = some x → rightBk x.nu x.bo x.ti (x.l.map Le.ep) = true ∧ x.bo ≤ now) := Lib.hid (fun j y hj hy => by
          rcases Nat.lt_or_ge j k with h | h
          · exact HR.out j y h hy
          · obtain rfl : j = k := by omega
            rw [HX.out] at hy
            injection hy with hy
            subst hy
            exact ⟨HRB.out, by rw [← HBO.out]; omega⟩)
        have HP2 : Hid (0 < k + 1 → now ≤ 1099511627776) := Lib.hid (fun _ => by omega)
        go_wp2_with (go_at_call 24; (with_reducible refine RBC.out.mono ?_); rintro e w5 ⟨rfl, hb5⟩; have HB5 := Lib.hid (HB.out.trans (hb5.mono hws)); have c1 := (hb5.cell (p := ⟨(a.add (k * 4)).block, (a.add (k * 4)).off + 1, none⟩) habw).trans HC1.out; clear hb5)
        go_roundw
        case rel => exact ⟨k + 1, by go_num, by omega, HR2, HP2, HB5⟩
        case measure => simp [intOf]; omega
    · obtain rfl : k = n := by omega
      obtain ⟨m, hm⟩ : ∃ m, k = m + 1 := ⟨k - 1, by omega⟩
      have hall := none_all l now (fun x hx => by
        obtain ⟨j, hj⟩ := List.getElem?_of_mem hx
        refine HR.out j x ?_ hj
        rcases Nat.lt_or_ge j l.length with h | h
        · rw [HN.out]; exact h
        · rw [List.getElem?_eq_none h] at hj; cases hj) (HP.out (by omega))
      obtain ⟨h1, h2, h3⟩ := hall
      have CX := Lib.hid (fun (kp b : Int) W (hW : Below w.heap.size w W) => choose_any A k c w.heap.size l now kp b W HN.out (HY.out.below hW) hW.size (by omega) HG.out.each HK.out HNW.out)
      have CT := Lib.hid (dtotal_any A k c w.heap.size l wr HN.out (HY.out.below HB.out) HB.out.size (by omega) HG.out.each HK.out)
      have CX1 := Lib.hid (CX.out 1099511627776 (totH (l.map Bl.hd) : Nat))
      have CX2 := Lib.hid (CX.out 1099511627776 0)
      have CX3 := Lib.hid (CX.out (-1) 1099511627776)
      rw [h1] at CX1
      have hly : (choose l now 1099511627776 0).length = m := by rw [h2, ← HN.out]; omega
      have hlz : (choose l now (-1) 1099511627776).length = k := by rw [h3, ← HN.out]
      generalize choose l now 1099511627776 0 = Y at *
      generalize choose l now (-1) 1099511627776 = Z at *
      generalize totH (l.map Bl.hd) = t at *
      have HLY := Lib.hid hly
      have HLZ := Lib.hid hlz
      have hw1 : IntKind.i64.wrap ((k : Int) - 1) = (m : Int) := by rw [IntKind.wrap_i64]; omega
      have hw2 : (k : Int) - 1 = (m : Int) := by omega
      have hw3 : IntKind.i64.wrap (m : Int) = (m : Int) := by rw [IntKind.wrap_i64]; omega
      clear h1 h2 h3 CX HR HP hly hlz hm
      go_wp2_with (first
        | (have hd := done2; clear done2; go_at_call 42; (with_reducible refine (CX3.out _ HB1.out).mono ?_); rintro e w2 ⟨v2, rfl, ho2, hb2⟩; obtain ⟨A2, c2, hv2, _, _⟩ := own_rd ho2; rw [HLZ.out] at hv2; subst hv2; have HB1 := Lib.hid (HB1.out.trans (hb2.mono HB1.out.size)); clear ho2 hb2)
        | (have hd := done1; clear done1; go_at_call 42; (with_reducible refine (CX2.out _ HB1.out).mono ?_); rintro e w2 ⟨v2, rfl, ho2, hb2⟩; obtain ⟨A2, c2, hv2, _, _⟩ := own_rd ho2; rw [HLY.out] at hv2; subst hv2; have HB1 := Lib.hid (HB1.out.trans (hb2.mono HB1.out.size)); have done2 := trivial; clear ho2 hb2)
        | (go_at_call 42; (with_reducible refine (CX1.out _ HB0.out).mono ?_); rintro e w1 ⟨v1, rfl, ho1, hb1⟩; obtain ⟨A2, c2, hv2, _, _⟩ := own_rd ho1; rw [List.length_nil] at hv2; subst hv2; have HB1 := Lib.hid (HB0.out.trans (hb1.mono HB0.out.size)); have done1 := trivial; clear ho1 hb1)
        | (go_at_call 45; (with_reducible refine CT.out.mono ?_); rintro e w0 ⟨rfl, hb0⟩; have HB0 := Lib.hid (HB.out.trans (hb0.mono HB.out.size)); clear hb0))
      go_ret
      exact ⟨rfl, HB1.out⟩
end Go.Proofs.Ytchcjbapbdfhkaa
