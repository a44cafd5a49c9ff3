/- Chapter 15's second law, walked. -/
import Derived.Test.YthkclgkbidhmbaaApo
import Derived.Test.YthkclgkbidhmbaaSq
import Derived.Deep.DeepCutAuto
import Derived.StillTailTactics
namespace Go.Proofs.Ythkclgkbidhmbaa
open Go.RowKit Go.Maps
set_option linter.unusedVariables false
set_option maxRecDepth 100000

theorem below_drew (w : World) : Below w.heap.size w w.drew := ⟨rfl, rfl, rfl, Nat.le_refl _, fun _ _ => rfl⟩
theorem GoodEps.e {l : List Le} (h : GoodEps l) : ∀ e ∈ l, e.l.length ≤ 1000 := fun e he => Nat.le_trans (fewAll_len (h.2 e he)) (by omega)
theorem GoodEps.a {l : List Le} (h : GoodEps l) : ∀ e ∈ l, ∀ x ∈ e.l, x.s.ats.length ≤ 100000 := fun e he x hx => Nat.le_trans (fewAll_ats (h.2 e he) x hx) (by omega)
theorem GoodEps.both {l m : List Le} (h : GoodEps l) (k : GoodEps m) : (l ++ m).length ≤ 1000 ∧ (∀ e ∈ l ++ m, e.l.length ≤ 1000) ∧ ∀ e ∈ l ++ m, ∀ x ∈ e.l, x.s.ats.length ≤ 100000 :=
  ⟨by rw [List.length_append]; have := h.1; have := k.1; omega, fun e he => (List.mem_append.1 he).elim (h.e e) (k.e e), fun e he => (List.mem_append.1 he).elim (h.a e) (k.a e)⟩
theorem flat_le : ∀ (l : List Le) (f : Le → List Sp), (∀ e ∈ l, (f e).length ≤ 60) → (l.flatMap f).length ≤ 60 * l.length
  | [], _, _ => by simp
  | e :: l, f, h => by
    rw [List.flatMap_cons, List.length_append, List.length_cons]
    have := flat_le l f (fun x hx => h x (List.mem_cons_of_mem _ hx))
    have := h e (List.mem_cons_self)
    omega
theorem GoodEps.len {l : List Le} (h : GoodEps l) (th tl : Int) : (spAll th tl l).1.length ≤ 7200 := by
  unfold spAll
  have h1 := (spn_len (l.flatMap (epSps th tl)) ([], [])).2
  have h2 := flat_le l (epSps th tl) (fun e he => by
    unfold epSps
    split
    · rw [List.length_map]; exact fewAll_len (h.2 e he)
    · exact Nat.zero_le _)
  have h3 := h.1
  simp only [List.length_nil] at h1
  omega
theorem still_own {w w' : World} {B e size n : Nat} {v v' v2 : Value} {xs xs2 : List Value} (hs : 0 < size) (h1 : w.ownsRow B e size v n xs) (hg : Grew w w' v v') (hold : w'.ownsRow B e size v n xs) (h2 : w.ownsRow B e size v2 n xs2) : w'.ownsRow B e size v2 n xs2 := by
  by_cases hb : v2.ownBlock = v.ownBlock
  · rcases h1.2 with ⟨rfl, rfl⟩ | ⟨g, cap, cur, rfl, hbg, hgg, hnc, hcm, hcs, htake⟩
    · exact own_grew h2 hg (.inl rfl)
    · rcases h2.2 with ⟨rfl, rfl⟩ | ⟨g', cap', cur', rfl, _, hgg', hnc', hcm', hcs', htake'⟩
      · simp [Value.ownBlock] at hb
      · simp only [Value.ownBlock, Option.some.injEq] at hb
        subst hb
        rw [hgg] at hgg'
        injection hgg' with hgg'
        injection hgg' with h3 _ _
        subst h3
        have hc : cap = cap' := Nat.eq_of_mul_eq_mul_right hs (by rw [← hcs, ← hcs'])
        subst hc
        rw [← htake', htake]
        exact hold
  · exact own_grew h2 hg (.inr hb)
/-- What the last expression's operations leave. -/
def JF (B : Nat) (th tl : Int) (lv mv wv : Value) (l m : List Le) : Nat → Value → World → Prop
  | 0, v, _ => v = lv
  | 1, v, w => w.ownsRow B 59 6 v l.length (l.flatMap Le.cells)
  | 2, v, _ => v = mv
  | 3, v, w => w.ownsRow B 59 6 v (l ++ m).length ((l ++ m).flatMap Le.cells)
  | 4, v, _ => v = .agg #[.int .u64 th, .int .u64 tl]
  | 5, v, w => ∃ A5 c5 l5, v = .slice A5 l5.length c5 ∧ OwnSps w B v l5 ∧ l5.map Ls.s = (spAll th tl (l ++ m)).1
  | 6, v, _ => v = wv
  | 7, v, _ => v = .bool true
  | 8, v, _ => v = .bool true
  | _, _, _ => True
section
variable {B : Nat} {th tl : Int} {lv mv wv : Value} {l m : List Le} {w w' : World}
theorem JF.below {i : Nat} {v : Value} (h : JF B th tl lv mv wv l m i v w) (hb : Below w.heap.size w w') : JF B th tl lv mv wv l m i v w' := by
  match i, h with
  | 0, h => exact h
  | 1, h => exact own_below h hb
  | 2, h => exact h
  | 3, h => exact own_below h hb
  | 4, h => exact h
  | 5, h => obtain ⟨A5, c5, l5, h1, h2, h3⟩ := h; exact ⟨A5, c5, l5, h1, h2.below hb, h3⟩
  | 6, h => exact h
  | 7, h => exact h
  | 8, h => exact h
  | _ + 9, h => trivial
theorem jgoes : PG.Goes (Below B) := ⟨fun w => Below.refl _ w, fun _ _ _ h k => h.trans k⟩
theorem jpost {ops : Array Oper} {i : Nat} {v : Value} (hz : B ≤ w.heap.size) (hb : Below w.heap.size w w') (h : JF B th tl lv mv wv l m i v w') : PG.Post ops (Below B) (fun _ _ => True) (JF B th tl lv mv wv l m) i w v w' := ⟨hb.mono hz, h, fun _ _ h => h, fun _ _ _ _ h => h.below hb⟩
end

set_option maxHeartbeats 16000000 in
theorem joins_any (lA mA : Option Addr) (l m : List Le) (ln lc mn mc : Nat) (th tl : Int) (w : World) (hln : ln = l.length) (hmn : mn = m.length) (hl : RdEps w w.heap.size lA l) (hm : RdEps w w.heap.size mA m) (hlo : ∀ e ∈ l, e.ok) (hmo : ∀ e ∈ m, e.ok) (hlm : ln ≤ maxLen) (hmm : mn ≤ maxLen) :
    Calls Try.prog 10 #[.slice lA ln lc, .slice mA mn mc, .agg #[.int .u64 th, .int .u64 tl]] w fun e w' => e = .returned (.bool true) ∧ Below w.heap.size w w' := by
  have AL := fun W => Lib.hid (alive15_calls W)
  have HLN := Lib.hid hln
  have HMN := Lib.hid hmn
  have HL := Lib.hid hl
  have HM := Lib.hid hm
  have HLO := Lib.hid hlo
  have HMO := Lib.hid hmo
  have HLM := Lib.hid hlm
  have HMM := Lib.hid hmm
  have HB0 := Lib.hid ((Below.refl w.heap.size w).alloc (Nat.le_refl _) (.cells #[.int .u64 th, .int .u64 tl] 33))
  have HT0 := Lib.hid (heap_alloc_new w (.cells #[.int .u64 th, .int .u64 tl] 33))
  have HZ0 : Hid (w.heap.size + 1 ≤ (w.alloc (.cells #[.int .u64 th, .int .u64 tl] 33)).heap.size) := Lib.hid (by simp)
  clear hln hmn hl hm hlo hmo hlm hmm
  go_enter Try.func10, Try.ntmps10
  go_wp2_with (go_at_call 39; (with_reducible refine (AL _).out.mono ?_); rintro e w1 ⟨rfl, hb1⟩; have HB1 := Lib.hid hb1; clear hb1)
  have HB2 : Hid (Below w.heap.size w w1) := Lib.hid (HB0.out.trans (HB1.out.mono HB0.out.size))
  have HT1 : Hid (w1.heap[w.heap.size]? = some (.cells #[.int .u64 th, .int .u64 tl] 33)) := Lib.hid ((HB1.out.block _ HZ0.out).trans HT0.out)
  have HZ1 : Hid (w.heap.size + 1 ≤ w1.heap.size) := Lib.hid (Nat.le_trans HZ0.out HB1.out.size)
  clear HB0 HB1 HT0 HZ0
  refine (few15_any lA l ln lc w.heap.size w1 HLN.out (HL.out.below HB2.out) HLO.out HB2.out.size HLM.out).mono ?_
  rintro e w2 ⟨b1, rfl, hg1, hb2⟩
  have HB3 : Hid (Below w.heap.size w w2) := Lib.hid (HB2.out.trans (hb2.mono HB2.out.size))
  have HT2 : Hid (w2.heap[w.heap.size]? = some (.cells #[.int .u64 th, .int .u64 tl] 33)) := Lib.hid ((hb2.block _ HZ1.out).trans HT1.out)
  have HZ2 : Hid (w.heap.size + 1 ≤ w2.heap.size) := Lib.hid (Nat.le_trans HZ1.out hb2.size)
  have HG1 := Lib.hid hg1
  clear hg1 hb2 HB2 HT1 HZ1
  cases b1
  · go_wp2_with fail
    go_ret
    exact ⟨rfl, HB3.out⟩
  go_wp2_with fail
  refine (few15_any mA m mn mc w.heap.size w2 HMN.out (HM.out.below HB3.out) HMO.out HB3.out.size HMM.out).mono ?_
  rintro e w3 ⟨b2, rfl, hg2, hb3⟩
  have HB4 : Hid (Below w.heap.size w w3) := Lib.hid (HB3.out.trans (hb3.mono HB3.out.size))
  have HT3 : Hid (w3.heap[w.heap.size]? = some (.cells #[.int .u64 th, .int .u64 tl] 33)) := Lib.hid ((hb3.block _ HZ2.out).trans HT2.out)
  have HZ3 : Hid (w.heap.size + 1 ≤ w3.heap.size) := Lib.hid (Nat.le_trans HZ2.out hb3.size)
  have HG2 := Lib.hid hg2
  clear hg2 hb3 HB3 HT2 HZ2
  cases b2
  · go_wp2_with fail
    go_ret
    exact ⟨rfl, HB4.out⟩
  have HGL : Hid (GoodEps l) := Lib.hid (HG1.out (by trivial))
  have HGM : Hid (GoodEps m) := Lib.hid (HG2.out (by trivial))
  clear HG1 HG2
  have t0 : w3.cell? ⟨w.heap.size, 0, none⟩ = some (.int .u64 th) := cell_of_row _ _ 0 _ _ (0, 0) HT3.out
  have t1 : w3.cell? ⟨w.heap.size, 1, none⟩ = some (.int .u64 tl) := cell_of_row _ _ 1 _ _ (0, 0) HT3.out
  go_wp2_with fail
  refine (spans_any lA l ln lc w.heap.size th tl w3 HLN.out (HL.out.below HB4.out) HB4.out.size (by have := HGL.out.1; have := HLN.out; omega) HGL.out.e HGL.out.a).mono ?_
  rintro e w4 ⟨va, la, rfl, hoa, hma, hba⟩
  obtain ⟨aA, ac, rfl, _, hra⟩ := hoa.rd
  have HB5 : Hid (Below w.heap.size w w4) := Lib.hid (HB4.out.trans (hba.mono HB4.out.size))
  have HT4 : Hid (w4.heap[w.heap.size]? = some (.cells #[.int .u64 th, .int .u64 tl] 33)) := Lib.hid ((hba.block _ HZ3.out).trans HT3.out)
  have HZ4 : Hid (w.heap.size + 1 ≤ w4.heap.size) := Lib.hid (Nat.le_trans HZ3.out hba.size)
  have HRA := Lib.hid hra
  have HMA := Lib.hid hma
  clear hoa hma hba hra t0 t1 HB4 HT3 HZ3
  have t0 : w4.cell? ⟨w.heap.size, 0, none⟩ = some (.int .u64 th) := cell_of_row _ _ 0 _ _ (0, 0) HT4.out
  have t1 : w4.cell? ⟨w.heap.size, 1, none⟩ = some (.int .u64 tl) := cell_of_row _ _ 1 _ _ (0, 0) HT4.out
  go_wp2_with fail
  refine (spans_any mA m mn mc w.heap.size th tl w4 HMN.out (HM.out.below HB5.out) HB5.out.size (by have := HGM.out.1; have := HMN.out; omega) HGM.out.e HGM.out.a).mono ?_
  rintro e w5 ⟨vb, lb, rfl, hob, hmb, hbb⟩
  obtain ⟨bA, bc, rfl, _, hrb⟩ := hob.rd
  have HB6 : Hid (Below w.heap.size w w5) := Lib.hid (HB5.out.trans (hbb.mono HB5.out.size))
  have HT5 : Hid (w5.heap[w.heap.size]? = some (.cells #[.int .u64 th, .int .u64 tl] 33)) := Lib.hid ((hbb.block _ HZ4.out).trans HT4.out)
  have HZ5 : Hid (w.heap.size + 1 ≤ w5.heap.size) := Lib.hid (Nat.le_trans HZ4.out hbb.size)
  have HRA5 : Hid (RdSps w5 w5.heap.size aA la) := Lib.hid ((HRA.out.below hbb).more hbb.size)
  have HRB5 := Lib.hid hrb
  have HMB := Lib.hid hmb
  clear hob hmb hbb hrb t0 t1 HB5 HT4 HZ4 HRA
  obtain ⟨na, hna⟩ : ∃ na, na = la.length := ⟨_, rfl⟩
  obtain ⟨nb, hnb⟩ : ∃ nb, nb = lb.length := ⟨_, rfl⟩
  rw [← hna, ← hnb]
  have HNA := Lib.hid hna
  have HNB := Lib.hid hnb
  clear hna hnb
  have hna : na ≤ 7200 := by have h1 := HGL.out.len th tl; have h2 := congrArg List.length HMA.out; have := HNA.out; rw [List.length_map] at h2; omega
  have hnb : nb ≤ 7200 := by have h1 := HGM.out.len th tl; have h2 := congrArg List.length HMB.out; have := HNB.out; rw [List.length_map] at h2; omega
  go_wp2_with (at_builtin; refine wpList_app rfl (.const (.slice none 0 0)) (.tmp 34) _ _ rfl rfl rfl (RowSps.nil.app (base := w5.heap.size) HRA5.out.each HNA.out HRA5.out.rd (Nat.zero_le _) (by omega) (Nat.le_refl _)) ?_; rintro v6 w6 ⟨ho6, hb6⟩; have HO6 := Lib.hid ho6; have HB66 := Lib.hid hb6; clear ho6 hb6)
  obtain ⟨wA, wc, hv6, _, _⟩ := HO6.out.rd HB66.out.size
  have hv6' : v6 = .slice wA na wc := by rw [hv6, List.nil_append, HNA.out]
  subst hv6'
  clear hv6
  have HO7 : Hid (RowSps w6 w5.heap.size (.slice wA na wc) la) := HO6
  clear HO6
  go_loopw [10, 11] (fun v i wr => ∃ (k wn : Nat) (wl : List Ls) (wA : Option Addr) (wc : Nat), v = .slice wA wn wc ∧ i = .int .i64 k ∧ k ≤ nb ∧ wn ≤ 7200 + k ∧ Hid (wn = wl.length) ∧ Hid (RowSps wr w5.heap.size (.slice wA wn wc) wl) ∧ Hid (wl.map Ls.s = joined (la.map Ls.s) (lb.map Ls.s) k) ∧ Hid (Below w5.heap.size w5 wr)) (fun _ i _ => nb - (intOf i).toNat)
  case atStart => exact ⟨0, na, la, wA, wc, rfl, rfl, Nat.zero_le _, by omega, HNA, HO7, Lib.hid (by unfold joined; simp), HB66⟩
  case round =>
    clear HO7 HB66
    obtain ⟨k, wn, wl, wA, wc, rfl, rfl, hk, hwn, HWN, HO, HJ, HB⟩ := hrel
    have hbr : w5.heap.size ≤ wr.heap.size := HB.out.size
    by_cases hlt : k < nb
    · obtain ⟨x, hx⟩ : ∃ x, lb[k]? = some x := ⟨_, List.getElem?_eq_getElem (by rw [← HNB.out]; exact hlt)⟩
      obtain ⟨b, hb, hbb, hc, hxl⟩ := HRB5.out.at_ hx
      subst hb
      have hjs := joined_step (la.map Ls.s) (lb.map Ls.s) k x.s (by rw [List.getElem?_map, hx]; rfl)
      have HXL := Lib.hid hxl
      have HXC := Lib.hid hc
      have HID := Lib.hid hxl.ok.id
      have HJS := Lib.hid hjs
      obtain ⟨⟨x0, x1, x2, x3, x4, x5, x6, x7, x8, ats⟩, xA, xc⟩ := x
      simp only at HJS HID
      obtain ⟨q, hq⟩ : ∃ q, q = ats.length := ⟨_, rfl⟩
      have HQ := Lib.hid hq
      have HX := Lib.hid hx
      clear hc hx hxl hjs hq
      go_wp2_with fail
      generalize wr = w7 at *
      go_loopw [12, 13] (fun v j wq => ∃ g : Nat, j = .int .i64 g ∧ g ≤ na ∧ v = .bool (decide (x2 ∈ ((la.map Ls.s).take g).map Sp.id)) ∧ Hid (∀ p, wq.cell? p = w7.cell? p) ∧ Hid (Below w7.heap.size w7 wq)) (fun _ j _ => na - (intOf j).toNat)
      case atStart => exact ⟨0, rfl, Nat.zero_le _, rfl, Lib.hid (fun _ => rfl), Lib.hid (Below.refl _ _)⟩
      case round =>
        obtain ⟨g, rfl, hg, rfl, HC, HBq⟩ := hrel
        by_cases hgl : g < na
        · obtain ⟨y, hy⟩ : ∃ y, la[g]? = some y := ⟨_, List.getElem?_eq_getElem (by rw [← HNA.out]; exact hgl)⟩
          obtain ⟨a, ha, hab, hd, hyl⟩ := HRA5.out.at_ hy
          subst ha
          have hst : decide (x2 ∈ ((la.map Ls.s).take (g + 1)).map Sp.id) = (decide (x2 ∈ ((la.map Ls.s).take g).map Sp.id) || (y.s.id == x2)) := by
            rw [List.take_add_one, List.getElem?_map, hy, Bool.eq_iff_iff]
            simp only [decide_eq_true_eq, List.map_append, List.mem_append, Option.map_some, Option.toList_some, List.map_cons, List.map_nil, List.mem_singleton, Bool.or_eq_true, beq_iff_eq]
            constructor
            · rintro (h | h)
              · exact .inl h
              · exact .inr h.symm
            · rintro (h | h)
              · exact .inl h
              · exact .inr h.symm
          have a2 : wr.cell? ⟨(a.add (g * 10)).block, (a.add (g * 10)).off + 2, none⟩ = some (.int .u64 y.s.id) := (HC.out _).trans ((HB.out.cell (by simp only [block_add]; exact hab)).trans (cell_far (hd 2 _ rfl) (by omega)))
          have b2 : wr.cell? ⟨(b.add (k * 10)).block, (b.add (k * 10)).off + 2, none⟩ = some (.int .u64 x2) := (HC.out _).trans ((HB.out.cell (by simp only [block_add]; exact hbb)).trans (cell_far (HXC.out 2 _ rfl) (by omega)))
          obtain ⟨z, hz⟩ : ∃ z, z = y.s.id := ⟨_, rfl⟩
          rw [← hz] at hst a2
          have HST := Lib.hid hst
          have i1 : (0 : Int) ≤ g := by omega
          have i2 : (g : Int) < na := by omega
          have i3 : (0 : Int) ≤ k := by omega
          have i4 : (k : Int) < nb := by omega
          clear hst hd hyl hy hz
          generalize decide (x2 ∈ ((la.map Ls.s).take g).map Sp.id) = t at *
          cases t
          · cases hzy : (z == x2)
            all_goals
              go_wp2_with fail
              go_quiet (fail)
              go_wp2_with fail
              go_roundw
              case rel => exact ⟨g + 1, by go_num, by omega, by rw [HST.out, hzy]; rfl, Lib.hid (fun p => HC.out p), Lib.hid (HBq.out.trans ⟨rfl, rfl, rfl, Nat.le_refl _, fun _ _ => rfl⟩)⟩
              case measure => simp [intOf]; omega
          · go_wp2_with fail
            go_quiet (fail)
            go_wp2_with fail
            go_roundw
            case rel => exact ⟨g + 1, by go_num, by omega, by rw [HST.out]; rfl, Lib.hid (fun p => HC.out p), Lib.hid (HBq.out.trans ⟨rfl, rfl, rfl, Nat.le_refl _, fun _ _ => rfl⟩)⟩
            case measure => simp [intOf]; omega
        · obtain rfl : g = na := by omega
          have htk : (la.map Ls.s).take g = la.map Ls.s := List.take_of_length_le (by rw [List.length_map, HNA.out]; exact Nat.le_refl _)
          rw [htk]
          clear htk
          have HOq : Hid (RowSps wr w5.heap.size (.slice wA wn wc) wl) := Lib.hid (HO.out.below hbr HBq.out)
          have HBw : Hid (Below w5.heap.size w5 wr) := Lib.hid (HB.out.trans (HBq.out.mono hbr))
          by_cases hin : x2 ∈ (la.map Ls.s).map Sp.id
          · rw [decide_eq_true hin]
            have HJN : Hid (wl.map Ls.s = joined (la.map Ls.s) (lb.map Ls.s) (k + 1)) := Lib.hid (by rw [HJS.out, HJ.out]; unfold notIn; rw [decide_eq_true hin]; simp)
            clear hin
            go_wp2_with fail
            go_roundw
            case rel => exact ⟨k + 1, wn, wl, wA, wc, rfl, by go_num, by omega, by omega, HWN, HOq, HJN, HBw⟩
            case measure => simp [intOf]; omega
          · rw [decide_eq_false hin]
            have HJN : Hid (wl.map Ls.s ++ [⟨x0, x1, x2, x3, x4, x5, x6, x7, x8, ats⟩] = joined (la.map Ls.s) (lb.map Ls.s) (k + 1)) := Lib.hid (by rw [HJS.out, HJ.out]; unfold notIn; rw [decide_eq_false hin]; simp)
            clear hin
            have c0 : wr.cell? (b.add (k * 10)) = some (.int .u64 x0) := (HC.out _).trans ((HB.out.cell (by simp only [block_add]; exact hbb)).trans (HXC.out 0 _ rfl))
            have c1 : wr.cell? ⟨(b.add (k * 10)).block, (b.add (k * 10)).off + 1, none⟩ = some (.int .u64 x1) := (HC.out _).trans ((HB.out.cell (by simp only [block_add]; exact hbb)).trans (cell_far (HXC.out 1 _ rfl) (by omega)))
            have c2 : wr.cell? ⟨(b.add (k * 10)).block, (b.add (k * 10)).off + 2, none⟩ = some (.int .u64 x2) := (HC.out _).trans ((HB.out.cell (by simp only [block_add]; exact hbb)).trans (cell_far (HXC.out 2 _ rfl) (by omega)))
            have c3 : wr.cell? ⟨(b.add (k * 10)).block, (b.add (k * 10)).off + 3, none⟩ = some (.int .u64 x3) := (HC.out _).trans ((HB.out.cell (by simp only [block_add]; exact hbb)).trans (cell_far (HXC.out 3 _ rfl) (by omega)))
            have c4 : wr.cell? ⟨(b.add (k * 10)).block, (b.add (k * 10)).off + 4, none⟩ = some (.string x4) := (HC.out _).trans ((HB.out.cell (by simp only [block_add]; exact hbb)).trans (cell_far (HXC.out 4 _ rfl) (by omega)))
            have c5 : wr.cell? ⟨(b.add (k * 10)).block, (b.add (k * 10)).off + 5, none⟩ = some (.string x5) := (HC.out _).trans ((HB.out.cell (by simp only [block_add]; exact hbb)).trans (cell_far (HXC.out 5 _ rfl) (by omega)))
            have c6 : wr.cell? ⟨(b.add (k * 10)).block, (b.add (k * 10)).off + 6, none⟩ = some (.int .i64 x6) := (HC.out _).trans ((HB.out.cell (by simp only [block_add]; exact hbb)).trans (cell_far (HXC.out 6 _ rfl) (by omega)))
            have c7 : wr.cell? ⟨(b.add (k * 10)).block, (b.add (k * 10)).off + 7, none⟩ = some (.int .i64 x7) := (HC.out _).trans ((HB.out.cell (by simp only [block_add]; exact hbb)).trans (cell_far (HXC.out 7 _ rfl) (by omega)))
            have c8 : wr.cell? ⟨(b.add (k * 10)).block, (b.add (k * 10)).off + 8, none⟩ = some (.bool x8) := (HC.out _).trans ((HB.out.cell (by simp only [block_add]; exact hbb)).trans (cell_far (HXC.out 8 _ rfl) (by omega)))
            have c9 : wr.cell? ⟨(b.add (k * 10)).block, (b.add (k * 10)).off + 9, none⟩ = some (.slice xA q xc) := (HC.out _).trans ((HB.out.cell (by simp only [block_add]; exact hbb)).trans (by rw [HQ.out]; exact cell_far (HXC.out 9 _ rfl) (by omega)))
            have hbw : (b.add (k * 10)).block < wr.heap.size := by rw [block_add]; exact Nat.lt_of_lt_of_le hbb HBw.out.size
            have HA2 := Lib.hid ((Below.refl wr.heap.size wr).alloc (Nat.le_refl _) (.cells #[.int .u64 x0, .int .u64 x1, .int .u64 x2, .int .u64 x3, .string x4, .string x5, .int .i64 x6, .int .i64 x7, .bool x8, .slice xA q xc] 36))
            have hB5 : w5.heap.size ≤ wr.heap.size := HBw.out.size
            have HR2 : Hid (Rd (wr.alloc (.cells #[.int .u64 x0, .int .u64 x1, .int .u64 x2, .int .u64 x3, .string x4, .string x5, .int .i64 x6, .int .i64 x7, .bool x8, .slice xA q xc] 36)) (wr.heap.size + 1) (some ⟨wr.heap.size, 0, none⟩) ([Ls.mk ⟨x0, x1, x2, x3, x4, x5, x6, x7, x8, ats⟩ xA xc].flatMap Ls.cells)) := Lib.hid (by rw [List.flatMap_cons, List.flatMap_nil, List.append_nil, Ls.lit_cells _ _ _ _ _ _ _ _ _ _ _ _ q HQ.out]; exact Rd.lit wr _ _)
            have HE2 : Hid (∀ y ∈ [Ls.mk ⟨x0, x1, x2, x3, x4, x5, x6, x7, x8, ats⟩ xA xc], RdL (wr.alloc (.cells #[.int .u64 x0, .int .u64 x1, .int .u64 x2, .int .u64 x3, .string x4, .string x5, .int .i64 x6, .int .i64 x7, .bool x8, .slice xA q xc] 36)) w5.heap.size y) := Lib.hid (fun y hy => by rw [List.mem_singleton] at hy; subst hy; exact HXL.out.below (HBw.out.trans (HA2.out.mono hB5)))
            go_wp2_with (at_builtin; refine wpList_app rfl (.tmp 64) (.tmp 69) _ _ rfl rfl rfl (RowSps.app (xs := [Ls.mk ⟨x0, x1, x2, x3, x4, x5, x6, x7, x8, ats⟩ xA xc]) (HOq.out.below hB5 HA2.out) HE2.out rfl HR2.out (by have := HWN.out; omega) (by omega) (Nat.le_trans hB5 HA2.out.size)) ?_; rintro v8 w8 ⟨ho8, hb8⟩; have HO8 := Lib.hid ho8; have HB8 := Lib.hid hb8; clear ho8 hb8)
            obtain ⟨wA8, wc8, hv8, _, _⟩ := HO8.out.rd (Nat.le_trans hB5 (Nat.le_trans HA2.out.size HB8.out.size))
            rw [List.length_append, List.length_singleton, ← HWN.out] at hv8
            subst hv8
            go_roundw
            case rel => exact ⟨k + 1, wn + 1, wl ++ [Ls.mk ⟨x0, x1, x2, x3, x4, x5, x6, x7, x8, ats⟩ xA xc], wA8, wc8, rfl, by go_num, by omega, by omega, Lib.hid (by rw [List.length_append, List.length_singleton, HWN.out]), HO8, Lib.hid (by rw [List.map_append, ← HJN.out]; rfl), Lib.hid (HBw.out.trans ((HA2.out.mono hB5).trans HB8.out))⟩
            case measure => simp [intOf]; omega
    · obtain rfl : k = nb := by omega
      have hbr2 : w5.heap.size ≤ wr.heap.size := hbr
      have HWB : Hid (Below w.heap.size w wr) := Lib.hid (HB6.out.trans (HB.out.mono (by have := HZ5.out; omega)))
      have HTW : Hid (wr.heap[w.heap.size]? = some (.cells #[.int .u64 th, .int .u64 tl] 33)) := Lib.hid ((HB.out.block _ HZ5.out).trans HT5.out)
      have hzw : w.heap.size + 1 ≤ wr.heap.size := Nat.le_trans HZ5.out hbr
      have HWS : Hid (RdSps wr wr.heap.size wA wl) := Lib.hid (by
        obtain ⟨A', c', hv, _, hr⟩ := HO.out.rd hbr
        injection hv with h1 _ h3
        subst h1
        exact hr)
      have HJM : Hid (wl.map Ls.s = (spAll th tl (l ++ m)).1) := Lib.hid (by
        rw [HJ.out, HMA.out, HMB.out]
        exact joined_all th tl l m (by rw [← HMB.out, List.length_map, ← HNB.out]; exact Nat.le_refl _))
      have HGB := Lib.hid (HGL.out.both HGM.out)
      clear HO HJ HB HRA5 HRB5 HMA HMB HT5 HZ5 HB6
      go_wp2_with fail
      refine PG.wp_region_persG (R := Below wr.heap.size) (G := fun _ _ => True) (by kernel_rfl) (PG.formed_of (by kernel_rfl)) jgoes (fun _ => trivial) (JF wr.heap.size th tl (.slice lA ln lc) (.slice mA mn mc) (.slice wA wn wc) l m) ?_ ?_
      · intro i o ho
        have HDW : Hid (Below w.heap.size w wr.drew) := Lib.hid (HWB.out.trans ((below_drew wr).mono HWB.out.size))
        have HTD : Hid (wr.drew.heap[w.heap.size]? = some (.cells #[.int .u64 th, .int .u64 tl] 33)) := Lib.hid HTW.out
        have HSD : Hid (RdSps wr.drew wr.heap.size wA wl) := Lib.hid (HWS.out.below (below_drew wr))
        rcases i with _ | _ | _ | _ | _ | _ | _ | _ | _ | i
        · obtain rfl := Option.some.inj (show some _ = some o from ho)
          exact PG.shown_move (.tmp 0) rfl (.inl rfl) jgoes fun a w3 hr T => T.was 0 (by kernel_rfl)
        · obtain rfl := Option.some.inj (show some _ = some o from ho)
          refine PG.shown_val rfl fun a w3 hr T => ?_
          have h71 : a.eval (.tmp 71) = .slice lA ln lc := T.at_ 0 71 (by kernel_rfl) (by kernel_rfl)
          have hz3 : wr.heap.size ≤ w3.heap.size := hr.size
          have hlr : Rd w3 w.heap.size lA (l.flatMap Le.cells) := HL.out.rd.below (HDW.out.trans (hr.mono HWB.out.size))
          obtain ⟨v', w', r1, r2, r3, _, _⟩ := appE2 (ty := 62) (c := lc) (w := w3) (base := wr.heap.size) (v := .slice none 0 0) (l := []) (xs := l) (World.ownsRow_nil _ _ _ _) HLN.out hlr (Nat.zero_le _) (by have := HGL.out.1; have := HLN.out; omega) hz3
          refine ⟨v', w', by simp only [execOp, resolve, invoke, builtin, Sem.run_bind, Sem.run_pure, Result.andThen_ok, List.map_toArray, List.map_cons, List.map_nil, h71, show a.eval (.const (.slice none 0 0)) = .slice none 0 0 from rfl, r1], jpost hz3 r3.new r2⟩
        · obtain rfl := Option.some.inj (show some _ = some o from ho)
          exact PG.shown_move (.tmp 1) rfl (.inl rfl) jgoes fun a w3 hr T => T.was 1 (by kernel_rfl)
        · obtain rfl := Option.some.inj (show some _ = some o from ho)
          refine PG.shown_val rfl fun a w3 hr T => ?_
          have h1 : w3.ownsRow wr.heap.size 59 6 (a.eval (.tmp 72)) l.length (l.flatMap Le.cells) := T.at_ 1 72 (by kernel_rfl) (by kernel_rfl)
          have h73 : a.eval (.tmp 73) = .slice mA mn mc := T.at_ 2 73 (by kernel_rfl) (by kernel_rfl)
          have hz3 : wr.heap.size ≤ w3.heap.size := hr.size
          have hmr : Rd w3 w.heap.size mA (m.flatMap Le.cells) := HM.out.rd.below (HDW.out.trans (hr.mono HWB.out.size))
          obtain ⟨v', w', r1, r2, r3, r4, r5⟩ := appE2 (ty := 62) (c := mc) h1 HMN.out hmr (by have := HGL.out.1; omega) (by have := HGM.out.1; have := HMN.out; omega) hz3
          refine ⟨v', w', by simp only [execOp, resolve, invoke, builtin, Sem.run_bind, Sem.run_pure, Result.andThen_ok, List.map_toArray, List.map_cons, List.map_nil, h73, r1], r5, r2, fun _ _ _ => trivial, fun j v hj hw hF => ?_⟩
          match j, hj, hw, hF with
          | 0, _, _, hF => exact hF
          | 1, _, _, hF => exact still_own (by omega) h1 r3 r4 hF
          | 2, _, _, hF => exact hF
          | 3, hj, _, _ => exact absurd rfl hj
          | 4, _, _, hF => exact hF
          | 5, _, _, hF => obtain ⟨A5, c5, l5, h4, h5, h6⟩ := hF; exact ⟨A5, c5, l5, h4, OwnSps.grew h5 h1 r3 (by decide) (by decide), h6⟩
          | 6, _, _, hF => exact hF
          | 7, _, _, hF => exact hF
          | 8, _, _, hF => exact hF
          | _ + 9, _, _, _ => trivial
        · obtain rfl := Option.some.inj (show some _ = some o from ho)
          refine PG.shown_val rfl fun a w3 hr T => ?_
          have h5 : a.eval (.tmp 5) = .pointer (some ⟨w.heap.size, 0, none⟩) := T.was 5 (by kernel_rfl)
          have hO : w3.heap[w.heap.size]? = some (.cells #[.int .u64 th, .int .u64 tl] 33) := (hr.block _ (by omega)).trans HTD.out
          have v0 : w3.cell? ⟨w.heap.size, 0, none⟩ = some (.int .u64 th) := cell_of_row _ _ 0 _ _ (0, 0) hO
          have v1 : w3.cell? ⟨w.heap.size, 1, none⟩ = some (.int .u64 tl) := cell_of_row _ _ 1 _ _ (0, 0) hO
          exact ⟨.agg #[.int .u64 th, .int .u64 tl], w3, by simp only [execOp, h5]; simp [go_sem, v0, v1], PG.Post.pure jgoes rfl⟩
        · obtain rfl := Option.some.inj (show some _ = some o from ho)
          refine PG.shown_call rfl 41 fun a w3 hr T => ?_
          have h3 : w3.ownsRow wr.heap.size 59 6 (a.eval (.tmp 74)) (l ++ m).length ((l ++ m).flatMap Le.cells) := T.at_ 3 74 (by kernel_rfl) (by kernel_rfl)
          have h75 : a.eval (.tmp 75) = .agg #[.int .u64 th, .int .u64 tl] := T.at_ 4 75 (by kernel_rfl) (by kernel_rfl)
          have hz3 : wr.heap.size ≤ w3.heap.size := hr.size
          have hw3 : Below w.heap.size w w3 := HDW.out.trans (hr.mono HWB.out.size)
          obtain ⟨A2, c2, h74, _, hrd⟩ := own_rd h3
          have hre : RdEps w3 w3.heap.size A2 (l ++ m) := ⟨hrd, fun e he => by
            rcases List.mem_append.1 he with he | he
            · exact ((HL.out.each e he).below hw3).more hw3.size
            · exact ((HM.out.each e he).below hw3).more hw3.size⟩
          refine ⟨#[.slice A2 (l ++ m).length c2, .agg #[.int .u64 th, .int .u64 tl]], by simp only [execOp, resolve, List.map_toArray, List.map_cons, List.map_nil, h74, h75]; simp [go_sem, Act.eval], ?_⟩
          refine (spans_any A2 (l ++ m) (l ++ m).length c2 w3.heap.size th tl w3 rfl hre (Nat.le_refl _) HGB.out.1 HGB.out.2.1 HGB.out.2.2).mono fun e w4 hh => ?_
          obtain ⟨v, l5, rfl, ho4, hm4, hb4⟩ := hh
          obtain ⟨A5, c5, rfl, _, _⟩ := ho4.rd
          exact ⟨_, rfl, jpost hz3 hb4 ⟨A5, c5, l5, rfl, ho4.mono hz3, hm4⟩⟩
        · obtain rfl := Option.some.inj (show some _ = some o from ho)
          exact PG.shown_move (.tmp 10) rfl (.inl rfl) jgoes fun a w3 hr T => T.was 10 (by kernel_rfl)
        · obtain rfl := Option.some.inj (show some _ = some o from ho)
          refine PG.shown_call rfl 43 fun a w3 hr T => ?_
          obtain ⟨A5, c5, l5, h76, ho5, hm5⟩ := T.at_ 5 76 (by kernel_rfl) (by kernel_rfl)
          have h77 : a.eval (.tmp 77) = .slice wA wn wc := T.at_ 6 77 (by kernel_rfl) (by kernel_rfl)
          have hz3 : wr.heap.size ≤ w3.heap.size := hr.size
          have hlen : wn = l5.length := by
            have h1 := congrArg List.length hm5
            have h2 := congrArg List.length HJM.out
            rw [List.length_map] at h1 h2
            have := HWN.out
            omega
          have hr5 : RdSps w3 w3.heap.size A5 l5 := by
            rw [h76] at ho5
            obtain ⟨A', c', hv, _, hr⟩ := ho5.rd
            injection hv with h1 _ h3
            subst h1
            exact hr
          refine ⟨#[.slice A5 l5.length c5, .slice wA l5.length wc], by simp only [execOp, resolve, List.map_toArray, List.map_cons, List.map_nil, h76, h77, hlen]; simp [go_sem, Act.eval], ?_⟩
          refine (samespans_eq A5 wA l5 wl l5.length c5 wc w3.heap.size w3 rfl hr5 ((HSD.out.below hr).more hz3) (by rw [hm5, HJM.out]) (Nat.le_refl _) (by unfold maxLen; omega)).mono fun e w4 hh => ?_
          obtain ⟨rfl, hb4⟩ := hh
          exact ⟨_, rfl, jpost hz3 hb4 rfl⟩
        · obtain rfl := Option.some.inj (show some _ = some o from ho)
          exact PG.shown_move (.tmp 78) rfl (.inr rfl) jgoes fun a w3 hr T => T.at_ 7 78 (by kernel_rfl) (by kernel_rfl)
        · cases ho
      · intro x w9 hr hf he
        have hx8 : x 8 = .bool true := hf 8 _ 6 rfl rfl
        have HB9 : Hid (Below w.heap.size w w9) := Lib.hid (HWB.out.trans (((below_drew wr).mono HWB.out.size).trans (hr.mono HWB.out.size)))
        clear hf he hr
        simp only [PG.putAll, Act.put, List.setIfInBounds_toArray, List.set_cons_zero, List.set_cons_succ, Nat.reduceAdd, Nat.zero_add]
        rw [hx8]
        clear hx8
        go_wp2_with fail
        go_ret
        exact ⟨rfl, HB9.out⟩
end Go.Proofs.Ythkclgkbidhmbaa
