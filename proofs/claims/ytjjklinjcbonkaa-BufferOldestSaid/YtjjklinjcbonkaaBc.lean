/- BufferClose: just those are closed that are quiet long enough, or old enough, that none is lost, and that they stand in order. -/
import Derived.Test.YtjjklinjcbonkaaCl
import Derived.Test.YtjjklinjcbonkaaFe
namespace Go.Proofs.Ytjjklinjcbonkaa
open Go.RowKit
set_option linter.unusedVariables false
set_option linter.unusedSimpArgs false
set_option maxRecDepth 100000

theorem own_cap' {w : World} {base e size n : Nat} {v : Value} {xs : List Value} (h : w.ownsRow base e size v n xs) : ∀ A c, v = .slice A n c → c ≤ maxLen := fun A c hv => by subst hv; exact (own_cap h).2
theorem GoodEps.mod {l : List Le} (h : GoodEps l) : ModE l := ⟨by have := h.1; omega, fun e he => ⟨Nat.le_trans (fewAll_len (h.2 e he)) (by omega), fun x hx => Nat.le_trans (fewAll_ats (h.2 e he) x hx) (by omega)⟩⟩
theorem filter_at {α : Type} (p : α → Bool) : ∀ (L : List α) (k : Nat) (e : α), L[k]? = some e → p e = true → (L.filter p)[((L.take k).filter p).length]? = some e
  | [], _, _, h, _ => by cases h
  | x :: r, 0, e, h, hp => by
    simp only [List.getElem?_cons_zero, Option.some.injEq] at h
    subst h
    rw [List.take_zero, List.filter_nil, List.filter_cons, if_pos hp]
    rfl
  | x :: r, k + 1, e, h, hp => by
    have ih := filter_at p r k e (by simpa using h) hp
    rw [List.take_succ_cons, List.filter_cons, List.filter_cons]
    by_cases hx : p x = true
    · rw [if_pos hx, if_pos hx, List.length_cons, List.getElem?_cons_succ]
      exact ih
    · rw [if_neg hx, if_neg hx]
      exact ih
theorem filter_step {α : Type} (p : α → Bool) (L : List α) (k : Nat) (e : α) (h : L[k]? = some e) : ((L.take (k + 1)).filter p).length = ((L.take k).filter p).length + (if p e = true then 1 else 0) := by
  rw [List.take_add_one, h, List.filter_append, List.length_append]
  by_cases hp : p e = true <;> simp [hp]
/-- One of a row of episodes, as a row of one. -/
theorem RdEps.one {w : World} {B b off k : Nat} {e : Le} (hb : b < B) (hc : ∀ j u, e.cells[j]? = some u → w.cell? ⟨b, off + k * 6 + j, none⟩ = some u) (hr : RdSps w B e.A e.l) : RdEps w B (some ⟨b, off + k * 6, none⟩) [e] := by
  refine ⟨fun _ => ⟨_, rfl, hb, fun i u hu => ?_⟩, fun x hx => by rw [List.mem_singleton] at hx; subst hx; exact hr⟩
  rw [addr_plain]
  exact hc i u (by simpa using hu)
def BcF (b off p c2 j d oof n c k : Nat) : Nat → Value → World → Prop
  | 0, v, _ => v = .int .i64 (j : Int)
  | 1, v, _ => v = .slice (some ⟨b, off, none⟩) p c2
  | 2, v, _ => v = .int .i64 (p : Int)
  | 3, v, _ => v = .bool false
  | 4, v, _ => v = .bool false
  | 5, v, _ => v = .slice (some ⟨b, off, none⟩) p c2
  | 6, v, _ => v = .int .i64 (j : Int)
  | 7, v, _ => v = .int .i64 (j : Int)
  | 8, v, _ => v = .int .i64 ((j + 1 : Nat) : Int)
  | 9, v, _ => v = .slice (some ⟨b, off + j * 6, none⟩) 1 (c2 - j)
  | 10, v, _ => v = .slice (some ⟨d, oof, none⟩) n c
  | 11, v, _ => v = .int .i64 (k : Int)
  | 12, v, _ => v = .int .i64 (k : Int)
  | 13, v, _ => v = .int .i64 ((k + 1 : Nat) : Int)
  | 14, v, _ => v = .slice (some ⟨d, oof + k * 6, none⟩) 1 (c - k)
  | 15, v, _ => v = .bool true
  | 16, v, _ => v = .bool false
  | 17, v, _ => v = .bool false
  | _, _, _ => True
theorem BcF.keep {b off p c2 j d oof n c k : Nat} {w w' : World} {i : Nat} {v : Value} (h : BcF b off p c2 j d oof n c k i v w) : BcF b off p c2 j d oof n c k i v w' := by
  match i, h with
  | 0, h => exact h
  | 1, h => exact h
  | 2, h => exact h
  | 3, h => exact h
  | 4, h => exact h
  | 5, h => exact h
  | 6, h => exact h
  | 7, h => exact h
  | 8, h => exact h
  | 9, h => exact h
  | 10, h => exact h
  | 11, h => exact h
  | 12, h => exact h
  | 13, h => exact h
  | 14, h => exact h
  | 15, h => exact h
  | 16, h => exact h
  | 17, h => exact h
  | _ + 18, h => trivial
set_option maxHeartbeats 16000000 in
theorem close16_out (A : Option Addr) (l : List Le) (n c : Nat) (now idle age : Int) (w : World) (hn : n = l.length) (hy : RdEps w w.heap.size A l) (ho : ∀ e ∈ l, e.ok) (hl : n ≤ maxLen) (h : now < 0 ∨ 1099511627776 < now ∨ idle < 1 ∨ 1073741824 < idle ∨ age < 1 ∨ 1073741824 < age) :
    Calls Try.prog 5 #[.slice A n c, .int .i64 now, .int .i64 idle, .int .i64 age] w fun e w' => e = .returned (.bool true) ∧ Below w.heap.size w w' := by
  have HFW : Hid (∀ W, Below w.heap.size w W → Calls Try.prog 8 #[.slice A n c] W (FewEp l W)) := Lib.hid (fun W hW => few15_any A l n c w.heap.size W hn (hy.below hW) ho hW.size hl)
  have hh : (now < 0) ∨ (¬ now < 0 ∧ 1099511627776 < now) ∨ (¬ now < 0 ∧ ¬ 1099511627776 < now ∧ idle < 1) ∨ (¬ now < 0 ∧ ¬ 1099511627776 < now ∧ ¬ idle < 1 ∧ 1073741824 < idle) ∨ (¬ now < 0 ∧ ¬ 1099511627776 < now ∧ ¬ idle < 1 ∧ ¬ 1073741824 < idle ∧ age < 1) ∨ (¬ now < 0 ∧ ¬ 1099511627776 < now ∧ ¬ idle < 1 ∧ ¬ 1073741824 < idle ∧ ¬ age < 1 ∧ 1073741824 < age) := by omega
  clear h hn hy ho
  rcases hh with h0 | ⟨h0, h1⟩ | ⟨h0, h1, h2⟩ | ⟨h0, h1, h2, h3⟩ | ⟨h0, h1, h2, h3, h4⟩ | ⟨h0, h1, h2, h3, h4, h5⟩
  · have d0 : decide (now < 0) = true := decide_eq_true h0
    clear h0
    go_enter Try.func5, Try.ntmps5
    go_wp2_with fail
    refine (alive16_calls _).mono ?_
    rintro e w1 ⟨rfl, hb1⟩
    have HB1 := Lib.hid hb1
    clear hb1
    go_wp2_with fail
    refine (HFW.out w1 HB1.out).mono ?_
    rintro e w2 ⟨fb, rfl, hfb, hb2⟩
    have HB2 := Lib.hid (HB1.out.trans (hb2.mono HB1.out.size))
    have HGO := Lib.hid hfb
    clear hb2 hfb HB1 HFW
    cases fb
    · go_wp2_with fail
      go_ret
      exact ⟨rfl, HB2.out⟩
    · go_wp2_with fail
      go_ret
      exact ⟨rfl, HB2.out⟩
  · have d0 : decide (now < 0) = false := decide_eq_false h0
    have d1 : decide (1099511627776 < now) = true := decide_eq_true h1
    clear h0 h1
    go_enter Try.func5, Try.ntmps5
    go_wp2_with fail
    refine (alive16_calls _).mono ?_
    rintro e w1 ⟨rfl, hb1⟩
    have HB1 := Lib.hid hb1
    clear hb1
    go_wp2_with fail
    refine (HFW.out w1 HB1.out).mono ?_
    rintro e w2 ⟨fb, rfl, hfb, hb2⟩
    have HB2 := Lib.hid (HB1.out.trans (hb2.mono HB1.out.size))
    have HGO := Lib.hid hfb
    clear hb2 hfb HB1 HFW
    cases fb
    · go_wp2_with fail
      go_ret
      exact ⟨rfl, HB2.out⟩
    · go_wp2_with fail
      go_ret
      exact ⟨rfl, HB2.out⟩
  · have d0 : decide (now < 0) = false := decide_eq_false h0
    have d1 : decide (1099511627776 < now) = false := decide_eq_false h1
    have d2 : decide (idle < 1) = true := decide_eq_true h2
    clear h0 h1 h2
    go_enter Try.func5, Try.ntmps5
    go_wp2_with fail
    refine (alive16_calls _).mono ?_
    rintro e w1 ⟨rfl, hb1⟩
    have HB1 := Lib.hid hb1
    clear hb1
    go_wp2_with fail
    refine (HFW.out w1 HB1.out).mono ?_
    rintro e w2 ⟨fb, rfl, hfb, hb2⟩
    have HB2 := Lib.hid (HB1.out.trans (hb2.mono HB1.out.size))
    have HGO := Lib.hid hfb
    clear hb2 hfb HB1 HFW
    cases fb
    · go_wp2_with fail
      go_ret
      exact ⟨rfl, HB2.out⟩
    · go_wp2_with fail
      go_ret
      exact ⟨rfl, HB2.out⟩
  · have d0 : decide (now < 0) = false := decide_eq_false h0
    have d1 : decide (1099511627776 < now) = false := decide_eq_false h1
    have d2 : decide (idle < 1) = false := decide_eq_false h2
    have d3 : decide (1073741824 < idle) = true := decide_eq_true h3
    clear h0 h1 h2 h3
    go_enter Try.func5, Try.ntmps5
    go_wp2_with fail
    refine (alive16_calls _).mono ?_
    rintro e w1 ⟨rfl, hb1⟩
    have HB1 := Lib.hid hb1
    clear hb1
    go_wp2_with fail
    refine (HFW.out w1 HB1.out).mono ?_
    rintro e w2 ⟨fb, rfl, hfb, hb2⟩
    have HB2 := Lib.hid (HB1.out.trans (hb2.mono HB1.out.size))
    have HGO := Lib.hid hfb
    clear hb2 hfb HB1 HFW
    cases fb
    · go_wp2_with fail
      go_ret
      exact ⟨rfl, HB2.out⟩
    · go_wp2_with fail
      go_ret
      exact ⟨rfl, HB2.out⟩
  · have d0 : decide (now < 0) = false := decide_eq_false h0
    have d1 : decide (1099511627776 < now) = false := decide_eq_false h1
    have d2 : decide (idle < 1) = false := decide_eq_false h2
    have d3 : decide (1073741824 < idle) = false := decide_eq_false h3
    have d4 : decide (age < 1) = true := decide_eq_true h4
    clear h0 h1 h2 h3 h4
    go_enter Try.func5, Try.ntmps5
    go_wp2_with fail
    refine (alive16_calls _).mono ?_
    rintro e w1 ⟨rfl, hb1⟩
    have HB1 := Lib.hid hb1
    clear hb1
    go_wp2_with fail
    refine (HFW.out w1 HB1.out).mono ?_
    rintro e w2 ⟨fb, rfl, hfb, hb2⟩
    have HB2 := Lib.hid (HB1.out.trans (hb2.mono HB1.out.size))
    have HGO := Lib.hid hfb
    clear hb2 hfb HB1 HFW
    cases fb
    · go_wp2_with fail
      go_ret
      exact ⟨rfl, HB2.out⟩
    · go_wp2_with fail
      go_ret
      exact ⟨rfl, HB2.out⟩
  · have d0 : decide (now < 0) = false := decide_eq_false h0
    have d1 : decide (1099511627776 < now) = false := decide_eq_false h1
    have d2 : decide (idle < 1) = false := decide_eq_false h2
    have d3 : decide (1073741824 < idle) = false := decide_eq_false h3
    have d4 : decide (age < 1) = false := decide_eq_false h4
    have d5 : decide (1073741824 < age) = true := decide_eq_true h5
    clear h0 h1 h2 h3 h4 h5
    go_enter Try.func5, Try.ntmps5
    go_wp2_with fail
    refine (alive16_calls _).mono ?_
    rintro e w1 ⟨rfl, hb1⟩
    have HB1 := Lib.hid hb1
    clear hb1
    go_wp2_with fail
    refine (HFW.out w1 HB1.out).mono ?_
    rintro e w2 ⟨fb, rfl, hfb, hb2⟩
    have HB2 := Lib.hid (HB1.out.trans (hb2.mono HB1.out.size))
    have HGO := Lib.hid hfb
    clear hb2 hfb HB1 HFW
    cases fb
    · go_wp2_with fail
      go_ret
      exact ⟨rfl, HB2.out⟩
    · go_wp2_with fail
      go_ret
      exact ⟨rfl, HB2.out⟩
set_option maxHeartbeats 64000000 in
theorem close16_in (A : Option Addr) (l : List Le) (n c : Nat) (now idle age : Int) (w : World) (hn : n = l.length) (hy : RdEps w w.heap.size A l) (ho : ∀ e ∈ l, e.ok) (hl : n ≤ maxLen) (hnc : n ≤ c) (hcm : c ≤ maxLen) (h0 : 0 ≤ now ∧ now ≤ 1099511627776) (h1 : 1 ≤ idle ∧ idle ≤ 1073741824) (h2 : 1 ≤ age ∧ age ≤ 1073741824) :
    Calls Try.prog 5 #[.slice A n c, .int .i64 now, .int .i64 idle, .int .i64 age] w fun e w' => e = .returned (.bool true) ∧ Below w.heap.size w w' := by
  have HFW : Hid (∀ W, Below w.heap.size w W → Calls Try.prog 8 #[.slice A n c] W (FewEp l W)) := Lib.hid (fun W hW => few15_any A l n c w.heap.size W hn (hy.below hW) ho hW.size hl)
  have HN := Lib.hid hn
  have HY := Lib.hid hy
  have HO := Lib.hid ho
  have HC := Lib.hid (And.intro hnc hcm)
  have d0 : decide (now < 0) = false := decide_eq_false (by omega)
  have d1 : decide (1099511627776 < now) = false := decide_eq_false (by omega)
  have d2 : decide (idle < 1) = false := decide_eq_false (by omega)
  have d3 : decide (1073741824 < idle) = false := decide_eq_false (by omega)
  have d4 : decide (age < 1) = false := decide_eq_false (by omega)
  have d5 : decide (1073741824 < age) = false := decide_eq_false (by omega)
  have HNO := Lib.hid (And.intro h0 (And.intro h1 h2))
  clear hn hy ho hl hnc hcm h0 h1 h2
  go_enter Try.func5, Try.ntmps5
  go_wp2_with fail
  refine (alive16_calls _).mono ?_
  rintro e w1 ⟨rfl, hb1⟩
  have HB1 := Lib.hid hb1
  clear hb1
  go_wp2_with fail
  refine (HFW.out w1 HB1.out).mono ?_
  rintro e w2 ⟨fb, rfl, hfb, hb2⟩
  have HB2 := Lib.hid (HB1.out.trans (hb2.mono HB1.out.size))
  have HGO := Lib.hid hfb
  clear hb2 hfb HB1 HFW
  cases fb
  · go_wp2_with fail
    go_ret
    exact ⟨rfl, HB2.out⟩
  have HGD := Lib.hid (HGO.out rfl)
  have CLS := Lib.hid (close_any A l n c w.heap.size now idle age w2 HN.out (HY.out.below HB2.out) HB2.out.size HGD.out.mod HO.out (by have := HNO.out; omega))
  go_wp2_with fail
  refine CLS.out.mono ?_
  rintro e w3 ⟨u, v, lu, lv, rfl, hu, hv, hmu, hmv, hb3⟩
  have HB3 := Lib.hid (HB2.out.trans (hb3.mono HB2.out.size))
  obtain ⟨uA, uc, hu1, hu2, hu3⟩ := hu.rd
  obtain ⟨vA, vc, hv1, hv2, hv3⟩ := hv.rd
  have huc := own_cap' hu.own
  have hvc := own_cap' hv.own
  obtain ⟨un, hun⟩ : ∃ un, un = lu.length := ⟨_, rfl⟩
  obtain ⟨vn, hvn⟩ : ∃ vn, vn = lv.length := ⟨_, rfl⟩
  rw [← hun] at hu1 hu2
  rw [← hvn] at hv1 hv2
  subst hu1
  subst hv1
  have huc' : uc ≤ maxLen := huc _ _ (by rw [hun])
  have hvc' : vc ≤ maxLen := hvc _ _ (by rw [hvn])
  have HU := Lib.hid hu3
  have HV := Lib.hid hv3
  have HUV := Lib.hid (And.intro hun (And.intro hvn (And.intro hmu (And.intro hmv (And.intro (And.intro hu2 huc') (And.intro hv2 hvc'))))))
  clear hu hv hu2 hu3 hv2 hv3 hun hvn hmu hmv hb3 CLS huc hvc huc' hvc' HGO
  clear d0 d1 d2 d3 d4 d5
  go_wp2_with fail
  go_loopw [14, 12, 13] (fun i a b wr => ∃ k p q : Nat, i = .int .i64 k ∧ a = .int .i64 p ∧ b = .int .i64 q ∧ k ≤ n ∧ Hid (p = (((l.map Le.ep).take k).filter (fun e => !goneE now idle age e)).length ∧ q = (((l.map Le.ep).take k).filter (goneE now idle age)).length) ∧ Hid (Below w3.heap.size w3 wr)) (fun i _ _ _ => n - (intOf i).toNat)
  case atStart => exact ⟨0, 0, 0, rfl, rfl, rfl, Nat.zero_le _, Lib.hid ⟨by simp, by simp⟩, Lib.hid (Below.refl _ _)⟩
  case round =>
    obtain ⟨k, p, q, rfl, rfl, rfl, hk, HPQ, HB⟩ := hrel
    by_cases hlt : k < n
    · obtain ⟨e, he⟩ : ∃ e, l[k]? = some e := ⟨_, List.getElem?_eq_getElem (by rw [← HN.out]; exact hlt)⟩
      have hep : (l.map Le.ep)[k]? = some e.ep := by rw [List.getElem?_map, he]; rfl
      have hok := HO.out e (List.mem_of_getElem? he)
      have HBW := Lib.hid (HB3.out.trans (HB.out.mono HB3.out.size))
      obtain ⟨d, oof, hA, hdB, cx, rx⟩ := eplain (HY.out.below HBW.out) he
      subst hA
      have HRX := Lib.hid rx
      have HCX := Lib.hid cx
      obtain ⟨th, tl, f, la, su, ls, eA, ec⟩ := e
      have x2 := cx 2 _ rfl
      have x3 := cx 3 _ rfl
      have hf := hok.f
      have hla := hok.la
      simp only at hf hla x2 x3
      have HEP := Lib.hid hep
      have HE := Lib.hid he
      have ad := addr_plain d oof (k * 6)
      have hn9 : n ≤ 120 := by have := HGD.out.1; rw [HN.out]; exact this
      clear cx rx hep he hok
      by_cases hr : f < 0 ∨ 1099511627776 < f ∨ la < 0 ∨ 1099511627776 < la
      · have hh : (f < 0) ∨ (¬ f < 0 ∧ 1099511627776 < f) ∨ (¬ f < 0 ∧ ¬ 1099511627776 < f ∧ la < 0) ∨ (¬ f < 0 ∧ ¬ 1099511627776 < f ∧ ¬ la < 0 ∧ 1099511627776 < la) := by omega
        clear hr hf hla
        rcases hh with h0 | ⟨h0, h1⟩ | ⟨h0, h1, h2⟩ | ⟨h0, h1, h2, h3⟩
        · have d0 : decide (f < 0) = true := decide_eq_true h0
          clear h0
          go_wp2_with fail
          go_ret
          exact ⟨rfl, HBW.out⟩
        · have d0 : decide (f < 0) = false := decide_eq_false h0
          have d1 : decide (1099511627776 < f) = true := decide_eq_true h1
          clear h0 h1
          go_wp2_with fail
          go_ret
          exact ⟨rfl, HBW.out⟩
        · have d0 : decide (f < 0) = false := decide_eq_false h0
          have d1 : decide (1099511627776 < f) = false := decide_eq_false h1
          have d2 : decide (la < 0) = true := decide_eq_true h2
          clear h0 h1 h2
          go_wp2_with fail
          go_ret
          exact ⟨rfl, HBW.out⟩
        · have d0 : decide (f < 0) = false := decide_eq_false h0
          have d1 : decide (1099511627776 < f) = false := decide_eq_false h1
          have d2 : decide (la < 0) = false := decide_eq_false h2
          have d3 : decide (1099511627776 < la) = true := decide_eq_true h3
          clear h0 h1 h2 h3
          go_wp2_with fail
          go_ret
          exact ⟨rfl, HBW.out⟩
      · have HFL : Hid ((0 ≤ f ∧ f ≤ 1099511627776) ∧ 0 ≤ la ∧ la ≤ 1099511627776) := Lib.hid (by omega)
        have d0 : decide (f < 0) = false := decide_eq_false (by omega)
        have d1 : decide (1099511627776 < f) = false := decide_eq_false (by omega)
        have d2 : decide (la < 0) = false := decide_eq_false (by omega)
        have d3 : decide (1099511627776 < la) = false := decide_eq_false (by omega)
        have e1 : IntKind.i64.wrap (now - la) = now - la := by have := HNO.out; have := HFL.out; rw [IntKind.wrap_i64] <;> omega
        have e2 : IntKind.i64.wrap (now - f) = now - f := by have := HNO.out; have := HFL.out; rw [IntKind.wrap_i64] <;> omega
        have HSA : Hid (satS now la = now - la ∧ satS now f = now - f) := Lib.hid (by have := HNO.out; have := HFL.out; unfold satS; constructor <;> rw [if_neg (by omega), if_neg (by omega)])
        have HGN : Hid (goneE now idle age ⟨th, tl, f, la, su, ls.map Ls.s⟩ = (decide (idle ≤ now - la) || decide (age ≤ now - f))) := Lib.hid (by unfold goneE; rw [← HSA.out.1, ← HSA.out.2])
        have hcases : (idle ≤ now - la) ∨ (¬ idle ≤ now - la ∧ age ≤ now - f) ∨ (¬ idle ≤ now - la ∧ ¬ age ≤ now - f) := by omega
        clear hr hf hla
        rcases hcases with h1 | ⟨h1, h2⟩ | ⟨h1, h2⟩
        · have d6 : decide (idle ≤ now - la) = true := decide_eq_true h1
          have HGV : Hid (goneE now idle age ⟨th, tl, f, la, su, ls.map Ls.s⟩ = true) := Lib.hid (by rw [HGN.out, d6]; rfl)
          clear h1
          have hfa : (lv.map Le.ep)[q]? = some ⟨th, tl, f, la, su, ls.map Ls.s⟩ := by
            rw [HUV.out.2.2.2.1, HPQ.out.2]
            exact filter_at (goneE now idle age) _ k _ HEP.out (by simp [Le.ep, HGV.out])
          rw [List.getElem?_map] at hfa
          obtain ⟨y, hy1, hy2⟩ : ∃ y, lv[q]? = some y ∧ y.ep = ⟨th, tl, f, la, su, ls.map Ls.s⟩ := by
            cases hz : lv[q]? with
            | none => rw [hz] at hfa; cases hfa
            | some y => rw [hz] at hfa; simp only [Option.map_some, Option.some.injEq] at hfa; exact ⟨y, rfl, hfa⟩
          have hjl : q < vn := by
            have : q < lv.length := by
              rcases Nat.lt_or_ge q lv.length with h | h
              · exact h
              · rw [List.getElem?_eq_none h] at hy1; cases hy1
            have h2 := HUV.out
            omega
          obtain ⟨b, off, hbA, hbB, cy, ry⟩ := eplain (HV.out.below HB.out) hy1
          subst hbA
          obtain ⟨W, hW⟩ : ∃ W, W = wr.drew := ⟨_, rfl⟩
          have hWb : Below wr.heap.size wr W := by rw [hW]; exact ⟨rfl, rfl, rfl, Nat.le_refl _, fun _ _ => rfl⟩
          have HBD := Lib.hid (HB.out.trans (hWb.mono HB.out.size))
          have HS : Hid (∀ W3, Below W.heap.size W W3 → Calls Try.prog 12 #[.slice (some ⟨b, off + q * 6, none⟩) 1 (vc - q), .slice (some ⟨d, oof + k * 6, none⟩) 1 (c - k)] W3 fun e w' => e = .returned (.bool true) ∧ Below W3.heap.size W3 w') := Lib.hid (fun W3 hW3 => by
            have hz : wr.heap.size ≤ W.heap.size := hWb.size
            have k1 : RdEps W3 w3.heap.size (some ⟨b, off + q * 6, none⟩) [y] := ((RdEps.one hbB cy ry).below (hWb.mono HB.out.size)).below (hW3.mono (Nat.le_trans HB.out.size hz))
            have k2 : RdEps W3 w3.heap.size (some ⟨d, oof + k * 6, none⟩) [⟨th, tl, f, la, su, ls, eA, ec⟩] := (((RdEps.one hdB HCX.out HRX.out).more HB3.out.size).below (hWb.mono HB.out.size)).below (hW3.mono (Nat.le_trans HB.out.size hz))
            have hsz : y.l.length ≤ 1000000 := by
              have e1 := congrArg (fun z : Ep => z.l.length) hy2
              simp only [Le.ep, List.length_map] at e1
              have e2 := fewAll_len (HGD.out.2 _ (List.mem_of_getElem? HE.out))
              simp only at e2
              omega
            exact sameeps_eq _ _ [y] [⟨th, tl, f, la, su, ls, eA, ec⟩] 1 (vc - q) (c - k) w3.heap.size W3 rfl k1 k2 (by simp [Le.ep] at hy2 ⊢; exact hy2) (Nat.le_trans HB.out.size (Nat.le_trans hz hW3.size)) (by omega) (fun e he => by rw [List.mem_singleton] at he; subst he; exact hsz))
          have l1 : decide ((vn : Int) ≤ (q : Int)) = false := decide_eq_false (by omega)
          have l2 : decide (vn ≤ q) = false := decide_eq_false (by omega)
          have l3 : (vn ≤ q) = False := by simp; omega
          have l4 : ((vn : Int) ≤ (q : Int)) = False := by simp; omega
          have hcc := HC.out
          have huv := HUV.out
          have hrc : vn ≤ vc := by omega
          have hrcm : vc ≤ maxLen := by omega
          simp only [maxLen] at hrcm hcc
          have ej : IntKind.i64.wrap ((q : Int) + 1) = ((q + 1 : Nat) : Int) := by rw [IntKind.wrap_i64] <;> omega
          have ej2 : ((q + 1 : Nat) : Int) = (q : Int) + 1 := by omega
          have ek : IntKind.i64.wrap ((k : Int) + 1) = ((k + 1 : Nat) : Int) := by rw [IntKind.wrap_i64] <;> omega
          have ek2 : ((k + 1 : Nat) : Int) = (k : Int) + 1 := by omega
          have s1 : (0 : Int) ≤ (q : Int) := by omega
          have s2 : (q : Int) ≤ (q : Int) + 1 := by omega
          have s3 : (q : Int) + 1 ≤ (vc : Int) := by omega
          have s4 : (vc = q) = False := by simp; omega
          have s5 : ((q : Int) + 1).toNat = q + 1 := by omega
          have s6 : q + 1 ≤ vc := by omega
          have s7 : q + 1 - q = 1 := by omega
          have s8 : (⟨b, off, none⟩ : Addr).add (q * 6) = ⟨b, off + q * 6, none⟩ := addr_plain b off (q * 6)
          have s9 : (0 : Int) ≤ (q : Int) + 1 := by omega
          have r1 : (0 : Int) ≤ (k : Int) := by omega
          have r2 : (k : Int) ≤ (k : Int) + 1 := by omega
          have r3 : (k : Int) + 1 ≤ (c : Int) := by omega
          have r4 : (c = k) = False := by simp; omega
          have r5 : ((k : Int) + 1).toNat = k + 1 := by omega
          have r6 : k + 1 ≤ c := by omega
          have r7 : k + 1 - k = 1 := by omega
          have r8 : (⟨d, oof, none⟩ : Addr).add (k * 6) = ⟨d, oof + k * 6, none⟩ := addr_plain d oof (k * 6)
          have r9 : (0 : Int) ≤ (k : Int) + 1 := by omega
          clear hcc huv hrc hrcm hfa hy1 hy2 cy ry hWb
          have hS := HS.out
          go_wp2_with fail
          refine PI.wp_region_persG (R := Below W.heap.size) (G := fun _ _ => True) (I := fun _ _ _ => True) [(2, 1), (3, 0), (3, 2), (4, 3), (5, 4), (6, 4), (7, 4), (8, 4), (8, 7), (9, 4), (9, 5), (9, 6), (9, 8), (10, 4), (11, 4), (12, 4), (13, 4), (13, 12), (14, 4), (14, 10), (14, 11), (14, 13), (15, 4), (15, 9), (15, 14), (16, 4), (16, 15), (17, 4), (17, 16)] [17] (by kernel_rfl) (PI.formed_of (by kernel_rfl)) ⟨fun w => Below.refl _ w, fun _ _ _ h k => h.trans k⟩ (fun _ => trivial) (BcF b off vn vc q d oof n c k) trivial ?_ ?_
          · rw [← hW]
            intro i o ho
            rcases i with _ | _ | _ | _ | _ | _ | _ | _ | _ | _ | _ | _ | _ | _ | _ | _ | _ | _ | i
            · obtain rfl := Option.some.inj (show some _ = some o from ho)
              refine PI.shown_val rfl fun a w3 L0 hr T => ?_
              have h1 : a.eval (.tmp 13) = .int .i64 (q : Int) := T.was 13 (by kernel_rfl)
              exact ⟨.int .i64 (q : Int), w3, by simp only [execOp, h1]; simp [go_sem], PI.Post.pure ⟨fun w => Below.refl _ w, fun _ _ _ h k => h.trans k⟩ rfl trivial⟩
            · obtain rfl := Option.some.inj (show some _ = some o from ho)
              refine PI.shown_val rfl fun a w3 L0 hr T => ?_
              have h1 : a.eval (.tmp 11) = .slice (some ⟨b, off, none⟩) vn vc := T.was 11 (by kernel_rfl)
              exact ⟨.slice (some ⟨b, off, none⟩) vn vc, w3, by simp only [execOp, h1]; simp [go_sem], PI.Post.pure ⟨fun w => Below.refl _ w, fun _ _ _ h k => h.trans k⟩ rfl trivial⟩
            · obtain rfl := Option.some.inj (show some _ = some o from ho)
              refine PI.shown_val rfl fun a w3 L0 hr T => ?_
              have h1 : a.eval (.tmp 113) = .slice (some ⟨b, off, none⟩) vn vc := T.at_ 1 113 (by kernel_rfl) (by kernel_rfl) (by kernel_rfl)
              exact ⟨.int .i64 (vn : Int), w3, by simp only [execOp, resolve, invoke, builtin, Sem.run_bind, Sem.run_pure, Result.andThen_ok, List.map_toArray, List.map_cons, List.map_nil, h1]; simp [go_sem, Builtin.lenOf], PI.Post.pure ⟨fun w => Below.refl _ w, fun _ _ _ h k => h.trans k⟩ rfl trivial⟩
            · obtain rfl := Option.some.inj (show some _ = some o from ho)
              refine PI.shown_val rfl fun a w3 L0 hr T => ?_
              have h1 : a.eval (.tmp 112) = .int .i64 (q : Int) := T.at_ 0 112 (by kernel_rfl) (by kernel_rfl) (by kernel_rfl)
              have h2 : a.eval (.tmp 114) = .int .i64 (vn : Int) := T.at_ 2 114 (by kernel_rfl) (by kernel_rfl) (by kernel_rfl)
              exact ⟨.bool false, w3, by simp only [execOp, h1, h2]; simp [go_sem, l1, l2, l3, l4], PI.Post.pure ⟨fun w => Below.refl _ w, fun _ _ _ h k => h.trans k⟩ rfl trivial⟩
            · obtain rfl := Option.some.inj (show some _ = some o from ho)
              refine PI.shown_val rfl fun a w3 L0 hr T => ?_
              have h1 : a.eval (.tmp 115) = .bool false := T.at_ 3 115 (by kernel_rfl) (by kernel_rfl) (by kernel_rfl)
              exact ⟨.bool false, w3, by simp only [execOp, h1]; simp [go_sem], PI.Post.pure ⟨fun w => Below.refl _ w, fun _ _ _ h k => h.trans k⟩ rfl trivial⟩
            · obtain rfl := Option.some.inj (show some _ = some o from ho)
              refine PI.shown_val_if 4 116 false rfl (by kernel_rfl) (by kernel_rfl) (by kernel_rfl) (fun v w h => h) fun a w3 L0 hr T => ?_
              have h1 : a.eval (.tmp 11) = .slice (some ⟨b, off, none⟩) vn vc := T.was 11 (by kernel_rfl)
              exact ⟨.slice (some ⟨b, off, none⟩) vn vc, w3, by simp only [execOp, h1]; simp [go_sem], PI.Post.pure ⟨fun w => Below.refl _ w, fun _ _ _ h k => h.trans k⟩ rfl trivial⟩
            · obtain rfl := Option.some.inj (show some _ = some o from ho)
              refine PI.shown_val_if 4 116 false rfl (by kernel_rfl) (by kernel_rfl) (by kernel_rfl) (fun v w h => h) fun a w3 L0 hr T => ?_
              have h1 : a.eval (.tmp 13) = .int .i64 (q : Int) := T.was 13 (by kernel_rfl)
              exact ⟨.int .i64 (q : Int), w3, by simp only [execOp, h1]; simp [go_sem], PI.Post.pure ⟨fun w => Below.refl _ w, fun _ _ _ h k => h.trans k⟩ rfl trivial⟩
            · obtain rfl := Option.some.inj (show some _ = some o from ho)
              refine PI.shown_val_if 4 116 false rfl (by kernel_rfl) (by kernel_rfl) (by kernel_rfl) (fun v w h => h) fun a w3 L0 hr T => ?_
              have h1 : a.eval (.tmp 13) = .int .i64 (q : Int) := T.was 13 (by kernel_rfl)
              exact ⟨.int .i64 (q : Int), w3, by simp only [execOp, h1]; simp [go_sem], PI.Post.pure ⟨fun w => Below.refl _ w, fun _ _ _ h k => h.trans k⟩ rfl trivial⟩
            · obtain rfl := Option.some.inj (show some _ = some o from ho)
              refine PI.shown_val_if 4 116 false rfl (by kernel_rfl) (by kernel_rfl) (by kernel_rfl) (fun v w h => h) fun a w3 L0 hr T => ?_
              have h1 : a.eval (.tmp 119) = .int .i64 (q : Int) := T.at_ 7 119 (by kernel_rfl) (by kernel_rfl) (by kernel_rfl)
              exact ⟨.int .i64 ((q + 1 : Nat) : Int), w3, by simp only [execOp, h1]; simp [go_sem, ej, ej2], PI.Post.pure ⟨fun w => Below.refl _ w, fun _ _ _ h k => h.trans k⟩ rfl trivial⟩
            · obtain rfl := Option.some.inj (show some _ = some o from ho)
              refine PI.shown_val_if 4 116 false rfl (by kernel_rfl) (by kernel_rfl) (by kernel_rfl) (fun v w h => h) fun a w3 L0 hr T => ?_
              have h1 : a.eval (.tmp 117) = .slice (some ⟨b, off, none⟩) vn vc := T.at_ 5 117 (by kernel_rfl) (by kernel_rfl) (by kernel_rfl)
              have h2 : a.eval (.tmp 118) = .int .i64 (q : Int) := T.at_ 6 118 (by kernel_rfl) (by kernel_rfl) (by kernel_rfl)
              have h3 : a.eval (.tmp 120) = .int .i64 ((q + 1 : Nat) : Int) := T.at_ 8 120 (by kernel_rfl) (by kernel_rfl) (by kernel_rfl)
              have q2 : a.tmps[118]?.getD undef = .int .i64 (q : Int) := by have := h2; simpa [Act.eval] using this
              have q3 : a.tmps[120]?.getD undef = .int .i64 ((q + 1 : Nat) : Int) := by have := h3; simpa [Act.eval] using this
              exact ⟨.slice (some ⟨b, off + q * 6, none⟩) 1 (vc - q), w3, by simp only [execOp, h1, h2, h3]; simp [go_sem, q2, q3, s1, s2, s3, s4, s5, s6, s7, s8, s9], PI.Post.pure ⟨fun w => Below.refl _ w, fun _ _ _ h k => h.trans k⟩ rfl trivial⟩
            · obtain rfl := Option.some.inj (show some _ = some o from ho)
              refine PI.shown_val_if 4 116 false rfl (by kernel_rfl) (by kernel_rfl) (by kernel_rfl) (fun v w h => h) fun a w3 L0 hr T => ?_
              have h1 : a.eval (.tmp 0) = .slice (some ⟨d, oof, none⟩) n c := T.was 0 (by kernel_rfl)
              exact ⟨.slice (some ⟨d, oof, none⟩) n c, w3, by simp only [execOp, h1]; simp [go_sem], PI.Post.pure ⟨fun w => Below.refl _ w, fun _ _ _ h k => h.trans k⟩ rfl trivial⟩
            · obtain rfl := Option.some.inj (show some _ = some o from ho)
              refine PI.shown_val_if 4 116 false rfl (by kernel_rfl) (by kernel_rfl) (by kernel_rfl) (fun v w h => h) fun a w3 L0 hr T => ?_
              have h1 : a.eval (.tmp 14) = .int .i64 (k : Int) := T.was 14 (by kernel_rfl)
              exact ⟨.int .i64 (k : Int), w3, by simp only [execOp, h1]; simp [go_sem], PI.Post.pure ⟨fun w => Below.refl _ w, fun _ _ _ h k => h.trans k⟩ rfl trivial⟩
            · obtain rfl := Option.some.inj (show some _ = some o from ho)
              refine PI.shown_val_if 4 116 false rfl (by kernel_rfl) (by kernel_rfl) (by kernel_rfl) (fun v w h => h) fun a w3 L0 hr T => ?_
              have h1 : a.eval (.tmp 14) = .int .i64 (k : Int) := T.was 14 (by kernel_rfl)
              exact ⟨.int .i64 (k : Int), w3, by simp only [execOp, h1]; simp [go_sem], PI.Post.pure ⟨fun w => Below.refl _ w, fun _ _ _ h k => h.trans k⟩ rfl trivial⟩
            · obtain rfl := Option.some.inj (show some _ = some o from ho)
              refine PI.shown_val_if 4 116 false rfl (by kernel_rfl) (by kernel_rfl) (by kernel_rfl) (fun v w h => h) fun a w3 L0 hr T => ?_
              have h1 : a.eval (.tmp 124) = .int .i64 (k : Int) := T.at_ 12 124 (by kernel_rfl) (by kernel_rfl) (by kernel_rfl)
              exact ⟨.int .i64 ((k + 1 : Nat) : Int), w3, by simp only [execOp, h1]; simp [go_sem, ek, ek2], PI.Post.pure ⟨fun w => Below.refl _ w, fun _ _ _ h k => h.trans k⟩ rfl trivial⟩
            · obtain rfl := Option.some.inj (show some _ = some o from ho)
              refine PI.shown_val_if 4 116 false rfl (by kernel_rfl) (by kernel_rfl) (by kernel_rfl) (fun v w h => h) fun a w3 L0 hr T => ?_
              have h1 : a.eval (.tmp 122) = .slice (some ⟨d, oof, none⟩) n c := T.at_ 10 122 (by kernel_rfl) (by kernel_rfl) (by kernel_rfl)
              have h2 : a.eval (.tmp 123) = .int .i64 (k : Int) := T.at_ 11 123 (by kernel_rfl) (by kernel_rfl) (by kernel_rfl)
              have h3 : a.eval (.tmp 125) = .int .i64 ((k + 1 : Nat) : Int) := T.at_ 13 125 (by kernel_rfl) (by kernel_rfl) (by kernel_rfl)
              have q2 : a.tmps[123]?.getD undef = .int .i64 (k : Int) := by have := h2; simpa [Act.eval] using this
              have q3 : a.tmps[125]?.getD undef = .int .i64 ((k + 1 : Nat) : Int) := by have := h3; simpa [Act.eval] using this
              exact ⟨.slice (some ⟨d, oof + k * 6, none⟩) 1 (c - k), w3, by simp only [execOp, h1, h2, h3]; simp [go_sem, q2, q3, r1, r2, r3, r4, r5, r6, r7, r8, r9], PI.Post.pure ⟨fun w => Below.refl _ w, fun _ _ _ h k => h.trans k⟩ rfl trivial⟩
            · obtain rfl := Option.some.inj (show some _ = some o from ho)
              refine PI.shown_call_if 4 116 false rfl (by kernel_rfl) (by kernel_rfl) (by kernel_rfl) (fun v w h => h) 12 fun a w3 L0 hr T => ?_
              have h1 : a.eval (.tmp 121) = .slice (some ⟨b, off + q * 6, none⟩) 1 (vc - q) := T.at_ 9 121 (by kernel_rfl) (by kernel_rfl) (by kernel_rfl)
              have h2 : a.eval (.tmp 126) = .slice (some ⟨d, oof + k * 6, none⟩) 1 (c - k) := T.at_ 14 126 (by kernel_rfl) (by kernel_rfl) (by kernel_rfl)
              refine ⟨#[.slice (some ⟨b, off + q * 6, none⟩) 1 (vc - q), .slice (some ⟨d, oof + k * 6, none⟩) 1 (c - k)], by simp only [execOp, resolve, List.map_toArray, List.map_cons, List.map_nil, h1, h2]; simp [go_sem, Act.eval], ?_⟩
              refine (hS w3 hr).mono fun e w4 hh => ?_
              obtain ⟨rfl, hb4⟩ := hh
              exact ⟨_, rfl, hb4.mono hr.size, rfl, fun _ _ h => h, fun j v _ _ _ _ h => h.keep, trivial⟩
            · obtain rfl := Option.some.inj (show some _ = some o from ho)
              refine PI.shown_val_if 4 116 false rfl (by kernel_rfl) (by kernel_rfl) (by kernel_rfl) (fun v w h => h) fun a w3 L0 hr T => ?_
              have h1 : a.eval (.tmp 127) = .bool true := T.at_ 15 127 (by kernel_rfl) (by kernel_rfl) (by kernel_rfl)
              exact ⟨.bool false, w3, by simp only [execOp, h1]; simp [go_sem], PI.Post.pure ⟨fun w => Below.refl _ w, fun _ _ _ h k => h.trans k⟩ rfl trivial⟩
            · obtain rfl := Option.some.inj (show some _ = some o from ho)
              refine PI.shown_val rfl fun a w3 L0 hr T => ?_
              have h1 : a.eval (.tmp 116) = .bool false := T.at_ 4 116 (by kernel_rfl) (by kernel_rfl) (by kernel_rfl)
              have h2 : a.eval (.tmp 128) = .bool false := T.at_ 16 128 (by kernel_rfl) (by kernel_rfl) (by kernel_rfl)
              exact ⟨.bool false, w3, by simp only [execOp, h1, h2]; simp [go_sem, Act.eval], PI.Post.pure ⟨fun w => Below.refl _ w, fun _ _ _ h k => h.trans k⟩ rfl trivial⟩
            · cases ho
          · rw [← hW]
            intro x w9 hr hf he _
            have h17 := hf 17 _ 129 rfl rfl (by decide)
            have hx17 : x 17 = .bool false := h17
            have HB9 := Lib.hid (HBD.out.trans (hr.mono HBD.out.size))
            clear hf he hr h17 hS ej ek ej2 ek2 s1 s2 s3 s4 s5 s6 s7 s8 s9 r1 r2 r3 r4 r5 r6 r7 r8 r9 l1 l2 l3 l4
            simp only [PI.putAll, Act.put, List.setIfInBounds_toArray, List.set_cons_zero, List.set_cons_succ]
            rw [hx17]
            have hq9 : q ≤ 120 := by
              have h := HPQ.out.2
              have h2 := List.length_filter_le (goneE now idle age) ((l.map Le.ep).take k)
              rw [List.length_take] at h2
              omega
            go_wp2_with fail
            go_roundw
            case rel =>
              refine ⟨k + 1, p, q + 1, by go_num, rfl, by go_num, by omega, Lib.hid ⟨?_, ?_⟩, HB9⟩
              · rw [filter_step (fun e => !goneE now idle age e) _ k _ HEP.out, ← HPQ.out.1]; simp [Le.ep, HGV.out]
              · rw [filter_step (goneE now idle age) _ k _ HEP.out, ← HPQ.out.2]; simp [Le.ep, HGV.out]
            case measure => simp [intOf]; omega
        · have d6 : decide (idle ≤ now - la) = false := decide_eq_false h1
          have d7 : decide (age ≤ now - f) = true := decide_eq_true h2
          have HGV : Hid (goneE now idle age ⟨th, tl, f, la, su, ls.map Ls.s⟩ = true) := Lib.hid (by rw [HGN.out, d6, d7]; rfl)
          clear h1 h2
          have hfa : (lv.map Le.ep)[q]? = some ⟨th, tl, f, la, su, ls.map Ls.s⟩ := by
            rw [HUV.out.2.2.2.1, HPQ.out.2]
            exact filter_at (goneE now idle age) _ k _ HEP.out (by simp [Le.ep, HGV.out])
          rw [List.getElem?_map] at hfa
          obtain ⟨y, hy1, hy2⟩ : ∃ y, lv[q]? = some y ∧ y.ep = ⟨th, tl, f, la, su, ls.map Ls.s⟩ := by
            cases hz : lv[q]? with
            | none => rw [hz] at hfa; cases hfa
            | some y => rw [hz] at hfa; simp only [Option.map_some, Option.some.injEq] at hfa; exact ⟨y, rfl, hfa⟩
          have hjl : q < vn := by
            have : q < lv.length := by
              rcases Nat.lt_or_ge q lv.length with h | h
              · exact h
              · rw [List.getElem?_eq_none h] at hy1; cases hy1
            have h2 := HUV.out
            omega
          obtain ⟨b, off, hbA, hbB, cy, ry⟩ := eplain (HV.out.below HB.out) hy1
          subst hbA
          obtain ⟨W, hW⟩ : ∃ W, W = wr.drew := ⟨_, rfl⟩
          have hWb : Below wr.heap.size wr W := by rw [hW]; exact ⟨rfl, rfl, rfl, Nat.le_refl _, fun _ _ => rfl⟩
          have HBD := Lib.hid (HB.out.trans (hWb.mono HB.out.size))
          have HS : Hid (∀ W3, Below W.heap.size W W3 → Calls Try.prog 12 #[.slice (some ⟨b, off + q * 6, none⟩) 1 (vc - q), .slice (some ⟨d, oof + k * 6, none⟩) 1 (c - k)] W3 fun e w' => e = .returned (.bool true) ∧ Below W3.heap.size W3 w') := Lib.hid (fun W3 hW3 => by
            have hz : wr.heap.size ≤ W.heap.size := hWb.size
            have k1 : RdEps W3 w3.heap.size (some ⟨b, off + q * 6, none⟩) [y] := ((RdEps.one hbB cy ry).below (hWb.mono HB.out.size)).below (hW3.mono (Nat.le_trans HB.out.size hz))
            have k2 : RdEps W3 w3.heap.size (some ⟨d, oof + k * 6, none⟩) [⟨th, tl, f, la, su, ls, eA, ec⟩] := (((RdEps.one hdB HCX.out HRX.out).more HB3.out.size).below (hWb.mono HB.out.size)).below (hW3.mono (Nat.le_trans HB.out.size hz))
            have hsz : y.l.length ≤ 1000000 := by
              have e1 := congrArg (fun z : Ep => z.l.length) hy2
              simp only [Le.ep, List.length_map] at e1
              have e2 := fewAll_len (HGD.out.2 _ (List.mem_of_getElem? HE.out))
              simp only at e2
              omega
            exact sameeps_eq _ _ [y] [⟨th, tl, f, la, su, ls, eA, ec⟩] 1 (vc - q) (c - k) w3.heap.size W3 rfl k1 k2 (by simp [Le.ep] at hy2 ⊢; exact hy2) (Nat.le_trans HB.out.size (Nat.le_trans hz hW3.size)) (by omega) (fun e he => by rw [List.mem_singleton] at he; subst he; exact hsz))
          have l1 : decide ((vn : Int) ≤ (q : Int)) = false := decide_eq_false (by omega)
          have l2 : decide (vn ≤ q) = false := decide_eq_false (by omega)
          have l3 : (vn ≤ q) = False := by simp; omega
          have l4 : ((vn : Int) ≤ (q : Int)) = False := by simp; omega
          have hcc := HC.out
          have huv := HUV.out
          have hrc : vn ≤ vc := by omega
          have hrcm : vc ≤ maxLen := by omega
          simp only [maxLen] at hrcm hcc
          have ej : IntKind.i64.wrap ((q : Int) + 1) = ((q + 1 : Nat) : Int) := by rw [IntKind.wrap_i64] <;> omega
          have ej2 : ((q + 1 : Nat) : Int) = (q : Int) + 1 := by omega
          have ek : IntKind.i64.wrap ((k : Int) + 1) = ((k + 1 : Nat) : Int) := by rw [IntKind.wrap_i64] <;> omega
          have ek2 : ((k + 1 : Nat) : Int) = (k : Int) + 1 := by omega
          have s1 : (0 : Int) ≤ (q : Int) := by omega
          have s2 : (q : Int) ≤ (q : Int) + 1 := by omega
          have s3 : (q : Int) + 1 ≤ (vc : Int) := by omega
          have s4 : (vc = q) = False := by simp; omega
          have s5 : ((q : Int) + 1).toNat = q + 1 := by omega
          have s6 : q + 1 ≤ vc := by omega
          have s7 : q + 1 - q = 1 := by omega
          have s8 : (⟨b, off, none⟩ : Addr).add (q * 6) = ⟨b, off + q * 6, none⟩ := addr_plain b off (q * 6)
          have s9 : (0 : Int) ≤ (q : Int) + 1 := by omega
          have r1 : (0 : Int) ≤ (k : Int) := by omega
          have r2 : (k : Int) ≤ (k : Int) + 1 := by omega
          have r3 : (k : Int) + 1 ≤ (c : Int) := by omega
          have r4 : (c = k) = False := by simp; omega
          have r5 : ((k : Int) + 1).toNat = k + 1 := by omega
          have r6 : k + 1 ≤ c := by omega
          have r7 : k + 1 - k = 1 := by omega
          have r8 : (⟨d, oof, none⟩ : Addr).add (k * 6) = ⟨d, oof + k * 6, none⟩ := addr_plain d oof (k * 6)
          have r9 : (0 : Int) ≤ (k : Int) + 1 := by omega
          clear hcc huv hrc hrcm hfa hy1 hy2 cy ry hWb
          have hS := HS.out
          go_wp2_with fail
          refine PI.wp_region_persG (R := Below W.heap.size) (G := fun _ _ => True) (I := fun _ _ _ => True) [(2, 1), (3, 0), (3, 2), (4, 3), (5, 4), (6, 4), (7, 4), (8, 4), (8, 7), (9, 4), (9, 5), (9, 6), (9, 8), (10, 4), (11, 4), (12, 4), (13, 4), (13, 12), (14, 4), (14, 10), (14, 11), (14, 13), (15, 4), (15, 9), (15, 14), (16, 4), (16, 15), (17, 4), (17, 16)] [17] (by kernel_rfl) (PI.formed_of (by kernel_rfl)) ⟨fun w => Below.refl _ w, fun _ _ _ h k => h.trans k⟩ (fun _ => trivial) (BcF b off vn vc q d oof n c k) trivial ?_ ?_
          · rw [← hW]
            intro i o ho
            rcases i with _ | _ | _ | _ | _ | _ | _ | _ | _ | _ | _ | _ | _ | _ | _ | _ | _ | _ | i
            · obtain rfl := Option.some.inj (show some _ = some o from ho)
              refine PI.shown_val rfl fun a w3 L0 hr T => ?_
              have h1 : a.eval (.tmp 13) = .int .i64 (q : Int) := T.was 13 (by kernel_rfl)
              exact ⟨.int .i64 (q : Int), w3, by simp only [execOp, h1]; simp [go_sem], PI.Post.pure ⟨fun w => Below.refl _ w, fun _ _ _ h k => h.trans k⟩ rfl trivial⟩
            · obtain rfl := Option.some.inj (show some _ = some o from ho)
              refine PI.shown_val rfl fun a w3 L0 hr T => ?_
              have h1 : a.eval (.tmp 11) = .slice (some ⟨b, off, none⟩) vn vc := T.was 11 (by kernel_rfl)
              exact ⟨.slice (some ⟨b, off, none⟩) vn vc, w3, by simp only [execOp, h1]; simp [go_sem], PI.Post.pure ⟨fun w => Below.refl _ w, fun _ _ _ h k => h.trans k⟩ rfl trivial⟩
            · obtain rfl := Option.some.inj (show some _ = some o from ho)
              refine PI.shown_val rfl fun a w3 L0 hr T => ?_
              have h1 : a.eval (.tmp 113) = .slice (some ⟨b, off, none⟩) vn vc := T.at_ 1 113 (by kernel_rfl) (by kernel_rfl) (by kernel_rfl)
              exact ⟨.int .i64 (vn : Int), w3, by simp only [execOp, resolve, invoke, builtin, Sem.run_bind, Sem.run_pure, Result.andThen_ok, List.map_toArray, List.map_cons, List.map_nil, h1]; simp [go_sem, Builtin.lenOf], PI.Post.pure ⟨fun w => Below.refl _ w, fun _ _ _ h k => h.trans k⟩ rfl trivial⟩
            · obtain rfl := Option.some.inj (show some _ = some o from ho)
              refine PI.shown_val rfl fun a w3 L0 hr T => ?_
              have h1 : a.eval (.tmp 112) = .int .i64 (q : Int) := T.at_ 0 112 (by kernel_rfl) (by kernel_rfl) (by kernel_rfl)
              have h2 : a.eval (.tmp 114) = .int .i64 (vn : Int) := T.at_ 2 114 (by kernel_rfl) (by kernel_rfl) (by kernel_rfl)
              exact ⟨.bool false, w3, by simp only [execOp, h1, h2]; simp [go_sem, l1, l2, l3, l4], PI.Post.pure ⟨fun w => Below.refl _ w, fun _ _ _ h k => h.trans k⟩ rfl trivial⟩
            · obtain rfl := Option.some.inj (show some _ = some o from ho)
              refine PI.shown_val rfl fun a w3 L0 hr T => ?_
              have h1 : a.eval (.tmp 115) = .bool false := T.at_ 3 115 (by kernel_rfl) (by kernel_rfl) (by kernel_rfl)
              exact ⟨.bool false, w3, by simp only [execOp, h1]; simp [go_sem], PI.Post.pure ⟨fun w => Below.refl _ w, fun _ _ _ h k => h.trans k⟩ rfl trivial⟩
            · obtain rfl := Option.some.inj (show some _ = some o from ho)
              refine PI.shown_val_if 4 116 false rfl (by kernel_rfl) (by kernel_rfl) (by kernel_rfl) (fun v w h => h) fun a w3 L0 hr T => ?_
              have h1 : a.eval (.tmp 11) = .slice (some ⟨b, off, none⟩) vn vc := T.was 11 (by kernel_rfl)
              exact ⟨.slice (some ⟨b, off, none⟩) vn vc, w3, by simp only [execOp, h1]; simp [go_sem], PI.Post.pure ⟨fun w => Below.refl _ w, fun _ _ _ h k => h.trans k⟩ rfl trivial⟩
            · obtain rfl := Option.some.inj (show some _ = some o from ho)
              refine PI.shown_val_if 4 116 false rfl (by kernel_rfl) (by kernel_rfl) (by kernel_rfl) (fun v w h => h) fun a w3 L0 hr T => ?_
              have h1 : a.eval (.tmp 13) = .int .i64 (q : Int) := T.was 13 (by kernel_rfl)
              exact ⟨.int .i64 (q : Int), w3, by simp only [execOp, h1]; simp [go_sem], PI.Post.pure ⟨fun w => Below.refl _ w, fun _ _ _ h k => h.trans k⟩ rfl trivial⟩
            · obtain rfl := Option.some.inj (show some _ = some o from ho)
              refine PI.shown_val_if 4 116 false rfl (by kernel_rfl) (by kernel_rfl) (by kernel_rfl) (fun v w h => h) fun a w3 L0 hr T => ?_
              have h1 : a.eval (.tmp 13) = .int .i64 (q : Int) := T.was 13 (by kernel_rfl)
              exact ⟨.int .i64 (q : Int), w3, by simp only [execOp, h1]; simp [go_sem], PI.Post.pure ⟨fun w => Below.refl _ w, fun _ _ _ h k => h.trans k⟩ rfl trivial⟩
            · obtain rfl := Option.some.inj (show some _ = some o from ho)
              refine PI.shown_val_if 4 116 false rfl (by kernel_rfl) (by kernel_rfl) (by kernel_rfl) (fun v w h => h) fun a w3 L0 hr T => ?_
              have h1 : a.eval (.tmp 119) = .int .i64 (q : Int) := T.at_ 7 119 (by kernel_rfl) (by kernel_rfl) (by kernel_rfl)
              exact ⟨.int .i64 ((q + 1 : Nat) : Int), w3, by simp only [execOp, h1]; simp [go_sem, ej, ej2], PI.Post.pure ⟨fun w => Below.refl _ w, fun _ _ _ h k => h.trans k⟩ rfl trivial⟩
            · obtain rfl := Option.some.inj (show some _ = some o from ho)
              refine PI.shown_val_if 4 116 false rfl (by kernel_rfl) (by kernel_rfl) (by kernel_rfl) (fun v w h => h) fun a w3 L0 hr T => ?_
              have h1 : a.eval (.tmp 117) = .slice (some ⟨b, off, none⟩) vn vc := T.at_ 5 117 (by kernel_rfl) (by kernel_rfl) (by kernel_rfl)
              have h2 : a.eval (.tmp 118) = .int .i64 (q : Int) := T.at_ 6 118 (by kernel_rfl) (by kernel_rfl) (by kernel_rfl)
              have h3 : a.eval (.tmp 120) = .int .i64 ((q + 1 : Nat) : Int) := T.at_ 8 120 (by kernel_rfl) (by kernel_rfl) (by kernel_rfl)
              have q2 : a.tmps[118]?.getD undef = .int .i64 (q : Int) := by have := h2; simpa [Act.eval] using this
              have q3 : a.tmps[120]?.getD undef = .int .i64 ((q + 1 : Nat) : Int) := by have := h3; simpa [Act.eval] using this
              exact ⟨.slice (some ⟨b, off + q * 6, none⟩) 1 (vc - q), w3, by simp only [execOp, h1, h2, h3]; simp [go_sem, q2, q3, s1, s2, s3, s4, s5, s6, s7, s8, s9], PI.Post.pure ⟨fun w => Below.refl _ w, fun _ _ _ h k => h.trans k⟩ rfl trivial⟩
            · obtain rfl := Option.some.inj (show some _ = some o from ho)
              refine PI.shown_val_if 4 116 false rfl (by kernel_rfl) (by kernel_rfl) (by kernel_rfl) (fun v w h => h) fun a w3 L0 hr T => ?_
              have h1 : a.eval (.tmp 0) = .slice (some ⟨d, oof, none⟩) n c := T.was 0 (by kernel_rfl)
              exact ⟨.slice (some ⟨d, oof, none⟩) n c, w3, by simp only [execOp, h1]; simp [go_sem], PI.Post.pure ⟨fun w => Below.refl _ w, fun _ _ _ h k => h.trans k⟩ rfl trivial⟩
            · obtain rfl := Option.some.inj (show some _ = some o from ho)
              refine PI.shown_val_if 4 116 false rfl (by kernel_rfl) (by kernel_rfl) (by kernel_rfl) (fun v w h => h) fun a w3 L0 hr T => ?_
              have h1 : a.eval (.tmp 14) = .int .i64 (k : Int) := T.was 14 (by kernel_rfl)
              exact ⟨.int .i64 (k : Int), w3, by simp only [execOp, h1]; simp [go_sem], PI.Post.pure ⟨fun w => Below.refl _ w, fun _ _ _ h k => h.trans k⟩ rfl trivial⟩
            · obtain rfl := Option.some.inj (show some _ = some o from ho)
              refine PI.shown_val_if 4 116 false rfl (by kernel_rfl) (by kernel_rfl) (by kernel_rfl) (fun v w h => h) fun a w3 L0 hr T => ?_
              have h1 : a.eval (.tmp 14) = .int .i64 (k : Int) := T.was 14 (by kernel_rfl)
              exact ⟨.int .i64 (k : Int), w3, by simp only [execOp, h1]; simp [go_sem], PI.Post.pure ⟨fun w => Below.refl _ w, fun _ _ _ h k => h.trans k⟩ rfl trivial⟩
            · obtain rfl := Option.some.inj (show some _ = some o from ho)
              refine PI.shown_val_if 4 116 false rfl (by kernel_rfl) (by kernel_rfl) (by kernel_rfl) (fun v w h => h) fun a w3 L0 hr T => ?_
              have h1 : a.eval (.tmp 124) = .int .i64 (k : Int) := T.at_ 12 124 (by kernel_rfl) (by kernel_rfl) (by kernel_rfl)
              exact ⟨.int .i64 ((k + 1 : Nat) : Int), w3, by simp only [execOp, h1]; simp [go_sem, ek, ek2], PI.Post.pure ⟨fun w => Below.refl _ w, fun _ _ _ h k => h.trans k⟩ rfl trivial⟩
            · obtain rfl := Option.some.inj (show some _ = some o from ho)
              refine PI.shown_val_if 4 116 false rfl (by kernel_rfl) (by kernel_rfl) (by kernel_rfl) (fun v w h => h) fun a w3 L0 hr T => ?_
              have h1 : a.eval (.tmp 122) = .slice (some ⟨d, oof, none⟩) n c := T.at_ 10 122 (by kernel_rfl) (by kernel_rfl) (by kernel_rfl)
              have h2 : a.eval (.tmp 123) = .int .i64 (k : Int) := T.at_ 11 123 (by kernel_rfl) (by kernel_rfl) (by kernel_rfl)
              have h3 : a.eval (.tmp 125) = .int .i64 ((k + 1 : Nat) : Int) := T.at_ 13 125 (by kernel_rfl) (by kernel_rfl) (by kernel_rfl)
              have q2 : a.tmps[123]?.getD undef = .int .i64 (k : Int) := by have := h2; simpa [Act.eval] using this
              have q3 : a.tmps[125]?.getD undef = .int .i64 ((k + 1 : Nat) : Int) := by have := h3; simpa [Act.eval] using this
              exact ⟨.slice (some ⟨d, oof + k * 6, none⟩) 1 (c - k), w3, by simp only [execOp, h1, h2, h3]; simp [go_sem, q2, q3, r1, r2, r3, r4, r5, r6, r7, r8, r9], PI.Post.pure ⟨fun w => Below.refl _ w, fun _ _ _ h k => h.trans k⟩ rfl trivial⟩
            · obtain rfl := Option.some.inj (show some _ = some o from ho)
              refine PI.shown_call_if 4 116 false rfl (by kernel_rfl) (by kernel_rfl) (by kernel_rfl) (fun v w h => h) 12 fun a w3 L0 hr T => ?_
              have h1 : a.eval (.tmp 121) = .slice (some ⟨b, off + q * 6, none⟩) 1 (vc - q) := T.at_ 9 121 (by kernel_rfl) (by kernel_rfl) (by kernel_rfl)
              have h2 : a.eval (.tmp 126) = .slice (some ⟨d, oof + k * 6, none⟩) 1 (c - k) := T.at_ 14 126 (by kernel_rfl) (by kernel_rfl) (by kernel_rfl)
              refine ⟨#[.slice (some ⟨b, off + q * 6, none⟩) 1 (vc - q), .slice (some ⟨d, oof + k * 6, none⟩) 1 (c - k)], by simp only [execOp, resolve, List.map_toArray, List.map_cons, List.map_nil, h1, h2]; simp [go_sem, Act.eval], ?_⟩
              refine (hS w3 hr).mono fun e w4 hh => ?_
              obtain ⟨rfl, hb4⟩ := hh
              exact ⟨_, rfl, hb4.mono hr.size, rfl, fun _ _ h => h, fun j v _ _ _ _ h => h.keep, trivial⟩
            · obtain rfl := Option.some.inj (show some _ = some o from ho)
              refine PI.shown_val_if 4 116 false rfl (by kernel_rfl) (by kernel_rfl) (by kernel_rfl) (fun v w h => h) fun a w3 L0 hr T => ?_
              have h1 : a.eval (.tmp 127) = .bool true := T.at_ 15 127 (by kernel_rfl) (by kernel_rfl) (by kernel_rfl)
              exact ⟨.bool false, w3, by simp only [execOp, h1]; simp [go_sem], PI.Post.pure ⟨fun w => Below.refl _ w, fun _ _ _ h k => h.trans k⟩ rfl trivial⟩
            · obtain rfl := Option.some.inj (show some _ = some o from ho)
              refine PI.shown_val rfl fun a w3 L0 hr T => ?_
              have h1 : a.eval (.tmp 116) = .bool false := T.at_ 4 116 (by kernel_rfl) (by kernel_rfl) (by kernel_rfl)
              have h2 : a.eval (.tmp 128) = .bool false := T.at_ 16 128 (by kernel_rfl) (by kernel_rfl) (by kernel_rfl)
              exact ⟨.bool false, w3, by simp only [execOp, h1, h2]; simp [go_sem, Act.eval], PI.Post.pure ⟨fun w => Below.refl _ w, fun _ _ _ h k => h.trans k⟩ rfl trivial⟩
            · cases ho
          · rw [← hW]
            intro x w9 hr hf he _
            have h17 := hf 17 _ 129 rfl rfl (by decide)
            have hx17 : x 17 = .bool false := h17
            have HB9 := Lib.hid (HBD.out.trans (hr.mono HBD.out.size))
            clear hf he hr h17 hS ej ek ej2 ek2 s1 s2 s3 s4 s5 s6 s7 s8 s9 r1 r2 r3 r4 r5 r6 r7 r8 r9 l1 l2 l3 l4
            simp only [PI.putAll, Act.put, List.setIfInBounds_toArray, List.set_cons_zero, List.set_cons_succ]
            rw [hx17]
            have hq9 : q ≤ 120 := by
              have h := HPQ.out.2
              have h2 := List.length_filter_le (goneE now idle age) ((l.map Le.ep).take k)
              rw [List.length_take] at h2
              omega
            go_wp2_with fail
            go_roundw
            case rel =>
              refine ⟨k + 1, p, q + 1, by go_num, rfl, by go_num, by omega, Lib.hid ⟨?_, ?_⟩, HB9⟩
              · rw [filter_step (fun e => !goneE now idle age e) _ k _ HEP.out, ← HPQ.out.1]; simp [Le.ep, HGV.out]
              · rw [filter_step (goneE now idle age) _ k _ HEP.out, ← HPQ.out.2]; simp [Le.ep, HGV.out]
            case measure => simp [intOf]; omega
        · have d6 : decide (idle ≤ now - la) = false := decide_eq_false h1
          have d7 : decide (age ≤ now - f) = false := decide_eq_false h2
          have HGV : Hid (goneE now idle age ⟨th, tl, f, la, su, ls.map Ls.s⟩ = false) := Lib.hid (by rw [HGN.out, d6, d7]; rfl)
          clear h1 h2
          have hfa : (lu.map Le.ep)[p]? = some ⟨th, tl, f, la, su, ls.map Ls.s⟩ := by
            rw [HUV.out.2.2.1, HPQ.out.1]
            exact filter_at (fun e => !goneE now idle age e) _ k _ HEP.out (by simp [Le.ep, HGV.out])
          rw [List.getElem?_map] at hfa
          obtain ⟨y, hy1, hy2⟩ : ∃ y, lu[p]? = some y ∧ y.ep = ⟨th, tl, f, la, su, ls.map Ls.s⟩ := by
            cases hz : lu[p]? with
            | none => rw [hz] at hfa; cases hfa
            | some y => rw [hz] at hfa; simp only [Option.map_some, Option.some.injEq] at hfa; exact ⟨y, rfl, hfa⟩
          have hjl : p < un := by
            have : p < lu.length := by
              rcases Nat.lt_or_ge p lu.length with h | h
              · exact h
              · rw [List.getElem?_eq_none h] at hy1; cases hy1
            have h2 := HUV.out
            omega
          obtain ⟨b, off, hbA, hbB, cy, ry⟩ := eplain (HU.out.below HB.out) hy1
          subst hbA
          obtain ⟨W, hW⟩ : ∃ W, W = wr.drew := ⟨_, rfl⟩
          have hWb : Below wr.heap.size wr W := by rw [hW]; exact ⟨rfl, rfl, rfl, Nat.le_refl _, fun _ _ => rfl⟩
          have HBD := Lib.hid (HB.out.trans (hWb.mono HB.out.size))
          have HS : Hid (∀ W3, Below W.heap.size W W3 → Calls Try.prog 12 #[.slice (some ⟨b, off + p * 6, none⟩) 1 (uc - p), .slice (some ⟨d, oof + k * 6, none⟩) 1 (c - k)] W3 fun e w' => e = .returned (.bool true) ∧ Below W3.heap.size W3 w') := Lib.hid (fun W3 hW3 => by
            have hz : wr.heap.size ≤ W.heap.size := hWb.size
            have k1 : RdEps W3 w3.heap.size (some ⟨b, off + p * 6, none⟩) [y] := ((RdEps.one hbB cy ry).below (hWb.mono HB.out.size)).below (hW3.mono (Nat.le_trans HB.out.size hz))
            have k2 : RdEps W3 w3.heap.size (some ⟨d, oof + k * 6, none⟩) [⟨th, tl, f, la, su, ls, eA, ec⟩] := (((RdEps.one hdB HCX.out HRX.out).more HB3.out.size).below (hWb.mono HB.out.size)).below (hW3.mono (Nat.le_trans HB.out.size hz))
            have hsz : y.l.length ≤ 1000000 := by
              have e1 := congrArg (fun z : Ep => z.l.length) hy2
              simp only [Le.ep, List.length_map] at e1
              have e2 := fewAll_len (HGD.out.2 _ (List.mem_of_getElem? HE.out))
              simp only at e2
              omega
            exact sameeps_eq _ _ [y] [⟨th, tl, f, la, su, ls, eA, ec⟩] 1 (uc - p) (c - k) w3.heap.size W3 rfl k1 k2 (by simp [Le.ep] at hy2 ⊢; exact hy2) (Nat.le_trans HB.out.size (Nat.le_trans hz hW3.size)) (by omega) (fun e he => by rw [List.mem_singleton] at he; subst he; exact hsz))
          have l1 : decide ((un : Int) ≤ (p : Int)) = false := decide_eq_false (by omega)
          have l2 : decide (un ≤ p) = false := decide_eq_false (by omega)
          have l3 : (un ≤ p) = False := by simp; omega
          have l4 : ((un : Int) ≤ (p : Int)) = False := by simp; omega
          have hcc := HC.out
          have huv := HUV.out
          have hrc : un ≤ uc := by omega
          have hrcm : uc ≤ maxLen := by omega
          simp only [maxLen] at hrcm hcc
          have ej : IntKind.i64.wrap ((p : Int) + 1) = ((p + 1 : Nat) : Int) := by rw [IntKind.wrap_i64] <;> omega
          have ej2 : ((p + 1 : Nat) : Int) = (p : Int) + 1 := by omega
          have ek : IntKind.i64.wrap ((k : Int) + 1) = ((k + 1 : Nat) : Int) := by rw [IntKind.wrap_i64] <;> omega
          have ek2 : ((k + 1 : Nat) : Int) = (k : Int) + 1 := by omega
          have s1 : (0 : Int) ≤ (p : Int) := by omega
          have s2 : (p : Int) ≤ (p : Int) + 1 := by omega
          have s3 : (p : Int) + 1 ≤ (uc : Int) := by omega
          have s4 : (uc = p) = False := by simp; omega
          have s5 : ((p : Int) + 1).toNat = p + 1 := by omega
          have s6 : p + 1 ≤ uc := by omega
          have s7 : p + 1 - p = 1 := by omega
          have s8 : (⟨b, off, none⟩ : Addr).add (p * 6) = ⟨b, off + p * 6, none⟩ := addr_plain b off (p * 6)
          have s9 : (0 : Int) ≤ (p : Int) + 1 := by omega
          have r1 : (0 : Int) ≤ (k : Int) := by omega
          have r2 : (k : Int) ≤ (k : Int) + 1 := by omega
          have r3 : (k : Int) + 1 ≤ (c : Int) := by omega
          have r4 : (c = k) = False := by simp; omega
          have r5 : ((k : Int) + 1).toNat = k + 1 := by omega
          have r6 : k + 1 ≤ c := by omega
          have r7 : k + 1 - k = 1 := by omega
          have r8 : (⟨d, oof, none⟩ : Addr).add (k * 6) = ⟨d, oof + k * 6, none⟩ := addr_plain d oof (k * 6)
          have r9 : (0 : Int) ≤ (k : Int) + 1 := by omega
          clear hcc huv hrc hrcm hfa hy1 hy2 cy ry hWb
          have hS := HS.out
          go_wp2_with fail
          refine PI.wp_region_persG (R := Below W.heap.size) (G := fun _ _ => True) (I := fun _ _ _ => True) [(2, 1), (3, 0), (3, 2), (4, 3), (5, 4), (6, 4), (7, 4), (8, 4), (8, 7), (9, 4), (9, 5), (9, 6), (9, 8), (10, 4), (11, 4), (12, 4), (13, 4), (13, 12), (14, 4), (14, 10), (14, 11), (14, 13), (15, 4), (15, 9), (15, 14), (16, 4), (16, 15), (17, 4), (17, 16)] [17] (by kernel_rfl) (PI.formed_of (by kernel_rfl)) ⟨fun w => Below.refl _ w, fun _ _ _ h k => h.trans k⟩ (fun _ => trivial) (BcF b off un uc p d oof n c k) trivial ?_ ?_
          · rw [← hW]
            intro i o ho
            rcases i with _ | _ | _ | _ | _ | _ | _ | _ | _ | _ | _ | _ | _ | _ | _ | _ | _ | _ | i
            · obtain rfl := Option.some.inj (show some _ = some o from ho)
              refine PI.shown_val rfl fun a w3 L0 hr T => ?_
              have h1 : a.eval (.tmp 12) = .int .i64 (p : Int) := T.was 12 (by kernel_rfl)
              exact ⟨.int .i64 (p : Int), w3, by simp only [execOp, h1]; simp [go_sem], PI.Post.pure ⟨fun w => Below.refl _ w, fun _ _ _ h k => h.trans k⟩ rfl trivial⟩
            · obtain rfl := Option.some.inj (show some _ = some o from ho)
              refine PI.shown_val rfl fun a w3 L0 hr T => ?_
              have h1 : a.eval (.tmp 10) = .slice (some ⟨b, off, none⟩) un uc := T.was 10 (by kernel_rfl)
              exact ⟨.slice (some ⟨b, off, none⟩) un uc, w3, by simp only [execOp, h1]; simp [go_sem], PI.Post.pure ⟨fun w => Below.refl _ w, fun _ _ _ h k => h.trans k⟩ rfl trivial⟩
            · obtain rfl := Option.some.inj (show some _ = some o from ho)
              refine PI.shown_val rfl fun a w3 L0 hr T => ?_
              have h1 : a.eval (.tmp 133) = .slice (some ⟨b, off, none⟩) un uc := T.at_ 1 133 (by kernel_rfl) (by kernel_rfl) (by kernel_rfl)
              exact ⟨.int .i64 (un : Int), w3, by simp only [execOp, resolve, invoke, builtin, Sem.run_bind, Sem.run_pure, Result.andThen_ok, List.map_toArray, List.map_cons, List.map_nil, h1]; simp [go_sem, Builtin.lenOf], PI.Post.pure ⟨fun w => Below.refl _ w, fun _ _ _ h k => h.trans k⟩ rfl trivial⟩
            · obtain rfl := Option.some.inj (show some _ = some o from ho)
              refine PI.shown_val rfl fun a w3 L0 hr T => ?_
              have h1 : a.eval (.tmp 132) = .int .i64 (p : Int) := T.at_ 0 132 (by kernel_rfl) (by kernel_rfl) (by kernel_rfl)
              have h2 : a.eval (.tmp 134) = .int .i64 (un : Int) := T.at_ 2 134 (by kernel_rfl) (by kernel_rfl) (by kernel_rfl)
              exact ⟨.bool false, w3, by simp only [execOp, h1, h2]; simp [go_sem, l1, l2, l3, l4], PI.Post.pure ⟨fun w => Below.refl _ w, fun _ _ _ h k => h.trans k⟩ rfl trivial⟩
            · obtain rfl := Option.some.inj (show some _ = some o from ho)
              refine PI.shown_val rfl fun a w3 L0 hr T => ?_
              have h1 : a.eval (.tmp 135) = .bool false := T.at_ 3 135 (by kernel_rfl) (by kernel_rfl) (by kernel_rfl)
              exact ⟨.bool false, w3, by simp only [execOp, h1]; simp [go_sem], PI.Post.pure ⟨fun w => Below.refl _ w, fun _ _ _ h k => h.trans k⟩ rfl trivial⟩
            · obtain rfl := Option.some.inj (show some _ = some o from ho)
              refine PI.shown_val_if 4 136 false rfl (by kernel_rfl) (by kernel_rfl) (by kernel_rfl) (fun v w h => h) fun a w3 L0 hr T => ?_
              have h1 : a.eval (.tmp 10) = .slice (some ⟨b, off, none⟩) un uc := T.was 10 (by kernel_rfl)
              exact ⟨.slice (some ⟨b, off, none⟩) un uc, w3, by simp only [execOp, h1]; simp [go_sem], PI.Post.pure ⟨fun w => Below.refl _ w, fun _ _ _ h k => h.trans k⟩ rfl trivial⟩
            · obtain rfl := Option.some.inj (show some _ = some o from ho)
              refine PI.shown_val_if 4 136 false rfl (by kernel_rfl) (by kernel_rfl) (by kernel_rfl) (fun v w h => h) fun a w3 L0 hr T => ?_
              have h1 : a.eval (.tmp 12) = .int .i64 (p : Int) := T.was 12 (by kernel_rfl)
              exact ⟨.int .i64 (p : Int), w3, by simp only [execOp, h1]; simp [go_sem], PI.Post.pure ⟨fun w => Below.refl _ w, fun _ _ _ h k => h.trans k⟩ rfl trivial⟩
            · obtain rfl := Option.some.inj (show some _ = some o from ho)
              refine PI.shown_val_if 4 136 false rfl (by kernel_rfl) (by kernel_rfl) (by kernel_rfl) (fun v w h => h) fun a w3 L0 hr T => ?_
              have h1 : a.eval (.tmp 12) = .int .i64 (p : Int) := T.was 12 (by kernel_rfl)
              exact ⟨.int .i64 (p : Int), w3, by simp only [execOp, h1]; simp [go_sem], PI.Post.pure ⟨fun w => Below.refl _ w, fun _ _ _ h k => h.trans k⟩ rfl trivial⟩
            · obtain rfl := Option.some.inj (show some _ = some o from ho)
              refine PI.shown_val_if 4 136 false rfl (by kernel_rfl) (by kernel_rfl) (by kernel_rfl) (fun v w h => h) fun a w3 L0 hr T => ?_
              have h1 : a.eval (.tmp 139) = .int .i64 (p : Int) := T.at_ 7 139 (by kernel_rfl) (by kernel_rfl) (by kernel_rfl)
              exact ⟨.int .i64 ((p + 1 : Nat) : Int), w3, by simp only [execOp, h1]; simp [go_sem, ej, ej2], PI.Post.pure ⟨fun w => Below.refl _ w, fun _ _ _ h k => h.trans k⟩ rfl trivial⟩
            · obtain rfl := Option.some.inj (show some _ = some o from ho)
              refine PI.shown_val_if 4 136 false rfl (by kernel_rfl) (by kernel_rfl) (by kernel_rfl) (fun v w h => h) fun a w3 L0 hr T => ?_
              have h1 : a.eval (.tmp 137) = .slice (some ⟨b, off, none⟩) un uc := T.at_ 5 137 (by kernel_rfl) (by kernel_rfl) (by kernel_rfl)
              have h2 : a.eval (.tmp 138) = .int .i64 (p : Int) := T.at_ 6 138 (by kernel_rfl) (by kernel_rfl) (by kernel_rfl)
              have h3 : a.eval (.tmp 140) = .int .i64 ((p + 1 : Nat) : Int) := T.at_ 8 140 (by kernel_rfl) (by kernel_rfl) (by kernel_rfl)
              have q2 : a.tmps[138]?.getD undef = .int .i64 (p : Int) := by have := h2; simpa [Act.eval] using this
              have q3 : a.tmps[140]?.getD undef = .int .i64 ((p + 1 : Nat) : Int) := by have := h3; simpa [Act.eval] using this
              exact ⟨.slice (some ⟨b, off + p * 6, none⟩) 1 (uc - p), w3, by simp only [execOp, h1, h2, h3]; simp [go_sem, q2, q3, s1, s2, s3, s4, s5, s6, s7, s8, s9], PI.Post.pure ⟨fun w => Below.refl _ w, fun _ _ _ h k => h.trans k⟩ rfl trivial⟩
            · obtain rfl := Option.some.inj (show some _ = some o from ho)
              refine PI.shown_val_if 4 136 false rfl (by kernel_rfl) (by kernel_rfl) (by kernel_rfl) (fun v w h => h) fun a w3 L0 hr T => ?_
              have h1 : a.eval (.tmp 0) = .slice (some ⟨d, oof, none⟩) n c := T.was 0 (by kernel_rfl)
              exact ⟨.slice (some ⟨d, oof, none⟩) n c, w3, by simp only [execOp, h1]; simp [go_sem], PI.Post.pure ⟨fun w => Below.refl _ w, fun _ _ _ h k => h.trans k⟩ rfl trivial⟩
            · obtain rfl := Option.some.inj (show some _ = some o from ho)
              refine PI.shown_val_if 4 136 false rfl (by kernel_rfl) (by kernel_rfl) (by kernel_rfl) (fun v w h => h) fun a w3 L0 hr T => ?_
              have h1 : a.eval (.tmp 14) = .int .i64 (k : Int) := T.was 14 (by kernel_rfl)
              exact ⟨.int .i64 (k : Int), w3, by simp only [execOp, h1]; simp [go_sem], PI.Post.pure ⟨fun w => Below.refl _ w, fun _ _ _ h k => h.trans k⟩ rfl trivial⟩
            · obtain rfl := Option.some.inj (show some _ = some o from ho)
              refine PI.shown_val_if 4 136 false rfl (by kernel_rfl) (by kernel_rfl) (by kernel_rfl) (fun v w h => h) fun a w3 L0 hr T => ?_
              have h1 : a.eval (.tmp 14) = .int .i64 (k : Int) := T.was 14 (by kernel_rfl)
              exact ⟨.int .i64 (k : Int), w3, by simp only [execOp, h1]; simp [go_sem], PI.Post.pure ⟨fun w => Below.refl _ w, fun _ _ _ h k => h.trans k⟩ rfl trivial⟩
            · obtain rfl := Option.some.inj (show some _ = some o from ho)
              refine PI.shown_val_if 4 136 false rfl (by kernel_rfl) (by kernel_rfl) (by kernel_rfl) (fun v w h => h) fun a w3 L0 hr T => ?_
              have h1 : a.eval (.tmp 144) = .int .i64 (k : Int) := T.at_ 12 144 (by kernel_rfl) (by kernel_rfl) (by kernel_rfl)
              exact ⟨.int .i64 ((k + 1 : Nat) : Int), w3, by simp only [execOp, h1]; simp [go_sem, ek, ek2], PI.Post.pure ⟨fun w => Below.refl _ w, fun _ _ _ h k => h.trans k⟩ rfl trivial⟩
            · obtain rfl := Option.some.inj (show some _ = some o from ho)
              refine PI.shown_val_if 4 136 false rfl (by kernel_rfl) (by kernel_rfl) (by kernel_rfl) (fun v w h => h) fun a w3 L0 hr T => ?_
              have h1 : a.eval (.tmp 142) = .slice (some ⟨d, oof, none⟩) n c := T.at_ 10 142 (by kernel_rfl) (by kernel_rfl) (by kernel_rfl)
              have h2 : a.eval (.tmp 143) = .int .i64 (k : Int) := T.at_ 11 143 (by kernel_rfl) (by kernel_rfl) (by kernel_rfl)
              have h3 : a.eval (.tmp 145) = .int .i64 ((k + 1 : Nat) : Int) := T.at_ 13 145 (by kernel_rfl) (by kernel_rfl) (by kernel_rfl)
              have q2 : a.tmps[143]?.getD undef = .int .i64 (k : Int) := by have := h2; simpa [Act.eval] using this
              have q3 : a.tmps[145]?.getD undef = .int .i64 ((k + 1 : Nat) : Int) := by have := h3; simpa [Act.eval] using this
              exact ⟨.slice (some ⟨d, oof + k * 6, none⟩) 1 (c - k), w3, by simp only [execOp, h1, h2, h3]; simp [go_sem, q2, q3, r1, r2, r3, r4, r5, r6, r7, r8, r9], PI.Post.pure ⟨fun w => Below.refl _ w, fun _ _ _ h k => h.trans k⟩ rfl trivial⟩
            · obtain rfl := Option.some.inj (show some _ = some o from ho)
              refine PI.shown_call_if 4 136 false rfl (by kernel_rfl) (by kernel_rfl) (by kernel_rfl) (fun v w h => h) 12 fun a w3 L0 hr T => ?_
              have h1 : a.eval (.tmp 141) = .slice (some ⟨b, off + p * 6, none⟩) 1 (uc - p) := T.at_ 9 141 (by kernel_rfl) (by kernel_rfl) (by kernel_rfl)
              have h2 : a.eval (.tmp 146) = .slice (some ⟨d, oof + k * 6, none⟩) 1 (c - k) := T.at_ 14 146 (by kernel_rfl) (by kernel_rfl) (by kernel_rfl)
              refine ⟨#[.slice (some ⟨b, off + p * 6, none⟩) 1 (uc - p), .slice (some ⟨d, oof + k * 6, none⟩) 1 (c - k)], by simp only [execOp, resolve, List.map_toArray, List.map_cons, List.map_nil, h1, h2]; simp [go_sem, Act.eval], ?_⟩
              refine (hS w3 hr).mono fun e w4 hh => ?_
              obtain ⟨rfl, hb4⟩ := hh
              exact ⟨_, rfl, hb4.mono hr.size, rfl, fun _ _ h => h, fun j v _ _ _ _ h => h.keep, trivial⟩
            · obtain rfl := Option.some.inj (show some _ = some o from ho)
              refine PI.shown_val_if 4 136 false rfl (by kernel_rfl) (by kernel_rfl) (by kernel_rfl) (fun v w h => h) fun a w3 L0 hr T => ?_
              have h1 : a.eval (.tmp 147) = .bool true := T.at_ 15 147 (by kernel_rfl) (by kernel_rfl) (by kernel_rfl)
              exact ⟨.bool false, w3, by simp only [execOp, h1]; simp [go_sem], PI.Post.pure ⟨fun w => Below.refl _ w, fun _ _ _ h k => h.trans k⟩ rfl trivial⟩
            · obtain rfl := Option.some.inj (show some _ = some o from ho)
              refine PI.shown_val rfl fun a w3 L0 hr T => ?_
              have h1 : a.eval (.tmp 136) = .bool false := T.at_ 4 136 (by kernel_rfl) (by kernel_rfl) (by kernel_rfl)
              have h2 : a.eval (.tmp 148) = .bool false := T.at_ 16 148 (by kernel_rfl) (by kernel_rfl) (by kernel_rfl)
              exact ⟨.bool false, w3, by simp only [execOp, h1, h2]; simp [go_sem, Act.eval], PI.Post.pure ⟨fun w => Below.refl _ w, fun _ _ _ h k => h.trans k⟩ rfl trivial⟩
            · cases ho
          · rw [← hW]
            intro x w9 hr hf he _
            have h17 := hf 17 _ 149 rfl rfl (by decide)
            have hx17 : x 17 = .bool false := h17
            have HB9 := Lib.hid (HBD.out.trans (hr.mono HBD.out.size))
            clear hf he hr h17 hS ej ek ej2 ek2 s1 s2 s3 s4 s5 s6 s7 s8 s9 r1 r2 r3 r4 r5 r6 r7 r8 r9 l1 l2 l3 l4
            simp only [PI.putAll, Act.put, List.setIfInBounds_toArray, List.set_cons_zero, List.set_cons_succ]
            rw [hx17]
            have hq9 : p ≤ 120 := by
              have h := HPQ.out.1
              have h2 := List.length_filter_le (fun e => !goneE now idle age e) ((l.map Le.ep).take k)
              rw [List.length_take] at h2
              omega
            go_wp2_with fail
            go_roundw
            case rel =>
              refine ⟨k + 1, p + 1, q, by go_num, by go_num, rfl, by omega, Lib.hid ⟨?_, ?_⟩, HB9⟩
              · rw [filter_step (fun e => !goneE now idle age e) _ k _ HEP.out, ← HPQ.out.1]; simp [Le.ep, HGV.out]
              · rw [filter_step (goneE now idle age) _ k _ HEP.out, ← HPQ.out.2]; simp [Le.ep, HGV.out]
            case measure => simp [intOf]; omega
    · obtain rfl : k = n := by omega
      have HPE : Hid (p = un ∧ q = vn) := Lib.hid (by
        have h1 := HPQ.out
        rw [List.take_of_length_le (by rw [List.length_map, ← HN.out]; exact Nat.le_refl _)] at h1
        obtain ⟨g1, g2, g3, g4, _⟩ := HUV.out
        rw [← g3, ← g4, List.length_map, List.length_map] at h1
        omega)
      obtain ⟨rfl, rfl⟩ := HPE.out
      have HBW := Lib.hid (HB3.out.trans (HB.out.mono HB3.out.size))
      go_wp2_with fail
      go_ret
      exact ⟨rfl, HBW.out⟩
end Go.Proofs.Ytjjklinjcbonkaa
