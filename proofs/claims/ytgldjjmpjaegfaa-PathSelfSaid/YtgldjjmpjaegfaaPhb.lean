/- Chapter 30, path: whose end is latest. -/
import Derived.Test.YtgldjjmpjaegfaaPha
namespace Go.Proofs.Ytgldjjmpjaegfaa
open Go.RowKit Go.Maps
set_option linter.unusedVariables false
set_option linter.unusedSimpArgs false
set_option maxRecDepth 100000

def En (l : List Ls) (i : Nat) : Int := ((l[i]?).map fun x => endE x.s).getD 0
theorem En_at {l : List Ls} {i : Nat} {x : Ls} (h : l[i]? = some x) : En l i = endE x.s := by unfold En; rw [h]; rfl
theorem endE_bd (s : Sp) : 0 ≤ endE s ∧ endE s ≤ 2000000000000000 := by
  unfold endE
  split
  · rename_i h
    unfold right at h
    simp only [Bool.and_eq_true, decide_eq_true_eq] at h
    omega
  · omega
theorem endB_bd (s : Sp) : 0 ≤ endB s ∧ endB s ≤ endE s := by
  unfold endB endE
  split
  · rename_i h
    unfold right at h
    simp only [Bool.and_eq_true, decide_eq_true_eq] at h
    omega
  · omega
theorem En_bd (l : List Ls) (i : Nat) : 0 ≤ En l i ∧ En l i ≤ 2000000000000000 := by
  unfold En
  cases l[i]? with
  | none => simp
  | some x => exact endE_bd x.s
namespace Sy
/-- The first of the latest. -/
def best (E : Nat → Int) : Nat → List Nat → Nat
  | a, [] => a
  | a, x :: r => best E (if E a < E x then x else a) r
def bestL (E : Nat → Int) : List Nat → Nat
  | [] => 0
  | x :: r => best E x r
theorem best_snoc (E : Nat → Int) : ∀ (r : List Nat) (a t : Nat), best E a (r ++ [t]) = if E (best E a r) < E t then t else best E a r
  | [], a, t => rfl
  | x :: r, a, t => by
    show best E (if E a < E x then x else a) (r ++ [t]) = _
    rw [best_snoc E r]; rfl
theorem bestL_snoc {E : Nat → Int} {T : List Nat} {k t : Nat} (hk : 0 < k) (ht : T[k]? = some t) : bestL E (T.take (k + 1)) = if E (bestL E (T.take k)) < E t then t else bestL E (T.take k) := by
  cases T with
  | nil => cases ht
  | cons x r =>
    obtain ⟨k, rfl⟩ : ∃ j, k = j + 1 := ⟨k - 1, by omega⟩
    rw [List.getElem?_cons_succ] at ht
    rw [List.take_succ_cons, List.take_succ_cons, List.take_add_one, ht]
    exact best_snoc E (r.take k) x t
theorem best_mem (E : Nat → Int) : ∀ (r : List Nat) (a : Nat), best E a r ∈ a :: r
  | [], a => List.mem_cons_self
  | x :: r, a => by
    show best E (if E a < E x then x else a) r ∈ _
    have h := best_mem E r (if E a < E x then x else a)
    rcases List.mem_cons.1 h with e | e
    · rw [e]
      split
      · exact List.mem_cons_of_mem _ List.mem_cons_self
      · exact List.mem_cons_self
    · exact List.mem_cons_of_mem _ (List.mem_cons_of_mem _ e)
theorem bestL_mem {E : Nat → Int} {T : List Nat} (h : T ≠ []) : bestL E T ∈ T := by
  cases T with
  | nil => exact absurd rfl h
  | cons x r => exact best_mem E r x
theorem best_ge (E : Nat → Int) : ∀ (r : List Nat) (a : Nat), E a ≤ E (best E a r) ∧ ∀ y ∈ r, E y ≤ E (best E a r)
  | [], a => ⟨Int.le_refl _, fun y hy => by cases hy⟩
  | x :: r, a => by
    show E a ≤ E (best E (if E a < E x then x else a) r) ∧ ∀ y ∈ x :: r, E y ≤ E (best E (if E a < E x then x else a) r)
    have h := best_ge E r (if E a < E x then x else a)
    have h1 : E a ≤ E (if E a < E x then x else a) ∧ E x ≤ E (if E a < E x then x else a) := by split <;> omega
    refine ⟨by omega, fun y hy => ?_⟩
    rcases List.mem_cons.1 hy with e | e
    · rw [e]; omega
    · exact h.2 y e
theorem bestL_ge {E : Nat → Int} {T : List Nat} : ∀ y ∈ T, E y ≤ E (bestL E T) := by
  cases T with
  | nil => intro y hy; cases hy
  | cons x r =>
    intro y hy
    rcases List.mem_cons.1 hy with e | e
    · rw [e]; exact (best_ge E r x).1
    · exact (best_ge E r x).2 y e
end Sy
set_option maxHeartbeats 8000000 in
theorem latest_any (l : List Ls) (lA : Option Addr) (n c B : Nat) (Tk : List Nat) (tA : Option Addr) (tn tc C : Nat) (w : World) (hS : RdSps w B lA l) (hB : B ≤ w.heap.size) (hn : n = l.length) (hT : Rd w C tA (Tk.map encN)) (hC : C ≤ w.heap.size) (htn : tn = Tk.length) (h0 : 0 < tn) (hlt : ∀ t ∈ Tk, t < n) (hsm : n ≤ 100000) (htm : tn ≤ 100000) :
    Calls Try.prog 38 #[.slice lA n c, .slice tA tn tc] w fun e w' => e = .returned (.int .i64 ((Sy.bestL (En l) Tk : Nat) : Int)) ∧ Below w.heap.size w w' := by
  have HN := Lib.hid hn
  have HTN := Lib.hid htn
  have HS := Lib.hid hS
  have HT := Lib.hid hT
  have HLT := Lib.hid hlt
  obtain ⟨t0, ht0⟩ : ∃ t0, Tk[0]? = some t0 := ⟨_, List.getElem?_eq_getElem (by omega)⟩
  obtain ⟨ta, hta, _, hc⟩ := hT (by rw [List.length_map]; omega)
  have ct0 : w.cell? ta = some (.int .i64 (t0 : Int)) := by
    have h := hc 0 _ (by rw [List.getElem?_map, ht0]; rfl)
    rwa [show ta.add 0 = ta from by unfold Addr.add; split <;> simp_all] at h
  have ct0b : w.cell? (ta.add 0) = some (.int .i64 (t0 : Int)) := hc 0 _ (by rw [List.getElem?_map, ht0]; rfl)
  have HT0 := Lib.hid ht0
  have i00 : (0 : Int) < (tn : Int) := by omega
  have HTM := Lib.hid (And.intro h0 htm)
  subst hta
  clear hn htn hS hT hlt ht0 hc h0 htm
  go_enter Try.func38, Try.ntmps38
  go_upto_region 3 with fail
  go_loopw [5, 6, 16] (fun va vm vi wq => ∃ (k a : Nat) (mo : Int), vi = .int .i64 (k : Int) ∧ va = .int .i64 (a : Int) ∧ vm = .int .i64 mo ∧ Hid (k ≤ tn) ∧ Hid ((k = 0 ∧ a = t0 ∧ mo = -1) ∨ (0 < k ∧ a = Sy.bestL (En l) (Tk.take k) ∧ mo = En l a)) ∧ Hid (Below w.heap.size w wq)) (fun _ _ vi _ => tn - (intOf vi).toNat)
  case atStart => exact ⟨0, t0, -1, rfl, rfl, rfl, Lib.hid (Nat.zero_le _), Lib.hid (.inl ⟨rfl, rfl, rfl⟩), Lib.hid (Below.refl _ _)⟩
  case round =>
    obtain ⟨k, a, mo, rfl, rfl, rfl, HK, HM, HBW⟩ := hrel
    by_cases hkt : k < tn
    · have d0 : decide ((k : Int) < (tn : Int)) = true := decide_eq_true (by omega)
      have d1 : decide (k < tn) = true := decide_eq_true hkt
      have i0 : (0 : Int) ≤ (k : Int) := by omega
      have i1 : (k : Int) < (tn : Int) := by omega
      obtain ⟨k9, hk9⟩ : ∃ k9, k9 = k + 1 := ⟨_, rfl⟩
      have e1 : IntKind.i64.wrap ((k : Int) + 1) = (k9 : Int) := by have := HTM.out; rw [IntKind.wrap_i64] <;> omega
      obtain ⟨t, ht⟩ : ∃ t, Tk[k]? = some t := ⟨_, List.getElem?_eq_getElem (by rw [← HTN.out]; exact hkt)⟩
      have htn' : t < n := HLT.out t (List.mem_of_getElem? ht)
      obtain ⟨tb, htb, _, hct⟩ := (HT.out.below (HBW.out.mono hC)) (by rw [List.length_map, ← HTN.out]; omega)
      obtain rfl : ta = tb := by injection htb
      have ct : wr.cell? (ta.add k) = some (.int .i64 (t : Int)) := hct k _ (by rw [List.getElem?_map, ht]; rfl)
      obtain ⟨x, hx⟩ : ∃ x, l[t]? = some x := ⟨_, List.getElem?_eq_getElem (by rw [← HN.out]; exact htn')⟩
      have hE := En_at hx
      have hbd := En_bd l t
      obtain ⟨aa, haa, _, hca, hl2⟩ := (HS.out.below (HBW.out.mono hB)).at_ hx
      subst haa
      obtain ⟨⟨x0, x1, x2, x3, x4, x5, x6, x7, x8, ats⟩, xA, xc⟩ := x
      obtain ⟨m, hm⟩ : ∃ m, m = ats.length := ⟨_, rfl⟩
      have c0 : wr.cell? (aa.add (t * 10)) = some (.int .u64 x0) := hca 0 _ rfl
      have c1 : wr.cell? ⟨(aa.add (t * 10)).block, (aa.add (t * 10)).off + 1, none⟩ = some (.int .u64 x1) := cell_far (hca 1 _ rfl) (by omega)
      have c2 : wr.cell? ⟨(aa.add (t * 10)).block, (aa.add (t * 10)).off + 2, none⟩ = some (.int .u64 x2) := cell_far (hca 2 _ rfl) (by omega)
      have c3 : wr.cell? ⟨(aa.add (t * 10)).block, (aa.add (t * 10)).off + 3, none⟩ = some (.int .u64 x3) := cell_far (hca 3 _ rfl) (by omega)
      have c4 : wr.cell? ⟨(aa.add (t * 10)).block, (aa.add (t * 10)).off + 4, none⟩ = some (.string x4) := cell_far (hca 4 _ rfl) (by omega)
      have c5 : wr.cell? ⟨(aa.add (t * 10)).block, (aa.add (t * 10)).off + 5, none⟩ = some (.string x5) := cell_far (hca 5 _ rfl) (by omega)
      have c6 : wr.cell? ⟨(aa.add (t * 10)).block, (aa.add (t * 10)).off + 6, none⟩ = some (.int .i64 x6) := cell_far (hca 6 _ rfl) (by omega)
      have c7 : wr.cell? ⟨(aa.add (t * 10)).block, (aa.add (t * 10)).off + 7, none⟩ = some (.int .i64 x7) := cell_far (hca 7 _ rfl) (by omega)
      have c8 : wr.cell? ⟨(aa.add (t * 10)).block, (aa.add (t * 10)).off + 8, none⟩ = some (.bool x8) := cell_far (hca 8 _ rfl) (by omega)
      have c9 : wr.cell? ⟨(aa.add (t * 10)).block, (aa.add (t * 10)).off + 9, none⟩ = some (.slice xA m xc) := by rw [hm]; exact cell_far (hca 9 _ rfl) (by omega)
      have EC := Lib.hid (ends_lit x0 x1 x2 x3 x4 x5 x6 x7 x8 ats xA xc m B wr hm hl2 (Nat.le_trans hB HBW.out.size))
      obtain ⟨eB, heB⟩ : ∃ eB, eB = endB ⟨x0, x1, x2, x3, x4, x5, x6, x7, x8, ats⟩ := ⟨_, rfl⟩
      obtain ⟨eE, heE⟩ : ∃ eE, eE = En l t := ⟨_, rfl⟩
      rw [← heB, ← hE, ← heE] at EC
      have i2 : (0 : Int) ≤ (t : Int) := by omega
      have i3 : (t : Int) < (n : Int) := by omega
      have HT1 := Lib.hid ht
      have HEE := Lib.hid heE
      have HK9 := Lib.hid hk9
      have HKT := Lib.hid hkt
      have HBD := Lib.hid hbd
      clear hca hl2 hm heB heE hE hx hbd ht hct htb htn' hk9 hkt
      by_cases hcmp : mo < eE
      · have d2 : decide (mo < eE) = true := decide_eq_true hcmp
        have HM2 : Hid ((k9 = 0 ∧ t = t0 ∧ eE = -1) ∨ (0 < k9 ∧ t = Sy.bestL (En l) (Tk.take k9) ∧ eE = En l t)) := Lib.hid (.inr ⟨by have := HK9.out; omega, by
          rw [HK9.out]
          rcases HM.out with h | h
          · rw [h.1]
            have h1 := HT0.out
            have h2 := HT1.out
            rw [h.1] at h2
            rw [h2] at h1
            cases hTk : Tk with
            | nil => rw [hTk] at h2; cases h2
            | cons y r => rw [hTk] at h2; injection h2 with h2; rw [← h2]; rfl
          · rw [Sy.bestL_snoc h.1 HT1.out, ← h.2.1, if_pos (by rw [← h.2.2, ← HEE.out]; exact hcmp)], HEE.out⟩)
        clear hcmp
        go_wp2_with (go_at_call 23; (with_reducible refine EC.out.mono ?_); rintro ex w1 ⟨rfl, hb1⟩; have HB1 := Lib.hid (HBW.out.trans (hb1.mono HBW.out.size)); clear hb1)
        go_roundw
        case rel => exact ⟨k9, t, eE, by first | rfl | go_num, rfl, rfl, Lib.hid (by have := HKT.out; have := HK9.out; omega), HM2, HB1⟩
        case measure => have := HKT.out; have := HK9.out; simp [intOf]; omega
      · have d2 : decide (mo < eE) = false := decide_eq_false hcmp
        have HM2 : Hid ((k9 = 0 ∧ a = t0 ∧ mo = -1) ∨ (0 < k9 ∧ a = Sy.bestL (En l) (Tk.take k9) ∧ mo = En l a)) := Lib.hid (.inr ⟨by have := HK9.out; omega, by
          rw [HK9.out]
          rcases HM.out with h | h
          · have := HBD.out; have := HEE.out; omega
          · rw [Sy.bestL_snoc h.1 HT1.out, ← h.2.1, if_neg (by rw [← h.2.2, ← HEE.out]; exact hcmp)], by
          rcases HM.out with h | h
          · have := HBD.out; have := HEE.out; omega
          · exact h.2.2⟩)
        clear hcmp
        go_wp2_with (go_at_call 23; (with_reducible refine EC.out.mono ?_); rintro ex w1 ⟨rfl, hb1⟩; have HB1 := Lib.hid (HBW.out.trans (hb1.mono HBW.out.size)); clear hb1)
        go_roundw
        case rel => exact ⟨k9, a, mo, by first | rfl | go_num, rfl, rfl, Lib.hid (by have := HKT.out; have := HK9.out; omega), HM2, HB1⟩
        case measure => have := HKT.out; have := HK9.out; simp [intOf]; omega
    · obtain rfl : tn = k := by have := HK.out; omega
      have d0 : decide ((tn : Int) < (tn : Int)) = false := decide_eq_false (by omega)
      have d1 : decide (tn < tn) = false := decide_eq_false (by omega)
      have HA : Hid (a = Sy.bestL (En l) Tk) := Lib.hid (by
        rcases HM.out with h | h
        · have := HTM.out; omega
        · rw [h.2.1, List.take_of_length_le (by rw [← HTN.out]; exact Nat.le_refl _)])
      clear hkt
      go_wp2_with fail
      go_ret
      exact ⟨by rw [← HA.out] <;> rfl, HBW.out⟩
end Go.Proofs.Ytgldjjmpjaegfaa
