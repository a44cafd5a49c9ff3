/- The document's Oldest. -/
import Derived.Test.YtenioeppmgmdiaaDw
import Derived.Test.YtenioeppmgmdiaaOo
namespace Go.Proofs.Ytenioeppmgmdiaa
open Go.RowKit
set_option linter.unusedVariables false
set_option linter.unusedSimpArgs false
set_option maxRecDepth 100000

def DoF (d oof n c k o base B : Nat) (A2 : Addr) (L1 L2 : List Le) (C : Array Value) : Nat → Value → World → Prop
  | 0, v, _ => v = .slice (some ⟨d, oof, none⟩) n c
  | 1, v, _ => v = .int .i64 (k : Int)
  | 2, v, _ => v = .slice (some ⟨d, oof, none⟩) k c
  | 3, v, w => RowEps w base B v L1
  | 4, v, _ => v = .slice (some ⟨d, oof, none⟩) n c
  | 5, v, _ => v = .int .i64 (k : Int)
  | 6, v, _ => v = .int .i64 ((k + 1 : Nat) : Int)
  | 7, v, _ => v = .slice (some A2) (n - (k + 1)) (c - (k + 1))
  | 8, v, w => RowEps w base B v (L1 ++ L2)
  | 9, v, _ => v = .slice (some ⟨d, oof, none⟩) n c
  | 10, v, _ => v = .int .i64 (k : Int)
  | 11, v, _ => v = .pointer (some ⟨d, oof + k * 6, none⟩)
  | 12, v, _ => v = .agg C
  | 13, v, w => RowEps w base B v (L1 ++ L2)
  | 14, _, w => w.heap[o]? = some (.cells C 30 (0, 0))
  | 15, v, _ => v = .bool true
  | _, _, _ => True
theorem DoF.keep {d oof n c k o base B : Nat} {A2 : Addr} {L1 L2 : List Le} {C : Array Value} {w w' : World} {i : Nat} {v : Value} (hb : Below w.heap.size w w') (hB : B ≤ w.heap.size) (h : DoF d oof n c k o base B A2 L1 L2 C i v w) : DoF d oof n c k o base B A2 L1 L2 C i v w' := by
  match i, h with
  | 0, h => exact h
  | 1, h => exact h
  | 2, h => exact h
  | 3, h => exact RowEps.below h hb hB
  | 4, h => exact h
  | 5, h => exact h
  | 6, h => exact h
  | 7, h => exact h
  | 8, h => exact RowEps.below h hb hB
  | 9, h => exact h
  | 10, h => exact h
  | 11, h => exact h
  | 12, h => exact h
  | 13, h => exact RowEps.below h hb hB
  | 14, h => exact (hb.block o (in_heap h)).trans h
  | 15, h => exact h
  | _ + 16, h => trivial
theorem DoF.other {d oof n c k o base B : Nat} {A2 : Addr} {L1 L2 : List Le} {C : Array Value} {w w' : World} {i : Nat} {v : Value} (hi : i ≠ 3 ∧ i ≠ 8 ∧ i ≠ 13 ∧ i ≠ 14) (h : DoF d oof n c k o base B A2 L1 L2 C i v w) : DoF d oof n c k o base B A2 L1 L2 C i v w' := by
  match i, h, hi with
  | 0, h, _ => exact h
  | 1, h, _ => exact h
  | 2, h, _ => exact h
  | 3, h, k => exact absurd rfl k.1
  | 4, h, _ => exact h
  | 5, h, _ => exact h
  | 6, h, _ => exact h
  | 7, h, _ => exact h
  | 8, h, k => exact absurd rfl k.2.1
  | 9, h, _ => exact h
  | 10, h, _ => exact h
  | 11, h, _ => exact h
  | 12, h, _ => exact h
  | 13, h, k => exact absurd rfl k.2.2.1
  | 14, h, k => exact absurd rfl k.2.2.2
  | 15, h, _ => exact h
  | _ + 16, h, _ => trivial
theorem six_store6 {w : World} {g : Nat} {t : TypeId} {a0 a1 a2 a3 a4 a5 v0 v1 v2 v3 v4 v5 : Value} (h : w.heap[g]? = some (.cells #[a0, a1, a2, a3, a4, a5] t (0, 0))) : ((((((w.setCell ⟨g, 0, none⟩ v0).setCell ⟨g, 1, none⟩ v1).setCell ⟨g, 2, none⟩ v2).setCell ⟨g, 3, none⟩ v3).setCell ⟨g, 4, none⟩ v4).setCell ⟨g, 5, none⟩ v5).heap[g]? = some (.cells #[v0, v1, v2, v3, v4, v5] t (0, 0)) := by
  have h0 := heap_setCell_same _ g 0 _ _ v0 h
  have h1 := heap_setCell_same _ g 1 _ _ v1 h0
  have h2 := heap_setCell_same _ g 2 _ _ v2 h1
  have h3 := heap_setCell_same _ g 3 _ _ v3 h2
  have h4 := heap_setCell_same _ g 4 _ _ v4 h3
  exact heap_setCell_same _ g 5 _ _ v5 h4
theorem RowEps.far {w : World} {base B : Nat} {v : Value} {l : List Le} (h : RowEps w base B v l) {p : Addr} (hp : p.block < base) (hB : B ≤ p.block) (u : Value) : RowEps (w.setCell p u) base B v l := ⟨own_far h.own hp u, fun x hx => (h.each x hx).below ((Below.refl _ _).setCell hB u)⟩
theorem RowEps.six {w : World} {base B o : Nat} {v : Value} {l : List Le} (h : RowEps w base B v l) (ho : o < base) (hB : B ≤ o) (v0 v1 v2 v3 v4 v5 : Value) : RowEps ((((((w.setCell ⟨o, 0, none⟩ v0).setCell ⟨o, 1, none⟩ v1).setCell ⟨o, 2, none⟩ v2).setCell ⟨o, 3, none⟩ v3).setCell ⟨o, 4, none⟩ v4).setCell ⟨o, 5, none⟩ v5) base B v l := by
  have h0 := RowEps.far (p := ⟨o, 0, none⟩) h ho hB v0
  have h1 := RowEps.far (p := ⟨o, 1, none⟩) h0 ho hB v1
  have h2 := RowEps.far (p := ⟨o, 2, none⟩) h1 ho hB v2
  have h3 := RowEps.far (p := ⟨o, 3, none⟩) h2 ho hB v3
  have h4 := RowEps.far (p := ⟨o, 4, none⟩) h3 ho hB v4
  exact RowEps.far (p := ⟨o, 5, none⟩) h4 ho hB v5
theorem DoF.step {d oof n c k o base B : Nat} {A2 : Addr} {L1 L2 : List Le} {C : Array Value} {w w' : World} {i : Nat} {v : Value} (hR : ∀ v l, RowEps w base B v l → RowEps w' base B v l) (hi : i ≠ 14) (h : DoF d oof n c k o base B A2 L1 L2 C i v w) : DoF d oof n c k o base B A2 L1 L2 C i v w' := by
  match i, h, hi with
  | 0, h, _ => exact h
  | 1, h, _ => exact h
  | 2, h, _ => exact h
  | 3, h, _ => exact hR _ _ h
  | 4, h, _ => exact h
  | 5, h, _ => exact h
  | 6, h, _ => exact h
  | 7, h, _ => exact h
  | 8, h, _ => exact hR _ _ h
  | 9, h, _ => exact h
  | 10, h, _ => exact h
  | 11, h, _ => exact h
  | 12, h, _ => exact h
  | 13, h, _ => exact hR _ _ h
  | 14, h, k => exact absurd rfl k
  | 15, h, _ => exact h
  | _ + 16, h, _ => trivial
def DoG (o : Nat) (C : Obj) : Nat → World → Prop
  | 14, w => w.heap[o]? = some C
  | _, _ => True
theorem DoG.keep {o i base : Nat} {w w' : World} {C : Obj} (hb : Below base w w') (ho : o < base) (h : DoG o C i w) : DoG o C i w' := by
  unfold DoG at *
  split
  · exact (hb.block o ho).trans h
  · trivial
theorem RdEps.take {w : World} {B : Nat} {A : Option Addr} {l : List Le} (h : RdEps w B A l) (k : Nat) : RdEps w B A (l.take k) := by
  refine ⟨fun hp => ?_, fun e he => h.each e (List.mem_of_mem_take he)⟩
  rw [← flat_take] at hp
  obtain ⟨a, ha, hb, hc⟩ := h.rd (by rw [List.length_take] at hp; omega)
  refine ⟨a, ha, hb, fun j u hu => hc j u ?_⟩
  rw [← flat_take, List.getElem?_take] at hu
  split at hu
  · exact hu
  · cases hu
theorem RdEps.drop {w : World} {B d o : Nat} {l : List Le} (h : RdEps w B (some ⟨d, o, none⟩) l) (k : Nat) : RdEps w B (some ⟨d, o + k * 6, none⟩) (l.drop k) := by
  refine ⟨fun hp => ?_, fun e he => h.each e (List.mem_of_mem_drop he)⟩
  rw [← flat_drop] at hp
  obtain ⟨a, ha, hb, hc⟩ := h.rd (by rw [List.length_drop] at hp; omega)
  injection ha with ha
  subst ha
  refine ⟨_, rfl, hb, fun j u hu => ?_⟩
  rw [← flat_drop, List.getElem?_drop] at hu
  have := hc _ _ hu
  rw [addr_plain] at this ⊢
  rwa [Nat.add_assoc]
def DOldOf (L : List Le) (B : Nat) (w : World) (e : Ending) (w' : World) : Prop :=
  Below w.heap.size w w' ∧ ((L = [] ∧ e = .returned (.tuple #[.slice none 0 0, .agg #[.int .u64 0, .int .u64 0, .int .i64 0, .int .i64 0, .bool false, .slice none 0 0], .bool false])) ∨ (∃ (v' : Value) (k q ec : Nat) (th tl f la : Int) (su : Bool) (eA : Option Addr) (ls : List Ls), k < L.length ∧ q = ls.length ∧ e = .returned (.tuple #[v', .agg #[.int .u64 th, .int .u64 tl, .int .i64 f, .int .i64 la, .bool su, .slice eA q ec], .bool true]) ∧ RowEps w' w.heap.size B v' (L.take k ++ L.drop (k + 1)) ∧ L[k]? = some ⟨th, tl, f, la, su, ls, eA, ec⟩ ∧ MinTo L L.length k))
set_option maxHeartbeats 16000000 in
theorem doldest_any (A : Option Addr) (l : List Le) (n c B : Nat) (w : World) (hn : n = l.length) (hy : RdEps w B A l) (hB : B ≤ w.heap.size) (hl : n ≤ 100000) (hnc : n ≤ c) (hcm : c ≤ maxLen) :
    Calls Try.prog 21 #[.slice A n c] w (DOldOf l B w) := by
  simp only [maxLen] at hcm
  by_cases hn0 : n = 0
  · subst hn0
    obtain rfl : l = [] := List.length_eq_zero_iff.1 hn.symm
    have HB : Hid (Below w.heap.size w (w.alloc (.cells #[.int .u64 0, .int .u64 0, .int .i64 0, .int .i64 0, .bool false, .slice none 0 0] 30))) := Lib.hid ((Below.refl _ _).alloc (Nat.le_refl _) _)
    clear hn hy
    go_enter Try.func21, Try.ntmps21
    go_wp2_with fail
    refine bodyPost_ret (v := .tuple #[.slice none 0 0, .agg #[.int .u64 0, .int .u64 0, .int .i64 0, .int .i64 0, .bool false, .slice none 0 0], .bool false]) (by simp [results, Try.results21, go_sem]) rfl ?_
    refine ⟨?_, .inl ⟨rfl, rfl⟩⟩
    repeat' (first | (with_reducible exact HB.out) | (with_reducible exact Below.refl _ _) | (refine Below.setCell ?_ (by simp) _) | (with_reducible refine Below.alloc ?_ (by simp) _))
  · obtain ⟨y0, hy0⟩ : ∃ y, l[0]? = some y := ⟨_, List.getElem?_eq_getElem (by omega)⟩
    obtain ⟨d, oof, hA, hdB, _, _⟩ := eplain hy hy0
    subst hA
    have HN := Lib.hid hn
    have HY := Lib.hid hy
    have HDB := Lib.hid hdB
    have hnpos : 0 < n := by omega
    have d0 : ((n : Int) == 0) = false := by simp; omega
    have HB0 : Hid (Below w.heap.size w (w.alloc (.cells #[.int .u64 0, .int .u64 0, .int .i64 0, .int .i64 0, .bool false, .slice none 0 0] 30))) := Lib.hid ((Below.refl _ _).alloc (Nat.le_refl _) _)
    have HZ0 : Hid ((w.alloc (.cells #[.int .u64 0, .int .u64 0, .int .i64 0, .int .i64 0, .bool false, .slice none 0 0] 30)).heap.size = w.heap.size + 1) := Lib.hid (by simp)
    have HR0 : Hid ((w.alloc (.cells #[.int .u64 0, .int .u64 0, .int .i64 0, .int .i64 0, .bool false, .slice none 0 0] 30)).heap[w.heap.size]? = some (.cells #[.int .u64 0, .int .u64 0, .int .i64 0, .int .i64 0, .bool false, .slice none 0 0] 30 (0, 0))) := Lib.hid (heap_alloc_new w _)
    clear hy hy0 hn hdB hn0
    go_enter Try.func21, Try.ntmps21
    go_wp2_with fail
    go_loopw [6, 5] (fun i o wr => ∃ k p : Nat, i = .int .i64 k ∧ o = .int .i64 p ∧ k ≤ n ∧ p < n ∧ Hid (MinTo l k p) ∧ Hid (Below (w.alloc (.cells #[.int .u64 0, .int .u64 0, .int .i64 0, .int .i64 0, .bool false, .slice none 0 0] 30)).heap.size (w.alloc (.cells #[.int .u64 0, .int .u64 0, .int .i64 0, .int .i64 0, .bool false, .slice none 0 0] 30)) wr)) (fun i _ _ => n - (intOf i).toNat)
    case atStart => exact ⟨0, 0, rfl, rfl, Nat.zero_le _, hnpos, Lib.hid (MinTo.zero (by rw [← HN.out]; exact hnpos)), Lib.hid (Below.refl _ _)⟩
    case round =>
      obtain ⟨k, p, rfl, rfl, hk, hp, HM, HB⟩ := hrel
      have HBW := Lib.hid (HB0.out.trans (HB.out.mono (by rw [HZ0.out]; omega)))
      obtain ⟨y, hy⟩ : ∃ y, l[p]? = some y := ⟨_, List.getElem?_eq_getElem (by rw [← HN.out]; exact hp)⟩
      obtain ⟨d', o', hA, _, cy, _⟩ := eplain (HY.out.below (HBW.out.mono hB)) hy
      injection hA with hA
      injection hA with hA1 hA2
      subst hA1
      subst hA2
      by_cases hlt : k < n
      · obtain ⟨x, hx⟩ : ∃ x, l[k]? = some x := ⟨_, List.getElem?_eq_getElem (by rw [← HN.out]; exact hlt)⟩
        obtain ⟨d', o', hA, _, cx, _⟩ := eplain (HY.out.below (HBW.out.mono hB)) hx
        injection hA with hA
        injection hA with hA1 hA2
        subst hA1
        subst hA2
        have HML := Lib.hid (fun h => HM.out.less hy hx h)
        have HMM := Lib.hid (fun h => HM.out.more hy hx h)
        obtain ⟨th, tl, f, la, su, ls, eA, ec⟩ := x
        obtain ⟨yh, yl, yf, yla, ysu, yls, yA, yc⟩ := y
        have x2 : wr.cell? ⟨d, oof + k * 6 + 2, none⟩ = some (.int .i64 f) := cx 2 _ rfl
        have y2 : wr.cell? ⟨d, oof + p * 6 + 2, none⟩ = some (.int .i64 yf) := cy 2 _ rfl
        have ad1 := addr_plain d oof (k * 6)
        have ad2 := addr_plain d oof (p * 6)
        have hff : (f < yf) ∨ ¬ (f < yf) := Classical.em _
        simp only at HML HMM
        clear hx hy HM cx cy
        rcases hff with hf | hf
        · have HMN := Lib.hid (HML.out hf)
          have e1 : decide (f < yf) = true := decide_eq_true hf
          clear HML HMM hf
          go_wp2_with fail
          go_quiet (fail)
          go_wp2_with fail
          go_roundw
          case rel => exact ⟨k + 1, k, by go_num, rfl, by omega, hlt, HMN, Lib.hid (drewNB HB.out _)⟩
          case measure => simp [intOf]; omega
        · have HMN := Lib.hid (HMM.out hf)
          have e1 : decide (f < yf) = false := decide_eq_false hf
          clear HML HMM hf
          go_wp2_with fail
          go_quiet (fail)
          go_wp2_with fail
          go_roundw
          case rel => exact ⟨k + 1, p, by go_num, rfl, by omega, hp, HMN, Lib.hid (drewNB HB.out _)⟩
          case measure => simp [intOf]; omega
      · obtain rfl : k = n := by omega
        have HPY := Lib.hid hy
        obtain ⟨th, tl, f, la, su, ls, eA, ec⟩ := y
        obtain ⟨q, hq⟩ : ∃ q, q = ls.length := ⟨_, rfl⟩
        have HQ := Lib.hid hq
        obtain ⟨W, hW⟩ : ∃ W, W = wr.drew := ⟨_, rfl⟩
        have HBD : Hid (Below (w.alloc (.cells #[.int .u64 0, .int .u64 0, .int .i64 0, .int .i64 0, .bool false, .slice none 0 0] 30)).heap.size (w.alloc (.cells #[.int .u64 0, .int .u64 0, .int .i64 0, .int .i64 0, .bool false, .slice none 0 0] 30)) W) := Lib.hid (by rw [hW]; exact HB.out.trans ⟨rfl, rfl, rfl, Nat.le_refl _, fun _ _ => rfl⟩)
        have HWW : Hid (Below w.heap.size w W) := Lib.hid (HB0.out.trans (HBD.out.mono (by rw [HZ0.out]; omega)))
        have hbl0 : w.heap.size < W.heap.size := by have := HBD.out.size; rw [HZ0.out] at this; omega
        have hbo : w.heap.size ≤ W.heap.size := by omega
        have hBo : B ≤ w.heap.size := hB
        have hBW : B ≤ W.heap.size := by omega
        have HYW : Hid (RdEps W B (some ⟨d, oof, none⟩) l) := Lib.hid (HY.out.below (HWW.out.mono hB))
        have HRW : Hid (W.heap[w.heap.size]? = some (.cells #[.int .u64 0, .int .u64 0, .int .i64 0, .int .i64 0, .bool false, .slice none 0 0] 30 (0, 0))) := Lib.hid ((HBD.out.block _ (by rw [HZ0.out]; omega)).trans HR0.out)
        obtain ⟨A2, hA, hA2⟩ : ∃ A2 : Addr, (if c = p + 1 then some (⟨d, oof, none⟩ : Addr) else some ⟨d, oof + (p + 1) * 6, none⟩) = some A2 ∧ Hid (∀ W3, Below w.heap.size W W3 → RdEps W3 B (some A2) (l.drop (p + 1))) := by
          by_cases h : c = p + 1
          · refine ⟨⟨d, oof, none⟩, by simp [h], fun W3 h3 => ?_⟩
            have h0 : l.drop (p + 1) = [] := List.drop_of_length_le (by have := HN.out; omega)
            rw [h0]
            exact RdEps.nil
          · refine ⟨⟨d, oof + (p + 1) * 6, none⟩, by simp [h], fun W3 h3 => (HYW.out.below (h3.mono hB)).drop (p + 1)⟩
        have ek : IntKind.i64.wrap ((p : Int) + 1) = ((p + 1 : Nat) : Int) := by rw [IntKind.wrap_i64] <;> omega
        have ek2 : ((p + 1 : Nat) : Int) = (p : Int) + 1 := by omega
        have r1 : (0 : Int) ≤ (p : Int) := by omega
        have r5 : ((p : Int) + 1).toNat = p + 1 := by omega
        have r6 : p + 1 ≤ c := by omega
        have r9 : (0 : Int) ≤ (p : Int) + 1 := by omega
        have r10 : (p : Int) ≤ (c : Int) := by omega
        have r11 : p ≤ c := by omega
        have r12 : (c = 0) = False := by simp; omega
        have r13 : (p : Int) + 1 ≤ (k : Int) := by omega
        have r14 : p + 1 ≤ k := by omega
        have r16 : (⟨d, oof, none⟩ : Addr).add ((p + 1) * 6) = ⟨d, oof + (p + 1) * 6, none⟩ := addr_plain d oof ((p + 1) * 6)
        have r17 : (k : Int) ≤ (c : Int) := by omega
        have i1 : (p : Int) < (k : Int) := by omega
        have i2 : (0 : Int) ≤ (p : Int) := by omega
        have i3 : p < k := hp
        have i4 : decide ((p : Int) < (k : Int)) = true := decide_eq_true i1
        have ad0 := addr_plain d oof (p * 6)
        clear hy hq cy HBW hlt hk
        go_wp2_with fail
        refine PI.wp_region_persG (R := Below w.heap.size) (G := (DoG w.heap.size (.cells #[.int .u64 0, .int .u64 0, .int .i64 0, .int .i64 0, .bool false, .slice none 0 0] 30))) (I := fun _ _ _ => True) [(2, 0), (2, 1), (3, 2), (6, 5), (7, 4), (7, 6), (8, 3), (8, 7), (11, 9), (11, 10), (12, 11), (13, 8), (14, 12)] [13, 14, 15] (by kernel_rfl) (PI.formed_of (by kernel_rfl)) ⟨fun w => Below.refl _ w, fun _ _ _ h k => h.trans k⟩ (by rw [← hW]; intro q; unfold DoG; split <;> first | exact HRW.out | trivial) (DoF d oof k c p w.heap.size W.heap.size B A2 (l.take p) (l.drop (p + 1)) #[.int .u64 th, .int .u64 tl, .int .i64 f, .int .i64 la, .bool su, .slice eA q ec]) trivial ?_ ?_
        · rw [← hW]
          intro i o ho
          rcases i with _ | _ | _ | _ | _ | _ | _ | _ | _ | _ | _ | _ | _ | _ | _ | _ | i
          · obtain rfl := Option.some.inj (show some _ = some o from ho)
            refine PI.shown_val rfl fun a w3 L0 hr T => ?_
            have h1 : a.eval (.tmp 0) = .slice (some ⟨d, oof, none⟩) k c := T.was 0 (by kernel_rfl)
            exact ⟨.slice (some ⟨d, oof, none⟩) k c, w3, by simp only [execOp, h1]; simp [go_sem], PI.Post.pure ⟨fun w => Below.refl _ w, fun _ _ _ h k => h.trans k⟩ rfl trivial⟩
          · obtain rfl := Option.some.inj (show some _ = some o from ho)
            refine PI.shown_val rfl fun a w3 L0 hr T => ?_
            have h1 : a.eval (.tmp 5) = .int .i64 (p : Int) := T.was 5 (by kernel_rfl)
            exact ⟨.int .i64 (p : Int), w3, by simp only [execOp, h1]; simp [go_sem], PI.Post.pure ⟨fun w => Below.refl _ w, fun _ _ _ h k => h.trans k⟩ rfl trivial⟩
          · obtain rfl := Option.some.inj (show some _ = some o from ho)
            refine PI.shown_val rfl fun a w3 L0 hr T => ?_
            have h0 : a.eval (.tmp 29) = .slice (some ⟨d, oof, none⟩) k c := T.at_ 0 29 (by kernel_rfl) (by kernel_rfl) (by kernel_rfl)
            have h1 : a.eval (.tmp 30) = .int .i64 (p : Int) := T.at_ 1 30 (by kernel_rfl) (by kernel_rfl) (by kernel_rfl)
            have q1 : a.tmps[30]?.getD undef = .int .i64 (p : Int) := by have := h1; simpa [Act.eval] using this
            exact ⟨.slice (some ⟨d, oof, none⟩) p c, w3, by simp only [execOp, h0, h1]; simp [go_sem, q1, r1, r10, r11, r12], PI.Post.pure ⟨fun w => Below.refl _ w, fun _ _ _ h k => h.trans k⟩ rfl trivial⟩
          · obtain rfl := Option.some.inj (show some _ = some o from ho)
            refine PI.shown_val rfl fun a w3 L0 hr T => ?_
            have h1 : a.eval (.tmp 31) = .slice (some ⟨d, oof, none⟩) p c := T.at_ 2 31 (by kernel_rfl) (by kernel_rfl) (by kernel_rfl)
            have h0 : a.eval (.const (.slice none 0 0)) = .slice none 0 0 := rfl
            have hW3 : W.heap.size ≤ w3.heap.size := hr.size
            have hyr := HYW.out.below (hr.mono hB)
            obtain ⟨v', w', r1', r2, r3⟩ := appRow (ty := 39) (base := W.heap.size) (B := B) (l := []) (xs := l.take p) (v := .slice none 0 0) p c (by rw [List.length_take, ← HN.out]; omega) (RowEps.nil w3 _ _) (hyr.take p).each (hyr.take p).rd (by simp) (by omega) hW3 hBW
            rw [List.nil_append] at r2
            have hbW := r3.below (Below.refl W.heap.size w3) hW3 (own_block_ge (RowEps.nil w3 W.heap.size B).own)
            have hb4 := r3.new
            exact ⟨v', w', by simp only [execOp, resolve, invoke, builtin, Sem.run_bind, Sem.run_pure, Result.andThen_ok, List.map_toArray, List.map_cons, List.map_nil, h0, h1, r1'], hbW.mono hbo, r2, fun _ _ h => h.keep hbW hbl0, fun j v _ _ _ _ h => h.keep hb4 (Nat.le_trans hBW hW3), trivial⟩
          · obtain rfl := Option.some.inj (show some _ = some o from ho)
            refine PI.shown_val rfl fun a w3 L0 hr T => ?_
            have h1 : a.eval (.tmp 0) = .slice (some ⟨d, oof, none⟩) k c := T.was 0 (by kernel_rfl)
            exact ⟨.slice (some ⟨d, oof, none⟩) k c, w3, by simp only [execOp, h1]; simp [go_sem], PI.Post.pure ⟨fun w => Below.refl _ w, fun _ _ _ h k => h.trans k⟩ rfl trivial⟩
          · obtain rfl := Option.some.inj (show some _ = some o from ho)
            refine PI.shown_val rfl fun a w3 L0 hr T => ?_
            have h1 : a.eval (.tmp 5) = .int .i64 (p : Int) := T.was 5 (by kernel_rfl)
            exact ⟨.int .i64 (p : Int), w3, by simp only [execOp, h1]; simp [go_sem], PI.Post.pure ⟨fun w => Below.refl _ w, fun _ _ _ h k => h.trans k⟩ rfl trivial⟩
          · obtain rfl := Option.some.inj (show some _ = some o from ho)
            refine PI.shown_val rfl fun a w3 L0 hr T => ?_
            have h1 : a.eval (.tmp 34) = .int .i64 (p : Int) := T.at_ 5 34 (by kernel_rfl) (by kernel_rfl) (by kernel_rfl)
            exact ⟨.int .i64 ((p + 1 : Nat) : Int), w3, by simp only [execOp, h1]; simp [go_sem, ek, ek2], PI.Post.pure ⟨fun w => Below.refl _ w, fun _ _ _ h k => h.trans k⟩ rfl trivial⟩
          · obtain rfl := Option.some.inj (show some _ = some o from ho)
            refine PI.shown_val rfl fun a w3 L0 hr T => ?_
            have h4 : a.eval (.tmp 33) = .slice (some ⟨d, oof, none⟩) k c := T.at_ 4 33 (by kernel_rfl) (by kernel_rfl) (by kernel_rfl)
            have h6 : a.eval (.tmp 35) = .int .i64 ((p + 1 : Nat) : Int) := T.at_ 6 35 (by kernel_rfl) (by kernel_rfl) (by kernel_rfl)
            have q6 : a.tmps[35]?.getD undef = .int .i64 ((p + 1 : Nat) : Int) := by have := h6; simpa [Act.eval] using this
            exact ⟨.slice (some A2) (k - (p + 1)) (c - (p + 1)), w3, by simp only [execOp, h4, h6]; simp [go_sem, q6, r9, r5, r13, r14, r16, hA, ek2, r6, r17], PI.Post.pure ⟨fun w => Below.refl _ w, fun _ _ _ h k => h.trans k⟩ rfl trivial⟩
          · obtain rfl := Option.some.inj (show some _ = some o from ho)
            refine PI.shown_val rfl fun a w3 L0 hr T => ?_
            have h1 : RowEps w3 W.heap.size B (a.eval (.tmp 32)) (l.take p) := T.at_ 3 32 (by kernel_rfl) (by kernel_rfl) (by kernel_rfl)
            have h2 : a.eval (.tmp 36) = .slice (some A2) (k - (p + 1)) (c - (p + 1)) := T.at_ 7 36 (by kernel_rfl) (by kernel_rfl) (by kernel_rfl)
            have hW3 : W.heap.size ≤ w3.heap.size := hr.size
            have hyr := HYW.out.below (hr.mono hB)
            obtain ⟨v', w', r1', r2, r3⟩ := appRow (ty := 39) (xs := l.drop (p + 1)) (k - (p + 1)) (c - (p + 1)) (by rw [List.length_drop, ← HN.out]) h1 (fun e he => hyr.each e (List.mem_of_mem_drop he)) (hA2.out w3 hr).rd (by rw [List.length_take]; omega) (by omega) hW3 hBW
            have hbW := r3.below (Below.refl W.heap.size w3) hW3 (own_block_ge h1.own)
            refine ⟨v', w', by simp only [execOp, resolve, invoke, builtin, Sem.run_bind, Sem.run_pure, Result.andThen_ok, List.map_toArray, List.map_cons, List.map_nil, h2]; rw [r1', Result.andThen_ok], hbW.mono hbo, r2, fun _ _ h => h.keep hbW hbl0, fun j v hj hLj hnd hvj h => ?_, trivial⟩
            refine h.other ⟨fun e => ?_, fun e => hj e, fun e => ?_, fun e => ?_⟩
            · subst e; simp [PI.needB] at hnd
            · subst e
              have h7 := T.shut_ 13 8 (by kernel_rfl) hLj
              rw [T.yetNot] at h7
              cases h7
            · subst e
              have h7 := T.shut_ 14 8 (by kernel_rfl) hLj
              rw [T.yetNot] at h7
              cases h7
          · obtain rfl := Option.some.inj (show some _ = some o from ho)
            refine PI.shown_val rfl fun a w3 L0 hr T => ?_
            have h1 : a.eval (.tmp 0) = .slice (some ⟨d, oof, none⟩) k c := T.was 0 (by kernel_rfl)
            exact ⟨.slice (some ⟨d, oof, none⟩) k c, w3, by simp only [execOp, h1]; simp [go_sem], PI.Post.pure ⟨fun w => Below.refl _ w, fun _ _ _ h k => h.trans k⟩ rfl trivial⟩
          · obtain rfl := Option.some.inj (show some _ = some o from ho)
            refine PI.shown_val rfl fun a w3 L0 hr T => ?_
            have h1 : a.eval (.tmp 5) = .int .i64 (p : Int) := T.was 5 (by kernel_rfl)
            exact ⟨.int .i64 (p : Int), w3, by simp only [execOp, h1]; simp [go_sem], PI.Post.pure ⟨fun w => Below.refl _ w, fun _ _ _ h k => h.trans k⟩ rfl trivial⟩
          · obtain rfl := Option.some.inj (show some _ = some o from ho)
            refine PI.shown_val rfl fun a w3 L0 hr T => ?_
            have h9 : a.eval (.tmp 38) = .slice (some ⟨d, oof, none⟩) k c := T.at_ 9 38 (by kernel_rfl) (by kernel_rfl) (by kernel_rfl)
            have h10 : a.eval (.tmp 39) = .int .i64 (p : Int) := T.at_ 10 39 (by kernel_rfl) (by kernel_rfl) (by kernel_rfl)
            exact ⟨.pointer (some ⟨d, oof + p * 6, none⟩), w3, by simp only [execOp, h9, h10]; simp [go_sem, i1, i2, i3, i4, ad0], PI.Post.pure ⟨fun w => Below.refl _ w, fun _ _ _ h k => h.trans k⟩ rfl trivial⟩
          · obtain rfl := Option.some.inj (show some _ = some o from ho)
            refine PI.shown_val rfl fun a w3 L0 hr T => ?_
            have h1 : a.eval (.tmp 40) = .pointer (some ⟨d, oof + p * 6, none⟩) := T.at_ 11 40 (by kernel_rfl) (by kernel_rfl) (by kernel_rfl)
            obtain ⟨dd, oo, hA9, _, cx, _⟩ := eplain (HYW.out.below (hr.mono hB)) HPY.out
            injection hA9 with hA9
            injection hA9 with hA1 hA2
            subst hA1
            subst hA2
            have v0 : w3.cell? ⟨d, oof + p * 6, none⟩ = some (.int .u64 th) := cx 0 _ rfl
            have v1 : w3.cell? ⟨d, oof + p * 6 + 1, none⟩ = some (.int .u64 tl) := cx 1 _ rfl
            have v2 : w3.cell? ⟨d, oof + p * 6 + 2, none⟩ = some (.int .i64 f) := cx 2 _ rfl
            have v3 : w3.cell? ⟨d, oof + p * 6 + 3, none⟩ = some (.int .i64 la) := cx 3 _ rfl
            have v4 : w3.cell? ⟨d, oof + p * 6 + 4, none⟩ = some (.bool su) := cx 4 _ rfl
            have v5 : w3.cell? ⟨d, oof + p * 6 + 5, none⟩ = some (.slice eA q ec) := by rw [HQ.out]; exact cx 5 _ rfl
            exact ⟨.agg #[.int .u64 th, .int .u64 tl, .int .i64 f, .int .i64 la, .bool su, .slice eA q ec], w3, by simp only [execOp, h1]; simp [go_sem, v0, v1, v2, v3, v4, v5], PI.Post.pure ⟨fun w => Below.refl _ w, fun _ _ _ h k => h.trans k⟩ rfl trivial⟩
          · obtain rfl := Option.some.inj (show some _ = some o from ho)
            refine PI.shown_val rfl fun a w3 L0 hr T => ?_
            have h1 : RowEps w3 W.heap.size B (a.eval (.tmp 37)) (l.take p ++ l.drop (p + 1)) := T.at_ 8 37 (by kernel_rfl) (by kernel_rfl) (by kernel_rfl)
            exact ⟨a.eval (.tmp 37), w3, by simp only [execOp]; simp [go_sem], PI.Post.pure ⟨fun w => Below.refl _ w, fun _ _ _ h k => h.trans k⟩ h1 trivial⟩
          · obtain rfl := Option.some.inj (show some _ = some o from ho)
            refine PI.shown_skip rfl fun a w3 L0 hr T => ?_
            have h3 : a.eval (.tmp 3) = .pointer (some ⟨w.heap.size, 0, none⟩) := T.was 3 (by kernel_rfl)
            have h1 : a.eval (.tmp 41) = .agg #[.int .u64 th, .int .u64 tl, .int .i64 f, .int .i64 la, .bool su, .slice eA q ec] := T.at_ 12 41 (by kernel_rfl) (by kernel_rfl) (by kernel_rfl)
            have hO : w3.heap[w.heap.size]? = some (.cells #[.int .u64 0, .int .u64 0, .int .i64 0, .int .i64 0, .bool false, .slice none 0 0] 30 (0, 0)) := T.own
            have k0 : w3.cell? ⟨w.heap.size, 0, none⟩ = some (.int .u64 0) := cell_of_row _ _ 0 _ _ (0, 0) hO
            have f0 : w3.frozen? ⟨w.heap.size, 0, none⟩ = false := by simp [World.frozen?, hO]
            have k1 : w3.cell? ⟨w.heap.size, 1, none⟩ = some (.int .u64 0) := cell_of_row _ _ 1 _ _ (0, 0) hO
            have f1 : w3.frozen? ⟨w.heap.size, 1, none⟩ = false := by simp [World.frozen?, hO]
            have k2 : w3.cell? ⟨w.heap.size, 2, none⟩ = some (.int .i64 0) := cell_of_row _ _ 2 _ _ (0, 0) hO
            have f2 : w3.frozen? ⟨w.heap.size, 2, none⟩ = false := by simp [World.frozen?, hO]
            have k3 : w3.cell? ⟨w.heap.size, 3, none⟩ = some (.int .i64 0) := cell_of_row _ _ 3 _ _ (0, 0) hO
            have f3 : w3.frozen? ⟨w.heap.size, 3, none⟩ = false := by simp [World.frozen?, hO]
            have k4 : w3.cell? ⟨w.heap.size, 4, none⟩ = some (.bool false) := cell_of_row _ _ 4 _ _ (0, 0) hO
            have f4 : w3.frozen? ⟨w.heap.size, 4, none⟩ = false := by simp [World.frozen?, hO]
            have k5 : w3.cell? ⟨w.heap.size, 5, none⟩ = some (.slice none 0 0) := cell_of_row _ _ 5 _ _ (0, 0) hO
            have f5 : w3.frozen? ⟨w.heap.size, 5, none⟩ = false := by simp [World.frozen?, hO]
            refine ⟨((((((w3.setCell ⟨w.heap.size, 0, none⟩ (.int .u64 th)).setCell ⟨w.heap.size, 1, none⟩ (.int .u64 tl)).setCell ⟨w.heap.size, 2, none⟩ (.int .i64 f)).setCell ⟨w.heap.size, 3, none⟩ (.int .i64 la)).setCell ⟨w.heap.size, 4, none⟩ (.bool su)).setCell ⟨w.heap.size, 5, none⟩ (.slice eA q ec)), by simp only [execOp, h3, h1]; simp [go_sem, k0, k1, k2, k3, k4, k5, f0, f1, f2, f3, f4, f5], ?_, six_store6 hO, fun q hq hG => ?_, fun j v hj hLj hnd hvj h => ?_, trivial⟩
            · repeat' (first | (with_reducible exact Below.refl _ _) | (refine Below.setCell ?_ (by simp) _))
            · unfold DoG at *
              split
              · exact absurd rfl hq
              · trivial
            · exact DoF.step (fun v l h => RowEps.six h hbl0 hBo _ _ _ _ _ _) hj h
          · obtain rfl := Option.some.inj (show some _ = some o from ho)
            refine PI.shown_val rfl fun a w3 L0 hr T => ?_
            exact ⟨.bool true, w3, by simp only [execOp]; simp [go_sem, Act.eval], PI.Post.pure ⟨fun w => Below.refl _ w, fun _ _ _ h k => h.trans k⟩ rfl trivial⟩
          · cases ho
        · rw [← hW]
          intro x w9 hr hf he _
          have h13 : RowEps w9 W.heap.size B (x 13) (l.take p ++ l.drop (p + 1)) := hf 13 _ 2 rfl rfl (by decide)
          have hx15 : x 15 = .bool true := hf 15 _ 4 rfl rfl (by decide)
          obtain ⟨_, h14'⟩ := he 14 _ rfl rfl (by simp)
          have h14 : w9.heap[w.heap.size]? = some (.cells #[.int .u64 th, .int .u64 tl, .int .i64 f, .int .i64 la, .bool su, .slice eA q ec] 30 (0, 0)) := h14'
          have m0 : w9.cell? ⟨w.heap.size, 0, none⟩ = some (.int .u64 th) := cell_of_row _ _ 0 _ _ (0, 0) h14
          have m1 : w9.cell? ⟨w.heap.size, 1, none⟩ = some (.int .u64 tl) := cell_of_row _ _ 1 _ _ (0, 0) h14
          have m2 : w9.cell? ⟨w.heap.size, 2, none⟩ = some (.int .i64 f) := cell_of_row _ _ 2 _ _ (0, 0) h14
          have m3 : w9.cell? ⟨w.heap.size, 3, none⟩ = some (.int .i64 la) := cell_of_row _ _ 3 _ _ (0, 0) h14
          have m4 : w9.cell? ⟨w.heap.size, 4, none⟩ = some (.bool su) := cell_of_row _ _ 4 _ _ (0, 0) h14
          have m5 : w9.cell? ⟨w.heap.size, 5, none⟩ = some (.slice eA q ec) := cell_of_row _ _ 5 _ _ (0, 0) h14
          have HB9 := Lib.hid (HWW.out.trans hr)
          have H13 := Lib.hid h13
          clear hf he hr h13 h14 h14'
          obtain ⟨v9, hv9⟩ : ∃ v, x 13 = v := ⟨_, rfl⟩
          have H13' : Hid (RowEps w9 W.heap.size B v9 (l.take p ++ l.drop (p + 1))) := Lib.hid (by rw [← hv9]; exact H13.out)
          clear H13
          simp only [PI.putAll, Act.put, List.setIfInBounds_toArray, List.set_cons_zero, List.set_cons_succ]
          rw [hx15, hv9]
          clear hv9 hx15
          go_wp2_with fail
          refine bodyPost_ret (v := .tuple #[v9, .agg #[.int .u64 th, .int .u64 tl, .int .i64 f, .int .i64 la, .bool su, .slice eA q ec], .bool true]) (by simp [results, Try.results21, go_sem, m0, m1, m2, m3, m4, m5]) rfl ?_
          exact ⟨HB9.out, .inr ⟨v9, p, q, ec, th, tl, f, la, su, eA, ls, by rw [← HN.out]; exact hp, HQ.out, rfl, ⟨own_mono H13'.out.own hbo, H13'.out.each⟩, HPY.out, by rw [← HN.out]; exact HM.out⟩⟩
end Go.Proofs.Ytenioeppmgmdiaa
