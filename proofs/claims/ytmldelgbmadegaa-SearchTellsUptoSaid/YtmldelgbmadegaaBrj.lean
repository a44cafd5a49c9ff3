/- How two traces stand, whether two lists are one, and chapter 32's example. -/
import Derived.Test.YtmldelgbmadegaaBri
import Derived.Test.YtmldelgbmadegaaBrq
namespace Go.Proofs.Ytmldelgbmadegaa
open Go.RowKit
set_option linter.unusedVariables false
set_option linter.unusedSimpArgs false
set_option maxRecDepth 100000

set_option maxHeartbeats 4000000 in
theorem dlessT_lit (a b c d : Int) (w : World) : Calls Try.prog 32 #[.agg #[.int .u64 a, .int .u64 b], .agg #[.int .u64 c, .int .u64 d]] w fun e w' => e = .returned (.bool (decide (a < c) || (decide (a = c) && decide (b < d)))) ∧ Below w.heap.size w w' := by
  have HB := Lib.hid (((Below.refl w.heap.size w).alloc (Nat.le_refl _) (.cells #[.int .u64 a, .int .u64 b] 28)).alloc (by simp) (.cells #[.int .u64 c, .int .u64 d] 28))
  rcases Int.lt_trichotomy a c with h | h | h
  · have d1 : decide (a < c) = true := decide_eq_true h
    rw [d1]
    clear h
    go_enter Try.func32, Try.ntmps32
    go_wp2_with fail
    go_ret
    exact ⟨rfl, HB.out⟩
  · subst h
    have d1 : decide (a < a) = false := decide_eq_false (by omega)
    have d2 : decide (a = a) = true := decide_eq_true rfl
    rw [d1, d2]
    cases hb : decide (b < d)
    · go_enter Try.func32, Try.ntmps32
      go_wp2_with fail
      go_ret
      exact ⟨rfl, HB.out⟩
    · go_enter Try.func32, Try.ntmps32
      go_wp2_with fail
      go_ret
      exact ⟨rfl, HB.out⟩
  · have d1 : decide (a < c) = false := decide_eq_false (by omega)
    have d2 : decide (a = c) = false := decide_eq_false (by omega)
    have d3 : (a == c) = false := by rw [beq_eq_false_iff_ne]; omega
    rw [d1, d2]
    clear h
    go_enter Try.func32, Try.ntmps32
    go_wp2_with fail
    go_ret
    exact ⟨rfl, HB.out⟩
theorem ltC_dec (x y : Tc) : (decide (x.1 < y.1) || (decide (x.1 = y.1) && decide (x.2 < y.2))) = decide (ltC x y) := by
  rw [Bool.eq_iff_iff]
  simp only [Bool.or_eq_true, Bool.and_eq_true, decide_eq_true_eq]
  exact Iff.rfl
theorem tr_at {w : World} {B : Nat} {A : Option Addr} {l : List Tc} (h : Rd w B A (l.flatMap trC)) {k : Nat} {x : Tc} (hx : l[k]? = some x) : ∃ a, A = some a ∧ a.block < B ∧ w.cell? (a.add (k * 2)) = some (.int .u64 x.1) ∧ w.cell? ⟨(a.add (k * 2)).block, (a.add (k * 2)).off + 1, none⟩ = some (.int .u64 x.2) := by
  have hk : k < l.length := (List.getElem?_eq_some_iff.1 hx).1
  obtain ⟨a, hA, hb, hc⟩ := h (by rw [flatMap_len _ 2 trc_len]; omega)
  have e : ∀ j, j < 2 → ∀ u, (trC x)[j]? = some u → w.cell? (a.add (k * 2 + j)) = some u := fun j hj u hu => hc _ u (by rw [flatMap_at _ 2 trc_len l k j hj, hx]; exact hu)
  exact ⟨a, hA, hb, e 0 (by decide) _ rfl, cell_far (e 1 (by decide) _ rfl) (by omega)⟩
set_option maxHeartbeats 4000000 in
theorem sametr_same (A1 A2 : Option Addr) (l : List Tc) (n c1 c2 B : Nat) (w : World) (hn : n = l.length) (h1 : Rd w B A1 (l.flatMap trC)) (h2 : Rd w B A2 (l.flatMap trC)) (hB : B ≤ w.heap.size) (hl : n ≤ 1000000) :
    Calls Try.prog 46 #[.slice A1 n c1, .slice A2 n c2] w fun e w' => e = .returned (.bool true) ∧ Below w.heap.size w w' := by
  have HN := Lib.hid hn
  have H1 := Lib.hid h1
  have H2 := Lib.hid h2
  clear hn h1 h2
  go_enter Try.func46, Try.ntmps46
  go_wp2_with fail
  go_loopw [5] (fun i wr => ∃ k : Nat, i = .int .i64 k ∧ k ≤ n ∧ Hid (Below w.heap.size w wr)) (fun i _ => n - (intOf i).toNat)
  case atStart => exact ⟨0, rfl, Nat.zero_le _, Lib.hid (Below.refl _ _)⟩
  case round =>
    obtain ⟨k, rfl, hk, HB⟩ := hrel
    by_cases hlt : k < n
    · obtain ⟨x, hx⟩ : ∃ x, l[k]? = some x := ⟨_, List.getElem?_eq_getElem (by rw [← HN.out]; exact hlt)⟩
      obtain ⟨a1, ha1, hab1, c0, c1⟩ := tr_at (H1.out.below (HB.out.mono hB)) hx
      obtain ⟨a2, ha2, hab2, d0, d1⟩ := tr_at (H2.out.below (HB.out.mono hB)) hx
      subst ha1 ha2
      clear hx
      go_wp2_with fail
      go_region
      go_wp2_with fail
      go_roundw
      case rel => exact ⟨k + 1, by go_num, by omega, Lib.hid HB.out.drew⟩
      case measure => simp [intOf]; omega
    · obtain rfl : k = n := by omega
      go_wp2_with fail
      go_ret
      exact ⟨rfl, HB.out⟩
theorem nilB_nil : nilB ⟨#[]⟩ = true := by unfold nilB; rw [ByteArray.toList_mk]; rfl
def q0 : Qm := ⟨⟨#[]⟩, ⟨#[]⟩, ⟨#[]⟩, ⟨#[]⟩, 0, false⟩
def qD (d : Int) : Qm := ⟨⟨#[]⟩, ⟨#[]⟩, ⟨#[]⟩, ⟨#[]⟩, d, false⟩
def exSp : Ls := ⟨⟨0, 0, 0, 0, ⟨#[]⟩, ⟨#[]⟩, 0, 9, false, []⟩, none, 0⟩
def exZs : Ls := ⟨⟨0, 0, 0, 0, ⟨#[]⟩, ⟨#[]⟩, 0, 0, false, []⟩, none, 0⟩
def exEp (b : Nat) : Le := ⟨0, 4, 0, 0, false, [exSp], some ⟨b, 0, none⟩, 1⟩
def exBk (b : Nat) : Bl := ⟨0, 0, 0, [exEp b], some ⟨b + 1, 0, none⟩, 1⟩
theorem ex_mt (d : Int) : (qD d).mt exSp.s = ((d == 0) || decide (d ≤ 9)) := by
  unfold Qm.mt qD exSp
  simp [nilB_nil]
theorem ex_all9 (b : Nat) : (qD 9).all [exBk b] = [(0, 4)] := by
  have h : (qD 9).hit (exEp b) = true := by
    show ([exSp].any fun x => (qD 9).mt x.s) = true
    simp [ex_mt]
  unfold Qm.all Qm.hits
  show setC (([exEp b].filter (qD 9).hit).map trE) = _
  rw [List.filter_cons_of_pos h]
  rfl
theorem ex_all10 (b : Nat) : (qD 10).all [exBk b] = [] := by
  have h : ¬ (qD 10).hit (exEp b) = true := by
    show ¬ ([exSp].any fun x => (qD 10).mt x.s) = true
    simp [ex_mt]
  unfold Qm.all Qm.hits
  show setC (([exEp b].filter (qD 10).hit).map trE) = _
  rw [List.filter_cons_of_neg h]
  rfl
theorem ex_mt0 : q0.mt exZs.s = true := by
  unfold Qm.mt q0 exZs
  simp [nilB_nil]
theorem small_nil : SmallBls [] := ⟨by simp, by simp, fun x hx => by cases hx⟩
theorem small_ex (b : Nat) : SmallBls [exBk b] := ⟨by simp, by simp [exBk], fun x hx => by
  obtain rfl := List.mem_singleton.1 hx
  intro e he
  obtain rfl := List.mem_singleton.1 he
  refine ⟨by simp [exEp], fun y hy => ?_⟩
  obtain rfl := List.mem_singleton.1 hy
  simp [exSp]⟩
theorem exZs_rd (w : World) (B : Nat) : RdL w B exZs := ⟨fun h => by simp [exZs] at h, ⟨by simp [exZs], by simp [exZs, maxLen]⟩, ⟨by simp [exZs], by simp [exZs], by simp [exZs], by simp [exZs], Nat.zero_le _, Nat.zero_le _, by simp [exZs], by simp [exZs], by simp [exZs, maxLen]⟩⟩
theorem exSp_rd (w : World) (B : Nat) : RdL w B exSp := ⟨fun h => by simp [exSp] at h, ⟨by simp [exSp], by simp [exSp, maxLen]⟩, ⟨by simp [exSp], by simp [exSp], by simp [exSp], by simp [exSp], Nat.zero_le _, Nat.zero_le _, by simp [exSp], by simp [exSp], by simp [exSp, maxLen]⟩⟩
theorem ex_rd (w : World) : RdBls (((w.alloc (.cells #[.int .u64 0, .int .u64 0, .int .u64 0, .int .u64 0, .string ⟨#[]⟩, .string ⟨#[]⟩, .int .i64 0, .int .i64 9, .bool false, .slice none 0 0] 71)).alloc (.cells #[.int .u64 0, .int .u64 4, .int .i64 0, .int .i64 0, .bool false, .slice (some ⟨w.heap.size, 0, none⟩) 1 1] 48)).alloc (.cells #[.int .i64 0, .int .i64 0, .int .i64 0, .slice (some ⟨w.heap.size + 1, 0, none⟩) 1 1] 24)) (((w.alloc (.cells #[.int .u64 0, .int .u64 0, .int .u64 0, .int .u64 0, .string ⟨#[]⟩, .string ⟨#[]⟩, .int .i64 0, .int .i64 9, .bool false, .slice none 0 0] 71)).alloc (.cells #[.int .u64 0, .int .u64 4, .int .i64 0, .int .i64 0, .bool false, .slice (some ⟨w.heap.size, 0, none⟩) 1 1] 48)).alloc (.cells #[.int .i64 0, .int .i64 0, .int .i64 0, .slice (some ⟨w.heap.size + 1, 0, none⟩) 1 1] 24)).heap.size (some ⟨w.heap.size + 2, 0, none⟩) [exBk w.heap.size] := by
  have hz1 : (w.alloc (.cells #[.int .u64 0, .int .u64 0, .int .u64 0, .int .u64 0, .string ⟨#[]⟩, .string ⟨#[]⟩, .int .i64 0, .int .i64 9, .bool false, .slice none 0 0] 71)).heap.size = w.heap.size + 1 := by simp
  have hz2 : ((w.alloc (.cells #[.int .u64 0, .int .u64 0, .int .u64 0, .int .u64 0, .string ⟨#[]⟩, .string ⟨#[]⟩, .int .i64 0, .int .i64 9, .bool false, .slice none 0 0] 71)).alloc (.cells #[.int .u64 0, .int .u64 4, .int .i64 0, .int .i64 0, .bool false, .slice (some ⟨w.heap.size, 0, none⟩) 1 1] 48)).heap.size = w.heap.size + 2 := by simp
  have hz3 : (((w.alloc (.cells #[.int .u64 0, .int .u64 0, .int .u64 0, .int .u64 0, .string ⟨#[]⟩, .string ⟨#[]⟩, .int .i64 0, .int .i64 9, .bool false, .slice none 0 0] 71)).alloc (.cells #[.int .u64 0, .int .u64 4, .int .i64 0, .int .i64 0, .bool false, .slice (some ⟨w.heap.size, 0, none⟩) 1 1] 48)).alloc (.cells #[.int .i64 0, .int .i64 0, .int .i64 0, .slice (some ⟨w.heap.size + 1, 0, none⟩) 1 1] 24)).heap.size = w.heap.size + 3 := by simp
  have r1 := Rd.lit w #[.int .u64 0, .int .u64 0, .int .u64 0, .int .u64 0, .string ⟨#[]⟩, .string ⟨#[]⟩, .int .i64 0, .int .i64 9, .bool false, .slice none 0 0] 71
  have r2 := Rd.lit (w.alloc (.cells #[.int .u64 0, .int .u64 0, .int .u64 0, .int .u64 0, .string ⟨#[]⟩, .string ⟨#[]⟩, .int .i64 0, .int .i64 9, .bool false, .slice none 0 0] 71)) #[.int .u64 0, .int .u64 4, .int .i64 0, .int .i64 0, .bool false, .slice (some ⟨w.heap.size, 0, none⟩) 1 1] 48
  have r3 := Rd.lit ((w.alloc (.cells #[.int .u64 0, .int .u64 0, .int .u64 0, .int .u64 0, .string ⟨#[]⟩, .string ⟨#[]⟩, .int .i64 0, .int .i64 9, .bool false, .slice none 0 0] 71)).alloc (.cells #[.int .u64 0, .int .u64 4, .int .i64 0, .int .i64 0, .bool false, .slice (some ⟨w.heap.size, 0, none⟩) 1 1] 48)) #[.int .i64 0, .int .i64 0, .int .i64 0, .slice (some ⟨w.heap.size + 1, 0, none⟩) 1 1] 24
  rw [hz1] at r2
  rw [hz2] at r3
  have b12 := (Below.refl (w.alloc (.cells #[.int .u64 0, .int .u64 0, .int .u64 0, .int .u64 0, .string ⟨#[]⟩, .string ⟨#[]⟩, .int .i64 0, .int .i64 9, .bool false, .slice none 0 0] 71)).heap.size (w.alloc (.cells #[.int .u64 0, .int .u64 0, .int .u64 0, .int .u64 0, .string ⟨#[]⟩, .string ⟨#[]⟩, .int .i64 0, .int .i64 9, .bool false, .slice none 0 0] 71))).alloc (Nat.le_refl _) (.cells #[.int .u64 0, .int .u64 4, .int .i64 0, .int .i64 0, .bool false, .slice (some ⟨w.heap.size, 0, none⟩) 1 1] 48)
  have b23 := (Below.refl ((w.alloc (.cells #[.int .u64 0, .int .u64 0, .int .u64 0, .int .u64 0, .string ⟨#[]⟩, .string ⟨#[]⟩, .int .i64 0, .int .i64 9, .bool false, .slice none 0 0] 71)).alloc (.cells #[.int .u64 0, .int .u64 4, .int .i64 0, .int .i64 0, .bool false, .slice (some ⟨w.heap.size, 0, none⟩) 1 1] 48)).heap.size ((w.alloc (.cells #[.int .u64 0, .int .u64 0, .int .u64 0, .int .u64 0, .string ⟨#[]⟩, .string ⟨#[]⟩, .int .i64 0, .int .i64 9, .bool false, .slice none 0 0] 71)).alloc (.cells #[.int .u64 0, .int .u64 4, .int .i64 0, .int .i64 0, .bool false, .slice (some ⟨w.heap.size, 0, none⟩) 1 1] 48))).alloc (Nat.le_refl _) (.cells #[.int .i64 0, .int .i64 0, .int .i64 0, .slice (some ⟨w.heap.size + 1, 0, none⟩) 1 1] 24)
  have s1 : Rd (((w.alloc (.cells #[.int .u64 0, .int .u64 0, .int .u64 0, .int .u64 0, .string ⟨#[]⟩, .string ⟨#[]⟩, .int .i64 0, .int .i64 9, .bool false, .slice none 0 0] 71)).alloc (.cells #[.int .u64 0, .int .u64 4, .int .i64 0, .int .i64 0, .bool false, .slice (some ⟨w.heap.size, 0, none⟩) 1 1] 48)).alloc (.cells #[.int .i64 0, .int .i64 0, .int .i64 0, .slice (some ⟨w.heap.size + 1, 0, none⟩) 1 1] 24)) (((w.alloc (.cells #[.int .u64 0, .int .u64 0, .int .u64 0, .int .u64 0, .string ⟨#[]⟩, .string ⟨#[]⟩, .int .i64 0, .int .i64 9, .bool false, .slice none 0 0] 71)).alloc (.cells #[.int .u64 0, .int .u64 4, .int .i64 0, .int .i64 0, .bool false, .slice (some ⟨w.heap.size, 0, none⟩) 1 1] 48)).alloc (.cells #[.int .i64 0, .int .i64 0, .int .i64 0, .slice (some ⟨w.heap.size + 1, 0, none⟩) 1 1] 24)).heap.size (some ⟨w.heap.size, 0, none⟩) exSp.cells := by
    have h := (r1.below (b12.mono (by simp))).below (b23.mono (by simp))
    have h2 := h.more (B' := (((w.alloc (.cells #[.int .u64 0, .int .u64 0, .int .u64 0, .int .u64 0, .string ⟨#[]⟩, .string ⟨#[]⟩, .int .i64 0, .int .i64 9, .bool false, .slice none 0 0] 71)).alloc (.cells #[.int .u64 0, .int .u64 4, .int .i64 0, .int .i64 0, .bool false, .slice (some ⟨w.heap.size, 0, none⟩) 1 1] 48)).alloc (.cells #[.int .i64 0, .int .i64 0, .int .i64 0, .slice (some ⟨w.heap.size + 1, 0, none⟩) 1 1] 24)).heap.size) (by rw [hz3]; omega)
    exact h2
  have s2 : Rd (((w.alloc (.cells #[.int .u64 0, .int .u64 0, .int .u64 0, .int .u64 0, .string ⟨#[]⟩, .string ⟨#[]⟩, .int .i64 0, .int .i64 9, .bool false, .slice none 0 0] 71)).alloc (.cells #[.int .u64 0, .int .u64 4, .int .i64 0, .int .i64 0, .bool false, .slice (some ⟨w.heap.size, 0, none⟩) 1 1] 48)).alloc (.cells #[.int .i64 0, .int .i64 0, .int .i64 0, .slice (some ⟨w.heap.size + 1, 0, none⟩) 1 1] 24)) (((w.alloc (.cells #[.int .u64 0, .int .u64 0, .int .u64 0, .int .u64 0, .string ⟨#[]⟩, .string ⟨#[]⟩, .int .i64 0, .int .i64 9, .bool false, .slice none 0 0] 71)).alloc (.cells #[.int .u64 0, .int .u64 4, .int .i64 0, .int .i64 0, .bool false, .slice (some ⟨w.heap.size, 0, none⟩) 1 1] 48)).alloc (.cells #[.int .i64 0, .int .i64 0, .int .i64 0, .slice (some ⟨w.heap.size + 1, 0, none⟩) 1 1] 24)).heap.size (some ⟨w.heap.size + 1, 0, none⟩) (exEp w.heap.size).cells := by
    have h := (r2.below (b23.mono (by simp)))
    have h2 := h.more (B' := (((w.alloc (.cells #[.int .u64 0, .int .u64 0, .int .u64 0, .int .u64 0, .string ⟨#[]⟩, .string ⟨#[]⟩, .int .i64 0, .int .i64 9, .bool false, .slice none 0 0] 71)).alloc (.cells #[.int .u64 0, .int .u64 4, .int .i64 0, .int .i64 0, .bool false, .slice (some ⟨w.heap.size, 0, none⟩) 1 1] 48)).alloc (.cells #[.int .i64 0, .int .i64 0, .int .i64 0, .slice (some ⟨w.heap.size + 1, 0, none⟩) 1 1] 24)).heap.size) (by rw [hz3]; omega)
    exact h2
  have s3 : Rd (((w.alloc (.cells #[.int .u64 0, .int .u64 0, .int .u64 0, .int .u64 0, .string ⟨#[]⟩, .string ⟨#[]⟩, .int .i64 0, .int .i64 9, .bool false, .slice none 0 0] 71)).alloc (.cells #[.int .u64 0, .int .u64 4, .int .i64 0, .int .i64 0, .bool false, .slice (some ⟨w.heap.size, 0, none⟩) 1 1] 48)).alloc (.cells #[.int .i64 0, .int .i64 0, .int .i64 0, .slice (some ⟨w.heap.size + 1, 0, none⟩) 1 1] 24)) (((w.alloc (.cells #[.int .u64 0, .int .u64 0, .int .u64 0, .int .u64 0, .string ⟨#[]⟩, .string ⟨#[]⟩, .int .i64 0, .int .i64 9, .bool false, .slice none 0 0] 71)).alloc (.cells #[.int .u64 0, .int .u64 4, .int .i64 0, .int .i64 0, .bool false, .slice (some ⟨w.heap.size, 0, none⟩) 1 1] 48)).alloc (.cells #[.int .i64 0, .int .i64 0, .int .i64 0, .slice (some ⟨w.heap.size + 1, 0, none⟩) 1 1] 24)).heap.size (some ⟨w.heap.size + 2, 0, none⟩) (exBk w.heap.size).cells := by
    have h2 := r3.more (B' := (((w.alloc (.cells #[.int .u64 0, .int .u64 0, .int .u64 0, .int .u64 0, .string ⟨#[]⟩, .string ⟨#[]⟩, .int .i64 0, .int .i64 9, .bool false, .slice none 0 0] 71)).alloc (.cells #[.int .u64 0, .int .u64 4, .int .i64 0, .int .i64 0, .bool false, .slice (some ⟨w.heap.size, 0, none⟩) 1 1] 48)).alloc (.cells #[.int .i64 0, .int .i64 0, .int .i64 0, .slice (some ⟨w.heap.size + 1, 0, none⟩) 1 1] 24)).heap.size) (by rw [hz3]; omega)
    exact h2
  refine ⟨by simpa using s3, fun x hx => ?_⟩
  obtain rfl := List.mem_singleton.1 hx
  refine ⟨by simpa [exBk] using s2, fun e he => ?_⟩
  obtain rfl := List.mem_singleton.1 he
  refine ⟨by simpa [exEp] using s1, fun y hy => ?_⟩
  obtain rfl := List.mem_singleton.1 hy
  exact exSp_rd _ _
set_option maxHeartbeats 8000000 in
theorem alive32_calls (w : World) : Calls Try.prog 41 #[] w fun e w' => e = .returned (.bool true) ∧ Below w.heap.size w w' := by
  have F0 := Lib.hid (fun W => find_lit ⟨#[]⟩ ⟨#[]⟩ ⟨#[]⟩ ⟨#[]⟩ 0 false none [] 0 0 0 9 W rfl RdBls.nil (Nat.zero_le _) small_nil (by omega))
  obtain ⟨W, hW⟩ : ∃ W, W = (((w.alloc (.cells #[.int .u64 0, .int .u64 0, .int .u64 0, .int .u64 0, .string ⟨#[]⟩, .string ⟨#[]⟩, .int .i64 0, .int .i64 9, .bool false, .slice none 0 0] 71)).alloc (.cells #[.int .u64 0, .int .u64 4, .int .i64 0, .int .i64 0, .bool false, .slice (some ⟨w.heap.size, 0, none⟩) 1 1] 48)).alloc (.cells #[.int .i64 0, .int .i64 0, .int .i64 0, .slice (some ⟨w.heap.size + 1, 0, none⟩) 1 1] 24)) := ⟨_, rfl⟩
  have hex := ex_rd w
  rw [← hW] at hex
  have HEX := Lib.hid hex
  have hb : Below w.heap.size w W := by rw [hW]; exact (((Below.refl w.heap.size w).alloc (Nat.le_refl _) _).alloc (by simp) _).alloc (by simp; omega) _
  have F1 := Lib.hid (fun V (hV : Below W.heap.size W V) => find_lit ⟨#[]⟩ ⟨#[]⟩ ⟨#[]⟩ ⟨#[]⟩ 9 false (some ⟨w.heap.size + 2, 0, none⟩) [exBk w.heap.size] 1 1 W.heap.size 1 V rfl (hex.below hV) hV.size (small_ex _) (by omega))
  have C1 := Lib.hid (fun V (hV : Below W.heap.size W V) => count_lit ⟨#[]⟩ ⟨#[]⟩ ⟨#[]⟩ ⟨#[]⟩ 10 false (some ⟨w.heap.size + 2, 0, none⟩) [exBk w.heap.size] 1 1 W.heap.size V rfl (hex.below hV) hV.size (small_ex _))
  have M1 := Lib.hid (fun V => match_any q0 exZs 0 V (exZs_rd V 0) (Nat.zero_le _) (by simp [exZs]))
  have HF0 : Hid ((Qm.all ⟨⟨#[]⟩, ⟨#[]⟩, ⟨#[]⟩, ⟨#[]⟩, 0, false⟩ ([] : List Bl)) = []) := Lib.hid rfl
  have HF1 : Hid ((Qm.all ⟨⟨#[]⟩, ⟨#[]⟩, ⟨#[]⟩, ⟨#[]⟩, 9, false⟩ [exBk w.heap.size]) = [(0, 4)]) := Lib.hid (ex_all9 _)
  have HC1 : Hid ((Qm.all ⟨⟨#[]⟩, ⟨#[]⟩, ⟨#[]⟩, ⟨#[]⟩, 10, false⟩ [exBk w.heap.size]) = []) := Lib.hid (ex_all10 _)
  rw [HF0.out] at F0
  rw [HF1.out] at F1
  rw [HC1.out] at C1
  rw [ex_mt0] at M1
  have HB := Lib.hid hb
  clear hex hb HF0 HF1 HC1 HEX
  go_enter Try.func41, Try.ntmps41
  go_upto_region 2 with fail
  rw [← hW]
  clear hW
  go_wp2_with fail
  refine (F0.out _).mono ?_
  rintro e w1 ⟨v1, rfl, ho1, hb1⟩
  obtain ⟨A1, c1, rfl, _, _⟩ := own_rd ho1
  have HB1 := Lib.hid hb1
  clear ho1 hb1
  go_wp2_with fail
  refine (F1.out _ HB1.out).mono ?_
  rintro e w2 ⟨v2, rfl, ho2, hb2⟩
  obtain ⟨A2, c2, rfl, _, _⟩ := own_rd ho2
  have HB2 := Lib.hid (HB1.out.trans (hb2.mono HB1.out.size))
  clear ho2 hb2
  go_wp2_with fail
  refine (C1.out _ HB2.out).mono ?_
  rintro e w3 ⟨rfl, hb3⟩
  have HB3 := Lib.hid (HB2.out.trans (hb3.mono HB2.out.size))
  clear hb3
  go_wp2_with fail
  refine (M1.out _).mono ?_
  rintro e w4 ⟨rfl, hb4⟩
  have HB4 := Lib.hid (HB3.out.trans (hb4.mono HB3.out.size))
  clear hb4
  go_wp2_with fail
  go_ret
  exact ⟨rfl, HB.out.trans (HB4.out.mono HB.out.size)⟩
end Go.Proofs.Ytmldelgbmadegaa
