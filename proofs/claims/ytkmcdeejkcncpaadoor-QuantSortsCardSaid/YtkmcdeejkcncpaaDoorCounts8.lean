/- BucketCounts: the walk. -/
import Derived.Test.YtkmcdeejkcncpaaDoorAdr8
import Derived.Test.YtkmcdeejkcncpaaDoorAl8
import Derived.Test.YtkmcdeejkcncpaaDoorEq8
import Derived.Test.YtkmcdeejkcncpaaDoorLib
namespace Go.Proofs.YtkmcdeejkcncpaaDoor
open Go.RowKit
set_option linter.unusedVariables false

/-- None below 0, none above the most. -/
def inC (c : List Int) (m : Int) : Prop := ∀ i, 0 ≤ c.getD i 0 ∧ c.getD i 0 ≤ m
theorem inC.ok {c : List Int} {m : Int} (h : inC c m) (hm : m ≤ 9223372036854775807) : okC c := fun i => ⟨by have := (h i).1; omega, by have := (h i).2; omega⟩
theorem inC.join {c y : List Int} {m : Int} (h : inC c m) (hy : okC y) (hm0 : 0 ≤ m) (hm : m ≤ 9223372036854775807) : inC (joinC c y m) m := fun i => by
  by_cases hi : i < 10
  · rw [join_at _ _ _ _ hi, top_eq (h.ok hm i).2 (hy i).2 hm]
    have := h i
    omega
  · rw [join_off _ _ _ _ hi]; omega
theorem one_at (f : Nat) (e : Bool) (hf : f < 8) (i : Nat) : (oneC f e).getD i 0 = if i = 0 then 1 else if i = 1 then (if e then 1 else 0) else if i = 2 + f then 1 else 0 := by
  have : f = 0 ∨ f = 1 ∨ f = 2 ∨ f = 3 ∨ f = 4 ∨ f = 5 ∨ f = 6 ∨ f = 7 := by omega
  rcases this with rfl | rfl | rfl | rfl | rfl | rfl | rfl | rfl <;> cases e <;> (rcases i with _ | _ | _ | _ | _ | _ | _ | _ | _ | _ | i <;> simp [oneC, List.range, List.range.loop])
theorem upd (c : List Int) (f : Nat) (e : Bool) (m : Int) (h : inC c m) (hf : f < 8) (hm0 : 0 ≤ m) (hm : m < 9223372036854775807) (i : Nat) (hi : i < 10) :
    (joinC c (oneC f e) m).getD i 0 = if (i = 0 ∨ (i = 1 ∧ e = true) ∨ i = 2 + f) ∧ c.getD i 0 < m then c.getD i 0 + 1 else c.getD i 0 := by
  have hc := h i
  have ho := one_at f e hf i
  rw [join_at _ _ _ _ hi, top_eq (by omega) (oneC_ok f e hf i).2 (by omega), ho]
  by_cases h0 : i = 0
  · rw [if_pos h0]
    by_cases h1 : c.getD i 0 < m
    · rw [if_pos ⟨Or.inl h0, h1⟩]; omega
    · rw [if_neg (fun hh => h1 hh.2)]; omega
  · rw [if_neg h0]
    by_cases h2 : i = 1
    · rw [if_pos h2]
      cases e
      · rw [show (if (false = true) then (1 : Int) else 0) = 0 from rfl, if_neg (fun hh => by rcases hh.1 with h | ⟨_, h⟩ | h; (· omega); (· cases h); (· omega))]; omega
      · rw [show (if (true = true) then (1 : Int) else 0) = 1 from rfl]
        by_cases h1 : c.getD i 0 < m
        · rw [if_pos ⟨Or.inr (Or.inl ⟨h2, rfl⟩), h1⟩]; omega
        · rw [if_neg (fun hh => h1 hh.2)]; omega
    · rw [if_neg h2]
      by_cases h3 : i = 2 + f
      · rw [if_pos h3]
        by_cases h1 : c.getD i 0 < m
        · rw [if_pos ⟨Or.inr (Or.inr h3), h1⟩]; omega
        · rw [if_neg (fun hh => h1 hh.2)]; omega
      · rw [if_neg h3, if_neg (fun hh => by rcases hh.1 with h | h | h <;> omega)]; omega
/-- One more at a place, or not. -/
def bump (A : Array Value) (i : Nat) (v : Int) (b : Bool) : Array Value := if b then A.setIfInBounds i (.int .i64 (v + 1)) else A
theorem Cv_off (x : List Int) (i : Nat) (h : ¬ i < 10) : (Cv x)[i]? = none := Array.getElem?_eq_none (by rw [Cv_size]; omega)
theorem bump_at (A : Array Value) (j i : Nat) (v : Int) (b : Bool) (hj : j < A.size) : (bump A j v b)[i]? = if i = j ∧ b = true then some (.int .i64 (v + 1)) else A[i]? := by
  unfold bump
  cases b
  · simp
  · rw [if_pos rfl, Array.getElem?_setIfInBounds]
    by_cases h : j = i
    · subst h; simp [hj]
    · rw [if_neg h, if_neg (fun hh => h hh.1.symm)]
theorem bump_size (A : Array Value) (j : Nat) (v : Int) (b : Bool) : (bump A j v b).size = A.size := by unfold bump; cases b <;> simp
theorem want_eq (c : List Int) (f : Nat) (e : Bool) (m : Int) (h : inC c m) (hf : f < 8) (hm0 : 0 ≤ m) (hm : m < 9223372036854775807) (b0 b1 b2 : Bool)
    (h0 : b0 = decide (c.getD 0 0 < m)) (h1 : b1 = (e && decide (c.getD 1 0 < m))) (h2 : b2 = decide (c.getD (2 + f) 0 < m)) :
    bump (bump (bump (Cv c) 0 (c.getD 0 0) b0) 1 (c.getD 1 0) b1) (2 + f) (c.getD (2 + f) 0) b2 = Cv (joinC c (oneC f e) m) := by
  apply Array.ext_getElem?
  intro i
  by_cases hi : i < 10
  · rw [bump_at _ _ _ _ _ (by rw [bump_size, bump_size, Cv_size]; omega), bump_at _ _ _ _ _ (by rw [bump_size, Cv_size]; omega), bump_at _ _ _ _ _ (by rw [Cv_size]; omega), Cv_at _ _ hi, Cv_at _ _ hi, upd c f e m h hf hm0 hm i hi]
    subst h0 h1 h2
    by_cases g2 : i = 2 + f
    · subst g2
      by_cases hlt : c.getD (2 + f) 0 < m
      · rw [if_pos ⟨rfl, by simp only [decide_eq_true_eq]; exact hlt⟩, if_pos ⟨Or.inr (Or.inr rfl), hlt⟩]
      · rw [if_neg (fun hh => hlt (by have := hh.2; simp only [decide_eq_true_eq] at this; exact this)), if_neg (fun hh => by omega), if_neg (fun hh => by omega), if_neg (fun hh => hlt hh.2)]
    · rw [if_neg (fun hh => g2 hh.1)]
      by_cases g1 : i = 1
      · subst g1
        cases e
        · rw [if_neg (fun hh => by have := hh.2; simp at this), if_neg (fun hh => by omega), if_neg (fun hh => by rcases hh.1 with h | ⟨_, h⟩ | h; (· omega); (· cases h); (· omega))]
        · by_cases hlt : c.getD 1 0 < m
          · rw [if_pos ⟨rfl, by simp only [Bool.true_and, decide_eq_true_eq]; exact hlt⟩, if_pos ⟨Or.inr (Or.inl ⟨rfl, rfl⟩), hlt⟩]
          · rw [if_neg (fun hh => hlt (by have := hh.2; simp only [Bool.true_and, decide_eq_true_eq] at this; exact this)), if_neg (fun hh => by omega), if_neg (fun hh => hlt hh.2)]
      · rw [if_neg (fun hh => g1 hh.1)]
        by_cases g0 : i = 0
        · subst g0
          by_cases hlt : c.getD 0 0 < m
          · rw [if_pos ⟨rfl, by simp only [decide_eq_true_eq]; exact hlt⟩, if_pos ⟨Or.inl rfl, hlt⟩]
          · rw [if_neg (fun hh => hlt (by have := hh.2; simp only [decide_eq_true_eq] at this; exact this)), if_neg (fun hh => hlt hh.2)]
        · rw [if_neg (fun hh => g0 hh.1), if_neg (fun hh => by rcases hh.1 with h | h | h <;> omega)]
  · rw [Cv_off _ _ hi, bump_at _ _ _ _ _ (by rw [bump_size, bump_size, Cv_size]; omega), if_neg (fun hh => by omega), bump_at _ _ _ _ _ (by rw [bump_size, Cv_size]; omega), if_neg (fun hh => by omega), bump_at _ _ _ _ _ (by rw [Cv_size]; omega), if_neg (fun hh => by omega), Cv_off _ _ hi]

theorem Bnds.setc {w : World} {a : Addr} (h : Bnds w) (hne : a.block ≠ 0) (v : Value) : Bnds (w.setCell a v) := fun i hi => (World.cell?_setCell_far _ _ _ _ hne).trans (h i hi)
/-- Ten numbers put into a counter's cells, one by one. -/
def put10 (w : World) (C : Nat) (z0 z1 z2 z3 z4 z5 z6 z7 z8 z9 : Int) : World := ((((((((((w.setCell ⟨C, 0, none⟩ (.int .i64 z0)).setCell ⟨C, 1, none⟩ (.int .i64 z1)).setCell ⟨C, 2, none⟩ (.int .i64 z2)).setCell ⟨C, 3, none⟩ (.int .i64 z3)).setCell ⟨C, 4, none⟩ (.int .i64 z4)).setCell ⟨C, 5, none⟩ (.int .i64 z5)).setCell ⟨C, 6, none⟩ (.int .i64 z6)).setCell ⟨C, 7, none⟩ (.int .i64 z7)).setCell ⟨C, 8, none⟩ (.int .i64 z8)).setCell ⟨C, 9, none⟩ (.int .i64 z9))
theorem put10_heap {w : World} {C : Nat} {A : Array Value} {t : TypeId} {fr : Nat × Nat} (z0 z1 z2 z3 z4 z5 z6 z7 z8 z9 : Int) (h : w.heap[C]? = some (.cells A t fr)) (hA : ∃ y0 y1 y2 y3 y4 y5 y6 y7 y8 y9 : Value, A = #[y0, y1, y2, y3, y4, y5, y6, y7, y8, y9]) : (put10 w C z0 z1 z2 z3 z4 z5 z6 z7 z8 z9).heap[C]? = some (.cells #[.int .i64 z0, .int .i64 z1, .int .i64 z2, .int .i64 z3, .int .i64 z4, .int .i64 z5, .int .i64 z6, .int .i64 z7, .int .i64 z8, .int .i64 z9] t fr) := by
  obtain ⟨y0, y1, y2, y3, y4, y5, y6, y7, y8, y9, rfl⟩ := hA
  have := (Go.Joins.block_setCell (i := 9) (Go.Joins.block_setCell (i := 8) (Go.Joins.block_setCell (i := 7) (Go.Joins.block_setCell (i := 6) (Go.Joins.block_setCell (i := 5) (Go.Joins.block_setCell (i := 4) (Go.Joins.block_setCell (i := 3) (Go.Joins.block_setCell (i := 2) (Go.Joins.block_setCell (i := 1) (Go.Joins.block_setCell (i := 0) h (.int .i64 z0)) (.int .i64 z1)) (.int .i64 z2)) (.int .i64 z3)) (.int .i64 z4)) (.int .i64 z5)) (.int .i64 z6)) (.int .i64 z7)) (.int .i64 z8)) (.int .i64 z9))
  simpa [put10] using this
theorem put10_far {w : World} {C b : Nat} (z0 z1 z2 z3 z4 z5 z6 z7 z8 z9 : Int) (h : b ≠ C) : (put10 w C z0 z1 z2 z3 z4 z5 z6 z7 z8 z9).heap[b]? = w.heap[b]? := by
  unfold put10
  simp [Below.heap_setCell, h]
theorem put10_below {u w : World} {B C : Nat} (z0 z1 z2 z3 z4 z5 z6 z7 z8 z9 : Int) (h : Below B u w) (hC : B ≤ C) : Below B u (put10 w C z0 z1 z2 z3 z4 z5 z6 z7 z8 z9) := ((((((((((h.setCell (show _ ≤ _ from hC) _).setCell (show _ ≤ _ from hC) _).setCell (show _ ≤ _ from hC) _).setCell (show _ ≤ _ from hC) _).setCell (show _ ≤ _ from hC) _).setCell (show _ ≤ _ from hC) _).setCell (show _ ≤ _ from hC) _).setCell (show _ ≤ _ from hC) _).setCell (show _ ≤ _ from hC) _).setCell (show _ ≤ _ from hC) _)

theorem getOf {α : Type} {l : List α} {k : Nat} {x : α} (h : l[k]? = some x) (hk : k < l.length) : l[k] = x := by
  rw [List.getElem?_eq_getElem hk] at h
  injection h

set_option maxHeartbeats 1000000 in
set_option maxRecDepth 100000 in
theorem counts_out (dA : Option Addr) (dn dc : Nat) (eA : Option Addr) (en ec : Nat) (m : Int) (w : World) (T : Bnds w) (h : 100 < dn ∨ en < dn ∨ m < 0 ∨ 1000 < m) (hd : dn ≤ maxLen) (he : en ≤ maxLen) :
    Calls Tryd.prog 4 #[.slice dA dn dc, .slice eA en ec, .int .i64 m] w fun e w' => e = .returned (.bool true) ∧ Below w.heap.size w w' := by
  unfold maxLen at hd he
  have hh : (100 < dn) ∨ (¬ 100 < dn ∧ en < dn) ∨ (¬ 100 < dn ∧ ¬ en < dn ∧ m < 0) ∨ (¬ 100 < dn ∧ ¬ en < dn ∧ ¬ m < 0 ∧ 1000 < m) := by omega
  clear h
  have HT := Lib.hid T
  clear T
  rcases hh with h1 | ⟨h1, h2⟩ | ⟨h1, h2, h3⟩ | ⟨h1, h2, h3, h4⟩
  all_goals
    go_enter Tryd.func4, Tryd.ntmps4
    go_wp2_with (go_at_call 9; refine (alive8_calls _ HT.out).mono ?_; rintro e w1 ⟨rfl, hb1⟩)
    go_ret
    exact ⟨rfl, hb1⟩

set_option maxHeartbeats 8000000 in
set_option maxRecDepth 100000 in
theorem counts_in (dA : Option Addr) (d : List Int) (dn dc : Nat) (eA : Option Addr) (es : List Bool) (en ec : Nat) (m : Int) (w : World) (T : Bnds w) (h1 : dn ≤ 100) (h2 : dn ≤ en) (h3 : 0 ≤ m) (h4 : m ≤ 1000) (ed : dn = d.length) (ee : en = es.length)
    (rd : Rd w w.heap.size dA (d.map (Value.int .i64))) (re : Rd w w.heap.size eA (es.map Value.bool)) (hen : en ≤ maxLen) :
    Calls Tryd.prog 4 #[.slice dA dn dc, .slice eA en ec, .int .i64 m] w fun e w' => e = .returned (.bool true) ∧ Below w.heap.size w w' := by
  unfold maxLen at hen
  have E8 := eq8'
  have HT := Lib.hid T
  have RD := Lib.hid rd
  have RE := Lib.hid re
  have ED := Lib.hid ed
  have EE := Lib.hid ee
  clear T rd re ed ee
  have g1 : decide ((100 : Int) < (dn : Int)) = false := by simp; omega
  have g2 : decide (en < dn) = false := by simp; omega
  have g3 : decide (m < 0) = false := by simp; omega
  have g4 : decide (1000 < m) = false := by simp; omega
  go_enter Tryd.func4, Tryd.ntmps4
  go_wp2_with (go_at_call 9; refine (alive8_calls _ HT.out).mono ?_; rintro e w1 ⟨rfl, hb1⟩)
  have h8 : ((w1.alloc (.cells #[.int .i64 0, .int .i64 0, .int .i64 0, .int .i64 0, .int .i64 0, .int .i64 0, .int .i64 0, .int .i64 0, .int .i64 0, .int .i64 0] 24)).alloc (.cells #[.int .i64 0, .int .i64 0, .int .i64 0, .int .i64 0, .int .i64 0, .int .i64 0, .int .i64 0, .int .i64 0, .int .i64 0, .int .i64 0] 24)).heap[w1.heap.size]? = some (.cells #[.int .i64 0, .int .i64 0, .int .i64 0, .int .i64 0, .int .i64 0, .int .i64 0, .int .i64 0, .int .i64 0, .int .i64 0, .int .i64 0] 24) := (heap_alloc_old _ _ (by simp)).trans (heap_alloc_new _ _)
  have h9 : ((w1.alloc (.cells #[.int .i64 0, .int .i64 0, .int .i64 0, .int .i64 0, .int .i64 0, .int .i64 0, .int .i64 0, .int .i64 0, .int .i64 0, .int .i64 0] 24)).alloc (.cells #[.int .i64 0, .int .i64 0, .int .i64 0, .int .i64 0, .int .i64 0, .int .i64 0, .int .i64 0, .int .i64 0, .int .i64 0, .int .i64 0] 24)).heap[w1.heap.size + 1]? = some (.cells #[.int .i64 0, .int .i64 0, .int .i64 0, .int .i64 0, .int .i64 0, .int .i64 0, .int .i64 0, .int .i64 0, .int .i64 0, .int .i64 0] 24) := by
    have := heap_alloc_new (w1.alloc (.cells #[.int .i64 0, .int .i64 0, .int .i64 0, .int .i64 0, .int .i64 0, .int .i64 0, .int .i64 0, .int .i64 0, .int .i64 0, .int .i64 0] 24)) (.cells #[.int .i64 0, .int .i64 0, .int .i64 0, .int .i64 0, .int .i64 0, .int .i64 0, .int .i64 0, .int .i64 0, .int .i64 0, .int .i64 0] 24)
    simpa using this
  have hB := (hb1.alloc hb1.size (.cells #[.int .i64 0, .int .i64 0, .int .i64 0, .int .i64 0, .int .i64 0, .int .i64 0, .int .i64 0, .int .i64 0, .int .i64 0, .int .i64 0] 24)).alloc (by simp; have := hb1.size; omega) (.cells #[.int .i64 0, .int .i64 0, .int .i64 0, .int .i64 0, .int .i64 0, .int .i64 0, .int .i64 0, .int .i64 0, .int .i64 0, .int .i64 0] 24)
  have hT := ((HT.out.below hb1 HT.out.lt).alloc (.cells #[.int .i64 0, .int .i64 0, .int .i64 0, .int .i64 0, .int .i64 0, .int .i64 0, .int .i64 0, .int .i64 0, .int .i64 0, .int .i64 0] 24)).alloc (.cells #[.int .i64 0, .int .i64 0, .int .i64 0, .int .i64 0, .int .i64 0, .int .i64 0, .int .i64 0, .int .i64 0, .int .i64 0, .int .i64 0] 24)
  have hz : w1.heap.size + 1 < ((w1.alloc (.cells #[.int .i64 0, .int .i64 0, .int .i64 0, .int .i64 0, .int .i64 0, .int .i64 0, .int .i64 0, .int .i64 0, .int .i64 0, .int .i64 0] 24)).alloc (.cells #[.int .i64 0, .int .i64 0, .int .i64 0, .int .i64 0, .int .i64 0, .int .i64 0, .int .i64 0, .int .i64 0, .int .i64 0, .int .i64 0] 24)).heap.size := by simp
  have hC : w.heap.size ≤ w1.heap.size := hb1.size
  have hTlt : 0 < w.heap.size := HT.out.lt
  generalize (w1.alloc (.cells #[.int .i64 0, .int .i64 0, .int .i64 0, .int .i64 0, .int .i64 0, .int .i64 0, .int .i64 0, .int .i64 0, .int .i64 0, .int .i64 0] 24)).alloc (.cells #[.int .i64 0, .int .i64 0, .int .i64 0, .int .i64 0, .int .i64 0, .int .i64 0, .int .i64 0, .int .i64 0, .int .i64 0, .int .i64 0] 24) = W1 at *
  generalize w1.heap.size = C at *
  generalize hB0 : w.heap.size = B at *
  have HB0 := Lib.hid hB0
  have H8 := Lib.hid h8
  have H9 := Lib.hid h9
  have HBW := Lib.hid hB
  have HTW := Lib.hid hT
  have HZ := Lib.hid hz
  have HCB := Lib.hid hC
  have hBnd := Lib.hid hTlt
  clear hTlt
  clear hB0 h8 h9 hB hT hz hC hb1 HT
  go_loopw [10] (fun i wr => ∃ (k : Nat) (c : List Int), i = .int .i64 k ∧ k ≤ dn ∧ Hid (inC c m) ∧ Hid (wr.heap[C]? = some (.cells (Cv c) 24)) ∧ Hid (wr.heap[C + 1]? = some (.cells (Cv c) 24)) ∧ Hid (Below B w wr ∧ Bnds wr ∧ C + 1 < wr.heap.size)) (fun i _ => dn - (intOf i).toNat)
  case atStart => exact ⟨0, [0, 0, 0, 0, 0, 0, 0, 0, 0, 0], rfl, Nat.zero_le _, Lib.hid (fun i => by rcases i with _ | _ | _ | _ | _ | _ | _ | _ | _ | _ | i <;> simp <;> omega), H8, H9, Lib.hid ⟨HBW.out, HTW.out, HZ.out⟩⟩
  case round =>
    obtain ⟨k, c, rfl, hk, KC, K8, K9, KK⟩ := hrel
    clear H8 H9 HBW HTW HZ
    by_cases hlt : k < dn
    · have kd : k < d.length := by rw [← ED.out]; exact hlt
      have ke : k < es.length := by rw [← EE.out]; omega
      obtain ⟨a, rfl, ba, hca⟩ := (RD.out.below KK.out.1).at_ (k := k) (by simpa using kd)
      obtain ⟨b, rfl, bb, hcb⟩ := (RE.out.below KK.out.1).at_ (k := k) (by simpa using ke)
      rw [List.getElem_map] at hca hcb
      obtain ⟨dk, hdk⟩ : ∃ dk, d[k]? = some dk := ⟨_, List.getElem?_eq_getElem kd⟩
      obtain ⟨ek, hek⟩ : ∃ ek, es[k]? = some ek := ⟨_, List.getElem?_eq_getElem ke⟩
      rw [getOf hdk kd] at hca
      rw [getOf hek ke] at hcb
      have EDK := Lib.hid hdk
      have EEK := Lib.hid hek
      clear hdk hek
      have HKD := Lib.hid kd
      have HKE := Lib.hid ke
      clear kd ke
      have OK := KC.out.ok (show m ≤ 9223372036854775807 by omega)
      have AD := fun W T => Lib.hid (add_any c 0 0 0 0 { data := #[] } { data := #[] } 0 dk ek none 0 0 m W T OK (show m ≤ 9223372036854775807 by omega))
      have OF := fun W => Lib.hid (ofref_any dk W)
      have hf := Bm.of_le dk
      generalize Bm.of dk = f at *
      have KC2 := Lib.hid (KC.out.join (oneC_ok f ek (by omega)) h3 (show m ≤ 9223372036854775807 by omega))
      have WE := Lib.hid (want_eq c f ek m KC.out (by omega) h3 (show m < 9223372036854775807 by omega))
      generalize hc' : joinC c (oneC f ek) m = c' at *
      clear hc'
      have V0 : wr.heap[C + 1]? = _ := K9.out
      obtain ⟨x0, x1, x2, x3, x4, x5, x6, x7, x8, x9, hxx⟩ := Cv_ex c
      obtain ⟨z0, z1, z2, z3, z4, z5, z6, z7, z8, z9, hzz⟩ := Cv_ex c'
      have h8 := K8.out
      rw [hxx] at h8 AD
      rw [hzz] at AD
      have XX := Lib.hid hxx
      have ZZ := Lib.hid hzz
      clear hxx hzz OK V0
      have ik0 : (0 : Int) ≤ (k : Int) := by omega
      have ik1 : (k : Int) < (dn : Int) := by omega
      have ik2 : (k : Int) < (en : Int) := by omega
      go_wp2_with fail
      go_cut [] (fun wx => Hid (wx.heap[C]? = some (.cells (Cv c') 24)) ∧ Hid (wx.heap[C + 1]? = some (.cells (Cv c) 24)) ∧ Hid (Below B w wx ∧ Bnds wx ∧ C + 1 < wx.heap.size))
      case first =>
        have x0c : wr.cell? ⟨C, 0, none⟩ = some (.int .i64 x0) := cell_of_row _ _ 0 _ 24 (0, 0) h8
        have x1c : wr.cell? ⟨C, 1, none⟩ = some (.int .i64 x1) := cell_of_row _ _ 1 _ 24 (0, 0) h8
        have x2c : wr.cell? ⟨C, 2, none⟩ = some (.int .i64 x2) := cell_of_row _ _ 2 _ 24 (0, 0) h8
        have x3c : wr.cell? ⟨C, 3, none⟩ = some (.int .i64 x3) := cell_of_row _ _ 3 _ 24 (0, 0) h8
        have x4c : wr.cell? ⟨C, 4, none⟩ = some (.int .i64 x4) := cell_of_row _ _ 4 _ 24 (0, 0) h8
        have x5c : wr.cell? ⟨C, 5, none⟩ = some (.int .i64 x5) := cell_of_row _ _ 5 _ 24 (0, 0) h8
        have x6c : wr.cell? ⟨C, 6, none⟩ = some (.int .i64 x6) := cell_of_row _ _ 6 _ 24 (0, 0) h8
        have x7c : wr.cell? ⟨C, 7, none⟩ = some (.int .i64 x7) := cell_of_row _ _ 7 _ 24 (0, 0) h8
        have x8c : wr.cell? ⟨C, 8, none⟩ = some (.int .i64 x8) := cell_of_row _ _ 8 _ 24 (0, 0) h8
        have x9c : wr.cell? ⟨C, 9, none⟩ = some (.int .i64 x9) := cell_of_row _ _ 9 _ 24 (0, 0) h8
        have H8 := Lib.hid h8
        clear h8
        go_still_tail 11, (by kernel_rfl)
        change wpList _ _ _ _ _ wr.drew
        go_wp2_with fail
        refine (AD wr.drew (show Bnds wr.drew from fun i hi => KK.out.2.1 i hi)).out.mono ?_
        rintro en w2 ⟨rfl, hb3⟩
        have hb2 : Below wr.heap.size wr w2 := (show Below wr.heap.size wr wr.drew from ⟨rfl, rfl, rfl, Nat.le_refl _, fun _ _ => rfl⟩).trans hb3
        clear hb3
        have hBle : B ≤ wr.heap.size := by have := KK.out.1.size; rw [← HB0.out]; exact this
        have hO : w2.heap[C]? = _ := (hb2.block C (by have := KK.out.2.2; show C < wr.heap.size; omega)).trans H8.out
        have o0 : w2.cell? ⟨C, 0, none⟩ = some (.int .i64 x0) := cell_of_row _ _ 0 _ 24 (0, 0) hO
        have q0 : w2.frozen? ⟨C, 0, none⟩ = false := (by simp [World.frozen?, hO])
        have o1 : w2.cell? ⟨C, 1, none⟩ = some (.int .i64 x1) := cell_of_row _ _ 1 _ 24 (0, 0) hO
        have q1 : w2.frozen? ⟨C, 1, none⟩ = false := (by simp [World.frozen?, hO])
        have o2 : w2.cell? ⟨C, 2, none⟩ = some (.int .i64 x2) := cell_of_row _ _ 2 _ 24 (0, 0) hO
        have q2 : w2.frozen? ⟨C, 2, none⟩ = false := (by simp [World.frozen?, hO])
        have o3 : w2.cell? ⟨C, 3, none⟩ = some (.int .i64 x3) := cell_of_row _ _ 3 _ 24 (0, 0) hO
        have q3 : w2.frozen? ⟨C, 3, none⟩ = false := (by simp [World.frozen?, hO])
        have o4 : w2.cell? ⟨C, 4, none⟩ = some (.int .i64 x4) := cell_of_row _ _ 4 _ 24 (0, 0) hO
        have q4 : w2.frozen? ⟨C, 4, none⟩ = false := (by simp [World.frozen?, hO])
        have o5 : w2.cell? ⟨C, 5, none⟩ = some (.int .i64 x5) := cell_of_row _ _ 5 _ 24 (0, 0) hO
        have q5 : w2.frozen? ⟨C, 5, none⟩ = false := (by simp [World.frozen?, hO])
        have o6 : w2.cell? ⟨C, 6, none⟩ = some (.int .i64 x6) := cell_of_row _ _ 6 _ 24 (0, 0) hO
        have q6 : w2.frozen? ⟨C, 6, none⟩ = false := (by simp [World.frozen?, hO])
        have o7 : w2.cell? ⟨C, 7, none⟩ = some (.int .i64 x7) := cell_of_row _ _ 7 _ 24 (0, 0) hO
        have q7 : w2.frozen? ⟨C, 7, none⟩ = false := (by simp [World.frozen?, hO])
        have o8 : w2.cell? ⟨C, 8, none⟩ = some (.int .i64 x8) := cell_of_row _ _ 8 _ 24 (0, 0) hO
        have q8 : w2.frozen? ⟨C, 8, none⟩ = false := (by simp [World.frozen?, hO])
        have o9 : w2.cell? ⟨C, 9, none⟩ = some (.int .i64 x9) := cell_of_row _ _ 9 _ 24 (0, 0) hO
        have q9 : w2.frozen? ⟨C, 9, none⟩ = false := (by simp [World.frozen?, hO])
        have HO := Lib.hid hO
        have HN : Hid (w2.heap[C + 1]? = _) := Lib.hid ((hb2.block (C + 1) KK.out.2.2).trans K9.out)
        have hz2 : C + 1 < w2.heap.size := (by have := hb2.size; have := KK.out.2.2; simp at *; omega)
        have HBB : Hid (Below B w w2) := Lib.hid (KK.out.1.trans (hb2.mono hBle))
        have HT2 : Hid (Bnds w2) := Lib.hid (KK.out.2.1.below hb2 KK.out.2.1.lt)
        clear hb2 hO
        go_wp2_with fail
        go_meet
        have P1 := put10_heap z0 z1 z2 z3 z4 z5 z6 z7 z8 z9 HO.out ⟨_, _, _, _, _, _, _, _, _, _, rfl⟩
        have P2 := (put10_far (w := w2) (C := C) (b := C + 1) z0 z1 z2 z3 z4 z5 z6 z7 z8 z9 (by omega)).trans HN.out
        have P3 := put10_below z0 z1 z2 z3 z4 z5 z6 z7 z8 z9 HBB.out HCB.out
        have P4 : C + 1 < (put10 w2 C z0 z1 z2 z3 z4 z5 z6 z7 z8 z9).heap.size := by unfold put10; simp; exact hz2
        have P5 : Bnds (put10 w2 C z0 z1 z2 z3 z4 z5 z6 z7 z8 z9) := fun i hi => by
          have e := HT2.out i hi
          have hlt2 := HT2.out.lt
          have hb : Below C w2 (put10 w2 C z0 z1 z2 z3 z4 z5 z6 z7 z8 z9) := put10_below z0 z1 z2 z3 z4 z5 z6 z7 z8 z9 (Below.refl _ _) (Nat.le_refl _)
          exact (hb.cell (p := ⟨_, i, none⟩) (show 0 < C by have := HCB.out; have := hBnd.out; omega)).trans e
        exact ⟨Lib.hid (by rw [ZZ.out]; exact P1), Lib.hid P2, Lib.hid ⟨P3, P5, P4⟩⟩
      case rest =>
        obtain ⟨J8, J9, JJ⟩ := hcut
        clear XX ZZ AD h8 hca hcb
        obtain ⟨a', ha', _, hca⟩ := (RD.out.below JJ.out.1).at_ (k := k) (by simpa using HKD.out)
        obtain ⟨b', hb', _, hcb⟩ := (RE.out.below JJ.out.1).at_ (k := k) (by simpa using HKE.out)
        injection ha' with ha'
        injection hb' with hb'
        subst ha' hb'
        rw [List.getElem_map] at hca hcb
        have hca : wc.cell? (a.add k) = some (.int .i64 dk) := by rw [hca, getOf EDK.out HKD.out]
        have hcb : wc.cell? (b.add k) = some (.bool ek) := by rw [hcb, getOf EEK.out HKE.out]
        have y0 := (cell_of_row _ _ 0 _ 24 (0, 0) J9.out).trans (Cv_at c 0 (by decide))
        have y1 := (cell_of_row _ _ 1 _ 24 (0, 0) J9.out).trans (Cv_at c 1 (by decide))
        have yf := (cell_of_row _ _ (2 + f) _ 24 (0, 0) J9.out).trans (Cv_at c (2 + f) (by omega))
        have z0 : wc.frozen? ⟨C + 1, 0, none⟩ = false := by have h := J9.out; simp [World.frozen?, h]
        have z1 : wc.frozen? ⟨C + 1, 1, none⟩ = false := by have h := J9.out; simp [World.frozen?, h]
        have zf : wc.frozen? ⟨C + 1, 2 + f, none⟩ = false := by have h := J9.out; simp [World.frozen?, h]
        have i0 := KC.out 0
        have i1 := KC.out 1
        have i2 := KC.out (2 + f)
        have Y1 := Lib.hid (Cv_at c 1 (by decide))
        have Y2 := Lib.hid (Cv_at c (2 + f) (by omega))
        obtain ⟨b0, hb0⟩ : ∃ b0, b0 = decide (c.getD 0 0 < m) := ⟨_, rfl⟩
        obtain ⟨b1, hb1⟩ : ∃ b1, b1 = (ek && decide (c.getD 1 0 < m)) := ⟨_, rfl⟩
        obtain ⟨b2, hb2⟩ : ∃ b2, b2 = decide (c.getD (2 + f) 0 < m) := ⟨_, rfl⟩
        have WB := Lib.hid (WE.out b0 b1 b2 hb0 hb1 hb2)
        clear WE
        generalize c.getD 0 0 = p0 at *
        generalize c.getD 1 0 = p1 at *
        generalize c.getD (2 + f) 0 = p2 at *
        have c0 : (b0 = true ∧ p0 < m) ∨ (b0 = false ∧ m ≤ p0) := by
          by_cases h : p0 < m
          · exact Or.inl ⟨by rw [hb0]; simpa using h, h⟩
          · exact Or.inr ⟨by rw [hb0]; simpa using h, by omega⟩
        have c1 : (ek = false ∧ b1 = false) ∨ (ek = true ∧ b1 = true ∧ p1 < m) ∨ (ek = true ∧ b1 = false ∧ m ≤ p1) := by
          cases ek
          · exact Or.inl ⟨rfl, by rw [hb1]; rfl⟩
          · by_cases h : p1 < m
            · exact Or.inr (Or.inl ⟨rfl, by rw [hb1]; simpa using h, h⟩)
            · exact Or.inr (Or.inr ⟨rfl, by rw [hb1]; simpa using h, by omega⟩)
        have c2 : (b2 = true ∧ p2 < m) ∨ (b2 = false ∧ m ≤ p2) := by
          by_cases h : p2 < m
          · exact Or.inl ⟨by rw [hb2]; simpa using h, h⟩
          · exact Or.inr ⟨by rw [hb2]; simpa using h, by omega⟩
        clear hb0 hb1 hb2
        have hz : C + 1 < wc.heap.size := JJ.out.2.2
        have nn : ∀ (x : Addr) (j : Nat), x.block < B → x.add k ≠ ⟨C + 1, j, none⟩ := fun x j hx he => by
          have := congrArg Addr.block he
          rw [block_add] at this
          have := HCB.out
          simp at *
          omega
        have na0 := nn a 0 ba
        have na1 := nn a 1 ba
        have nb0 := nn b 0 bb
        have f0 : ¬ (2 + f = 0) := by omega
        have f1 : ¬ (2 + f = 1) := by omega
        clear nn
        clear yf z1 zf
        clear y1
        go_upto_if 57 with (fail)
        go_cut [] (fun wx => Hid (wx.heap[C]? = some (.cells (Cv c') 24)) ∧ Hid (wx.heap[C + 1]? = some (.cells (bump (Cv c) 0 p0 b0) 24)) ∧ Hid (Below B w wx ∧ Bnds wx ∧ C + 1 < wx.heap.size))
        case first =>
          rcases c0 with ⟨rfl, c0⟩ | ⟨rfl, c0⟩
          · go_wp2_with fail
            go_meet
            exact ⟨Lib.hid ((Below.heap_setCell _ _ _ _ (by simp)).trans J8.out), Lib.hid (Go.Joins.block_setCell (i := 0) J9.out _), Lib.hid ⟨JJ.out.1.setCell (show B ≤ C + 1 by have := HCB.out; omega) _, JJ.out.2.1.setc (show C + 1 ≠ 0 by have := HCB.out; have := hBnd.out; omega) _, by simpa using hz⟩⟩
          · go_wp2_with fail
            go_meet
            exact ⟨J8, J9, JJ⟩
        case rest =>
          obtain ⟨L8, L9, LL⟩ := hcut
          clear J8 J9 JJ hz hca hcb y0 z0 c0
          obtain ⟨b', hb', _, hcb⟩ := (RE.out.below LL.out.1).at_ (k := k) (by simpa using HKE.out)
          injection hb' with hb'
          subst hb'
          rw [List.getElem_map, getOf EEK.out HKE.out] at hcb
          have y1 := (cell_of_row _ _ 1 _ 24 (0, 0) L9.out).trans ((bump_at _ 0 1 p0 b0 (by rw [Cv_size]; omega)).trans ((if_neg (by omega)).trans Y1.out))
          have z1 : wc.frozen? ⟨C + 1, 1, none⟩ = false := by have h := L9.out; simp [World.frozen?, h]
          obtain ⟨wq, hwq⟩ : ∃ wq : World, wq = wc := ⟨_, rfl⟩
          subst hwq
          go_upto_region 11 with (fail)
          go_cut [71] (fun s71 wx => s71 = .bool b1 ∧ wq = wx)
          case first =>
            rcases c1 with ⟨rfl, rfl⟩ | ⟨rfl, rfl, c1⟩ | ⟨rfl, rfl, c1⟩
            all_goals
              go_wp2_with fail
              go_meet
              refine ⟨?_, rfl⟩
              first | rfl | (rw [decide_eq_false (show ¬ p1 < m by omega)])
          case rest =>
          obtain ⟨rfl, rfl⟩ := hcut
          go_upto_if 71 with (fail)
          go_cut [] (fun wx => Hid (wx.heap[C]? = some (.cells (Cv c') 24)) ∧ Hid (wx.heap[C + 1]? = some (.cells (bump (bump (Cv c) 0 p0 b0) 1 p1 b1) 24)) ∧ Hid (Below B w wx ∧ Bnds wx ∧ C + 1 < wx.heap.size))
          case first =>
            rcases c1 with ⟨rfl, rfl⟩ | ⟨rfl, rfl, c1⟩ | ⟨rfl, rfl, c1⟩
            · go_wp2_with fail
              go_meet
              exact ⟨L8, L9, LL⟩
            · go_wp2_with fail
              go_meet
              exact ⟨Lib.hid ((Below.heap_setCell _ _ _ _ (by simp)).trans L8.out), Lib.hid (Go.Joins.block_setCell (i := 1) L9.out _), Lib.hid ⟨LL.out.1.setCell (show B ≤ C + 1 by have := HCB.out; omega) _, LL.out.2.1.setc (show C + 1 ≠ 0 by have := HCB.out; have := hBnd.out; omega) _, by simpa using LL.out.2.2⟩⟩
            · go_wp2_with fail
              go_meet
              exact ⟨L8, L9, LL⟩
          case rest =>
            obtain ⟨M8, M9, MM⟩ := hcut
            clear L8 L9 LL hcb y1 z1 c1
            obtain ⟨a', ha', _, hca⟩ := (RD.out.below MM.out.1).at_ (k := k) (by simpa using HKD.out)
            injection ha' with ha'
            subst ha'
            rw [List.getElem_map, getOf EDK.out HKD.out] at hca
            have y2 := (cell_of_row _ _ (2 + f) _ 24 (0, 0) M9.out).trans ((bump_at _ 1 (2 + f) p1 b1 (by rw [bump_size, Cv_size]; omega)).trans ((if_neg (by omega)).trans ((bump_at _ 0 (2 + f) p0 b0 (by rw [Cv_size]; omega)).trans ((if_neg (by omega)).trans Y2.out))))
            have z2 : wc.frozen? ⟨C + 1, 2 + f, none⟩ = false := by have h := M9.out; simp [World.frozen?, h]
            have hz : C + 1 < wc.heap.size := MM.out.2.2
            go_upto_if 86 with (go_at_call 11; refine (OF _).out.mono ?_; rintro e w3 ⟨rfl, hb3⟩; have y3 := (hb3.cell (p := ⟨C + 1, 2 + f, none⟩) hz).trans y2; have z3 := (hb3.frozen (p := ⟨C + 1, 2 + f, none⟩) hz).trans z2; have HB3 := Lib.hid hb3; clear hb3)
            have N8 : Hid (w3.heap[C]? = some (.cells (Cv c') 24)) := Lib.hid ((HB3.out.block C (by omega)).trans M8.out)
            have N9 : Hid (w3.heap[C + 1]? = some (.cells (bump (bump (Cv c) 0 p0 b0) 1 p1 b1) 24)) := Lib.hid ((HB3.out.block (C + 1) hz).trans M9.out)
            have NN : Hid (Below B w w3 ∧ Bnds w3 ∧ C + 1 < w3.heap.size) := Lib.hid ⟨MM.out.1.trans (HB3.out.mono (by have := HCB.out; omega)), MM.out.2.1.below HB3.out MM.out.2.1.lt, by have := HB3.out.size; omega⟩
            clear M8 M9 MM HB3 hca y2 z2 hz
            rcases c2 with ⟨rfl, c2⟩ | ⟨rfl, c2⟩
            · go_wp2_with fail
              go_roundw
              case rel => exact ⟨k + 1, c', by go_num, by omega, KC2, Lib.hid ((Below.heap_setCell _ _ _ _ (by simp)).trans N8.out), Lib.hid (by rw [← WB.out]; exact Go.Joins.block_setCell (i := 2 + f) N9.out _), Lib.hid ⟨NN.out.1.setCell (show B ≤ C + 1 by have := HCB.out; omega) _, NN.out.2.1.setc (show C + 1 ≠ 0 by have := HCB.out; have := hBnd.out; omega) _, by simpa using NN.out.2.2⟩⟩
              case measure => simp [intOf]; omega
            · rw [show bump (bump (bump (Cv c) 0 p0 b0) 1 p1 b1) (2 + f) p2 false = bump (bump (Cv c) 0 p0 b0) 1 p1 b1 from rfl] at WB
              rw [WB.out] at N9
              go_wp2_with fail
              go_roundw
              case rel => exact ⟨k + 1, c', by go_num, by omega, KC2, N8, N9, NN⟩
              case measure => simp [intOf]; omega
    · obtain rfl : k = dn := by omega
      obtain ⟨x0, x1, x2, x3, x4, x5, x6, x7, x8, x9, hxx⟩ := Cv_ex c
      have h8 := K8.out
      have h9 := K9.out
      rw [hxx] at h8 h9
      clear hxx K8 K9
      have s0 : wr.cell? ⟨C, 0, none⟩ = some (.int .i64 x0) := cell_of_row _ _ 0 _ 24 (0, 0) h8
      have t0 : wr.cell? ⟨C + 1, 0, none⟩ = some (.int .i64 x0) := cell_of_row _ _ 0 _ 24 (0, 0) h9
      have s1 : wr.cell? ⟨C, 1, none⟩ = some (.int .i64 x1) := cell_of_row _ _ 1 _ 24 (0, 0) h8
      have t1 : wr.cell? ⟨C + 1, 1, none⟩ = some (.int .i64 x1) := cell_of_row _ _ 1 _ 24 (0, 0) h9
      have s2 : wr.cell? ⟨C, 2, none⟩ = some (.int .i64 x2) := cell_of_row _ _ 2 _ 24 (0, 0) h8
      have t2 : wr.cell? ⟨C + 1, 2, none⟩ = some (.int .i64 x2) := cell_of_row _ _ 2 _ 24 (0, 0) h9
      have s3 : wr.cell? ⟨C, 3, none⟩ = some (.int .i64 x3) := cell_of_row _ _ 3 _ 24 (0, 0) h8
      have t3 : wr.cell? ⟨C + 1, 3, none⟩ = some (.int .i64 x3) := cell_of_row _ _ 3 _ 24 (0, 0) h9
      have s4 : wr.cell? ⟨C, 4, none⟩ = some (.int .i64 x4) := cell_of_row _ _ 4 _ 24 (0, 0) h8
      have t4 : wr.cell? ⟨C + 1, 4, none⟩ = some (.int .i64 x4) := cell_of_row _ _ 4 _ 24 (0, 0) h9
      have s5 : wr.cell? ⟨C, 5, none⟩ = some (.int .i64 x5) := cell_of_row _ _ 5 _ 24 (0, 0) h8
      have t5 : wr.cell? ⟨C + 1, 5, none⟩ = some (.int .i64 x5) := cell_of_row _ _ 5 _ 24 (0, 0) h9
      have s6 : wr.cell? ⟨C, 6, none⟩ = some (.int .i64 x6) := cell_of_row _ _ 6 _ 24 (0, 0) h8
      have t6 : wr.cell? ⟨C + 1, 6, none⟩ = some (.int .i64 x6) := cell_of_row _ _ 6 _ 24 (0, 0) h9
      have s7 : wr.cell? ⟨C, 7, none⟩ = some (.int .i64 x7) := cell_of_row _ _ 7 _ 24 (0, 0) h8
      have t7 : wr.cell? ⟨C + 1, 7, none⟩ = some (.int .i64 x7) := cell_of_row _ _ 7 _ 24 (0, 0) h9
      have s8 : wr.cell? ⟨C, 8, none⟩ = some (.int .i64 x8) := cell_of_row _ _ 8 _ 24 (0, 0) h8
      have t8 : wr.cell? ⟨C + 1, 8, none⟩ = some (.int .i64 x8) := cell_of_row _ _ 8 _ 24 (0, 0) h9
      have s9 : wr.cell? ⟨C, 9, none⟩ = some (.int .i64 x9) := cell_of_row _ _ 9 _ 24 (0, 0) h8
      have t9 : wr.cell? ⟨C + 1, 9, none⟩ = some (.int .i64 x9) := cell_of_row _ _ 9 _ 24 (0, 0) h9
      clear h8 h9
      go_wp2_with fail
      go_ret
      rw [HB0.out]
      exact ⟨rfl, KK.out.1⟩
end Go.Proofs.YtkmcdeejkcncpaaDoor
