/- The document's Add: a span added to an episode. -/
import Derived.Test.YtenioeppmgmdiaaEa
import Derived.Test.YtenioeppmgmdiaaBs
import Derived.BigQuiet
namespace Go.Proofs.Ytenioeppmgmdiaa
open Go.RowKit
set_option linter.unusedVariables false
set_option linter.unusedSimpArgs false
set_option maxRecDepth 100000

theorem drewND {B : Nat} {a w : World} (h : Below B a w) (j : Nat) : Below B a (w.drewN j) := h.trans ⟨rfl, rfl, rfl, Nat.le_refl _, fun _ _ => rfl⟩
set_option maxHeartbeats 8000000 in
theorem dadd_other (hi lo f la : Int) (su : Bool) (A : Option Addr) (l : List Ls) (n c : Nat) (x0 x1 x2 x3 : Int) (x4 x5 : ByteArray) (x6 x7 : Int) (x8 : Bool) (xA : Option Addr) (m xc : Nat) (now : Int) (w : World) (ht : ¬ (x0 = hi ∧ x1 = lo)) :
    Calls Try.prog 45 #[.agg #[.int .u64 hi, .int .u64 lo, .int .i64 f, .int .i64 la, .bool su, .slice A n c], .agg #[.int .u64 x0, .int .u64 x1, .int .u64 x2, .int .u64 x3, .string x4, .string x5, .int .i64 x6, .int .i64 x7, .bool x8, .slice xA m xc], .int .i64 now] w fun e w' => e = .returned (.tuple #[.agg #[.int .u64 hi, .int .u64 lo, .int .i64 f, .int .i64 la, .bool su, .slice A n c], .bool false]) ∧ Below w.heap.size w w' := by
  have hcc : ((hi == x0) = false) ∨ ((hi == x0) = true ∧ (lo == x1) = false) := by
    by_cases h1 : hi = x0
    · right; subst h1; simp at ht ⊢; exact fun h => ht h.symm
    · left; simpa using h1
  clear ht
  have HB : Hid (Below w.heap.size w w) := Lib.hid (Below.refl _ _)
  rcases hcc with h1 | ⟨h1, h2⟩
  all_goals
    go_enter Try.func45, Try.ntmps45
    go_wp2_with fail
    refine bodyPost_ret (v := .tuple #[.agg #[.int .u64 hi, .int .u64 lo, .int .i64 f, .int .i64 la, .bool su, .slice A n c], .bool false]) (by simp [results, Try.results45, go_sem]) rfl ?_
    refine ⟨rfl, ?_⟩
    repeat' (first | (with_reducible exact HB.out) | (with_reducible exact Below.refl _ _) | (refine Below.setCell ?_ (by simp; try omega) _) | (with_reducible refine Below.alloc ?_ (by simp; try omega) _))
set_option maxHeartbeats 8000000 in
theorem dadd_had (hi lo f la : Int) (su : Bool) (A : Option Addr) (l : List Ls) (n c : Nat) (x2 x3 : Int) (x4 x5 : ByteArray) (x6 x7 : Int) (x8 : Bool) (xA : Option Addr) (m xc : Nat) (now : Int) (B : Nat) (w : World)
    (hn : n = l.length) (hy : RdSps w B A l) (hB : B ≤ w.heap.size) (hl : n ≤ 100000) (hh : hasId (l.map Ls.s) x2 = true) :
    Calls Try.prog 45 #[.agg #[.int .u64 hi, .int .u64 lo, .int .i64 f, .int .i64 la, .bool su, .slice A n c], .agg #[.int .u64 hi, .int .u64 lo, .int .u64 x2, .int .u64 x3, .string x4, .string x5, .int .i64 x6, .int .i64 x7, .bool x8, .slice xA m xc], .int .i64 now] w fun e w' => e = .returned (.tuple #[.agg #[.int .u64 hi, .int .u64 lo, .int .i64 f, .int .i64 now, .bool su, .slice A n c], .bool false]) ∧ Below w.heap.size w w' := by
  have HN := Lib.hid hn
  have HY := Lib.hid hy
  have HHH := Lib.hid hh
  clear hn hy hh
  go_enter Try.func45, Try.ntmps45
  go_wp2_with fail
  go_loopw [8] (fun i wr => ∃ k : Nat, i = .int .i64 k ∧ k ≤ n ∧ Hid ((l.take k).any (fun x => x.s.id == x2) = false) ∧ Hid (wr.heap[w.heap.size]? = some (.cells #[.int .u64 hi, .int .u64 lo, .int .i64 f, .int .i64 now, .bool su, .slice A n c] 30)) ∧ Hid (wr.heap[w.heap.size + 1]? = some (.cells #[.int .u64 hi, .int .u64 lo, .int .u64 x2, .int .u64 x3, .string x4, .string x5, .int .i64 x6, .int .i64 x7, .bool x8, .slice xA m xc] 42)) ∧ Hid (wr.heap[w.heap.size + 1 + 1]? = some (.cells #[.int .u64 0, .int .u64 0, .int .i64 0, .int .i64 0, .bool false, .slice none 0 0] 30)) ∧ Hid (Below w.heap.size w wr)) (fun i _ => n - (intOf i).toNat)
  case atStart =>
    refine ⟨0, rfl, Nat.zero_le _, Lib.hid (by simp), Lib.hid ?_, Lib.hid ?_, Lib.hid ?_, Lib.hid ?_⟩
    · exact three0 w _ _ _
    · exact three1 w _ _ _
    · exact three2 w _ _ _
    · exact (((Below.refl _ _).alloc (Nat.le_refl _) _).alloc (by simp) _).alloc (by simp; omega) _
  case round =>
    obtain ⟨k, rfl, hk, HK, HE, HS, HZ, HB⟩ := hrel
    have e5 : wr.cell? ⟨w.heap.size, 5, none⟩ = some (.slice A n c) := cell_of_row _ _ 5 _ _ (0, 0) HE.out
    by_cases hlt : k < n
    · obtain ⟨x, hx⟩ : ∃ x, l[k]? = some x := ⟨_, List.getElem?_eq_getElem (by rw [← HN.out]; exact hlt)⟩
      have s2 : wr.cell? ⟨w.heap.size + 1, 2, none⟩ = some (.int .u64 x2) := cell_of_row _ _ 2 _ _ (0, 0) HS.out
      have e0 : wr.cell? ⟨w.heap.size, 0, none⟩ = some (.int .u64 hi) := cell_of_row _ _ 0 _ _ (0, 0) HE.out
      have z0 : wr.cell? ⟨w.heap.size + 1 + 1, 0, none⟩ = some (.int .u64 0) := cell_of_row _ _ 0 _ _ (0, 0) HZ.out
      have y0 : wr.frozen? ⟨w.heap.size + 1 + 1, 0, none⟩ = false := by simp [World.frozen?, HZ.out]
      have e1 : wr.cell? ⟨w.heap.size, 1, none⟩ = some (.int .u64 lo) := cell_of_row _ _ 1 _ _ (0, 0) HE.out
      have z1 : wr.cell? ⟨w.heap.size + 1 + 1, 1, none⟩ = some (.int .u64 0) := cell_of_row _ _ 1 _ _ (0, 0) HZ.out
      have y1 : wr.frozen? ⟨w.heap.size + 1 + 1, 1, none⟩ = false := by simp [World.frozen?, HZ.out]
      have e2 : wr.cell? ⟨w.heap.size, 2, none⟩ = some (.int .i64 f) := cell_of_row _ _ 2 _ _ (0, 0) HE.out
      have z2 : wr.cell? ⟨w.heap.size + 1 + 1, 2, none⟩ = some (.int .i64 0) := cell_of_row _ _ 2 _ _ (0, 0) HZ.out
      have y2 : wr.frozen? ⟨w.heap.size + 1 + 1, 2, none⟩ = false := by simp [World.frozen?, HZ.out]
      have e3 : wr.cell? ⟨w.heap.size, 3, none⟩ = some (.int .i64 now) := cell_of_row _ _ 3 _ _ (0, 0) HE.out
      have z3 : wr.cell? ⟨w.heap.size + 1 + 1, 3, none⟩ = some (.int .i64 0) := cell_of_row _ _ 3 _ _ (0, 0) HZ.out
      have y3 : wr.frozen? ⟨w.heap.size + 1 + 1, 3, none⟩ = false := by simp [World.frozen?, HZ.out]
      have e4 : wr.cell? ⟨w.heap.size, 4, none⟩ = some (.bool su) := cell_of_row _ _ 4 _ _ (0, 0) HE.out
      have z4 : wr.cell? ⟨w.heap.size + 1 + 1, 4, none⟩ = some (.bool false) := cell_of_row _ _ 4 _ _ (0, 0) HZ.out
      have y4 : wr.frozen? ⟨w.heap.size + 1 + 1, 4, none⟩ = false := by simp [World.frozen?, HZ.out]
      have e5 : wr.cell? ⟨w.heap.size, 5, none⟩ = some (.slice A n c) := cell_of_row _ _ 5 _ _ (0, 0) HE.out
      have z5 : wr.cell? ⟨w.heap.size + 1 + 1, 5, none⟩ = some (.slice none 0 0) := cell_of_row _ _ 5 _ _ (0, 0) HZ.out
      have y5 : wr.frozen? ⟨w.heap.size + 1 + 1, 5, none⟩ = false := by simp [World.frozen?, HZ.out]
      obtain ⟨a, ha, hab, hc, _⟩ := (HY.out.below (HB.out.mono hB)).at_ hx
      subst ha
      have HX := Lib.hid hx
      obtain ⟨⟨v0, v1, v2, v3, v4, v5, v6, v7, v8, vats⟩, vA, vc⟩ := x
      have c2 := cell_far (hc 2 _ rfl) (by omega)
      clear hc hx
      by_cases hid : v2 = x2
      · have q1 : (v2 == x2) = true := by simpa using hid
        subst hid
        clear q1 HX
        go_wp2_with fail
        go_quiet (fail)
        go_wp2_with fail
        refine bodyPost_ret (v := .tuple #[.agg #[.int .u64 hi, .int .u64 lo, .int .i64 f, .int .i64 now, .bool su, .slice (some a) n c], .bool false]) (by simp [results, Try.results45, go_sem, z0, z1, z2, z3, z4, z5]) rfl ?_
        refine ⟨rfl, ?_⟩
        have hbd := drewND HB.out
        repeat' (first | (with_reducible exact hbd _) | (with_reducible exact HB.out) | (refine Below.setCell ?_ (by simp; try omega) _))
      · have q1 : (v2 == x2) = false := by simpa using hid
        have HK2 : Hid ((l.take (k + 1)).any (fun x => x.s.id == x2) = false) := Lib.hid (by rw [List.take_add_one, HX.out, List.any_append, HK.out]; simpa using hid)
        clear hid HK HX
        go_wp2_with fail
        go_quiet (fail)
        go_wp2_with fail
        go_roundw
        case rel => exact ⟨k + 1, by go_num, by omega, HK2, HE, HS, HZ, Lib.hid (drewND HB.out _)⟩
        case measure => simp [intOf]; omega
    · exfalso
      obtain rfl : k = n := by omega
      have h := HK.out
      rw [List.take_of_length_le (by rw [← HN.out]; exact Nat.le_refl _)] at h
      have h2 := HHH.out
      unfold hasId at h2
      rw [List.any_map] at h2
      exact absurd (h2.symm.trans h) (by simp)
def DaF (o n c base : Nat) (A : Option Addr) (cs S : List Value) (hi lo f now : Int) (su : Bool) : Nat → Value → World → Prop
  | 0, v, _ => v = .pointer (some ⟨o, 5, none⟩)
  | 1, v, _ => v = .slice A n c
  | 2, v, w => w.ownsRow base 42 10 v n cs
  | 3, v, _ => v = .agg S.toArray
  | 4, v, w => ∃ g, v = .slice (some ⟨g, 0, none⟩) 1 1 ∧ o < g ∧ w.heap[g]? = some (.cells S.toArray 42 (0, 0))
  | 5, v, w => w.ownsRow base 42 10 v (n + 1) (cs ++ S)
  | 6, v, _ => v = .pointer (some ⟨o, 5, none⟩)
  | 7, _, w => ∃ v5, w.ownsRow base 42 10 v5 (n + 1) (cs ++ S) ∧ w.heap[o]? = some (.cells #[.int .u64 hi, .int .u64 lo, .int .i64 f, .int .i64 now, .bool su, v5] 30 (0, 0))
  | _, _, _ => True
def DaG (o : Nat) (C : Obj) : Nat → World → Prop
  | 7, w => w.heap[o]? = some C
  | _, _ => True
section
variable {o n c base : Nat} {A : Option Addr} {cs S : List Value} {hi lo f now : Int} {su : Bool} {w w' : World} {i : Nat} {v : Value}
theorem DaF.below (hb : Below w.heap.size w w') (h : DaF o n c base A cs S hi lo f now su i v w) : DaF o n c base A cs S hi lo f now su i v w' := by
  match i, h with
  | 0, h => exact h
  | 1, h => exact h
  | 2, h => exact own_below h hb
  | 3, h => exact h
  | 4, h => obtain ⟨g, h1, h2, h3⟩ := h; exact ⟨g, h1, h2, (hb.block g (in_heap h3)).trans h3⟩
  | 5, h => exact own_below h hb
  | 6, h => exact h
  | 7, h => obtain ⟨v5, h1, h2⟩ := h; exact ⟨v5, own_below h1 hb, (hb.block o (in_heap h2)).trans h2⟩
  | _ + 8, h => trivial
theorem DaF.far (ho : o < base) (u : Value) (hi7 : i ≠ 7) (h : DaF o n c base A cs S hi lo f now su i v w) : DaF o n c base A cs S hi lo f now su i v (w.setCell ⟨o, 5, none⟩ u) := by
  match i, h with
  | 0, h => exact h
  | 1, h => exact h
  | 2, h => exact own_far h (p := ⟨o, 5, none⟩) ho u
  | 3, h => exact h
  | 4, h => obtain ⟨g, h1, h2, h3⟩ := h; exact ⟨g, h1, h2, (heap_setCell_other w ⟨o, 5, none⟩ g u (by simp; omega)).trans h3⟩
  | 5, h => exact own_far h (p := ⟨o, 5, none⟩) ho u
  | 6, h => exact h
  | 7, h => exact absurd rfl hi7
  | _ + 8, h => trivial
theorem DaF.other (hi7 : i ≠ 2 ∧ i ≠ 4 ∧ i ≠ 5 ∧ i ≠ 7) (h : DaF o n c base A cs S hi lo f now su i v w) : DaF o n c base A cs S hi lo f now su i v w' := by
  match i, h, hi7 with
  | 0, h, _ => exact h
  | 1, h, _ => exact h
  | 2, h, k => exact absurd rfl k.1
  | 3, h, _ => exact h
  | 4, h, k => exact absurd rfl k.2.1
  | 5, h, k => exact absurd rfl k.2.2.1
  | 6, h, _ => exact h
  | 7, h, k => exact absurd rfl k.2.2.2
  | _ + 8, h, _ => trivial
theorem DaG.keep {C : Obj} (hb : Below base w w') (ho : o < base) (h : DaG o C i w) : DaG o C i w' := by
  unfold DaG at *
  split
  · exact (hb.block o ho).trans h
  · trivial
end
theorem lcells_one (l : List Ls) : ∀ u ∈ l.flatMap Ls.cells, u.oneCell' = true := by
  intro u hu
  obtain ⟨x, _, hx⟩ := List.mem_flatMap.1 hu
  exact cells_one x u hx
theorem ten_one (hi lo x2 x3 : Int) (x4 x5 : ByteArray) (x6 x7 : Int) (x8 : Bool) (xA : Option Addr) (m xc : Nat) : ∀ u ∈ ([.int .u64 hi, .int .u64 lo, .int .u64 x2, .int .u64 x3, .string x4, .string x5, .int .i64 x6, .int .i64 x7, .bool x8, .slice xA m xc] : List Value), u.oneCell' = true := by
  intro u hu
  simp only [List.mem_cons, List.not_mem_nil, or_false] at hu
  rcases hu with rfl | rfl | rfl | rfl | rfl | rfl | rfl | rfl | rfl | rfl <;> rfl
theorem rd_row {w : World} {g : Nat} {S : List Value} (h : w.heap[g]? = some (.cells S.toArray 42 (0, 0))) : Rd w (g + 1) (some ⟨g, 0, none⟩) S := fun _ => ⟨_, rfl, Nat.lt_succ_self _, fun j u hu => by
  rw [Addr.add_lit, Nat.zero_add, cell_of_row _ _ _ _ _ (0, 0) h]
  simpa using hu⟩
set_option maxHeartbeats 16000000 in
theorem dadd_new (hi lo f la : Int) (su : Bool) (A : Option Addr) (l : List Ls) (n c : Nat) (x2 x3 : Int) (x4 x5 : ByteArray) (x6 x7 : Int) (x8 : Bool) (xA : Option Addr) (m xc : Nat) (now : Int) (B : Nat) (w : World)
    (hn : n = l.length) (hy : RdSps w B A l) (hB : B ≤ w.heap.size) (hl : n ≤ 100000) (hh : hasId (l.map Ls.s) x2 = false) :
    Calls Try.prog 45 #[.agg #[.int .u64 hi, .int .u64 lo, .int .i64 f, .int .i64 la, .bool su, .slice A n c], .agg #[.int .u64 hi, .int .u64 lo, .int .u64 x2, .int .u64 x3, .string x4, .string x5, .int .i64 x6, .int .i64 x7, .bool x8, .slice xA m xc], .int .i64 now] w fun e w' => ∃ g c', e = .returned (.tuple #[.agg #[.int .u64 hi, .int .u64 lo, .int .i64 f, .int .i64 now, .bool su, .slice (some ⟨g, 0, none⟩) (n + 1) c'], .bool true]) ∧ w'.ownsRow w.heap.size 42 10 (.slice (some ⟨g, 0, none⟩) (n + 1) c') (n + 1) (l.flatMap Ls.cells ++ [.int .u64 hi, .int .u64 lo, .int .u64 x2, .int .u64 x3, .string x4, .string x5, .int .i64 x6, .int .i64 x7, .bool x8, .slice xA m xc]) ∧ Below w.heap.size w w' := by
  have HN := Lib.hid hn
  have HY := Lib.hid hy
  have HHH := Lib.hid hh
  clear hn hy hh
  go_enter Try.func45, Try.ntmps45
  go_wp2_with fail
  go_loopw [8] (fun i wr => ∃ k : Nat, i = .int .i64 k ∧ k ≤ n ∧ Hid ((l.take k).any (fun x => x.s.id == x2) = false) ∧ Hid (wr.heap[w.heap.size]? = some (.cells #[.int .u64 hi, .int .u64 lo, .int .i64 f, .int .i64 now, .bool su, .slice A n c] 30)) ∧ Hid (wr.heap[w.heap.size + 1]? = some (.cells #[.int .u64 hi, .int .u64 lo, .int .u64 x2, .int .u64 x3, .string x4, .string x5, .int .i64 x6, .int .i64 x7, .bool x8, .slice xA m xc] 42)) ∧ Hid (wr.heap[w.heap.size + 1 + 1]? = some (.cells #[.int .u64 0, .int .u64 0, .int .i64 0, .int .i64 0, .bool false, .slice none 0 0] 30)) ∧ Hid (Below w.heap.size w wr)) (fun i _ => n - (intOf i).toNat)
  case atStart =>
    refine ⟨0, rfl, Nat.zero_le _, Lib.hid (by simp), Lib.hid ?_, Lib.hid ?_, Lib.hid ?_, Lib.hid ?_⟩
    · exact three0 w _ _ _
    · exact three1 w _ _ _
    · exact three2 w _ _ _
    · exact (((Below.refl _ _).alloc (Nat.le_refl _) _).alloc (by simp) _).alloc (by simp; omega) _
  case round =>
    obtain ⟨k, rfl, hk, HK, HE, HS, HZ, HB⟩ := hrel
    have e5 : wr.cell? ⟨w.heap.size, 5, none⟩ = some (.slice A n c) := cell_of_row _ _ 5 _ _ (0, 0) HE.out
    by_cases hlt : k < n
    · obtain ⟨x, hx⟩ : ∃ x, l[k]? = some x := ⟨_, List.getElem?_eq_getElem (by rw [← HN.out]; exact hlt)⟩
      have s2 : wr.cell? ⟨w.heap.size + 1, 2, none⟩ = some (.int .u64 x2) := cell_of_row _ _ 2 _ _ (0, 0) HS.out
      have e0 : wr.cell? ⟨w.heap.size, 0, none⟩ = some (.int .u64 hi) := cell_of_row _ _ 0 _ _ (0, 0) HE.out
      have z0 : wr.cell? ⟨w.heap.size + 1 + 1, 0, none⟩ = some (.int .u64 0) := cell_of_row _ _ 0 _ _ (0, 0) HZ.out
      have y0 : wr.frozen? ⟨w.heap.size + 1 + 1, 0, none⟩ = false := by simp [World.frozen?, HZ.out]
      have e1 : wr.cell? ⟨w.heap.size, 1, none⟩ = some (.int .u64 lo) := cell_of_row _ _ 1 _ _ (0, 0) HE.out
      have z1 : wr.cell? ⟨w.heap.size + 1 + 1, 1, none⟩ = some (.int .u64 0) := cell_of_row _ _ 1 _ _ (0, 0) HZ.out
      have y1 : wr.frozen? ⟨w.heap.size + 1 + 1, 1, none⟩ = false := by simp [World.frozen?, HZ.out]
      have e2 : wr.cell? ⟨w.heap.size, 2, none⟩ = some (.int .i64 f) := cell_of_row _ _ 2 _ _ (0, 0) HE.out
      have z2 : wr.cell? ⟨w.heap.size + 1 + 1, 2, none⟩ = some (.int .i64 0) := cell_of_row _ _ 2 _ _ (0, 0) HZ.out
      have y2 : wr.frozen? ⟨w.heap.size + 1 + 1, 2, none⟩ = false := by simp [World.frozen?, HZ.out]
      have e3 : wr.cell? ⟨w.heap.size, 3, none⟩ = some (.int .i64 now) := cell_of_row _ _ 3 _ _ (0, 0) HE.out
      have z3 : wr.cell? ⟨w.heap.size + 1 + 1, 3, none⟩ = some (.int .i64 0) := cell_of_row _ _ 3 _ _ (0, 0) HZ.out
      have y3 : wr.frozen? ⟨w.heap.size + 1 + 1, 3, none⟩ = false := by simp [World.frozen?, HZ.out]
      have e4 : wr.cell? ⟨w.heap.size, 4, none⟩ = some (.bool su) := cell_of_row _ _ 4 _ _ (0, 0) HE.out
      have z4 : wr.cell? ⟨w.heap.size + 1 + 1, 4, none⟩ = some (.bool false) := cell_of_row _ _ 4 _ _ (0, 0) HZ.out
      have y4 : wr.frozen? ⟨w.heap.size + 1 + 1, 4, none⟩ = false := by simp [World.frozen?, HZ.out]
      have e5 : wr.cell? ⟨w.heap.size, 5, none⟩ = some (.slice A n c) := cell_of_row _ _ 5 _ _ (0, 0) HE.out
      have z5 : wr.cell? ⟨w.heap.size + 1 + 1, 5, none⟩ = some (.slice none 0 0) := cell_of_row _ _ 5 _ _ (0, 0) HZ.out
      have y5 : wr.frozen? ⟨w.heap.size + 1 + 1, 5, none⟩ = false := by simp [World.frozen?, HZ.out]
      obtain ⟨a, ha, hab, hc, _⟩ := (HY.out.below (HB.out.mono hB)).at_ hx
      subst ha
      have HX := Lib.hid hx
      obtain ⟨⟨v0, v1, v2, v3, v4, v5, v6, v7, v8, vats⟩, vA, vc⟩ := x
      have c2 := cell_far (hc 2 _ rfl) (by omega)
      clear hc hx
      by_cases hid : v2 = x2
      · exfalso
        have h2 := HHH.out
        unfold hasId at h2
        rw [List.any_map, List.any_eq_false] at h2
        exact h2 _ (List.mem_of_getElem? HX.out) (by simpa using hid)
      · have q1 : (v2 == x2) = false := by simpa using hid
        have HK2 : Hid ((l.take (k + 1)).any (fun x => x.s.id == x2) = false) := Lib.hid (by rw [List.take_add_one, HX.out, List.any_append, HK.out]; simpa using hid)
        clear hid HK HX
        go_wp2_with fail
        go_quiet (fail)
        go_wp2_with fail
        go_roundw
        case rel => exact ⟨k + 1, by go_num, by omega, HK2, HE, HS, HZ, Lib.hid (drewND HB.out _)⟩
        case measure => simp [intOf]; omega
    · obtain rfl : k = n := by omega
      obtain ⟨W, hW⟩ : ∃ W, W = wr.drew := ⟨_, rfl⟩
      have hWr : Below w.heap.size wr W := by rw [hW]; exact ⟨rfl, rfl, rfl, Nat.le_refl _, fun _ _ => rfl⟩
      have HWS : Hid (W.heap[w.heap.size + 1]? = some (.cells #[.int .u64 hi, .int .u64 lo, .int .u64 x2, .int .u64 x3, .string x4, .string x5, .int .i64 x6, .int .i64 x7, .bool x8, .slice xA m xc] 42) ∧ W.heap[w.heap.size + 1 + 1]? = some (.cells #[.int .u64 0, .int .u64 0, .int .i64 0, .int .i64 0, .bool false, .slice none 0 0] 30)) := Lib.hid (by rw [hW]; exact ⟨HS.out, HZ.out⟩)
      have HWE : Hid (W.heap[w.heap.size]? = some (.cells #[.int .u64 hi, .int .u64 lo, .int .i64 f, .int .i64 now, .bool su, .slice A k c] 30)) := Lib.hid (by rw [hW]; exact HE.out)
      have hbl2 : w.heap.size + 1 + 1 < W.heap.size := in_heap HWS.out.2
      have hbl1 : w.heap.size + 1 < W.heap.size := by omega
      have hbl0 : w.heap.size < W.heap.size := by omega
      have hbo : w.heap.size ≤ W.heap.size := by omega
      have HWB : Hid (Below w.heap.size w W) := Lib.hid (HB.out.trans hWr)
      have hn1 : k ≤ 100000 := hl
      have HYW : Hid (RdSps W B A l) := Lib.hid (HY.out.below (HWB.out.mono hB))
      clear HY
      have HY := HYW
      have HSZ : Hid (∀ w3 : World, Below w.heap.size W w3 → (w3.heap[w.heap.size + 1]? = some (.cells #[.int .u64 hi, .int .u64 lo, .int .u64 x2, .int .u64 x3, .string x4, .string x5, .int .i64 x6, .int .i64 x7, .bool x8, .slice xA m xc] 42) ∧ w3.heap[w.heap.size + 1 + 1]? = some (.cells #[.int .u64 0, .int .u64 0, .int .i64 0, .int .i64 0, .bool false, .slice none 0 0] 30)) → w.heap.size < w3.heap.size ∧ W.heap.size ≤ w3.heap.size) := Lib.hid (fun w3 h _ => ⟨Nat.lt_of_lt_of_le hbl0 h.size, h.size⟩)
      clear HK HE HS HZ HB hlt hk hWr
      go_wp2_with fail
      refine PI.wp_region_persG (R := Below w.heap.size) (G := (DaG w.heap.size (.cells #[.int .u64 hi, .int .u64 lo, .int .i64 f, .int .i64 now, .bool su, .slice A k c] 30))) (I := (fun _ _ w' => w'.heap[w.heap.size + 1]? = some (.cells #[.int .u64 hi, .int .u64 lo, .int .u64 x2, .int .u64 x3, .string x4, .string x5, .int .i64 x6, .int .i64 x7, .bool x8, .slice xA m xc] 42) ∧ w'.heap[w.heap.size + 1 + 1]? = some (.cells #[.int .u64 0, .int .u64 0, .int .i64 0, .int .i64 0, .bool false, .slice none 0 0] 30))) [(1, 0), (2, 1), (4, 3), (5, 2), (5, 4), (7, 5), (7, 6)] [7] (by kernel_rfl) (PI.formed_of (by kernel_rfl)) ⟨fun w => Below.refl _ w, fun _ _ _ h k => h.trans k⟩ (by rw [← hW]; intro q; unfold DaG; split <;> first | exact HWE.out | trivial) (DaF w.heap.size k c W.heap.size A (l.flatMap Ls.cells) [.int .u64 hi, .int .u64 lo, .int .u64 x2, .int .u64 x3, .string x4, .string x5, .int .i64 x6, .int .i64 x7, .bool x8, .slice xA m xc] hi lo f now su) (by rw [← hW]; exact HWS.out) ?_ ?_
      · rw [← hW]
        intro i o ho
        rcases i with _ | _ | _ | _ | _ | _ | _ | _ | i
        · obtain rfl := Option.some.inj (show some _ = some o from ho)
          refine PI.shown_val rfl fun a w3 L0 hr T => ?_
          have h1 : a.eval (.tmp 3) = .pointer (some ⟨w.heap.size, 0, none⟩) := T.was 3 (by kernel_rfl)
          exact ⟨.pointer (some ⟨w.heap.size, 5, none⟩), w3, by simp only [execOp, h1]; simp [go_sem], PI.Post.pure ⟨fun w => Below.refl _ w, fun _ _ _ h k => h.trans k⟩ rfl T.inv⟩
        · obtain rfl := Option.some.inj (show some _ = some o from ho)
          refine PI.shown_val rfl fun a w3 L0 hr T => ?_
          have h1 : a.eval (.tmp 34) = .pointer (some ⟨w.heap.size, 5, none⟩) := T.at_ 0 34 (by kernel_rfl) (by kernel_rfl) (by kernel_rfl)
          have hO : w3.heap[w.heap.size]? = some (.cells #[.int .u64 hi, .int .u64 lo, .int .i64 f, .int .i64 now, .bool su, .slice A k c] 30) := T.yet 7 (by kernel_rfl)
          have k5 : w3.cell? ⟨w.heap.size, 5, none⟩ = some (.slice A k c) := cell_of_row _ _ 5 _ _ (0, 0) hO
          exact ⟨.slice A k c, w3, by simp only [execOp, h1]; simp [go_sem, k5], PI.Post.pure ⟨fun w => Below.refl _ w, fun _ _ _ h k => h.trans k⟩ rfl T.inv⟩
        · obtain rfl := Option.some.inj (show some _ = some o from ho)
          refine PI.shown_val rfl fun a w3 L0 hr T => ?_
          have h1 : a.eval (.tmp 35) = .slice A k c := T.at_ 1 35 (by kernel_rfl) (by kernel_rfl) (by kernel_rfl)
          have h0 : a.eval (.const (.slice none 0 0)) = .slice none 0 0 := rfl
          have hz3 := HSZ.out w3 hr T.inv
          obtain ⟨i0, hi9, hz0, hz1, hz2⟩ := info_parts infoSp
          obtain ⟨v', w', r1, r2, r3⟩ := run_append_rd (P := Try.prog) w3 w3.heap.size 28 28 42 i0 _ 10 112 Try.underlying28 hi9 hz0 hz1 hz2 rfl (.slice none 0 0) 0 [] (World.ownsRow_nil _ _ _ _) B A k c (l.flatMap Ls.cells) (by rw [HN.out]; exact flatMap_len _ 10 cells_len l) (HY.out.below (hr.mono hB)).rd (lcells_one l) (by unfold maxLen; omega) (by omega) (Nat.le_refl _)
          rw [List.nil_append, Nat.zero_add] at r2
          have hb4 := r3.new
          have hbW := hb4.mono hz3.2
          exact ⟨v', w', by simp only [execOp, resolve, invoke, builtin, Sem.run_bind, Sem.run_pure, Result.andThen_ok, List.map_toArray, List.map_cons, List.map_nil, h0, h1, r1], hbW.mono hbo, own_mono r2 hz3.2, fun _ _ h => h.keep hbW hbl0, fun j v _ _ _ _ h => h.below hb4, (hbW.block _ hbl1).trans T.inv.1, (hbW.block _ hbl2).trans T.inv.2⟩
        · obtain rfl := Option.some.inj (show some _ = some o from ho)
          refine PI.shown_val rfl fun a w3 L0 hr T => ?_
          have h1 : a.eval (.tmp 4) = .pointer (some ⟨w.heap.size + 1, 0, none⟩) := T.was 4 (by kernel_rfl)
          have hO := T.inv.1
          have k0 : w3.cell? ⟨w.heap.size + 1, 0, none⟩ = some (.int .u64 hi) := cell_of_row _ _ 0 _ _ (0, 0) hO
          have k1 : w3.cell? ⟨w.heap.size + 1, 1, none⟩ = some (.int .u64 lo) := cell_of_row _ _ 1 _ _ (0, 0) hO
          have k2 : w3.cell? ⟨w.heap.size + 1, 2, none⟩ = some (.int .u64 x2) := cell_of_row _ _ 2 _ _ (0, 0) hO
          have k3 : w3.cell? ⟨w.heap.size + 1, 3, none⟩ = some (.int .u64 x3) := cell_of_row _ _ 3 _ _ (0, 0) hO
          have k4 : w3.cell? ⟨w.heap.size + 1, 4, none⟩ = some (.string x4) := cell_of_row _ _ 4 _ _ (0, 0) hO
          have k5 : w3.cell? ⟨w.heap.size + 1, 5, none⟩ = some (.string x5) := cell_of_row _ _ 5 _ _ (0, 0) hO
          have k6 : w3.cell? ⟨w.heap.size + 1, 6, none⟩ = some (.int .i64 x6) := cell_of_row _ _ 6 _ _ (0, 0) hO
          have k7 : w3.cell? ⟨w.heap.size + 1, 7, none⟩ = some (.int .i64 x7) := cell_of_row _ _ 7 _ _ (0, 0) hO
          have k8 : w3.cell? ⟨w.heap.size + 1, 8, none⟩ = some (.bool x8) := cell_of_row _ _ 8 _ _ (0, 0) hO
          have k9 : w3.cell? ⟨w.heap.size + 1, 9, none⟩ = some (.slice xA m xc) := cell_of_row _ _ 9 _ _ (0, 0) hO
          exact ⟨.agg #[.int .u64 hi, .int .u64 lo, .int .u64 x2, .int .u64 x3, .string x4, .string x5, .int .i64 x6, .int .i64 x7, .bool x8, .slice xA m xc], w3, by simp only [execOp, h1]; simp [go_sem, k0, k1, k2, k3, k4, k5, k6, k7, k8, k9], PI.Post.pure ⟨fun w => Below.refl _ w, fun _ _ _ h k => h.trans k⟩ rfl T.inv⟩
        · obtain rfl := Option.some.inj (show some _ = some o from ho)
          refine PI.shown_val rfl fun a w3 L0 hr T => ?_
          have h1 : a.eval (.tmp 37) = .agg #[.int .u64 hi, .int .u64 lo, .int .u64 x2, .int .u64 x3, .string x4, .string x5, .int .i64 x6, .int .i64 x7, .bool x8, .slice xA m xc] := T.at_ 3 37 (by kernel_rfl) (by kernel_rfl) (by kernel_rfl)
          have hz3 := HSZ.out w3 hr T.inv
          have hb4 : Below w3.heap.size w3 (w3.alloc (.cells #[.int .u64 hi, .int .u64 lo, .int .u64 x2, .int .u64 x3, .string x4, .string x5, .int .i64 x6, .int .i64 x7, .bool x8, .slice xA m xc] 42)) := (Below.refl _ _).alloc (Nat.le_refl _) _
          have hbW := hb4.mono hz3.2
          exact ⟨.slice (some ⟨w3.heap.size, 0, none⟩) 1 1, w3.alloc (.cells #[.int .u64 hi, .int .u64 lo, .int .u64 x2, .int .u64 x3, .string x4, .string x5, .int .i64 x6, .int .i64 x7, .bool x8, .slice xA m xc] 42), by simp only [execOp, List.map_toArray, List.map_cons, List.map_nil, h1]; simp [go_sem], hbW.mono hbo, ⟨_, rfl, hz3.1, heap_alloc_new w3 _⟩, fun _ _ h => h.keep hbW hbl0, fun j v _ _ _ _ h => h.below hb4, (hbW.block _ hbl1).trans T.inv.1, (hbW.block _ hbl2).trans T.inv.2⟩
        · obtain rfl := Option.some.inj (show some _ = some o from ho)
          refine PI.shown_val rfl fun a w3 L0 hr T => ?_
          have h1 : w3.ownsRow W.heap.size 42 10 (a.eval (.tmp 36)) k (l.flatMap Ls.cells) := T.at_ 2 36 (by kernel_rfl) (by kernel_rfl) (by kernel_rfl)
          obtain ⟨g, h2, hog, hgg⟩ : ∃ g, a.eval (.tmp 38) = .slice (some ⟨g, 0, none⟩) 1 1 ∧ w.heap.size < g ∧ w3.heap[g]? = some (.cells [.int .u64 hi, .int .u64 lo, .int .u64 x2, .int .u64 x3, .string x4, .string x5, .int .i64 x6, .int .i64 x7, .bool x8, .slice xA m xc].toArray 42 (0, 0)) := T.at_ 4 38 (by kernel_rfl) (by kernel_rfl) (by kernel_rfl)
          have hz3 := HSZ.out w3 hr T.inv
          obtain ⟨i0, hi9, hz0, hz1, hz2⟩ := info_parts infoSp
          obtain ⟨v', w', r1, r2, r3⟩ := run_append_rd (P := Try.prog) w3 W.heap.size 28 28 42 i0 _ 10 112 Try.underlying28 hi9 hz0 hz1 hz2 rfl (a.eval (.tmp 36)) k (l.flatMap Ls.cells) h1 (g + 1) (some ⟨g, 0, none⟩) 1 1 [.int .u64 hi, .int .u64 lo, .int .u64 x2, .int .u64 x3, .string x4, .string x5, .int .i64 x6, .int .i64 x7, .bool x8, .slice xA m xc] rfl (rd_row hgg) (ten_one _ _ _ _ _ _ _ _ _ _ _ _) (by unfold maxLen; omega) (by omega) hz3.2
          have hbW := r3.below (Below.refl _ _) hz3.2 (own_block_ge h1)
          refine ⟨v', w', by simp only [execOp, resolve, invoke, builtin, Sem.run_bind, Sem.run_pure, Result.andThen_ok, List.map_toArray, List.map_cons, List.map_nil, h2]; rw [r1, Result.andThen_ok], hbW.mono hbo, r2, fun _ _ h => h.keep hbW hbl0, fun j v hj hLj hnd hvj h => ?_, (hbW.block _ hbl1).trans T.inv.1, (hbW.block _ hbl2).trans T.inv.2⟩
          refine h.other ⟨fun e => ?_, fun e => ?_, fun e => hj e, fun e => ?_⟩
          · subst e; simp [PI.needB] at hnd
          · subst e; simp [PI.needB] at hnd
          · subst e
            have h7 := T.shut_ 7 5 (by kernel_rfl) hLj
            rw [T.yetNot] at h7
            cases h7
        · obtain rfl := Option.some.inj (show some _ = some o from ho)
          refine PI.shown_val rfl fun a w3 L0 hr T => ?_
          have h1 : a.eval (.tmp 3) = .pointer (some ⟨w.heap.size, 0, none⟩) := T.was 3 (by kernel_rfl)
          exact ⟨.pointer (some ⟨w.heap.size, 5, none⟩), w3, by simp only [execOp, h1]; simp [go_sem], PI.Post.pure ⟨fun w => Below.refl _ w, fun _ _ _ h k => h.trans k⟩ rfl T.inv⟩
        · obtain rfl := Option.some.inj (show some _ = some o from ho)
          refine PI.shown_skip rfl fun a w3 L0 hr T => ?_
          have h1 : a.eval (.tmp 40) = .pointer (some ⟨w.heap.size, 5, none⟩) := T.at_ 6 40 (by kernel_rfl) (by kernel_rfl) (by kernel_rfl)
          have h2 : w3.ownsRow W.heap.size 42 10 (a.eval (.tmp 39)) (k + 1) (l.flatMap Ls.cells ++ [.int .u64 hi, .int .u64 lo, .int .u64 x2, .int .u64 x3, .string x4, .string x5, .int .i64 x6, .int .i64 x7, .bool x8, .slice xA m xc]) := T.at_ 5 39 (by kernel_rfl) (by kernel_rfl) (by kernel_rfl)
          obtain ⟨g, cap, h3, _⟩ := h2.form (Nat.succ_pos _)
          rw [h3] at h2
          have hO : w3.heap[w.heap.size]? = some (.cells #[.int .u64 hi, .int .u64 lo, .int .i64 f, .int .i64 now, .bool su, .slice A k c] 30) := T.own
          have k5 : w3.cell? ⟨w.heap.size, 5, none⟩ = some (.slice A k c) := cell_of_row _ _ 5 _ _ (0, 0) hO
          have f5 : w3.frozen? ⟨w.heap.size, 5, none⟩ = false := by simp [World.frozen?, hO]
          refine ⟨w3.setCell ⟨w.heap.size, 5, none⟩ (.slice (some ⟨g, 0, none⟩) (k + 1) cap), by simp only [execOp, h1, h3]; simp [go_sem, k5, f5], Below.setCell (p := ⟨w.heap.size, 5, none⟩) (Below.refl _ _) (Nat.le_refl _) _, ⟨_, own_far h2 (p := ⟨w.heap.size, 5, none⟩) hbl0 _, ?_⟩, fun q hq hG => ?_, fun j v hj hLj hnd hvj h => h.far hbl0 _ hj, (heap_setCell_other w3 ⟨w.heap.size, 5, none⟩ _ _ (by simp)).trans T.inv.1, (heap_setCell_other w3 ⟨w.heap.size, 5, none⟩ _ _ (by simp <;> omega)).trans T.inv.2⟩
          · rw [heap_setCell_same _ _ _ _ _ _ hO]; rfl
          · unfold DaG at *
            split
            · exact absurd rfl hq
            · trivial
        · cases ho
      · rw [← hW]
        intro x w9 hr hf he hI
        obtain ⟨v7, h7⟩ := he 7 _ rfl rfl (by simp)
        obtain ⟨v5, h5, h8⟩ := h7
        obtain ⟨g, cap, h6, _⟩ := h5.form (Nat.succ_pos _)
        subst h6
        have hZ9 := hI.2
        have e0 : w9.cell? ⟨w.heap.size, 0, none⟩ = some (.int .u64 hi) := cell_of_row _ _ 0 _ _ (0, 0) h8
        have z0 : w9.cell? ⟨w.heap.size + 1 + 1, 0, none⟩ = some (.int .u64 0) := cell_of_row _ _ 0 _ _ (0, 0) hZ9
        have y0 : w9.frozen? ⟨w.heap.size + 1 + 1, 0, none⟩ = false := by simp [World.frozen?, hZ9]
        have e1 : w9.cell? ⟨w.heap.size, 1, none⟩ = some (.int .u64 lo) := cell_of_row _ _ 1 _ _ (0, 0) h8
        have z1 : w9.cell? ⟨w.heap.size + 1 + 1, 1, none⟩ = some (.int .u64 0) := cell_of_row _ _ 1 _ _ (0, 0) hZ9
        have y1 : w9.frozen? ⟨w.heap.size + 1 + 1, 1, none⟩ = false := by simp [World.frozen?, hZ9]
        have e2 : w9.cell? ⟨w.heap.size, 2, none⟩ = some (.int .i64 f) := cell_of_row _ _ 2 _ _ (0, 0) h8
        have z2 : w9.cell? ⟨w.heap.size + 1 + 1, 2, none⟩ = some (.int .i64 0) := cell_of_row _ _ 2 _ _ (0, 0) hZ9
        have y2 : w9.frozen? ⟨w.heap.size + 1 + 1, 2, none⟩ = false := by simp [World.frozen?, hZ9]
        have e3 : w9.cell? ⟨w.heap.size, 3, none⟩ = some (.int .i64 now) := cell_of_row _ _ 3 _ _ (0, 0) h8
        have z3 : w9.cell? ⟨w.heap.size + 1 + 1, 3, none⟩ = some (.int .i64 0) := cell_of_row _ _ 3 _ _ (0, 0) hZ9
        have y3 : w9.frozen? ⟨w.heap.size + 1 + 1, 3, none⟩ = false := by simp [World.frozen?, hZ9]
        have e4 : w9.cell? ⟨w.heap.size, 4, none⟩ = some (.bool su) := cell_of_row _ _ 4 _ _ (0, 0) h8
        have z4 : w9.cell? ⟨w.heap.size + 1 + 1, 4, none⟩ = some (.bool false) := cell_of_row _ _ 4 _ _ (0, 0) hZ9
        have y4 : w9.frozen? ⟨w.heap.size + 1 + 1, 4, none⟩ = false := by simp [World.frozen?, hZ9]
        have e5 : w9.cell? ⟨w.heap.size, 5, none⟩ = some (.slice (some ⟨g, 0, none⟩) (k + 1) cap) := cell_of_row _ _ 5 _ _ (0, 0) h8
        have z5 : w9.cell? ⟨w.heap.size + 1 + 1, 5, none⟩ = some (.slice none 0 0) := cell_of_row _ _ 5 _ _ (0, 0) hZ9
        have y5 : w9.frozen? ⟨w.heap.size + 1 + 1, 5, none⟩ = false := by simp [World.frozen?, hZ9]
        have HB9 := Lib.hid (HWB.out.trans hr)
        have H5 := Lib.hid h5
        clear h5 h8 hI hZ9 hf he hr
        simp only [PI.putAll, Act.put, List.setIfInBounds_toArray, List.set_cons_zero, List.set_cons_succ]
        go_wp2_with fail
        refine bodyPost_ret (v := .tuple #[.agg #[.int .u64 hi, .int .u64 lo, .int .i64 f, .int .i64 now, .bool su, .slice (some ⟨g, 0, none⟩) (k + 1) cap], .bool true]) (by simp [results, Try.results45, go_sem, z0, z1, z2, z3, z4, z5]) rfl ?_
        refine ⟨g, cap, rfl, ?_, ?_⟩
        · refine own_mono ?_ hbo
          repeat' (first | (with_reducible exact H5.out) | (refine own_far ?_ (by simp; try omega) _))
        · repeat' (first | (with_reducible exact HB9.out) | (refine Below.setCell ?_ (by simp; try omega) _))
end Go.Proofs.Ytenioeppmgmdiaa
