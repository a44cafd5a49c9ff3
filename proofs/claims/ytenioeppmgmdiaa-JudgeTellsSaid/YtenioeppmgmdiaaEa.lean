/- A span added to an episode. -/
import Derived.Test.YtenioeppmgmdiaaEc
import Derived.Laws.StructEq
import Derived.Deep.RegionHeld3
import Derived.Test.YtenioeppmgmdiaaBs
namespace Go.Proofs.Ytenioeppmgmdiaa
open Go.RowKit
set_option linter.unusedVariables false
set_option maxRecDepth 100000

theorem three0 (w : World) (A Y Z : Obj) : (((w.alloc A).alloc Y).alloc Z).heap[w.heap.size]? = some A := (heap_alloc_old _ Z (show w.heap.size < _ by simp <;> omega)).trans (two0 w A Y)
theorem three1 (w : World) (A Y Z : Obj) : (((w.alloc A).alloc Y).alloc Z).heap[w.heap.size + 1]? = some Y := (heap_alloc_old _ Z (show w.heap.size + 1 < _ by simp)).trans (two1 w A Y)
theorem three2 (w : World) (A Y Z : Obj) : (((w.alloc A).alloc Y).alloc Z).heap[w.heap.size + 1 + 1]? = some Z := by
  have := heap_alloc_new ((w.alloc A).alloc Y) Z
  simpa using this
/-- A block of another type is no row's. -/
theorem own_not {w : World} {base e size n k : Nat} {v : Value} {xs : List Value} (h : w.ownsRow base e size v n xs) {cs : Array Value} {t : TypeId} {fr : Nat × Nat} (hk : w.heap[k]? = some (.cells cs t fr)) (hne : t ≠ e) : v.ownBlock ≠ some k := by
  rcases h.2 with ⟨rfl, _⟩ | ⟨g, cap, cur, rfl, _, hg, _⟩
  · simp [Value.ownBlock]
  · simp only [Value.ownBlock]
    intro he
    injection he with he
    subst he
    rw [hg] at hk
    injection hk with hk
    injection hk with _ h2 _
    exact hne h2.symm
theorem own_else {w : World} {base e size n : Nat} {v : Value} {xs : List Value} (h : w.ownsRow base e size v n xs) {p : Addr} {cs : Array Value} {t : TypeId} {fr : Nat × Nat} (hk : w.heap[p.block]? = some (.cells cs t fr)) (hne : t ≠ e) (u : Value) : (w.setCell p u).ownsRow base e size v n xs :=
  h.kept (row := some p.block) ⟨rfl, rfl, rfl, by simp, fun k _ hk => Below.heap_setCell w p u k (fun e => hk (by rw [e]))⟩ (.inr (own_not h hk hne))
theorem OwnSps.else {w : World} {base : Nat} {v : Value} {l : List Ls} (h : OwnSps w base v l) {p : Addr} {cs : Array Value} {t : TypeId} {fr : Nat × Nat} (hk : w.heap[p.block]? = some (.cells cs t fr)) (h1 : t ≠ 42) (h2 : t ≠ 64) (u : Value) : OwnSps (w.setCell p u) base v l :=
  ⟨own_else h.own hk h1 u, fun x hx => ⟨own_else (h.each x hx).own hk h2 u, (h.each x hx).ok⟩⟩
/-- What Add hands back. -/
def AddEp (hi lo f la : Int) (su : Bool) (l : List Sp) (ok : Bool) (w : World) (e : Ending) (w' : World) : Prop :=
  ∃ (A : Option Addr) (n c : Nat) (l' : List Ls), e = .returned (.tuple #[.agg #[.int .u64 hi, .int .u64 lo, .int .i64 f, .int .i64 la, .bool su, .slice A n c], .bool ok]) ∧ n = l.length ∧ OwnSps w' w.heap.size (.slice A n c) l' ∧ l'.map Ls.s = l ∧ Below w.heap.size w w'

set_option maxHeartbeats 8000000 in
theorem add_other (hi lo f la : Int) (su : Bool) (A : Option Addr) (l : List Ls) (n c : Nat) (x0 x1 x2 x3 : Int) (x4 x5 : ByteArray) (x6 x7 : Int) (x8 : Bool) (xA : Option Addr) (m xc : Nat) (ats : List (ByteArray × ByteArray)) (now : Int) (B : Nat) (w : World)
    (hn : n = l.length) (hy : RdSps w B A l) (hm : m = ats.length) (hx : RdL w B ⟨⟨x0, x1, x2, x3, x4, x5, x6, x7, x8, ats⟩, xA, xc⟩) (hB : B ≤ w.heap.size) (hl : n ≤ 90000) (ha : ∀ x ∈ l, x.s.ats.length ≤ 100000) (hml : m ≤ 100000) (ht : ¬ (x0 = hi ∧ x1 = lo)) :
    Calls Try.prog 56 #[.agg #[.int .u64 hi, .int .u64 lo, .int .i64 f, .int .i64 la, .bool su, .slice A n c], .agg #[.int .u64 x0, .int .u64 x1, .int .u64 x2, .int .u64 x3, .string x4, .string x5, .int .i64 x6, .int .i64 x7, .bool x8, .slice xA m xc], .int .i64 now] w (AddEp hi lo f la su (l.map Ls.s) false w) := by
  have hzW : (((w.alloc (.cells #[.int .u64 hi, .int .u64 lo, .int .i64 f, .int .i64 la, .bool su, .slice A n c] 30)).alloc (.cells #[.int .u64 x0, .int .u64 x1, .int .u64 x2, .int .u64 x3, .string x4, .string x5, .int .i64 x6, .int .i64 x7, .bool x8, .slice xA m xc] 42)).alloc (.cells #[.int .u64 0, .int .u64 0, .int .i64 0, .int .i64 0, .bool false, .slice none 0 0] 30)).heap.size = w.heap.size + 3 := by simp
  have hBW : Hid (∀ w1, Below (((w.alloc (.cells #[.int .u64 hi, .int .u64 lo, .int .i64 f, .int .i64 la, .bool su, .slice A n c] 30)).alloc (.cells #[.int .u64 x0, .int .u64 x1, .int .u64 x2, .int .u64 x3, .string x4, .string x5, .int .i64 x6, .int .i64 x7, .bool x8, .slice xA m xc] 42)).alloc (.cells #[.int .u64 0, .int .u64 0, .int .i64 0, .int .i64 0, .bool false, .slice none 0 0] 30)).heap.size (((w.alloc (.cells #[.int .u64 hi, .int .u64 lo, .int .i64 f, .int .i64 la, .bool su, .slice A n c] 30)).alloc (.cells #[.int .u64 x0, .int .u64 x1, .int .u64 x2, .int .u64 x3, .string x4, .string x5, .int .i64 x6, .int .i64 x7, .bool x8, .slice xA m xc] 42)).alloc (.cells #[.int .u64 0, .int .u64 0, .int .i64 0, .int .i64 0, .bool false, .slice none 0 0] 30)) w1 → w1.heap[w.heap.size]? = some (.cells #[.int .u64 hi, .int .u64 lo, .int .i64 f, .int .i64 la, .bool su, .slice A n c] 30) ∧ w1.heap[w.heap.size + 1]? = some (.cells #[.int .u64 x0, .int .u64 x1, .int .u64 x2, .int .u64 x3, .string x4, .string x5, .int .i64 x6, .int .i64 x7, .bool x8, .slice xA m xc] 42) ∧ w1.heap[w.heap.size + 1 + 1]? = some (.cells #[.int .u64 0, .int .u64 0, .int .i64 0, .int .i64 0, .bool false, .slice none 0 0] 30) ∧ Below w.heap.size w w1 ∧ w.heap.size + 3 ≤ w1.heap.size) := Lib.hid (fun w1 hb => by
    have hs := hb.size
    rw [hzW] at hs
    exact ⟨(hb.block _ (by rw [hzW]; omega)).trans (three0 w _ _ _), (hb.block _ (by rw [hzW]; omega)).trans (three1 w _ _ _), (hb.block _ (by rw [hzW]; omega)).trans (three2 w _ _ _), ((((Below.refl _ _).alloc (Nat.le_refl _) _).alloc (by simp <;> omega) _).alloc (by simp <;> omega) _).trans (hb.mono (by rw [hzW]; omega)), hs⟩)
  have CP := Lib.hid (epcopy_any hi lo f la su A l n c B (((w.alloc (.cells #[.int .u64 hi, .int .u64 lo, .int .i64 f, .int .i64 la, .bool su, .slice A n c] 30)).alloc (.cells #[.int .u64 x0, .int .u64 x1, .int .u64 x2, .int .u64 x3, .string x4, .string x5, .int .i64 x6, .int .i64 x7, .bool x8, .slice xA m xc] 42)).alloc (.cells #[.int .u64 0, .int .u64 0, .int .i64 0, .int .i64 0, .bool false, .slice none 0 0] 30)) hn (hy.keep (fun p hp => ((World.cell?_alloc_lt _ _ p (by simp; omega)).trans (World.cell?_alloc_lt _ _ p (by simp; omega))).trans (World.cell?_alloc_lt _ _ p (by omega)))) (by rw [hzW]; omega) (by omega) ha)
  have HN := Lib.hid (show n = (l.map Ls.s).length by rw [List.length_map]; exact hn)
  have HZ := Lib.hid hzW
  have HY := Lib.hid hy
  have HNL := Lib.hid hn
  have HM := Lib.hid hm
  have HX := Lib.hid hx
  have hbt : (x0 == hi && x1 == lo) = false := by
    by_cases h1 : x0 = hi <;> by_cases h2 : x1 = lo <;> simp_all
  have hcc : ((x0 == hi) = false) ∨ ((x0 == hi) = true ∧ (x1 == lo) = false) := by
    by_cases h1 : x0 = hi
    · right; subst h1; simp at hbt ⊢; exact hbt
    · left; simpa using h1
  clear hzW hy hn ha hl hm hx hbt ht
  generalize l.map Ls.s = ls at *
  rcases hcc with h1 | ⟨h1, h2⟩
  all_goals
    go_enter Try.func56, Try.ntmps56
    go_wp2_with (go_at_call 40; (with_reducible refine (CP.out).mono ?_); rintro e w1 ⟨A1, n1, c1, l1, rfl, hn1, ho1, hm1, hb1⟩; rw [HZ.out] at ho1; obtain ⟨hO0, hO1, hO2, hB1, hz1'⟩ := hBW.out _ hb1; have s0 : w1.cell? ⟨w.heap.size + 1, 0, none⟩ = some (.int .u64 x0) := cell_of_row _ _ 0 _ _ (0, 0) hO1; have s1 : w1.cell? ⟨w.heap.size + 1, 1, none⟩ = some (.int .u64 x1) := cell_of_row _ _ 1 _ _ (0, 0) hO1; have s2 : w1.cell? ⟨w.heap.size + 1, 2, none⟩ = some (.int .u64 x2) := cell_of_row _ _ 2 _ _ (0, 0) hO1; have s3 : w1.cell? ⟨w.heap.size + 1, 3, none⟩ = some (.int .u64 x3) := cell_of_row _ _ 3 _ _ (0, 0) hO1; have s4 : w1.cell? ⟨w.heap.size + 1, 4, none⟩ = some (.string x4) := cell_of_row _ _ 4 _ _ (0, 0) hO1; have s5 : w1.cell? ⟨w.heap.size + 1, 5, none⟩ = some (.string x5) := cell_of_row _ _ 5 _ _ (0, 0) hO1; have s6 : w1.cell? ⟨w.heap.size + 1, 6, none⟩ = some (.int .i64 x6) := cell_of_row _ _ 6 _ _ (0, 0) hO1; have s7 : w1.cell? ⟨w.heap.size + 1, 7, none⟩ = some (.int .i64 x7) := cell_of_row _ _ 7 _ _ (0, 0) hO1; have s8 : w1.cell? ⟨w.heap.size + 1, 8, none⟩ = some (.bool x8) := cell_of_row _ _ 8 _ _ (0, 0) hO1; have s9 : w1.cell? ⟨w.heap.size + 1, 9, none⟩ = some (.slice xA m xc) := cell_of_row _ _ 9 _ _ (0, 0) hO1; have e0 : w1.cell? ⟨w.heap.size, 0, none⟩ = some (.int .u64 hi) := cell_of_row _ _ 0 _ _ (0, 0) hO0; have e1 : w1.cell? ⟨w.heap.size, 1, none⟩ = some (.int .u64 lo) := cell_of_row _ _ 1 _ _ (0, 0) hO0; have e5 : w1.cell? ⟨w.heap.size, 5, none⟩ = some (.slice A n c) := cell_of_row _ _ 5 _ _ (0, 0) hO0; have z0 : w1.cell? ⟨w.heap.size + 1 + 1, 0, none⟩ = some (.int .u64 0) := cell_of_row _ _ 0 _ _ (0, 0) hO2; have q0 : w1.frozen? ⟨w.heap.size + 1 + 1, 0, none⟩ = false := (by simp [World.frozen?, hO2]); have z1 : w1.cell? ⟨w.heap.size + 1 + 1, 1, none⟩ = some (.int .u64 0) := cell_of_row _ _ 1 _ _ (0, 0) hO2; have q1 : w1.frozen? ⟨w.heap.size + 1 + 1, 1, none⟩ = false := (by simp [World.frozen?, hO2]); have z2 : w1.cell? ⟨w.heap.size + 1 + 1, 2, none⟩ = some (.int .i64 0) := cell_of_row _ _ 2 _ _ (0, 0) hO2; have q2 : w1.frozen? ⟨w.heap.size + 1 + 1, 2, none⟩ = false := (by simp [World.frozen?, hO2]); have z3 : w1.cell? ⟨w.heap.size + 1 + 1, 3, none⟩ = some (.int .i64 0) := cell_of_row _ _ 3 _ _ (0, 0) hO2; have q3 : w1.frozen? ⟨w.heap.size + 1 + 1, 3, none⟩ = false := (by simp [World.frozen?, hO2]); have z4 : w1.cell? ⟨w.heap.size + 1 + 1, 4, none⟩ = some (.bool false) := cell_of_row _ _ 4 _ _ (0, 0) hO2; have q4 : w1.frozen? ⟨w.heap.size + 1 + 1, 4, none⟩ = false := (by simp [World.frozen?, hO2]); have z5 : w1.cell? ⟨w.heap.size + 1 + 1, 5, none⟩ = some (.slice none 0 0) := cell_of_row _ _ 5 _ _ (0, 0) hO2; have q5 : w1.frozen? ⟨w.heap.size + 1 + 1, 5, none⟩ = false := (by simp [World.frozen?, hO2]); have hlt0 : w.heap.size < w1.heap.size := (by omega); have hlt1 : w.heap.size + 1 < w1.heap.size := (by omega); have hlt2 : w.heap.size + 1 + 1 < w1.heap.size := (by omega); have HO1 := Lib.hid ho1; have HB1 := Lib.hid hB1; have HM1 := Lib.hid hm1; have HN1 := Lib.hid hn1; clear ho1 hb1 hB1 hm1 hn1 hO0 hO1 hO2)
    have LBc : Below w.heap.size w ((((((w1.setCell ⟨w.heap.size + 1 + 1, 0, none⟩ (.int .u64 hi)).setCell ⟨w.heap.size + 1 + 1, 1, none⟩ (.int .u64 lo)).setCell ⟨w.heap.size + 1 + 1, 2, none⟩ (.int .i64 f)).setCell ⟨w.heap.size + 1 + 1, 3, none⟩ (.int .i64 la)).setCell ⟨w.heap.size + 1 + 1, 4, none⟩ (.bool su)).setCell ⟨w.heap.size + 1 + 1, 5, none⟩ (.slice A1 n1 c1)) := by repeat' (first | (with_reducible exact HB1.out) | (refine Below.setCell ?_ (by simp; omega) _))
    have LOc : OwnSps ((((((w1.setCell ⟨w.heap.size + 1 + 1, 0, none⟩ (.int .u64 hi)).setCell ⟨w.heap.size + 1 + 1, 1, none⟩ (.int .u64 lo)).setCell ⟨w.heap.size + 1 + 1, 2, none⟩ (.int .i64 f)).setCell ⟨w.heap.size + 1 + 1, 3, none⟩ (.int .i64 la)).setCell ⟨w.heap.size + 1 + 1, 4, none⟩ (.bool su)).setCell ⟨w.heap.size + 1 + 1, 5, none⟩ (.slice A1 n1 c1)) (w.heap.size + 3) (.slice A1 n1 c1) l1 := by repeat' (first | (with_reducible exact HO1.out) | (refine OwnSps.far ?_ (by simp) _))
    have LB := LBc.alloc LBc.size (.cells #[.int .u64 hi, .int .u64 lo, .int .i64 f, .int .i64 la, .bool su, .slice A1 n1 c1] 30)
    have LO := LOc.below ((Below.refl _ _).alloc (Nat.le_refl _) (.cells #[.int .u64 hi, .int .u64 lo, .int .i64 f, .int .i64 la, .bool su, .slice A1 n1 c1] 30))
    clear LBc LOc
    refine bodyPost_ret (v := .tuple #[.agg #[.int .u64 hi, .int .u64 lo, .int .i64 f, .int .i64 la, .bool su, .slice A1 n1 c1], .bool false]) (by simp [results, Try.results56, go_sem, hlt2, z0, z1, z2, z3, z4, z5]) rfl ?_
    exact ⟨A1, n1, c1, l1, rfl, HN1.out, LO.mono (by omega), HM1.out, LB⟩

set_option maxHeartbeats 8000000 in
theorem add_had (hi lo f la : Int) (su : Bool) (A : Option Addr) (l : List Ls) (n c : Nat) (x2 x3 : Int) (x4 x5 : ByteArray) (x6 x7 : Int) (x8 : Bool) (xA : Option Addr) (m xc : Nat) (ats : List (ByteArray × ByteArray)) (now : Int) (B : Nat) (w : World)
    (hn : n = l.length) (hy : RdSps w B A l) (hm : m = ats.length) (hx : RdL w B ⟨⟨hi, lo, x2, x3, x4, x5, x6, x7, x8, ats⟩, xA, xc⟩) (hB : B ≤ w.heap.size) (hl : n ≤ 90000) (ha : ∀ x ∈ l, x.s.ats.length ≤ 100000) (hml : m ≤ 100000) (hh : hasId (l.map Ls.s) x2 = true) :
    Calls Try.prog 56 #[.agg #[.int .u64 hi, .int .u64 lo, .int .i64 f, .int .i64 la, .bool su, .slice A n c], .agg #[.int .u64 hi, .int .u64 lo, .int .u64 x2, .int .u64 x3, .string x4, .string x5, .int .i64 x6, .int .i64 x7, .bool x8, .slice xA m xc], .int .i64 now] w (AddEp hi lo f now su (l.map Ls.s) false w) := by
  have hzW : (((w.alloc (.cells #[.int .u64 hi, .int .u64 lo, .int .i64 f, .int .i64 la, .bool su, .slice A n c] 30)).alloc (.cells #[.int .u64 hi, .int .u64 lo, .int .u64 x2, .int .u64 x3, .string x4, .string x5, .int .i64 x6, .int .i64 x7, .bool x8, .slice xA m xc] 42)).alloc (.cells #[.int .u64 0, .int .u64 0, .int .i64 0, .int .i64 0, .bool false, .slice none 0 0] 30)).heap.size = w.heap.size + 3 := by simp
  have hBW : Hid (∀ w1, Below (((w.alloc (.cells #[.int .u64 hi, .int .u64 lo, .int .i64 f, .int .i64 la, .bool su, .slice A n c] 30)).alloc (.cells #[.int .u64 hi, .int .u64 lo, .int .u64 x2, .int .u64 x3, .string x4, .string x5, .int .i64 x6, .int .i64 x7, .bool x8, .slice xA m xc] 42)).alloc (.cells #[.int .u64 0, .int .u64 0, .int .i64 0, .int .i64 0, .bool false, .slice none 0 0] 30)).heap.size (((w.alloc (.cells #[.int .u64 hi, .int .u64 lo, .int .i64 f, .int .i64 la, .bool su, .slice A n c] 30)).alloc (.cells #[.int .u64 hi, .int .u64 lo, .int .u64 x2, .int .u64 x3, .string x4, .string x5, .int .i64 x6, .int .i64 x7, .bool x8, .slice xA m xc] 42)).alloc (.cells #[.int .u64 0, .int .u64 0, .int .i64 0, .int .i64 0, .bool false, .slice none 0 0] 30)) w1 → w1.heap[w.heap.size]? = some (.cells #[.int .u64 hi, .int .u64 lo, .int .i64 f, .int .i64 la, .bool su, .slice A n c] 30) ∧ w1.heap[w.heap.size + 1]? = some (.cells #[.int .u64 hi, .int .u64 lo, .int .u64 x2, .int .u64 x3, .string x4, .string x5, .int .i64 x6, .int .i64 x7, .bool x8, .slice xA m xc] 42) ∧ w1.heap[w.heap.size + 1 + 1]? = some (.cells #[.int .u64 0, .int .u64 0, .int .i64 0, .int .i64 0, .bool false, .slice none 0 0] 30) ∧ Below w.heap.size w w1 ∧ w.heap.size + 3 ≤ w1.heap.size) := Lib.hid (fun w1 hb => by
    have hs := hb.size
    rw [hzW] at hs
    exact ⟨(hb.block _ (by rw [hzW]; omega)).trans (three0 w _ _ _), (hb.block _ (by rw [hzW]; omega)).trans (three1 w _ _ _), (hb.block _ (by rw [hzW]; omega)).trans (three2 w _ _ _), ((((Below.refl _ _).alloc (Nat.le_refl _) _).alloc (by simp <;> omega) _).alloc (by simp <;> omega) _).trans (hb.mono (by rw [hzW]; omega)), hs⟩)
  have CP := Lib.hid (epcopy_any hi lo f la su A l n c B (((w.alloc (.cells #[.int .u64 hi, .int .u64 lo, .int .i64 f, .int .i64 la, .bool su, .slice A n c] 30)).alloc (.cells #[.int .u64 hi, .int .u64 lo, .int .u64 x2, .int .u64 x3, .string x4, .string x5, .int .i64 x6, .int .i64 x7, .bool x8, .slice xA m xc] 42)).alloc (.cells #[.int .u64 0, .int .u64 0, .int .i64 0, .int .i64 0, .bool false, .slice none 0 0] 30)) hn (hy.keep (fun p hp => ((World.cell?_alloc_lt _ _ p (by simp; omega)).trans (World.cell?_alloc_lt _ _ p (by simp; omega))).trans (World.cell?_alloc_lt _ _ p (by omega)))) (by rw [hzW]; omega) (by omega) ha)
  have HN := Lib.hid (show n = (l.map Ls.s).length by rw [List.length_map]; exact hn)
  have HZ := Lib.hid hzW
  have HY := Lib.hid hy
  have HNL := Lib.hid hn
  have HM := Lib.hid hm
  have HX := Lib.hid hx
  have HAS : ∀ w1 (A1 : Option Addr) (n1 c1 : Nat), Below w.heap.size w w1 → Calls Try.prog 62 #[.slice A n c, .int .u64 x2] (w1.alloc (.cells #[.int .u64 hi, .int .u64 lo, .int .i64 f, .int .i64 now, .bool su, .slice A1 n1 c1] 30)) fun e w' => e = .returned (.bool true) ∧ Below (w1.alloc (.cells #[.int .u64 hi, .int .u64 lo, .int .i64 f, .int .i64 now, .bool su, .slice A1 n1 c1] 30)).heap.size (w1.alloc (.cells #[.int .u64 hi, .int .u64 lo, .int .i64 f, .int .i64 now, .bool su, .slice A1 n1 c1] 30)) w' := fun w1 A1 n1 c1 hb => by
    have h := has_any A l n c B x2 (w1.alloc (.cells #[.int .u64 hi, .int .u64 lo, .int .i64 f, .int .i64 now, .bool su, .slice A1 n1 c1] 30)) HNL.out ((HY.out.below (hb.mono hB)).below ((Below.refl _ _).alloc (Nat.le_trans hB hb.size) _)) (Nat.le_trans (Nat.le_trans hB hb.size) (by simp)) (by omega)
    rw [hh] at h
    exact h
  clear hzW hy hn ha hl hm hx hh
  generalize l.map Ls.s = ls at *
  go_enter Try.func56, Try.ntmps56
  go_wp2_with (first
    | (go_at_call 40; (with_reducible refine (CP.out).mono ?_); rintro e w1 ⟨A1, n1, c1, l1, rfl, hn1, ho1, hm1, hb1⟩; rw [HZ.out] at ho1; obtain ⟨hO0, hO1, hO2, hB1, hz1'⟩ := hBW.out _ hb1; have s0 : w1.cell? ⟨w.heap.size + 1, 0, none⟩ = some (.int .u64 hi) := cell_of_row _ _ 0 _ _ (0, 0) hO1; have s1 : w1.cell? ⟨w.heap.size + 1, 1, none⟩ = some (.int .u64 lo) := cell_of_row _ _ 1 _ _ (0, 0) hO1; have s2 : w1.cell? ⟨w.heap.size + 1, 2, none⟩ = some (.int .u64 x2) := cell_of_row _ _ 2 _ _ (0, 0) hO1; have s3 : w1.cell? ⟨w.heap.size + 1, 3, none⟩ = some (.int .u64 x3) := cell_of_row _ _ 3 _ _ (0, 0) hO1; have s4 : w1.cell? ⟨w.heap.size + 1, 4, none⟩ = some (.string x4) := cell_of_row _ _ 4 _ _ (0, 0) hO1; have s5 : w1.cell? ⟨w.heap.size + 1, 5, none⟩ = some (.string x5) := cell_of_row _ _ 5 _ _ (0, 0) hO1; have s6 : w1.cell? ⟨w.heap.size + 1, 6, none⟩ = some (.int .i64 x6) := cell_of_row _ _ 6 _ _ (0, 0) hO1; have s7 : w1.cell? ⟨w.heap.size + 1, 7, none⟩ = some (.int .i64 x7) := cell_of_row _ _ 7 _ _ (0, 0) hO1; have s8 : w1.cell? ⟨w.heap.size + 1, 8, none⟩ = some (.bool x8) := cell_of_row _ _ 8 _ _ (0, 0) hO1; have s9 : w1.cell? ⟨w.heap.size + 1, 9, none⟩ = some (.slice xA m xc) := cell_of_row _ _ 9 _ _ (0, 0) hO1; have e0 : w1.cell? ⟨w.heap.size, 0, none⟩ = some (.int .u64 hi) := cell_of_row _ _ 0 _ _ (0, 0) hO0; have e1 : w1.cell? ⟨w.heap.size, 1, none⟩ = some (.int .u64 lo) := cell_of_row _ _ 1 _ _ (0, 0) hO0; have e5 : w1.cell? ⟨w.heap.size, 5, none⟩ = some (.slice A n c) := cell_of_row _ _ 5 _ _ (0, 0) hO0; have z0 : w1.cell? ⟨w.heap.size + 1 + 1, 0, none⟩ = some (.int .u64 0) := cell_of_row _ _ 0 _ _ (0, 0) hO2; have q0 : w1.frozen? ⟨w.heap.size + 1 + 1, 0, none⟩ = false := (by simp [World.frozen?, hO2]); have z1 : w1.cell? ⟨w.heap.size + 1 + 1, 1, none⟩ = some (.int .u64 0) := cell_of_row _ _ 1 _ _ (0, 0) hO2; have q1 : w1.frozen? ⟨w.heap.size + 1 + 1, 1, none⟩ = false := (by simp [World.frozen?, hO2]); have z2 : w1.cell? ⟨w.heap.size + 1 + 1, 2, none⟩ = some (.int .i64 0) := cell_of_row _ _ 2 _ _ (0, 0) hO2; have q2 : w1.frozen? ⟨w.heap.size + 1 + 1, 2, none⟩ = false := (by simp [World.frozen?, hO2]); have z3 : w1.cell? ⟨w.heap.size + 1 + 1, 3, none⟩ = some (.int .i64 0) := cell_of_row _ _ 3 _ _ (0, 0) hO2; have q3 : w1.frozen? ⟨w.heap.size + 1 + 1, 3, none⟩ = false := (by simp [World.frozen?, hO2]); have z4 : w1.cell? ⟨w.heap.size + 1 + 1, 4, none⟩ = some (.bool false) := cell_of_row _ _ 4 _ _ (0, 0) hO2; have q4 : w1.frozen? ⟨w.heap.size + 1 + 1, 4, none⟩ = false := (by simp [World.frozen?, hO2]); have z5 : w1.cell? ⟨w.heap.size + 1 + 1, 5, none⟩ = some (.slice none 0 0) := cell_of_row _ _ 5 _ _ (0, 0) hO2; have q5 : w1.frozen? ⟨w.heap.size + 1 + 1, 5, none⟩ = false := (by simp [World.frozen?, hO2]); have hlt0 : w.heap.size < w1.heap.size := (by omega); have hlt1 : w.heap.size + 1 < w1.heap.size := (by omega); have hlt2 : w.heap.size + 1 + 1 < w1.heap.size := (by omega); have HO1 := Lib.hid ho1; have HB1 := Lib.hid hB1; have HM1 := Lib.hid hm1; have HN1 := Lib.hid hn1; have HZ2 := Lib.hid hO2; have HS2 := Lib.hid hO1; have HHA := Lib.hid (HAS w1 A1 n1 c1 HB1.out); clear ho1 hb1 hB1 hm1 hn1 hO0 hO1 hO2)
    | (go_at_call 62; (with_reducible refine (HHA.out).mono ?_); rintro e w2 ⟨rfl, hb2⟩; have hOO : w2.heap[w1.heap.size]? = some (.cells #[.int .u64 hi, .int .u64 lo, .int .i64 f, .int .i64 now, .bool su, .slice A1 n1 c1] 30) := (hb2.block _ (by simp)).trans (heap_alloc_new w1 _); have hUU : w2.heap[w.heap.size + 1 + 1]? = some (.cells #[.int .u64 0, .int .u64 0, .int .i64 0, .int .i64 0, .bool false, .slice none 0 0] 30) := (hb2.block _ (by simp; omega)).trans ((heap_alloc_old w1 _ hlt2).trans HZ2.out); have o0 : w2.cell? ⟨w1.heap.size, 0, none⟩ = some (.int .u64 hi) := cell_of_row _ _ 0 _ _ (0, 0) hOO; have u0 : w2.cell? ⟨w.heap.size + 1 + 1, 0, none⟩ = some (.int .u64 0) := cell_of_row _ _ 0 _ _ (0, 0) hUU; have p0 : w2.frozen? ⟨w.heap.size + 1 + 1, 0, none⟩ = false := (by simp [World.frozen?, hUU]); have o1 : w2.cell? ⟨w1.heap.size, 1, none⟩ = some (.int .u64 lo) := cell_of_row _ _ 1 _ _ (0, 0) hOO; have u1 : w2.cell? ⟨w.heap.size + 1 + 1, 1, none⟩ = some (.int .u64 0) := cell_of_row _ _ 1 _ _ (0, 0) hUU; have p1 : w2.frozen? ⟨w.heap.size + 1 + 1, 1, none⟩ = false := (by simp [World.frozen?, hUU]); have o2 : w2.cell? ⟨w1.heap.size, 2, none⟩ = some (.int .i64 f) := cell_of_row _ _ 2 _ _ (0, 0) hOO; have u2 : w2.cell? ⟨w.heap.size + 1 + 1, 2, none⟩ = some (.int .i64 0) := cell_of_row _ _ 2 _ _ (0, 0) hUU; have p2 : w2.frozen? ⟨w.heap.size + 1 + 1, 2, none⟩ = false := (by simp [World.frozen?, hUU]); have o3 : w2.cell? ⟨w1.heap.size, 3, none⟩ = some (.int .i64 now) := cell_of_row _ _ 3 _ _ (0, 0) hOO; have u3 : w2.cell? ⟨w.heap.size + 1 + 1, 3, none⟩ = some (.int .i64 0) := cell_of_row _ _ 3 _ _ (0, 0) hUU; have p3 : w2.frozen? ⟨w.heap.size + 1 + 1, 3, none⟩ = false := (by simp [World.frozen?, hUU]); have o4 : w2.cell? ⟨w1.heap.size, 4, none⟩ = some (.bool su) := cell_of_row _ _ 4 _ _ (0, 0) hOO; have u4 : w2.cell? ⟨w.heap.size + 1 + 1, 4, none⟩ = some (.bool false) := cell_of_row _ _ 4 _ _ (0, 0) hUU; have p4 : w2.frozen? ⟨w.heap.size + 1 + 1, 4, none⟩ = false := (by simp [World.frozen?, hUU]); have o5 : w2.cell? ⟨w1.heap.size, 5, none⟩ = some (.slice A1 n1 c1) := cell_of_row _ _ 5 _ _ (0, 0) hOO; have u5 : w2.cell? ⟨w.heap.size + 1 + 1, 5, none⟩ = some (.slice none 0 0) := cell_of_row _ _ 5 _ _ (0, 0) hUU; have p5 : w2.frozen? ⟨w.heap.size + 1 + 1, 5, none⟩ = false := (by simp [World.frozen?, hUU]); have hzz : w1.heap.size < w2.heap.size := (by have h := hb2.size; simp at h; omega); have HB2 := Lib.hid (hb2.mono (Nat.le_of_lt (show w1.heap.size < (w1.alloc (.cells #[.int .u64 hi, .int .u64 lo, .int .i64 f, .int .i64 now, .bool su, .slice A1 n1 c1] 30)).heap.size by simp))); have HBZ := Lib.hid ((HB1.out.alloc HB1.out.size (.cells #[.int .u64 hi, .int .u64 lo, .int .i64 f, .int .i64 now, .bool su, .slice A1 n1 c1] 30)).trans (hb2.mono (by simp; omega))); have HO2 := Lib.hid (HO1.out.below (((Below.refl _ _).alloc (Nat.le_refl _) _).trans HB2.out)); clear hb2 hOO hUU))
  have LBc : Below w.heap.size w ((((((w2.setCell ⟨w.heap.size + 1 + 1, 0, none⟩ (.int .u64 hi)).setCell ⟨w.heap.size + 1 + 1, 1, none⟩ (.int .u64 lo)).setCell ⟨w.heap.size + 1 + 1, 2, none⟩ (.int .i64 f)).setCell ⟨w.heap.size + 1 + 1, 3, none⟩ (.int .i64 now)).setCell ⟨w.heap.size + 1 + 1, 4, none⟩ (.bool su)).setCell ⟨w.heap.size + 1 + 1, 5, none⟩ (.slice A1 n1 c1)) := by repeat' (first | (with_reducible exact HBZ.out) | (refine Below.setCell ?_ (by simp; omega) _))
  have LOc : OwnSps ((((((w2.setCell ⟨w.heap.size + 1 + 1, 0, none⟩ (.int .u64 hi)).setCell ⟨w.heap.size + 1 + 1, 1, none⟩ (.int .u64 lo)).setCell ⟨w.heap.size + 1 + 1, 2, none⟩ (.int .i64 f)).setCell ⟨w.heap.size + 1 + 1, 3, none⟩ (.int .i64 now)).setCell ⟨w.heap.size + 1 + 1, 4, none⟩ (.bool su)).setCell ⟨w.heap.size + 1 + 1, 5, none⟩ (.slice A1 n1 c1)) (w.heap.size + 3) (.slice A1 n1 c1) l1 := by repeat' (first | (with_reducible exact HO2.out) | (refine OwnSps.far ?_ (by simp) _))
  refine bodyPost_ret (v := .tuple #[.agg #[.int .u64 hi, .int .u64 lo, .int .i64 f, .int .i64 now, .bool su, .slice A1 n1 c1], .bool false]) (by simp [results, Try.results56, go_sem, u0, u1, u2, u3, u4, u5]) rfl ?_
  exact ⟨A1, n1, c1, l1, rfl, HN1.out, LOc.mono (by omega), HM1.out, LBc⟩

/-- What each operation of Add's last statement leaves. -/
def AF (hi lo f now : Int) (su : Bool) (x2 x3 : Int) (x4 x5 : ByteArray) (x6 x7 : Int) (x8 : Bool) (xA : Option Addr) (m xc : Nat) (ats : List (ByteArray × ByteArray)) (A1 : Option Addr) (n1 c1 o base : Nat) (l1 : List Ls) : Nat → Value → World → Prop
  | 0, v, _ => v = .pointer (some ⟨o, 5, none⟩)
  | 1, v, _ => v = .slice A1 n1 c1
  | 2, v, _ => v = .agg #[.int .u64 hi, .int .u64 lo, .int .u64 x2, .int .u64 x3, .string x4, .string x5, .int .i64 x6, .int .i64 x7, .bool x8, .slice xA m xc]
  | 3, v, w => ∃ A2 c2, v = .agg #[.int .u64 hi, .int .u64 lo, .int .u64 x2, .int .u64 x3, .string x4, .string x5, .int .i64 x6, .int .i64 x7, .bool x8, .slice A2 m c2] ∧ OwnL w base ⟨⟨hi, lo, x2, x3, x4, x5, x6, x7, x8, ats⟩, A2, c2⟩
  | 4, v, w => ∃ A2 c2 g, v = .slice (some ⟨g, 0, none⟩) 1 1 ∧ OwnL w base ⟨⟨hi, lo, x2, x3, x4, x5, x6, x7, x8, ats⟩, A2, c2⟩ ∧ Rd w (g + 1) (some ⟨g, 0, none⟩) (Ls.mk ⟨hi, lo, x2, x3, x4, x5, x6, x7, x8, ats⟩ A2 c2).cells ∧ g < w.heap.size ∧ o < g ∧ (Value.slice A1 n1 c1).ownBlock ≠ some g
  | 5, v, w => ∃ A5 c5 n5 A2 c2, v = .slice A5 n5 c5 ∧ n5 = n1 + 1 ∧ OwnSps w base v (l1 ++ [⟨⟨hi, lo, x2, x3, x4, x5, x6, x7, x8, ats⟩, A2, c2⟩])
  | 6, v, _ => v = .pointer (some ⟨o, 5, none⟩)
  | 7, _, w => ∃ A5 c5 n5 A2 c2, n5 = n1 + 1 ∧ OwnSps w base (.slice A5 n5 c5) (l1 ++ [⟨⟨hi, lo, x2, x3, x4, x5, x6, x7, x8, ats⟩, A2, c2⟩]) ∧ w.heap[o]? = some (.cells #[.int .u64 hi, .int .u64 lo, .int .i64 f, .int .i64 now, .bool su, .slice A5 n5 c5] 30)
  | _, _, _ => True
/-- What holds till the append, and till the store. -/
def AG (hi lo f now : Int) (su : Bool) (x2 x3 : Int) (x4 x5 : ByteArray) (x6 x7 : Int) (x8 : Bool) (xA : Option Addr) (m xc : Nat) (ats : List (ByteArray × ByteArray)) (A1 : Option Addr) (n1 c1 o base : Nat) (l1 : List Ls) : Nat → World → Prop
  | 5, w => OwnSps w base (.slice A1 n1 c1) l1
  | 7, w => w.heap[o]? = some (.cells #[.int .u64 hi, .int .u64 lo, .int .i64 f, .int .i64 now, .bool su, .slice A1 n1 c1] 30)
  | _, _ => True
theorem in_heap {w : World} {k : Nat} {b : Obj} (h : w.heap[k]? = some b) : k < w.heap.size := (Array.getElem?_eq_some_iff.1 h).1
theorem Rd.block {w w' : World} {g : Nat} {xs : List Value} (h : Rd w (g + 1) (some ⟨g, 0, none⟩) xs) (he : w'.heap[g]? = w.heap[g]?) : Rd w' (g + 1) (some ⟨g, 0, none⟩) xs := fun hn => by
  obtain ⟨a, ha, hb, hc⟩ := h hn
  injection ha with ha
  subst ha
  exact ⟨_, rfl, hb, fun j u hu => (World.cell?_of_block (by rw [block_add]; exact he)).trans (hc j u hu)⟩
section
variable {hi lo f now : Int} {su : Bool} {x2 x3 : Int} {x4 x5 : ByteArray} {x6 x7 : Int} {x8 : Bool} {xA : Option Addr} {m xc : Nat} {ats : List (ByteArray × ByteArray)} {A1 : Option Addr} {n1 c1 o base : Nat} {l1 : List Ls} {w w' : World}
theorem AF.below {i : Nat} {v : Value} (h : AF hi lo f now su x2 x3 x4 x5 x6 x7 x8 xA m xc ats A1 n1 c1 o base l1 i v w) (hb : Below w.heap.size w w') : AF hi lo f now su x2 x3 x4 x5 x6 x7 x8 xA m xc ats A1 n1 c1 o base l1 i v w' := by
  match i, h with
  | 0, h => exact h
  | 1, h => exact h
  | 2, h => exact h
  | 3, h => obtain ⟨A2, c2, h1, h2⟩ := h; exact ⟨A2, c2, h1, h2.below hb⟩
  | 4, h => obtain ⟨A2, c2, g, h1, h2, h3, h4, h5, h6⟩ := h; exact ⟨A2, c2, g, h1, h2.below hb, h3.block (hb.block g h4), Nat.lt_of_lt_of_le h4 hb.size, h5, h6⟩
  | 5, h => obtain ⟨A5, c5, n5, A2, c2, h1, h2, h3⟩ := h; exact ⟨A5, c5, n5, A2, c2, h1, h2, h3.below hb⟩
  | 6, h => exact h
  | 7, h => obtain ⟨A5, c5, n5, A2, c2, h2, h3, h4⟩ := h; exact ⟨A5, c5, n5, A2, c2, h2, h3.below hb, (hb.block o (in_heap h4)).trans h4⟩
  | _ + 8, h => trivial
theorem AG.below {i : Nat} (h : AG hi lo f now su x2 x3 x4 x5 x6 x7 x8 xA m xc ats A1 n1 c1 o base l1 i w) (hb : Below w.heap.size w w') : AG hi lo f now su x2 x3 x4 x5 x6 x7 x8 xA m xc ats A1 n1 c1 o base l1 i w' := by
  unfold AG at *
  split
  · exact OwnSps.below h hb
  · exact (hb.block o (in_heap h)).trans h
  · trivial
theorem post_below {ops : Array Oper} {i : Nat} {v : Value} (hbase : base ≤ w.heap.size) (hb : Below w.heap.size w w') (h : AF hi lo f now su x2 x3 x4 x5 x6 x7 x8 xA m xc ats A1 n1 c1 o base l1 i v w') :
    PG.Post ops (Below base) (AG hi lo f now su x2 x3 x4 x5 x6 x7 x8 xA m xc ats A1 n1 c1 o base l1) (AF hi lo f now su x2 x3 x4 x5 x6 x7 x8 xA m xc ats A1 n1 c1 o base l1) i w v w' := ⟨hb.mono hbase, h, fun _ _ h => h.below hb, fun _ _ _ _ h => h.below hb⟩
end

set_option maxHeartbeats 8000000 in
theorem add_new (hi lo f la : Int) (su : Bool) (A : Option Addr) (l : List Ls) (n c : Nat) (x2 x3 : Int) (x4 x5 : ByteArray) (x6 x7 : Int) (x8 : Bool) (xA : Option Addr) (m xc : Nat) (ats : List (ByteArray × ByteArray)) (now : Int) (B : Nat) (w : World)
    (hn : n = l.length) (hy : RdSps w B A l) (hm : m = ats.length) (hx : RdL w B ⟨⟨hi, lo, x2, x3, x4, x5, x6, x7, x8, ats⟩, xA, xc⟩) (hB : B ≤ w.heap.size) (hl : n ≤ 90000) (ha : ∀ x ∈ l, x.s.ats.length ≤ 100000) (hml : m ≤ 100000) (hh : hasId (l.map Ls.s) x2 = false) :
    Calls Try.prog 56 #[.agg #[.int .u64 hi, .int .u64 lo, .int .i64 f, .int .i64 la, .bool su, .slice A n c], .agg #[.int .u64 hi, .int .u64 lo, .int .u64 x2, .int .u64 x3, .string x4, .string x5, .int .i64 x6, .int .i64 x7, .bool x8, .slice xA m xc], .int .i64 now] w (AddEp hi lo f now su (l.map Ls.s ++ [⟨hi, lo, x2, x3, x4, x5, x6, x7, x8, ats⟩]) true w) := by
  have hzW : (((w.alloc (.cells #[.int .u64 hi, .int .u64 lo, .int .i64 f, .int .i64 la, .bool su, .slice A n c] 30)).alloc (.cells #[.int .u64 hi, .int .u64 lo, .int .u64 x2, .int .u64 x3, .string x4, .string x5, .int .i64 x6, .int .i64 x7, .bool x8, .slice xA m xc] 42)).alloc (.cells #[.int .u64 0, .int .u64 0, .int .i64 0, .int .i64 0, .bool false, .slice none 0 0] 30)).heap.size = w.heap.size + 3 := by simp
  have hBW : Hid (∀ w1, Below (((w.alloc (.cells #[.int .u64 hi, .int .u64 lo, .int .i64 f, .int .i64 la, .bool su, .slice A n c] 30)).alloc (.cells #[.int .u64 hi, .int .u64 lo, .int .u64 x2, .int .u64 x3, .string x4, .string x5, .int .i64 x6, .int .i64 x7, .bool x8, .slice xA m xc] 42)).alloc (.cells #[.int .u64 0, .int .u64 0, .int .i64 0, .int .i64 0, .bool false, .slice none 0 0] 30)).heap.size (((w.alloc (.cells #[.int .u64 hi, .int .u64 lo, .int .i64 f, .int .i64 la, .bool su, .slice A n c] 30)).alloc (.cells #[.int .u64 hi, .int .u64 lo, .int .u64 x2, .int .u64 x3, .string x4, .string x5, .int .i64 x6, .int .i64 x7, .bool x8, .slice xA m xc] 42)).alloc (.cells #[.int .u64 0, .int .u64 0, .int .i64 0, .int .i64 0, .bool false, .slice none 0 0] 30)) w1 → w1.heap[w.heap.size]? = some (.cells #[.int .u64 hi, .int .u64 lo, .int .i64 f, .int .i64 la, .bool su, .slice A n c] 30) ∧ w1.heap[w.heap.size + 1]? = some (.cells #[.int .u64 hi, .int .u64 lo, .int .u64 x2, .int .u64 x3, .string x4, .string x5, .int .i64 x6, .int .i64 x7, .bool x8, .slice xA m xc] 42) ∧ w1.heap[w.heap.size + 1 + 1]? = some (.cells #[.int .u64 0, .int .u64 0, .int .i64 0, .int .i64 0, .bool false, .slice none 0 0] 30) ∧ Below w.heap.size w w1 ∧ w.heap.size + 3 ≤ w1.heap.size) := Lib.hid (fun w1 hb => by
    have hs := hb.size
    rw [hzW] at hs
    exact ⟨(hb.block _ (by rw [hzW]; omega)).trans (three0 w _ _ _), (hb.block _ (by rw [hzW]; omega)).trans (three1 w _ _ _), (hb.block _ (by rw [hzW]; omega)).trans (three2 w _ _ _), ((((Below.refl _ _).alloc (Nat.le_refl _) _).alloc (by simp <;> omega) _).alloc (by simp <;> omega) _).trans (hb.mono (by rw [hzW]; omega)), hs⟩)
  have CP := Lib.hid (epcopy_any hi lo f la su A l n c B (((w.alloc (.cells #[.int .u64 hi, .int .u64 lo, .int .i64 f, .int .i64 la, .bool su, .slice A n c] 30)).alloc (.cells #[.int .u64 hi, .int .u64 lo, .int .u64 x2, .int .u64 x3, .string x4, .string x5, .int .i64 x6, .int .i64 x7, .bool x8, .slice xA m xc] 42)).alloc (.cells #[.int .u64 0, .int .u64 0, .int .i64 0, .int .i64 0, .bool false, .slice none 0 0] 30)) hn (hy.keep (fun p hp => ((World.cell?_alloc_lt _ _ p (by simp; omega)).trans (World.cell?_alloc_lt _ _ p (by simp; omega))).trans (World.cell?_alloc_lt _ _ p (by omega)))) (by rw [hzW]; omega) (by omega) ha)
  have HN := Lib.hid (show n = (l.map Ls.s).length by rw [List.length_map]; exact hn)
  have HZ := Lib.hid hzW
  have HY := Lib.hid hy
  have HNL := Lib.hid hn
  have HM := Lib.hid hm
  have HX := Lib.hid hx
  have HAS : ∀ w1 (A1 : Option Addr) (n1 c1 : Nat), Below w.heap.size w w1 → Calls Try.prog 62 #[.slice A n c, .int .u64 x2] (w1.alloc (.cells #[.int .u64 hi, .int .u64 lo, .int .i64 f, .int .i64 now, .bool su, .slice A1 n1 c1] 30)) fun e w' => e = .returned (.bool false) ∧ Below (w1.alloc (.cells #[.int .u64 hi, .int .u64 lo, .int .i64 f, .int .i64 now, .bool su, .slice A1 n1 c1] 30)).heap.size (w1.alloc (.cells #[.int .u64 hi, .int .u64 lo, .int .i64 f, .int .i64 now, .bool su, .slice A1 n1 c1] 30)) w' := fun w1 A1 n1 c1 hb => by
    have h := has_any A l n c B x2 (w1.alloc (.cells #[.int .u64 hi, .int .u64 lo, .int .i64 f, .int .i64 now, .bool su, .slice A1 n1 c1] 30)) HNL.out ((HY.out.below (hb.mono hB)).below ((Below.refl _ _).alloc (Nat.le_trans hB hb.size) _)) (Nat.le_trans (Nat.le_trans hB hb.size) (by simp)) (by omega)
    rw [hh] at h
    exact h
  have CPX : ∀ W, Below w.heap.size w W → Hid (Calls Try.prog 57 #[.agg #[.int .u64 hi, .int .u64 lo, .int .u64 x2, .int .u64 x3, .string x4, .string x5, .int .i64 x6, .int .i64 x7, .bool x8, .slice xA m xc]] W (CopyX hi lo x2 x3 x4 x5 x6 x7 x8 ats m W)) := fun W hb => Lib.hid (copy_lit hi lo x2 x3 x4 x5 x6 x7 x8 ats xA xc m B W hm (hx.below (hb.mono hB)) (Nat.le_trans hB hb.size) hml)
  have hll : l.length ≤ 90000 := by omega
  have HLL := Lib.hid hll
  have HLM : Hid ((l.map Ls.s).length = l.length) := Lib.hid (by simp)
  clear hzW hy hn ha hl hm hx hh hll
  generalize l.map Ls.s = ls at *
  go_enter Try.func56, Try.ntmps56
  go_wp2_with (first
    | (go_at_call 40; (with_reducible refine (CP.out).mono ?_); rintro e w1 ⟨A1, n1, c1, l1, rfl, hn1, ho1, hm1, hb1⟩; rw [HZ.out] at ho1; obtain ⟨hO0, hO1, hO2, hB1, hz1'⟩ := hBW.out _ hb1; have s0 : w1.cell? ⟨w.heap.size + 1, 0, none⟩ = some (.int .u64 hi) := cell_of_row _ _ 0 _ _ (0, 0) hO1; have s1 : w1.cell? ⟨w.heap.size + 1, 1, none⟩ = some (.int .u64 lo) := cell_of_row _ _ 1 _ _ (0, 0) hO1; have s2 : w1.cell? ⟨w.heap.size + 1, 2, none⟩ = some (.int .u64 x2) := cell_of_row _ _ 2 _ _ (0, 0) hO1; have s3 : w1.cell? ⟨w.heap.size + 1, 3, none⟩ = some (.int .u64 x3) := cell_of_row _ _ 3 _ _ (0, 0) hO1; have s4 : w1.cell? ⟨w.heap.size + 1, 4, none⟩ = some (.string x4) := cell_of_row _ _ 4 _ _ (0, 0) hO1; have s5 : w1.cell? ⟨w.heap.size + 1, 5, none⟩ = some (.string x5) := cell_of_row _ _ 5 _ _ (0, 0) hO1; have s6 : w1.cell? ⟨w.heap.size + 1, 6, none⟩ = some (.int .i64 x6) := cell_of_row _ _ 6 _ _ (0, 0) hO1; have s7 : w1.cell? ⟨w.heap.size + 1, 7, none⟩ = some (.int .i64 x7) := cell_of_row _ _ 7 _ _ (0, 0) hO1; have s8 : w1.cell? ⟨w.heap.size + 1, 8, none⟩ = some (.bool x8) := cell_of_row _ _ 8 _ _ (0, 0) hO1; have s9 : w1.cell? ⟨w.heap.size + 1, 9, none⟩ = some (.slice xA m xc) := cell_of_row _ _ 9 _ _ (0, 0) hO1; have e0 : w1.cell? ⟨w.heap.size, 0, none⟩ = some (.int .u64 hi) := cell_of_row _ _ 0 _ _ (0, 0) hO0; have e1 : w1.cell? ⟨w.heap.size, 1, none⟩ = some (.int .u64 lo) := cell_of_row _ _ 1 _ _ (0, 0) hO0; have e5 : w1.cell? ⟨w.heap.size, 5, none⟩ = some (.slice A n c) := cell_of_row _ _ 5 _ _ (0, 0) hO0; have z0 : w1.cell? ⟨w.heap.size + 1 + 1, 0, none⟩ = some (.int .u64 0) := cell_of_row _ _ 0 _ _ (0, 0) hO2; have q0 : w1.frozen? ⟨w.heap.size + 1 + 1, 0, none⟩ = false := (by simp [World.frozen?, hO2]); have z1 : w1.cell? ⟨w.heap.size + 1 + 1, 1, none⟩ = some (.int .u64 0) := cell_of_row _ _ 1 _ _ (0, 0) hO2; have q1 : w1.frozen? ⟨w.heap.size + 1 + 1, 1, none⟩ = false := (by simp [World.frozen?, hO2]); have z2 : w1.cell? ⟨w.heap.size + 1 + 1, 2, none⟩ = some (.int .i64 0) := cell_of_row _ _ 2 _ _ (0, 0) hO2; have q2 : w1.frozen? ⟨w.heap.size + 1 + 1, 2, none⟩ = false := (by simp [World.frozen?, hO2]); have z3 : w1.cell? ⟨w.heap.size + 1 + 1, 3, none⟩ = some (.int .i64 0) := cell_of_row _ _ 3 _ _ (0, 0) hO2; have q3 : w1.frozen? ⟨w.heap.size + 1 + 1, 3, none⟩ = false := (by simp [World.frozen?, hO2]); have z4 : w1.cell? ⟨w.heap.size + 1 + 1, 4, none⟩ = some (.bool false) := cell_of_row _ _ 4 _ _ (0, 0) hO2; have q4 : w1.frozen? ⟨w.heap.size + 1 + 1, 4, none⟩ = false := (by simp [World.frozen?, hO2]); have z5 : w1.cell? ⟨w.heap.size + 1 + 1, 5, none⟩ = some (.slice none 0 0) := cell_of_row _ _ 5 _ _ (0, 0) hO2; have q5 : w1.frozen? ⟨w.heap.size + 1 + 1, 5, none⟩ = false := (by simp [World.frozen?, hO2]); have hlt0 : w.heap.size < w1.heap.size := (by omega); have hlt1 : w.heap.size + 1 < w1.heap.size := (by omega); have hlt2 : w.heap.size + 1 + 1 < w1.heap.size := (by omega); have HO1 := Lib.hid ho1; have HB1 := Lib.hid hB1; have HM1 := Lib.hid hm1; have HN1 := Lib.hid hn1; have HZ2 := Lib.hid hO2; have HS2 := Lib.hid hO1; have HHA := Lib.hid (HAS w1 A1 n1 c1 HB1.out); clear ho1 hb1 hB1 hm1 hn1 hO0 hO1 hO2)
    | (go_at_call 62; (with_reducible refine (HHA.out).mono ?_); rintro e w2 ⟨rfl, hb2⟩; have hOO : w2.heap[w1.heap.size]? = some (.cells #[.int .u64 hi, .int .u64 lo, .int .i64 f, .int .i64 now, .bool su, .slice A1 n1 c1] 30) := (hb2.block _ (by simp)).trans (heap_alloc_new w1 _); have hUU : w2.heap[w.heap.size + 1 + 1]? = some (.cells #[.int .u64 0, .int .u64 0, .int .i64 0, .int .i64 0, .bool false, .slice none 0 0] 30) := (hb2.block _ (by simp; omega)).trans ((heap_alloc_old w1 _ hlt2).trans HZ2.out); have hSS : w2.heap[w.heap.size + 1]? = some (.cells #[.int .u64 hi, .int .u64 lo, .int .u64 x2, .int .u64 x3, .string x4, .string x5, .int .i64 x6, .int .i64 x7, .bool x8, .slice xA m xc] 42) := (hb2.block _ (by simp; omega)).trans ((heap_alloc_old w1 _ hlt1).trans HS2.out); have hzz : w1.heap.size < w2.heap.size := (by have h := hb2.size; simp at h; omega); have HB2 := Lib.hid (hb2.mono (Nat.le_of_lt (show w1.heap.size < (w1.alloc (.cells #[.int .u64 hi, .int .u64 lo, .int .i64 f, .int .i64 now, .bool su, .slice A1 n1 c1] 30)).heap.size by simp))); have HBZ := Lib.hid ((HB1.out.alloc HB1.out.size (.cells #[.int .u64 hi, .int .u64 lo, .int .i64 f, .int .i64 now, .bool su, .slice A1 n1 c1] 30)).trans (hb2.mono (by simp; omega))); have HO2 := Lib.hid (HO1.out.below (((Below.refl _ _).alloc (Nat.le_refl _) _).trans HB2.out)); have HOO := Lib.hid hOO; have HUU := Lib.hid hUU; have HSS := Lib.hid hSS; clear hb2 hOO hUU hSS))
  have hll1 : l1.length ≤ 1000000 ∧ n1 = l1.length := by
    have h := congrArg List.length HM1.out
    rw [List.length_map] at h
    have h2 := HN1.out
    have h3 := HLM.out
    have := HLL.out
    omega
  have HBD : Hid (Below w.heap.size w w2.drew) := Lib.hid (HBZ.out.trans ⟨rfl, rfl, rfl, Nat.le_refl _, fun _ _ => rfl⟩)
  have hoc : w.heap.size + 3 ≤ w2.heap.size := by omega
  have ho1 : w.heap.size + 3 ≤ w1.heap.size := hz1'
  refine PG.wp_region_persG (R := Below (w.heap.size + 3)) (G := AG hi lo f now su x2 x3 x4 x5 x6 x7 x8 xA m xc ats A1 n1 c1 w1.heap.size (w.heap.size + 3) l1) (by kernel_rfl) (PG.formed_of (by kernel_rfl)) ⟨fun w => Below.refl _ w, fun _ _ _ h k => h.trans k⟩ ?_ (AF hi lo f now su x2 x3 x4 x5 x6 x7 x8 xA m xc ats A1 n1 c1 w1.heap.size (w.heap.size + 3) l1) ?_ ?_
  · intro k
    unfold AG
    split
    · exact HO2.out.below (w' := w2.drew) ⟨rfl, rfl, rfl, Nat.le_refl _, fun _ _ => rfl⟩
    · exact HOO.out
    · trivial
  · intro i o ho
    rcases i with _ | _ | _ | _ | _ | _ | _ | _ | i
    · obtain rfl := Option.some.inj (show some _ = some o from ho)
      refine PG.shown_val rfl fun a w3 hr T => ?_
      have h8 : a.eval (.tmp 8) = .pointer (some ⟨w1.heap.size, 0, none⟩) := T.was 8 (by kernel_rfl)
      exact ⟨.pointer (some ⟨w1.heap.size, 5, none⟩), w3, by simp only [execOp, h8]; simp [go_sem], PG.Post.pure ⟨fun w => Below.refl _ w, fun _ _ _ h k => h.trans k⟩ rfl⟩
    · obtain rfl := Option.some.inj (show some _ = some o from ho)
      refine PG.shown_val rfl fun a w3 hr T => ?_
      have h25 : a.eval (.tmp 25) = .pointer (some ⟨w1.heap.size, 5, none⟩) := T.at_ 0 25 (by kernel_rfl) (by kernel_rfl)
      have hO : w3.heap[w1.heap.size]? = some (.cells #[.int .u64 hi, .int .u64 lo, .int .i64 f, .int .i64 now, .bool su, .slice A1 n1 c1] 30) := T.yet 7 (by kernel_rfl)
      have c5 : w3.cell? ⟨w1.heap.size, 5, none⟩ = some (.slice A1 n1 c1) := cell_of_row _ _ 5 _ _ (0, 0) hO
      exact ⟨.slice A1 n1 c1, w3, by simp only [execOp, h25]; simp [go_sem, c5], PG.Post.pure ⟨fun w => Below.refl _ w, fun _ _ _ h k => h.trans k⟩ rfl⟩
    · obtain rfl := Option.some.inj (show some _ = some o from ho)
      refine PG.shown_val rfl fun a w3 hr T => ?_
      have h4 : a.eval (.tmp 4) = .pointer (some ⟨w.heap.size + 1, 0, none⟩) := T.was 4 (by kernel_rfl)
      have hS : w3.heap[w.heap.size + 1]? = some (.cells #[.int .u64 hi, .int .u64 lo, .int .u64 x2, .int .u64 x3, .string x4, .string x5, .int .i64 x6, .int .i64 x7, .bool x8, .slice xA m xc] 42) := (hr.block _ (by omega)).trans HSS.out
      have v0 : w3.cell? ⟨w.heap.size + 1, 0, none⟩ = some (.int .u64 hi) := cell_of_row _ _ 0 _ _ (0, 0) hS
      have v1 : w3.cell? ⟨w.heap.size + 1, 1, none⟩ = some (.int .u64 lo) := cell_of_row _ _ 1 _ _ (0, 0) hS
      have v2 : w3.cell? ⟨w.heap.size + 1, 2, none⟩ = some (.int .u64 x2) := cell_of_row _ _ 2 _ _ (0, 0) hS
      have v3 : w3.cell? ⟨w.heap.size + 1, 3, none⟩ = some (.int .u64 x3) := cell_of_row _ _ 3 _ _ (0, 0) hS
      have v4 : w3.cell? ⟨w.heap.size + 1, 4, none⟩ = some (.string x4) := cell_of_row _ _ 4 _ _ (0, 0) hS
      have v5 : w3.cell? ⟨w.heap.size + 1, 5, none⟩ = some (.string x5) := cell_of_row _ _ 5 _ _ (0, 0) hS
      have v6 : w3.cell? ⟨w.heap.size + 1, 6, none⟩ = some (.int .i64 x6) := cell_of_row _ _ 6 _ _ (0, 0) hS
      have v7 : w3.cell? ⟨w.heap.size + 1, 7, none⟩ = some (.int .i64 x7) := cell_of_row _ _ 7 _ _ (0, 0) hS
      have v8 : w3.cell? ⟨w.heap.size + 1, 8, none⟩ = some (.bool x8) := cell_of_row _ _ 8 _ _ (0, 0) hS
      have v9 : w3.cell? ⟨w.heap.size + 1, 9, none⟩ = some (.slice xA m xc) := cell_of_row _ _ 9 _ _ (0, 0) hS
      exact ⟨.agg #[.int .u64 hi, .int .u64 lo, .int .u64 x2, .int .u64 x3, .string x4, .string x5, .int .i64 x6, .int .i64 x7, .bool x8, .slice xA m xc], w3, by simp only [execOp, h4]; simp [go_sem, v0, v1, v2, v3, v4, v5, v6, v7, v8, v9], PG.Post.pure ⟨fun w => Below.refl _ w, fun _ _ _ h k => h.trans k⟩ rfl⟩
    · obtain rfl := Option.some.inj (show some _ = some o from ho)
      refine PG.shown_call rfl 57 fun a w3 hr T => ?_
      have h27 : a.eval (.tmp 27) = .agg #[.int .u64 hi, .int .u64 lo, .int .u64 x2, .int .u64 x3, .string x4, .string x5, .int .i64 x6, .int .i64 x7, .bool x8, .slice xA m xc] := T.at_ 2 27 (by kernel_rfl) (by kernel_rfl)
      have hz3 : w2.heap.size ≤ w3.heap.size := hr.size
      refine ⟨#[.agg #[.int .u64 hi, .int .u64 lo, .int .u64 x2, .int .u64 x3, .string x4, .string x5, .int .i64 x6, .int .i64 x7, .bool x8, .slice xA m xc]], by simp only [execOp, resolve, List.map_toArray, List.map_cons, List.map_nil, h27]; simp [go_sem, Act.eval], ?_⟩
      refine (CPX w3 (HBD.out.trans (hr.mono (show w.heap.size ≤ w.heap.size + 3 by omega)))).out.mono fun e w4 hh => ?_
      obtain ⟨A2, c2, rfl, ho4, hb4⟩ := hh
      exact ⟨_, rfl, post_below (by omega) hb4 ⟨A2, c2, rfl, ho4.mono (by omega)⟩⟩
    · obtain rfl := Option.some.inj (show some _ = some o from ho)
      refine PG.shown_val rfl fun a w3 hr T => ?_
      obtain ⟨A2, c2, h28, ho3⟩ := T.at_ 3 28 (by kernel_rfl) (by kernel_rfl)
      have hz3 : w2.heap.size ≤ w3.heap.size := hr.size
      have h5 := T.yet 5 (by kernel_rfl)
      refine ⟨.slice (some ⟨w3.heap.size, 0, none⟩) 1 1, w3.alloc (.cells #[.int .u64 hi, .int .u64 lo, .int .u64 x2, .int .u64 x3, .string x4, .string x5, .int .i64 x6, .int .i64 x7, .bool x8, .slice A2 m c2] 42), by simp only [execOp, List.map_toArray, List.map_cons, List.map_nil, h28]; simp [go_sem], post_below (by omega) ((Below.refl _ _).alloc (Nat.le_refl _) _) ⟨A2, c2, w3.heap.size, rfl, ho3.below ((Below.refl _ _).alloc (Nat.le_refl _) _), by rw [Ls.lit_cells _ _ _ _ _ _ _ _ _ _ _ _ m HM.out]; exact Rd.lit w3 _ _, by simp, by omega, fun he => by have := own_block_lt (OwnSps.own h5) _ he; omega⟩⟩
    · obtain rfl := Option.some.inj (show some _ = some o from ho)
      refine PG.shown_val rfl fun a w3 hr T => ?_
      have h26 : a.eval (.tmp 26) = .slice A1 n1 c1 := T.at_ 1 26 (by kernel_rfl) (by kernel_rfl)
      obtain ⟨A2, c2, g, h29, ho3, hrd, hg, hog, hne⟩ := T.at_ 4 29 (by kernel_rfl) (by kernel_rfl)
      have h5 : OwnSps w3 (w.heap.size + 3) (.slice A1 n1 c1) l1 := T.own
      have hz3 : w2.heap.size ≤ w3.heap.size := hr.size
      obtain ⟨v', w', r1, r2, r3⟩ := appSp (ty := 28) h5 ho3 hrd hll1.1 (by omega)
      refine ⟨v', w', by simp only [execOp, resolve, invoke, builtin, Sem.run_bind, Sem.run_pure, Result.andThen_ok, List.map_toArray, List.map_cons, List.map_nil, h26, h29, r1], r3.below (Below.refl _ _) (by omega) (own_block_ge h5.own), ?_, fun k hk hG => ?_, fun j v hj hw hF => ?_⟩
      · obtain ⟨A5, c5, hv, _, _⟩ := r2.rd
        exact ⟨A5, c5, _, A2, c2, hv, by simp [hll1.2], r2⟩
      · unfold AG at *
        split
        · exact absurd rfl hk
        · exact (r3.grown.block _ (in_heap hG) (Ne.symm (own_not h5.own hG (by decide)))).trans hG
        · trivial
      · match j, hj, hw, hF with
        | 0, _, _, hF => exact hF
        | 1, _, _, hF => exact hF
        | 2, _, _, hF => exact hF
        | 3, _, _, hF => obtain ⟨A2, c2, h1, h2⟩ := hF; exact ⟨A2, c2, h1, h2.grew h5.own r3 (by decide)⟩
        | 4, _, _, hF => obtain ⟨A2, c2, g, h1, h2, h3, h4, h6, h7⟩ := hF; exact ⟨A2, c2, g, h1, h2.grew h5.own r3 (by decide), h3.block (r3.grown.block g h4 (Ne.symm h7)), Nat.lt_of_lt_of_le h4 r3.grown.size, h6, h7⟩
        | 5, hj, _, _ => exact absurd rfl hj
        | 6, _, _, hF => exact hF
        | 7, _, hw, _ => exact (PG.waits_no (by kernel_rfl) hw).elim
        | _ + 8, _, _, _ => trivial
    · obtain rfl := Option.some.inj (show some _ = some o from ho)
      refine PG.shown_val rfl fun a w3 hr T => ?_
      have h8 : a.eval (.tmp 8) = .pointer (some ⟨w1.heap.size, 0, none⟩) := T.was 8 (by kernel_rfl)
      exact ⟨.pointer (some ⟨w1.heap.size, 5, none⟩), w3, by simp only [execOp, h8]; simp [go_sem], PG.Post.pure ⟨fun w => Below.refl _ w, fun _ _ _ h k => h.trans k⟩ rfl⟩
    · obtain rfl := Option.some.inj (show some _ = some o from ho)
      refine PG.shown_skip rfl fun a w3 hr T => ?_
      have h31 : a.eval (.tmp 31) = .pointer (some ⟨w1.heap.size, 5, none⟩) := T.at_ 6 31 (by kernel_rfl) (by kernel_rfl)
      obtain ⟨A5, c5, n5, A2, c2, h30, hn5, ho5⟩ := T.at_ 5 30 (by kernel_rfl) (by kernel_rfl)
      rw [h30] at ho5
      have hO : w3.heap[w1.heap.size]? = some (.cells #[.int .u64 hi, .int .u64 lo, .int .i64 f, .int .i64 now, .bool su, .slice A1 n1 c1] 30) := T.own
      have k5 : w3.cell? ⟨w1.heap.size, 5, none⟩ = some (.slice A1 n1 c1) := cell_of_row _ _ 5 _ _ (0, 0) hO
      have f5 : w3.frozen? ⟨w1.heap.size, 5, none⟩ = false := by simp [World.frozen?, hO]
      refine ⟨w3.setCell ⟨w1.heap.size, 5, none⟩ (.slice A5 n5 c5), by simp only [execOp, h31, h30]; simp [go_sem, k5, f5], (Below.refl _ _).setCell ho1 _, ⟨A5, c5, n5, A2, c2, hn5, ho5.else (p := ⟨w1.heap.size, 5, none⟩) hO (by decide) (by decide) _, ?_⟩, fun k hk hG => ?_, fun j v hj hw hF => ?_⟩
      · rw [heap_setCell_same _ _ _ _ _ _ hO]; rfl
      · unfold AG at *
        split
        · exact OwnSps.else (p := ⟨w1.heap.size, 5, none⟩) hG hO (by decide) (by decide) _
        · exact absurd rfl hk
        · trivial
      · match j, hj, hw, hF with
        | 0, _, _, hF => exact hF
        | 1, _, _, hF => exact hF
        | 2, _, _, hF => exact hF
        | 3, _, _, hF => obtain ⟨A2, c2, h1, h2⟩ := hF; exact ⟨A2, c2, h1, ⟨own_else (p := ⟨w1.heap.size, 5, none⟩) h2.own hO (by decide) _, h2.ok⟩⟩
        | 4, _, _, hF => obtain ⟨A2, c2, g, h1, h2, h3, h4, h6, h7⟩ := hF; exact ⟨A2, c2, g, h1, ⟨own_else (p := ⟨w1.heap.size, 5, none⟩) h2.own hO (by decide) _, h2.ok⟩, h3.block (Below.heap_setCell w3 _ _ g (by simp; omega)), by simpa using h4, h6, h7⟩
        | 5, _, _, hF => obtain ⟨A5, c5, n5, A2, c2, h1, h2, h3⟩ := hF; exact ⟨A5, c5, n5, A2, c2, h1, h2, h3.else (p := ⟨w1.heap.size, 5, none⟩) hO (by decide) (by decide) _⟩
        | 6, _, _, hF => exact hF
        | 7, hj, _, _ => exact absurd rfl hj
        | _ + 8, _, _, _ => trivial
    · cases ho
  · intro x w5 hr hf he
    obtain ⟨v7, A5, c5, n5, A2, c2, hn5, ho5, hO5⟩ := he 7 _ rfl rfl
    have hU5 : w5.heap[w.heap.size + 1 + 1]? = some (.cells #[.int .u64 0, .int .u64 0, .int .i64 0, .int .i64 0, .bool false, .slice none 0 0] 30) := (hr.block _ (by omega)).trans HUU.out
    have hzo5 : w1.heap.size < w5.heap.size := in_heap hO5
    have HB5 := Lib.hid (HBD.out.trans (hr.mono (show w.heap.size ≤ w.heap.size + 3 by omega)))
    have HO5 := Lib.hid ho5
    have hlt5 : w.heap.size + 1 + 1 < w5.heap.size := by omega
    have g0 : w5.cell? ⟨w1.heap.size, 0, none⟩ = some (.int .u64 hi) := cell_of_row _ _ 0 _ _ (0, 0) hO5
    have u0 : w5.cell? ⟨w.heap.size + 1 + 1, 0, none⟩ = some (.int .u64 0) := cell_of_row _ _ 0 _ _ (0, 0) hU5
    have p0 : w5.frozen? ⟨w.heap.size + 1 + 1, 0, none⟩ = false := by simp [World.frozen?, hU5]
    have g1 : w5.cell? ⟨w1.heap.size, 1, none⟩ = some (.int .u64 lo) := cell_of_row _ _ 1 _ _ (0, 0) hO5
    have u1 : w5.cell? ⟨w.heap.size + 1 + 1, 1, none⟩ = some (.int .u64 0) := cell_of_row _ _ 1 _ _ (0, 0) hU5
    have p1 : w5.frozen? ⟨w.heap.size + 1 + 1, 1, none⟩ = false := by simp [World.frozen?, hU5]
    have g2 : w5.cell? ⟨w1.heap.size, 2, none⟩ = some (.int .i64 f) := cell_of_row _ _ 2 _ _ (0, 0) hO5
    have u2 : w5.cell? ⟨w.heap.size + 1 + 1, 2, none⟩ = some (.int .i64 0) := cell_of_row _ _ 2 _ _ (0, 0) hU5
    have p2 : w5.frozen? ⟨w.heap.size + 1 + 1, 2, none⟩ = false := by simp [World.frozen?, hU5]
    have g3 : w5.cell? ⟨w1.heap.size, 3, none⟩ = some (.int .i64 now) := cell_of_row _ _ 3 _ _ (0, 0) hO5
    have u3 : w5.cell? ⟨w.heap.size + 1 + 1, 3, none⟩ = some (.int .i64 0) := cell_of_row _ _ 3 _ _ (0, 0) hU5
    have p3 : w5.frozen? ⟨w.heap.size + 1 + 1, 3, none⟩ = false := by simp [World.frozen?, hU5]
    have g4 : w5.cell? ⟨w1.heap.size, 4, none⟩ = some (.bool su) := cell_of_row _ _ 4 _ _ (0, 0) hO5
    have u4 : w5.cell? ⟨w.heap.size + 1 + 1, 4, none⟩ = some (.bool false) := cell_of_row _ _ 4 _ _ (0, 0) hU5
    have p4 : w5.frozen? ⟨w.heap.size + 1 + 1, 4, none⟩ = false := by simp [World.frozen?, hU5]
    have g5 : w5.cell? ⟨w1.heap.size, 5, none⟩ = some (.slice A5 n5 c5) := cell_of_row _ _ 5 _ _ (0, 0) hO5
    have u5 : w5.cell? ⟨w.heap.size + 1 + 1, 5, none⟩ = some (.slice none 0 0) := cell_of_row _ _ 5 _ _ (0, 0) hU5
    have p5 : w5.frozen? ⟨w.heap.size + 1 + 1, 5, none⟩ = false := by simp [World.frozen?, hU5]
    have HN5 := Lib.hid hn5
    clear ho5 hO5 hU5 hf he hr hn5 hll1
    simp only [PG.putAll, Act.put, List.setIfInBounds_toArray, List.set_cons_zero, List.set_cons_succ]
    go_wp2_with fail
    have LBc : Below w.heap.size w ((((((w5.setCell ⟨w.heap.size + 1 + 1, 0, none⟩ (.int .u64 hi)).setCell ⟨w.heap.size + 1 + 1, 1, none⟩ (.int .u64 lo)).setCell ⟨w.heap.size + 1 + 1, 2, none⟩ (.int .i64 f)).setCell ⟨w.heap.size + 1 + 1, 3, none⟩ (.int .i64 now)).setCell ⟨w.heap.size + 1 + 1, 4, none⟩ (.bool su)).setCell ⟨w.heap.size + 1 + 1, 5, none⟩ (.slice A5 n5 c5)) := by repeat' (first | (with_reducible exact HB5.out) | (refine Below.setCell ?_ (by simp; omega) _))
    have LOc : OwnSps ((((((w5.setCell ⟨w.heap.size + 1 + 1, 0, none⟩ (.int .u64 hi)).setCell ⟨w.heap.size + 1 + 1, 1, none⟩ (.int .u64 lo)).setCell ⟨w.heap.size + 1 + 1, 2, none⟩ (.int .i64 f)).setCell ⟨w.heap.size + 1 + 1, 3, none⟩ (.int .i64 now)).setCell ⟨w.heap.size + 1 + 1, 4, none⟩ (.bool su)).setCell ⟨w.heap.size + 1 + 1, 5, none⟩ (.slice A5 n5 c5)) (w.heap.size + 3) (.slice A5 n5 c5) (l1 ++ [⟨⟨hi, lo, x2, x3, x4, x5, x6, x7, x8, ats⟩, A2, c2⟩]) := by repeat' (first | (with_reducible exact HO5.out) | (refine OwnSps.far ?_ (by simp) _))
    refine bodyPost_ret (v := .tuple #[.agg #[.int .u64 hi, .int .u64 lo, .int .i64 f, .int .i64 now, .bool su, .slice A5 n5 c5], .bool true]) (by simp [results, Try.results56, go_sem, u0, u1, u2, u3, u4, u5]) rfl ?_
    exact ⟨A5, n5, c5, _, rfl, by rw [HN5.out, List.length_append, ← HN1.out, List.length_singleton], LOc.mono (by omega), by rw [List.map_append, HM1.out, List.map_singleton], LBc⟩
end Go.Proofs.Ytenioeppmgmdiaa
