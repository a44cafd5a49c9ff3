/- An episode's copy; whether one of its spans has an Id. -/
import Derived.Test.YtmldelgbmadegaaSc
namespace Go.Proofs.Ytmldelgbmadegaa
open Go.RowKit
set_option linter.unusedVariables false
set_option maxRecDepth 100000

theorem OwnSps.far {w : World} {base : Nat} {v : Value} {l : List Ls} (h : OwnSps w base v l) {p : Addr} (hp : p.block < base) (u : Value) : OwnSps (w.setCell p u) base v l :=
  ⟨own_far h.own hp u, fun x hx => ⟨own_far (h.each x hx).own hp u, (h.each x hx).ok⟩⟩
/-- An episode with these spans in memory of its own. -/
def CopyEp (hi lo f la : Int) (su : Bool) (l : List Sp) (w : World) (e : Ending) (w' : World) : Prop :=
  ∃ (A : Option Addr) (n c : Nat) (l' : List Ls), e = .returned (.agg #[.int .u64 hi, .int .u64 lo, .int .i64 f, .int .i64 la, .bool su, .slice A n c]) ∧ n = l.length ∧ OwnSps w' w.heap.size (.slice A n c) l' ∧ l'.map Ls.s = l ∧ Below w.heap.size w w'

set_option maxHeartbeats 8000000 in
theorem epcopy_any (hi lo f la : Int) (su : Bool) (A : Option Addr) (l : List Ls) (n c B : Nat) (w : World) (hn : n = l.length) (hy : RdSps w B A l) (hB : B ≤ w.heap.size) (hl : n ≤ 100000) (ha : ∀ x ∈ l, x.s.ats.length ≤ 100000) :
    Calls Try.prog 78 #[.agg #[.int .u64 hi, .int .u64 lo, .int .i64 f, .int .i64 la, .bool su, .slice A n c]] w (CopyEp hi lo f la su (l.map Ls.s) w) := by
  have hzW : ((w.alloc (.cells #[.int .u64 hi, .int .u64 lo, .int .i64 f, .int .i64 la, .bool su, .slice A n c] 48)).alloc (.cells #[.int .u64 0, .int .u64 0, .int .i64 0, .int .i64 0, .bool false, .slice none 0 0] 48)).heap.size = w.heap.size + 2 := by simp
  have hBW : Hid (∀ w1, Below ((w.alloc (.cells #[.int .u64 hi, .int .u64 lo, .int .i64 f, .int .i64 la, .bool su, .slice A n c] 48)).alloc (.cells #[.int .u64 0, .int .u64 0, .int .i64 0, .int .i64 0, .bool false, .slice none 0 0] 48)).heap.size ((w.alloc (.cells #[.int .u64 hi, .int .u64 lo, .int .i64 f, .int .i64 la, .bool su, .slice A n c] 48)).alloc (.cells #[.int .u64 0, .int .u64 0, .int .i64 0, .int .i64 0, .bool false, .slice none 0 0] 48)) w1 → w1.heap[w.heap.size]? = some (.cells #[.int .u64 hi, .int .u64 lo, .int .i64 f, .int .i64 la, .bool su, .slice A n c] 48) ∧ w1.heap[w.heap.size + 1]? = some (.cells #[.int .u64 0, .int .u64 0, .int .i64 0, .int .i64 0, .bool false, .slice none 0 0] 48) ∧ Below w.heap.size w w1 ∧ w.heap.size + 2 ≤ w1.heap.size) := Lib.hid (fun w1 hb => by
    have hs := hb.size
    rw [hzW] at hs
    exact ⟨(hb.block _ (by rw [hzW]; omega)).trans (two0 w _ _), (hb.block _ (by rw [hzW]; omega)).trans (two1 w _ _), (((Below.refl _ _).alloc (Nat.le_refl _) _).alloc (by simp <;> omega) _).trans (hb.mono (by rw [hzW]; omega)), hs⟩)
  have CP := Lib.hid (copies_any A l n c B ((w.alloc (.cells #[.int .u64 hi, .int .u64 lo, .int .i64 f, .int .i64 la, .bool su, .slice A n c] 48)).alloc (.cells #[.int .u64 0, .int .u64 0, .int .i64 0, .int .i64 0, .bool false, .slice none 0 0] 48)) hn (hy.keep (fun p hp => (World.cell?_alloc_lt _ _ p (by simp; omega)).trans (World.cell?_alloc_lt _ _ p (by omega)))) (by rw [hzW]; omega) hl ha)
  have HN := Lib.hid (show n = (l.map Ls.s).length by rw [List.length_map]; exact hn)
  have HZ := Lib.hid hzW
  clear hzW hy hn ha hl
  generalize l.map Ls.s = ls at *
  go_enter Try.func78, Try.ntmps78
  go_wp2_with (go_at_call 107; (with_reducible refine (CP.out).mono ?_); rintro e w1 ⟨v1, l1, rfl, ho1, hm1, hb1⟩; rw [HZ.out] at ho1; obtain ⟨A1, c1, hv1, hc1, _⟩ := ho1.rd; obtain ⟨n1, hn1⟩ : ∃ n1, n1 = l1.length := ⟨_, rfl⟩; rw [← hn1] at hv1; subst hv1; obtain ⟨hO, hP, hB1, hz1'⟩ := hBW.out _ hb1; have o0 : w1.cell? ⟨w.heap.size, 0, none⟩ = some (.int .u64 hi) := cell_of_row _ _ 0 _ _ (0, 0) hO; have p0 : w1.cell? ⟨w.heap.size + 1, 0, none⟩ = some (.int .u64 0) := cell_of_row _ _ 0 _ _ (0, 0) hP; have q0 : w1.frozen? ⟨w.heap.size + 1, 0, none⟩ = false := (by simp [World.frozen?, hP]); have o1 : w1.cell? ⟨w.heap.size, 1, none⟩ = some (.int .u64 lo) := cell_of_row _ _ 1 _ _ (0, 0) hO; have p1 : w1.cell? ⟨w.heap.size + 1, 1, none⟩ = some (.int .u64 0) := cell_of_row _ _ 1 _ _ (0, 0) hP; have q1 : w1.frozen? ⟨w.heap.size + 1, 1, none⟩ = false := (by simp [World.frozen?, hP]); have o2 : w1.cell? ⟨w.heap.size, 2, none⟩ = some (.int .i64 f) := cell_of_row _ _ 2 _ _ (0, 0) hO; have p2 : w1.cell? ⟨w.heap.size + 1, 2, none⟩ = some (.int .i64 0) := cell_of_row _ _ 2 _ _ (0, 0) hP; have q2 : w1.frozen? ⟨w.heap.size + 1, 2, none⟩ = false := (by simp [World.frozen?, hP]); have o3 : w1.cell? ⟨w.heap.size, 3, none⟩ = some (.int .i64 la) := cell_of_row _ _ 3 _ _ (0, 0) hO; have p3 : w1.cell? ⟨w.heap.size + 1, 3, none⟩ = some (.int .i64 0) := cell_of_row _ _ 3 _ _ (0, 0) hP; have q3 : w1.frozen? ⟨w.heap.size + 1, 3, none⟩ = false := (by simp [World.frozen?, hP]); have o4 : w1.cell? ⟨w.heap.size, 4, none⟩ = some (.bool su) := cell_of_row _ _ 4 _ _ (0, 0) hO; have p4 : w1.cell? ⟨w.heap.size + 1, 4, none⟩ = some (.bool false) := cell_of_row _ _ 4 _ _ (0, 0) hP; have q4 : w1.frozen? ⟨w.heap.size + 1, 4, none⟩ = false := (by simp [World.frozen?, hP]); have o5 : w1.cell? ⟨w.heap.size, 5, none⟩ = some (.slice A n c) := cell_of_row _ _ 5 _ _ (0, 0) hO; have p5 : w1.cell? ⟨w.heap.size + 1, 5, none⟩ = some (.slice none 0 0) := cell_of_row _ _ 5 _ _ (0, 0) hP; have q5 : w1.frozen? ⟨w.heap.size + 1, 5, none⟩ = false := (by simp [World.frozen?, hP]); have r5 : w1.frozen? ⟨w.heap.size, 5, none⟩ = false := (by simp [World.frozen?, hO]); have HO1 := Lib.hid ho1; have HB1 := Lib.hid hB1; have HM1 := Lib.hid hm1; have HN1 := Lib.hid hn1; clear ho1 hb1 hB1 hm1 hn1 hO hP hc1)
  have LB : Below w.heap.size w (((((((w1.setCell ⟨w.heap.size, 5, none⟩ (.slice A1 n1 c1)).setCell ⟨w.heap.size + 1, 0, none⟩ (.int .u64 hi)).setCell ⟨w.heap.size + 1, 1, none⟩ (.int .u64 lo)).setCell ⟨w.heap.size + 1, 2, none⟩ (.int .i64 f)).setCell ⟨w.heap.size + 1, 3, none⟩ (.int .i64 la)).setCell ⟨w.heap.size + 1, 4, none⟩ (.bool su)).setCell ⟨w.heap.size + 1, 5, none⟩ (.slice A1 n1 c1)) := by repeat' (first | (with_reducible exact HB1.out) | (refine Below.setCell ?_ (by simp) _))
  have LO : OwnSps (((((((w1.setCell ⟨w.heap.size, 5, none⟩ (.slice A1 n1 c1)).setCell ⟨w.heap.size + 1, 0, none⟩ (.int .u64 hi)).setCell ⟨w.heap.size + 1, 1, none⟩ (.int .u64 lo)).setCell ⟨w.heap.size + 1, 2, none⟩ (.int .i64 f)).setCell ⟨w.heap.size + 1, 3, none⟩ (.int .i64 la)).setCell ⟨w.heap.size + 1, 4, none⟩ (.bool su)).setCell ⟨w.heap.size + 1, 5, none⟩ (.slice A1 n1 c1)) (w.heap.size + 2) (.slice A1 n1 c1) l1 := by repeat' (first | (with_reducible exact HO1.out) | (refine OwnSps.far ?_ (by simp) _))
  refine bodyPost_ret (v := .agg #[.int .u64 hi, .int .u64 lo, .int .i64 f, .int .i64 la, .bool su, .slice A1 n1 c1]) (by simp [results, Try.results78, go_sem, p0, p1, p2, p3, p4, p5]) rfl ?_
  exact ⟨A1, n1, c1, l1, rfl, by rw [HN1.out, ← HM1.out, List.length_map], LO.mono (by omega), HM1.out, LB⟩

def hasId (l : List Sp) (id : Int) : Bool := l.any fun s => s.id == id
end Go.Proofs.Ytmldelgbmadegaa
