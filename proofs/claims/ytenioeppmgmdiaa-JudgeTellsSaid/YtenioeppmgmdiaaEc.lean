/- An episode's copy; whether one of its spans has an Id. -/
import Derived.Test.YtenioeppmgmdiaaSc
namespace Go.Proofs.Ytenioeppmgmdiaa
open Go.RowKit
set_option linter.unusedVariables false
set_option maxRecDepth 100000

theorem OwnSps.far {w : World} {base : Nat} {v : Value} {l : List Ls} (h : OwnSps w base v l) {p : Addr} (hp : p.block < base) (u : Value) : OwnSps (w.setCell p u) base v l :=
  ⟨own_far h.own hp u, fun x hx => ⟨own_far (h.each x hx).own hp u, (h.each x hx).ok⟩⟩
/-- An episode with these spans in memory of its own. -/
def CopyEp (hi lo f la : Int) (su : Bool) (l : List Sp) (w : World) (e : Ending) (w' : World) : Prop :=
  ∃ (A : Option Addr) (n c : Nat) (l' : List Ls), e = .returned (.agg #[.int .u64 hi, .int .u64 lo, .int .i64 f, .int .i64 la, .bool su, .slice A n c]) ∧ n = l.length ∧ OwnSps w' w.heap.size (.slice A n c) l' ∧ l'.map Ls.s = l ∧ Below w.heap.size w w'

set_option maxHeartbeats 8000000 in
theorem epcopy_any (hi lo f la : Int) (su : Bool) (A : Option Addr) (l : List Ls) (n c B : Nat) (w : World) (hn : n = l.length) (hy : RdSps w B A l) (hB : B ≤ w.heap.size) (hl : n ≤ 100000) (ha : ∀ x ∈ l, x.s.ats.length ≤ 100000) :
    Calls Try.prog 40 #[.agg #[.int .u64 hi, .int .u64 lo, .int .i64 f, .int .i64 la, .bool su, .slice A n c]] w (CopyEp hi lo f la su (l.map Ls.s) w) := by
  have hzW : ((w.alloc (.cells #[.int .u64 hi, .int .u64 lo, .int .i64 f, .int .i64 la, .bool su, .slice A n c] 30)).alloc (.cells #[.int .u64 0, .int .u64 0, .int .i64 0, .int .i64 0, .bool false, .slice none 0 0] 30)).heap.size = w.heap.size + 2 := by simp
  have hBW : Hid (∀ w1, Below ((w.alloc (.cells #[.int .u64 hi, .int .u64 lo, .int .i64 f, .int .i64 la, .bool su, .slice A n c] 30)).alloc (.cells #[.int .u64 0, .int .u64 0, .int .i64 0, .int .i64 0, .bool false, .slice none 0 0] 30)).heap.size ((w.alloc (.cells #[.int .u64 hi, .int .u64 lo, .int .i64 f, .int .i64 la, .bool su, .slice A n c] 30)).alloc (.cells #[.int .u64 0, .int .u64 0, .int .i64 0, .int .i64 0, .bool false, .slice none 0 0] 30)) w1 → w1.heap[w.heap.size]? = some (.cells #[.int .u64 hi, .int .u64 lo, .int .i64 f, .int .i64 la, .bool su, .slice A n c] 30) ∧ w1.heap[w.heap.size + 1]? = some (.cells #[.int .u64 0, .int .u64 0, .int .i64 0, .int .i64 0, .bool false, .slice none 0 0] 30) ∧ Below w.heap.size w w1 ∧ w.heap.size + 2 ≤ w1.heap.size) := Lib.hid (fun w1 hb => by
    have hs := hb.size
    rw [hzW] at hs
    exact ⟨(hb.block _ (by rw [hzW]; omega)).trans (two0 w _ _), (hb.block _ (by rw [hzW]; omega)).trans (two1 w _ _), (((Below.refl _ _).alloc (Nat.le_refl _) _).alloc (by simp <;> omega) _).trans (hb.mono (by rw [hzW]; omega)), hs⟩)
  have CP := Lib.hid (copies_any A l n c B ((w.alloc (.cells #[.int .u64 hi, .int .u64 lo, .int .i64 f, .int .i64 la, .bool su, .slice A n c] 30)).alloc (.cells #[.int .u64 0, .int .u64 0, .int .i64 0, .int .i64 0, .bool false, .slice none 0 0] 30)) hn (hy.keep (fun p hp => (World.cell?_alloc_lt _ _ p (by simp; omega)).trans (World.cell?_alloc_lt _ _ p (by omega)))) (by rw [hzW]; omega) hl ha)
  have HN := Lib.hid (show n = (l.map Ls.s).length by rw [List.length_map]; exact hn)
  have HZ := Lib.hid hzW
  clear hzW hy hn ha hl
  generalize l.map Ls.s = ls at *
  go_enter Try.func40, Try.ntmps40
  go_wp2_with (go_at_call 53; (with_reducible refine (CP.out).mono ?_); rintro e w1 ⟨v1, l1, rfl, ho1, hm1, hb1⟩; rw [HZ.out] at ho1; obtain ⟨A1, c1, hv1, hc1, _⟩ := ho1.rd; obtain ⟨n1, hn1⟩ : ∃ n1, n1 = l1.length := ⟨_, rfl⟩; rw [← hn1] at hv1; subst hv1; obtain ⟨hO, hP, hB1, hz1'⟩ := hBW.out _ hb1; have o0 : w1.cell? ⟨w.heap.size, 0, none⟩ = some (.int .u64 hi) := cell_of_row _ _ 0 _ _ (0, 0) hO; have p0 : w1.cell? ⟨w.heap.size + 1, 0, none⟩ = some (.int .u64 0) := cell_of_row _ _ 0 _ _ (0, 0) hP; have q0 : w1.frozen? ⟨w.heap.size + 1, 0, none⟩ = false := (by simp [World.frozen?, hP]); have o1 : w1.cell? ⟨w.heap.size, 1, none⟩ = some (.int .u64 lo) := cell_of_row _ _ 1 _ _ (0, 0) hO; have p1 : w1.cell? ⟨w.heap.size + 1, 1, none⟩ = some (.int .u64 0) := cell_of_row _ _ 1 _ _ (0, 0) hP; have q1 : w1.frozen? ⟨w.heap.size + 1, 1, none⟩ = false := (by simp [World.frozen?, hP]); have o2 : w1.cell? ⟨w.heap.size, 2, none⟩ = some (.int .i64 f) := cell_of_row _ _ 2 _ _ (0, 0) hO; have p2 : w1.cell? ⟨w.heap.size + 1, 2, none⟩ = some (.int .i64 0) := cell_of_row _ _ 2 _ _ (0, 0) hP; have q2 : w1.frozen? ⟨w.heap.size + 1, 2, none⟩ = false := (by simp [World.frozen?, hP]); have o3 : w1.cell? ⟨w.heap.size, 3, none⟩ = some (.int .i64 la) := cell_of_row _ _ 3 _ _ (0, 0) hO; have p3 : w1.cell? ⟨w.heap.size + 1, 3, none⟩ = some (.int .i64 0) := cell_of_row _ _ 3 _ _ (0, 0) hP; have q3 : w1.frozen? ⟨w.heap.size + 1, 3, none⟩ = false := (by simp [World.frozen?, hP]); have o4 : w1.cell? ⟨w.heap.size, 4, none⟩ = some (.bool su) := cell_of_row _ _ 4 _ _ (0, 0) hO; have p4 : w1.cell? ⟨w.heap.size + 1, 4, none⟩ = some (.bool false) := cell_of_row _ _ 4 _ _ (0, 0) hP; have q4 : w1.frozen? ⟨w.heap.size + 1, 4, none⟩ = false := (by simp [World.frozen?, hP]); have o5 : w1.cell? ⟨w.heap.size, 5, none⟩ = some (.slice A n c) := cell_of_row _ _ 5 _ _ (0, 0) hO; have p5 : w1.cell? ⟨w.heap.size + 1, 5, none⟩ = some (.slice none 0 0) := cell_of_row _ _ 5 _ _ (0, 0) hP; have q5 : w1.frozen? ⟨w.heap.size + 1, 5, none⟩ = false := (by simp [World.frozen?, hP]); have r5 : w1.frozen? ⟨w.heap.size, 5, none⟩ = false := (by simp [World.frozen?, hO]); have HO1 := Lib.hid ho1; have HB1 := Lib.hid hB1; have HM1 := Lib.hid hm1; have HN1 := Lib.hid hn1; clear ho1 hb1 hB1 hm1 hn1 hO hP hc1)
  have LB : Below w.heap.size w (((((((w1.setCell ⟨w.heap.size, 5, none⟩ (.slice A1 n1 c1)).setCell ⟨w.heap.size + 1, 0, none⟩ (.int .u64 hi)).setCell ⟨w.heap.size + 1, 1, none⟩ (.int .u64 lo)).setCell ⟨w.heap.size + 1, 2, none⟩ (.int .i64 f)).setCell ⟨w.heap.size + 1, 3, none⟩ (.int .i64 la)).setCell ⟨w.heap.size + 1, 4, none⟩ (.bool su)).setCell ⟨w.heap.size + 1, 5, none⟩ (.slice A1 n1 c1)) := by repeat' (first | (with_reducible exact HB1.out) | (refine Below.setCell ?_ (by simp) _))
  have LO : OwnSps (((((((w1.setCell ⟨w.heap.size, 5, none⟩ (.slice A1 n1 c1)).setCell ⟨w.heap.size + 1, 0, none⟩ (.int .u64 hi)).setCell ⟨w.heap.size + 1, 1, none⟩ (.int .u64 lo)).setCell ⟨w.heap.size + 1, 2, none⟩ (.int .i64 f)).setCell ⟨w.heap.size + 1, 3, none⟩ (.int .i64 la)).setCell ⟨w.heap.size + 1, 4, none⟩ (.bool su)).setCell ⟨w.heap.size + 1, 5, none⟩ (.slice A1 n1 c1)) (w.heap.size + 2) (.slice A1 n1 c1) l1 := by repeat' (first | (with_reducible exact HO1.out) | (refine OwnSps.far ?_ (by simp) _))
  refine bodyPost_ret (v := .agg #[.int .u64 hi, .int .u64 lo, .int .i64 f, .int .i64 la, .bool su, .slice A1 n1 c1]) (by simp [results, Try.results40, go_sem, p0, p1, p2, p3, p4, p5]) rfl ?_
  exact ⟨A1, n1, c1, l1, rfl, by rw [HN1.out, ← HM1.out, List.length_map], LO.mono (by omega), HM1.out, LB⟩

def hasId (l : List Sp) (id : Int) : Bool := l.any fun s => s.id == id
set_option maxHeartbeats 8000000 in
theorem has_any (A : Option Addr) (l : List Ls) (n c B : Nat) (id : Int) (w : World) (hn : n = l.length) (hy : RdSps w B A l) (hB : B ≤ w.heap.size) (hl : n ≤ 100000) :
    Calls Try.prog 62 #[.slice A n c, .int .u64 id] w fun e w' => e = .returned (.bool (hasId (l.map Ls.s) id)) ∧ Below w.heap.size w w' := by
  have HN := Lib.hid hn
  have HY := Lib.hid hy
  have HQ : Hid (hasId (l.map Ls.s) id = l.any (fun x => x.s.id == id)) := Lib.hid (by unfold hasId; rw [List.any_map]; rfl)
  generalize hasId (l.map Ls.s) id = hh at *
  clear hn hy
  go_enter Try.func62, Try.ntmps62
  go_wp2_with fail
  go_loopw [9] (fun i wr => ∃ k : Nat, i = .int .i64 k ∧ k ≤ n ∧ Hid ((l.take k).any (fun x => x.s.id == id) = false) ∧ Hid (Below w.heap.size w wr)) (fun i _ => n - (intOf i).toNat)
  case atStart => exact ⟨0, rfl, Nat.zero_le _, Lib.hid (by simp), Lib.hid (Below.refl _ _)⟩
  case round =>
    obtain ⟨k, rfl, hk, HK, HB⟩ := hrel
    by_cases hlt : k < n
    · obtain ⟨x, hx⟩ : ∃ x, l[k]? = some x := ⟨_, List.getElem?_eq_getElem (by rw [← HN.out]; exact hlt)⟩
      have HR : Hid (RdSps wr B A l) := Lib.hid (HY.out.below (HB.out.mono hB))
      have hBr : B ≤ wr.heap.size := Nat.le_trans hB HB.out.size
      obtain ⟨a, ha, hab, hc, _⟩ := HR.out.at_ hx
      subst ha
      have HX := Lib.hid hx
      obtain ⟨⟨x0, x1, x2, x3, x4, x5, x6, x7, x8, ats⟩, xA, xc⟩ := x
      have c0 := hc 0 _ rfl
      have c1 := cell_far (hc 1 _ rfl) (by omega)
      have c2 := cell_far (hc 2 _ rfl) (by omega)
      have c3 := cell_far (hc 3 _ rfl) (by omega)
      have c4 := cell_far (hc 4 _ rfl) (by omega)
      have c5 := cell_far (hc 5 _ rfl) (by omega)
      have c6 := cell_far (hc 6 _ rfl) (by omega)
      have c7 := cell_far (hc 7 _ rfl) (by omega)
      have c8 := cell_far (hc 8 _ rfl) (by omega)
      have c9 := cell_far (hc 9 _ rfl) (by omega)
      simp only [Nat.add_zero] at c0
      simp only at c9
      generalize ats.length = m at *
      have HBA : Hid (Below w.heap.size w (wr.alloc (.cells #[.int .u64 x0, .int .u64 x1, .int .u64 x2, .int .u64 x3, .string x4, .string x5, .int .i64 x6, .int .i64 x7, .bool x8, .slice xA m xc] 42))) := Lib.hid (HB.out.alloc HB.out.size _)
      clear hc hx
      by_cases hid : x2 = id
      · have e1 : (x2 == id) = true := by simpa using hid
        have HP : Hid (l.any (fun x => x.s.id == id) = true) := Lib.hid (by rw [List.any_eq_true]; exact ⟨_, List.mem_of_getElem? HX.out, e1⟩)
        clear hid
        go_wp2_with fail
        go_ret
        exact ⟨by rw [HQ.out, HP.out] <;> rfl, HBA.out⟩
      · have e1 : (x2 == id) = false := by simpa using hid
        have HP : Hid ((l.take (k + 1)).any (fun x => x.s.id == id) = false) := Lib.hid (by rw [List.take_add_one, HX.out, List.any_append, HK.out]; simp; exact hid)
        clear hid
        go_wp2_with fail
        go_roundw
        case rel => exact ⟨k + 1, by go_num, by omega, HP, HBA⟩
        case measure => simp [intOf]; omega
    · obtain rfl : k = n := by omega
      have HP : Hid (l.any (fun x => x.s.id == id) = false) := Lib.hid (by have := HK.out; rwa [List.take_of_length_le (by rw [← HN.out]; exact Nat.le_refl _)] at this)
      go_wp2_with fail
      go_ret
      exact ⟨by rw [HQ.out, HP.out] <;> rfl, HB.out⟩
end Go.Proofs.Ytenioeppmgmdiaa
