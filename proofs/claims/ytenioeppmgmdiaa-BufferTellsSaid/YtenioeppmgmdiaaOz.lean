/- buffer.Oldest. -/
import Derived.Test.YtenioeppmgmdiaaOo
namespace Go.Proofs.Ytenioeppmgmdiaa
open Go.RowKit
set_option linter.unusedVariables false
set_option linter.unusedSimpArgs false
set_option maxRecDepth 100000

theorem mem_same {a b : List Le} (h : a.map Le.ep = b.map Le.ep) {k : Nat} {x : Le} (hx : x ∈ b.take k) : ∃ y ∈ a.take k, y.f = x.f := by
  have h1 : x.ep ∈ (a.take k).map Le.ep := by rw [List.map_take, h, ← List.map_take]; exact List.mem_map_of_mem hx
  obtain ⟨y, hy, he⟩ := List.mem_map.1 h1
  exact ⟨y, hy, congrArg Ep.f he⟩
theorem MinTo.same {a b : List Le} (h : a.map Le.ep = b.map Le.ep) {k o : Nat} (hm : MinTo a k o) : MinTo b k o := by
  obtain ⟨e, h1, h2, h3⟩ := hm
  have h4 : (b.map Le.ep)[o]? = some e.ep := by rw [← h, List.getElem?_map, h1]; rfl
  rw [List.getElem?_map] at h4
  obtain ⟨x, hx, he⟩ := Option.map_eq_some_iff.1 h4
  have hf : x.f = e.f := congrArg Ep.f he
  refine ⟨x, hx, fun y hy => ?_, fun y hy => ?_⟩
  · obtain ⟨z, hz, hzf⟩ := mem_same h hy
    have := h2 z hz
    omega
  · obtain ⟨z, hz, hzf⟩ := mem_same h hy
    have := h3 z hz
    omega
def OldestOf (L : List Le) (w : World) (e : Ending) (w' : World) : Prop :=
  Below w.heap.size w w' ∧ ((L = [] ∧ e = .returned (.tuple #[.slice none 0 0, .agg #[.int .u64 0, .int .u64 0, .int .i64 0, .int .i64 0, .bool false, .slice none 0 0], .bool false])) ∨ (∃ (g m c : Nat) (l' : List Le) (k q ec : Nat) (th tl f la : Int) (su : Bool) (eA : Option Addr) (ls : List Ls), k < L.length ∧ q = ls.length ∧ m + 1 = L.length ∧ m < c ∧ c ≤ maxLen ∧ e = .returned (.tuple #[.slice (some ⟨g, 0, none⟩) m c, .agg #[.int .u64 th, .int .u64 tl, .int .i64 f, .int .i64 la, .bool su, .slice eA q ec], .bool true]) ∧ OwnEps w' w.heap.size (.slice (some ⟨g, 0, none⟩) m c) l' ∧ OwnE w' w.heap.size ⟨th, tl, f, la, su, ls, eA, ec⟩ ∧ l'.map Le.ep = (L.map Le.ep).eraseIdx k ∧ (L.map Le.ep)[k]? = some ⟨th, tl, f, la, su, ls.map Ls.s⟩ ∧ MinTo L L.length k))
set_option maxHeartbeats 16000000 in
theorem oldest_any (A : Option Addr) (l : List Le) (n c B : Nat) (w : World) (hn : n = l.length) (hy : RdEps w B A l) (hB : B ≤ w.heap.size) (hg : ModE l) :
    Calls Try.prog 20 #[.slice A n c] w (OldestOf l w) := by
  have HB0 : Hid (Below w.heap.size w (w.alloc (.cells #[.int .u64 0, .int .u64 0, .int .i64 0, .int .i64 0, .bool false, .slice none 0 0] 30))) := Lib.hid ((Below.refl _ _).alloc (Nat.le_refl _) _)
  have HR0 : Hid ((w.alloc (.cells #[.int .u64 0, .int .u64 0, .int .i64 0, .int .i64 0, .bool false, .slice none 0 0] 30)).heap[w.heap.size]? = some (.cells #[.int .u64 0, .int .u64 0, .int .i64 0, .int .i64 0, .bool false, .slice none 0 0] 30 (0, 0))) := Lib.hid (heap_alloc_new w _)
  have HZ0 : Hid ((w.alloc (.cells #[.int .u64 0, .int .u64 0, .int .i64 0, .int .i64 0, .bool false, .slice none 0 0] 30)).heap.size = w.heap.size + 1) := Lib.hid (by simp)
  have CPY := Lib.hid (ecopies_any A l n c B (w.alloc (.cells #[.int .u64 0, .int .u64 0, .int .i64 0, .int .i64 0, .bool false, .slice none 0 0] 30)) hn (hy.below (HB0.out.mono hB)) (by rw [HZ0.out]; omega) hg)
  have HG := Lib.hid hg
  clear hn hy hB hg
  go_enter Try.func20, Try.ntmps20
  go_wp2_with (go_at_call 39; (with_reducible refine CPY.out.mono ?_); rintro e w1 ⟨v1, l1, rfl, ho1, hm1, hb1⟩; have HO1 := Lib.hid ho1; have HM1 := Lib.hid hm1; have HB1 := Lib.hid hb1; clear ho1 hm1 hb1)
  have HL1 : Hid (l1.length = l.length) := Lib.hid (by have := congrArg List.length HM1.out; simpa using this)
  refine (oldown_any v1 l1 _ w1 HO1.out HB1.out.size (by rw [HL1.out]; exact HG.out.1)).mono ?_
  rintro e w2 ⟨hb2, h2⟩
  have HB2 := Lib.hid (HB1.out.trans hb2)
  have HR2 := Lib.hid ((HB2.out.block _ (by rw [HZ0.out]; omega)).trans HR0.out)
  have HBB := Lib.hid (HB0.out.trans (HB2.out.mono (by rw [HZ0.out]; omega)))
  have r0 : w2.cell? ⟨w.heap.size, 0, none⟩ = some (.int .u64 0) := cell_of_row _ _ 0 _ _ (0, 0) HR2.out
  have z0 : w2.frozen? ⟨w.heap.size, 0, none⟩ = false := by simp [World.frozen?, HR2.out]
  have r1 : w2.cell? ⟨w.heap.size, 1, none⟩ = some (.int .u64 0) := cell_of_row _ _ 1 _ _ (0, 0) HR2.out
  have z1 : w2.frozen? ⟨w.heap.size, 1, none⟩ = false := by simp [World.frozen?, HR2.out]
  have r2 : w2.cell? ⟨w.heap.size, 2, none⟩ = some (.int .i64 0) := cell_of_row _ _ 2 _ _ (0, 0) HR2.out
  have z2 : w2.frozen? ⟨w.heap.size, 2, none⟩ = false := by simp [World.frozen?, HR2.out]
  have r3 : w2.cell? ⟨w.heap.size, 3, none⟩ = some (.int .i64 0) := cell_of_row _ _ 3 _ _ (0, 0) HR2.out
  have z3 : w2.frozen? ⟨w.heap.size, 3, none⟩ = false := by simp [World.frozen?, HR2.out]
  have r4 : w2.cell? ⟨w.heap.size, 4, none⟩ = some (.bool false) := cell_of_row _ _ 4 _ _ (0, 0) HR2.out
  have z4 : w2.frozen? ⟨w.heap.size, 4, none⟩ = false := by simp [World.frozen?, HR2.out]
  have r5 : w2.cell? ⟨w.heap.size, 5, none⟩ = some (.slice none 0 0) := cell_of_row _ _ 5 _ _ (0, 0) HR2.out
  have z5 : w2.frozen? ⟨w.heap.size, 5, none⟩ = false := by simp [World.frozen?, HR2.out]
  clear hb2 CPY HB1 HO1
  rcases h2 with ⟨h3, rfl⟩ | ⟨g', m', c', k, q, ec, th, tl, f, la, su, eA, ls, hk, hq, hmm, hmc, hcm, rfl, ho, hx, he, hm⟩
  · have hl : l = [] := List.length_eq_zero_iff.1 (by rw [← HL1.out, h3]; rfl)
    subst hl
    clear h3
    go_wp2_with fail
    refine bodyPost_ret (v := .tuple #[.slice none 0 0, .agg #[.int .u64 0, .int .u64 0, .int .i64 0, .int .i64 0, .bool false, .slice none 0 0], .bool false]) (by simp [results, Try.results20, go_sem, r0, r1, r2, r3, r4, r5]) rfl ?_
    refine ⟨?_, .inl ⟨rfl, rfl⟩⟩
    repeat' (first | (with_reducible exact HBB.out) | (refine Below.setCell ?_ (by simp) _))
  · have HO := Lib.hid ho
    have HX := Lib.hid hx
    have HQ := Lib.hid hq
    have HK := Lib.hid (show k < l.length by rw [← HL1.out]; exact hk)
    have HE := Lib.hid (show (l.map Le.ep)[k]? = some ⟨th, tl, f, la, su, ls.map Ls.s⟩ by rw [← HM1.out, List.getElem?_map, he]; rfl)
    have HM := Lib.hid (hm.same HM1.out)
    have HMC : Hid (m' + 1 = l.length ∧ m' < c' ∧ c' ≤ maxLen) := Lib.hid ⟨by rw [← HL1.out]; exact hmm, hmc, hcm⟩
    have HBO : Hid ((Value.slice (some ⟨g', 0, none⟩) m' c').ownBlock ≠ some w.heap.size) := Lib.hid (fun hh => by have := own_block_ge HO.out.own _ hh; rw [HZ0.out] at this; omega)
    clear ho hx hq hk he hm hmm hmc hcm
    go_wp2_with fail
    refine bodyPost_ret (v := .tuple #[.slice (some ⟨g', 0, none⟩) m' c', .agg #[.int .u64 th, .int .u64 tl, .int .i64 f, .int .i64 la, .bool su, .slice eA q ec], .bool true]) (by simp [results, Try.results20, go_sem, r0, r1, r2, r3, r4, r5]) rfl ?_
    refine ⟨?_, .inr ⟨g', m', c', l1.eraseIdx k, k, q, ec, th, tl, f, la, su, eA, ls, HK.out, HQ.out, HMC.out.1, HMC.out.2.1, HMC.out.2.2, rfl, ?_, ?_, ?_, HE.out, by rw [← HL1.out]; exact HM.out⟩⟩
    · repeat' (first | (with_reducible exact HBB.out) | (refine Below.setCell ?_ (by simp) _))
    · exact OwnEps.setCells_other (HO.out.mono (by rw [HZ0.out]; omega)) HBO.out HR2.out [.int .u64 th,.int .u64 tl,.int .i64 f,.int .i64 la,.bool su,.slice eA q ec] 0
    · exact sps_setCells (w := w) (by decide) (by decide) [.int .u64 th,.int .u64 tl,.int .i64 f,.int .i64 la,.bool su,.slice eA q ec] 0 (HX.out.mono (by rw [HZ0.out]; omega)) HR2.out
    · rw [List.eraseIdx_eq_take_drop_succ, List.map_append, List.map_take, List.map_drop, HM1.out, ← List.eraseIdx_eq_take_drop_succ]
end Go.Proofs.Ytenioeppmgmdiaa
