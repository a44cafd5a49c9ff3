/- buffer.OldestOwn, buffer.Oldest. -/
import Derived.Test.YtenioeppmgmdiaaDl
import Derived.OneCell
import Derived.BigQuiet
namespace Go.Proofs.Ytenioeppmgmdiaa
open Go.RowKit
set_option linter.unusedVariables false
set_option linter.unusedSimpArgs false
set_option maxRecDepth 100000

/-- The first of those that began first, of the first k. -/
def MinTo (L : List Le) (k o : Nat) : Prop := ∃ e, L[o]? = some e ∧ (∀ x ∈ L.take k, e.f ≤ x.f) ∧ (∀ x ∈ L.take o, e.f < x.f)
theorem MinTo.zero {L : List Le} (h : 0 < L.length) : MinTo L 0 0 := ⟨L[0], List.getElem?_eq_getElem h, by simp, by simp⟩
theorem MinTo.less {L : List Le} {k o : Nat} {e x : Le} (h : MinTo L k o) (he : L[o]? = some e) (hx : L[k]? = some x) (hl : x.f < e.f) : MinTo L (k + 1) k := by
  obtain ⟨e', h1, h2, h3⟩ := h
  rw [he] at h1
  injection h1 with h1
  subst h1
  refine ⟨x, hx, fun y hy => ?_, fun y hy => by have := h2 y hy; omega⟩
  rw [List.take_add_one, hx] at hy
  rcases List.mem_append.1 hy with hy | hy
  · have := h2 y hy; omega
  · simp only [Option.toList_some, List.mem_singleton] at hy
    subst hy
    omega
theorem MinTo.more {L : List Le} {k o : Nat} {e x : Le} (h : MinTo L k o) (he : L[o]? = some e) (hx : L[k]? = some x) (hl : ¬ x.f < e.f) : MinTo L (k + 1) o := by
  obtain ⟨e', h1, h2, h3⟩ := h
  rw [he] at h1
  injection h1 with h1
  subst h1
  refine ⟨e, he, fun y hy => ?_, h3⟩
  rw [List.take_add_one, hx] at hy
  rcases List.mem_append.1 hy with hy | hy
  · exact h2 y hy
  · simp only [Option.toList_some, List.mem_singleton] at hy
    subst hy
    omega
theorem setCells_block (g : Nat) : ∀ (vs : List Value) (o : Nat) (w : World) (j : Nat), j ≠ g → (w.setCells g o vs).heap[j]? = w.heap[j]?
  | [], _, _, _, _ => rfl
  | u :: r, o, w, j, h => (setCells_block g r (o + 1) _ j h).trans (heap_setCell_other w ⟨g, o, none⟩ j u h)
theorem delW_block (w : World) (g i n : Nat) (xs : List Value) (j : Nat) (h : j ≠ g) : (delW w g i n xs).heap[j]? = w.heap[j]? := (setCells_block g _ _ _ j h).trans (setCells_block g _ _ _ j h)
theorem own_setCells_other {base size n : Nat} {e : TypeId} {v : Value} {xs : List Value} (b : Nat) (hb : v.ownBlock ≠ some b) : ∀ (vs : List Value) (o : Nat) {w : World}, w.ownsRow base e size v n xs → (w.setCells b o vs).ownsRow base e size v n xs
  | [], _, _, h => h
  | u :: r, o, w, h => own_setCells_other b hb r (o + 1) (ownsRow_setCell_other h (a := ⟨b, o, none⟩) hb u)
theorem OwnEps.setCells_other {base b : Nat} {v : Value} {l : List Le} {w : World} {cs : Array Value} (h : OwnEps w base v l) (hb : v.ownBlock ≠ some b) (hk : w.heap[b]? = some (.cells cs 30 (0, 0))) (vs : List Value) (o : Nat) : OwnEps (w.setCells b o vs) base v l :=
  ⟨own_setCells_other b hb vs o h.own, fun e he => sps_setCells (w := w) (by decide) (by decide) vs o (h.each e he) hk⟩
theorem drewNB {B : Nat} {a w : World} (h : Below B a w) (j : Nat) : Below B a (w.drewN j) := h.trans ⟨rfl, rfl, rfl, Nat.le_refl _, fun _ _ => rfl⟩
def OldOf (L : List Le) (base : Nat) (w : World) (e : Ending) (w' : World) : Prop :=
  Below base w w' ∧ ((L = [] ∧ e = .returned (.tuple #[.slice none 0 0, .agg #[.int .u64 0, .int .u64 0, .int .i64 0, .int .i64 0, .bool false, .slice none 0 0], .bool false])) ∨ (∃ (g m c k q ec : Nat) (th tl f la : Int) (su : Bool) (eA : Option Addr) (ls : List Ls), k < L.length ∧ q = ls.length ∧ m + 1 = L.length ∧ m < c ∧ c ≤ maxLen ∧ e = .returned (.tuple #[.slice (some ⟨g, 0, none⟩) m c, .agg #[.int .u64 th, .int .u64 tl, .int .i64 f, .int .i64 la, .bool su, .slice eA q ec], .bool true]) ∧ OwnEps w' base (.slice (some ⟨g, 0, none⟩) m c) (L.eraseIdx k) ∧ OwnE w' base ⟨th, tl, f, la, su, ls, eA, ec⟩ ∧ L[k]? = some ⟨th, tl, f, la, su, ls, eA, ec⟩ ∧ MinTo L L.length k))
set_option maxHeartbeats 16000000 in
theorem oldown_any (v : Value) (l : List Le) (base : Nat) (w : World) (ho : OwnEps w base v l) (hbase : base ≤ w.heap.size) (hg : l.length ≤ 100000) :
    Calls Try.prog 38 #[v] w (OldOf l base w) := by
  by_cases hn0 : l.length = 0
  · obtain rfl : l = [] := List.length_eq_zero_iff.1 hn0
    obtain ⟨A, c, rfl, _, _⟩ := ho.rd
    have hW : Hid ((w.alloc (.cells #[.int .u64 0, .int .u64 0, .int .i64 0, .int .i64 0, .bool false, .slice none 0 0] 30)).heap[w.heap.size]? = some (.cells #[.int .u64 0, .int .u64 0, .int .i64 0, .int .i64 0, .bool false, .slice none 0 0] 30 (0, 0))) := Lib.hid (heap_alloc_new w _)
    have HB : Hid (Below base w (w.alloc (.cells #[.int .u64 0, .int .u64 0, .int .i64 0, .int .i64 0, .bool false, .slice none 0 0] 30))) := Lib.hid ((Below.refl _ _).alloc hbase _)
    clear ho hn0
    go_enter Try.func38, Try.ntmps38
    go_wp2_with fail
    refine bodyPost_ret (v := .tuple #[.slice none 0 0, .agg #[.int .u64 0, .int .u64 0, .int .i64 0, .int .i64 0, .bool false, .slice none 0 0], .bool false]) (by simp [results, Try.results38, go_sem]) rfl ?_
    refine ⟨?_, .inl ⟨rfl, rfl⟩⟩
    repeat' (first | (with_reducible exact HB.out) | (with_reducible exact Below.refl _ _) | (refine Below.setCell ?_ (by simp; omega) _) | (with_reducible refine Below.alloc ?_ (by simp; omega) _))
  · obtain ⟨g, c, rfl⟩ := own_form (n := 0) ho (by omega)
    obtain ⟨n, hn⟩ : ∃ n, n = l.length := ⟨_, rfl⟩
    rw [← hn] at ho hg hn0 ⊢
    have HN := Lib.hid hn
    have HCC : Hid (n ≤ c ∧ c ≤ maxLen) := Lib.hid (by
      rcases ho.own.2 with ⟨h0, _⟩ | ⟨g', cap', cur, hv, _, hg, hnc, hcm, _⟩
      · cases h0
      · simp only [Value.slice.injEq, Option.some.injEq, Addr.mk.injEq] at hv
        obtain ⟨_, _, rfl⟩ := hv
        rw [hn]
        exact ⟨hnc, hcm⟩)
    obtain ⟨hbg, hgl, _⟩ := own_row_block ho hn
    have HBG := Lib.hid (And.intro hbg hgl)
    obtain ⟨w0, hw0⟩ : ∃ w0, w0 = (w.alloc (.cells #[.int .u64 0, .int .u64 0, .int .i64 0, .int .i64 0, .bool false, .slice none 0 0] 30)) := ⟨_, rfl⟩
    have HB0 : Hid (Below base w w0) := Lib.hid (by rw [hw0]; exact (Below.refl _ _).alloc hbase _)
    have HZ0 : Hid (w0.heap.size = w.heap.size + 1) := Lib.hid (by rw [hw0]; simp)
    have HR0 : Hid (w0.heap[w.heap.size]? = some (.cells #[.int .u64 0, .int .u64 0, .int .i64 0, .int .i64 0, .bool false, .slice none 0 0] 30 (0, 0))) := Lib.hid (by rw [hw0]; exact heap_alloc_new w _)
    have HO0 : Hid (OwnEps w0 base (.slice (some ⟨g, 0, none⟩) n c) l) := Lib.hid (by rw [hw0]; exact ho.below ((Below.refl _ _).alloc (Nat.le_refl _) _))
    have hnpos : 0 < n := by omega
    have d0 : ((n : Int) == 0) = false := by simp; omega
    have HW0 := Lib.hid hw0
    clear ho hn hbg hgl hn0
    go_enter Try.func38, Try.ntmps38
    go_wp2_with fail
    go_loopw [15, 5] (fun i o wr => ∃ k p : Nat, i = .int .i64 k ∧ o = .int .i64 p ∧ k ≤ n ∧ p < n ∧ Hid (MinTo l k p) ∧ Hid (Below w0.heap.size w0 wr)) (fun i _ _ => n - (intOf i).toNat)
    case atStart =>
      refine ⟨0, 0, rfl, rfl, Nat.zero_le _, hnpos, Lib.hid (MinTo.zero (by rw [← HN.out]; exact hnpos)), Lib.hid ?_⟩
      rw [HW0.out]
      exact Below.refl _ _
    case round =>
      obtain ⟨k, p, rfl, rfl, hk, hp, HM, HB⟩ := hrel
      have HOR := Lib.hid (HO0.out.below HB.out)
      obtain ⟨y, hy⟩ : ∃ y, l[p]? = some y := ⟨_, List.getElem?_eq_getElem (by rw [← HN.out]; exact hp)⟩
      by_cases hlt : k < n
      · obtain ⟨x, hx⟩ : ∃ x, l[k]? = some x := ⟨_, List.getElem?_eq_getElem (by rw [← HN.out]; exact hlt)⟩
        have HML := Lib.hid (fun h => HM.out.less hy hx h)
        have HMM := Lib.hid (fun h => HM.out.more hy hx h)
        obtain ⟨th, tl, f, la, su, ls, eA, ec⟩ := x
        obtain ⟨q, hq⟩ : ∃ q, q = ls.length := ⟨_, rfl⟩
        obtain ⟨yh, yl, yf, yla, ysu, yls, yA, yc⟩ := y
        have c0 : wr.cell? ⟨g, k * 6, none⟩ = some (.int .u64 th) := (own_ecell HOR.out HN.out hx 0 (by omega)).2
        have c1 : wr.cell? ⟨g, k * 6 + 1, none⟩ = some (.int .u64 tl) := (own_ecell HOR.out HN.out hx 1 (by omega)).2
        have c2 : wr.cell? ⟨g, k * 6 + 2, none⟩ = some (.int .i64 f) := (own_ecell HOR.out HN.out hx 2 (by omega)).2
        have c3 : wr.cell? ⟨g, k * 6 + 3, none⟩ = some (.int .i64 la) := (own_ecell HOR.out HN.out hx 3 (by omega)).2
        have c4 : wr.cell? ⟨g, k * 6 + 4, none⟩ = some (.bool su) := (own_ecell HOR.out HN.out hx 4 (by omega)).2
        have c5 : wr.cell? ⟨g, k * 6 + 5, none⟩ = some (.slice eA q ec) := by rw [hq]; exact (own_ecell HOR.out HN.out hx 5 (by omega)).2
        have HBA : Below wr.heap.size wr (wr.alloc (.cells #[.int .u64 th, .int .u64 tl, .int .i64 f, .int .i64 la, .bool su, .slice eA q ec] 30)) := (Below.refl _ _).alloc (Nat.le_refl _) _
        have y2 : (wr.alloc (.cells #[.int .u64 th, .int .u64 tl, .int .i64 f, .int .i64 la, .bool su, .slice eA q ec] 30)).cell? ⟨g, p * 6 + 2, none⟩ = some (.int .i64 yf) := (own_ecell (HOR.out.below HBA) HN.out hy 2 (by omega)).2
        have HBN : Hid (Below w0.heap.size w0 (wr.alloc (.cells #[.int .u64 th, .int .u64 tl, .int .i64 f, .int .i64 la, .bool su, .slice eA q ec] 30))) := Lib.hid (HB.out.alloc HB.out.size _)
        have hff : (f < yf) ∨ ¬ (f < yf) := Classical.em _
        simp only at HML HMM
        clear hx hy HM HBA hq
        rcases hff with hf | hf
        · have HMN := Lib.hid (HML.out hf)
          have e1 : decide (f < yf) = true := decide_eq_true hf
          clear HML HMM hf
          go_wp2_with fail
          go_quiet (fail)
          go_wp2_with fail
          go_roundw
          case rel => exact ⟨k + 1, k, by go_num, rfl, by omega, hlt, HMN, Lib.hid (drewNB HBN.out _)⟩
          case measure => simp [intOf]; omega
        · have HMN := Lib.hid (HMM.out hf)
          have e1 : decide (f < yf) = false := decide_eq_false hf
          clear HML HMM hf
          go_wp2_with fail
          go_quiet (fail)
          go_wp2_with fail
          go_roundw
          case rel => exact ⟨k + 1, p, by go_num, rfl, by omega, hp, HMN, Lib.hid (drewNB HBN.out _)⟩
          case measure => simp [intOf]; omega
      · obtain rfl : k = n := by omega
        have HY := Lib.hid hy
        obtain ⟨th, tl, f, la, su, ls, eA, ec⟩ := y
        obtain ⟨q, hq⟩ : ∃ q, q = ls.length := ⟨_, rfl⟩
        have c0 : wr.cell? ⟨g, p * 6, none⟩ = some (.int .u64 th) := (own_ecell HOR.out HN.out hy 0 (by omega)).2
        have c1 : wr.cell? ⟨g, p * 6 + 1, none⟩ = some (.int .u64 tl) := (own_ecell HOR.out HN.out hy 1 (by omega)).2
        have c2 : wr.cell? ⟨g, p * 6 + 2, none⟩ = some (.int .i64 f) := (own_ecell HOR.out HN.out hy 2 (by omega)).2
        have c3 : wr.cell? ⟨g, p * 6 + 3, none⟩ = some (.int .i64 la) := (own_ecell HOR.out HN.out hy 3 (by omega)).2
        have c4 : wr.cell? ⟨g, p * 6 + 4, none⟩ = some (.bool su) := (own_ecell HOR.out HN.out hy 4 (by omega)).2
        have c5 : wr.cell? ⟨g, p * 6 + 5, none⟩ = some (.slice eA q ec) := by rw [hq]; exact (own_ecell HOR.out HN.out hy 5 (by omega)).2
        have HQ := Lib.hid hq
        obtain ⟨w1, hw1⟩ : ∃ w1, w1 = wr.alloc (.cells #[.int .u64 th, .int .u64 tl, .int .i64 f, .int .i64 la, .bool su, .slice eA q ec] 30) := ⟨_, rfl⟩
        have HB1 : Hid (Below w0.heap.size w0 w1) := Lib.hid (by rw [hw1]; exact HB.out.alloc HB.out.size _)
        have HO1 : Hid (OwnEps w1 base (.slice (some ⟨g, 0, none⟩) k c) l) := Lib.hid (HO0.out.below HB1.out)
        have HN1 : Hid (w1.heap[wr.heap.size]? = some (.cells #[.int .u64 th, .int .u64 tl, .int .i64 f, .int .i64 la, .bool su, .slice eA q ec] 30 (0, 0))) := Lib.hid (by rw [hw1]; exact heap_alloc_new wr _)
        have HR1 : Hid (w1.heap[w.heap.size]? = some (.cells #[.int .u64 0, .int .u64 0, .int .i64 0, .int .i64 0, .bool false, .slice none 0 0] 30 (0, 0))) := Lib.hid ((HB1.out.block _ (by rw [HZ0.out]; omega)).trans HR0.out)
        clear hy hq
        have HOD : OwnEps w1.drew base (.slice (some ⟨g, 0, none⟩) k c) l := HO1.out.below (drewB w1)
        have HDL := HOD.del HN.out hp
        obtain ⟨w2, hw2⟩ : ∃ w2, w2 = delW w1.drew g p k (l.flatMap Le.cells) := ⟨_, rfl⟩
        have DEL : Hid (Calls Try.prog 52 #[.slice (some ⟨g, 0, none⟩) k c, .int .i64 (p : Int), .int .i64 ((p : Int) + 1)] w1.drew fun e w' => e = .returned (.slice (some ⟨g, 0, none⟩) (k - 1) c) ∧ w' = w2) := Lib.hid (by rw [hw2]; exact delete_any g k c p base l w1.drew HOD HN.out hp (by omega))
        rw [← hw2] at HDL
        have HO2 := Lib.hid HDL.1
        have HB2 := Lib.hid HDL.2.1
        have HK2 := Lib.hid HDL.2.2
        have HX2 : Hid (∀ j, j < w1.heap.size → j ≠ g → w2.heap[j]? = w1.heap[j]?) := Lib.hid (fun j hj hne => by rw [hw2]; exact delW_block _ _ _ _ _ j hne)
        have hgw : w.heap.size ≠ g := by have := HBG.out.2; omega
        have hgr : wr.heap.size ≠ g := by have := HBG.out.2; have := HB.out.size; have := HZ0.out; omega
        have hwr : w.heap.size < wr.heap.size := by have := HB.out.size; have := HZ0.out; omega
        have hw1s : wr.heap.size < w1.heap.size := by rw [hw1]; simp
        have HD1 : Hid (w1.drew.heap[wr.heap.size]? = some (.cells #[.int .u64 th, .int .u64 tl, .int .i64 f, .int .i64 la, .bool su, .slice eA q ec] 30 (0, 0))) := HN1
        have HN2 : Hid (w2.heap[wr.heap.size]? = some (.cells #[.int .u64 th, .int .u64 tl, .int .i64 f, .int .i64 la, .bool su, .slice eA q ec] 30 (0, 0))) := Lib.hid ((HX2.out _ hw1s hgr).trans HN1.out)
        have HR2 : Hid (w2.heap[w.heap.size]? = some (.cells #[.int .u64 0, .int .u64 0, .int .i64 0, .int .i64 0, .bool false, .slice none 0 0] 30 (0, 0))) := Lib.hid ((HX2.out _ (by omega) hgw).trans HR1.out)
        have b0 : w1.drew.cell? ⟨wr.heap.size, 0, none⟩ = some (.int .u64 th) := cell_of_row _ _ 0 _ _ (0, 0) HD1.out
        have b1 : w1.drew.cell? ⟨wr.heap.size, 1, none⟩ = some (.int .u64 tl) := cell_of_row _ _ 1 _ _ (0, 0) HD1.out
        have b2 : w1.drew.cell? ⟨wr.heap.size, 2, none⟩ = some (.int .i64 f) := cell_of_row _ _ 2 _ _ (0, 0) HD1.out
        have b3 : w1.drew.cell? ⟨wr.heap.size, 3, none⟩ = some (.int .i64 la) := cell_of_row _ _ 3 _ _ (0, 0) HD1.out
        have b4 : w1.drew.cell? ⟨wr.heap.size, 4, none⟩ = some (.bool su) := cell_of_row _ _ 4 _ _ (0, 0) HD1.out
        have b5 : w1.drew.cell? ⟨wr.heap.size, 5, none⟩ = some (.slice eA q ec) := cell_of_row _ _ 5 _ _ (0, 0) HD1.out
        have a0 : w2.cell? ⟨wr.heap.size, 0, none⟩ = some (.int .u64 th) := cell_of_row _ _ 0 _ _ (0, 0) HN2.out
        have a1 : w2.cell? ⟨wr.heap.size, 1, none⟩ = some (.int .u64 tl) := cell_of_row _ _ 1 _ _ (0, 0) HN2.out
        have a2 : w2.cell? ⟨wr.heap.size, 2, none⟩ = some (.int .i64 f) := cell_of_row _ _ 2 _ _ (0, 0) HN2.out
        have a3 : w2.cell? ⟨wr.heap.size, 3, none⟩ = some (.int .i64 la) := cell_of_row _ _ 3 _ _ (0, 0) HN2.out
        have a4 : w2.cell? ⟨wr.heap.size, 4, none⟩ = some (.bool su) := cell_of_row _ _ 4 _ _ (0, 0) HN2.out
        have a5 : w2.cell? ⟨wr.heap.size, 5, none⟩ = some (.slice eA q ec) := cell_of_row _ _ 5 _ _ (0, 0) HN2.out
        have r0 : w2.cell? ⟨w.heap.size, 0, none⟩ = some (.int .u64 0) := cell_of_row _ _ 0 _ _ (0, 0) HR2.out
        have z0 : w2.frozen? ⟨w.heap.size, 0, none⟩ = false := by simp [World.frozen?, HR2.out]
        have r1 : w2.cell? ⟨w.heap.size, 1, none⟩ = some (.int .u64 0) := cell_of_row _ _ 1 _ _ (0, 0) HR2.out
        have z1 : w2.frozen? ⟨w.heap.size, 1, none⟩ = false := by simp [World.frozen?, HR2.out]
        have r2 : w2.cell? ⟨w.heap.size, 2, none⟩ = some (.int .i64 0) := cell_of_row _ _ 2 _ _ (0, 0) HR2.out
        have z2 : w2.frozen? ⟨w.heap.size, 2, none⟩ = false := by simp [World.frozen?, HR2.out]
        have r3 : w2.cell? ⟨w.heap.size, 3, none⟩ = some (.int .i64 0) := cell_of_row _ _ 3 _ _ (0, 0) HR2.out
        have z3 : w2.frozen? ⟨w.heap.size, 3, none⟩ = false := by simp [World.frozen?, HR2.out]
        have r4 : w2.cell? ⟨w.heap.size, 4, none⟩ = some (.bool false) := cell_of_row _ _ 4 _ _ (0, 0) HR2.out
        have z4 : w2.frozen? ⟨w.heap.size, 4, none⟩ = false := by simp [World.frozen?, HR2.out]
        have r5 : w2.cell? ⟨w.heap.size, 5, none⟩ = some (.slice none 0 0) := cell_of_row _ _ 5 _ _ (0, 0) HR2.out
        have z5 : w2.frozen? ⟨w.heap.size, 5, none⟩ = false := by simp [World.frozen?, HR2.out]
        have e1 : IntKind.i64.wrap ((p : Int) + 1) = (p : Int) + 1 := by rw [IntKind.wrap_i64] <;> omega
        have HW1 := Lib.hid hw1
        clear HDL HOD hw2 hgr hw1
        go_wp2_with fail
        rw [← HW1.out]
        go_region_with (go_at_call 52; refine DEL.out.mono ?_; rintro e w5 ⟨rfl, rfl⟩)
        all_goals
          simp only [Act.put, List.getElem_toArray, List.getElem_cons_zero, List.getElem_cons_succ, List.setIfInBounds_toArray, List.set_cons_zero, List.set_cons_succ]
          go_wp2_with fail
          refine bodyPost_ret (v := .tuple #[.slice (some ⟨g, 0, none⟩) (k - 1) c, .agg #[.int .u64 th, .int .u64 tl, .int .i64 f, .int .i64 la, .bool su, .slice eA q ec], .bool true]) (by simp [results, Try.results38, go_sem, r0, r1, r2, r3, r4, r5]) rfl ?_
          refine ⟨?_, .inr ⟨g, k - 1, c, p, q, ec, th, tl, f, la, su, eA, ls, by rw [← HN.out]; exact hp, HQ.out, by rw [← HN.out]; omega, by have := HCC.out.1; omega, HCC.out.2, rfl, ?_, ?_, HY.out, by rw [← HN.out]; exact HM.out⟩⟩
          · have hb := ((HB0.out.trans (HB1.out.mono (by have := HB0.out.size; have := HZ0.out; omega))).trans ((drewB w1).mono (by have := HB1.out.size; have := HZ0.out; omega))).trans HB2.out
            repeat' (first | (with_reducible exact hb) | (refine Below.setCell ?_ (by simp; omega) _))
          · exact OwnEps.setCells_other HO2.out (by simp [Value.ownBlock]; omega) HR2.out [.int .u64 th,.int .u64 tl,.int .i64 f,.int .i64 la,.bool su,.slice eA q ec] 0
          · exact sps_setCells (w := w) (by decide) (by decide) [.int .u64 th,.int .u64 tl,.int .i64 f,.int .i64 la,.bool su,.slice eA q ec] 0 (HK2.out _ _ (OwnSps.below (HO1.out.each _ (List.mem_of_getElem? HY.out)) (drewB w1))) HR2.out
end Go.Proofs.Ytenioeppmgmdiaa
