/- The document's Spans: the spans of all episodes of a trace, each once. -/
import Derived.Test.YtjjklinjcbonkaaDa
import Derived.Test.YtjjklinjcbonkaaEp
import Derived.Test.YtjjklinjcbonkaaJm
import Derived.Test.YtjjklinjcbonkaaDl
import Derived.RegionTactic
import Derived.ChangeAlike
import Derived.BigRegion
namespace Go.Proofs.Ytjjklinjcbonkaa
open Go.RowKit
set_option linter.unusedVariables false
set_option linter.unusedSimpArgs false
set_option maxRecDepth 100000

def dst (a : List Sp) (s : Sp) : List Sp := if hasId a s.id then a else a ++ [s]
theorem has_mem (a : List Sp) (id : Int) : hasId a id = true ↔ id ∈ a.map Sp.id := by
  unfold hasId
  rw [List.any_eq_true, List.mem_map]
  constructor
  · rintro ⟨s, h1, h2⟩; exact ⟨s, h1, by simpa using h2⟩
  · rintro ⟨s, h1, h2⟩; exact ⟨s, h1, by simpa using h2⟩
theorem dst_spn : ∀ (L : List Sp) (a : List Sp × List Int), (∀ id, id ∈ a.2 ↔ id ∈ a.1.map Sp.id) → (L.foldl spn a).1 = L.foldl dst a.1
  | [], _, _ => rfl
  | s :: L, a, h => by
    rw [List.foldl_cons, List.foldl_cons]
    refine (dst_spn L (spn a s) (spn_mem [s] a h)).trans ?_
    congr 1
    unfold spn dst
    simp only
    by_cases hm : s.id ∈ a.2
    · rw [if_neg (by have := List.count_pos_iff.2 hm; omega), if_pos ((has_mem _ _).2 ((h _).1 hm))]
    · rw [if_pos (List.count_eq_zero.2 hm), if_neg (fun hh => hm ((h _).2 ((has_mem _ _).1 hh)))]
theorem spAll_dst (th tl : Int) (l : List Le) (k : Nat) (e : Le) (he : l[k]? = some e) : (spAll th tl (l.take (k + 1))).1 = (epSps th tl e).foldl dst (spAll th tl (l.take k)).1 := by
  rw [spAll_step th tl l k e he, dst_spn _ _ (spAll_mem th tl _)]
/-- Spans in a row of one's own, their attributes somebody else's. -/
structure RowSps (w : World) (base B : Nat) (v : Value) (l : List Ls) : Prop where
  own : w.ownsRow base 31 10 v l.length (l.flatMap Ls.cells)
  each : ∀ x ∈ l, RdL w B x
section
variable {w w' : World} {base B : Nat} {v : Value} {l : List Ls}
theorem RowSps.below (h : RowSps w base B v l) (hb : Below w.heap.size w w') (hB : B ≤ w.heap.size) : RowSps w' base B v l := ⟨own_below h.own hb, fun x hx => (h.each x hx).below (hb.mono hB)⟩
theorem RowSps.far (h : RowSps w base B v l) {p : Addr} (hp : p.block < base) (hB : B ≤ p.block) (u : Value) : RowSps (w.setCell p u) base B v l := ⟨own_far h.own hp u, fun x hx => (h.each x hx).below ((Below.refl _ _).setCell hB u)⟩
theorem RowSps.rd (h : RowSps w base B v l) (hB : B ≤ w.heap.size) : ∃ A c, v = .slice A l.length c ∧ l.length ≤ c ∧ RdSps w w.heap.size A l := by
  obtain ⟨A, c, hv, hc, hr⟩ := own_rd h.own
  exact ⟨A, c, hv, hc, hr, fun x hx => (h.each x hx).more hB⟩
theorem RowSps.nil (w : World) (base B : Nat) : RowSps w base B (.slice none 0 0) [] := ⟨World.ownsRow_nil _ _ _ _, fun _ h => by cases h⟩
end
theorem dst_step {l : List Sp} {k : Nat} {s : Sp} (a : List Sp) (h : l[k]? = some s) : (l.take (k + 1)).foldl dst a = dst ((l.take k).foldl dst a) s := by
  rw [List.take_add_one, h, List.foldl_append]
  rfl
theorem dst_len : ∀ (l a : List Sp), (l.foldl dst a).length ≤ a.length + l.length
  | [], a => by simp
  | s :: l, a => by
    rw [List.foldl_cons]
    have h1 := dst_len l (dst a s)
    have h2 : (dst a s).length ≤ a.length + 1 := by unfold dst; split <;> simp
    simp only [List.length_cons]
    omega
theorem six_store {w : World} {g : Nat} {t : TypeId} {a0 a1 a2 a3 a4 a5 v0 v1 v2 v3 v4 v5 : Value} (h : w.heap[g]? = some (.cells #[a0, a1, a2, a3, a4, a5] t (0, 0))) : ((((((w.setCell ⟨g, 0, none⟩ v0).setCell ⟨g, 1, none⟩ v1).setCell ⟨g, 2, none⟩ v2).setCell ⟨g, 3, none⟩ v3).setCell ⟨g, 4, none⟩ v4).setCell ⟨g, 5, none⟩ v5).heap[g]? = some (.cells #[v0, v1, v2, v3, v4, v5] t (0, 0)) := by
  have h0 := heap_setCell_same _ g 0 _ _ v0 h
  have h1 := heap_setCell_same _ g 1 _ _ v1 h0
  have h2 := heap_setCell_same _ g 2 _ _ v2 h1
  have h3 := heap_setCell_same _ g 3 _ _ v3 h2
  have h4 := heap_setCell_same _ g 4 _ _ v4 h3
  have h5 := heap_setCell_same _ g 5 _ _ v5 h4
  exact h5
theorem setCells_blk (g : Nat) : ∀ (vs : List Value) (o : Nat) (w : World) (j : Nat), j ≠ g → (w.setCells g o vs).heap[j]? = w.heap[j]?
  | [], _, _, _, _ => rfl
  | u :: r, o, w, j, h => (setCells_blk g r (o + 1) _ j h).trans (heap_setCell_other w ⟨g, o, none⟩ j u h)
theorem spAll_len (th tl : Int) (l : List Le) (h : ∀ e ∈ l, e.l.length ≤ 300) : (spAll th tl l).1.length ≤ l.length * 300 := by
  have h1 := (spn_len (l.flatMap (epSps th tl)) ([], [])).2
  have h2 : ∀ l : List Le, (∀ e ∈ l, e.l.length ≤ 300) → (l.flatMap (epSps th tl)).length ≤ l.length * 300 := fun l => by
    induction l with
    | nil => intro _; simp
    | cons x r ih =>
      intro h
      have h3 := ih (fun e he => h e (List.mem_cons_of_mem _ he))
      have h4 : (epSps th tl x).length ≤ 300 := by
        unfold epSps
        split
        · rw [List.length_map]; exact h x (List.mem_cons_self ..)
        · simp
      rw [List.flatMap_cons, List.length_append, List.length_cons]
      omega
  have h3 := h2 l h
  simp only [List.length_nil] at h1
  unfold spAll
  omega
theorem rowN {la : List Ls} {S : List Value} {q : Nat} {v : Value} (j : Nat) (hq : q = la.length) (h : S[j]? = some v) : (la.flatMap Ls.cells ++ S)[q * 10 + j]? = some v := by
  have hl : (la.flatMap Ls.cells).length = q * 10 := by rw [hq]; exact flatMap_len _ 10 cells_len la
  rw [List.getElem?_append_right (by omega), hl, Nat.add_sub_cancel_left]
  exact h
def DSpansOf (L : List Sp) (w : World) (e : Ending) (w' : World) : Prop := ∃ (A : Option Addr) (c : Nat) (l : List Ls), e = .returned (.slice A l.length c) ∧ RdSps w' w'.heap.size A l ∧ l.map Ls.s = L ∧ Below w.heap.size w w'
set_option maxHeartbeats 32000000 in
theorem dspans_any (A : Option Addr) (l : List Le) (n c B : Nat) (th tl : Int) (w : World) (hn : n = l.length) (hy : RdEps w B A l) (hB : B ≤ w.heap.size) (hl : n ≤ 300) (he : ∀ e ∈ l, e.l.length ≤ 300) :
    Calls Try.prog 15 #[.slice A n c, .agg #[.int .u64 th, .int .u64 tl]] w (DSpansOf (spAll th tl l).1 w) := by
  have HN := Lib.hid hn
  have HY := Lib.hid hy
  have HE9 := Lib.hid he
  clear hn hy he
  go_enter Try.func15, Try.ntmps15
  go_wp2_with fail
  go_loopw [6] (fun v wr => ∃ (i q c2 : Nat) (A2 : Option Addr) (la : List Ls), v = .int .i64 i ∧ i ≤ n ∧ Hid (wr.heap[w.heap.size]? = some (.cells #[.int .u64 th, .int .u64 tl] 25)) ∧ Hid (wr.heap[w.heap.size + 1]? = some (.cells #[.int .u64 th, .int .u64 tl, .int .i64 0, .int .i64 0, .bool false, .slice A2 q c2] 28)) ∧ Hid (q = la.length ∧ RowSps wr (w.heap.size + 1 + 1) B (.slice A2 q c2) la) ∧ Hid (la.map Ls.s = (spAll th tl (l.take i)).1) ∧ Hid (Below w.heap.size w wr)) (fun v _ => n - (intOf v).toNat)
  case atStart =>
    refine ⟨0, 0, 0, none, [], rfl, Nat.zero_le _, Lib.hid ?_, Lib.hid ?_, Lib.hid ⟨rfl, RowSps.nil _ _ _⟩, Lib.hid (by simp [spAll]), Lib.hid ?_⟩
    · exact two0 w _ _
    · exact two1 w _ _
    · exact ((Below.refl _ _).alloc (Nat.le_refl _) _).alloc (by simp) _
  case round =>
    obtain ⟨i, q, c2, A2, la, rfl, hi, HT, HE, HR, HM, HB⟩ := hrel
    by_cases hlt : i < n
    · obtain ⟨x, hx⟩ : ∃ x, l[i]? = some x := ⟨_, List.getElem?_eq_getElem (by rw [← HN.out]; exact hlt)⟩
      have HX := Lib.hid hx
      have hml := HE9.out x (List.mem_of_getElem? hx)
      obtain ⟨p, hp⟩ : ∃ p, p = x.l.length := ⟨_, rfl⟩
      rw [← hp] at hml
      have HP := Lib.hid hp
      clear hx hp
      go_wp2_with fail
      go_loopw [7] (fun v wr => ∃ (k q c2 : Nat) (A2 : Option Addr) (la : List Ls), v = .int .i64 k ∧ k ≤ p ∧ Hid (¬ (x.hi = th ∧ x.lo = tl) → k = 0) ∧ Hid (wr.heap[w.heap.size]? = some (.cells #[.int .u64 th, .int .u64 tl] 25)) ∧ Hid (wr.heap[w.heap.size + 1]? = some (.cells #[.int .u64 th, .int .u64 tl, .int .i64 0, .int .i64 0, .bool false, .slice A2 q c2] 28)) ∧ Hid (q = la.length ∧ RowSps wr (w.heap.size + 1 + 1) B (.slice A2 q c2) la) ∧ Hid (la.map Ls.s = ((x.l.map Ls.s).take k).foldl dst (spAll th tl (l.take i)).1) ∧ Hid (Below w.heap.size w wr)) (fun v _ => p - (intOf v).toNat)
      case atStart => exact ⟨0, q, c2, A2, la, rfl, Nat.zero_le _, Lib.hid (fun _ => rfl), HT, HE, HR, Lib.hid (by simpa using HM.out), HB⟩
      case round =>
        clear HT HE HR HM HB
        obtain ⟨k, q, c2, A2, la, rfl, hk, HK0, HT, HE, HR, HM, HB⟩ := hrel
        have t0 : wr.cell? ⟨w.heap.size, 0, none⟩ = some (.int .u64 th) := cell_of_row _ _ 0 _ _ (0, 0) HT.out
        have t1 : wr.cell? ⟨w.heap.size, 1, none⟩ = some (.int .u64 tl) := cell_of_row _ _ 1 _ _ (0, 0) HT.out
        obtain ⟨xh, xl, xf, xla, xsu, xls, eA, ec⟩ := x
        simp only at HP HK0 HM
        obtain ⟨a, ha, hab, c0, c1, c2', c3, c4, c5, hrd⟩ := epcells (HY.out.below (HB.out.mono hB)) HX.out p HP.out
        subst ha
        have HRD := Lib.hid hrd
        clear hrd c2' c3 c4
        by_cases hkp : k < p
        · by_cases hxt : xh = th ∧ xl = tl
          · obtain ⟨rfl, rfl⟩ := hxt
            obtain ⟨y, hy⟩ : ∃ y, xls[k]? = some y := ⟨_, List.getElem?_eq_getElem (by rw [← HP.out]; exact hkp)⟩
            have HYK := Lib.hid hy
            obtain ⟨ad, had, hadb, hc, hyl⟩ := HRD.out.at_ hy
            subst had
            obtain ⟨⟨x0, x1, x2, x3, x4, x5, x6, x7, x8, ats⟩, xA, xc⟩ := y
            have HYL := Lib.hid hyl
            have HC := Lib.hid hc
            obtain ⟨m, hm⟩ : ∃ m, m = ats.length := ⟨_, rfl⟩
            have HMA := Lib.hid hm
            clear hy hc hyl hm
            go_wp2_with fail
            go_quiet (fail)
            obtain ⟨W1, hW1⟩ : ∃ W1, W1 = wr.drewN nq := ⟨_, rfl⟩
            rw [← hW1]
            have HBW := Lib.hid (show Below wr.heap.size wr W1 by rw [hW1]; exact drewND (Below.refl _ _) _)
            have HB1 : Hid (Below w.heap.size w W1) := Lib.hid (HB.out.trans (HBW.out.mono HB.out.size))
            have hBw : B ≤ W1.heap.size := Nat.le_trans hB HB1.out.size
            have HT1 : Hid (W1.heap[w.heap.size]? = some (.cells #[.int .u64 xh, .int .u64 xl] 25)) := Lib.hid (by rw [hW1]; exact HT.out)
            have HE1 : Hid (W1.heap[w.heap.size + 1]? = some (.cells #[.int .u64 xh, .int .u64 xl, .int .i64 0, .int .i64 0, .bool false, .slice A2 q c2] 28)) := Lib.hid (by rw [hW1]; exact HE.out)
            have HR1 : Hid (q = la.length ∧ RowSps W1 (w.heap.size + 1 + 1) B (.slice A2 q c2) la) := Lib.hid ⟨HR.out.1, HR.out.2.below HBW.out (Nat.le_trans hB HB.out.size)⟩
            have HRD1 : Hid (RdSps W1 B (some ad) xls) := Lib.hid (HRD.out.below (HBW.out.mono (Nat.le_trans hB HB.out.size)))
            have HYL1 : Hid (RdL W1 B ⟨⟨x0, x1, x2, x3, x4, x5, x6, x7, x8, ats⟩, xA, xc⟩) := Lib.hid (HYL.out.below (HBW.out.mono (Nat.le_trans hB HB.out.size)))
            have hoe : w.heap.size + 1 < W1.heap.size := in_heap HE1.out
            have u0 : W1.cell? ⟨w.heap.size, 0, none⟩ = some (.int .u64 xh) := cell_of_row _ _ 0 _ _ (0, 0) HT1.out
            have u1 : W1.cell? ⟨w.heap.size, 1, none⟩ = some (.int .u64 xl) := cell_of_row _ _ 1 _ _ (0, 0) HT1.out
            have v5 : W1.cell? ⟨(a.add (i * 6)).block, (a.add (i * 6)).off + 5, none⟩ = some (.slice (some ad) p ec) := by rw [hW1]; exact c5
            have e0 : W1.cell? ⟨w.heap.size + 1, 0, none⟩ = some (.int .u64 xh) := cell_of_row _ _ 0 _ _ (0, 0) HE1.out
            have f0 : W1.frozen? ⟨w.heap.size + 1, 0, none⟩ = false := by simp [World.frozen?, HE1.out]
            have e1 : W1.cell? ⟨w.heap.size + 1, 1, none⟩ = some (.int .u64 xl) := cell_of_row _ _ 1 _ _ (0, 0) HE1.out
            have f1 : W1.frozen? ⟨w.heap.size + 1, 1, none⟩ = false := by simp [World.frozen?, HE1.out]
            have e2 : W1.cell? ⟨w.heap.size + 1, 2, none⟩ = some (.int .i64 0) := cell_of_row _ _ 2 _ _ (0, 0) HE1.out
            have f2 : W1.frozen? ⟨w.heap.size + 1, 2, none⟩ = false := by simp [World.frozen?, HE1.out]
            have e3 : W1.cell? ⟨w.heap.size + 1, 3, none⟩ = some (.int .i64 0) := cell_of_row _ _ 3 _ _ (0, 0) HE1.out
            have f3 : W1.frozen? ⟨w.heap.size + 1, 3, none⟩ = false := by simp [World.frozen?, HE1.out]
            have e4 : W1.cell? ⟨w.heap.size + 1, 4, none⟩ = some (.bool false) := cell_of_row _ _ 4 _ _ (0, 0) HE1.out
            have f4 : W1.frozen? ⟨w.heap.size + 1, 4, none⟩ = false := by simp [World.frozen?, HE1.out]
            have e5 : W1.cell? ⟨w.heap.size + 1, 5, none⟩ = some (.slice A2 q c2) := cell_of_row _ _ 5 _ _ (0, 0) HE1.out
            have f5 : W1.frozen? ⟨w.heap.size + 1, 5, none⟩ = false := by simp [World.frozen?, HE1.out]
            have HC1 : Hid (∀ j u, (Ls.mk ⟨x0, x1, x2, x3, x4, x5, x6, x7, x8, ats⟩ xA xc).cells[j]? = some u → W1.cell? (ad.add (k * 10 + j)) = some u) := Lib.hid (by rw [hW1]; exact HC.out)
            have d0 : W1.cell? (ad.add (k * 10)) = some (.int .u64 x0) := by have := HC1.out 0 _ rfl; simpa only [Nat.add_zero] using this
            have d1 : W1.cell? ⟨(ad.add (k * 10)).block, (ad.add (k * 10)).off + 1, none⟩ = some (.int .u64 x1) := cell_far (HC1.out 1 _ rfl) (by omega)
            have d2 : W1.cell? ⟨(ad.add (k * 10)).block, (ad.add (k * 10)).off + 2, none⟩ = some (.int .u64 x2) := cell_far (HC1.out 2 _ rfl) (by omega)
            have d3 : W1.cell? ⟨(ad.add (k * 10)).block, (ad.add (k * 10)).off + 3, none⟩ = some (.int .u64 x3) := cell_far (HC1.out 3 _ rfl) (by omega)
            have d4 : W1.cell? ⟨(ad.add (k * 10)).block, (ad.add (k * 10)).off + 4, none⟩ = some (.string x4) := cell_far (HC1.out 4 _ rfl) (by omega)
            have d5 : W1.cell? ⟨(ad.add (k * 10)).block, (ad.add (k * 10)).off + 5, none⟩ = some (.string x5) := cell_far (HC1.out 5 _ rfl) (by omega)
            have d6 : W1.cell? ⟨(ad.add (k * 10)).block, (ad.add (k * 10)).off + 6, none⟩ = some (.int .i64 x6) := cell_far (HC1.out 6 _ rfl) (by omega)
            have d7 : W1.cell? ⟨(ad.add (k * 10)).block, (ad.add (k * 10)).off + 7, none⟩ = some (.int .i64 x7) := cell_far (HC1.out 7 _ rfl) (by omega)
            have d8 : W1.cell? ⟨(ad.add (k * 10)).block, (ad.add (k * 10)).off + 8, none⟩ = some (.bool x8) := cell_far (HC1.out 8 _ rfl) (by omega)
            have d9 : W1.cell? ⟨(ad.add (k * 10)).block, (ad.add (k * 10)).off + 9, none⟩ = some (.slice xA m xc) := by rw [HMA.out]; exact cell_far (HC1.out 9 _ rfl) (by omega)
            have HX1 : Hid ((W1.alloc (.cells #[.int .u64 x0, .int .u64 x1, .int .u64 x2, .int .u64 x3, .string x4, .string x5, .int .i64 x6, .int .i64 x7, .bool x8, .slice xA m xc] 31)).heap[w.heap.size]? = some (.cells #[.int .u64 xh, .int .u64 xl] 25) ∧ (W1.alloc (.cells #[.int .u64 x0, .int .u64 x1, .int .u64 x2, .int .u64 x3, .string x4, .string x5, .int .i64 x6, .int .i64 x7, .bool x8, .slice xA m xc] 31)).heap[w.heap.size + 1]? = some (.cells #[.int .u64 xh, .int .u64 xl, .int .i64 0, .int .i64 0, .bool false, .slice A2 q c2] 28)) := Lib.hid ⟨(heap_alloc_old W1 _ (by omega)).trans HT1.out, (heap_alloc_old W1 _ hoe).trans HE1.out⟩
            have m0 : (W1.alloc (.cells #[.int .u64 x0, .int .u64 x1, .int .u64 x2, .int .u64 x3, .string x4, .string x5, .int .i64 x6, .int .i64 x7, .bool x8, .slice xA m xc] 31)).cell? ⟨w.heap.size, 0, none⟩ = some (.int .u64 xh) := cell_of_row _ _ 0 _ _ (0, 0) HX1.out.1
            have m1 : (W1.alloc (.cells #[.int .u64 x0, .int .u64 x1, .int .u64 x2, .int .u64 x3, .string x4, .string x5, .int .i64 x6, .int .i64 x7, .bool x8, .slice xA m xc] 31)).cell? ⟨w.heap.size, 1, none⟩ = some (.int .u64 xl) := cell_of_row _ _ 1 _ _ (0, 0) HX1.out.1
            have n0 : (W1.alloc (.cells #[.int .u64 x0, .int .u64 x1, .int .u64 x2, .int .u64 x3, .string x4, .string x5, .int .i64 x6, .int .i64 x7, .bool x8, .slice xA m xc] 31)).cell? ⟨w.heap.size + 1, 0, none⟩ = some (.int .u64 xh) := cell_of_row _ _ 0 _ _ (0, 0) HX1.out.2
            have n1 : (W1.alloc (.cells #[.int .u64 x0, .int .u64 x1, .int .u64 x2, .int .u64 x3, .string x4, .string x5, .int .i64 x6, .int .i64 x7, .bool x8, .slice xA m xc] 31)).cell? ⟨w.heap.size + 1, 1, none⟩ = some (.int .u64 xl) := cell_of_row _ _ 1 _ _ (0, 0) HX1.out.2
            have n2 : (W1.alloc (.cells #[.int .u64 x0, .int .u64 x1, .int .u64 x2, .int .u64 x3, .string x4, .string x5, .int .i64 x6, .int .i64 x7, .bool x8, .slice xA m xc] 31)).cell? ⟨w.heap.size + 1, 2, none⟩ = some (.int .i64 0) := cell_of_row _ _ 2 _ _ (0, 0) HX1.out.2
            have n3 : (W1.alloc (.cells #[.int .u64 x0, .int .u64 x1, .int .u64 x2, .int .u64 x3, .string x4, .string x5, .int .i64 x6, .int .i64 x7, .bool x8, .slice xA m xc] 31)).cell? ⟨w.heap.size + 1, 3, none⟩ = some (.int .i64 0) := cell_of_row _ _ 3 _ _ (0, 0) HX1.out.2
            have n4 : (W1.alloc (.cells #[.int .u64 x0, .int .u64 x1, .int .u64 x2, .int .u64 x3, .string x4, .string x5, .int .i64 x6, .int .i64 x7, .bool x8, .slice xA m xc] 31)).cell? ⟨w.heap.size + 1, 4, none⟩ = some (.bool false) := cell_of_row _ _ 4 _ _ (0, 0) HX1.out.2
            have n5 : (W1.alloc (.cells #[.int .u64 x0, .int .u64 x1, .int .u64 x2, .int .u64 x3, .string x4, .string x5, .int .i64 x6, .int .i64 x7, .bool x8, .slice xA m xc] 31)).cell? ⟨w.heap.size + 1, 5, none⟩ = some (.slice A2 q c2) := cell_of_row _ _ 5 _ _ (0, 0) HX1.out.2
            have HQ := Lib.hid HR1.out.1
            have habw : (a.add (i * 6)).block < W1.heap.size := by rw [block_add]; omega
            clear HT HE HR HRD HYL HC hadb hab c0 c1 c5 t0 t1 hW1 HB
            have HQL : Hid (q ≤ 90000) := Lib.hid (by
              have h1 := congrArg List.length HM.out
              have h2 := dst_len (((xls.map Ls.s).take k)) (spAll xh xl (l.take i)).1
              have h3 := spAll_len xh xl (l.take i) (fun e he => HE9.out e (List.mem_of_mem_take he))
              rw [List.length_map, ← HQ.out] at h1
              rw [List.length_take, List.length_map, ← HP.out] at h2
              rw [List.length_take, ← HN.out] at h3
              have h4 := HE9.out _ (List.mem_of_getElem? HX.out)
              simp only at h4
              rw [← HP.out] at h4
              have h5 : min i n * 300 ≤ 299 * 300 := Nat.mul_le_mul_right _ (by omega)
              omega)
            have CADD : Hid (∀ W, Below W1.heap.size W1 W → Calls Try.prog 11 #[.agg #[.int .u64 xh, .int .u64 xl, .int .i64 0, .int .i64 0, .bool false, .slice A2 q c2], .agg #[.int .u64 xh, .int .u64 xl, .int .u64 x2, .int .u64 x3, .string x4, .string x5, .int .i64 x6, .int .i64 x7, .bool x8, .slice xA m xc], .int .i64 0] W fun e w' => if hasId (la.map Ls.s) x2 = true then (e = .returned (.tuple #[.agg #[.int .u64 xh, .int .u64 xl, .int .i64 0, .int .i64 0, .bool false, .slice A2 q c2], .bool false]) ∧ Below W.heap.size W w') else ∃ g c' q1, q1 = q + 1 ∧ e = .returned (.tuple #[.agg #[.int .u64 xh, .int .u64 xl, .int .i64 0, .int .i64 0, .bool false, .slice (some ⟨g, 0, none⟩) q1 c'], .bool true]) ∧ w'.ownsRow W.heap.size 31 10 (.slice (some ⟨g, 0, none⟩) q1 c') q1 (la.flatMap Ls.cells ++ [.int .u64 xh, .int .u64 xl, .int .u64 x2, .int .u64 x3, .string x4, .string x5, .int .i64 x6, .int .i64 x7, .bool x8, .slice xA m xc]) ∧ Below W.heap.size W w') := Lib.hid (fun W hW => by
              obtain ⟨A3, c3, hv, _, hrd⟩ := (HR1.out.2.below hW hBw).rd (Nat.le_trans hBw hW.size)
              rw [← HQ.out] at hv
              injection hv with hv1 hv2 hv3
              subst hv1
              have hq9 : q ≤ 100000 := by
                have := HQL.out
                omega
              cases hh : hasId (la.map Ls.s) x2 with
              | true => simp only [if_true]; exact dadd_had xh xl 0 0 false A2 la q c2 x2 x3 x4 x5 x6 x7 x8 xA m xc 0 _ W HQ.out hrd (Nat.le_refl _) hq9 hh
              | false =>
                simp only [Bool.false_eq_true, if_false]
                refine (dadd_new xh xl 0 0 false A2 la q c2 x2 x3 x4 x5 x6 x7 x8 xA m xc 0 _ W HQ.out hrd (Nat.le_refl _) hq9 hh).mono ?_
                rintro e w9 ⟨g, c', h1, h2, h3⟩
                exact ⟨g, c', q + 1, rfl, h1, h2, h3⟩)
            have HSK := Lib.hid (dst_step (l := xls.map Ls.s) (k := k) (s := Sp.mk x0 x1 x2 x3 x4 x5 x6 x7 x8 ats) (spAll xh xl (l.take i)).1 (by rw [List.getElem?_map, HYK.out]; rfl))
            have HBX : Hid (Below W1.heap.size W1 (W1.alloc (.cells #[.int .u64 xh, .int .u64 xl, .int .u64 x2, .int .u64 x3, .string x4, .string x5, .int .i64 x6, .int .i64 x7, .bool x8, .slice xA m xc] 31))) := Lib.hid ((Below.refl _ _).alloc (Nat.le_refl _) _)
            have HX2 : Hid ((W1.alloc (.cells #[.int .u64 xh, .int .u64 xl, .int .u64 x2, .int .u64 x3, .string x4, .string x5, .int .i64 x6, .int .i64 x7, .bool x8, .slice xA m xc] 31)).heap[w.heap.size]? = some (.cells #[.int .u64 xh, .int .u64 xl] 25 (0, 0)) ∧ (W1.alloc (.cells #[.int .u64 xh, .int .u64 xl, .int .u64 x2, .int .u64 x3, .string x4, .string x5, .int .i64 x6, .int .i64 x7, .bool x8, .slice xA m xc] 31)).heap[w.heap.size + 1]? = some (.cells #[.int .u64 xh, .int .u64 xl, .int .i64 0, .int .i64 0, .bool false, .slice A2 q c2] 28 (0, 0))) := Lib.hid ⟨(HBX.out.block _ (by omega)).trans HT1.out, (HBX.out.block _ hoe).trans HE1.out⟩
            go_wp2_with fail
            refine (CADD.out _ HBX.out).mono ?_
            rintro e w2 hpost
            cases hh : hasId (la.map Ls.s) x2 with
            | true =>
              rw [hh, if_pos rfl] at hpost
              obtain ⟨rfl, hb2⟩ := hpost
              obtain ⟨X3, hX3⟩ : ∃ X3, X3 = w2.alloc (.cells #[.int .u64 xh, .int .u64 xl, .int .i64 0, .int .i64 0, .bool false, .slice A2 q c2] 28) := ⟨_, rfl⟩
              have HX3 := Lib.hid hX3
              have HB3 : Hid (Below W1.heap.size W1 X3) := Lib.hid (by rw [hX3]; exact (HBX.out.trans (hb2.mono HBX.out.size)).alloc (HBX.out.trans (hb2.mono HBX.out.size)).size _)
              have HT3 := Lib.hid ((HB3.out.block _ (by omega)).trans HT1.out)
              have HE3 := Lib.hid ((HB3.out.block _ hoe).trans HE1.out)
              have o0 : X3.cell? ⟨w.heap.size + 1, 0, none⟩ = some (.int .u64 xh) := cell_of_row _ _ 0 _ _ (0, 0) HE3.out
              have p0 : X3.frozen? ⟨w.heap.size + 1, 0, none⟩ = false := by simp [World.frozen?, HE3.out]
              have o1 : X3.cell? ⟨w.heap.size + 1, 1, none⟩ = some (.int .u64 xl) := cell_of_row _ _ 1 _ _ (0, 0) HE3.out
              have p1 : X3.frozen? ⟨w.heap.size + 1, 1, none⟩ = false := by simp [World.frozen?, HE3.out]
              have o2 : X3.cell? ⟨w.heap.size + 1, 2, none⟩ = some (.int .i64 0) := cell_of_row _ _ 2 _ _ (0, 0) HE3.out
              have p2 : X3.frozen? ⟨w.heap.size + 1, 2, none⟩ = false := by simp [World.frozen?, HE3.out]
              have o3 : X3.cell? ⟨w.heap.size + 1, 3, none⟩ = some (.int .i64 0) := cell_of_row _ _ 3 _ _ (0, 0) HE3.out
              have p3 : X3.frozen? ⟨w.heap.size + 1, 3, none⟩ = false := by simp [World.frozen?, HE3.out]
              have o4 : X3.cell? ⟨w.heap.size + 1, 4, none⟩ = some (.bool false) := cell_of_row _ _ 4 _ _ (0, 0) HE3.out
              have p4 : X3.frozen? ⟨w.heap.size + 1, 4, none⟩ = false := by simp [World.frozen?, HE3.out]
              have o5 : X3.cell? ⟨w.heap.size + 1, 5, none⟩ = some (.slice A2 q c2) := cell_of_row _ _ 5 _ _ (0, 0) HE3.out
              have p5 : X3.frozen? ⟨w.heap.size + 1, 5, none⟩ = false := by simp [World.frozen?, HE3.out]
              have r0 : (w2.alloc (.cells #[.int .u64 xh, .int .u64 xl, .int .i64 0, .int .i64 0, .bool false, .slice A2 q c2] 28)).cell? ⟨w.heap.size + 1, 0, none⟩ = some (.int .u64 xh) := by rw [← hX3]; exact o0
              have s0 : (w2.alloc (.cells #[.int .u64 xh, .int .u64 xl, .int .i64 0, .int .i64 0, .bool false, .slice A2 q c2] 28)).frozen? ⟨w.heap.size + 1, 0, none⟩ = false := by rw [← hX3]; exact p0
              have r1 : (w2.alloc (.cells #[.int .u64 xh, .int .u64 xl, .int .i64 0, .int .i64 0, .bool false, .slice A2 q c2] 28)).cell? ⟨w.heap.size + 1, 1, none⟩ = some (.int .u64 xl) := by rw [← hX3]; exact o1
              have s1 : (w2.alloc (.cells #[.int .u64 xh, .int .u64 xl, .int .i64 0, .int .i64 0, .bool false, .slice A2 q c2] 28)).frozen? ⟨w.heap.size + 1, 1, none⟩ = false := by rw [← hX3]; exact p1
              have r2 : (w2.alloc (.cells #[.int .u64 xh, .int .u64 xl, .int .i64 0, .int .i64 0, .bool false, .slice A2 q c2] 28)).cell? ⟨w.heap.size + 1, 2, none⟩ = some (.int .i64 0) := by rw [← hX3]; exact o2
              have s2 : (w2.alloc (.cells #[.int .u64 xh, .int .u64 xl, .int .i64 0, .int .i64 0, .bool false, .slice A2 q c2] 28)).frozen? ⟨w.heap.size + 1, 2, none⟩ = false := by rw [← hX3]; exact p2
              have r3 : (w2.alloc (.cells #[.int .u64 xh, .int .u64 xl, .int .i64 0, .int .i64 0, .bool false, .slice A2 q c2] 28)).cell? ⟨w.heap.size + 1, 3, none⟩ = some (.int .i64 0) := by rw [← hX3]; exact o3
              have s3 : (w2.alloc (.cells #[.int .u64 xh, .int .u64 xl, .int .i64 0, .int .i64 0, .bool false, .slice A2 q c2] 28)).frozen? ⟨w.heap.size + 1, 3, none⟩ = false := by rw [← hX3]; exact p3
              have r4 : (w2.alloc (.cells #[.int .u64 xh, .int .u64 xl, .int .i64 0, .int .i64 0, .bool false, .slice A2 q c2] 28)).cell? ⟨w.heap.size + 1, 4, none⟩ = some (.bool false) := by rw [← hX3]; exact o4
              have s4 : (w2.alloc (.cells #[.int .u64 xh, .int .u64 xl, .int .i64 0, .int .i64 0, .bool false, .slice A2 q c2] 28)).frozen? ⟨w.heap.size + 1, 4, none⟩ = false := by rw [← hX3]; exact p4
              have r5 : (w2.alloc (.cells #[.int .u64 xh, .int .u64 xl, .int .i64 0, .int .i64 0, .bool false, .slice A2 q c2] 28)).cell? ⟨w.heap.size + 1, 5, none⟩ = some (.slice A2 q c2) := by rw [← hX3]; exact o5
              have s5 : (w2.alloc (.cells #[.int .u64 xh, .int .u64 xl, .int .i64 0, .int .i64 0, .bool false, .slice A2 q c2] 28)).frozen? ⟨w.heap.size + 1, 5, none⟩ = false := by rw [← hX3]; exact p5
              have HR3 := Lib.hid (HR1.out.2.below HB3.out hBw)
              have HBF := Lib.hid (HB1.out.trans (HB3.out.mono HB1.out.size))
              have hBe : B ≤ w.heap.size + 1 := Nat.le_trans hB (Nat.le_succ _)
              have HMM : Hid (la.map Ls.s = ((xls.map Ls.s).take (k + 1)).foldl dst (spAll xh xl (l.take i)).1) := Lib.hid (by
                rw [HSK.out, ← HM.out]
                unfold dst
                rw [if_pos hh])
              clear hX3 CADD hb2 HSK HM
              go_wp2_with fail
              rw [← HX3.out]
              go_roundw
              case rel =>
                refine ⟨k + 1, q, c2, A2, la, by go_num, by omega, Lib.hid (fun h => absurd (by simp) h), Lib.hid ?_, Lib.hid ?_, Lib.hid ⟨HQ.out, ?_⟩, HMM, Lib.hid ?_⟩
                · exact (setCells_blk (w.heap.size + 1) [.int .u64 xh, .int .u64 xl, .int .i64 0, .int .i64 0, .bool false, .slice A2 q c2] 0 X3 _ (by omega)).trans HT3.out
                · exact six_store HE3.out
                · repeat' (first | (with_reducible exact HR3.out) | (refine RowSps.far ?_ (by simp) (by simpa using hBe) _))
                · repeat' (first | (with_reducible exact HBF.out) | (refine Below.setCell ?_ (by simp) _))
              case measure => simp [intOf]; omega
            | false =>
              rw [hh, if_neg (by simp)] at hpost
              obtain ⟨g, c', q1, hq1, rfl, hown, hb2⟩ := hpost
              obtain ⟨X3, hX3⟩ : ∃ X3, X3 = w2.alloc (.cells #[.int .u64 xh, .int .u64 xl, .int .i64 0, .int .i64 0, .bool false, .slice (some ⟨g, 0, none⟩) q1 c'] 28) := ⟨_, rfl⟩
              have HX3 := Lib.hid hX3
              have HB23 : Hid (Below w2.heap.size w2 X3) := Lib.hid (by rw [hX3]; exact (Below.refl _ _).alloc (Nat.le_refl _) _)
              have HB3 : Hid (Below W1.heap.size W1 X3) := Lib.hid ((HBX.out.trans (hb2.mono HBX.out.size)).trans (HB23.out.mono (Nat.le_trans HBX.out.size hb2.size)))
              have HT3 := Lib.hid ((HB3.out.block _ (by omega)).trans HT1.out)
              have HE3 := Lib.hid ((HB3.out.block _ hoe).trans HE1.out)
              have HN3 : Hid (X3.heap[w2.heap.size]? = some (.cells #[.int .u64 xh, .int .u64 xl, .int .i64 0, .int .i64 0, .bool false, .slice (some ⟨g, 0, none⟩) q1 c'] 28 (0, 0))) := Lib.hid (by rw [hX3]; exact heap_alloc_new w2 _)
              have HO3 := Lib.hid (own_below hown HB23.out)
              have hgw : W1.heap.size ≤ g := Nat.le_trans HBX.out.size (own_block_ge hown g rfl)
              have hgl : g < w2.heap.size := own_block_lt hown g rfl
              have HQ1 := Lib.hid hq1
              have eW : IntKind.i64.wrap ((q1 : Int) - 1) = (q : Int) := by
                have := HQL.out
                rw [IntKind.wrap_i64] <;> omega
              have hqq : q < q1 := by omega
              have hcc : q1 ≤ c' := (own_cap hown).1
              have HRX3 : Hid (RdSps X3 B (some ad) xls) := Lib.hid (HRD1.out.below (HB3.out.mono hBw))
              have v55 : X3.cell? ⟨(a.add (i * 6)).block, (a.add (i * 6)).off + 5, none⟩ = some (.slice (some ad) p ec) := (HB3.out.cell (p := ⟨(a.add (i * 6)).block, (a.add (i * 6)).off + 5, none⟩) habw).trans v5
              have n5 : X3.cell? ⟨w2.heap.size, 5, none⟩ = some (.slice (some ⟨g, 0, none⟩) q1 c') := cell_of_row _ _ 5 _ _ (0, 0) HN3.out
              obtain ⟨ad2, had2, _, hc3, _⟩ := HRX3.out.at_ HYK.out
              injection had2 with had2
              subst had2
              have k0 : X3.cell? (ad.add (k * 10)) = some (.int .u64 x0) := by have := hc3 0 _ rfl; simpa only [Nat.add_zero] using this
              have k1 : X3.cell? ⟨(ad.add (k * 10)).block, (ad.add (k * 10)).off + 1, none⟩ = some (.int .u64 x1) := cell_far (hc3 1 _ rfl) (by omega)
              have k2 : X3.cell? ⟨(ad.add (k * 10)).block, (ad.add (k * 10)).off + 2, none⟩ = some (.int .u64 x2) := cell_far (hc3 2 _ rfl) (by omega)
              have k3 : X3.cell? ⟨(ad.add (k * 10)).block, (ad.add (k * 10)).off + 3, none⟩ = some (.int .u64 x3) := cell_far (hc3 3 _ rfl) (by omega)
              have k4 : X3.cell? ⟨(ad.add (k * 10)).block, (ad.add (k * 10)).off + 4, none⟩ = some (.string x4) := cell_far (hc3 4 _ rfl) (by omega)
              have k5 : X3.cell? ⟨(ad.add (k * 10)).block, (ad.add (k * 10)).off + 5, none⟩ = some (.string x5) := cell_far (hc3 5 _ rfl) (by omega)
              have k6 : X3.cell? ⟨(ad.add (k * 10)).block, (ad.add (k * 10)).off + 6, none⟩ = some (.int .i64 x6) := cell_far (hc3 6 _ rfl) (by omega)
              have k7 : X3.cell? ⟨(ad.add (k * 10)).block, (ad.add (k * 10)).off + 7, none⟩ = some (.int .i64 x7) := cell_far (hc3 7 _ rfl) (by omega)
              have k8 : X3.cell? ⟨(ad.add (k * 10)).block, (ad.add (k * 10)).off + 8, none⟩ = some (.bool x8) := cell_far (hc3 8 _ rfl) (by omega)
              have k9 : X3.cell? ⟨(ad.add (k * 10)).block, (ad.add (k * 10)).off + 9, none⟩ = some (.slice xA m xc) := by rw [HMA.out]; exact cell_far (hc3 9 _ rfl) (by omega)
              have j0 := own_setk HO3.out (i := q * 10) (by omega) (.bool true)
              have g0 : X3.frozen? ⟨g, q * 10, none⟩ = false := j0.1
              have l0 : X3.cell? ⟨g, q * 10, none⟩ = some (.int .u64 xh) := j0.2.1.trans (rowN 0 HQ.out rfl)
              have j1 := own_setk HO3.out (i := q * 10 + 1) (by omega) (.bool true)
              have g1 : X3.frozen? ⟨g, q * 10 + 1, none⟩ = false := j1.1
              have l1 : X3.cell? ⟨g, q * 10 + 1, none⟩ = some (.int .u64 xl) := j1.2.1.trans (rowN 1 HQ.out rfl)
              have j2 := own_setk HO3.out (i := q * 10 + 2) (by omega) (.bool true)
              have g2 : X3.frozen? ⟨g, q * 10 + 2, none⟩ = false := j2.1
              have l2 : X3.cell? ⟨g, q * 10 + 2, none⟩ = some (.int .u64 x2) := j2.2.1.trans (rowN 2 HQ.out rfl)
              have j3 := own_setk HO3.out (i := q * 10 + 3) (by omega) (.bool true)
              have g3 : X3.frozen? ⟨g, q * 10 + 3, none⟩ = false := j3.1
              have l3 : X3.cell? ⟨g, q * 10 + 3, none⟩ = some (.int .u64 x3) := j3.2.1.trans (rowN 3 HQ.out rfl)
              have j4 := own_setk HO3.out (i := q * 10 + 4) (by omega) (.bool true)
              have g4 : X3.frozen? ⟨g, q * 10 + 4, none⟩ = false := j4.1
              have l4 : X3.cell? ⟨g, q * 10 + 4, none⟩ = some (.string x4) := j4.2.1.trans (rowN 4 HQ.out rfl)
              have j5 := own_setk HO3.out (i := q * 10 + 5) (by omega) (.bool true)
              have g5 : X3.frozen? ⟨g, q * 10 + 5, none⟩ = false := j5.1
              have l5 : X3.cell? ⟨g, q * 10 + 5, none⟩ = some (.string x5) := j5.2.1.trans (rowN 5 HQ.out rfl)
              have j6 := own_setk HO3.out (i := q * 10 + 6) (by omega) (.bool true)
              have g6 : X3.frozen? ⟨g, q * 10 + 6, none⟩ = false := j6.1
              have l6 : X3.cell? ⟨g, q * 10 + 6, none⟩ = some (.int .i64 x6) := j6.2.1.trans (rowN 6 HQ.out rfl)
              have j7 := own_setk HO3.out (i := q * 10 + 7) (by omega) (.bool true)
              have g7 : X3.frozen? ⟨g, q * 10 + 7, none⟩ = false := j7.1
              have l7 : X3.cell? ⟨g, q * 10 + 7, none⟩ = some (.int .i64 x7) := j7.2.1.trans (rowN 7 HQ.out rfl)
              have j8 := own_setk HO3.out (i := q * 10 + 8) (by omega) (.bool true)
              have g8 : X3.frozen? ⟨g, q * 10 + 8, none⟩ = false := j8.1
              have l8 : X3.cell? ⟨g, q * 10 + 8, none⟩ = some (.bool x8) := j8.2.1.trans (rowN 8 HQ.out rfl)
              have j9 := own_setk HO3.out (i := q * 10 + 9) (by omega) (.bool true)
              have g9 : X3.frozen? ⟨g, q * 10 + 9, none⟩ = false := j9.1
              have l9 : X3.cell? ⟨g, q * 10 + 9, none⟩ = some (.slice xA m xc) := j9.2.1.trans (rowN 9 HQ.out rfl)
              clear j0 j1 j2 j3 j4 j5 j6 j7 j8 j9
              have HMM : Hid ((la ++ [Ls.mk ⟨x0, x1, x2, x3, x4, x5, x6, x7, x8, ats⟩ xA xc]).map Ls.s = ((xls.map Ls.s).take (k + 1)).foldl dst (spAll xh xl (l.take i)).1) := Lib.hid (by
                rw [HSK.out, ← HM.out]
                unfold dst
                rw [if_neg (by rw [hh]; simp)]
                simp)
              clear hX3 CADD hb2 HSK HM hc3 hown hq1
              go_wp2_with fail
              rw [← HX3.out]
              go_region
              obtain ⟨W4, hW4⟩ : ∃ W4, W4 = World.drew ((((((((((X3.setCell ⟨g, q * 10, none⟩ (.int .u64 x0)).setCell ⟨g, q * 10 + 1, none⟩ (.int .u64 x1)).setCell ⟨g, q * 10 + 2, none⟩ (.int .u64 x2)).setCell ⟨g, q * 10 + 3, none⟩ (.int .u64 x3)).setCell ⟨g, q * 10 + 4, none⟩ (.string x4)).setCell ⟨g, q * 10 + 5, none⟩ (.string x5)).setCell ⟨g, q * 10 + 6, none⟩ (.int .i64 x6)).setCell ⟨g, q * 10 + 7, none⟩ (.int .i64 x7)).setCell ⟨g, q * 10 + 8, none⟩ (.bool x8)).setCell ⟨g, q * 10 + 9, none⟩ (.slice xA m xc)) := ⟨_, rfl⟩
              rw [← hW4]
              obtain ⟨SVL, hSV⟩ : ∃ s : List Value, s = [.int .u64 x0, .int .u64 x1, .int .u64 x2, .int .u64 x3, .string x4, .string x5, .int .i64 x6, .int .i64 x7, .bool x8, .slice xA m xc] := ⟨_, rfl⟩
              have hW5 : W4 = (X3.setCells g (q * 10) SVL).drew := by rw [hSV]; exact hW4
              have hblk : ∀ j, j ≠ g → W4.heap[j]? = X3.heap[j]? := fun j hj => by rw [hW5]; exact setCells_blk g SVL (q * 10) X3 j hj
              have hSL : SVL.length = 10 := by rw [hSV]; rfl
              have hSC : (Ls.mk ⟨x0, x1, x2, x3, x4, x5, x6, x7, x8, ats⟩ xA xc).cells = SVL := by rw [hSV, HMA.out]; rfl
              clear hSV hW4
              have HT4 : Hid (W4.heap[w.heap.size]? = some (.cells #[.int .u64 xh, .int .u64 xl] 25 (0, 0))) := Lib.hid ((hblk _ (by omega)).trans HT3.out)
              have HE4 : Hid (W4.heap[w.heap.size + 1]? = some (.cells #[.int .u64 xh, .int .u64 xl, .int .i64 0, .int .i64 0, .bool false, .slice A2 q c2] 28 (0, 0))) := Lib.hid ((hblk _ (by omega)).trans HE3.out)
              have HN4 : Hid (W4.heap[w2.heap.size]? = some (.cells #[.int .u64 xh, .int .u64 xl, .int .i64 0, .int .i64 0, .bool false, .slice (some ⟨g, 0, none⟩) q1 c'] 28 (0, 0))) := Lib.hid ((hblk _ (by omega)).trans HN3.out)
              have hbe : w.heap.size + 1 + 1 ≤ W1.heap.size := hoe
              have HB34 : Hid (Below W1.heap.size X3 W4) := Lib.hid (by rw [hW5]; exact (Below.setCells hgw _ _ (Below.refl _ _)).trans ⟨rfl, rfl, rfl, Nat.le_refl _, fun _ _ => rfl⟩)
              have HBF := Lib.hid (HB1.out.trans ((HB3.out.trans HB34.out).mono HB1.out.size))
              have HO4 : Hid (W4.ownsRow (w.heap.size + 1 + 1) 31 10 (.slice (some ⟨g, 0, none⟩) q1 c') q1 ((la ++ [(Ls.mk ⟨x0, x1, x2, x3, x4, x5, x6, x7, x8, ats⟩ xA xc)]).flatMap Ls.cells)) := Lib.hid (by
                have h := own_setks SVL (q * 10) HO3.out (by rw [HQ1.out, hSL]; omega)
                have hl : (la.flatMap Ls.cells).length = q * 10 := by rw [HQ.out]; exact flatMap_len _ 10 cells_len la
                rw [List.take_append_of_le_length (by omega), List.take_of_length_le (by omega), List.drop_of_length_le (by rw [List.length_append, hl, hSL]; exact Nat.le_refl _), List.append_nil] at h
                rw [hW5, List.flatMap_append, List.flatMap_cons, List.flatMap_nil, List.append_nil]
                rw [hSC]
                exact own_drew (own_mono h (Nat.le_trans hbe HBX.out.size)))
              have HR4 : Hid (q1 = (la ++ [(Ls.mk ⟨x0, x1, x2, x3, x4, x5, x6, x7, x8, ats⟩ xA xc)]).length ∧ RowSps W4 (w.heap.size + 1 + 1) B (.slice (some ⟨g, 0, none⟩) q1 c') (la ++ [(Ls.mk ⟨x0, x1, x2, x3, x4, x5, x6, x7, x8, ats⟩ xA xc)])) := Lib.hid (by
                have hq : q1 = (la ++ [(Ls.mk ⟨x0, x1, x2, x3, x4, x5, x6, x7, x8, ats⟩ xA xc)]).length := by rw [List.length_append, HQ1.out, ← HQ.out]; rfl
                refine ⟨hq, ⟨by rw [← hq]; exact HO4.out, fun z hz => ?_⟩⟩
                have hbz : Below B W1 W4 := (HB3.out.trans HB34.out).mono hBw
                rcases List.mem_append.1 hz with hz | hz
                · exact (HR1.out.2.each z hz).below hbz
                · rw [List.mem_singleton] at hz
                  subst hz
                  exact HYL1.out.below hbz)
              have hBe : B ≤ w.heap.size + 1 := Nat.le_trans hB (Nat.le_succ _)
              have o0 : W4.cell? ⟨w.heap.size + 1, 0, none⟩ = some (.int .u64 xh) := cell_of_row _ _ 0 _ _ (0, 0) HE4.out
              have p0 : W4.frozen? ⟨w.heap.size + 1, 0, none⟩ = false := by simp [World.frozen?, HE4.out]
              have r0 : W4.cell? ⟨w2.heap.size, 0, none⟩ = some (.int .u64 xh) := cell_of_row _ _ 0 _ _ (0, 0) HN4.out
              have o1 : W4.cell? ⟨w.heap.size + 1, 1, none⟩ = some (.int .u64 xl) := cell_of_row _ _ 1 _ _ (0, 0) HE4.out
              have p1 : W4.frozen? ⟨w.heap.size + 1, 1, none⟩ = false := by simp [World.frozen?, HE4.out]
              have r1 : W4.cell? ⟨w2.heap.size, 1, none⟩ = some (.int .u64 xl) := cell_of_row _ _ 1 _ _ (0, 0) HN4.out
              have o2 : W4.cell? ⟨w.heap.size + 1, 2, none⟩ = some (.int .i64 0) := cell_of_row _ _ 2 _ _ (0, 0) HE4.out
              have p2 : W4.frozen? ⟨w.heap.size + 1, 2, none⟩ = false := by simp [World.frozen?, HE4.out]
              have r2 : W4.cell? ⟨w2.heap.size, 2, none⟩ = some (.int .i64 0) := cell_of_row _ _ 2 _ _ (0, 0) HN4.out
              have o3 : W4.cell? ⟨w.heap.size + 1, 3, none⟩ = some (.int .i64 0) := cell_of_row _ _ 3 _ _ (0, 0) HE4.out
              have p3 : W4.frozen? ⟨w.heap.size + 1, 3, none⟩ = false := by simp [World.frozen?, HE4.out]
              have r3 : W4.cell? ⟨w2.heap.size, 3, none⟩ = some (.int .i64 0) := cell_of_row _ _ 3 _ _ (0, 0) HN4.out
              have o4 : W4.cell? ⟨w.heap.size + 1, 4, none⟩ = some (.bool false) := cell_of_row _ _ 4 _ _ (0, 0) HE4.out
              have p4 : W4.frozen? ⟨w.heap.size + 1, 4, none⟩ = false := by simp [World.frozen?, HE4.out]
              have r4 : W4.cell? ⟨w2.heap.size, 4, none⟩ = some (.bool false) := cell_of_row _ _ 4 _ _ (0, 0) HN4.out
              have o5 : W4.cell? ⟨w.heap.size + 1, 5, none⟩ = some (.slice A2 q c2) := cell_of_row _ _ 5 _ _ (0, 0) HE4.out
              have p5 : W4.frozen? ⟨w.heap.size + 1, 5, none⟩ = false := by simp [World.frozen?, HE4.out]
              have r5 : W4.cell? ⟨w2.heap.size, 5, none⟩ = some (.slice (some ⟨g, 0, none⟩) q1 c') := cell_of_row _ _ 5 _ _ (0, 0) HN4.out
              clear hW5 eW hblk hSC
              go_wp2_with fail
              go_roundw
              case rel =>
                refine ⟨k + 1, q1, c', some ⟨g, 0, none⟩, la ++ [(Ls.mk ⟨x0, x1, x2, x3, x4, x5, x6, x7, x8, ats⟩ xA xc)], by go_num, by omega, Lib.hid (fun h => absurd (by simp) h), Lib.hid ?_, Lib.hid ?_, Lib.hid ⟨HR4.out.1, ?_⟩, HMM, Lib.hid ?_⟩
                · exact (setCells_blk (w.heap.size + 1) [.int .u64 xh, .int .u64 xl, .int .i64 0, .int .i64 0, .bool false, .slice (some ⟨g, 0, none⟩) q1 c'] 0 W4 _ (by omega)).trans HT4.out
                · exact six_store HE4.out
                · repeat' (first | (with_reducible exact HR4.out.2) | (refine RowSps.far ?_ (by simp) (by simpa using hBe) _))
                · repeat' (first | (with_reducible exact HBF.out) | (refine Below.setCell ?_ (by simp) _))
              case measure => simp [intOf]; omega
          · have hcc : ((xh == th) = false) ∨ ((xh == th) = true ∧ (xl == tl) = false) := by
              by_cases h1 : xh = th
              · right; subst h1; simp at hxt ⊢; exact hxt
              · left; simpa using h1
            have HSP : Hid ((spAll th tl (l.take (i + 1))).1 = (spAll th tl (l.take i)).1) := Lib.hid (by
              rw [spAll_dst th tl l i _ HX.out]
              unfold epSps
              rw [if_neg hxt]
              rfl)
            have hk0 : k = 0 := HK0.out hxt
            subst hk0
            have HMM : Hid (la.map Ls.s = (spAll th tl (l.take (i + 1))).1) := Lib.hid (by rw [HSP.out, HM.out]; simp)
            clear hxt HK0 HSP HM
            rcases hcc with h1 | ⟨h1, h2⟩
            all_goals
              go_wp2_with fail
              go_quiet (fail)
              go_wp2_with fail
              go_roundw
              case rel => exact ⟨i + 1, q, c2, A2, la, by go_num, by omega, Lib.hid (by exact HT.out), Lib.hid (by exact HE.out), Lib.hid ⟨HR.out.1, HR.out.2.below (drewND (Below.refl _ _) _) (Nat.le_trans hB HB.out.size)⟩, HMM, Lib.hid (drewND HB.out _)⟩
              case measure => simp [intOf]; omega
        · obtain rfl : k = p := by omega
          have HMM : Hid (la.map Ls.s = (spAll th tl (l.take (i + 1))).1) := Lib.hid (by
            rw [spAll_dst th tl l i _ HX.out, HM.out]
            unfold epSps
            split
            · rw [List.take_of_length_le (l := xls.map Ls.s) (by rw [List.length_map, ← HP.out]; exact Nat.le_refl _)]
            · rename_i h
              have h0 := HK0.out h
              rw [h0]
              rfl)
          clear HK0 HM
          go_wp2_with fail
          go_quiet (fail)
          go_wp2_with fail
          go_roundw
          case rel => exact ⟨i + 1, q, c2, A2, la, by go_num, by omega, Lib.hid (by exact HT.out), Lib.hid (by exact HE.out), Lib.hid ⟨HR.out.1, HR.out.2.below (drewND (Below.refl _ _) _) (Nat.le_trans hB HB.out.size)⟩, HMM, Lib.hid (drewND HB.out _)⟩
          case measure => simp [intOf]; omega
    · obtain rfl : i = n := by omega
      have e5 : wr.cell? ⟨w.heap.size + 1, 5, none⟩ = some (.slice A2 q c2) := cell_of_row _ _ 5 _ _ (0, 0) HE.out
      have hBw : B ≤ wr.heap.size := Nat.le_trans hB HB.out.size
      go_wp2_with fail
      go_ret
      obtain ⟨A3, c3, hv, _, hrd⟩ := HR.out.2.rd hBw
      rw [← HR.out.1] at hv
      injection hv with hv1 hv2 hv3
      subst hv1
      refine ⟨A2, c2, la, by rw [← HR.out.1]; rfl, hrd, ?_, HB.out⟩
      rw [HM.out, List.take_of_length_le (by rw [← HN.out]; exact Nat.le_refl _)]
end Go.Proofs.Ytjjklinjcbonkaa
