/- What of a block says when it goes. -/
import Derived.Test.YtchcjbapbdfhkaaBqe
import Derived.Test.YtchcjbapbdfhkaaIg
import Derived.Deep.RegionLaw
import Derived.Lib.SliceRun
namespace Go.Proofs.Ytchcjbapbdfhkaa
open Go.RowKit
set_option linter.unusedVariables false
set_option linter.unusedSimpArgs false
set_option maxRecDepth 100000

structure Hd where
  nu : Int
  bo : Int
  sz : Nat
def Hd.cells (x : Hd) : List Value := [.int .i64 x.nu, .int .i64 x.bo, .int .i64 (x.sz : Int)]
theorem rhcells_len (x : Hd) : x.cells.length = 3 := rfl
theorem rhcells_one1 (e : Hd) : ∀ u ∈ e.cells, u.oneCell' = true := by
  intro u hu
  simp only [Hd.cells, List.mem_cons, List.not_mem_nil, or_false] at hu
  rcases hu with rfl | rfl | rfl <;> rfl
theorem rhcells_one (l : List Hd) : ∀ u ∈ l.flatMap Hd.cells, u.oneCell' = true := by
  intro u hu
  obtain ⟨e, _, hu⟩ := List.mem_flatMap.1 hu
  exact rhcells_one1 e u hu
theorem rhflat_drop (l : List Hd) : ∀ k, (l.flatMap Hd.cells).drop (k * 3) = (l.drop k).flatMap Hd.cells := by
  induction l with
  | nil => intro k; simp
  | cons x r ih =>
    intro k
    cases k with
    | zero => simp
    | succ k =>
      rw [List.flatMap_cons, List.drop_succ_cons, ← ih k, List.drop_append]
      have h6 : x.cells.length = 3 := rfl
      rw [h6, List.drop_of_length_le (by rw [h6]; omega), List.nil_append, show (k + 1) * 3 - 3 = k * 3 by omega]
theorem rhflat_take (l : List Hd) : ∀ k, (l.flatMap Hd.cells).take (k * 3) = (l.take k).flatMap Hd.cells := by
  induction l with
  | nil => intro k; simp
  | cons x r ih =>
    intro k
    cases k with
    | zero => simp
    | succ k =>
      rw [List.flatMap_cons, List.take_succ_cons, List.flatMap_cons, ← ih k, List.take_append]
      have h6 : x.cells.length = 3 := rfl
      rw [h6, List.take_of_length_le (by rw [h6]; omega), show (k + 1) * 3 - 3 = k * 3 by omega]
theorem rh_at {w : World} {B : Nat} {A : Option Addr} {l : List Hd} (h : Rd w B A (l.flatMap Hd.cells)) {k : Nat} {e : Hd} (he : l[k]? = some e) : ∃ a, A = some a ∧ a.block < B ∧ (∀ j u, e.cells[j]? = some u → w.cell? (a.add (k * 3 + j)) = some u) := by
  have hk : k < l.length := by
    rcases Nat.lt_or_ge k l.length with h | h
    · exact h
    · rw [List.getElem?_eq_none h] at he; cases he
  obtain ⟨a, hA, hb, hc⟩ := h (by rw [flatMap_len _ 3 rhcells_len]; omega)
  refine ⟨a, hA, hb, fun j u hu => hc _ u ?_⟩
  have hj : j < 3 := by
    rcases Nat.lt_or_ge j 3 with h | h
    · exact h
    · rw [List.getElem?_eq_none (by rw [rhcells_len]; exact h)] at hu; cases hu
  rw [flatMap_at _ 3 rhcells_len l k j hj, he]
  exact hu
theorem rh_info : (Try.prog.info? 112).map (fun i => (i.zero, i.size, i.bytes)) = some (some (.agg #[.int .i64 0, .int .i64 0, .int .i64 0]), 3, 24) := by kernel_rfl
/-- 'clear' of a slice of one element, whatever its size. -/
theorem run_clear_h {P : Program} (w : World) (t e ty : TypeId) (z : Value) (ht : P.underlying t = some (.slice e)) (hv : ∀ w, (zeroValue e).run P w = .ok z w) (h1 : ∀ v ∈ z.cells.toList, v.oneCell' = true) (b o c : Nat)
    (hc : ∀ j, j < z.cells.toList.length → (w.cell? ⟨b, o + j, none⟩).isSome = true) (hf : ∀ j, j < z.cells.toList.length → w.frozen? ⟨b, o + j, none⟩ = false) :
    (Builtin.clear_ #[t] ty #[.slice (some ⟨b, o, none⟩) 1 c]).run P w = .ok (.tuple #[]) (w.setCells b o z.cells.toList) := by
  have hzc : (Builtin.zeroCells z.cells 1).toList = z.cells.toList := by
    simp only [Builtin.zeroCells]
    apply List.ext_getElem
    · simp
    · intro i h1 h2
      have h2' : i < z.cells.size := by simpa using h2
      rw [Array.getElem_toList, Array.getElem_toList, Array.getElem_map, Array.getElem_range, Nat.mod_eq_of_lt h2', getElem!_pos z.cells i h2']
  have hst := run_storeCells_cells (P := P) b o z.cells.toList 0 w (by simpa using hc) (by simpa using hf) h1
  simp only [Nat.add_zero] at hst
  simp [Builtin.clear_, run_underlying ht, hv, hzc, hst]
def rhzero : List Value := [.int .i64 0, .int .i64 0, .int .i64 0]
theorem rh_del_row (X : List Value) (i n : Nat) (hX : X.length = n * 3) (hi : i < n) :
    (((X.take (i * 3) ++ X.drop ((i + 1) * 3) ++ X.drop (i * 3 + (X.drop ((i + 1) * 3)).length)).take ((n - 1) * 3) ++ rhzero ++ (X.take (i * 3) ++ X.drop ((i + 1) * 3) ++ X.drop (i * 3 + (X.drop ((i + 1) * 3)).length)).drop ((n - 1) * 3 + rhzero.length)).take ((n - 1) * 3)) = X.take (i * 3) ++ X.drop ((i + 1) * 3) := by
  have hdl : (X.drop ((i + 1) * 3)).length = (n - (i + 1)) * 3 := by rw [List.length_drop, hX]; omega
  have hA : (X.take (i * 3) ++ X.drop ((i + 1) * 3)).length = (n - 1) * 3 := by rw [List.length_append, hdl, List.length_take, hX]; omega
  rw [List.take_append_of_le_length (by rw [List.length_append, List.length_take, List.length_append, hA]; omega), List.take_append_of_le_length (by rw [List.length_take, List.length_append, hA]; omega), List.take_take, Nat.min_self, List.take_append_of_le_length (by rw [hA]; exact Nat.le_refl _), List.take_of_length_le (by rw [hA]; exact Nat.le_refl _)]
theorem rh_del_flat (l : List Hd) (i : Nat) : (l.flatMap Hd.cells).take (i * 3) ++ (l.flatMap Hd.cells).drop ((i + 1) * 3) = (l.eraseIdx i).flatMap Hd.cells := by
  rw [rhflat_take, rhflat_drop, ← List.flatMap_append, List.eraseIdx_eq_take_drop_succ]
set_option maxHeartbeats 4000000 in
theorem rh_delete (g n cap i base : Nat) (l : List Hd) (w : World) (h : w.ownsRow base 112 3 (.slice (some ⟨g, 0, none⟩) n cap) n (l.flatMap Hd.cells)) (hi : i < n) (hsm : n ≤ 1000000) :
    Calls Try.prog 77 #[.slice (some ⟨g, 0, none⟩) n cap, .int .i64 (i : Int), .int .i64 ((i : Int) + 1)] w fun e w' => e = .returned (.slice (some ⟨g, 0, none⟩) (n - 1) cap) ∧ w'.ownsRow base 112 3 (.slice (some ⟨g, 0, none⟩) (n - 1) cap) (n - 1) ((l.eraseIdx i).flatMap Hd.cells) ∧ Grew w w' (.slice (some ⟨g, 0, none⟩) n cap) (.slice (some ⟨g, 0, none⟩) (n - 1) cap) := by
  obtain ⟨i0, hi0, hz0, hz1, hz2⟩ := info_parts rh_info
  have hv0 : ∀ w, (zeroValue 112).run Try.prog w = .ok (.agg #[.int .i64 0, .int .i64 0, .int .i64 0]) w := fun w => by simp [zeroValue, typeInfo, hi0, hz0]
  have hcapn : n ≤ cap ∧ cap ≤ 9223372036854775807 := own_capq h
  have hlen : (l.flatMap Hd.cells).length = n * 3 := h.1
  have hown : w.drew.ownsRow base 112 3 (.slice (some ⟨g, 0, none⟩) n cap) n (l.flatMap Hd.cells) := own_drew h
  have hFL := rh_del_flat l i
  have hn : True := trivial
  obtain ⟨xs, hxs⟩ : ∃ xs, xs = l.flatMap Hd.cells := ⟨_, rfl⟩
  rw [← hxs] at hown hlen hFL
  have hone : ∀ u ∈ xs, u.oneCell' = true := by rw [hxs]; exact rhcells_one l
  clear h hn hxs
  have hcell : ∀ j, j < n * 3 → w.drew.frozen? ⟨g, j, none⟩ = false ∧ w.drew.cell? ⟨g, j, none⟩ = xs[j]? := fun j hj => ⟨(own_setq hown hj (.bool true)).1, (own_setq hown hj (.bool true)).2.1⟩
  obtain ⟨news, hnews⟩ : ∃ news, news = xs.drop ((i + 1) * 3) := ⟨_, rfl⟩
  have hnl : news.length = (n - (i + 1)) * 3 := by rw [hnews, List.length_drop, hlen]; omega
  obtain ⟨A, hA, hsrc⟩ : ∃ A : Addr, (if cap = i + 1 then some (⟨g, 0, none⟩ : Addr) else some ⟨g, (i + 1) * 3, none⟩) = some A ∧ Hid (∀ t u, news[t]? = some u → w.drew.cell? (A.add t) = some u) := by
    by_cases h : cap = i + 1
    · refine ⟨⟨g, 0, none⟩, by simp [h], fun t u hu => ?_⟩
      have h0 : news.length = 0 := by rw [hnl]; omega
      rw [List.length_eq_zero_iff.1 h0] at hu
      simp at hu
    · refine ⟨⟨g, (i + 1) * 3, none⟩, by simp [h], fun t u hu => ?_⟩
      have ht := (List.getElem?_eq_some_iff.1 hu).1
      rw [hnl] at ht
      rw [hnews, List.getElem?_drop] at hu
      rw [Addr.add_lit, (hcell _ (by omega)).2]
      exact hu
  have s1 : Hid (news.length = (n - (i + 1)) * 3) := hnl
  have s2 : Hid (∀ u ∈ news, u.oneCell' = true) := fun u hu => hone u (List.mem_of_mem_drop (by rw [← hnews]; exact hu))
  have s3 : Hid (∀ t, t < news.length → (w.drew.cell? ⟨g, 0 + i * 3 + t, none⟩).isSome = true ∧ w.drew.frozen? ⟨g, 0 + i * 3 + t, none⟩ = false) := fun t ht => by
    rw [hnl] at ht
    have h := hcell (0 + i * 3 + t) (by omega)
    refine ⟨?_, h.1⟩
    rw [h.2, List.getElem?_eq_getElem (by rw [hlen]; omega)]
    rfl
  obtain ⟨W1, hW1⟩ : ∃ W1, W1 = w.drew.setCells g (0 + i * 3) news := ⟨_, rfl⟩
  obtain ⟨hown1, hgr1⟩ := own_setks' news (0 + i * 3) hown (by rw [hnl]; omega)
  rw [← hW1] at hown1 hgr1
  obtain ⟨hown2, hgr2⟩ := own_setks' rhzero ((n - 1) * 3) hown1 (by have : rhzero.length = 3 := rfl; omega)
  have hown3 := own_less hown2 (m := n - 1) (by omega)
  rw [hnews, Nat.zero_add, rh_del_row xs i n hlen hi, hFL] at hown3
  have HO := Lib.hid hown3
  have HG := Lib.hid (show Grew w (W1.setCells g ((n - 1) * 3) rhzero) (.slice (some ⟨g, 0, none⟩) n cap) (.slice (some ⟨g, 0, none⟩) (n - 1) cap) from ⟨⟨(hgr1.trans hgr2).grown.os, (hgr1.trans hgr2).grown.tape, (hgr1.trans hgr2).grown.output, (hgr1.trans hgr2).grown.size, fun k hk hne => (hgr1.trans hgr2).grown.block k hk hne⟩, .inl rfl⟩)
  clear hown2 hown3 hgr1 hgr2 hFL
  have hcell1 : ∀ j, j < n * 3 → W1.frozen? ⟨g, j, none⟩ = false ∧ (W1.cell? ⟨g, j, none⟩).isSome = true := fun j hj => ⟨(own_setq hown1 hj (.bool true)).1, by
    rw [(own_setq hown1 hj (.bool true)).2.1, List.getElem?_eq_getElem (by have h1 := hown1.1; omega)]
    rfl⟩
  have hcl : ∀ ty, (Builtin.clear_ #[109] ty #[.slice (some ⟨g, (n - 1) * 3, none⟩) 1 (cap - (n - 1))]).run Try.prog W1 = .ok (.tuple #[]) (W1.setCells g ((n - 1) * 3) rhzero) :=
    fun ty => run_clear_h W1 _ _ ty (.agg #[.int .i64 0, .int .i64 0, .int .i64 0]) Try.underlying109 hv0 (by decide) g ((n - 1) * 3) _ (fun j hj => (hcell1 _ (by have : j < 3 := hj; omega)).2) (fun j hj => (hcell1 _ (by have : j < 3 := hj; omega)).1)
  have hW : Hid (W1 = w.drew.setCells g (0 + i * 3) news) := hW1
  have HNW := Lib.hid hnews
  obtain ⟨hnc, hcm⟩ := hcapn
  have hic : i ≤ cap := by omega
  have hjc : i + 1 ≤ cap := by omega
  have q1 : (0 : Int) ≤ (i : Int) := by omega
  have q2 : (i : Int) ≤ (i : Int) + 1 := by omega
  have q3 : (i : Int) + 1 ≤ (n : Int) := by omega
  have q4 : (n : Int) ≤ (cap : Int) := by omega
  have q5 : ((i : Int) + 1).toNat = i + 1 := by omega
  have q6 : ((i : Int) == (i : Int) + 1) = false := by simp; omega
  have q7 : i + (n - (i + 1)) = n - 1 := by omega
  have q8 : (0 : Int) ≤ (i : Int) + 1 := by omega
  have q9 : n - (n - 1) = 1 := by omega
  have q10 : (((n - 1 : Nat)) : Int) ≤ (n : Int) := by omega
  have q11 : (cap = n - 1) = False := by simp; omega
  have q12 : ((i : Int) = (i : Int) + 1) = False := by simp; omega
  have p8 : (⟨g, 0, none⟩ : Addr).add ((n - 1) * 3) = ⟨g, (n - 1) * 3, none⟩ := by rw [Addr.add_lit, Nat.zero_add]
  have p9 : (⟨g, 0, none⟩ : Addr).add ((i + 1) * 3) = ⟨g, (i + 1) * 3, none⟩ := by rw [Addr.add_lit, Nat.zero_add]
  have q13 : i + 1 ≤ n := by omega
  clear hW1 hnews hnl hlen hone hown hown1 hcell hcell1 hv0 hsm
  go_enter Try.func77, Try.ntmps77
  go_wp2_with fail
  go_region_law (refine step_append_room rfl (.tmp 22) (.tmp 25) 109 rfl 112 i0 3 Try.underlying109 hi0 hz1 g 0 i cap (by simp [Act.eval, Act.put]) A (n - (i + 1)) (cap - (i + 1)) news (by simp [Act.eval, Act.put]) s1.out hsrc.out s2.out (by omega) s3.out ?_; rw [← hW.out])
  (try simp only [q7])
  go_wp2
  go_ret
  rw [← Nat.zero_add (i * 3)]
  exact ⟨rfl, HO.out, HG.out⟩
end Go.Proofs.Ytchcjbapbdfhkaa
