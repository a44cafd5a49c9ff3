/- slices.Delete of one file of a row of one's own. -/
import Derived.Test.YtbdiamhhlabojaaDoorUia
import Derived.Deep.RegionLaw
import Derived.Lib.SliceRun
namespace Go.Proofs.YtbdiamhhlabojaaDoor
open Go.RowKit
set_option linter.unusedVariables false
set_option linter.unusedSimpArgs false
set_option maxRecDepth 100000

/-- 'clear' of a slice of one element, whatever its size. -/
theorem run_clear_l {P : Program} (w : World) (t e ty : TypeId) (z : Value) (ht : P.underlying t = some (.slice e)) (hv : ∀ w, (zeroValue e).run P w = .ok z w) (h1 : ∀ v ∈ z.cells.toList, v.oneCell' = true) (b o c : Nat)
    (hc : ∀ j, j < z.cells.toList.length → (w.cell? ⟨b, o + j, none⟩).isSome = true) (hf : ∀ j, j < z.cells.toList.length → w.frozen? ⟨b, o + j, none⟩ = false) :
    (Builtin.clear_ #[t] ty #[.slice (some ⟨b, o, none⟩) 1 c]).run P w = .ok (.tuple #[]) (w.setCells b o z.cells.toList) := by
  have hzc : (Builtin.zeroCells z.cells 1).toList = z.cells.toList := by
    simp only [Builtin.zeroCells]
    apply List.ext_getElem
    · simp
    · intro i h1 h2
      have h2' : i < z.cells.size := by simpa using h2
      rw [Array.getElem_toList, Array.getElem_toList, Array.getElem_map, Array.getElem_range, Nat.mod_eq_of_lt h2', getElem!_pos z.cells i h2']
  have hst := run_storeCells_cells (P := P) b o z.cells.toList 0 w (by simpa using hc) (by simpa using hf) h1
  simp only [Nat.add_zero] at hst
  simp [Builtin.clear_, run_underlying ht, hv, hzc, hst]
def lzero : List Value := [.string ⟨#[]⟩, .slice none 0 0, .int .i64 0]
theorem l_del_row (X : List Value) (i n : Nat) (hX : X.length = n * 3) (hi : i < n) :
    (((X.take (i * 3) ++ X.drop ((i + 1) * 3) ++ X.drop (i * 3 + (X.drop ((i + 1) * 3)).length)).take ((n - 1) * 3) ++ lzero ++ (X.take (i * 3) ++ X.drop ((i + 1) * 3) ++ X.drop (i * 3 + (X.drop ((i + 1) * 3)).length)).drop ((n - 1) * 3 + lzero.length)).take ((n - 1) * 3)) = X.take (i * 3) ++ X.drop ((i + 1) * 3) := by
  have hdl : (X.drop ((i + 1) * 3)).length = (n - (i + 1)) * 3 := by rw [List.length_drop, hX]; omega
  have hA : (X.take (i * 3) ++ X.drop ((i + 1) * 3)).length = (n - 1) * 3 := by rw [List.length_append, hdl, List.length_take, hX]; omega
  rw [List.take_append_of_le_length (by rw [List.length_append, List.length_take, List.length_append, hA]; omega), List.take_append_of_le_length (by rw [List.length_take, List.length_append, hA]; omega), List.take_take, Nat.min_self, List.take_append_of_le_length (by rw [hA]; exact Nat.le_refl _), List.take_of_length_le (by rw [hA]; exact Nat.le_refl _)]
theorem l_del_flat (l : List Lf) (i : Nat) : (l.flatMap Lf.cells).take (i * 3) ++ (l.flatMap Lf.cells).drop ((i + 1) * 3) = (l.eraseIdx i).flatMap Lf.cells := by
  rw [lflat_take, lflat_drop, ← List.flatMap_append, List.eraseIdx_eq_take_drop_succ]
set_option maxHeartbeats 4000000 in
theorem l_delete (g n cap i base : Nat) (l : List Lf) (w : World) (h : w.ownsRow base 78 3 (.slice (some ⟨g, 0, none⟩) n cap) n (l.flatMap Lf.cells)) (hi : i < n) (hsm : n ≤ 1000000) :
    Calls Tryd.prog 75 #[.slice (some ⟨g, 0, none⟩) n cap, .int .i64 (i : Int), .int .i64 ((i : Int) + 1)] w fun e w' => e = .returned (.slice (some ⟨g, 0, none⟩) (n - 1) cap) ∧ w'.ownsRow base 78 3 (.slice (some ⟨g, 0, none⟩) (n - 1) cap) (n - 1) ((l.eraseIdx i).flatMap Lf.cells) ∧ Grew w w' (.slice (some ⟨g, 0, none⟩) n cap) (.slice (some ⟨g, 0, none⟩) (n - 1) cap) := by
  obtain ⟨i0, hi0, hz0, hz1, hz2⟩ := info_parts l_info
  have hv0 : ∀ w, (zeroValue 78).run Tryd.prog w = .ok (.agg #[.string ⟨#[]⟩, .slice none 0 0, .int .i64 0]) w := fun w => by simp [zeroValue, typeInfo, hi0, hz0]
  have hcapn : n ≤ cap ∧ cap ≤ 9223372036854775807 := own_capq h
  have hlen : (l.flatMap Lf.cells).length = n * 3 := h.1
  have hown : w.drew.ownsRow base 78 3 (.slice (some ⟨g, 0, none⟩) n cap) n (l.flatMap Lf.cells) := own_drew h
  have hFL := l_del_flat l i
  have hn : True := trivial
  obtain ⟨xs, hxs⟩ : ∃ xs, xs = l.flatMap Lf.cells := ⟨_, rfl⟩
  rw [← hxs] at hown hlen hFL
  have hone : ∀ u ∈ xs, u.oneCell' = true := by rw [hxs]; exact lcells_one l
  clear h hn hxs
  have hcell : ∀ j, j < n * 3 → w.drew.frozen? ⟨g, j, none⟩ = false ∧ w.drew.cell? ⟨g, j, none⟩ = xs[j]? := fun j hj => ⟨(own_setq hown hj (.bool true)).1, (own_setq hown hj (.bool true)).2.1⟩
  obtain ⟨news, hnews⟩ : ∃ news, news = xs.drop ((i + 1) * 3) := ⟨_, rfl⟩
  have hnl : news.length = (n - (i + 1)) * 3 := by rw [hnews, List.length_drop, hlen]; omega
  obtain ⟨A, hA, hsrc⟩ : ∃ A : Addr, (if cap = i + 1 then some (⟨g, 0, none⟩ : Addr) else some ⟨g, (i + 1) * 3, none⟩) = some A ∧ Hid (∀ t u, news[t]? = some u → w.drew.cell? (A.add t) = some u) := by
    by_cases h : cap = i + 1
    · refine ⟨⟨g, 0, none⟩, by simp [h], fun t u hu => ?_⟩
      have h0 : news.length = 0 := by rw [hnl]; omega
      rw [List.length_eq_zero_iff.1 h0] at hu
      simp at hu
    · refine ⟨⟨g, (i + 1) * 3, none⟩, by simp [h], fun t u hu => ?_⟩
      have ht := (List.getElem?_eq_some_iff.1 hu).1
      rw [hnl] at ht
      rw [hnews, List.getElem?_drop] at hu
      rw [Addr.add_lit, (hcell _ (by omega)).2]
      exact hu
  have s1 : Hid (news.length = (n - (i + 1)) * 3) := hnl
  have s2 : Hid (∀ u ∈ news, u.oneCell' = true) := fun u hu => hone u (List.mem_of_mem_drop (by rw [← hnews]; exact hu))
  have s3 : Hid (∀ t, t < news.length → (w.drew.cell? ⟨g, 0 + i * 3 + t, none⟩).isSome = true ∧ w.drew.frozen? ⟨g, 0 + i * 3 + t, none⟩ = false) := fun t ht => by
    rw [hnl] at ht
    have h := hcell (0 + i * 3 + t) (by omega)
    refine ⟨?_, h.1⟩
    rw [h.2, List.getElem?_eq_getElem (by rw [hlen]; omega)]
    rfl
  obtain ⟨W1, hW1⟩ : ∃ W1, W1 = w.drew.setCells g (0 + i * 3) news := ⟨_, rfl⟩
  obtain ⟨hown1, hgr1⟩ := own_setks' news (0 + i * 3) hown (by rw [hnl]; omega)
  rw [← hW1] at hown1 hgr1
  obtain ⟨hown2, hgr2⟩ := own_setks' lzero ((n - 1) * 3) hown1 (by have : lzero.length = 3 := rfl; omega)
  have hown3 := own_less hown2 (m := n - 1) (by omega)
  rw [hnews, Nat.zero_add, l_del_row xs i n hlen hi, hFL] at hown3
  have HO := Lib.hid hown3
  have HG := Lib.hid (show Grew w (W1.setCells g ((n - 1) * 3) lzero) (.slice (some ⟨g, 0, none⟩) n cap) (.slice (some ⟨g, 0, none⟩) (n - 1) cap) from ⟨⟨(hgr1.trans hgr2).grown.os, (hgr1.trans hgr2).grown.tape, (hgr1.trans hgr2).grown.output, (hgr1.trans hgr2).grown.size, fun k hk hne => (hgr1.trans hgr2).grown.block k hk hne⟩, .inl rfl⟩)
  clear hown2 hown3 hgr1 hgr2 hFL
  have hcell1 : ∀ j, j < n * 3 → W1.frozen? ⟨g, j, none⟩ = false ∧ (W1.cell? ⟨g, j, none⟩).isSome = true := fun j hj => ⟨(own_setq hown1 hj (.bool true)).1, by
    rw [(own_setq hown1 hj (.bool true)).2.1, List.getElem?_eq_getElem (by have h1 := hown1.1; omega)]
    rfl⟩
  have hcl : ∀ ty, (Builtin.clear_ #[58] ty #[.slice (some ⟨g, (n - 1) * 3, none⟩) 1 (cap - (n - 1))]).run Tryd.prog W1 = .ok (.tuple #[]) (W1.setCells g ((n - 1) * 3) lzero) :=
    fun ty => run_clear_l W1 _ _ ty (.agg #[.string ⟨#[]⟩, .slice none 0 0, .int .i64 0]) Tryd.underlying58 hv0 (by decide) g ((n - 1) * 3) _ (fun j hj => (hcell1 _ (by have : j < 3 := hj; omega)).2) (fun j hj => (hcell1 _ (by have : j < 3 := hj; omega)).1)
  have hW : Hid (W1 = w.drew.setCells g (0 + i * 3) news) := hW1
  have HNW := Lib.hid hnews
  obtain ⟨hnc, hcm⟩ := hcapn
  have hic : i ≤ cap := by omega
  have hjc : i + 1 ≤ cap := by omega
  have q1 : (0 : Int) ≤ (i : Int) := by omega
  have q2 : (i : Int) ≤ (i : Int) + 1 := by omega
  have q3 : (i : Int) + 1 ≤ (n : Int) := by omega
  have q4 : (n : Int) ≤ (cap : Int) := by omega
  have q5 : ((i : Int) + 1).toNat = i + 1 := by omega
  have q6 : ((i : Int) == (i : Int) + 1) = false := by simp; omega
  have q7 : i + (n - (i + 1)) = n - 1 := by omega
  have q8 : (0 : Int) ≤ (i : Int) + 1 := by omega
  have q9 : n - (n - 1) = 1 := by omega
  have q10 : (((n - 1 : Nat)) : Int) ≤ (n : Int) := by omega
  have q11 : (cap = n - 1) = False := by simp; omega
  have q12 : ((i : Int) = (i : Int) + 1) = False := by simp; omega
  have p8 : (⟨g, 0, none⟩ : Addr).add ((n - 1) * 3) = ⟨g, (n - 1) * 3, none⟩ := by rw [Addr.add_lit, Nat.zero_add]
  have p9 : (⟨g, 0, none⟩ : Addr).add ((i + 1) * 3) = ⟨g, (i + 1) * 3, none⟩ := by rw [Addr.add_lit, Nat.zero_add]
  have q13 : i + 1 ≤ n := by omega
  clear hW1 hnews hnl hlen hone hown hown1 hcell hcell1 hv0 hsm
  go_enter Tryd.func75, Tryd.ntmps75
  go_wp2_with fail
  go_region_law (refine step_append_room rfl (.tmp 22) (.tmp 25) 58 rfl 78 i0 3 Tryd.underlying58 hi0 hz1 g 0 i cap (by simp [Act.eval, Act.put]) A (n - (i + 1)) (cap - (i + 1)) news (by simp [Act.eval, Act.put]) s1.out hsrc.out s2.out (by omega) s3.out ?_; rw [← hW.out])
  (try simp only [q7])
  go_wp2
  go_ret
  rw [← Nat.zero_add (i * 3)]
  exact ⟨rfl, HO.out, HG.out⟩
end Go.Proofs.YtbdiamhhlabojaaDoor
