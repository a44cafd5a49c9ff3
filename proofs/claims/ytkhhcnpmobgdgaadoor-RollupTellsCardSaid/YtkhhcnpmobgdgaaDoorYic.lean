/- slices.Insert: where there is room. -/
import Derived.Test.YtkhhcnpmobgdgaaDoorYia
namespace Go.Proofs.YtkhhcnpmobgdgaaDoor
open Go.RowKit
set_option linter.unusedVariables false
set_option linter.unusedSimpArgs false
set_option maxRecDepth 100000

set_option maxHeartbeats 4000000 in
theorem r_ins_room (g n c i vb : Nat) (l : List Rw) (e : Rw) (base : Nat) (w : World) (h : w.ownsRow base 48 14 (.slice (some ⟨g, 0, none⟩) n c) n (l.flatMap Rw.cells)) (hn : n = l.length) (hsm : n ≤ 1000000)
    (hv : w.heap[vb]? = some (.cells e.cells.toArray 48 (0, 0))) (hvg : vb ≠ g) (hi : i < n) (hroom : n + 1 ≤ c) :
    Calls Tryd.prog 58 #[.slice (some ⟨g, 0, none⟩) n c, .int .i64 (i : Int), .slice (some ⟨vb, 0, none⟩) 1 1] w (rIns base (l.take i ++ e :: l.drop i) w (some ⟨g, 0, none⟩) n c) := by
  obtain ⟨i0, hi0, hz0, hz1, hz2⟩ := info_parts r_info
  obtain ⟨g', hg', _, hbg, hgw, hnc, hcm, cur, hcur, hcs⟩ := own_parts h (by omega)
  obtain rfl : g = g' := by injection hg' with h1; injection h1
  clear hg'
  have hX : (l.flatMap Rw.cells).length = n * 14 := h.1
  obtain ⟨ys, hys, hw0⟩ := own_wide h hroom (by omega)
  have hys : ys.length = 14 := by rw [hys]; omega
  have hw : w.drew.ownsRow base 48 14 (.slice (some ⟨g, 0, none⟩) (n + 1) c) (n + 1) (l.flatMap Rw.cells ++ ys) := hw0
  obtain ⟨X, hXX⟩ : ∃ X, X = l.flatMap Rw.cells := ⟨_, rfl⟩
  have hone : ∀ u ∈ X, u.oneCell' = true := by rw [hXX]; exact rcells_one l
  have hFL := r_flat l e i
  rw [← hXX] at hX hw hFL
  have hvc : ∀ (W : World), W.heap[vb]? = some (.cells e.cells.toArray 48 (0, 0)) → ∀ j u, e.cells[j]? = some u → W.cell? ((⟨vb, 0, none⟩ : Addr).add j) = some u := fun W hW j u hu => by
    rw [Addr.add_lit, Nat.zero_add, cell_of_row W vb j _ _ (0, 0) hW]
    simpa using hu
  have hov : ∀ lb cb, (callFunc 76 #[.slice (some ⟨vb, 0, none⟩) 1 1, .slice (some ⟨g, (i + 1) * 14, none⟩) lb cb]).run Tryd.prog w = .ok (.value (.bool false)) w := fun lb cb => by
    rw [run_callFunc_extern Tryd.func76 (by kernel_rfl) (by kernel_rfl) (by kernel_rfl) (e := Extern.SlicesOverlaps.overlaps #[22, 22] #[4]) (by kernel_rfl),
      Lib.run_overlaps_apart w 22 4 48 Tryd.underlying22 14 (fun w => by simp [sizeOf, typeInfo, hi0, hz1]) ⟨vb, 0, none⟩ ⟨g, (i + 1) * 14, none⟩ 1 1 lb cb hvg 48 48 14 (c * 14) (by simp only [World.shape?, hv]; rfl) (by simp only [World.shape?, hcur, hcs]) (by omega) (by simp [World.frozen?, hv]) (by simp [World.frozen?, hv])]
    rfl
  have hsz : (Tryd.prog.info? 48).map (·.size) = some 14 := by rw [hi0]; simp [hz1]
  have hdl : (X.drop (i * 14)).length = (n - i) * 14 := by rw [List.length_drop, hX]; omega
  have hcell := own_cells hw
  have hcp1 : ∀ ty dc sc, (Builtin.copy_ #[22, 22] ty #[.slice (some ⟨g, (i + 1) * 14, none⟩) (n - i) dc, .slice (some ⟨g, i * 14, none⟩) (n + 1 - i) sc]).run Tryd.prog w.drew = .ok (goInt ((n - i : Nat) : Int)) (w.drew.setCells g ((i + 1) * 14) (X.drop (i * 14))) := fun ty dc sc =>
    run_copy_k w.drew _ _ ty 48 g ((i + 1) * 14) (n - i) dc ⟨g, i * 14, none⟩ (n + 1 - i) sc (n - i) 14 (X.drop (i * 14)) Tryd.underlying22 hsz (by simp only [Nat.min_def]; split <;> omega) hdl
      (fun j u hj => by
        have hjl := (List.getElem?_eq_some_iff.1 hj).1
        rw [hdl] at hjl
        rw [List.getElem?_drop] at hj
        rw [Addr.add_lit, (hcell _ (by omega)).2.1, List.getElem?_append_left (by rw [hX]; omega)]
        exact hj)
      (fun j hj => by rw [hdl] at hj; exact (hcell _ (by omega)).2.2) (fun j hj => by rw [hdl] at hj; exact (hcell _ (by omega)).1) (fun u hu => hone u (List.mem_of_mem_drop hu))
  obtain ⟨hown1, hgr1⟩ := own_setks' (X.drop (i * 14)) ((i + 1) * 14) hw (by rw [hdl]; omega)
  obtain ⟨W1, hW1⟩ : ∃ W1, W1 = w.drew.setCells g ((i + 1) * 14) (X.drop (i * 14)) := ⟨_, rfl⟩
  rw [← hW1] at hcp1 hown1 hgr1
  have hv1 : W1.heap[vb]? = some (.cells e.cells.toArray 48 (0, 0)) := by
    rw [hgr1.grown.block vb (by
      rcases Nat.lt_or_ge vb w.heap.size with h1 | h1
      · exact h1
      · rw [Array.getElem?_eq_none h1] at hv; cases hv) (by simp [Value.ownBlock]; exact hvg)]
    exact hv
  have hcell1 := own_cells hown1
  have hcp2 : ∀ ty dc, (Builtin.copy_ #[22, 22] ty #[.slice (some ⟨g, i * 14, none⟩) (n + 1 - i) dc, .slice (some ⟨vb, 0, none⟩) 1 1]).run Tryd.prog W1 = .ok (goInt 1) (W1.setCells g (i * 14) e.cells) := fun ty dc =>
    run_copy_k W1 _ _ ty 48 g (i * 14) (n + 1 - i) dc ⟨vb, 0, none⟩ 1 1 1 14 e.cells Tryd.underlying22 hsz (by simp only [Nat.min_def]; split <;> omega) rfl (hvc W1 hv1)
      (fun j hj => by have hj : j < 14 := hj; exact (hcell1 _ (by omega)).2.2) (fun j hj => by have hj : j < 14 := hj; exact (hcell1 _ (by omega)).1) (rcells_one1 e)
  obtain ⟨hown2, hgr2⟩ := own_setks' e.cells (i * 14) hown1 (by have : e.cells.length = 14 := rfl; omega)
  rw [r_row X ys e.cells i n hX hys rfl (by omega), hFL] at hown2
  have HO := Lib.hid hown2
  have HG := Lib.hid (show Grew w (W1.setCells g (i * 14) e.cells) (.slice (some ⟨g, 0, none⟩) n c) (.slice (some ⟨g, 0, none⟩) (n + 1) c) from
    ⟨⟨(hgr1.trans hgr2).grown.os, (hgr1.trans hgr2).grown.tape, (hgr1.trans hgr2).grown.output, (hgr1.trans hgr2).grown.size, fun k hk hne => (hgr1.trans hgr2).grown.block k hk hne⟩, .inl rfl⟩)
  have HW1 := Lib.hid hW1
  have q0 : IntKind.i64.wrap ((i : Int) + 1) = (i : Int) + 1 := by rw [IntKind.wrap_i64]; omega
  have q1 : (0 : Int) ≤ (i : Int) := by omega
  have q2 : (i : Int) ≤ (n : Int) := by omega
  have q3 : ((i : Int) == (n : Int)) = false := by simp; omega
  have q3' : ((i : Int) = (n : Int)) = False := by simp; omega
  have q4 : decide ((c : Int) < (n : Int) + 1) = false := decide_eq_false (by omega)
  have q5 : ((i : Int) + 1).toNat = i + 1 := by omega
  have q6 : ((n : Int) + 1).toNat = n + 1 := by omega
  have q7 : (0 : Int) ≤ (n : Int) + 1 := by omega
  have q8 : (n : Int) + 1 ≤ (c : Int) := by omega
  have q9 : (0 : Int) ≤ (i : Int) + 1 := by omega
  have q10 : (i : Int) + 1 ≤ (n : Int) + 1 := by omega
  have q11 : (c = i) = False := by simp; omega
  have q12 : (c = i + 1) = False := by simp; omega
  have q13 : i ≤ n := by omega
  have q14 : (i : Int) ≤ (n : Int) + 1 := by omega
  have q15 : n ≤ c := hnc
  have q16 : i ≤ c := by omega
  have q17 : i + 1 ≤ c := by omega
  have p9 : (⟨g, 0, none⟩ : Addr).add ((i + 1) * 14) = ⟨g, (i + 1) * 14, none⟩ := by rw [Addr.add_lit, Nat.zero_add]
  have p8 : (⟨g, 0, none⟩ : Addr).add (i * 14) = ⟨g, i * 14, none⟩ := by rw [Addr.add_lit, Nat.zero_add]
  have CP1 := Lib.hid hcp1
  have CP2 := Lib.hid hcp2
  clear h hX hys hw hw0 hXX hone hFL hvc hsz hdl hcell hcp1 hcp2 hown1 hgr1 hv1 hcell1 hown2 hgr2 hv hvg hn hbg hgw hcur hcs hW1
  go_enter Tryd.func58, Tryd.ntmps58
  go_upto_region 15 with (simp only [hov])
  go_region_law (refine step_copy_k rfl (.tmp 73) (.tmp 76) 22 22 rfl (.slice (some ⟨g, (i + 1) * 14, none⟩) (n - i) (c - (i + 1))) (.slice (some ⟨g, i * 14, none⟩) (n + 1 - i) (c - i)) (by simp [Act.eval, Act.put]) (by simp [Act.eval, Act.put]) (CP1.out _ (c - (i + 1)) (c - i)) ?_)
  go_wp2_with (refine wpList_copy_k _ rfl (.tmp 80) (.tmp 81) 22 22 rfl _ _ rfl rfl (CP2.out _ _) ?_)
  go_ret
  exact ⟨some ⟨g, 0, none⟩, c, rfl, HO.out, HG.out⟩
end Go.Proofs.YtkhhcnpmobgdgaaDoor
