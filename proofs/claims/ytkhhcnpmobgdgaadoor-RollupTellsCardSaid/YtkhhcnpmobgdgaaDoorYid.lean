/- slices.Insert: where there is no room. -/
import Derived.Test.YtkhhcnpmobgdgaaDoorYia
namespace Go.Proofs.YtkhhcnpmobgdgaaDoor
open Go.RowKit
set_option linter.unusedVariables false
set_option linter.unusedSimpArgs false
set_option maxRecDepth 100000

set_option maxHeartbeats 4000000 in
theorem r_ins_grow (g n c i vb : Nat) (l : List Rw) (e : Rw) (base : Nat) (w : World) (h : w.ownsRow base 48 14 (.slice (some ⟨g, 0, none⟩) n c) n (l.flatMap Rw.cells)) (hn : n = l.length) (hsm : n ≤ 1000000) (hbase : base ≤ w.heap.size)
    (hv : w.heap[vb]? = some (.cells e.cells.toArray 48 (0, 0))) (hi : i < n) (hroom : c < n + 1) :
    Calls Tryd.prog 58 #[.slice (some ⟨g, 0, none⟩) n c, .int .i64 (i : Int), .slice (some ⟨vb, 0, none⟩) 1 1] w (rIns base (l.take i ++ e :: l.drop i) w (some ⟨g, 0, none⟩) n c) := by
  obtain ⟨i0, hi0, hz0, hz1, hz2⟩ := info_parts r_info
  obtain ⟨g', hg', _, hbg, hgw, hnc, hcm, cur, hcur, hcs⟩ := own_parts h (by omega)
  obtain rfl : g = g' := by injection hg' with h1; injection h1
  clear hg'
  obtain rfl : c = n := by omega
  have hX : (l.flatMap Rw.cells).length = c * 14 := h.1
  have hvw : vb < w.heap.size := by
    rcases Nat.lt_or_ge vb w.heap.size with h1 | h1
    · exact h1
    · rw [Array.getElem?_eq_none h1] at hv; cases hv
  obtain ⟨X, hXX⟩ : ∃ X, X = l.flatMap Rw.cells := ⟨_, rfl⟩
  have hone : ∀ u ∈ X, u.oneCell' = true := by rw [hXX]; exact rcells_one l
  have hFL := r_flat l e i
  rw [← hXX] at hX h hFL
  have hsz : (Tryd.prog.info? 48).map (·.size) = some 14 := by rw [hi0]; simp [hz1]
  have hcell := own_cells h
  have htl : (X.take (i * 14)).length = i * 14 := by rw [List.length_take, hX]; omega
  have hold : (Builtin.firstCells i0.size i (.slice (some ⟨g, 0, none⟩) i c)).run Tryd.prog w.drew = .ok (X.take (i * 14)).toArray w.drew := by
    rw [hz1]
    exact run_firstCells_some w.drew 14 i ⟨g, 0, none⟩ i c _ htl (fun j u hj => by
      have hjl := (List.getElem?_eq_some_iff.1 hj).1
      rw [htl] at hjl
      rw [List.getElem?_take, if_pos hjl] at hj
      rw [Addr.add_lit, Nat.zero_add]
      exact ((hcell j (by omega)).2.1).trans hj)
  have hik : i + (c + 1 - i) = c + 1 := by omega
  have hkk : (c : Int) + 1 - (i : Int) = ((c + 1 - i : Nat) : Int) := by omega
  obtain ⟨G, hG⟩ : ∃ G, G = grownCap w (c + 1) c 48 := ⟨_, rfl⟩
  have hGn : c + 1 ≤ G := by rw [hG]; exact grownCap_ge w _ _ _
  have hG63 : G ≤ maxLen := by rw [hG]; exact grownCap_le_maxLen w _ _ _ (by unfold maxLen; omega)
  obtain ⟨ROW, hROW⟩ : ∃ ROW : Array Value, ROW = (X.take (i * 14)).toArray ++ Builtin.zeroCells (.agg #[.int .i64 0, .int .i64 0, .string ⟨#[]⟩, .string ⟨#[]⟩, .int .i64 0, .int .i64 0, .int .i64 0, .int .i64 0, .int .i64 0, .int .i64 0, .int .i64 0, .int .i64 0, .int .i64 0, .int .i64 0] : Value).cells (c + 1 - i) ++ Builtin.zeroCells (.agg #[.int .i64 0, .int .i64 0, .string ⟨#[]⟩, .string ⟨#[]⟩, .int .i64 0, .int .i64 0, .int .i64 0, .int .i64 0, .int .i64 0, .int .i64 0, .int .i64 0, .int .i64 0, .int .i64 0, .int .i64 0] : Value).cells (G - (c + 1)) := ⟨_, rfl⟩
  have hrz : ∀ ty, (Builtin.append_ #[22, 3] ty #[.slice (some ⟨g, 0, none⟩) i c, .int .i64 ((c : Int) + 1 - (i : Int))]).run Tryd.prog w = .ok (.slice (some ⟨w.heap.size, 0, none⟩) (c + 1) G) (w.drew.alloc (.cells ROW 48)) := fun ty => by
    have h := Lib.run_append_grow_zeros (P := Tryd.prog) w 22 3 ty 48 i0 _ .i64 .i64 Tryd.underlying22 Tryd.underlying3 hi0 hz0 (some ⟨g, 0, none⟩) i c (X.take (i * 14)) hold (c + 1 - i) (by omega) (by omega) (by omega) (by omega) (by rw [hz2]; omega) (by rw [hz2, hik]; exact growslice_fits (by omega) (by omega))
    rw [hik] at h
    rw [hkk, hROW, hG]
    exact h
  obtain ⟨W1, hW1⟩ : ∃ W1, W1 = w.drew.alloc (.cells ROW 48) := ⟨_, rfl⟩
  have hzc : ∀ m, (Builtin.zeroCells (.agg #[.int .i64 0, .int .i64 0, .string ⟨#[]⟩, .string ⟨#[]⟩, .int .i64 0, .int .i64 0, .int .i64 0, .int .i64 0, .int .i64 0, .int .i64 0, .int .i64 0, .int .i64 0, .int .i64 0, .int .i64 0] : Value).cells m).size = m * 14 := fun m => by rw [size_zeroCells]; rfl
  have hRs : ROW.size = G * 14 := by
    rw [hROW, Array.size_append, Array.size_append, hzc, hzc, List.size_toArray, htl]; omega
  obtain ⟨Z, hZ⟩ : ∃ Z, Z = (Builtin.zeroCells (.agg #[.int .i64 0, .int .i64 0, .string ⟨#[]⟩, .string ⟨#[]⟩, .int .i64 0, .int .i64 0, .int .i64 0, .int .i64 0, .int .i64 0, .int .i64 0, .int .i64 0, .int .i64 0, .int .i64 0, .int .i64 0] : Value).cells (c + 1 - i)).toList := ⟨_, rfl⟩
  have hZl : (X.take (i * 14) ++ Z).length = c * 14 + 14 := by rw [List.length_append, htl, hZ, Array.length_toList, hzc]; omega
  have hw1 : W1.ownsRow base 48 14 (.slice (some ⟨w.heap.size, 0, none⟩) (c + 1) G) (c + 1) (X.take (i * 14) ++ Z) := by
    refine ⟨by rw [hZl]; omega, .inr ⟨w.heap.size, G, ROW, rfl, hbase, by rw [hW1]; exact heap_alloc_new w.drew _, hGn, hG63, hRs, ?_⟩⟩
    rw [hROW, Array.toList_append, Array.toList_append, show (X.take (i * 14)).toArray.toList = X.take (i * 14) from rfl, ← hZ, List.take_append_of_le_length (by rw [hZl]; omega), List.take_of_length_le (by rw [hZl]; omega)]
  have hg1 : Grew w W1 (.slice (some ⟨g, 0, none⟩) c c) (.slice (some ⟨w.heap.size, 0, none⟩) (c + 1) G) := by
    rw [hW1]
    exact ⟨⟨rfl, rfl, rfl, by simp, fun k hk _ => Below.heap_alloc w.drew _ k hk⟩, .inr ⟨_, rfl, Nat.le_refl _⟩⟩
  have hcell1 := own_cells hw1
  have hvc : ∀ (W : World), W.heap[vb]? = some (.cells e.cells.toArray 48 (0, 0)) → ∀ j u, e.cells[j]? = some u → W.cell? ((⟨vb, 0, none⟩ : Addr).add j) = some u := fun W hW j u hu => by
    rw [Addr.add_lit, Nat.zero_add, cell_of_row W vb j _ _ (0, 0) hW]
    simpa using hu
  have hv1 : W1.heap[vb]? = some (.cells e.cells.toArray 48 (0, 0)) := by rw [hW1]; exact (Below.heap_alloc w.drew _ vb hvw).trans hv
  have hcpA : ∀ (W : World), (∀ x, W.cell? x = W1.cell? x) → (∀ x, W.frozen? x = W1.frozen? x) → ∀ ty dc, (Builtin.copy_ #[22, 22] ty #[.slice (some ⟨w.heap.size, i * 14, none⟩) (c + 1 - i) dc, .slice (some ⟨vb, 0, none⟩) 1 1]).run Tryd.prog W = .ok (goInt 1) (W.setCells w.heap.size (i * 14) e.cells) := fun W hWc hWf ty dc =>
    run_copy_k W _ _ ty 48 w.heap.size (i * 14) (c + 1 - i) dc ⟨vb, 0, none⟩ 1 1 1 14 e.cells Tryd.underlying22 hsz (by simp only [Nat.min_def]; split <;> omega) rfl (fun j u hj => by rw [hWc]; exact hvc W1 hv1 j u hj)
      (fun j hj => by have hj : j < 14 := hj; rw [hWc]; exact (hcell1 _ (by omega)).2.2) (fun j hj => by have hj : j < 14 := hj; rw [hWf]; exact (hcell1 _ (by omega)).1) (rcells_one1 e)
  obtain ⟨hown2, hgr2⟩ := own_setks' e.cells (i * 14) hw1 (by have : e.cells.length = 14 := rfl; omega)
  have hcell2 := own_cells hown2
  have hdl : (X.drop (i * 14)).length = (c - i) * 14 := by rw [List.length_drop, hX]; omega
  have hgg : Grew w (W1.setCells w.heap.size (i * 14) e.cells) (.slice (some ⟨g, 0, none⟩) c c) (.slice (some ⟨w.heap.size, 0, none⟩) (c + 1) G) := hg1.trans hgr2
  have hgW : (W1.setCells w.heap.size (i * 14) e.cells).heap[g]? = w.heap[g]? := by
    have hgr2b : (W1.setCells w.heap.size (i * 14) e.cells).heap[g]? = W1.heap[g]? := hgr2.grown.block g (by rw [hW1]; simp; omega) (by simp [Value.ownBlock]; omega)
    rw [hgr2b, hW1]
    exact Below.heap_alloc w.drew _ g hgw
  have hc2 : ∀ o, (W1.setCells w.heap.size (i * 14) e.cells).cell? ⟨g, o, none⟩ = w.cell? ⟨g, o, none⟩ := fun o => World.cell?_of_block hgW
  have hcpB : ∀ (W : World), (∀ x, W.cell? x = (W1.setCells w.heap.size (i * 14) e.cells).cell? x) → (∀ x, W.frozen? x = (W1.setCells w.heap.size (i * 14) e.cells).frozen? x) → ∀ ty dc sc, (Builtin.copy_ #[22, 22] ty #[.slice (some ⟨w.heap.size, (i + 1) * 14, none⟩) (c - i) dc, .slice (some ⟨g, i * 14, none⟩) (c - i) sc]).run Tryd.prog W = .ok (goInt ((c - i : Nat) : Int)) (W.setCells w.heap.size ((i + 1) * 14) (X.drop (i * 14))) := fun W hWc hWf ty dc sc =>
    run_copy_k W _ _ ty 48 w.heap.size ((i + 1) * 14) (c - i) dc ⟨g, i * 14, none⟩ (c - i) sc (c - i) 14 (X.drop (i * 14)) Tryd.underlying22 hsz (by simp only [Nat.min_def]; split <;> omega) hdl
      (fun j u hj => by
        have hjl := (List.getElem?_eq_some_iff.1 hj).1
        rw [hdl] at hjl
        rw [List.getElem?_drop] at hj
        rw [Addr.add_lit, hWc, hc2]
        exact ((hcell _ (by omega)).2.1).trans hj)
      (fun j hj => by rw [hdl] at hj; rw [hWc]; exact (hcell2 _ (by omega)).2.2) (fun j hj => by rw [hdl] at hj; rw [hWf]; exact (hcell2 _ (by omega)).1) (fun u hu => hone u (List.mem_of_mem_drop hu))
  obtain ⟨hown3, hgr3⟩ := own_setks' (X.drop (i * 14)) ((i + 1) * 14) hown2 (by rw [hdl]; omega)
  rw [r_row2 X Z e.cells i c hX hZl rfl hi, hFL] at hown3
  have HO := Lib.hid hown3
  have HG := Lib.hid (hgg.trans hgr3)
  have hN3 : Hid (∀ W : World, W = ((((w.alloc (.cells ROW 48)).drew).setCells w.heap.size (i * 14) e.cells).drew).setCells w.heap.size ((i + 1) * 14) (X.drop (i * 14)) → W = ((W1.setCells w.heap.size (i * 14) e.cells).setCells w.heap.size ((i + 1) * 14) (X.drop (i * 14))).drew) := fun W hW => by
    rw [hW, hW1]
    exact drew_two w _ _ _ _ _ _
  subst hW1
  have hE1 : ∀ x, ((w.alloc (.cells ROW 48)).drew).cell? x = (w.drew.alloc (.cells ROW 48)).cell? x := fun x => rfl
  have hE2 : ∀ x, ((w.alloc (.cells ROW 48)).drew).frozen? x = (w.drew.alloc (.cells ROW 48)).frozen? x := fun x => rfl
  have hF1 : ∀ x, (((w.alloc (.cells ROW 48)).drew.setCells w.heap.size (i * 14) e.cells).drew).cell? x = ((w.drew.alloc (.cells ROW 48)).setCells w.heap.size (i * 14) e.cells).cell? x := fun x => drew_cell w _ _ _ _ x
  have hF2 : ∀ x, (((w.alloc (.cells ROW 48)).drew.setCells w.heap.size (i * 14) e.cells).drew).frozen? x = ((w.drew.alloc (.cells ROW 48)).setCells w.heap.size (i * 14) e.cells).frozen? x := fun x => drew_froz w _ _ _ _ x
  have CRZ := Lib.hid hrz
  have CPA := Lib.hid (hcpA (w.alloc (.cells ROW 48)).drew hE1 hE2)
  have CPB := Lib.hid (hcpB ((w.alloc (.cells ROW 48)).drew.setCells w.heap.size (i * 14) e.cells).drew hF1 hF2)
  clear hcpA hcpB hE1 hE2 hF1 hF2 hrz
  have q0 : IntKind.i64.wrap ((i : Int) + 1) = (i : Int) + 1 := by rw [IntKind.wrap_i64]; omega
  have q1 : (0 : Int) ≤ (i : Int) := by omega
  have q2 : (i : Int) ≤ (c : Int) := by omega
  have q3 : ((i : Int) == (c : Int)) = false := by simp; omega
  have q3' : ((i : Int) = (c : Int)) = False := by simp; omega
  have q4 : decide ((c : Int) < (c : Int) + 1) = true := decide_eq_true (by omega)
  have q5 : ((i : Int) + 1).toNat = i + 1 := by omega
  have q9 : (0 : Int) ≤ (i : Int) + 1 := by omega
  have q10 : (i : Int) + 1 ≤ (c : Int) + 1 := by omega
  have q11 : (G = i) = False := by simp; omega
  have q12 : (G = i + 1) = False := by simp; omega
  have q11' : (c = i) = False := by simp; omega
  have q13 : i ≤ c := by omega
  have q14 : (i : Int) ≤ (c : Int) + 1 := by omega
  have q16 : i ≤ G := by omega
  have q17 : i + 1 ≤ G := by omega
  have p9 : (⟨w.heap.size, 0, none⟩ : Addr).add ((i + 1) * 14) = ⟨w.heap.size, (i + 1) * 14, none⟩ := by rw [Addr.add_lit, Nat.zero_add]
  have p8 : (⟨w.heap.size, 0, none⟩ : Addr).add (i * 14) = ⟨w.heap.size, i * 14, none⟩ := by rw [Addr.add_lit, Nat.zero_add]
  have p7 : (⟨g, 0, none⟩ : Addr).add (i * 14) = ⟨g, i * 14, none⟩ := by rw [Addr.add_lit, Nat.zero_add]
  clear h hX hXX hone hFL hvc hsz hdl hc2 hcell hcell1 hcell2 hown2 hgr2 hown3 hgr3 hgg hgW hv hv1 hn hbg hgw hcur hcs hold hik hkk hG hROW hzc hRs hZ hZl hw1 hg1 htl hvw hroom
  go_enter Tryd.func58, Tryd.ntmps58
  go_upto_region 11 with (first
    | (at_builtin; refine wpList_app_run rfl (.tmp 34) (.tmp 39) 22 3 rfl rfl rfl (CRZ.out _) ?_)
    | (refine wpList_copy_k ((w.alloc (.cells ROW 48)).drew) rfl (.tmp 43) (.tmp 44) 22 22 rfl (.slice (some ⟨w.heap.size, i * 14, none⟩) (c + 1 - i) (G - i)) (.slice (some ⟨vb, 0, none⟩) 1 1) rfl rfl (CPA.out 3 (G - i)) ?_))
  go_region_law (refine step_copy_k rfl (.tmp 50) (.tmp 53) 22 22 rfl (.slice (some ⟨w.heap.size, (i + 1) * 14, none⟩) (c - i) (G - (i + 1))) (.slice (some ⟨g, i * 14, none⟩) (c - i) (c - i)) (by simp [Act.eval, Act.put]) (by simp [Act.eval, Act.put]) (CPB.out _ _ _) ?_)
  go_wp2
  go_ret
  refine ⟨some ⟨w.heap.size, 0, none⟩, G, rfl, ?_, ?_⟩
  · rw [hN3.out _ rfl]; exact HO.out
  · rw [hN3.out _ rfl]
    exact ⟨⟨HG.out.grown.os, HG.out.grown.tape, HG.out.grown.output, HG.out.grown.size, fun k hk hne => HG.out.grown.block k hk hne⟩, HG.out.blk⟩
end Go.Proofs.YtkhhcnpmobgdgaaDoor
