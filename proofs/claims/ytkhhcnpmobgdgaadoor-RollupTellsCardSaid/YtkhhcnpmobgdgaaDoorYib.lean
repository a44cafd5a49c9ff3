/- slices.Insert: at the end. -/
import Derived.Test.YtkhhcnpmobgdgaaDoorYia
namespace Go.Proofs.YtkhhcnpmobgdgaaDoor
open Go.RowKit
set_option linter.unusedVariables false
set_option linter.unusedSimpArgs false
set_option maxRecDepth 100000

set_option maxHeartbeats 4000000 in
theorem r_ins_end (A : Option Addr) (n c vb : Nat) (l : List Rw) (e : Rw) (base : Nat) (w : World) (h : w.ownsRow base 48 14 (.slice A n c) n (l.flatMap Rw.cells)) (hn : n = l.length) (hsm : n ≤ 1000000) (hbase : base ≤ w.heap.size)
    (hv : w.heap[vb]? = some (.cells e.cells.toArray 48 (0, 0))) :
    Calls Tryd.prog 58 #[.slice A n c, .int .i64 (n : Int), .slice (some ⟨vb, 0, none⟩) 1 1] w (rIns base (l ++ [e]) w A n c) := by
  obtain ⟨i0, hi0, hz0, hz1, hz2⟩ := info_parts r_info
  have hnc := own_capq h
  have hrd : Rd w w.heap.size (some ⟨vb, 0, none⟩) e.cells := fun _ => ⟨_, rfl, (by
    rcases Nat.lt_or_ge vb w.heap.size with h1 | h1
    · exact h1
    · rw [Array.getElem?_eq_none h1] at hv; cases hv), fun j u hu => by
    rw [Addr.add_lit, Nat.zero_add, cell_of_row w vb j _ _ (0, 0) hv]
    simpa using hu⟩
  have HAP := Lib.hid (fun ty => run_append_rd (P := Tryd.prog) w base 22 ty 48 i0 _ 14 128 Tryd.underlying22 hi0 hz0 hz1 hz2 rfl (.slice A n c) n (l.flatMap Rw.cells) h w.heap.size (some ⟨vb, 0, none⟩) 1 1 e.cells rfl hrd (rcells_one1 e) (by unfold maxLen; omega) (by omega) hbase)
  have HF := Lib.hid (show (l ++ [e]).flatMap Rw.cells = l.flatMap Rw.cells ++ e.cells from by simp)
  have hcn : n ≤ c := hnc.1
  have hA : A = none → n = 0 ∧ c = 0 := by
    rintro rfl
    rcases h.2 with ⟨h0, h1⟩ | ⟨g, cap, cur, hv, _⟩
    · injection h0 with _ h2 h3; exact ⟨h2, h3⟩
    · injection hv with h1; cases h1
  clear h hv hrd hn hbase hnc
  cases A with
  | none =>
    obtain ⟨rfl, rfl⟩ := hA rfl
    clear hA
    go_enter Tryd.func58, Tryd.ntmps58
    go_wp2_with (at_builtin; refine wpList_app rfl (.tmp 23) (.tmp 24) _ _ rfl rfl rfl (HAP.out _) ?_; rintro v1 w1 ⟨ho1, hg1⟩)
    go_ret
    obtain ⟨A', c', rfl, _⟩ := own_rd ho1
    exact ⟨A', c', rfl, by rw [HF.out]; exact ho1, hg1⟩
  | some a =>
    clear hA
    obtain ⟨ab, ao, asp⟩ := a
    go_enter Tryd.func58, Tryd.ntmps58
    go_wp2_with (at_builtin; refine wpList_app rfl (.tmp 23) (.tmp 24) _ _ rfl rfl rfl (HAP.out _) ?_; rintro v1 w1 ⟨ho1, hg1⟩)
    all_goals
      go_ret
      obtain ⟨A', c', rfl, _⟩ := own_rd ho1
      first
        | exact ⟨A', c', rfl, by rw [HF.out]; exact ho1, hg1⟩
        | (have hq : c = n := by assumption
           subst hq
           exact ⟨A', c', rfl, by rw [HF.out]; exact ho1, hg1⟩)
end Go.Proofs.YtkhhcnpmobgdgaaDoor
