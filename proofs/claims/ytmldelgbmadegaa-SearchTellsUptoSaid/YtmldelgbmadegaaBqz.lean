/- What the bound on what comes in gives: no list is longer. -/
import Derived.Test.YtmldelgbmadegaaRows
import Derived.Test.YtmldelgbmadegaaBqaz
namespace Go.Proofs.Ytmldelgbmadegaa
set_option linter.unusedVariables false
set_option linter.unusedSimpArgs false
theorem ub_one {H : Type} (d : DataW H) : 1 ≤ Rows.uptoBulk d := by
  cases d with
  | lit l => cases l <;> simp [Rows.uptoBulk]
  | nil => simp [Rows.uptoBulk]
  | ptr d => simp [Rows.uptoBulk]
  | slice elems spare => simp [Rows.uptoBulk]
  | agg parts => simp [Rows.uptoBulk]
  | iface t d => simp [Rows.uptoBulk]
  | map entries => simp [Rows.uptoBulk]
  | held h => simp [Rows.uptoBulk]
theorem ub_part {H : Type} {d : DataW H} : ∀ {l : List (DataW H)}, d ∈ l → Rows.uptoBulk d ≤ Rows.uptoBulkAll l
  | [], h => by cases h
  | x :: r, h => by
    simp only [Rows.uptoBulkAll]
    rcases List.mem_cons.1 h with e | e
    · subst e; omega
    · have := ub_part e; omega
theorem ub_count {H : Type} : ∀ (l : List (DataW H)), l.length ≤ Rows.uptoBulkAll l
  | [] => by simp [Rows.uptoBulkAll]
  | x :: r => by
    have h1 := ub_one x
    have h2 := ub_count r
    simp only [Rows.uptoBulkAll, List.length_cons]
    omega
theorem ub_len {H : Type} {d : DataW H} {n : Nat} (h : HasLen d n) : n ≤ Rows.uptoBulk d := by
  rcases h with rfl | ⟨D, E, rfl⟩
  · exact Nat.zero_le _
  · have := ub_count ((List.range n).map D)
    simp only [List.length_map, List.length_range] at this
    simp only [Rows.uptoBulk]
    omega
theorem ub_bl {H : Type} {d : DataW H} {n : Nat} (h : BlLen d n) : n ≤ Rows.uptoBulk d := by
  obtain ⟨ps, e, rfl, he, hl⟩ := h
  have h1 := ub_len hl
  have h2 := ub_part he
  simp only [Rows.uptoBulk]
  omega
theorem ub_bls {H : Type} {d : DataW H} {n : Nat} (h : ∃ els E q, d = .slice els E ∧ q ∈ els ∧ BlLen q n) : n ≤ Rows.uptoBulk d := by
  obtain ⟨els, E, q, rfl, hq, hl⟩ := h
  have h1 := ub_bl hl
  have h2 := ub_part hq
  simp only [Rows.uptoBulk]
  omega
theorem ub_all {H : Type} {l : List (DataW H)} (hk : Rows.uptoSmall H l = true) {d : DataW H} (hd : d ∈ l) : Rows.uptoBulk d ≤ 1048576 := by
  have h : Rows.uptoBulkAll l ≤ 1048576 := of_decide_eq_true hk
  have := ub_part hd
  omega
end Go.Proofs.Ytmldelgbmadegaa
