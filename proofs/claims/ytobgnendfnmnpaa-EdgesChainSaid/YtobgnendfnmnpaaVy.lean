/- EdgesAny. -/
import Derived.Test.YtobgnendfnmnpaaVe
import Derived.Test.YtobgnendfnmnpaaFew
namespace Go.Proofs.Ytobgnendfnmnpaa
open Go.RowKit
set_option linter.unusedVariables false
set_option linter.unusedSimpArgs false
set_option maxRecDepth 100000

theorem calls_len (l : List Ls) (k : Nat) : (callsK l k).length ≤ k := by
  unfold callsK
  refine Nat.le_trans (List.length_filterMap_le _ _) ?_
  rw [List.length_map, List.length_take]
  omega
theorem add_at (w W : World) (hW : Below w.heap.size w W) (A0 : Option Addr) (n0 c0 : Nat) (L0 : List Eg) (hn0 : n0 = L0.length) (hr : Rd W W.heap.size A0 (L0.flatMap Eg.cells)) (hs : n0 ≤ 1000) (hok : EgOk L0) (aA : Option Addr) (na ca : Nat) (la : List Ls) (hna : na = la.length) (hya : RdSps w w.heap.size aA la) (h60 : na ≤ 60) (most mo : Int) (hmo : mo = max most 0) (hmr : -9223372036854775808 ≤ most ∧ most ≤ 9223372036854775807) :
    Calls Try.prog 7 #[.slice A0 n0 c0, .slice aA na ca, .int .i64 most] W fun e w' => ∃ (A' : Option Addr) (n' c' : Nat) (M : List Eg), e = .returned (.slice A' n' c') ∧ n' = M.length ∧ n' ≤ n0 + 60 ∧ CA mo L0 (callsK la na) M ∧ EgOk M ∧ Rd w' w'.heap.size A' (M.flatMap Eg.cells) ∧ Below w.heap.size w w' ∧ Below W.heap.size W w' :=
  (add_any A0 n0 c0 L0 aA na ca la most mo W.heap.size W hn0 hr (by omega) hok hna ((hya.below hW).more hW.size) (Nat.le_refl _) (by omega) hmo hmr).mono fun e w' h => by
    obtain ⟨A', n', c', M, h1, h2, h3, h4, h5, h6, h7⟩ := h
    exact ⟨A', n', c', M, h1, h2, by omega, h4, h5, Rd.of_owng h6, hW.trans (h7.mono hW.size), h7⟩
theorem add_nil (w W : World) (hW : Below w.heap.size w W) (aA : Option Addr) (na ca : Nat) (la : List Ls) (hna : na = la.length) (hya : RdSps w w.heap.size aA la) (h60 : na ≤ 60) (most mo : Int) (hmo : mo = max most 0) (hmr : -9223372036854775808 ≤ most ∧ most ≤ 9223372036854775807) :
    Calls Try.prog 7 #[.slice none 0 0, .slice aA na ca, .int .i64 most] W fun e w' => ∃ (A' : Option Addr) (n' c' : Nat) (M : List Eg), e = .returned (.slice A' n' c') ∧ n' = M.length ∧ n' ≤ 0 + 60 ∧ CA mo [] (callsK la na) M ∧ EgOk M ∧ Rd w' w'.heap.size A' (M.flatMap Eg.cells) ∧ Below w.heap.size w w' ∧ Below W.heap.size W w' :=
  add_at w W hW none 0 0 [] rfl Rd.nil (by decide) (fun y h => by cases h) aA na ca la hna hya h60 most mo hmo hmr
theorem any_same {mo : Int} {a b c : List Call} {M1 M2 M3 N1 N2 N3 : List Eg} (h0 : 0 ≤ mo) (ha : a.length ≤ 60) (hb : b.length ≤ 60) (hc : c.length ≤ 60) (h1 : CA mo [] a M1) (h2 : CA mo M1 b M2) (h3 : CA mo M2 c M3) (k1 : CA mo [] c N1) (k2 : CA mo N1 a N2) (k3 : CA mo N2 b N3) : M3 = N3 ∧ M3.Pairwise bef := by
  have x1 := Tally.steps h0 (Tally.nil mo) (by simp; omega) h1
  have x2 := Tally.steps h0 x1 (by simp; omega) h2
  have x3 := Tally.steps h0 x2 (by simp; omega) h3
  have y1 := Tally.steps h0 (Tally.nil mo) (by simp; omega) k1
  have y2 := Tally.steps h0 y1 (by simp; omega) k2
  have y3 := Tally.steps h0 y2 (by simp; omega) k3
  refine ⟨Tally.same x3 y3 (fun f t => ?_) (fun f t => ?_), x3.ord⟩
  · simp only [cntC, List.nil_append, List.countP_append]; omega
  · simp only [errC, List.nil_append, List.countP_append]; omega
end Go.Proofs.Ytobgnendfnmnpaa
