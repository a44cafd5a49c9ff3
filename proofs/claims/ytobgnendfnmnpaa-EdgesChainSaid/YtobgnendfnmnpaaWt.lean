/- Edges, plainly: the calls of two batches of unlike traces are those of the one, and behind them those of the other. -/
import Derived.Test.YtobgnendfnmnpaaVy
namespace Go.Proofs.Ytobgnendfnmnpaa
open Go.RowKit
set_option linter.unusedVariables false
set_option linter.unusedSimpArgs false

def trOf (s : Sp) : Int × Int := (s.hi, s.lo)
theorem fst_lt {l : List Sp} {u : Nm} {p : Nat} (h : fstN l u = some p) : p < l.length := by
  unfold fstN at h
  exact (List.findIdx?_eq_some_iff_getElem.1 h).1
theorem fst_none {l : List Sp} {u : Nm} (h : ∀ s ∈ l, trOf s ≠ (u.1, u.2.1)) : fstN l u = none := by
  unfold fstN
  rw [List.findIdx?_eq_none_iff]
  intro s hs
  have h1 := h s hs
  by_cases e : nmOf s = u
  · refine absurd ?_ h1
    rw [← e]; rfl
  · simp [e]
theorem fst_app (a b : List Sp) (u : Nm) : fstN (a ++ b) u = (fstN a u).or ((fstN b u).map (· + a.length)) := by
  unfold fstN
  rw [List.findIdx?_append]
theorem call_left (a b : List Sp) (s : Sp) (h : ∀ t ∈ b, trOf t ≠ trOf s) : callOf (a ++ b) s = callOf a s := by
  unfold callOf
  rw [fst_app, fst_none (l := b) (u := (s.hi, s.lo, s.pa)) h]
  cases hf : fstN a (s.hi, s.lo, s.pa) with
  | none => rfl
  | some p =>
    simp only [Option.map_none, Option.or_none, Option.bind_some]
    rw [List.getElem?_append_left (fst_lt hf)]
theorem call_right (a b : List Sp) (s : Sp) (h : ∀ t ∈ a, trOf t ≠ trOf s) : callOf (a ++ b) s = callOf b s := by
  unfold callOf
  rw [fst_app, fst_none (l := a) (u := (s.hi, s.lo, s.pa)) h]
  cases hf : fstN b (s.hi, s.lo, s.pa) with
  | none => rfl
  | some p =>
    simp only [Option.map_some, Option.none_or, Option.bind_some]
    rw [List.getElem?_append_right (by omega), Nat.add_sub_cancel]
theorem callsK_all (l : List Ls) (k : Nat) (hk : k = l.length) : callsK l k = (l.map Ls.s).filterMap (callOf (l.map Ls.s)) := by
  unfold callsK
  rw [List.take_of_length_le (by omega)]
theorem filterMap_same {α β : Type} {f g : α → Option β} {l : List α} (h : ∀ x ∈ l, f x = g x) : l.filterMap f = l.filterMap g := by
  induction l with
  | nil => rfl
  | cons x r ih =>
    rw [List.filterMap_cons, List.filterMap_cons, h x List.mem_cons_self, ih (fun y hy => h y (List.mem_cons_of_mem _ hy))]
theorem calls_both (la lb : List Ls) (na nb n : Nat) (hna : na = la.length) (hnb : nb = lb.length) (hn : n = na + nb) (h : ∀ x ∈ la, ∀ y ∈ lb, trOf x.s ≠ trOf y.s) : callsK (la ++ lb) n = callsK la na ++ callsK lb nb := by
  rw [callsK_all _ _ (by rw [List.length_append]; omega), callsK_all _ _ hna, callsK_all _ _ hnb, List.map_append, List.filterMap_append]
  congr 1
  · refine filterMap_same fun s hs => call_left _ _ s fun t ht => ?_
    obtain ⟨x, hx, rfl⟩ := List.mem_map.1 hs
    obtain ⟨y, hy, rfl⟩ := List.mem_map.1 ht
    exact fun e => h x hx y hy e.symm
  · refine filterMap_same fun s hs => call_right _ _ s fun t ht => ?_
    obtain ⟨y, hy, rfl⟩ := List.mem_map.1 hs
    obtain ⟨x, hx, rfl⟩ := List.mem_map.1 ht
    exact h x hx y hy
theorem CA.app {most : Int} : ∀ {cs ds : List Call} {L M N : List Eg}, CA most L cs M → CA most M ds N → CA most L (cs ++ ds) N
  | [], ds, L, M, N, h, k => by cases h; exact k
  | c :: cs, ds, L, M, N, ⟨N', h1, h2⟩, k => ⟨N', h1, CA.app h2 k⟩
/-- One batch of both, or one behind the other: the same edges. -/
theorem both_same {mo : Int} {la lb : List Ls} {na nb n : Nat} {M M1 M2 : List Eg} (h0 : 0 ≤ mo) (hna : na = la.length) (hnb : nb = lb.length) (hn : n = na + nb) (h60 : n ≤ 60) (h : ∀ x ∈ la, ∀ y ∈ lb, trOf x.s ≠ trOf y.s) (k : CA mo [] (callsK (la ++ lb) n) M) (k1 : CA mo [] (callsK la na) M1) (k2 : CA mo M1 (callsK lb nb) M2) : M = M2 := by
  have h1 := calls_len la na
  have h2 := calls_len lb nb
  rw [calls_both la lb na nb n hna hnb hn h] at k
  have x := Tally.steps h0 (Tally.nil mo) (by simp; omega) k
  have y := Tally.steps h0 (Tally.nil mo) (by simp; omega) (k1.app k2)
  exact Tally.same x y (fun _ _ => rfl) (fun _ _ => rfl)
end Go.Proofs.Ytobgnendfnmnpaa
