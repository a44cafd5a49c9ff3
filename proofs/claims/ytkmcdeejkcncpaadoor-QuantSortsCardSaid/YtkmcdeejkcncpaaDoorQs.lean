/- Plain mathematics: of durations that are sorted, and counted by their buckets, the quantile's bucket is that of the one that stands there. No Go in sight. -/
import Derived.Test.YtkmcdeejkcncpaaDoorQo
namespace Go.Proofs.YtkmcdeejkcncpaaDoor.Qm
set_option linter.unusedVariables false
/-- How many of them lie in a bucket below k. -/
def below (l : List Int) (k : Nat) : Nat := l.countP fun d => decide (Bm.of d < k)
def inB (l : List Int) (k : Nat) : Nat := l.countP fun d => Bm.of d == k
theorem below_step : ∀ (l : List Int) (k : Nat), below l (k + 1) = below l k + inB l k
  | [], _ => rfl
  | d :: l, k => by
    have ih := below_step l k
    unfold below inB at *
    rw [List.countP_cons, List.countP_cons, List.countP_cons, ih]
    by_cases h1 : Bm.of d < k
    · have h2 : Bm.of d < k + 1 := by omega
      have h3 : ¬ Bm.of d = k := by omega
      simp [h1, h2, h3]; omega
    · by_cases h3 : Bm.of d = k
      · have h2 : Bm.of d < k + 1 := by omega
        simp [h3]
        omega
      · have h2 : ¬ Bm.of d < k + 1 := by omega
        simp [h1, h2, h3]
theorem below_zero (l : List Int) : below l 0 = 0 := by
  unfold below
  rw [List.countP_eq_zero]
  intro d _
  simp
theorem below_all (l : List Int) : below l 8 = l.length := by
  unfold below
  rw [List.countP_eq_length]
  intro d _
  have := Bm.of_le d
  simp; omega
theorem tot_count (l C : List Int) (hC : ∀ i, 0 ≤ C.getD i 0 ∧ C.getD i 0 ≤ 65535) (h : ∀ b, b < 8 → C.getD (2 + b) 0 = (inB l b : Int)) : ∀ k, k ≤ 8 → tot C k = (below l k : Int)
  | 0, _ => by rw [below_zero]; rfl
  | k + 1, hk => by
    rw [tot_step C (fun i => by have := hC i; omega) k hk, tot_count l C hC h k (by omega), h k hk, below_step]
    omega
/-- Sorted: no one is below one that stands ahead of it. -/
def Sorted (l : List Int) : Prop := ∀ i j, i ≤ j → j < l.length → l.getD i 0 ≤ l.getD j 0
theorem countP_take_drop (l : List Int) (k : Nat) (p : Int → Bool) : l.countP p = (l.take k).countP p + (l.drop k).countP p := by
  rw [← List.countP_append, List.take_append_drop]
theorem below_at (l : List Int) (hs : Sorted l) (k j : Nat) (hk : k < l.length) : k + 1 ≤ below l (j + 1) ↔ Bm.of (l.getD k 0) ≤ j := by
  unfold below
  constructor
  · intro h
    by_cases hh : Bm.of (l.getD k 0) ≤ j
    · exact hh
    · exfalso
      rw [countP_take_drop l k] at h
      have h1 := List.countP_le_length (l := l.take k) (p := fun d => decide (Bm.of d < j + 1))
      have h2 : (l.drop k).countP (fun d => decide (Bm.of d < j + 1)) = 0 := by
        rw [List.countP_eq_zero]
        intro d hd
        obtain ⟨i, hi, rfl⟩ := List.getElem_of_mem hd
        have hl : k + i < l.length := by simp at hi; omega
        have hm := Bm.of_mono (hs k (k + i) (by omega) hl)
        have e : (l.drop k)[i] = l.getD (k + i) 0 := by
          rw [List.getElem_drop, List.getD_eq_getElem?_getD, List.getElem?_eq_getElem hl]
          rfl
        rw [e]
        simp only [decide_eq_true_eq]
        omega
      rw [List.length_take] at h1
      omega
  · intro hh
    rw [countP_take_drop l (k + 1)]
    have h2 : (l.take (k + 1)).countP (fun d => decide (Bm.of d < j + 1)) = (l.take (k + 1)).length := by
      rw [List.countP_eq_length]
      intro d hd
      obtain ⟨i, hi, rfl⟩ := List.getElem_of_mem hd
      have hl : i < l.length ∧ i ≤ k := by simp at hi; omega
      have hm := Bm.of_mono (hs i k hl.2 hk)
      have e : (l.take (k + 1))[i] = l.getD i 0 := by
        rw [List.getElem_take, List.getD_eq_getElem?_getD, List.getElem?_eq_getElem hl.1]
        rfl
      rw [e]
      simp only [decide_eq_true_eq]
      omega
    rw [h2, List.length_take]
    omega
theorem first_eq (x : List Int) (p : Int) (m : Nat) (hm : m < 8) (h : ∀ j, j < 8 → hit x p j = decide (m ≤ j)) : first x p 0 8 = some m := by
  obtain ⟨i, hi, hle⟩ := first_is x p 8 0 m (by omega) (by omega) (by rw [h m hm]; simp)
  obtain ⟨_, h2, h3, _⟩ := first_some x p 8 0 i hi
  rw [h i (by omega)] at h3
  have : m ≤ i := by simpa using h3
  rw [hi]
  congr 1
  omega
/-- Where the p thousandths of n stand, counted from 0. -/
def place (p n : Nat) : Nat := (p * n + 999) / 1000 - 1
theorem place_lt (p n : Nat) (hp : p ≤ 1000) (hn : 1 ≤ n) : place p n < n := by
  unfold place
  have : p * n ≤ 1000 * n := Nat.mul_le_mul_right n hp
  omega
theorem sorts (l C : List Int) (p : Nat) (hp : p ≤ 1000) (hn : 1 ≤ l.length) (hs : Sorted l) (hC : ∀ i, 0 ≤ C.getD i 0 ∧ C.getD i 0 ≤ 65535) (h : ∀ b, b < 8 → C.getD (2 + b) 0 = (inB l b : Int)) :
    quant C p = (lows.getD (Bm.of (l.getD (place p l.length) 0)) 0, true) := by
  have hk := place_lt p l.length hp hn
  have ht := tot_count l C hC h
  have h8 := ht 8 (Nat.le_refl _)
  rw [below_all] at h8
  have hf : first C p 0 8 = some (Bm.of (l.getD (place p l.length) 0)) := by
    apply first_eq
    · have := Bm.of_le (l.getD (place p l.length) 0); omega
    · intro j hj
      have hb := below_at l hs (place p l.length) j hk
      unfold hit atl
      rw [ht (j + 1) (by omega), h8]
      have e : (decide ((1 : Int) ≤ (below l (j + 1) : Int)) && decide ((l.length : Int) * (p : Int) ≤ (below l (j + 1) : Int) * 1000)) = decide (place p l.length + 1 ≤ below l (j + 1)) := by
        rw [Bool.eq_iff_iff]
        simp only [Bool.and_eq_true, decide_eq_true_eq]
        unfold place
        have e1 : ((l.length : Int) * (p : Int)) = ((p * l.length : Nat) : Int) := by rw [Int.natCast_mul, Int.mul_comm]
        rw [e1]
        generalize p * l.length = m
        omega
      rw [e]
      exact decide_eq_decide.mpr hb
  unfold quant
  rw [if_neg (by omega), hf]
/-- One more put in behind all that are no greater. -/
theorem put_sorted (l : List Int) (hs : Sorted l) (k : Nat) (d : Int) (hk : k ≤ l.length) (h1 : k = 0 ∨ l.getD (k - 1) 0 ≤ d) (h2 : ∀ j, k ≤ j → j < l.length → d < l.getD j 0) : Sorted (l.take k ++ d :: l.drop k) := by
  have hat : ∀ i, (l.take k ++ d :: l.drop k).getD i 0 = if i < k then l.getD i 0 else if i = k then d else l.getD (i - 1) 0 := fun i => by
    rw [List.getD_eq_getElem?_getD, List.getElem?_append]
    have hlen : (l.take k).length = k := by rw [List.length_take]; omega
    by_cases a : i < k
    · rw [if_pos (by omega), if_pos a, List.getElem?_take, if_pos a, List.getD_eq_getElem?_getD]
    · rw [if_neg (by omega), if_neg a, hlen]
      by_cases b : i = k
      · subst b; simp
      · rw [if_neg b]
        obtain ⟨m, rfl⟩ : ∃ m, i = k + 1 + m := ⟨i - (k + 1), by omega⟩
        rw [show k + 1 + m - k = m + 1 from by omega, List.getElem?_cons_succ, List.getElem?_drop, List.getD_eq_getElem?_getD, show k + 1 + m - 1 = k + m from by omega]
  intro i j hij hj
  have hl : (l.take k ++ d :: l.drop k).length = l.length + 1 := by simp; omega
  rw [hl] at hj
  rw [hat, hat]
  by_cases a : i < k
  · rw [if_pos a]
    have hid : l.getD i 0 ≤ d := by
      rcases h1 with h | h
      · omega
      · have := hs i (k - 1) (by omega) (by omega); omega
    by_cases b : j < k
    · rw [if_pos b]; exact hs i j hij (by omega)
    · rw [if_neg b]
      by_cases c : j = k
      · rw [if_pos c]; exact hid
      · rw [if_neg c]; exact hs i (j - 1) (by omega) (by omega)
  · rw [if_neg a, if_neg (show ¬ j < k by omega)]
    by_cases b : i = k
    · rw [if_pos b]
      by_cases c : j = k
      · rw [if_pos c]; omega
      · rw [if_neg c]
        have := h2 (j - 1) (by omega) (by omega); omega
    · rw [if_neg b, if_neg (show ¬ j = k by omega)]
      exact hs (i - 1) (j - 1) (by omega) (by omega)
theorem put_count (l : List Int) (k b : Nat) (d : Int) : inB (l.take k ++ d :: l.drop k) b = inB l b + if Bm.of d = b then 1 else 0 := by
  unfold inB
  rw [List.countP_append, List.countP_cons, countP_take_drop l k]
  by_cases h : Bm.of d = b <;> simp [h] <;> omega
end Go.Proofs.YtkmcdeejkcncpaaDoor.Qm
