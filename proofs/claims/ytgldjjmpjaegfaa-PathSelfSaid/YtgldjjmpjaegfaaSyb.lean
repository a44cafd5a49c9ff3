/- The stable sort by blocks, plainly: the blocks, one stage behind the other. -/
import Derived.Test.YtgldjjmpjaegfaaSya
namespace Go.Proofs.Ytgldjjmpjaegfaa.Sy
set_option linter.unusedVariables false
set_option linter.unusedSimpArgs false
variable {α : Type} (O : Ord α)

def Good (L : List α) (a b : Nat) : Prop := SortedOn O L a b ∧ ∀ q x, a ≤ q → q < b → L[q]? = some x → a ≤ O.tag x ∧ O.tag x < b
theorem Good.cross {L : List α} {a m b : Nat} (h : Good O L a m) (k : Good O L m b) : Cross O L a m b := fun i j x y i1 i2 j1 j2 hx hy => by
  have h1 := h.2 i x i1 i2 hx
  have h2 := k.2 j y j1 j2 hy
  omega
theorem Good.merged {L M : List α} {a m b : Nat} (ham : a ≤ m) (hmb : m ≤ b) (h : Good O L a m) (k : Good O L m b) (s : SameOn L M a b) (o : SortedOn O M a b) : Good O M a b := by
  refine ⟨o, fun q x q1 q2 hx => ?_⟩
  obtain ⟨p, p1, p2, p3⟩ := (s.2.2 x).1 ⟨q, q1, q2, hx⟩
  by_cases hp : p < m
  · have := h.2 p x p1 hp p3; omega
  · have := k.2 p x (by omega) p2 p3; omega
theorem Good.aside {L M : List α} {a b c d : Nat} (h : Good O L a b) (s : SameOn L M c d) (hd : b ≤ c ∨ d ≤ a) : Good O M a b :=
  ⟨h.1.aside O s hd, fun q x q1 q2 hx => h.2 q x q1 q2 (by rw [← s.2.1 q (by omega)]; exact hx)⟩
def Stage (L : List α) (c n : Nat) : Prop := ∀ t, t * c < n → Good O L (t * c) (min (t * c + c) n)
/-- Between two stages: t great blocks are made. -/
def Mid (L : List α) (c n t : Nat) : Prop := (∀ s, s < t → Good O L (s * (2 * c)) (s * (2 * c) + 2 * c)) ∧ ∀ s, 2 * t ≤ s → s * c < n → Good O L (s * c) (min (s * c + c) n)
theorem Stage.mid {L : List α} {c n : Nat} (h : Stage O L c n) : Mid O L c n 0 := ⟨fun s hs => by omega, fun s _ hs => h s hs⟩
theorem two_mul_c (t c : Nat) : 2 * t * c = t * (2 * c) := by rw [Nat.mul_comm 2 t, Nat.mul_assoc]
theorem blk_le {s t c : Nat} (h : s < t) : s * c + c ≤ t * c := by
  have := Nat.mul_le_mul_right c (show s + 1 ≤ t from h)
  rw [Nat.succ_mul] at this
  exact this
theorem Mid.parts {L : List α} {c n t : Nat} (hc : 0 < c) (h : Mid O L c n t) {a : Nat} (ha : a = t * (2 * c)) (hn : a + c < n) : Good O L a (a + c) ∧ Good O L (a + c) (min (a + 2 * c) n) := by
  have e : 2 * t * c = a := by rw [ha]; exact two_mul_c t c
  have h1 := h.2 (2 * t) (Nat.le_refl _) (by omega)
  have h2 := h.2 (2 * t + 1) (by omega) (by rw [Nat.succ_mul]; omega)
  rw [e] at h1
  rw [Nat.succ_mul, e] at h2
  rw [Nat.min_eq_left (by omega)] at h1
  rw [show a + c + c = a + 2 * c by omega] at h2
  exact ⟨h1, h2⟩
theorem Mid.next {L M : List α} {c n t : Nat} (hc : 0 < c) (h : Mid O L c n t) {a : Nat} (ha : a = t * (2 * c)) (hn : a + 2 * c ≤ n) (s : SameOn L M a (a + 2 * c)) (o : SortedOn O M a (a + 2 * c)) : Mid O M c n (t + 1) := by
  obtain ⟨p1, p2⟩ := h.parts O hc ha (by omega)
  rw [Nat.min_eq_left hn] at p2
  have g := Good.merged O (by omega) (by omega) p1 p2 s o
  refine ⟨fun u hu => ?_, fun u hu hn2 => ?_⟩
  · rcases Nat.lt_or_ge u t with h1 | h1
    · exact (h.1 u h1).aside O s (.inl (by rw [ha]; exact blk_le h1))
    · obtain rfl : u = t := by omega
      rw [← ha]; exact g
  · refine (h.2 u (by omega) hn2).aside O s (.inr ?_)
    have h2 := Nat.mul_le_mul_right c hu
    rw [Nat.mul_add, Nat.add_mul, two_mul_c, ← ha] at h2
    omega
theorem Mid.stage {L M : List α} {c n t : Nat} (hc : 0 < c) (h : Mid O L c n t) {a : Nat} (ha : a = t * (2 * c)) (han0 : a ≤ n) (han : n < a + 2 * c)
    (hm : (a + c < n ∧ SameOn L M a n ∧ SortedOn O M a n) ∨ (n ≤ a + c ∧ M = L)) : Stage O M (2 * c) n := by
  intro u hu
  rcases Nat.lt_or_ge u t with h1 | h1
  · have h2 : u * (2 * c) + 2 * c ≤ a := by rw [ha]; exact blk_le h1
    rw [Nat.min_eq_left (by omega)]
    rcases hm with ⟨hn, s, o⟩ | ⟨hn, rfl⟩
    · exact (h.1 u h1).aside O s (.inl h2)
    · exact h.1 u h1
  · have hut : u = t := by
      rcases Nat.lt_or_ge t u with h2 | h2
      · have := blk_le (c := 2 * c) h2
        rw [← ha] at this; omega
      · omega
    subst hut
    rw [← ha] at hu ⊢
    rw [Nat.min_eq_right (by omega)]
    rcases hm with ⟨hn, s, o⟩ | ⟨hn, rfl⟩
    · obtain ⟨p1, p2⟩ := h.parts O hc ha hn
      rw [Nat.min_eq_right (by omega)] at p2
      exact Good.merged O (by omega) (by omega) p1 p2 s o
    · have e : 2 * u * c = a := by rw [ha]; exact two_mul_c u c
      have g := h.2 (2 * u) (Nat.le_refl _) (by omega)
      rw [e, Nat.min_eq_right (by omega)] at g
      exact g
theorem Stage.fin {L : List α} {c n : Nat} (h : Stage O L c n) (hn : n ≤ c) : SortedOn O L 0 n := by
  rcases Nat.eq_zero_or_pos n with h0 | h0
  · intro i j x y _ _ hj; omega
  · have g := h 0 (by omega)
    rw [Nat.zero_mul, Nat.zero_add, Nat.min_eq_right hn] at g
    exact g.1
/-- Ahead of the first stage: t blocks are sorted, the rest stands as it came. -/
def Raw (L : List α) (a : Nat) : Prop := ∀ q x, a ≤ q → L[q]? = some x → O.tag x = q
def First (L : List α) (c t : Nat) : Prop := (∀ s, s < t → Good O L (s * c) (s * c + c)) ∧ Raw O L (t * c)
theorem Raw.good {L M : List α} {a b : Nat} (h : Raw O L a) (s : SameOn L M a b) (o : SortedOn O M a b) : Good O M a b := by
  refine ⟨o, fun q x q1 q2 hx => ?_⟩
  obtain ⟨p, p1, p2, p3⟩ := (s.2.2 x).1 ⟨q, q1, q2, hx⟩
  have := h p x p1 p3
  omega
theorem First.next {L M : List α} {c t a : Nat} (h : First O L c t) (ha : a = t * c) (s : SameOn L M a (a + c)) (o : SortedOn O M a (a + c)) : First O M c (t + 1) := by
  have hr : Raw O L a := by rw [ha]; exact h.2
  refine ⟨fun u hu => ?_, fun q x hq hx => ?_⟩
  · rcases Nat.lt_or_ge u t with h1 | h1
    · exact (h.1 u h1).aside O s (.inl (by rw [ha]; exact blk_le h1))
    · obtain rfl : u = t := by omega
      rw [← ha]; exact hr.good O s o
  · rw [Nat.succ_mul, ← ha] at hq
    rw [s.2.1 q (.inr hq)] at hx
    exact hr q x (by omega) hx
theorem First.stage {L M : List α} {c t a n : Nat} (h : First O L c t) (ha : a = t * c) (han : a ≤ n) (hn : n < a + c) (s : SameOn L M a n) (o : SortedOn O M a n) : Stage O M c n := by
  have hr : Raw O L a := by rw [ha]; exact h.2
  intro u hu
  rcases Nat.lt_or_ge u t with h1 | h1
  · have h2 : u * c + c ≤ a := by rw [ha]; exact blk_le h1
    rw [Nat.min_eq_left (by omega)]
    exact (h.1 u h1).aside O s (.inl h2)
  · have hut : u = t := by
      rcases Nat.lt_or_ge t u with h2 | h2
      · have := blk_le (c := c) h2
        rw [← ha] at this; omega
      · omega
    subst hut
    rw [← ha] at hu ⊢
    rw [Nat.min_eq_right (by omega)]
    exact hr.good O s o
/-- One more of a part that is sorted up to it: ins_last. Where it goes: told by exchanges from the right. -/
theorem pair_of {L : List α} {n : Nat} (hn : L.length = n) (h : SortedOn O L 0 n) : L.Pairwise O.lt := by
  refine List.pairwise_iff_getElem.2 fun i j hi hj hij => ?_
  exact h i j _ _ (Nat.zero_le _) hij (by omega) (List.getElem?_eq_getElem hi) (List.getElem?_eq_getElem hj)
theorem mem_of {L M : List α} {n : Nat} (hn : L.length = n) (h : SameOn L M 0 n) (x : α) : x ∈ M ↔ x ∈ L := by
  have hM : M.length = n := h.1.trans hn
  constructor
  · intro hx
    obtain ⟨q, hq⟩ := List.getElem?_of_mem hx
    have := (List.getElem?_eq_some_iff.1 hq).1
    obtain ⟨p, _, _, hp⟩ := (h.2.2 x).1 ⟨q, Nat.zero_le _, by omega, hq⟩
    exact List.mem_of_getElem? hp
  · intro hx
    obtain ⟨q, hq⟩ := List.getElem?_of_mem hx
    have := (List.getElem?_eq_some_iff.1 hq).1
    obtain ⟨p, _, _, hp⟩ := (h.2.2 x).2 ⟨q, Nat.zero_le _, by omega, hq⟩
    exact List.mem_of_getElem? hp
end Go.Proofs.Ytgldjjmpjaegfaa.Sy
