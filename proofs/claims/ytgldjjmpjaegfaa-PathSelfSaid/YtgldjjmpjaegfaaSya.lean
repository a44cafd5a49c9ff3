/- The stable sort by blocks, plainly: exchanges of ranges, rotations, merges in place, told by places. No Go in sight. -/
import Derived.Test.YtgldjjmpjaegfaaBs
namespace Go.Proofs.Ytgldjjmpjaegfaa.Sy
set_option linter.unusedVariables false
set_option linter.unusedSimpArgs false
variable {α : Type}

/-! Places. -/
def swapF (a b n q : Nat) : Nat := if a ≤ q ∧ q < a + n then q + (b - a) else if b ≤ q ∧ q < b + n then q - (b - a) else q
def rotF (a m b q : Nat) : Nat := if a ≤ q ∧ q < a + (b - m) then q + (m - a) else if a + (b - m) ≤ q ∧ q < b then q - (b - m) else q
/-- M is L by places. -/
def ByF (f : Nat → Nat) (L M : List α) : Prop := M.length = L.length ∧ ∀ q, M[q]? = L[f q]?
theorem ByF.refl (L : List α) : ByF (fun q => q) L L := ⟨rfl, fun _ => rfl⟩
theorem ByF.trans {f g : Nat → Nat} {L M N : List α} (h : ByF f L M) (k : ByF g M N) : ByF (fun q => f (g q)) L N := ⟨k.1.trans h.1, fun q => (k.2 q).trans (h.2 _)⟩
theorem ByF.congr {f g : Nat → Nat} {L M : List α} (h : ByF f L M) (e : ∀ q, f q = g q) : ByF g L M := ⟨h.1, fun q => by rw [h.2 q, e q]⟩
theorem ByF.ext {f : Nat → Nat} {L M N : List α} (h : ByF f L M) (k : ByF f L N) : M = N := List.ext_getElem? fun q => by rw [h.2 q, k.2 q]
theorem swapF_zero (a b q : Nat) : swapF a b 0 q = q := by unfold swapF; rw [if_neg (by omega), if_neg (by omega)]
/-- One exchange more. -/
theorem swap_step {L M : List α} {a b t : Nat} {x y : α} (h : ByF (swapF a b t) L M) (hab : a + t < b) (hx : M[a + t]? = some x) (hy : M[b + t]? = some y) : ByF (swapF a b (t + 1)) L ((M.set (a + t) y).set (b + t) x) := by
  have hla := (List.getElem?_eq_some_iff.1 hx).1
  have hlb := (List.getElem?_eq_some_iff.1 hy).1
  refine ⟨by rw [List.length_set, List.length_set]; exact h.1, fun q => ?_⟩
  have hxL : L[a + t]? = some x := by rw [← hx, h.2]; unfold swapF; rw [if_neg (by omega), if_neg (by omega)]
  have hyL : L[b + t]? = some y := by rw [← hy, h.2]; unfold swapF; rw [if_neg (by omega), if_neg (by omega)]
  rw [List.getElem?_set, List.getElem?_set, List.length_set]
  by_cases h1 : b + t = q
  · subst h1
    rw [if_pos rfl, if_pos hlb]
    unfold swapF
    rw [if_neg (by omega), if_pos (by omega), ← hxL]
    congr 1; omega
  · rw [if_neg h1]
    by_cases h2 : a + t = q
    · subst h2
      rw [if_pos rfl, if_pos hla]
      unfold swapF
      rw [if_pos (by omega), ← hyL]
      congr 1; omega
    · rw [if_neg h2, h.2]
      congr 1
      unfold swapF
      repeat' split
      all_goals omega
/-- A rotation, by an exchange of ranges and a smaller rotation. -/
theorem rot_left (m i j q : Nat) (hi : i ≤ m) (hij : j < i) (hj : 0 < j) : swapF (m - i) m j (rotF (m - (i - j)) m (m + j) q) = rotF (m - i) m (m + j) q := by
  unfold swapF rotF
  repeat' split
  all_goals omega
theorem rot_right (m i j q : Nat) (hi : i ≤ m) (hij : i < j) (h0 : 0 < i) : swapF (m - i) (m + j - i) i (rotF (m - i) m (m + (j - i)) q) = rotF (m - i) m (m + j) q := by
  unfold swapF rotF
  repeat' split
  all_goals omega
theorem rot_last (m i q : Nat) (hi : i ≤ m) : swapF (m - i) m i q = rotF (m - i) m (m + i) q := by
  unfold swapF rotF
  repeat' split
  all_goals omega

/-! Order. -/
structure Ord (α : Type) where
  lt : α → α → Prop
  tag : α → Nat
  cf : α → α → Int
  trans : ∀ {x y z}, lt x y → lt y z → lt x z
  irr : ∀ x, ¬ lt x x
  low : ∀ {x y}, tag x < tag y → cf y x < 0 → lt y x
  not : ∀ {x y}, tag x < tag y → ¬ cf y x < 0 → lt x y
variable (O : Ord α)
def SortedOn (L : List α) (a b : Nat) : Prop := ∀ i j x y, a ≤ i → i < j → j < b → L[i]? = some x → L[j]? = some y → O.lt x y
def Cross (L : List α) (a m b : Nat) : Prop := ∀ i j x y, a ≤ i → i < m → m ≤ j → j < b → L[i]? = some x → L[j]? = some y → O.tag x < O.tag y
def InOn (L : List α) (a b : Nat) (x : α) : Prop := ∃ q, a ≤ q ∧ q < b ∧ L[q]? = some x
def SameOn (L M : List α) (a b : Nat) : Prop := M.length = L.length ∧ (∀ q, q < a ∨ b ≤ q → M[q]? = L[q]?) ∧ ∀ x, InOn M a b x ↔ InOn L a b x
theorem SameOn.refl (L : List α) (a b : Nat) : SameOn L L a b := ⟨rfl, fun _ _ => rfl, fun _ => Iff.rfl⟩
theorem SameOn.trans {L M N : List α} {a b : Nat} (h : SameOn L M a b) (k : SameOn M N a b) : SameOn L N a b := ⟨k.1.trans h.1, fun q hq => (k.2.1 q hq).trans (h.2.1 q hq), fun x => (k.2.2 x).trans (h.2.2 x)⟩
/-- What is the same on a part is the same on what holds it. -/
theorem SameOn.wide {L M : List α} {a b a' b' : Nat} (h : SameOn L M a b) (ha : a' ≤ a) (hab : a ≤ b) (hb : b ≤ b') : SameOn L M a' b' := by
  refine ⟨h.1, fun q hq => h.2.1 q (by omega), fun x => ⟨fun ⟨q, q1, q2, q3⟩ => ?_, fun ⟨q, q1, q2, q3⟩ => ?_⟩⟩
  · by_cases hq : a ≤ q ∧ q < b
    · obtain ⟨p, p1, p2, p3⟩ := (h.2.2 x).1 ⟨q, hq.1, hq.2, q3⟩
      exact ⟨p, by omega, by omega, p3⟩
    · exact ⟨q, q1, q2, by rw [← h.2.1 q (by omega)]; exact q3⟩
  · by_cases hq : a ≤ q ∧ q < b
    · obtain ⟨p, p1, p2, p3⟩ := (h.2.2 x).2 ⟨q, hq.1, hq.2, q3⟩
      exact ⟨p, by omega, by omega, p3⟩
    · exact ⟨q, q1, q2, by rw [h.2.1 q (by omega)]; exact q3⟩
theorem SortedOn.aside {L M : List α} {a b c d : Nat} (h : SortedOn O L a b) (s : SameOn L M c d) (hd : b ≤ c ∨ d ≤ a) : SortedOn O M a b :=
  fun i j x y h1 h2 h3 hx hy => h i j x y h1 h2 h3 (by rw [← s.2.1 i (by omega)]; exact hx) (by rw [← s.2.1 j (by omega)]; exact hy)
/-- Exchanges of ranges and rotations turn only what is theirs. -/
theorem rot_same {L M : List α} {a m b : Nat} (h : ByF (rotF a m b) L M) (h1 : a ≤ m) (h2 : m ≤ b) : SameOn L M a b := by
  refine ⟨h.1, fun q hq => by rw [h.2]; unfold rotF; rw [if_neg (by omega), if_neg (by omega)], fun x => ⟨fun ⟨q, q1, q2, q3⟩ => ?_, fun ⟨q, q1, q2, q3⟩ => ?_⟩⟩
  · rw [h.2] at q3
    refine ⟨_, ?_, ?_, q3⟩ <;> (unfold rotF; repeat' split) <;> omega
  · by_cases hq : q < m
    · refine ⟨q + (b - m), by omega, by omega, ?_⟩
      rw [h.2, ← q3]
      unfold rotF
      rw [if_neg (by omega), if_pos (by omega)]
      congr 1; omega
    · refine ⟨q - (m - a), by omega, by omega, ?_⟩
      rw [h.2, ← q3]
      unfold rotF
      rw [if_pos (by omega)]
      congr 1; omega
/-! One into a sorted part. -/
/-- The first of a part goes behind those that are ahead of it. -/
theorem ins_first {L M : List α} {a m b i : Nat} {x : α} (hm : m = a + 1) (hi : m ≤ i) (hib : i ≤ b) (hs : SortedOn O L m b) (hx : L[a]? = some x)
    (h1 : i = m ∨ ∃ y, L[i - 1]? = some y ∧ O.lt y x) (h2 : i = b ∨ ∃ y, L[i]? = some y ∧ O.lt x y) (h : ByF (rotF a m i) L M) : SameOn L M a b ∧ SortedOn O M a b := by
  refine ⟨(rot_same h (by omega) hi).wide (Nat.le_refl _) (by omega) hib, fun p q y z p1 p2 p3 hy hz => ?_⟩
  rw [h.2] at hy hz
  unfold rotF at hy hz
  have hlow : ∀ s y, m ≤ s → s < i → L[s]? = some y → O.lt y x := fun s y s1 s2 hys => by
    rcases h1 with e | ⟨u, hu, hux⟩
    · omega
    · rcases Nat.lt_or_ge s (i - 1) with hs1 | hs1
      · exact O.trans (hs s (i - 1) y u s1 hs1 (by omega) hys hu) hux
      · obtain rfl : s = i - 1 := by omega
        rw [hys] at hu; injection hu with hu; rw [hu]; exact hux
  have hhigh : ∀ s y, i ≤ s → s < b → L[s]? = some y → O.lt x y := fun s y s1 s2 hys => by
    rcases h2 with e | ⟨u, hu, hux⟩
    · omega
    · rcases Nat.lt_or_ge i s with hs1 | hs1
      · exact O.trans hux (hs i s u y hi hs1 s2 hu hys)
      · obtain rfl : s = i := by omega
        rw [hys] at hu; injection hu with hu; rw [hu]; exact hux
  by_cases hp : p < a + (i - m)
  · rw [if_pos (by omega)] at hy
    by_cases hq : q < a + (i - m)
    · rw [if_pos (by omega)] at hz
      exact hs _ _ _ _ (by omega) (by omega) (by omega) hy hz
    · rw [if_neg (by omega)] at hz
      by_cases hq2 : q < i
      · rw [if_pos (by omega)] at hz
        have e : q - (i - m) = a := by omega
        rw [e, hx] at hz
        injection hz with hz
        subst hz
        exact hlow _ _ (by omega) (by omega) hy
      · rw [if_neg (by omega)] at hz
        exact hs _ _ _ _ (by omega) (by omega) p3 hy hz
  · rw [if_neg (by omega)] at hy
    by_cases hp2 : p < i
    · rw [if_pos (by omega)] at hy
      have e : p - (i - m) = a := by omega
      rw [e, hx] at hy
      injection hy with hy
      subst hy
      rw [if_neg (by omega), if_neg (by omega)] at hz
      exact hhigh q z (by omega) p3 hz
    · rw [if_neg (by omega)] at hy
      rw [if_neg (by omega), if_neg (by omega)] at hz
      exact hs _ _ _ _ (by omega) p2 p3 hy hz
/-- The last of a part goes ahead of those that are behind it. -/
theorem ins_last {L M : List α} {a m b i : Nat} {x : α} (hm : b = m + 1) (hi : a ≤ i) (him : i ≤ m) (hs : SortedOn O L a m) (hx : L[m]? = some x)
    (h1 : i = a ∨ ∃ y, L[i - 1]? = some y ∧ O.lt y x) (h2 : i = m ∨ ∃ y, L[i]? = some y ∧ O.lt x y) (h : ByF (rotF i m b) L M) : SameOn L M a b ∧ SortedOn O M a b := by
  refine ⟨(rot_same h him (by omega)).wide hi (by omega) (Nat.le_refl _), fun p q y z p1 p2 p3 hy hz => ?_⟩
  rw [h.2] at hy hz
  unfold rotF at hy hz
  have hlow : ∀ s y, a ≤ s → s < i → L[s]? = some y → O.lt y x := fun s y s1 s2 hys => by
    rcases h1 with e | ⟨u, hu, hux⟩
    · omega
    · rcases Nat.lt_or_ge s (i - 1) with hs1 | hs1
      · exact O.trans (hs s (i - 1) y u s1 hs1 (by omega) hys hu) hux
      · obtain rfl : s = i - 1 := by omega
        rw [hys] at hu; injection hu with hu; rw [hu]; exact hux
  have hhigh : ∀ s y, i ≤ s → s < m → L[s]? = some y → O.lt x y := fun s y s1 s2 hys => by
    rcases h2 with e | ⟨u, hu, hux⟩
    · omega
    · rcases Nat.lt_or_ge i s with hs1 | hs1
      · exact O.trans hux (hs i s u y hi hs1 s2 hu hys)
      · obtain rfl : s = i := by omega
        rw [hys] at hu; injection hu with hu; rw [hu]; exact hux
  by_cases hp : p < i
  · rw [if_neg (by omega), if_neg (by omega)] at hy
    by_cases hq : q < i
    · rw [if_neg (by omega), if_neg (by omega)] at hz
      exact hs _ _ _ _ p1 p2 (by omega) hy hz
    · by_cases hq2 : q < i + (b - m)
      · rw [if_pos (by omega)] at hz
        have e : q + (m - i) = m := by omega
        rw [e, hx] at hz
        injection hz with hz
        subst hz
        exact hlow p y p1 hp hy
      · rw [if_neg (by omega), if_pos (by omega)] at hz
        exact hs _ _ _ _ p1 (by omega) (by omega) hy hz
  · by_cases hp2 : p < i + (b - m)
    · rw [if_pos (by omega)] at hy
      have e : p + (m - i) = m := by omega
      rw [e, hx] at hy
      injection hy with hy
      subst hy
      rw [if_neg (by omega), if_pos (by omega)] at hz
      exact hhigh _ _ (by omega) (by omega) hz
    · rw [if_neg (by omega), if_pos (by omega)] at hy
      rw [if_neg (by omega), if_pos (by omega)] at hz
      exact hs _ _ _ _ (by omega) (by omega) (by omega) hy hz
/-- The general merge: where the parts are cut, what is exchanged, and two smaller merges. -/
theorem cut_order {L M : List α} {a m b mid s e : Nat} (ham : a < m) (hmb : m < b) (hmid1 : a < mid) (hmid2 : mid < b) (hs1 : a ≤ s) (hs2 : s ≤ m) (he : e = mid + m - s) (hsm : s ≤ mid) (he2 : e ≤ b)
    (hA : SortedOn O L a m) (hB : SortedOn O L m b)
    (h1 : s = a ∨ e = b ∨ ∃ x y, L[s - 1]? = some x ∧ L[e]? = some y ∧ O.lt x y) (h2 : s = m ∨ e = m ∨ ∃ x y, L[e - 1]? = some x ∧ L[s]? = some y ∧ O.lt x y)
    (h : ByF (rotF s m e) L M) : (SortedOn O M a s ∧ SortedOn O M s mid ∧ SortedOn O M mid e ∧ SortedOn O M e b) ∧ ∀ p q x y, a ≤ p → p < mid → mid ≤ q → q < b → M[p]? = some x → M[q]? = some y → O.lt x y := by
  have hem : m ≤ e := by omega
  have hP : ∀ p x, a ≤ p → p < s → M[p]? = some x → L[p]? = some x := fun p x p1 p2 hx => by rw [h.2] at hx; unfold rotF at hx; rwa [if_neg (by omega), if_neg (by omega)] at hx
  have hQ : ∀ p x, s ≤ p → p < mid → M[p]? = some x → L[p + (m - s)]? = some x := fun p x p1 p2 hx => by rw [h.2] at hx; unfold rotF at hx; rwa [if_pos (by omega)] at hx
  have hR : ∀ p x, mid ≤ p → p < e → M[p]? = some x → L[p - (e - m)]? = some x := fun p x p1 p2 hx => by rw [h.2] at hx; unfold rotF at hx; rwa [if_neg (by omega), if_pos (by omega)] at hx
  have hS : ∀ p x, e ≤ p → p < b → M[p]? = some x → L[p]? = some x := fun p x p1 p2 hx => by rw [h.2] at hx; unfold rotF at hx; rwa [if_neg (by omega), if_neg (by omega)] at hx
  -- the part ahead of s against the part from e on
  have hPS : ∀ p q x y, a ≤ p → p < s → e ≤ q → q < b → L[p]? = some x → L[q]? = some y → O.lt x y := fun p q x y p1 p2 q1 q2 hx hy => by
    rcases h1 with e1 | e1 | ⟨u, v, hu, hv, huv⟩
    · omega
    · omega
    · have hxu : x = u ∨ O.lt x u := by
        rcases Nat.lt_or_ge p (s - 1) with g | g
        · exact .inr (hA p (s - 1) x u p1 g (by omega) hx hu)
        · obtain rfl : p = s - 1 := by omega
          rw [hx] at hu; injection hu with hu; exact .inl hu
      have hvy : v = y ∨ O.lt v y := by
        rcases Nat.lt_or_ge e q with g | g
        · exact .inr (hB e q v y hem g q2 hv hy)
        · obtain rfl : q = e := by omega
          rw [hy] at hv; injection hv with hv; exact .inl hv.symm
      rcases hxu with rfl | hxu <;> rcases hvy with rfl | hvy
      · exact huv
      · exact O.trans huv hvy
      · exact O.trans hxu huv
      · exact O.trans hxu (O.trans huv hvy)
  have hQR : ∀ p q x y, m ≤ p → p < e → s ≤ q → q < m → L[p]? = some x → L[q]? = some y → O.lt x y := fun p q x y p1 p2 q1 q2 hx hy => by
    rcases h2 with e1 | e1 | ⟨u, v, hu, hv, huv⟩
    · omega
    · omega
    · have hxu : x = u ∨ O.lt x u := by
        rcases Nat.lt_or_ge p (e - 1) with g | g
        · exact .inr (hB p (e - 1) x u p1 g (by omega) hx hu)
        · obtain rfl : p = e - 1 := by omega
          rw [hx] at hu; injection hu with hu; exact .inl hu
      have hvy : v = y ∨ O.lt v y := by
        rcases Nat.lt_or_ge s q with g | g
        · exact .inr (hA s q v y hs1 g q2 hv hy)
        · obtain rfl : q = s := by omega
          rw [hy] at hv; injection hv with hv; exact .inl hv.symm
      rcases hxu with rfl | hxu <;> rcases hvy with rfl | hvy
      · exact huv
      · exact O.trans huv hvy
      · exact O.trans hxu huv
      · exact O.trans hxu (O.trans huv hvy)
  refine ⟨⟨fun i j x y i1 ij j1 hx hy => hA i j x y i1 ij (by omega) (hP i x i1 (by omega) hx) (hP j y (by omega) j1 hy),
    fun i j x y i1 ij j1 hx hy => hB _ _ x y (by omega) (by omega) (by omega) (hQ i x i1 (by omega) hx) (hQ j y (by omega) j1 hy),
    fun i j x y i1 ij j1 hx hy => hA _ _ x y (by omega) (by omega) (by omega) (hR i x i1 (by omega) hx) (hR j y (by omega) j1 hy),
    fun i j x y i1 ij j1 hx hy => hB i j x y (by omega) ij j1 (hS i x i1 (by omega) hx) (hS j y (by omega) j1 hy)⟩, fun p q x y p1 p2 q1 q2 hx hy => ?_⟩
  by_cases hp : p < s
  · by_cases hq : q < e
    · exact hA _ _ x y p1 (by omega) (by omega) (hP p x p1 hp hx) (hR q y q1 hq hy)
    · exact hPS p q x y p1 hp (by omega) q2 (hP p x p1 hp hx) (hS q y (by omega) q2 hy)
  · by_cases hq : q < e
    · exact hQR _ _ x y (by omega) (by omega) (by omega) (by omega) (hQ p x (by omega) p2 hx) (hR q y q1 hq hy)
    · exact hB _ _ x y (by omega) (by omega) q2 (hQ p x (by omega) p2 hx) (hS q y (by omega) q2 hy)
theorem cut_cross {L M : List α} {a m b mid s e : Nat} (ham : a < m) (hmb : m < b) (hs1 : a ≤ s) (hs2 : s ≤ m) (he : e = mid + m - s) (hsm : s ≤ mid) (he2 : e ≤ b) (hC : Cross O L a m b) (h : ByF (rotF s m e) L M) : Cross O M a s mid ∧ Cross O M mid e b := by
  refine ⟨fun i j x y i1 i2 j1 j2 hx hy => ?_, fun i j x y i1 i2 j1 j2 hx hy => ?_⟩
  · rw [h.2] at hx hy
    unfold rotF at hx hy
    rw [if_neg (by omega), if_neg (by omega)] at hx
    rw [if_pos (by omega)] at hy
    exact hC _ _ x y i1 (by omega) (by omega) (by omega) hx hy
  · rw [h.2] at hx hy
    unfold rotF at hx hy
    rw [if_neg (by omega), if_pos (by omega)] at hx
    rw [if_neg (by omega), if_neg (by omega)] at hy
    exact hC _ _ x y (by omega) (by omega) (by omega) (by omega) hx hy
theorem cross_same {L M : List α} {a m b c d : Nat} (hC : Cross O L a m b) (s : SameOn L M c d) (hd : b ≤ c ∨ d ≤ a) : Cross O M a m b :=
  fun i j x y h1 h2 h3 h4 hx hy => hC i j x y h1 h2 h3 h4 (by rw [← s.2.1 i (by omega)]; exact hx) (by rw [← s.2.1 j (by omega)]; exact hy)
/-- Two sorted halves, all of the one ahead of all of the other. -/
theorem join_sorted {L L1 M : List α} {a mid b : Nat} (h0 : ∀ p q x y, a ≤ p → p < mid → mid ≤ q → q < b → L[p]? = some x → L[q]? = some y → O.lt x y) (hm1 : a ≤ mid) (hm2 : mid ≤ b)
    (s1 : SameOn L L1 a mid) (o1 : SortedOn O L1 a mid) (s2 : SameOn L1 M mid b) (o2 : SortedOn O M mid b) : SameOn L M a b ∧ SortedOn O M a b := by
  refine ⟨(s1.wide (Nat.le_refl _) hm1 hm2).trans (s2.wide hm1 hm2 (Nat.le_refl _)), fun i j x y i1 ij j1 hx hy => ?_⟩
  by_cases hj : j < mid
  · exact (o1.aside O s2 (.inl (Nat.le_refl _))) i j x y i1 ij hj hx hy
  · by_cases hi : i < mid
    · rw [s2.2.1 i (.inl hi)] at hx
      obtain ⟨p, p1, p2, p3⟩ := (s1.2.2 x).1 ⟨i, i1, hi, hx⟩
      obtain ⟨q, q1, q2, q3⟩ := (s2.2.2 y).1 ⟨j, by omega, j1, hy⟩
      rw [s1.2.1 q (.inr q1)] at q3
      exact h0 p q x y p1 p2 q1 q2 p3 q3
    · exact o2 i j x y (by omega) ij j1 hx hy
/-- What is sorted, of the same, is one. -/
theorem sorted_ext : ∀ {l m : List α}, l.Pairwise O.lt → m.Pairwise O.lt → (∀ x, x ∈ l ↔ x ∈ m) → l = m
  | [], [], _, _, _ => rfl
  | [], b :: u, _, _, h => absurd ((h b).2 List.mem_cons_self) (by simp)
  | a :: t, [], _, _, h => absurd ((h a).1 List.mem_cons_self) (by simp)
  | a :: t, b :: u, h1, h2, h => by
    obtain ⟨p1, p2⟩ := List.pairwise_cons.1 h1
    obtain ⟨q1, q2⟩ := List.pairwise_cons.1 h2
    have hab : a = b := by
      rcases List.mem_cons.1 ((h a).1 List.mem_cons_self) with e | e
      · exact e
      · rcases List.mem_cons.1 ((h b).2 List.mem_cons_self) with e2 | e2
        · exact e2.symm
        · exact absurd (O.trans (q1 _ e) (p1 _ e2)) (O.irr b)
    subst hab
    congr 1
    refine sorted_ext p2 q2 fun x => ⟨fun hx => ?_, fun hx => ?_⟩
    · rcases List.mem_cons.1 ((h x).1 (List.mem_cons_of_mem _ hx)) with e | e
      · rw [e] at hx; exact absurd (p1 _ hx) (O.irr a)
      · exact e
    · rcases List.mem_cons.1 ((h x).2 (List.mem_cons_of_mem _ hx)) with e | e
      · rw [e] at hx; exact absurd (q1 _ hx) (O.irr a)
      · exact e
end Go.Proofs.Ytgldjjmpjaegfaa.Sy
