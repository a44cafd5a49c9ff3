/- Rows of spans, counted plainly: each row says how many spans it has, none above the most; the sums of the levels. No Go in sight. -/
import Derived.Test.YtkhhcnpmobgdgaaDoorYa
import Derived.Test.YtkhhcnpmobgdgaaDoorRi
namespace Go.Proofs.YtkhhcnpmobgdgaaDoor
open Go.RowKit
set_option linter.unusedVariables false
set_option linter.unusedSimpArgs false
set_option maxRecDepth 100000

def cS (s : Sp) : List Int := oneC (Bm.of s.du) s.er
def spK (v : Int) (s : Sp) : Ky := ⟨v, Wm.win v s.st, s.sv, s.op⟩
def fS (s : Sp) (m : Int) (x : List Int) : List Int := joinC x (cS s) m
def add3 (l : List Rw) (s : Sp) (m : Int) : List Rw := insR (spK 2 s) (fS s m) (insR (spK 1 s) (fS s m) (insR (spK 0 s) (fS s m) l))
def addS (l : List Rw) (s : Sp) (m : Int) : List Rw := if right s = true then add3 l s m else l
def rowsS (S : List Sp) (m : Int) : List Rw := S.foldl (fun l s => addS l s m) []
theorem rowsS_snoc (S : List Sp) (s : Sp) (m : Int) : rowsS (S ++ [s]) m = addS (rowsS S m) s m := by unfold rowsS; rw [List.foldl_append]; rfl
def mt (k : Ky) (s : Sp) : Bool := right s && decide (Wm.isLevel k.lv ∧ spK k.lv s = k)
def oneB (i : Nat) (s : Sp) : Bool := decide ((cS s).getD i 0 = 1)
def tot (k : Ky) (i : Nat) (S : List Sp) : Nat := S.countP fun s => mt k s && oneB i s
def ctM (k : Ky) (S : List Sp) (m : Int) : List Int := (List.range 10).map fun i => min (tot k i S : Int) (max m 0)
theorem ctM_at (k : Ky) (S : List Sp) (m : Int) (i : Nat) (h : i < 10) : (ctM k S m).getD i 0 = min (tot k i S : Int) (max m 0) := by simp [ctM, List.getD, h]
theorem oneC_bit (k : Nat) (e : Bool) (i : Nat) : (oneC k e).getD i 0 = 0 ∨ (oneC k e).getD i 0 = 1 := by
  unfold oneC
  rcases i with _ | _ | i
  · right; rfl
  · cases e
    · left; rfl
    · right; rfl
  · by_cases h : i < 8
    · by_cases h2 : i = k
      · subst h2
        right; simp [List.getD, h]
      · left; simp [List.getD, h, h2]
    · left
      simp [List.getD, h]
theorem cS_val (s : Sp) (i : Nat) : (cS s).getD i 0 = if oneB i s then 1 else 0 := by
  unfold oneB
  rcases oneC_bit (Bm.of s.du) s.er i with h | h
  · have h : (cS s).getD i 0 = 0 := h
    simp only [h]; simp
  · have h : (cS s).getD i 0 = 1 := h
    simp only [h]; simp
theorem addS_sort (l : List Rw) (s : Sp) (m : Int) (h : SortR l) : SortR (addS l s m) := by
  unfold addS
  split
  · exact insR_sort _ _ _ (insR_sort _ _ _ (insR_sort _ _ _ h))
  · exact h
theorem spK_ne {v u : Int} (s : Sp) (h : v ≠ u) : spK v s ≠ spK u s := fun e => h (by have := congrArg Ky.lv e; exact this)
theorem get_add3 (k : Ky) (l : List Rw) (s : Sp) (m : Int) (h : SortR l) : getR k (add3 l s m) = if Wm.isLevel k.lv ∧ spK k.lv s = k then some (fS s m ((getR k l).getD [])) else getR k l := by
  have h1 := insR_sort (spK 0 s) (fS s m) l h
  have h2 := insR_sort (spK 1 s) (fS s m) _ h1
  have n01 : spK 0 s ≠ spK 1 s := spK_ne s (by decide)
  have n02 : spK 0 s ≠ spK 2 s := spK_ne s (by decide)
  have n12 : spK 1 s ≠ spK 2 s := spK_ne s (by decide)
  unfold add3
  rw [getR_ins _ _ _ _ h2]
  by_cases e2 : k = spK 2 s
  · rw [if_pos e2, if_pos (by rw [e2]; exact ⟨Or.inr (Or.inr rfl), rfl⟩)]
    rw [getR_ins _ _ _ _ h1, if_neg n12.symm, getR_ins _ _ _ _ h, if_neg n02.symm, e2]
  · rw [if_neg e2, getR_ins _ _ _ _ h1]
    by_cases e1 : k = spK 1 s
    · rw [if_pos e1, if_pos (by rw [e1]; exact ⟨Or.inr (Or.inl rfl), rfl⟩), getR_ins _ _ _ _ h, if_neg n01.symm, e1]
    · rw [if_neg e1, getR_ins _ _ _ _ h]
      by_cases e0 : k = spK 0 s
      · rw [if_pos e0, if_pos (by rw [e0]; exact ⟨Or.inl rfl, rfl⟩), e0]
      · rw [if_neg e0, if_neg]
        rintro ⟨hl, hk⟩
        rcases hl with hl | hl | hl
        · rw [hl] at hk; exact e0 hk.symm
        · rw [hl] at hk; exact e1 hk.symm
        · rw [hl] at hk; exact e2 hk.symm
theorem rows_sort (m : Int) (S : List Sp) : SortR (rowsS S m) := by
  have : ∀ R : List Sp, SortR (rowsS R.reverse m) := by
    intro R
    induction R with
    | nil => exact List.Pairwise.nil
    | cons s R ih => rw [List.reverse_cons, rowsS_snoc]; exact addS_sort _ _ _ ih
  have h := this S.reverse
  rwa [List.reverse_reverse] at h
theorem tot_snoc (k : Ky) (i : Nat) (S : List Sp) (s : Sp) : tot k i (S ++ [s]) = tot k i S + if mt k s && oneB i s then 1 else 0 := by
  unfold tot; rw [List.countP_append, List.countP_singleton]
theorem tot_none {k : Ky} {S : List Sp} (h : S.any (mt k) = false) (i : Nat) : tot k i S = 0 := by
  unfold tot
  refine List.countP_eq_zero.2 fun s hs => ?_
  have : mt k s = false := by
    rw [List.any_eq_false] at h
    simpa using h s hs
  rw [this]; simp
theorem rows_get (m : Int) (hm : m ≤ 9223372036854775807) (S : List Sp) (k : Ky) : getR k (rowsS S m) = if S.any (mt k) = true then some (ctM k S m) else none := by
  have : ∀ R : List Sp, getR k (rowsS R.reverse m) = if R.reverse.any (mt k) = true then some (ctM k R.reverse m) else none := by
    intro R
    induction R with
    | nil => rfl
    | cons s R ih =>
      rw [List.reverse_cons, rowsS_snoc, List.any_append]
      generalize R.reverse = S at *
      have hs := rows_sort m S
      unfold addS
      by_cases hr : right s = true
      · rw [if_pos hr, get_add3 _ _ _ _ hs, ih]
        by_cases hk : Wm.isLevel k.lv ∧ spK k.lv s = k
        · have hmt : mt k s = true := by unfold mt; rw [hr, decide_eq_true hk]; rfl
          have hany : (S.any (mt k) || [s].any (mt k)) = true := by simp only [List.any_cons, List.any_nil, hmt, Bool.true_or, Bool.or_true]
          rw [if_pos hk, if_pos hany]
          congr 1
          unfold fS joinC
          unfold ctM
          apply List.map_congr_left
          intro i hi
          have hi : i < 10 := List.mem_range.1 hi
          have hold : ((if S.any (mt k) = true then some (List.map (fun i => min (tot k i S : Int) (max m 0)) (List.range 10)) else none).getD []).getD i 0 = min (tot k i S : Int) (max m 0) := by
            by_cases ha : S.any (mt k) = true
            · rw [if_pos ha]; exact ctM_at k S m i hi
            · rw [if_neg ha, tot_none (by simpa using ha)]
              show (0 : Int) = _
              omega
          rw [hold, cS_val, tot_snoc, hmt, Bool.true_and]
          by_cases hb : oneB i s = true
          · rw [if_pos hb, if_pos hb, top_eq (by omega) (by omega) hm]; omega
          · rw [if_neg hb, if_neg hb, top_eq (by omega) (by omega) hm]; omega
        · have hmt : mt k s = false := by unfold mt; rw [decide_eq_false hk, Bool.and_false]
          rw [if_neg hk]
          simp only [List.any_cons, List.any_nil, hmt, Bool.or_false]
          have : ctM k (S ++ [s]) m = ctM k S m := by
            unfold ctM; apply List.map_congr_left; intro i _; rw [tot_snoc, hmt]; rfl
          rw [this]
      · have hr' : right s = false := by simpa using hr
        have hmt : mt k s = false := by unfold mt; rw [hr']; rfl
        rw [if_neg hr, ih]
        simp only [List.any_cons, List.any_nil, hmt, Bool.or_false]
        have : ctM k (S ++ [s]) m = ctM k S m := by
          unfold ctM; apply List.map_congr_left; intro i _; rw [tot_snoc, hmt]; rfl
        rw [this]
  have h := this S.reverse
  rwa [List.reverse_reverse] at h
/-- In whichever order spans come the rows are the same. -/
theorem rows_perm (m : Int) (hm : m ≤ 9223372036854775807) {S T : List Sp} (h : S.Perm T) : rowsS S m = rowsS T m := by
  refine rows_ext (rows_sort m S) (rows_sort m T) fun k => ?_
  rw [rows_get m hm, rows_get m hm, h.any_eq]
  have : ctM k S m = ctM k T m := by
    unfold ctM; apply List.map_congr_left; intro i _; unfold tot; rw [h.countP_eq]
  rw [this]
theorem rows_mem (m : Int) (hm : m ≤ 9223372036854775807) {S : List Sp} {r : Rw} (h : r ∈ rowsS S m) : S.any (mt r.k) = true ∧ r.ct = ctM r.k S m := by
  have h1 := getR_of (rows_sort m S) h
  rw [rows_get m hm] at h1
  by_cases ha : S.any (mt r.k) = true
  · rw [if_pos ha] at h1; injection h1 with h1; exact ⟨ha, h1.symm⟩
  · rw [if_neg ha] at h1; cases h1
theorem rows_has (m : Int) (hm : m ≤ 9223372036854775807) {S : List Sp} {k : Ky} (h : S.any (mt k) = true) : ∃ r ∈ rowsS S m, r.k = k := by
  have h1 := rows_get m hm S k
  rw [if_pos h] at h1
  exact ⟨_, getR_mem h1, rfl⟩
theorem mt_level {k : Ky} {s : Sp} (h : mt k s = true) : right s = true ∧ Wm.isLevel k.lv ∧ spK k.lv s = k := by
  unfold mt at h
  rw [Bool.and_eq_true] at h
  exact ⟨h.1, of_decide_eq_true h.2⟩
theorem right_start {s : Sp} (h : right s = true) : 0 ≤ s.st ∧ s.st ≤ 1099511627776 := by
  unfold right at h
  simp only [Bool.and_eq_true, decide_eq_true_eq] at h
  exact ⟨h.2.2.1, h.2.2.2.1⟩
theorem rows_level (m : Int) (hm : m ≤ 9223372036854775807) {S : List Sp} {r : Rw} (h : r ∈ rowsS S m) : Wm.isLevel r.k.lv ∧ ∃ t : Int, 0 ≤ t ∧ t ≤ 1099511627776 ∧ r.k.win = t / Wm.lens r.k.lv := by
  obtain ⟨ha, _⟩ := rows_mem m hm h
  obtain ⟨s, _, hs⟩ := List.any_eq_true.1 ha
  obtain ⟨h1, h2, h3⟩ := mt_level hs
  obtain ⟨h4, h5⟩ := right_start h1
  refine ⟨h2, s.st, h4, h5, ?_⟩
  have := congrArg Ky.win h3
  rw [← this]
  show Wm.win r.k.lv s.st = _
  exact Wm.win_of h2 rfl h4 h5

/-! The sums of the levels. -/
def sub (k' k : Ky) : Bool := decide (Wm.up k'.lv k'.win = (k.lv, k.win, true)) && (decide (k'.sv = k.sv) && decide (k'.op = k.op))
theorem count_one {κ : Ky} : ∀ {l : List Ky}, l.Pairwise (fun a b => ordK a b < 0) → κ ∈ l → l.countP (fun x => decide (x = κ)) = 1
  | [], _, h => by cases h
  | a :: t, hp, h => by
    obtain ⟨h1, h2⟩ := List.pairwise_cons.1 hp
    rw [List.countP_cons]
    rcases List.mem_cons.1 h with e | e
    · subst e
      have : t.countP (fun x => decide (x = κ)) = 0 := List.countP_eq_zero.2 fun x hx => by
        simp only [decide_eq_true_eq]
        intro e; have := h1 x hx; rw [e, ordK_self] at this; omega
      rw [this]; simp
    · have hne : a ≠ κ := fun e2 => by have := h1 κ e; rw [e2, ordK_self] at this; omega
      rw [count_one h2 e, decide_eq_false hne]; simp
theorem up_lv {l n a b : Int} (h : Wm.up l n = (a, b, true)) : a = l + 1 := by
  unfold Wm.up at h
  split at h
  · injection h with h _; exact h.symm
  · injection h with _ h; injection h with _ h; cases h
theorem up_win {v t : Int} (hv : v = 0 ∨ v = 1) (h0 : 0 ≤ t) (h1 : t ≤ 1099511627776) : Wm.up v (Wm.win v t) = (v + 1, Wm.win (v + 1) t, true) := by
  rcases hv with rfl | rfl
  · rw [Wm.win_of (Or.inl rfl) Wm.lens0 h0 h1, Wm.up_of (Or.inl rfl) Wm.lens0 Wm.lens1 (by omega) (by omega) (by decide), show (0 : Int) + 1 = 1 from rfl, Wm.win_of (Or.inr (Or.inl rfl)) Wm.lens1 h0 h1]
    have : t / 60 * 60 / 3600 = t / 3600 := by omega
    rw [this]
  · rw [Wm.win_of (Or.inr (Or.inl rfl)) Wm.lens1 h0 h1, Wm.up_of (Or.inr (Or.inl rfl)) Wm.lens1 Wm.lens2 (by omega) (by omega) (by decide), show (1 : Int) + 1 = 2 from rfl, Wm.win_of (Or.inr (Or.inr rfl)) Wm.lens2 h0 h1]
    have : t / 3600 * 3600 / 86400 = t / 86400 := by omega
    rw [this]
theorem sub_one {k : Ky} (hk : k.lv = 1 ∨ k.lv = 2) {Ks : List Ky} (hp : Ks.Pairwise (fun a b => ordK a b < 0)) (s : Sp) (hin : right s = true → spK (k.lv - 1) s ∈ Ks) :
    Ks.countP (fun k' => sub k' k && mt k' s) = if mt k s then 1 else 0 := by
  by_cases hr : right s = true
  · obtain ⟨h0, h1⟩ := right_start hr
    have hv : k.lv - 1 = 0 ∨ k.lv - 1 = 1 := by omega
    have hup := up_win hv h0 h1
    have hone := count_one hp (hin hr)
    have hlv : Wm.isLevel k.lv := by unfold Wm.isLevel; omega
    have hlv1 : Wm.isLevel (k.lv - 1) := by unfold Wm.isLevel; omega
    by_cases hm : mt k s = true
    · rw [if_pos hm]
      rw [← hone]
      congr 1
      funext k'
      obtain ⟨_, _, he⟩ := mt_level hm
      by_cases e : k' = spK (k.lv - 1) s
      · rw [decide_eq_true e, e]
        have e1 : mt (spK (k.lv - 1) s) s = true := by unfold mt; rw [hr, decide_eq_true ⟨hlv1, rfl⟩]; rfl
        have e2 : sub (spK (k.lv - 1) s) k = true := by
          unfold sub
          have a1 : Wm.up (spK (k.lv - 1) s).lv (spK (k.lv - 1) s).win = (k.lv, k.win, true) := by
            show Wm.up (k.lv - 1) (Wm.win (k.lv - 1) s.st) = _
            rw [hup, show k.lv - 1 + 1 = k.lv by omega, show Wm.win k.lv s.st = k.win from congrArg Ky.win he]
          rw [decide_eq_true a1, decide_eq_true (show (spK (k.lv - 1) s).sv = k.sv from (show s.sv = k.sv from congrArg Ky.sv he)), decide_eq_true (show (spK (k.lv - 1) s).op = k.op from (show s.op = k.op from congrArg Ky.op he))]; rfl
        rw [e1, e2]; rfl
      · rw [decide_eq_false e]
        by_cases h3 : (sub k' k && mt k' s) = true
        · exfalso
          rw [Bool.and_eq_true] at h3
          obtain ⟨_, _, h5⟩ := mt_level h3.2
          have h6 := h3.1
          unfold sub at h6
          rw [Bool.and_eq_true] at h6
          have h7 := up_lv (of_decide_eq_true h6.1)
          exact e (by rw [← h5, show k'.lv = k.lv - 1 by omega])
        · simpa using h3
    · rw [if_neg hm]
      refine List.countP_eq_zero.2 fun k' _ h3 => hm ?_
      rw [Bool.and_eq_true] at h3
      obtain ⟨_, _, h5⟩ := mt_level h3.2
      have h6 := h3.1
      unfold sub at h6
      rw [Bool.and_eq_true, Bool.and_eq_true] at h6
      have h8 := of_decide_eq_true h6.1
      have h7 := up_lv h8
      have h9 : k'.lv = k.lv - 1 := by omega
      unfold mt
      rw [hr, decide_eq_true]
      · rfl
      · refine ⟨hlv, Ky.ext' rfl ?_ ?_ ?_⟩
        · show Wm.win k.lv s.st = k.win
          rw [← h5, h9] at h8
          have h8 : Wm.up (k.lv - 1) (Wm.win (k.lv - 1) s.st) = (k.lv, k.win, true) := h8
          rw [hup] at h8
          injection h8 with _ h8
          injection h8 with h8 _
          rw [← h8, show k.lv - 1 + 1 = k.lv by omega]
        · show s.sv = k.sv
          rw [← of_decide_eq_true h6.2.1, ← h5]; rfl
        · show s.op = k.op
          rw [← of_decide_eq_true h6.2.2, ← h5]; rfl
  · have hr : right s = false := by simpa using hr
    have e1 : ∀ k, mt k s = false := fun k => by unfold mt; rw [hr]; rfl
    rw [e1]
    refine List.countP_eq_zero.2 fun k' _ h3 => ?_
    rw [e1, Bool.and_false] at h3; cases h3
theorem sum_add (f g : Ky → Nat) : ∀ l : List Ky, (l.map fun x => f x + g x).sum = (l.map f).sum + (l.map g).sum
  | [] => rfl
  | a :: t => by simp only [List.map_cons, List.sum_cons, sum_add f g t]; omega
theorem sum_ind (p : Ky → Bool) : ∀ l : List Ky, (l.map fun x => if p x then 1 else 0).sum = l.countP p
  | [] => rfl
  | a :: t => by rw [List.map_cons, List.sum_cons, sum_ind p t, List.countP_cons]; omega
theorem sum_zero : ∀ l : List Ky, (l.map fun _ => 0).sum = 0
  | [] => rfl
  | a :: t => by rw [List.map_cons, List.sum_cons, sum_zero t]
theorem tot_sub {k : Ky} (hk : k.lv = 1 ∨ k.lv = 2) {Ks : List Ky} (hp : Ks.Pairwise (fun a b => ordK a b < 0)) (i : Nat) : ∀ (S : List Sp), (∀ s ∈ S, right s = true → spK (k.lv - 1) s ∈ Ks) →
    (Ks.map fun k' => if sub k' k then tot k' i S else 0).sum = tot k i S
  | [], _ => by
    unfold tot
    simp only [List.countP_nil, ite_self]
    exact sum_zero Ks
  | s :: S, hin => by
    have ih := tot_sub hk hp i S fun x hx => hin x (List.mem_cons_of_mem _ hx)
    have h1 := sub_one hk hp s (hin s List.mem_cons_self)
    have e : ∀ k', (if sub k' k then tot k' i (s :: S) else 0) = (if sub k' k then tot k' i S else 0) + (if (sub k' k && (mt k' s && oneB i s)) then 1 else 0) := fun k' => by
      unfold tot
      rw [List.countP_cons]
      cases sub k' k
      · rfl
      · rfl
    rw [show (fun k' => if sub k' k then tot k' i (s :: S) else 0) = fun k' => (if sub k' k then tot k' i S else 0) + (if (sub k' k && (mt k' s && oneB i s)) then 1 else 0) from funext e, sum_add, ih, sum_ind]
    have e2 : tot k i (s :: S) = tot k i S + if (mt k s && oneB i s) then 1 else 0 := by unfold tot; rw [List.countP_cons]
    rw [e2]
    congr 1
    cases hb : oneB i s
    · simp only [Bool.and_false]
      rw [if_neg (by decide)]
      exact List.countP_eq_zero.2 fun _ _ => by decide
    · simp only [Bool.and_true]
      exact h1
def sumUp (k : Ky) (m : Int) (X : List Rw) (c : List Int) : List Int := X.foldl (fun c r => if sub r.k k = true then joinC c r.ct m else c) c
theorem sumUp_at (k : Ky) (m : Int) (hm : m ≤ 9223372036854775807) (i : Nat) (hi : i < 10) : ∀ (X : List Rw) (c : List Int), (∀ r ∈ X, 0 ≤ r.ct.getD i 0 ∧ r.ct.getD i 0 ≤ max m 0) → 0 ≤ c.getD i 0 → c.getD i 0 ≤ max m 0 →
    (sumUp k m X c).getD i 0 = min (c.getD i 0 + (X.map fun r => if sub r.k k then r.ct.getD i 0 else 0).sum) (max m 0)
  | [], c, _, _, h => by show c.getD i 0 = min (c.getD i 0 + 0) _; omega
  | a :: t, c, hX, h0, h1 => by
    obtain ⟨a0, a1⟩ := hX a List.mem_cons_self
    have hsum : 0 ≤ (t.map fun r => if sub r.k k then r.ct.getD i 0 else 0).sum := by
      have : ∀ t : List Rw, (∀ r ∈ t, 0 ≤ r.ct.getD i 0) → 0 ≤ (t.map fun r => if sub r.k k then r.ct.getD i 0 else 0).sum := by
        intro t
        induction t with
        | nil => intro _; exact Int.le_refl _
        | cons b u ih =>
          intro h
          rw [List.map_cons, List.sum_cons]
          have := ih fun r hr => h r (List.mem_cons_of_mem _ hr)
          have := h b List.mem_cons_self
          split <;> omega
      exact this t fun r hr => (hX r (List.mem_cons_of_mem _ hr)).1
    show (sumUp k m t (if sub a.k k = true then joinC c a.ct m else c)).getD i 0 = _
    rw [List.map_cons, List.sum_cons]
    by_cases hs : sub a.k k = true
    · rw [if_pos hs, if_pos hs]
      have e := join_at c a.ct m i hi
      rw [top_eq (by omega) (by omega) hm] at e
      rw [sumUp_at k m hm i hi t _ (fun r hr => hX r (List.mem_cons_of_mem _ hr)) (by omega) (by omega), e]
      omega
    · rw [if_neg hs, if_neg hs, sumUp_at k m hm i hi t _ (fun r hr => hX r (List.mem_cons_of_mem _ hr)) h0 h1]
      omega
theorem min_sum (M : Int) (hM : 0 ≤ M) (p : Rw → Bool) (g : Rw → Nat) : ∀ (X : List Rw), min ((X.map fun r => if p r then min (g r : Int) M else 0).sum) M = min (((X.map fun r => if p r then g r else 0).sum : Nat) : Int) M
  | [] => rfl
  | a :: t => by
    have ih := min_sum M hM p g t
    have hsum : 0 ≤ (t.map fun r => if p r then min (g r : Int) M else 0).sum := by
      clear ih
      induction t with
      | nil => exact Int.le_refl _
      | cons b u ih =>
        rw [List.map_cons, List.sum_cons]
        split <;> omega
    rw [List.map_cons, List.sum_cons, List.map_cons, List.sum_cons]
    by_cases h : p a = true
    · rw [if_pos h, if_pos h]; omega
    · rw [if_neg h, if_neg h]; omega
/-- Each window's row is the sum of those of the windows that it is made of. -/
theorem rows_sums (m : Int) (hm : m ≤ 9223372036854775807) (S : List Sp) {r : Rw} (h : r ∈ rowsS S m) (hl : r.k.lv ≠ 0) (i : Nat) (hi : i < 10) : (sumUp r.k m (rowsS S m) []).getD i 0 = r.ct.getD i 0 := by
  obtain ⟨ha, hc⟩ := rows_mem m hm h
  obtain ⟨hlv, _⟩ := rows_level m hm h
  have hk : r.k.lv = 1 ∨ r.k.lv = 2 := by unfold Wm.isLevel at hlv; omega
  have hX : ∀ x ∈ rowsS S m, x.ct.getD i 0 = min (tot x.k i S : Int) (max m 0) := fun x hx => by rw [(rows_mem m hm hx).2, ctM_at _ _ _ _ hi]
  rw [sumUp_at r.k m hm i hi _ _ (fun x hx => by rw [hX x hx]; omega) (by show (0 : Int) ≤ 0; omega) (by show (0 : Int) ≤ _; omega)]
  have e1 : ((rowsS S m).map fun x => if sub x.k r.k then x.ct.getD i 0 else 0) = (rowsS S m).map fun x => if sub x.k r.k then min (tot x.k i S : Int) (max m 0) else 0 := by
    apply List.map_congr_left
    intro x hx
    rw [hX x hx]
  rw [e1, show ([] : List Int).getD i 0 = 0 from rfl, Int.zero_add, min_sum (max m 0) (by omega) (fun x => sub x.k r.k) (fun x => tot x.k i S)]
  have hp : ((rowsS S m).map (·.k)).Pairwise (fun a b => ordK a b < 0) := List.pairwise_map.2 (rows_sort m S)
  have e2 := tot_sub hk hp i S fun s hs hr => by
    have hmt : mt (spK (r.k.lv - 1) s) s = true := by
      unfold mt; rw [hr, decide_eq_true]
      · rfl
      · exact ⟨by unfold Wm.isLevel spK; simp only; omega, rfl⟩
    obtain ⟨x, hx, hxk⟩ := rows_has m hm (S := S) (k := spK (r.k.lv - 1) s) (List.any_eq_true.2 ⟨s, hs, hmt⟩)
    rw [← hxk]; exact List.mem_map_of_mem hx
  rw [List.map_map] at e2
  rw [hX r h, ← e2]
  rfl
end Go.Proofs.YtkhhcnpmobgdgaaDoor
