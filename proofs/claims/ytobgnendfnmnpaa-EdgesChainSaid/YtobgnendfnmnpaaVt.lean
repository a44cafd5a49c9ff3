/- Edges, plainly: what counting calls leaves depends on how often each pair was called alone. -/
import Derived.Test.YtobgnendfnmnpaaVd
namespace Go.Proofs.Ytobgnendfnmnpaa
open Go.RowKit
set_option linter.unusedVariables false
set_option linter.unusedSimpArgs false

theorem cmpB_flip : ∀ (a b : List UInt8), Lib.compareBytes b a = - Lib.compareBytes a b
  | [], [] => by simp [Lib.compareBytes]
  | [], _ :: _ => by simp [Lib.compareBytes]
  | _ :: _, [] => by simp [Lib.compareBytes]
  | a :: ra, b :: rb => by
    unfold Lib.compareBytes
    by_cases h : a < b
    · have h2 : ¬ b < a := fun h3 => absurd (UInt8.lt_trans h h3) (UInt8.lt_irrefl a)
      simp [h, h2]
    · by_cases h2 : b < a
      · simp [h, h2]
      · simp only [h, h2, if_false]
        exact cmpB_flip ra rb
theorem cmpB_trans : ∀ (a b c : List UInt8), Lib.compareBytes a b < 0 → Lib.compareBytes b c < 0 → Lib.compareBytes a c < 0
  | [], [], _, h, _ => by simp [Lib.compareBytes] at h
  | _ :: _, [], _, h, _ => by simp [Lib.compareBytes] at h
  | [], _ :: _, [], _, h => by simp [Lib.compareBytes] at h
  | _ :: _, _ :: _, [], _, h => by simp [Lib.compareBytes] at h
  | [], _ :: _, _ :: _, _, _ => by simp [Lib.compareBytes]
  | a :: ra, b :: rb, c :: rc, h1, h2 => by
    unfold Lib.compareBytes at h1 h2 ⊢
    by_cases ab : a < b
    · by_cases bc : b < c
      · simp [UInt8.lt_trans ab bc]
      · rw [if_neg bc] at h2
        by_cases cb : c < b
        · rw [if_pos cb] at h2; exact absurd h2 (by decide)
        · have e : b = c := UInt8.le_antisymm (UInt8.not_lt.1 cb) (UInt8.not_lt.1 bc)
          subst e
          simp [ab]
    · rw [if_neg ab] at h1
      by_cases ba : b < a
      · rw [if_pos ba] at h1; exact absurd h1 (by decide)
      · rw [if_neg ba] at h1
        have e : a = b := UInt8.le_antisymm (UInt8.not_lt.1 ba) (UInt8.not_lt.1 ab)
        subst e
        by_cases bc : a < c
        · simp [bc]
        · rw [if_neg bc] at h2 ⊢
          by_cases cb : c < a
          · rw [if_pos cb] at h2; exact absurd h2 (by decide)
          · rw [if_neg cb] at h2 ⊢
            exact cmpB_trans ra rb rc h1 h2
theorem cmpT_flip (a b : ByteArray) : cmpT b a = - cmpT a b := cmpB_flip _ _
theorem cmpT_trans {a b c : ByteArray} (h : cmpT a b < 0) (k : cmpT b c < 0) : cmpT a c < 0 := cmpB_trans _ _ _ h k
/-- One pair stands before another. -/
def bef (x y : Eg) : Prop := ordG x y.fr y.to < 0
theorem bef_trans {x y z : Eg} (h : bef x y) (k : bef y z) : bef x z := by
  unfold bef ordG at *
  by_cases h1 : cmpT x.fr y.fr = 0
  · rw [if_pos h1] at h
    rw [(cmpT_zero _ _).1 h1]
    by_cases h2 : cmpT y.fr z.fr = 0
    · rw [if_pos h2] at k ⊢; exact cmpT_trans h k
    · rw [if_neg h2] at k ⊢; exact k
  · rw [if_neg h1] at h
    by_cases h2 : cmpT y.fr z.fr = 0
    · rw [if_pos h2] at k
      rw [← (cmpT_zero _ _).1 h2, if_neg h1]; exact h
    · rw [if_neg h2] at k
      have h3 := cmpT_trans h k
      rw [if_neg (by omega)]; exact h3
theorem bef_flip (x y : Eg) : ordG y x.fr x.to = - ordG x y.fr y.to := by
  unfold ordG
  rw [cmpT_flip x.fr y.fr, cmpT_flip x.to y.to]
  by_cases h : cmpT x.fr y.fr = 0
  · rw [if_pos h, if_pos (by omega)]
  · rw [if_neg h, if_neg (by omega)]
/-- How often a pair was called, and how often it failed. -/
def cntC (cs : List Call) (fr tt : ByteArray) : Nat := cs.countP fun c => decide (c.1 = fr ∧ c.2.1 = tt)
def errC (cs : List Call) (fr tt : ByteArray) : Nat := cs.countP fun c => decide (c.1 = fr ∧ c.2.1 = tt) && c.2.2
theorem cntC_snoc (cs : List Call) (f t fr tt : ByteArray) (e : Bool) : cntC (cs ++ [(f, t, e)]) fr tt = cntC cs fr tt + (if f = fr ∧ t = tt then 1 else 0) := by
  unfold cntC
  rw [List.countP_append]
  congr 1
  by_cases h : f = fr ∧ t = tt <;> simp [List.countP_cons, h]
theorem errC_snoc (cs : List Call) (f t fr tt : ByteArray) (e : Bool) : errC (cs ++ [(f, t, e)]) fr tt = errC cs fr tt + (if (f = fr ∧ t = tt) ∧ e = true then 1 else 0) := by
  unfold errC
  rw [List.countP_append]
  congr 1
  by_cases h : f = fr ∧ t = tt <;> cases e <;> simp [List.countP_cons, h]
theorem cntC_le (cs : List Call) (fr tt : ByteArray) : cntC cs fr tt ≤ cs.length := List.countP_le_length
theorem errC_le (cs : List Call) (fr tt : ByteArray) : errC cs fr tt ≤ cntC cs fr tt := by
  unfold errC cntC
  refine List.countP_mono_left fun c _ h => ?_
  simp only [Bool.and_eq_true] at h
  exact h.1
/-- The edges of calls. -/
structure Tally (most : Int) (cs : List Call) (L : List Eg) : Prop where
  ord : L.Pairwise bef
  val : ∀ y ∈ L, 0 < cntC cs y.fr y.to ∧ y.cn = min (cntC cs y.fr y.to : Int) most ∧ y.er = min (errC cs y.fr y.to : Int) most
  all : ∀ fr tt, 0 < cntC cs fr tt → ∃ y ∈ L, y.fr = fr ∧ y.to = tt
theorem Tally.nil (most : Int) : Tally most [] [] := ⟨List.Pairwise.nil, (fun y h => (by cases h)), (fun fr tt h => (by simp [cntC] at h))⟩
/-- Two lists of edges of calls that are alike. -/
theorem Tally.same {most : Int} {cs cs' : List Call} {L L' : List Eg} (h : Tally most cs L) (k : Tally most cs' L') (hc : ∀ fr tt, cntC cs fr tt = cntC cs' fr tt) (he : ∀ fr tt, errC cs fr tt = errC cs' fr tt) : L = L' := by
  have sub : ∀ {cs cs' : List Call} {L L' : List Eg}, Tally most cs L → Tally most cs' L' → (∀ fr tt, cntC cs fr tt = cntC cs' fr tt) → (∀ fr tt, errC cs fr tt = errC cs' fr tt) → ∀ y ∈ L, y ∈ L' := by
    intro cs cs' L L' h k hc he y hy
    obtain ⟨h1, h2, h3⟩ := h.val y hy
    obtain ⟨z, hz, e1, e2⟩ := k.all y.fr y.to (by rw [← hc]; exact h1)
    obtain ⟨k1, k2, k3⟩ := k.val z hz
    rw [e1, e2, ← hc, ← h2] at k2
    rw [e1, e2, ← he, ← h3] at k3
    obtain ⟨a, b, c, d⟩ := y
    obtain ⟨a', b', c', d'⟩ := z
    simp only at e1 e2 k2 k3
    subst e1 e2 k2 k3
    exact hz
  have irr : ∀ x : Eg, ¬ bef x x := fun x hx => by
    have h0 := (ordG_zero x x.fr x.to).2 ⟨rfl, rfl⟩
    unfold bef at hx; omega
  have nd : ∀ {L : List Eg}, L.Pairwise bef → L.Nodup := fun {L} hp => List.Pairwise.imp (S := fun a b => a ≠ b) (fun {a b} hab (e : a = b) => irr a (by rw [← e] at hab; exact hab)) hp
  have hp : L.Perm L' := (List.perm_ext_iff_of_nodup (nd h.ord) (nd k.ord)).2 fun y => ⟨sub h k hc he y, sub k h (fun a b => (hc a b).symm) (fun a b => (he a b).symm) y⟩
  exact List.Perm.eq_of_pairwise (fun a b _ _ h1 h2 => absurd (bef_trans h1 h2) (irr a)) h.ord k.ord hp
theorem Tally.of {most : Int} {cs : List Call} {L M : List Eg} {fr tt : ByteArray} {err : Bool} (h : Tally most cs L) (ho : M.Pairwise bef)
    (hm : ∀ z ∈ M, (z ∈ L ∧ ¬ (fr = z.fr ∧ tt = z.to)) ∨ (z.fr = fr ∧ z.to = tt ∧ z.cn = min ((cntC cs fr tt : Int) + 1) most ∧ z.er = min ((errC cs fr tt : Int) + if err = true then 1 else 0) most))
    (hk : ∀ z ∈ L, ∃ z' ∈ M, z'.fr = z.fr ∧ z'.to = z.to) (hn : ∃ z ∈ M, z.fr = fr ∧ z.to = tt) : Tally most (cs ++ [(fr, tt, err)]) M := by
  refine ⟨ho, fun z hz => ?_, fun f t hc => ?_⟩
  · rw [cntC_snoc, errC_snoc]
    rcases hm z hz with ⟨h1, h2⟩ | ⟨h1, h2, h3, h4⟩
    · rw [if_neg h2, if_neg (fun h => h2 h.1)]
      exact h.val z h1
    · rw [h1, h2, h3, h4]
      cases err <;> simp
  · rw [cntC_snoc] at hc
    by_cases e : fr = f ∧ tt = t
    · obtain ⟨rfl, rfl⟩ := e; exact hn
    · rw [if_neg e] at hc
      obtain ⟨z, hz, h1, h2⟩ := h.all f t (by omega)
      obtain ⟨z', hz', h3, h4⟩ := hk z hz
      exact ⟨z', hz', h3.trans h1, h4.trans h2⟩
theorem bump_val {most a : Int} {n : Nat} {d : Int} (h0 : 0 ≤ most) (hn : (n : Int) < 4611686018427387904) (hd : d = 0 ∨ d = 1) (ha : a = min (n : Int) most) : min (Bm.plus a d) most = min ((n : Int) + d) most := by
  unfold Bm.plus
  subst ha
  split <;> omega
/-- One call more. -/
theorem Tally.step {most : Int} {cs : List Call} {L M : List Eg} {fr tt : ByteArray} {err : Bool} (h : Tally most cs L) (h0 : 0 ≤ most) (hl : cs.length < 4611686018427387904) (hc : Counted L fr tt most err M) : Tally most (cs ++ [(fr, tt, err)]) M := by
  obtain ⟨i, ok, y, hi, hp, hy, rfl⟩ := hc
  have hcl := cntC_le cs fr tt
  have hel := errC_le cs fr tt
  have hd : (if err = true then (1 : Int) else 0) = 0 ∨ (if err = true then (1 : Int) else 0) = 1 := by cases err <;> simp
  cases ok
  · obtain ⟨_, hne, hlt, hgt⟩ := hp.2 rfl
    have hc0 : cntC cs fr tt = 0 := by
      rcases Nat.eq_zero_or_pos (cntC cs fr tt) with h1 | h1
      · exact h1
      · obtain ⟨z, hz, e1, e2⟩ := h.all fr tt h1
        exact absurd ((ordG_zero z fr tt).2 ⟨e1, e2⟩) (hne z hz)
    have he0 : errC cs fr tt = 0 := by omega
    simp only [rowG, Bool.false_eq_true, if_false] at hy ⊢
    have hti : (L.take i).length = i := by rw [List.length_take]; omega
    rw [List.getElem?_append_right (by omega), hti, Nat.sub_self] at hy
    simp at hy
    subst hy
    rw [List.set_append_right _ _ (by omega), hti, Nat.sub_self, List.set_cons_zero]
    have hsp : (L.take i ++ L.drop i).Pairwise bef := by rw [List.take_append_drop]; exact h.ord
    obtain ⟨p1, p2, p3⟩ := List.pairwise_append.1 hsp
    have hpair : (bumpG most err ⟨fr, tt, 0, 0⟩).fr = fr ∧ (bumpG most err ⟨fr, tt, 0, 0⟩).to = tt := ⟨rfl, rfl⟩
    have hb4 : ∀ x ∈ L.take i, bef x (bumpG most err ⟨fr, tt, 0, 0⟩) := fun x hx => by
      obtain ⟨j, hj⟩ := List.mem_iff_getElem?.1 hx
      have hji : j < i := by
        have := (List.getElem?_eq_some_iff.1 hj).1
        omega
      rw [List.getElem?_take, if_pos hji] at hj
      exact hlt j x hji hj
    have haf : ∀ x ∈ L.drop i, bef (bumpG most err ⟨fr, tt, 0, 0⟩) x := by
      have h1 : ∀ x, L[i]? = some x → bef (bumpG most err ⟨fr, tt, 0, 0⟩) x := fun x hx => by
        have h2 := hgt x hx
        have h3 := bef_flip x (bumpG most err ⟨fr, tt, 0, 0⟩)
        unfold bef
        rw [h3]
        show - ordG x fr tt < 0
        omega
      intro x hx
      rcases hD : L.drop i with _ | ⟨z, R⟩
      · rw [hD] at hx; cases hx
      · have hz : L[i]? = some z := by
          have := congrArg (fun l => l[0]?) hD
          simpa using this
        rw [hD] at hx p2
        rcases List.mem_cons.1 hx with rfl | hx
        · exact h1 _ hz
        · exact bef_trans (h1 z hz) ((List.pairwise_cons.1 p2).1 x hx)
    refine h.of ?_ (fun z hz => ?_) (fun z hz => ⟨z, ?_, rfl, rfl⟩) ⟨_, List.mem_append.2 (.inr List.mem_cons_self), rfl, rfl⟩
    · refine List.pairwise_append.2 ⟨p1, List.pairwise_cons.2 ⟨haf, p2⟩, fun a ha b hb => ?_⟩
      rcases List.mem_cons.1 hb with rfl | hb
      · exact hb4 a ha
      · exact p3 a ha b hb
    · rcases List.mem_append.1 hz with hz | hz
      · have hz2 := List.mem_of_mem_take hz
        exact .inl ⟨hz2, fun e => hne z hz2 ((ordG_zero z fr tt).2 ⟨e.1.symm, e.2.symm⟩)⟩
      · rcases List.mem_cons.1 hz with rfl | hz
        · refine .inr ⟨rfl, rfl, ?_, ?_⟩
          · exact bump_val (n := cntC cs fr tt) h0 (by omega) (.inr rfl) (by rw [hc0]; show (0 : Int) = _; omega)
          · exact bump_val (n := errC cs fr tt) h0 (by omega) hd (by rw [he0]; show (0 : Int) = _; omega)
        · have hz2 := List.mem_of_mem_drop hz
          exact .inl ⟨hz2, fun e => hne z hz2 ((ordG_zero z fr tt).2 ⟨e.1.symm, e.2.symm⟩)⟩
    · rw [← List.take_append_drop i L] at hz
      rcases List.mem_append.1 hz with hz | hz
      · exact List.mem_append.2 (.inl hz)
      · exact List.mem_append.2 (.inr (List.mem_cons_of_mem _ hz))
  · obtain ⟨x, hx, hx0⟩ := hp.1 rfl
    simp only [rowG, if_true] at hy ⊢
    rw [hx] at hy
    injection hy with hy
    subst hy
    obtain ⟨e1, e2⟩ := (ordG_zero x fr tt).1 hx0
    subst e1 e2
    have hil := (List.getElem?_eq_some_iff.1 hx).1
    have hxm := List.mem_of_getElem? hx
    obtain ⟨v1, v2, v3⟩ := h.val x hxm
    have hnew : bumpG most err x ∈ L.set i (bumpG most err x) := List.mem_of_getElem? (by rw [List.getElem?_set, if_pos rfl, if_pos hil])
    refine h.of ?_ (fun z hz => ?_) (fun z hz => ?_) ⟨_, hnew, rfl, rfl⟩
    · rw [List.pairwise_iff_getElem]
      intro a b ha hb hab
      rw [List.length_set] at ha hb
      have h1 := (List.pairwise_iff_getElem.1 h.ord) a b ha hb hab
      have hxi : L[i] = x := (List.getElem?_eq_some_iff.1 hx).2
      rw [List.getElem_set, List.getElem_set]
      by_cases ea : i = a
      · subst ea
        rw [if_pos rfl, if_neg (by omega)]
        rw [hxi] at h1; exact h1
      · rw [if_neg ea]
        by_cases eb : i = b
        · subst eb
          rw [if_pos rfl]
          rw [hxi] at h1; exact h1
        · rw [if_neg eb]; exact h1
    · obtain ⟨j, hj⟩ := List.mem_iff_getElem?.1 hz
      rw [List.getElem?_set] at hj
      by_cases e : i = j
      · rw [if_pos e, if_pos hil] at hj
        injection hj with hj
        subst hj
        exact .inr ⟨rfl, rfl, bump_val h0 (by omega) (.inr rfl) v2, bump_val h0 (by omega) hd v3⟩
      · rw [if_neg e] at hj
        refine .inl ⟨List.mem_of_getElem? hj, fun hq => ?_⟩
        obtain ⟨hjl, hzj⟩ := List.getElem?_eq_some_iff.1 hj
        have hxi : L[i] = x := (List.getElem?_eq_some_iff.1 hx).2
        have hz0 : ordG z x.fr x.to = 0 := (ordG_zero z _ _).2 ⟨hq.1.symm, hq.2.symm⟩
        have hz1 := bef_flip z x
        rcases Nat.lt_or_ge i j with hij | hij
        · have h1 := (List.pairwise_iff_getElem.1 h.ord) i j hil hjl hij
          rw [hxi, hzj] at h1
          unfold bef at h1
          omega
        · have h1 := (List.pairwise_iff_getElem.1 h.ord) j i hjl hil (by omega)
          rw [hxi, hzj] at h1
          unfold bef at h1
          omega
    · obtain ⟨j, hj⟩ := List.mem_iff_getElem?.1 hz
      by_cases e : i = j
      · subst e
        rw [hx] at hj
        injection hj with hj
        subst hj
        exact ⟨_, hnew, rfl, rfl⟩
      · exact ⟨z, List.mem_of_getElem? (i := j) (by rw [List.getElem?_set, if_neg e]; exact hj), rfl, rfl⟩
/-- All calls of a batch. -/
theorem Tally.steps {most : Int} (h0 : 0 ≤ most) : ∀ {ds : List Call} {cs : List Call} {L M : List Eg}, Tally most cs L → cs.length + ds.length < 4611686018427387904 → CA most L ds M → Tally most (cs ++ ds) M
  | [], cs, L, M, h, _, hc => by cases hc; rw [List.append_nil]; exact h
  | d :: ds, cs, L, M, h, hl, ⟨N, h1, h2⟩ => by
    have h3 := h.step h0 (by simp at hl; omega) h1
    have h4 := Tally.steps h0 h3 (by simp at hl ⊢; omega) h2
    rw [List.append_assoc] at h4
    exact h4
end Go.Proofs.Ytobgnendfnmnpaa
