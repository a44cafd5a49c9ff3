/- PathLatest. -/
import Derived.Test.YtgldjjmpjaegfaaPhd
import Derived.Test.YtgldjjmpjaegfaaPhi
namespace Go.Proofs.Ytgldjjmpjaegfaa
open Go.RowKit Go.Maps
set_option linter.unusedVariables false
set_option linter.unusedSimpArgs false
set_option maxRecDepth 100000

namespace Sy
/-- The latest end of those of the first k that hang on z. -/
def latE (E : Nat → Int) (P : List Int) (z : Int) : Nat → Int
  | 0 => -1
  | k + 1 => if P[k]? = some z ∧ latE E P z k < E k then E k else latE E P z k
theorem latE_ge {E : Nat → Int} {P : List Int} {z : Int} : ∀ {k : Nat}, (∀ q, q < k → P[q]? = some z → E q ≤ latE E P z k) ∧ (latE E P z k = -1 ∨ ∃ q, q < k ∧ P[q]? = some z ∧ latE E P z k = E q)
  | 0 => ⟨fun q h => by omega, .inl rfl⟩
  | k + 1 => by
    obtain ⟨h1, h2⟩ := latE_ge (E := E) (P := P) (z := z) (k := k)
    unfold latE
    split
    · rename_i hc
      refine ⟨fun q hq hp => ?_, .inr ⟨k, by omega, hc.1, rfl⟩⟩
      rcases Nat.lt_or_ge q k with h | h
      · have := h1 q h hp; omega
      · rw [show q = k by omega]; exact Int.le_refl _
    · rename_i hc
      refine ⟨fun q hq hp => ?_, ?_⟩
      · rcases Nat.lt_or_ge q k with h | h
        · exact h1 q h hp
        · have e : q = k := by omega
          subst e
          by_cases h3 : latE E P z q < E q
          · exact absurd ⟨hp, h3⟩ hc
          · omega
      · rcases h2 with h | ⟨q, a, b, c⟩
        · exact .inl h
        · exact .inr ⟨q, by omega, b, c⟩
/-- No kid: none; else the latest kid's end. -/
theorem latE_kids {E : Nat → Int} (hE : ∀ q, 0 ≤ E q) {l : List Ls} {n : Nat} {P : List Int} {M O : List Nat} {z : Int} {T : List Nat} (hF : Fo l n P M O) (hT : ∀ x, x ∈ T ↔ x < n ∧ P[x]? = some z) : (T = [] → latE E P z n = -1) ∧ (T ≠ [] → latE E P z n = E (bestL E T)) := by
  obtain ⟨h1, h2⟩ := latE_ge (E := E) (P := P) (z := z) (k := n)
  refine ⟨fun e => ?_, fun e => ?_⟩
  · rcases h2 with h | ⟨q, a, b, _⟩
    · exact h
    · have := (hT q).2 ⟨a, b⟩
      rw [e] at this; cases this
  · have hb := bestL_mem (E := E) e
    obtain ⟨a, b⟩ := (hT _).1 hb
    have h3 := h1 _ a b
    rcases h2 with h | ⟨q, a2, b2, c⟩
    · have := hE (bestL E T); omega
    · have := bestL_ge (E := E) (T := T) q ((hT q).2 ⟨a2, b2⟩)
      omega
/-- The way down, step by step. -/
theorem crit_walk {E : Nat → Int} {K : Nat → List Nat} : ∀ {f : Nat} {T X : List Nat}, X = critM K E f T → X.length < f → ∀ j, j ≤ X.length → ∃ Tj, (j = 0 → Tj = T) ∧ (∀ x, 0 < j → X[j - 1]? = some x → Tj = K x) ∧ (j = X.length → Tj = []) ∧ (∀ x, X[j]? = some x → Tj ≠ [] ∧ x = bestL E Tj)
  | 0, T, X, h, hl, _, _ => absurd hl (Nat.not_lt_zero _)
  | f + 1, [], X, h, hl, j, hj => by
    have hX : X = [] := h
    subst hX
    obtain rfl : j = 0 := by simpa using hj
    exact ⟨[], fun _ => rfl, fun x h => absurd h (Nat.lt_irrefl 0), fun _ => rfl, fun x h => by cases h⟩
  | f + 1, t :: r, X, h, hl, j, hj => by
    have hX : X = bestL E (t :: r) :: critM K E f (K (bestL E (t :: r))) := h
    subst hX
    cases j with
    | zero => exact ⟨t :: r, fun _ => rfl, fun x h => absurd h (Nat.lt_irrefl 0), fun e => by simp at e, fun x hx => by injection hx with hx; exact ⟨by simp, hx.symm⟩⟩
    | succ j =>
      obtain ⟨Tj, a, b, c, d⟩ := crit_walk (E := E) (K := K) (f := f) rfl (by simpa using hl) j (by simpa using hj)
      refine ⟨Tj, fun e => absurd e (Nat.succ_ne_zero _), fun x _ hx => ?_, fun e => c (by simpa using e), fun x hx => d x (by simpa using hx)⟩
      cases j with
      | zero => rw [a rfl]; injection hx with hx; rw [hx]
      | succ j => exact b x (by omega) (by simpa using hx)
end Sy
set_option maxHeartbeats 32000000 in
theorem latest30 (lA : Option Addr) (l : List Ls) (n c : Nat) (w : World) (hS : RdSps w w.heap.size lA l) (hn : n = l.length) (hl : n ≤ maxLen) : Calls Try.prog 8 #[.slice lA n c] w fun e w' => e = .returned (.bool true) ∧ Below w.heap.size w w' := by
  have AL := Lib.hid (alive30_calls w)
  obtain ⟨b0, hb0⟩ : ∃ b0, b0 = w.heap.size := ⟨_, rfl⟩
  have HB0 := Lib.hid hb0
  have HSB := Lib.hid (show ∀ W, Below b0 w W → b0 ≤ W.heap.size from fun W h => by have := h.size; omega)
  rw [← hb0] at hS ⊢
  have HSQ := Lib.hid (show ∀ W, Below b0 w W → RdSps W b0 lA l from fun W h => hS.below h)
  have HN := Lib.hid hn
  have FE := fun (W : World) (h : Below b0 w W) => Lib.hid (fewall_any lA l n c b0 W HN.out (HSQ.out W h) (HSB.out W h) hl)
  have RC := fun (W : World) (h : Below b0 w W) => Lib.hid (rightspans_any lA l n c b0 W HN.out (HSQ.out W h) (HSB.out W h) hl)
  have hml := hl
  simp only [maxLen] at hml
  clear hS hn hb0 hl
  obtain ⟨fb, hfb⟩ : ∃ fb, fb = fewAll l := ⟨_, rfl⟩
  rw [← hfb] at FE
  have HFB := Lib.hid hfb
  obtain ⟨rb, hrb⟩ : ∃ rb, rb = l.all fun x => right x.s := ⟨_, rfl⟩
  rw [← hrb] at RC
  have HRB := Lib.hid hrb
  clear hfb hrb
  rcases (show fb = false ∨ (fb = true ∧ rb = false) ∨ (fb = true ∧ rb = true ∧ n = 0) ∨ (fb = true ∧ rb = true ∧ 0 < n) from by cases fb <;> cases rb <;> simp <;> omega) with hc | hc | hc | hc
  · subst hc
    go_enter Try.func8, Try.ntmps8
    go_wp2_with (first | (go_at_call 11; (with_reducible refine (FE _ HB1.out).out.mono ?_); rintro ex w2 ⟨rfl, hb2⟩; have HB2 := Lib.hid (HB1.out.trans (hb2.mono (HSB.out _ HB1.out))); clear hb2) | (go_at_call 21; (with_reducible refine AL.out.mono ?_); rintro ex w1 ⟨rfl, hb1⟩; have HB1 := Lib.hid (show Below b0 w w1 from by rw [HB0.out]; exact hb1); clear hb1))
    go_ret
    exact ⟨rfl, HB2.out⟩
  · obtain ⟨rfl, rfl⟩ := hc
    go_enter Try.func8, Try.ntmps8
    go_wp2_with (first | (go_at_call 29; (with_reducible refine (RC _ HB2.out).out.mono ?_); rintro ex w3 ⟨rfl, hb3⟩; have HB3 := Lib.hid (HB2.out.trans (hb3.mono (HSB.out _ HB2.out))); clear hb3) | (go_at_call 11; (with_reducible refine (FE _ HB1.out).out.mono ?_); rintro ex w2 ⟨rfl, hb2⟩; have HB2 := Lib.hid (HB1.out.trans (hb2.mono (HSB.out _ HB1.out))); clear hb2) | (go_at_call 21; (with_reducible refine AL.out.mono ?_); rintro ex w1 ⟨rfl, hb1⟩; have HB1 := Lib.hid (show Below b0 w w1 from by rw [HB0.out]; exact hb1); clear hb1))
    go_ret
    exact ⟨rfl, HB3.out⟩
  · obtain ⟨rfl, rfl, hn0⟩ := hc
    have d0 : ((n : Int) == 0) = true := beq_iff_eq.2 (by omega)
    have d1 : (n == 0) = true := beq_iff_eq.2 hn0
    clear hn0
    go_enter Try.func8, Try.ntmps8
    go_wp2_with (first | (go_at_call 29; (with_reducible refine (RC _ HB2.out).out.mono ?_); rintro ex w3 ⟨rfl, hb3⟩; have HB3 := Lib.hid (HB2.out.trans (hb3.mono (HSB.out _ HB2.out))); clear hb3) | (go_at_call 11; (with_reducible refine (FE _ HB1.out).out.mono ?_); rintro ex w2 ⟨rfl, hb2⟩; have HB2 := Lib.hid (HB1.out.trans (hb2.mono (HSB.out _ HB1.out))); clear hb2) | (go_at_call 21; (with_reducible refine AL.out.mono ?_); rintro ex w1 ⟨rfl, hb1⟩; have HB1 := Lib.hid (show Below b0 w w1 from by rw [HB0.out]; exact hb1); clear hb1))
    go_ret
    exact ⟨rfl, HB3.out⟩
  · obtain ⟨rfl, rfl, hn0⟩ := hc
    have d0 : ((n : Int) == 0) = false := beq_eq_false_iff_ne.2 (by omega)
    have d1 : (n == 0) = false := beq_eq_false_iff_ne.2 (by omega)
    have HN60 := Lib.hid (show n ≤ 60 ∧ 0 < n from by
      have h := HFB.out
      unfold fewAll at h
      have h2 := (Bool.and_eq_true _ _).mp h.symm
      exact ⟨by rw [HN.out]; exact of_decide_eq_true h2.1, hn0⟩)
    clear hn0
    go_enter Try.func8, Try.ntmps8
    go_upto_region 4 with (first | (go_at_call 29; (with_reducible refine (RC _ HB2.out).out.mono ?_); rintro ex w3 ⟨rfl, hb3⟩; have HB3 := Lib.hid (HB2.out.trans (hb3.mono (HSB.out _ HB2.out))); clear hb3) | (go_at_call 11; (with_reducible refine (FE _ HB1.out).out.mono ?_); rintro ex w2 ⟨rfl, hb2⟩; have HB2 := Lib.hid (HB1.out.trans (hb2.mono (HSB.out _ HB1.out))); clear hb2) | (go_at_call 21; (with_reducible refine AL.out.mono ?_); rintro ex w1 ⟨rfl, hb1⟩; have HB1 := Lib.hid (show Below b0 w w1 from by rw [HB0.out]; exact hb1); clear hb1))
    clear FE RC AL d0 d1
    have PC := Lib.hid (refparents_any l lA n c b0 w3 (HSQ.out _ HB3.out) (HSB.out _ HB3.out) HN.out (by have := HN60.out; omega))
    have CC := fun (W : World) (h : Below b0 w W) => Lib.hid (critical_any l lA n c b0 W (HSQ.out _ h) (HSB.out _ h) HN.out (by have := HN60.out; omega))
    go_upto_region 6 with (first
      | (go_at_call 14; (with_reducible refine PC.out.mono ?_); rintro ex w4 ⟨pA, pc, P, rfl, hp4, ho4, hb4⟩; have HP4 := Lib.hid hp4; have HO4 := Lib.hid ho4; have HB4 := Lib.hid (HB3.out.trans (hb4.mono (HSB.out _ HB3.out))); clear hp4 ho4 hb4)
      | (go_at_call 25; (with_reducible refine (CC _ HB4.out).out.mono ?_); rintro ex w5 ⟨xA, q, xc, X, rfl, hq5, hx5, hc5, ho5, hb5⟩; have HQ5 := Lib.hid (And.intro hq5 hx5); have HC5 := Lib.hid hc5; have HO5 := Lib.hid ho5; have HP5 := Lib.hid (own_below HO4.out hb5); have HB5 := Lib.hid (HB4.out.trans (hb5.mono (HSB.out _ HB4.out))); clear hq5 hx5 hc5 ho5 hb5))
    clear PC CC HO4
    have hcrit : ∃ M O, Sy.Fo l n P M O ∧ X = Sy.critM (fun x => M.filter fun q => parN P n q == x) (En l) (n + 2) (M.filter fun q => parN P n q == n) := by
      rcases HC5.out with ⟨h1, _⟩ | ⟨_, P', M, O, hF, h2⟩
      · rw [← HRB.out] at h1; cases h1
      · have e := parOf_ext HP4.out hF.par
        subst e
        exact ⟨M, O, hF, h2⟩
    obtain ⟨M, O, hF, hX⟩ := hcrit
    have HF := Lib.hid hF
    obtain ⟨g, hg⟩ := hF.dep
    have HKM := Lib.hid (show ∀ (z : Int), (z = -1 ∨ (0 ≤ z ∧ z < n)) → ∀ x, x ∈ (M.filter fun q => parN P n q == Sy.ofZ n z) ↔ x < n ∧ P[x]? = some z from fun z hz => (Sy.KidS.of HN.out hF.bys hF.plain hF.pl hz).mem)
    -- the path is short: it goes down
    have hlen : X.length < n + 2 := by
      have key : ∀ (f : Nat) (T : List Nat) (d : Nat), (∀ t ∈ T, t < n ∧ g t = d) → (Sy.critM (fun x => M.filter fun q => parN P n q == x) (En l) f T).length + d ≤ max (n + 1) d := by
        intro f
        induction f with
        | zero => intro T d _; show 0 + d ≤ _; omega
        | succ f ih =>
          intro T d hT
          by_cases hne : T = []
          · subst hne; rw [Sy.critM_nil]; show 0 + d ≤ _; omega
          · rw [Sy.critM_step hne, List.length_cons]
            obtain ⟨h1, h2⟩ := hT _ (Sy.bestL_mem (E := En l) hne)
            have h3 := ih _ (d + 1) (kid_dep hF hg h1 h2)
            have h4 := hg.le (Sy.bestL (En l) T)
            omega
      have := key (n + 2) _ 0 (root_dep hF hg)
      rw [← hX] at this
      omega
    have HW := Lib.hid (Sy.crit_walk hX hlen)
    have HX0 : Hid (0 < q) := Lib.hid (by
      rcases Nat.eq_zero_or_pos q with h | h
      · exfalso
        have hX0 : X.length = 0 := by have := HQ5.out.1; omega
        obtain ⟨Tj, a, b, c', d⟩ := Sy.crit_walk hX hlen 0 (by omega)
        have hT := a rfl
        rw [c' hX0.symm] at hT
        -- no roots: but there is a span
        have hm : ∀ m x, x < n → g x = m → False := by
          intro m
          induction m with
          | zero =>
            intro x hx hgx
            rcases Nat.lt_or_ge (parN P n x) n with hp | hp
            · have := hg.kid x hx hp; omega
            · have hpe : parN P n x = n := by
                rcases Sy.parN_root hF.plain hF.pl hx with ⟨e1, e2⟩
                cases hu : Sy.pf P x with
                | none => exact e1 hu
                | some u => have := (Sy.parN_some hF.plain hu); omega
              have := (Sy.kid_mem hF.all).2 ⟨hx, hpe⟩
              rw [← hT] at this; cases this
          | succ m ih =>
            intro x hx hgx
            rcases Nat.lt_or_ge (parN P n x) n with hp | hp
            · have h2 := hg.kid x hx hp
              exact ih _ hp (by omega)
            · have hpe : parN P n x = n := by
                rcases Sy.parN_root hF.plain hF.pl hx with ⟨e1, e2⟩
                cases hu : Sy.pf P x with
                | none => exact e1 hu
                | some u => have := (Sy.parN_some hF.plain hu); omega
              have := (Sy.kid_mem hF.all).2 ⟨hx, hpe⟩
              rw [← hT] at this; cases this
        exact hm (g 0) 0 (by have := HN60.out; omega) rfl
      · exact h)
    have HXI := Lib.hid (show ∀ x ∈ X, x < n from by
      have key : ∀ (f : Nat) (T : List Nat), (∀ t ∈ T, t < n) → ∀ x ∈ Sy.critM (fun x => M.filter fun q => parN P n q == x) (En l) f T, x < n := by
        intro f
        induction f with
        | zero => intro T _ x hx; cases hx
        | succ f ih =>
          intro T hT x hx
          by_cases hne : T = []
          · subst hne; rw [Sy.critM_nil] at hx; cases hx
          · rw [Sy.critM_step hne] at hx
            rcases List.mem_cons.1 hx with e | e
            · rw [e]; exact hT _ (Sy.bestL_mem hne)
            · exact ih _ (fun t ht => ((Sy.kid_mem hF.all).1 ht).1) x e
      rw [hX]
      exact key _ _ fun t ht => ((Sy.kid_mem hF.all).1 ht).1)
    have HOF := Lib.hid (show Sy.ofZ n (-1) = n ∧ ∀ x : Nat, Sy.ofZ n (x : Int) = x from ⟨by unfold Sy.ofZ; rw [if_pos rfl], fun x => by unfold Sy.ofZ; rw [if_neg (by omega)]; rfl⟩)
    obtain ⟨b5, hb5⟩ : ∃ b5, b5 = w5.heap.size := ⟨_, rfl⟩
    have HPR := Lib.hid (show ∀ W, Below b5 w5 W → Rd W b5 pA (P.map encZ) from fun W h => by rw [hb5]; exact (own_read HP5.out (Nat.le_refl _)).below (by rw [← hb5]; exact h))
    have HXR := Lib.hid (show ∀ W, Below b5 w5 W → Rd W b5 xA (X.map encN) from fun W h => by rw [hb5]; exact (own_read HO5.out (Nat.le_refl _)).below (by rw [← hb5]; exact h))
    have HBQ := Lib.hid (show ∀ W, Below b5 w5 W → Below b0 w W from fun W h => HB5.out.trans (h.mono (by rw [hb5]; exact HSB.out _ HB5.out)))
    have HS5 := Lib.hid (show ∀ W, Below b5 w5 W → b5 ≤ W.heap.size from fun W h => by rw [hb5]; exact h.size)
    have HR5 := Lib.hid (Below.refl b5 w5)
    have q0 : ((q : Int) == 0) = false := beq_eq_false_iff_ne.2 (by have := HX0.out; omega)
    have q1 : (q == 0) = false := beq_eq_false_iff_ne.2 (by have := HX0.out; omega)
    clear hb5 hF hX hg hlen HP5 HO5 HC5 HB1 HB2 HB3 HB4
    go_upto_region 10 with fail
    clear q0 q1
    go_loopw [6, 7] (fun vz vj wq => ∃ (j : Nat) (z : Int) (Tj : List Nat), vj = .int .i64 (j : Int) ∧ vz = .int .i64 z ∧ Hid (j ≤ q) ∧ Hid (z = -1 ∨ (0 ≤ z ∧ z < n)) ∧ Hid (Tj = M.filter fun q => parN P n q == Sy.ofZ n z) ∧ Hid ((j = X.length → Tj = []) ∧ ∀ x, X[j]? = some x → Tj ≠ [] ∧ x = Sy.bestL (En l) Tj) ∧ Hid (Below b5 w5 wq)) (fun _ vj _ => q + 1 - (intOf vj).toNat)
    case atStart =>
      obtain ⟨Tj, a, b, c', d⟩ := HW.out 0 (Nat.zero_le _)
      exact ⟨0, -1, Tj, rfl, rfl, Lib.hid (Nat.zero_le _), Lib.hid (.inl rfl), Lib.hid (by rw [HOF.out.1]; exact a rfl), Lib.hid ⟨c', d⟩, HR5⟩
    case round =>
      obtain ⟨j, z, Tj, rfl, rfl, HJ, HZ, HTJ, HST, HB⟩ := hrel
      have dj : decide ((j : Int) ≤ (q : Int)) = true := decide_eq_true (by have := HJ.out; omega)
      have dj2 : decide (j ≤ q) = true := decide_eq_true HJ.out
      have HLK := Lib.hid (Sy.latE_kids (E := En l) (z := z) (T := Tj) (fun q => (En_bd l q).1) HF.out (fun x => by rw [HTJ.out]; exact HKM.out z HZ.out x))
      go_upto_region 14 with fail
      clear dj dj2
      generalize wr = wz at *
      go_loopw [8, 9] (fun vm vk wq => ∃ (k : Nat) (mo : Int), vk = .int .i64 (k : Int) ∧ vm = .int .i64 mo ∧ Hid (k ≤ n) ∧ Hid (mo = Sy.latE (En l) P z k) ∧ Hid (Below b5 w5 wq)) (fun _ vk _ => n - (intOf vk).toNat)
      case atStart => exact ⟨0, -1, rfl, rfl, Lib.hid (Nat.zero_le _), Lib.hid rfl, HB⟩
      case round =>
        obtain ⟨k, mo, rfl, rfl, HK, HMO, HB2⟩ := hrel
        have HBR := Lib.hid (HBQ.out _ HB2.out)
        by_cases hkn : k < n
        · as_aux_lemma =>
          have d0 : decide ((k : Int) < (n : Int)) = true := decide_eq_true (by omega)
          have d1 : decide (k < n) = true := decide_eq_true hkn
          have i0 : (0 : Int) ≤ (k : Int) := by omega
          have i1 : (k : Int) < (n : Int) := by omega
          obtain ⟨k9, hk9⟩ : ∃ k9, k9 = k + 1 := ⟨_, rfl⟩
          have e1 : IntKind.i64.wrap ((k : Int) + 1) = (k9 : Int) := by have := HN60.out; rw [IntKind.wrap_i64] <;> omega
          obtain ⟨zk, hzk⟩ : ∃ zk, P[k]? = some zk := ⟨_, List.getElem?_eq_getElem (by rw [HF.out.pl]; exact hkn)⟩
          have HZK := Lib.hid hzk
          have xlt := hkn
          obtain ⟨xx, xhx⟩ : ∃ x, l[k]? = some x := ⟨_, List.getElem?_eq_getElem (by rw [← HN.out]; exact xlt)⟩
          have xhE := En_at xhx
          have xhB := Bn_at xhx
          obtain ⟨aa, haa, _, hc, xhl⟩ := (HSQ.out _ HBR.out).at_ xhx
          subst haa
          obtain ⟨⟨x0, x1, x2, x3, x4, x5, x6, x7, x8, xats⟩, xA, xc⟩ := xx
          obtain ⟨xm, xhm⟩ : ∃ m, m = xats.length := ⟨_, rfl⟩
          have c0 : wr.cell? (aa.add (k * 10)) = some (.int .u64 x0) := hc 0 _ rfl
          have c1 : wr.cell? ⟨(aa.add (k * 10)).block, (aa.add (k * 10)).off + 1, none⟩ = some (.int .u64 x1) := cell_far (hc 1 _ rfl) (by omega)
          have c2 : wr.cell? ⟨(aa.add (k * 10)).block, (aa.add (k * 10)).off + 2, none⟩ = some (.int .u64 x2) := cell_far (hc 2 _ rfl) (by omega)
          have c3 : wr.cell? ⟨(aa.add (k * 10)).block, (aa.add (k * 10)).off + 3, none⟩ = some (.int .u64 x3) := cell_far (hc 3 _ rfl) (by omega)
          have c4 : wr.cell? ⟨(aa.add (k * 10)).block, (aa.add (k * 10)).off + 4, none⟩ = some (.string x4) := cell_far (hc 4 _ rfl) (by omega)
          have c5 : wr.cell? ⟨(aa.add (k * 10)).block, (aa.add (k * 10)).off + 5, none⟩ = some (.string x5) := cell_far (hc 5 _ rfl) (by omega)
          have c6 : wr.cell? ⟨(aa.add (k * 10)).block, (aa.add (k * 10)).off + 6, none⟩ = some (.int .i64 x6) := cell_far (hc 6 _ rfl) (by omega)
          have c7 : wr.cell? ⟨(aa.add (k * 10)).block, (aa.add (k * 10)).off + 7, none⟩ = some (.int .i64 x7) := cell_far (hc 7 _ rfl) (by omega)
          have c8 : wr.cell? ⟨(aa.add (k * 10)).block, (aa.add (k * 10)).off + 8, none⟩ = some (.bool x8) := cell_far (hc 8 _ rfl) (by omega)
          have c9 : wr.cell? ⟨(aa.add (k * 10)).block, (aa.add (k * 10)).off + 9, none⟩ = some (.slice xA xm xc) := by rw [xhm]; exact cell_far (hc 9 _ rfl) (by omega)
          have ECc := Lib.hid (refends_lit x0 x1 x2 x3 x4 x5 x6 x7 x8 xats xA xc xm b0 wr xhm xhl (HSB.out _ HBR.out))
          obtain ⟨xeB, xheB⟩ : ∃ eB, eB = Bn l k := ⟨_, rfl⟩
          obtain ⟨xeE, xheE⟩ : ∃ eE, eE = En l k := ⟨_, rfl⟩
          rw [← xhB, ← xheB, ← xhE, ← xheE] at ECc
          have HxE := Lib.hid xheE
          have HxB := Lib.hid xheB
          clear hc xhl xhm xheB xheE xhE xhB xhx
          clear xlt hzk
          have HK9 := Lib.hid hk9
          have HKN := Lib.hid hkn
          clear hk9 hkn
          go_upto_region 17 with (go_at_call 24; (with_reducible refine ECc.out.mono ?_); rintro ex w7 ⟨rfl, hb7⟩; have HB7 := Lib.hid (HB2.out.trans (hb7.mono (HS5.out _ HB2.out))); clear hb7)
          clear ECc d0 d1 c0 c1 c2 c3 c4 c5 c6 c7 c8 c9
          obtain ⟨ap, hap, hapb, hpc⟩ := (HPR.out _ HB7.out) (by rw [List.length_map, HF.out.pl]; have := HKN.out; omega)
          subst hap
          have xp : w7.cell? (ap.add k) = some (.int .i64 zk) := hpc k _ (by rw [List.getElem?_map, HZK.out]; rfl)
          clear hapb hpc
          by_cases hzz : zk = z
          · subst hzz
            by_cases hcm : mo < xeE
            · have f2 : decide (mo < xeE) = true := decide_eq_true hcm
              have HM2 := Lib.hid (show xeE = Sy.latE (En l) P zk k9 from by rw [HK9.out]; unfold Sy.latE; rw [if_pos ⟨HZK.out, by rw [← HMO.out, ← HxE.out]; exact hcm⟩, HxE.out])
              clear hcm
              go_wp2_with fail
              go_roundw
              case rel => exact ⟨k9, xeE, by first | rfl | go_num, rfl, Lib.hid (by have := HKN.out; have := HK9.out; omega), HM2, HB7⟩
              case measure => have := HKN.out; have := HK9.out; simp [intOf]; omega
            · have f2 : decide (mo < xeE) = false := decide_eq_false hcm
              have HM2 := Lib.hid (show mo = Sy.latE (En l) P zk k9 from by rw [HK9.out]; unfold Sy.latE; rw [if_neg (fun h => hcm (by rw [HMO.out, HxE.out]; exact h.2)), HMO.out])
              clear hcm
              go_wp2_with fail
              go_roundw
              case rel => exact ⟨k9, mo, by first | rfl | go_num, rfl, Lib.hid (by have := HKN.out; have := HK9.out; omega), HM2, HB7⟩
              case measure => have := HKN.out; have := HK9.out; simp [intOf]; omega
          · have f1 : (zk == z) = false := beq_eq_false_iff_ne.2 hzz
            have HM2 := Lib.hid (show mo = Sy.latE (En l) P z k9 from by rw [HK9.out]; unfold Sy.latE; rw [if_neg (fun h => hzz (by have h1 := h.1; rw [HZK.out] at h1; injection h1)), HMO.out])
            clear hzz
            go_wp2_with fail
            go_roundw
            case rel => exact ⟨k9, mo, by first | rfl | go_num, rfl, Lib.hid (by have := HKN.out; have := HK9.out; omega), HM2, HB7⟩
            case measure => have := HKN.out; have := HK9.out; simp [intOf]; omega
        · as_aux_lemma =>
          obtain rfl : n = k := by have := HK.out; omega
          have d0 : decide ((n : Int) < (n : Int)) = false := decide_eq_false (by omega)
          have d1 : decide (n < n) = false := decide_eq_false (by omega)
          clear hkn
          rcases (show j = q ∨ j < q from by have := HJ.out; omega) with hjq | hjq
          · subst hjq
            have hTe : Tj = [] := HST.out.1 HQ5.out.1
            have hmo : mo = -1 := by rw [HMO.out]; exact HLK.out.1 hTe
            subst hmo
            clear hTe
            go_wp2_with fail
            go_ret
            exact ⟨by simp, HBR.out⟩
          · have f1 : ((j : Int) == (q : Int)) = false := beq_eq_false_iff_ne.2 (by omega)
            have f2 : (j == q) = false := beq_eq_false_iff_ne.2 (by omega)
            obtain ⟨x, hx⟩ : ∃ x, X[j]? = some x := ⟨_, List.getElem?_eq_getElem (by rw [← HQ5.out.1]; exact hjq)⟩
            obtain ⟨hTn, hxb⟩ := HST.out.2 x hx
            have hxn := HXI.out x (List.mem_of_getElem? hx)
            have hxk := hxb ▸ Sy.bestL_mem (E := En l) hTn
            have hPx : P[x]? = some z := by rw [HTJ.out] at hxk; exact ((HKM.out z HZ.out x).1 hxk).2
            have hmo : mo = En l x := by rw [HMO.out, HLK.out.2 hTn, hxb]
            obtain ⟨ap, hap, hapb, hpc⟩ := (HPR.out _ HB2.out) (by rw [List.length_map, HF.out.pl]; omega)
            subst hap
            have xp : wr.cell? (ap.add x) = some (.int .i64 z) := hpc x _ (by rw [List.getElem?_map, hPx]; rfl)
            obtain ⟨ax, hax, haxb, hxc⟩ := (HXR.out _ HB2.out) (by rw [List.length_map, ← HQ5.out.1]; omega)
            subst hax
            have xx : wr.cell? (ax.add j) = some (.int .i64 (x : Int)) := hxc j _ (by rw [List.getElem?_map, hx]; rfl)
            have HXC := Lib.hid (show ∀ W, Below b5 w5 W → W.cell? (ax.add j) = some (.int .i64 (x : Int)) from fun W h => by
              obtain ⟨a', ha', _, hc'⟩ := (HXR.out W h) (by rw [List.length_map, ← HQ5.out.1]; omega)
              injection ha' with ha'
              subst ha'
              exact hc' j _ (by rw [List.getElem?_map, hx]; rfl))
            have i0 : (0 : Int) ≤ (j : Int) := by omega
            have i1 : (j : Int) < (q : Int) := by omega
            have i2 : (0 : Int) ≤ (x : Int) := by omega
            have i3 : (x : Int) < (n : Int) := by omega
            have g1 : decide ((x : Int) < 0) = false := decide_eq_false (by omega)
            have g2 : decide ((n : Int) ≤ (x : Int)) = false := decide_eq_false (by omega)
            have g3 : decide (n ≤ x) = false := decide_eq_false (by omega)
            obtain ⟨j9, hj9⟩ : ∃ j9, j9 = j + 1 := ⟨_, rfl⟩
            have e1 : IntKind.i64.wrap ((j : Int) + 1) = (j9 : Int) := by have := HQ5.out; rw [IntKind.wrap_i64] <;> omega
            obtain ⟨Tn, a', b', c', d'⟩ := HW.out j9 (by rw [← HQ5.out.1]; omega)
            have hTn2 : Tn = M.filter fun q => parN P n q == Sy.ofZ n (x : Int) := by rw [HOF.out.2]; exact b' x (by omega) (by rw [hj9]; exact hx)
            have HTN := Lib.hid hTn2
            have HSN := Lib.hid (And.intro c' d')
            have HXN := Lib.hid hxn
            have HJ9 := Lib.hid hj9
            have HJQ := Lib.hid hjq
            have ylt := hxn
            have HMX := Lib.hid hmo
            obtain ⟨yx, yhx⟩ : ∃ s, l[x]? = some s := ⟨_, List.getElem?_eq_getElem (by rw [← HN.out]; exact ylt)⟩
            have yhE := En_at yhx
            have yhB := Bn_at yhx
            obtain ⟨aa, haa, _, hd, yhl⟩ := (HSQ.out _ HBR.out).at_ yhx
            subst haa
            obtain ⟨⟨y0, y1, y2, y3, y4, y5, y6, y7, y8, yats⟩, yA, yc⟩ := yx
            obtain ⟨ym, yhm⟩ : ∃ m, m = yats.length := ⟨_, rfl⟩
            have d0 : wr.cell? (aa.add (x * 10)) = some (.int .u64 y0) := hd 0 _ rfl
            have d1 : wr.cell? ⟨(aa.add (x * 10)).block, (aa.add (x * 10)).off + 1, none⟩ = some (.int .u64 y1) := cell_far (hd 1 _ rfl) (by omega)
            have d2 : wr.cell? ⟨(aa.add (x * 10)).block, (aa.add (x * 10)).off + 2, none⟩ = some (.int .u64 y2) := cell_far (hd 2 _ rfl) (by omega)
            have d3 : wr.cell? ⟨(aa.add (x * 10)).block, (aa.add (x * 10)).off + 3, none⟩ = some (.int .u64 y3) := cell_far (hd 3 _ rfl) (by omega)
            have d4 : wr.cell? ⟨(aa.add (x * 10)).block, (aa.add (x * 10)).off + 4, none⟩ = some (.string y4) := cell_far (hd 4 _ rfl) (by omega)
            have d5 : wr.cell? ⟨(aa.add (x * 10)).block, (aa.add (x * 10)).off + 5, none⟩ = some (.string y5) := cell_far (hd 5 _ rfl) (by omega)
            have d6 : wr.cell? ⟨(aa.add (x * 10)).block, (aa.add (x * 10)).off + 6, none⟩ = some (.int .i64 y6) := cell_far (hd 6 _ rfl) (by omega)
            have d7 : wr.cell? ⟨(aa.add (x * 10)).block, (aa.add (x * 10)).off + 7, none⟩ = some (.int .i64 y7) := cell_far (hd 7 _ rfl) (by omega)
            have d8 : wr.cell? ⟨(aa.add (x * 10)).block, (aa.add (x * 10)).off + 8, none⟩ = some (.bool y8) := cell_far (hd 8 _ rfl) (by omega)
            have d9 : wr.cell? ⟨(aa.add (x * 10)).block, (aa.add (x * 10)).off + 9, none⟩ = some (.slice yA ym yc) := by rw [yhm]; exact cell_far (hd 9 _ rfl) (by omega)
            have ECd := Lib.hid (ends_lit y0 y1 y2 y3 y4 y5 y6 y7 y8 yats yA yc ym b0 wr yhm yhl (HSB.out _ HBR.out))
            obtain ⟨yeB, yheB⟩ : ∃ eB, eB = Bn l x := ⟨_, rfl⟩
            obtain ⟨yeE, yheE⟩ : ∃ eE, eE = En l x := ⟨_, rfl⟩
            rw [← yhB, ← yheB, ← yhE, ← yheE] at ECd
            have HyE := Lib.hid yheE
            have HyB := Lib.hid yheB
            clear hd yhl yhm yheB yheE yhE yhB yhx
            have hmy : mo = yeE := by rw [HMX.out, HyE.out]
            subst hmy
            clear a' b' c' d' hTn2 hTn hxb hxn hxk hPx hapb hpc haxb hxc hj9 hjq ylt hx
            go_upto_region 24 with (go_at_call 23; (with_reducible refine ECd.out.mono ?_); rintro ex w8 ⟨rfl, hb8⟩; have HB8 := Lib.hid (HB2.out.trans (hb8.mono (HS5.out _ HB2.out))); clear hb8)
            have xx2 := HXC.out _ HB8.out
            go_wp2_with fail
            go_roundw
            case rel => exact ⟨j9, (x : Int), Tn, by first | rfl | go_num, rfl, Lib.hid (by have := HJQ.out; have := HJ9.out; omega), Lib.hid (.inr (by have := HXN.out; omega)), HTN, HSN, HB8⟩
            case measure => have := HJQ.out; have := HJ9.out; simp [intOf]; omega
end Go.Proofs.Ytgldjjmpjaegfaa
