/- PathSelf, plainly: one span and its kids. -/
import Derived.Test.YtgldjjmpjaegfaaPhi
namespace Go.Proofs.Ytgldjjmpjaegfaa
open Go.RowKit Go.Maps
set_option linter.unusedVariables false
set_option linter.unusedSimpArgs false
set_option maxRecDepth 100000

theorem i64_and3 (n : Int) : bits .and .i64 n 3 = n % 4 := by
  have h15 : (BitVec.ofInt 64 3).toNat = 2 ^ 2 - 1 := by decide
  have key : (BitVec.ofInt 64 n &&& BitVec.ofInt 64 3).toNat = (n % ((2 ^ 64 : Nat) : Int)).toNat % 2 ^ 2 := by
    rw [BitVec.toNat_and, BitVec.toNat_ofInt, h15, Nat.and_two_pow_sub_one_eq_mod]
  show IntKind.i64.wrap ((BitVec.ofInt 64 n &&& BitVec.ofInt 64 3).toNat : Nat) = n % 4
  rw [key, IntKind.wrap_i64]
  omega
theorem i64_and2047 (n : Int) : bits .and .i64 n 2047 = n % 2048 := by
  have h15 : (BitVec.ofInt 64 2047).toNat = 2 ^ 11 - 1 := by decide
  have key : (BitVec.ofInt 64 n &&& BitVec.ofInt 64 2047).toNat = (n % ((2 ^ 64 : Nat) : Int)).toNat % 2 ^ 11 := by
    rw [BitVec.toNat_and, BitVec.toNat_ofInt, h15, Nat.and_two_pow_sub_one_eq_mod]
  show IntKind.i64.wrap ((BitVec.ofInt 64 n &&& BitVec.ofInt 64 2047).toNat : Nat) = n % 2048
  rw [key, IntKind.wrap_i64]
  omega
/-- The i-th kid, of the numbers as they came. -/
def kidS (D S : List Int) (i : Nat) : Ls := spA ((i + 2 : Nat) : Int) 1 (2 + (S[i]?.getD 0) % 4) ((D[i]?.getD 0) % 2048)
def starL (D S : List Int) (own : Int) (k : Nat) : List Ls := spA 1 99 3 own :: (List.range k).map (kidS D S)
theorem starL_step (D S : List Int) (own : Int) (k : Nat) : starL D S own (k + 1) = starL D S own k ++ [kidS D S k] := by unfold starL; rw [List.range_succ, List.map_append]; rfl
theorem starL_len (D S : List Int) (own : Int) (k : Nat) : (starL D S own k).length = k + 1 := by unfold starL; simp
theorem starL_at {D S : List Int} {own : Int} {k i : Nat} (h : i < k) : (starL D S own k)[i + 1]? = some (kidS D S i) := by
  unfold starL
  rw [List.getElem?_cons_succ, List.getElem?_map, List.getElem?_range h]; rfl
theorem kid_bd (D S : List Int) (i : Nat) : (2 ≤ (kidS D S i).s.st ∧ (kidS D S i).s.st ≤ 5) ∧ 0 ≤ (kidS D S i).s.du ∧ (kidS D S i).s.du ≤ 2047 := by
  show (2 ≤ 2 + (S[i]?.getD 0) % 4 ∧ 2 + (S[i]?.getD 0) % 4 ≤ 5) ∧ 0 ≤ (D[i]?.getD 0) % 2048 ∧ (D[i]?.getD 0) % 2048 ≤ 2047
  omega
theorem kid_right (D S : List Int) (i : Nat) : right (kidS D S i).s = true := by
  have h := kid_bd D S i
  exact spA_right ⟨by have := h.1; simp only [kidS, spA] at this ⊢; omega, by have := h.1; simp only [kidS, spA] at this ⊢; omega⟩ ⟨by have := h.2; simp only [kidS, spA] at this ⊢; omega, by have := h.2; simp only [kidS, spA] at this ⊢; omega⟩
theorem kid_rd (w : World) (B : Nat) (D S : List Int) (i : Nat) (hi : i ≤ 100) : RdL w B (kidS D S i) := by
  unfold kidS
  exact spA_rd _ _ _ _ _ _ (by omega) (by omega) (by omega) (by omega)
theorem star_rd {w : World} {B : Nat} {D S : List Int} {own : Int} {k : Nat} (hk : k ≤ 100) (h0 : 0 ≤ own) (h1 : own ≤ 3000) : ∀ x ∈ starL D S own k, RdL w B x := fun x hx => by
  unfold starL at hx
  rcases List.mem_cons.1 hx with e | e
  · rw [e]; exact spA_rd _ _ _ _ _ _ (by omega) (by omega) (by omega) (by omega)
  · obtain ⟨i, hi, rfl⟩ := List.mem_map.1 e
    exact kid_rd w B D S i (by have := List.mem_range.1 hi; omega)
theorem star_right {D S : List Int} {own : Int} {k : Nat} (h0 : 0 ≤ own) (h1 : own ≤ 3000) : ((starL D S own k).all fun x => right x.s) = true := by
  rw [List.all_eq_true]
  intro x hx
  unfold starL at hx
  rcases List.mem_cons.1 hx with e | e
  · rw [e]; exact spA_right (by omega) (by omega)
  · obtain ⟨i, hi, rfl⟩ := List.mem_map.1 e
    exact kid_right D S i
theorem star_Bn {D S : List Int} {own : Int} {k i : Nat} (h : i < k) : Bn (starL D S own k) (i + 1) = (kidS D S i).s.st * 1000 ∧ En (starL D S own k) (i + 1) = (kidS D S i).s.st * 1000 + (kidS D S i).s.du := by
  rw [Bn_at (starL_at h), En_at (starL_at h)]
  unfold endB endE
  rw [if_pos (kid_right D S i), if_pos (kid_right D S i)]
  exact ⟨rfl, rfl⟩
theorem star_B0 {D S : List Int} {own : Int} {k : Nat} (h0 : 0 ≤ own) (h1 : own ≤ 3000) : Bn (starL D S own k) 0 = 3000 ∧ En (starL D S own k) 0 = 3000 + own := by
  have r0 : right (spA 1 99 3 own).s = true := spA_right (by omega) (by omega)
  rw [Bn_at (x := spA 1 99 3 own) rfl, En_at (x := spA 1 99 3 own) rfl]
  unfold endB endE
  rw [if_pos r0, if_pos r0]
  exact ⟨rfl, rfl⟩
theorem star_id {D S : List Int} {own : Int} {k j : Nat} {x : Ls} (h : (starL D S own k)[j]? = some x) : x.s.id = ((j + 1 : Nat) : Int) ∧ x.s.pa = (if j = 0 then 99 else 1) := by
  cases j with
  | zero => injection h with h; rw [← h]; exact ⟨rfl, rfl⟩
  | succ j =>
    have hj : j < k := by have := (List.getElem?_eq_some_iff.1 h).1; rw [starL_len] at this; omega
    rw [starL_at hj] at h
    injection h with h
    rw [← h]
    refine ⟨?_, ?_⟩
    · show ((j + 2 : Nat) : Int) = _
      rfl
    · rw [if_neg (Nat.succ_ne_zero _)]; rfl
theorem star_plc {D S : List Int} {own : Int} {k u : Nat} (hu : u < k + 1) : plc ((starL D S own k).map fun x => x.s.id) ((u + 1 : Nat) : Int) = [u] := by
  refine single_of (plc_sorted _ _) fun j => ?_
  rw [plc_mem, List.getElem?_map]
  constructor
  · intro h
    cases hx : (starL D S own k)[j]? with
    | none => rw [hx] at h; cases h
    | some x =>
      rw [hx] at h
      have h1 := (star_id hx).1
      have h2 : x.s.id = ((u + 1 : Nat) : Int) := by injection h
      omega
  · intro e
    subst e
    have hx : (starL D S own k)[j]? = some ((starL D S own k)[j]'(by rw [starL_len]; exact hu)) := List.getElem?_eq_getElem _
    rw [hx, Option.map_some, (star_id hx).1]
theorem star_none {D S : List Int} {own : Int} {k : Nat} (hk : k ≤ 12) : plc ((starL D S own k).map fun x => x.s.id) 99 = [] := by
  apply List.eq_nil_iff_forall_not_mem.2
  intro j hj
  rw [plc_mem, List.getElem?_map] at hj
  cases hx : (starL D S own k)[j]? with
  | none => rw [hx] at hj; cases hj
  | some x =>
    rw [hx] at hj
    have h1 := (star_id hx).1
    have h2 : x.s.id = 99 := by injection hj
    have := (List.getElem?_eq_some_iff.1 hx).1
    rw [starL_len] at this
    omega
theorem star_named {D S : List Int} {own : Int} {k : Nat} (hk : k ≤ 12) : (namedM (starL D S own k))[0]? = some (-1) ∧ ∀ i, i < k → (namedM (starL D S own k))[i + 1]? = some 0 := by
  refine ⟨?_, fun i hi => ?_⟩
  · rw [namedM_at (x := spA 1 99 3 own) rfl]
    show some (plO (namedO _ 99 0)) = _
    unfold namedO
    rw [star_none hk]; rfl
  · rw [namedM_at (starL_at hi)]
    show some (plO (namedO _ 1 (i + 1))) = _
    unfold namedO
    have e := star_plc (D := D) (S := S) (own := own) (k := k) (u := 0) (by omega)
    rw [show (1 : Int) = ((0 + 1 : Nat) : Int) from rfl, e]
    simp [plO]
theorem star_par {D S : List Int} {own : Int} {k : Nat} {P : List Int} (hk : k ≤ 12) (h : Sy.ParOf (namedM (starL D S own k)) P) : P[0]? = some (-1) ∧ ∀ i, i < k → P[i + 1]? = some 0 := by
  obtain ⟨n0, n1⟩ := star_named (D := D) (S := S) (own := own) hk
  have f0 : Sy.pf (namedM (starL D S own k)) 0 = none := by unfold Sy.pf; rw [n0]; rfl
  have h0 : ¬ Sy.LR (Sy.pf (namedM (starL D S own k))) 0 := fun hl => by
    obtain ⟨u, hu⟩ := Sy.ring_some hl.1 1
    have e : Sy.it (Sy.pf (namedM (starL D S own k))) 1 0 = none := f0
    rw [e] at hu; cases hu
  refine ⟨by rw [(h.2 0).2 h0]; exact n0, fun i hi => ?_⟩
  have f1 : Sy.pf (namedM (starL D S own k)) (i + 1) = some 0 := pf_of (n1 i hi)
  have h1 : ¬ Sy.LR (Sy.pf (namedM (starL D S own k))) (i + 1) := fun hl => by
    obtain ⟨u, hu⟩ := Sy.ring_some hl.1 2
    rw [show 2 = 1 + 1 from rfl, Sy.it_add] at hu
    have e : Sy.it (Sy.pf (namedM (starL D S own k))) 1 (i + 1) = some 0 := f1
    rw [e] at hu
    have e2 : Sy.it (Sy.pf (namedM (starL D S own k))) 1 0 = none := f0
    change Sy.it (Sy.pf (namedM (starL D S own k))) 1 0 = _ at hu
    rw [e2] at hu; cases hu
  rw [(h.2 (i + 1)).2 h1]; exact n1 i hi
/-- The kids' intervals, in their order. -/
def starR (D S : List Int) (k : Nat) : List (Int × Int) := (List.range k).map fun i => ((kidS D S i).s.st * 1000, (kidS D S i).s.st * 1000 + (kidS D S i).s.du)
theorem starR_step (D S : List Int) (k : Nat) : starR D S (k + 1) = starR D S k ++ [((kidS D S k).s.st * 1000, (kidS D S k).s.st * 1000 + (kidS D S k).s.du)] := by unfold starR; rw [List.range_succ, List.map_append]; rfl
theorem freeB_snoc (R : List (Int × Int)) (x : Int × Int) (t : Int) : Sy.freeB (R ++ [x]) t = (Sy.freeB R t && (decide (t < x.1) || decide (x.2 ≤ t))) := by
  unfold Sy.freeB
  rw [List.all_append]
  simp
theorem star_self {D S : List Int} {own s : Int} {k : Nat} (hk : k ≤ 12) (h0 : 0 ≤ own) (h1 : own ≤ 3000) (h : SelfIs (starL D S own k) (k + 1) 0 s) : s = (Sy.cnt (Sy.freeB (starR D S k)) 3000 own.toNat : Int) := by
  rcases h with ⟨a, _⟩ | ⟨q, hq, hqn, _, P, M, O, hF, hs⟩
  · rcases a with a | a | a
    · omega
    · omega
    · rw [star_right h0 h1] at a; cases a
  · obtain rfl : q = 0 := by omega
    rw [hs, (star_B0 h0 h1).1, (star_B0 h0 h1).2]
    have hp := star_par hk hF.par
    have e : Sy.CI (kidI (starL D S own k) P (k + 1) M 0) 3000 (3000 + own) = Sy.CI (starR D S k) 3000 (3000 + own) := Sy.CI_congr fun t _ _ => Sy.freeB_perm (fun x => by
      unfold kidI starR
      rw [List.mem_map, List.mem_map]
      constructor
      · rintro ⟨c, hc, rfl⟩
        obtain ⟨c1, c2⟩ := (Sy.kid_mem hF.all).1 hc
        cases c with
        | zero =>
          exfalso
          unfold parN at c2
          rw [hp.1] at c2
          simp only at c2
          rw [if_pos trivial] at c2
          omega
        | succ c =>
          obtain ⟨e1, e2⟩ := star_Bn (D := D) (S := S) (own := own) (show c < k by omega)
          exact ⟨c, List.mem_range.2 (by omega), by rw [e1, e2]⟩
      · rintro ⟨c, hc, rfl⟩
        have hc := List.mem_range.1 hc
        obtain ⟨e1, e2⟩ := star_Bn (D := D) (S := S) (own := own) hc
        refine ⟨c + 1, (Sy.kid_mem hF.all).2 ⟨by omega, ?_⟩, by rw [e1, e2]⟩
        unfold parN
        rw [hp.2 c hc]; rfl) t
    rw [e]
    unfold Sy.CI
    rw [show (3000 + own - 3000 : Int).toNat = own.toNat by omega]
theorem star_kid {D S : List Int} {own s : Int} {k i : Nat} (hk : k ≤ 12) (h0 : 0 ≤ own) (h1 : own ≤ 3000) (hi : i < k) (h : SelfIs (starL D S own k) (k + 1) ((i + 1 : Nat) : Int) s) : s = (kidS D S i).s.du := by
  rcases h with ⟨a, _⟩ | ⟨q, hq, hqn, _, P, M, O, hF, hs⟩
  · rcases a with a | a | a
    · omega
    · omega
    · rw [star_right h0 h1] at a; cases a
  · obtain rfl : q = i + 1 := by omega
    obtain ⟨e1, e2⟩ := star_Bn (D := D) (S := S) (own := own) hi
    have hp := star_par hk hF.par
    have hn : kidI (starL D S own k) P (k + 1) M (i + 1) = [] := by
      unfold kidI
      rw [List.map_eq_nil_iff]
      apply List.eq_nil_iff_forall_not_mem.2
      intro c hc
      obtain ⟨c1, c2⟩ := (Sy.kid_mem hF.all).1 hc
      unfold parN at c2
      cases c with
      | zero => rw [hp.1] at c2; simp only at c2; rw [if_pos trivial] at c2; omega
      | succ c => rw [hp.2 c (by omega)] at c2; simp only at c2; rw [if_neg (by omega)] at c2; omega
    rw [hs, hn, Sy.CI_nil, e1, e2]
    have := kid_bd D S i
    omega
end Go.Proofs.Ytgldjjmpjaegfaa
