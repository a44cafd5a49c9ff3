/- The document's Order, Depths, Sizes, walked. -/
import Derived.Test.YtgldjjmpjaegfaaTs
import Derived.RegionTactic
import Derived.ChangeAlike
import Derived.BigRegion
namespace Go.Proofs.Ytgldjjmpjaegfaa
open Go.RowKit Go.Maps
set_option linter.unusedVariables false
set_option linter.unusedSimpArgs false
set_option maxRecDepth 100000

namespace Sy
theorem Run.ge {K : Nat → List Nat} {S O : List Nat} {g : Nat → Nat} {c : Nat} (h : Run K S O) : (∀ s ∈ S, c ≤ g s) → (∀ x ∈ O, ∀ y ∈ K x, g y = g x + 1) → ∀ x ∈ O, c ≤ g x := by
  induction h with
  | nil => intro _ _ x hx; cases hx
  | @cons x S' O' h ih =>
    intro hs hk y hy
    rcases List.mem_cons.1 hy with e | e
    · rw [e]; exact hs x List.mem_cons_self
    · refine ih (fun s hsm => ?_) (fun a ha => hk a (List.mem_cons_of_mem _ ha)) y e
      rcases List.mem_append.1 hsm with u | u
      · have h1 := hk x List.mem_cons_self s u
        have h2 := hs x List.mem_cons_self
        omega
      · exact hs s (List.mem_cons_of_mem _ u)
/-- How deep each is. -/
structure Dg (P : List Int) (n : Nat) (g : Nat → Nat) : Prop where
  le : ∀ x, g x ≤ n
  root : ∀ x, x < n → parN P n x = n → g x = 0
  kid : ∀ x, x < n → parN P n x < n → g x = g (parN P n x) + 1
theorem Fo.dep {l : List Ls} {n : Nat} {P : List Int} {M O : List Nat} (h : Fo l n P M O) : ∃ g, Dg P n g := by
  have key : ∀ k, k ≤ O.length → ∃ g : Nat → Nat, (∀ x, g x ≤ k) ∧ ∀ x ∈ O.take k, (parN P n x = n → g x = 0) ∧ (parN P n x < n → g x = g (parN P n x) + 1) := by
    intro k
    induction k with
    | zero => exact fun _ => ⟨fun _ => 0, fun _ => Nat.le_refl _, fun x hx => by simp at hx⟩
    | succ k ih =>
      intro hk
      obtain ⟨g, h1, h2⟩ := ih (by omega)
      obtain ⟨x, hx⟩ : ∃ x, O[k]? = some x := ⟨_, List.getElem?_eq_getElem (by omega)⟩
      have hxe := List.getElem?_eq_some_iff.1 hx
      have hsplit : O = O.take k ++ x :: O.drop (k + 1) := by
        conv => lhs; rw [← List.take_append_drop k O]
        rw [List.drop_eq_getElem_cons hxe.1, hxe.2]
      have hup := h.ost.up _ _ _ hsplit
      have hnd := h.nd
      rw [hsplit, List.nodup_append, List.nodup_cons] at hnd
      have hxno : x ∉ O.take k := fun hm => hnd.2.2 x hm x List.mem_cons_self rfl
      have hxn : x < n := (h.mem x).1 (List.mem_of_getElem? hx)
      refine ⟨fun y => if y = x then (if parN P n x = n then 0 else g (parN P n x) + 1) else g y, fun y => ?_, fun y hy => ?_⟩
      · dsimp only
        have := h1 y
        have := h1 (parN P n x)
        split
        · split <;> omega
        · omega
      · rw [List.take_add_one, hx] at hy
        rcases List.mem_append.1 hy with e | e
        · have hyx : y ≠ x := fun e2 => hxno (by rw [← e2]; exact e)
          obtain ⟨O1, O2, e3⟩ := List.append_of_mem e
          have hyup := h.ost.up O1 y (O2 ++ x :: O.drop (k + 1)) (hsplit.trans (by rw [e3]; simp))
          have hpy : parN P n y ≠ x := fun e2 => by
            rcases hyup with u | u
            · omega
            · rw [e2] at u; exact hxno (by rw [e3]; exact List.mem_append_left _ u)
          dsimp only
          rw [if_neg hyx, if_neg hpy]
          exact h2 y e
        · have e : y = x := by simpa using e
          subst e
          dsimp only
          rw [if_pos rfl]
          refine ⟨fun hp => by rw [if_pos hp], fun hp => ?_⟩
          rw [if_neg (by omega)]
          have hpx : parN P n y ≠ y := fun e2 => by
            rcases hup with u | u
            · omega
            · rw [e2] at u; exact hxno u
          rw [if_neg hpx]
  obtain ⟨g, h1, h2⟩ := key O.length (Nat.le_refl _)
  refine ⟨g, fun x => Nat.le_trans (h1 x) h.len, fun x hx hp => ?_, fun x hx hp => ?_⟩
  · exact (h2 x (by rw [List.take_length]; exact (h.mem x).2 hx)).1 hp
  · exact (h2 x (by rw [List.take_length]; exact (h.mem x).2 hx)).2 hp
theorem Dg.down {P : List Int} {n : Nat} {g : Nat → Nat} {M : List Nat} (h : Dg P n g) (hM : All n M) {x y : Nat} (hx : x < n) (hy : y ∈ M.filter fun q => parN P n q == x) : g y = g x + 1 := by
  obtain ⟨h1, h2⟩ := (kid_mem hM).1 hy
  rw [h.kid y h1 (by omega), h2]
theorem parN_root {P : List Int} {n x : Nat} (hp : Plain P n) (hl : P.length = n) (hx : x < n) : Sy.pf P x = none ↔ parN P n x = n := by
  obtain ⟨z, hz⟩ : ∃ z, P[x]? = some z := ⟨_, List.getElem?_eq_getElem (by omega)⟩
  have := hp x z hz
  unfold pf parN
  rw [hz]
  simp only
  constructor
  · intro h
    split at h
    · rename_i h1; rw [if_pos h1]
    · cases h
  · intro h
    split at h
    · rename_i h1; rw [if_pos h1]
    · omega
theorem parN_some {P : List Int} {n x u : Nat} (hp : Plain P n) (h : Sy.pf P x = some u) : parN P n x = u ∧ u < n := by
  obtain ⟨hc, hun⟩ := pf_cell hp h
  refine ⟨?_, hun⟩
  unfold parN
  rw [hc]
  simp only
  rw [if_neg (by omega)]; omega
theorem Dg.dep {P : List Int} {n : Nat} {g : Nat → Nat} {D : List Nat} (h : Dg P n g) (hp : Plain P n) (hl : P.length = n) (hD : DepOf P n D) : ∀ (m x : Nat), x < n → g x ≤ m → D[x]? = some (g x) := by
  intro m
  induction m with
  | zero =>
    intro x hx hm
    have h0 := hD.2 x hx
    cases hu : pf P x with
    | none => rw [hu] at h0; rw [h0, h.root x hx ((parN_root hp hl hx).1 hu)]
    | some u =>
      obtain ⟨h1, h2⟩ := parN_some hp hu
      have := h.kid x hx (by omega)
      omega
  | succ m ih =>
    intro x hx hm
    have h0 := hD.2 x hx
    cases hu : pf P x with
    | none => rw [hu] at h0; rw [h0, h.root x hx ((parN_root hp hl hx).1 hu)]
    | some u =>
      obtain ⟨h1, h2⟩ := parN_some hp hu
      have h3 := h.kid x hx (by omega)
      rw [h1] at h3
      rw [hu] at h0
      simp only at h0
      rw [h0, ih u h2 (by omega), h3]; rfl
end Sy
set_option maxHeartbeats 4000000 in
theorem same29_any (X : List Int) (A1 A2 : Option Addr) (n c1 c2 B : Nat) (w : World) (h1 : Rd w B A1 (X.map encZ)) (h2 : Rd w B A2 (X.map encZ)) (hn : n = X.length) (hsm : n ≤ 100000) :
    Calls Try.prog 12 #[.slice A1 n c1, .slice A2 n c2] w fun e w' => e = .returned (.bool true) ∧ Below w.heap.size w w' := by
  have HN := Lib.hid hn
  have H1 := Lib.hid h1
  have H2 := Lib.hid h2
  clear h1 h2 hn
  go_enter Try.func12, Try.ntmps12
  go_upto_region 4 with fail
  go_loopw [5] (fun vi wq => ∃ (i : Nat), vi = .int .i64 (i : Int) ∧ Hid (i ≤ n) ∧ Hid (∃ q, wq = w.drewN q)) (fun vi _ => n - (intOf vi).toNat)
  case atStart => exact ⟨0, rfl, Lib.hid (Nat.zero_le _), Lib.hid ⟨0, rfl⟩⟩
  case round =>
    obtain ⟨i, rfl, HI, HQ⟩ := hrel
    by_cases hlt : i < n
    · have d0 : decide ((i : Int) < (n : Int)) = true := decide_eq_true (by omega)
      have d1 : decide (i < n) = true := decide_eq_true hlt
      have i0 : (0 : Int) ≤ (i : Int) := by omega
      have i1 : (i : Int) < (n : Int) := by omega
      obtain ⟨i9, hi9⟩ : ∃ i9, i9 = i + 1 := ⟨_, rfl⟩
      have e1 : IntKind.i64.wrap ((i : Int) + 1) = (i9 : Int) := by rw [IntKind.wrap_i64] <;> omega
      obtain ⟨z, hz⟩ : ∃ z, X[i]? = some z := ⟨_, List.getElem?_eq_getElem (by rw [← HN.out]; exact hlt)⟩
      obtain ⟨a1, ha1, _, hc1⟩ := H1.out (by rw [List.length_map, ← HN.out]; omega)
      obtain ⟨a2, ha2, _, hc2⟩ := H2.out (by rw [List.length_map, ← HN.out]; omega)
      subst ha1 ha2
      have p1 : wr.cell? (a1.add i) = some (.int .i64 z) := by obtain ⟨q, e⟩ := HQ.out; rw [e]; exact hc1 i _ (by rw [List.getElem?_map, hz]; rfl)
      have p2 : wr.cell? (a2.add i) = some (.int .i64 z) := by obtain ⟨q, e⟩ := HQ.out; rw [e]; exact hc2 i _ (by rw [List.getElem?_map, hz]; rfl)
      have HI9 := Lib.hid hi9
      have HLT := Lib.hid hlt
      clear hi9 hlt hz hc1 hc2
      go_upto_region 6 with fail
      refine wp_region_quiet_lex (by kernel_rfl) (by kernel_rfl) ?_
      repeat (go_big_quiet_step (fail))
      refine wpQuiet_nil ?_
      intro _ hw'
      obtain ⟨nq, hw''⟩ := hw'
      subst hw''
      go_wp2_with fail
      go_roundw
      case rel => exact ⟨i9, by first | rfl | go_num, Lib.hid (by have := HLT.out; have := HI9.out; omega), Lib.hid (by obtain ⟨q, e⟩ := HQ.out; exact ⟨q + nq, by rw [e]; simp [World.drewN, Nat.add_assoc]⟩)⟩
      case measure => have := HLT.out; have := HI9.out; simp [intOf]; omega
    · obtain rfl : n = i := by have := HI.out; omega
      have d0 : decide ((n : Int) < (n : Int)) = false := decide_eq_false (by omega)
      have d1 : decide (n < n) = false := decide_eq_false (by omega)
      clear hlt
      go_wp2_with fail
      go_ret
      refine ⟨rfl, ?_⟩
      obtain ⟨q, e⟩ := HQ.out
      rw [e]
      exact ⟨rfl, rfl, rfl, Nat.le_refl _, fun _ _ => rfl⟩
set_option maxHeartbeats 16000000 in
theorem reforder_any (l : List Ls) (A : Option Addr) (n c B : Nat) (w : World) (hS : RdSps w B A l) (hB : B ≤ w.heap.size) (hn : n = l.length) (hsm : n ≤ 500) :
    Calls Try.prog 16 #[.slice A n c] w fun e w' => ∃ A' c' P M O, e = .returned (.slice A' n c') ∧ Sy.Fo l n P M O ∧ w'.ownsRow w.heap.size 3 1 (.slice A' n c') n (O.map encN) ∧ Below w.heap.size w w' := by
  have PC := Lib.hid (refparents_any l A n c B w hS hB hn (by omega))
  have HS := Lib.hid hS
  have HB := Lib.hid hB
  have HN := Lib.hid hn
  clear hS hB hn
  have BC : Hid (∀ (w1 : World) (A1 : Option Addr) (c1 : Nat) (P : List Int), Sy.ParOf (namedM l) P → w1.ownsRow w.heap.size 3 1 (.slice A1 n c1) n (P.map encZ) → Below w.heap.size w w1 → ∃ M O, Sy.Fo l n P M O ∧ Calls Try.prog 34 #[.slice A n c, .slice A1 n c1, .int .i64 (-1), .int .i64 0] w1 fun e w' => ∃ v1 v2, e = .returned (.tuple #[v1, v2]) ∧ (∃ A' c', v1 = .slice A' n c') ∧ w'.ownsRow w1.heap.size 3 1 v1 n (O.map encN) ∧ Below w1.heap.size w1 w') := Lib.hid (fun w1 A1 c1 P hP ho1 hb1 => by
    obtain ⟨M, hM⟩ := Sy.bys_ex l
    have hF := Sy.fo_of HN.out hP hM
    obtain ⟨O, hO⟩ : ∃ O, O = Sy.ordM (kidsL P n M) n (M.filter fun i => parN P n i == n) := ⟨_, rfl⟩
    rw [← hO] at hF
    refine ⟨M, O, hF, ?_⟩
    obtain ⟨g, hg⟩ := hF.dep
    obtain ⟨A9, c9, e9, _, hrd⟩ := own_rd ho1
    injection e9 with e9 e10 e11
    subst e9
    have hof : Sy.ofZ n (-1) = n := by unfold Sy.ofZ; rw [if_pos rfl]
    have hhd : hdZ (-1) = [] := by unfold hdZ; rw [if_pos rfl]
    have hlo := hF.len
    have hol : O.length = n := by
      have h2 := Sy.sub_len (List.range n) O List.nodup_range fun x hx => (hF.mem x).2 (List.mem_range.1 hx)
      rw [List.length_range] at h2
      omega
    refine (refbelow_any l A n c w1.heap.size P A1 c1 M O hF g (fun x => by have := hg.le x; omega) (by omega) O.length (-1) O 0 w1 ((HS.out.below (hb1.mono HB.out)).more (Nat.le_trans HB.out hb1.size)) hrd (Nat.le_refl _) (.inl rfl) (by rw [hof]; exact hF.run) (Nat.le_refl _) (by omega) (by omega) (fun _ y hy => ?_) (fun h => by omega) (fun x hx y hy => ?_)).mono ?_
    · rw [hof] at hy
      obtain ⟨h1, h2⟩ := (Sy.kid_mem hF.all).1 hy
      exact hg.root y h1 h2
    · rw [hhd, List.nil_append] at hx
      exact hg.down hF.all ((hF.mem x).1 hx) hy
    · rintro ex w' ⟨v1, v2, rfl, hk, hb⟩
      rw [hhd, List.nil_append] at hk
      obtain ⟨⟨A5, c5, e5⟩, h6⟩ := hk.own 0 v1 O rfl rfl
      rw [hol] at e5 h6
      exact ⟨v1, v2, rfl, ⟨A5, c5, e5⟩, h6, hb⟩)
  go_enter Try.func16, Try.ntmps16
  go_wp2_with (first
    | (go_at_call 14; (with_reducible refine PC.out.mono ?_); rintro ex w1 ⟨A1, c1, P, rfl, hp1, ho1, hb1⟩; obtain ⟨M, O, hF, BC2⟩ := BC.out w1 A1 c1 P hp1 ho1 hb1; have HF := Lib.hid hF; have BC3 := Lib.hid BC2; have HB1 := Lib.hid hb1; clear BC2 hp1 ho1 hb1 hF)
    | (go_at_call 34; (with_reducible refine BC3.out.mono ?_); rintro ex w2 ⟨v1, v2, rfl, ⟨A5, c5, rfl⟩, ho2, hb2⟩; have HO2 := Lib.hid ho2; have HB2 := Lib.hid hb2; clear ho2 hb2))
  go_ret
  exact ⟨A5, c5, P, M, O, rfl, HF.out, own_mono HO2.out HB1.out.size, HB1.out.trans (HB2.out.mono HB1.out.size)⟩
end Go.Proofs.Ytgldjjmpjaegfaa
