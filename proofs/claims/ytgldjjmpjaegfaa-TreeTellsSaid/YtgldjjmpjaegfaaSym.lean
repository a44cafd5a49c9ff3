/- tree.leastOfRing, tree.Parents. -/
import Derived.Test.YtgldjjmpjaegfaaSyk
import Derived.Test.YtgldjjmpjaegfaaSyl
namespace Go.Proofs.Ytgldjjmpjaegfaa
open Go.RowKit Go.Maps
set_option linter.unusedVariables false
set_option linter.unusedSimpArgs false
set_option maxRecDepth 100000

theorem own_atZ {w : World} {base g cap n i : Nat} {P : List Int} {z : Int} (h : w.ownsRow base 3 1 (.slice (some ⟨g, 0, none⟩) n cap) n ((P).map encZ)) (hx : P[i]? = some z) : w.cell? ⟨g, i, none⟩ = some (.int .i64 z) ∧ w.frozen? ⟨g, i, none⟩ = false := by
  have hl := h.1
  rw [List.length_map] at hl
  have hi := (List.getElem?_eq_some_iff.1 hx).1
  have s := own_setY h (i := i) (by omega) (.bool true)
  exact ⟨by rw [s.2.1, List.getElem?_map, hx]; rfl, s.1⟩
theorem pf_cell {P : List Int} {n u x : Nat} (hp : Sy.Plain P n) (h : Sy.pf P u = some x) : P[u]? = some (x : Int) ∧ x < n := by
  unfold Sy.pf at h
  split at h
  · rename_i z hz
    have := hp u z hz
    split at h
    · cases h
    · injection h with h
      have e : z = (x : Int) := by omega
      exact ⟨by rw [hz, e], by omega⟩
  · cases h
theorem it_lt {P : List Int} {n i v : Nat} (hp : Sy.Plain P n) (hi : i < n) : ∀ k, Sy.it (Sy.pf P) k i = some v → v < n
  | 0, h => by injection h with h; omega
  | k + 1, h => by
    change (Sy.it (Sy.pf P) k i).bind (Sy.pf P) = some v at h
    cases ht : Sy.it (Sy.pf P) k i with
    | none => rw [ht] at h; cases h
    | some t => rw [ht] at h; exact (pf_cell hp h).2
theorem it_congr {P N : List Int} {v : Nat} (h : ∀ q u, Sy.it (Sy.pf N) q v = some u → P[u]? = N[u]?) : ∀ q, Sy.it (Sy.pf P) q v = Sy.it (Sy.pf N) q v
  | 0 => rfl
  | q + 1 => by
    show (Sy.it (Sy.pf P) q v).bind _ = (Sy.it (Sy.pf N) q v).bind _
    rw [it_congr h q]
    cases ht : Sy.it (Sy.pf N) q v with
    | none => rfl
    | some t => exact Sy.pf_congr (h q t ht)
/-- What a set of one cell leaves. -/
theorem own_elseZ {w : World} {base base' g g' n n' cap cap' i : Nat} {e e' : TypeId} {xs ys : List Value} (h : w.ownsRow base e 1 (.slice (some ⟨g, 0, none⟩) n cap) n xs) (h' : w.ownsRow base' e' 1 (.slice (some ⟨g', 0, none⟩) n' cap') n' ys) (hne : g ≠ g') (hi : i < n') (u : Value) : (w.setCell ⟨g', i, none⟩ u).ownsRow base e 1 (.slice (some ⟨g, 0, none⟩) n cap) n xs :=
  own_grew h (own_set h' hi u).2.2.2 (.inr (by simp [Value.ownBlock]; omega))
def zcell : Option Value → Bool
  | some (.int _ z) => z == 0
  | _ => false
/-- How many of a row's cells are zero. -/
def zc (w : World) (g n : Nat) : Nat := ((List.range n).filter fun v => zcell (w.cell? ⟨g, v, none⟩)).length
theorem flt_lt {p q : Nat → Bool} : ∀ l : List Nat, (∀ x ∈ l, q x = true → p x = true) → (l.filter q).length ≤ (l.filter p).length ∧ ((∃ x ∈ l, p x = true ∧ q x = false) → (l.filter q).length < (l.filter p).length)
  | [], _ => ⟨Nat.le_refl _, fun ⟨x, hx, _⟩ => by cases hx⟩
  | y :: l, h => by
    obtain ⟨h1, h2⟩ := flt_lt l (fun x hx => h x (List.mem_cons_of_mem _ hx))
    have hy := h y (List.mem_cons_self)
    refine ⟨?_, fun ⟨x, hx, hp, hq⟩ => ?_⟩
    · cases hqy : q y
      · cases hpy : p y <;> simp [List.filter_cons, hqy, hpy] <;> omega
      · simp [List.filter_cons, hqy, hy hqy]; omega
    · rcases List.mem_cons.1 hx with rfl | hx
      · simp [List.filter_cons, hp, hq]; omega
      · have h3 := h2 ⟨x, hx, hp, hq⟩
        cases hqy : q y
        · cases hpy : p y <;> simp [List.filter_cons, hqy, hpy] <;> omega
        · simp [List.filter_cons, hqy, hy hqy]; omega
theorem zc_less {w w' : World} {b1 b2 g n cap i v : Nat} {W W' : List Nat} (h : w.ownsRow b1 3 1 (.slice (some ⟨g, 0, none⟩) n cap) n ((W).map encN)) (h' : w'.ownsRow b2 3 1 (.slice (some ⟨g, 0, none⟩) n cap) n ((W').map encN)) (e : W' = W.set v (i + 1)) (h0 : W[v]? = some 0) : zc w' g n < zc w g n := by
  subst e
  have hl := own_lenN h
  have hv := (List.getElem?_eq_some_iff.1 h0).1
  refine (flt_lt (List.range n) (fun x hxr hx => ?_)).2 ⟨v, List.mem_range.2 (by omega), ?_, ?_⟩
  · have hxn := List.mem_range.1 hxr
    obtain ⟨y, hy⟩ : ∃ y, W[x]? = some y := ⟨_, List.getElem?_eq_getElem (by omega)⟩
    by_cases e : v = x
    · subst e
      rw [(own_atN h' (List.getElem?_set_self hv)).1] at hx
      simp [zcell] at hx
      omega
    · rw [(own_atN h' (x := y) (by rw [List.getElem?_set_ne e]; exact hy)).1] at hx
      rw [(own_atN h hy).1]; exact hx
  · rw [(own_atN h h0).1]; rfl
  · rw [(own_atN h' (List.getElem?_set_self hv)).1]
    simp [zcell]; omega
/-- How far it is to v. -/
def dstR (f : Nat → Option Nat) (v m u : Nat) : Nat := ((List.range (m + 1)).find? fun q => Sy.it f q u == some v).getD 0
theorem dstR_is {f : Nat → Option Nat} {v m k u : Nat} (h : Sy.it f m v = some v) (hmin : ∀ k, 0 < k → k < m → Sy.it f k v ≠ some v) (hk : k + 1 ≤ m) (hu : Sy.it f (k + 1) v = some u) : dstR f v m u = m - (k + 1) := by
  have key : ∀ q, Sy.it f q u = Sy.it f (k + 1 + q) v := fun q => by rw [Sy.it_add, hu]; rfl
  have : (List.range (m + 1)).find? (fun q => Sy.it f q u == some v) = some (m - (k + 1)) := by
    rw [List.find?_range_eq_some]
    refine ⟨?_, List.mem_range.2 (by omega), fun j hj => ?_⟩
    · rw [key, show k + 1 + (m - (k + 1)) = m by omega, h]; exact beq_self_eq_true _
    · rw [key]
      have := hmin (k + 1 + j) (by omega) (by omega)
      simpa using this
  unfold dstR
  rw [this]; rfl
set_option maxHeartbeats 4000000 in
theorem leastring_any (P : List Int) (base g n cap v m : Nat) (w : World) (hO : w.ownsRow base 3 1 (.slice (some ⟨g, 0, none⟩) n cap) n ((P).map encZ)) (hP : Sy.Plain P n) (hm : 0 < m) (h : Sy.it (Sy.pf P) m v = some v) (hmin : ∀ k, 0 < k → k < m → Sy.it (Sy.pf P) k v ≠ some v) (hsm : n ≤ 100000) :
    Calls Try.prog 31 #[.slice (some ⟨g, 0, none⟩) n cap, .int .i64 (v : Int)] w fun e w' => e = .returned (.int .i64 ((Sy.lst (Sy.pf P) v (m - 1) : Nat) : Int)) ∧ w' = w := by
  have HO := Lib.hid hO
  have HP := Lib.hid hP
  have HM := Lib.hid hm
  have HIT := Lib.hid h
  have HMIN := Lib.hid hmin
  obtain ⟨u1, hu1⟩ := Sy.it_less h (a := 1) hm
  have hp1 : Sy.pf P v = some u1 := hu1
  obtain ⟨c1, hl1⟩ := pf_cell hP hp1
  have hvn : v < n := by have := Sy.pf_lt hp1; have := hO.1; rw [List.length_map] at this; omega
  obtain ⟨k0, _⟩ := own_atZ hO c1
  have i0 : (0 : Int) ≤ (v : Int) := by omega
  have i1 : (v : Int) < (n : Int) := by omega
  have HU1 := Lib.hid hu1
  clear hO hP hm h hmin hu1 hp1 c1
  go_enter Try.func31, Try.ntmps31
  go_wp2_with fail
  clear k0
  go_loopw [5, 6] (fun vl vn wq => ∃ (k u a : Nat), vl = .int .i64 (a : Int) ∧ vn = .int .i64 (u : Int) ∧ w = wq ∧ Hid (k + 1 ≤ m) ∧ Hid (Sy.it (Sy.pf P) (k + 1) v = some u) ∧ Hid (a = Sy.lst (Sy.pf P) v k)) (fun vl vn _ => dstR (Sy.pf P) v m (intOf vn).toNat)
  case atStart => exact ⟨0, u1, v, rfl, rfl, rfl, Lib.hid HM.out, HU1, Lib.hid rfl⟩
  case round =>
    obtain ⟨k, u, a, rfl, rfl, hw, HK, HU, HA⟩ := hrel
    subst hw
    by_cases e : u = v
    · subst e
      have b1 : ((u : Int) == (u : Int)) = true := beq_self_eq_true _
      have b2 : (u == u) = true := beq_self_eq_true _
      go_wp2_with fail
      go_ret
      have hk := HK.out
      have e : k = m - 1 := by
        rcases Nat.lt_or_ge (k + 1) m with h | h
        · exact absurd HU.out (HMIN.out (k + 1) (by omega) h)
        · omega
      exact ⟨by rw [HA.out, e]; rfl, rfl⟩
    · have b1 : ((u : Int) == (v : Int)) = false := beq_eq_false_iff_ne.2 (by omega)
      have b2 : (u == v) = false := beq_eq_false_iff_ne.2 e
      have hk2 : k + 2 ≤ m := by
        have := HK.out
        rcases Nat.lt_or_ge (k + 1) m with h | h
        · omega
        · exfalso
          have e2 : k + 1 = m := by omega
          have h1 := HU.out
          rw [e2, HIT.out] at h1
          injection h1 with h1
          exact e h1.symm
      obtain ⟨u2, hu2⟩ := Sy.it_less HIT.out hk2
      have hp2 : Sy.pf P u = some u2 := by
        have h1 : (Sy.it (Sy.pf P) (k + 1) v).bind (Sy.pf P) = some u2 := hu2
        rw [HU.out] at h1; exact h1
      obtain ⟨c2, hl2⟩ := pf_cell HP.out hp2
      obtain ⟨j, hj⟩ : ∃ j, j = min a u := ⟨_, rfl⟩
      have HJ := Lib.hid (show j = Sy.lst (Sy.pf P) v (k + 1) from by
        show j = min (Sy.lst (Sy.pf P) v k) ((Sy.it (Sy.pf P) (k + 1) v).getD v)
        rw [HU.out, ← HA.out, hj]; rfl)
      have HJ0 := Lib.hid hj
      have ej : min (a : Int) (u : Int) = (j : Int) := by omega
      obtain ⟨k1, _⟩ := own_atZ HO.out c2
      have hun : u < n := by have := Sy.pf_lt hp2; have := HO.out.1; rw [List.length_map] at this; omega
      have j0 : (0 : Int) ≤ (u : Int) := by omega
      have j1 : (u : Int) < (n : Int) := by omega
      have HU2 := Lib.hid hu2
      have HK2 := Lib.hid hk2
      have HD := Lib.hid (dstR_is HIT.out HMIN.out HK.out HU.out)
      have HD2 := Lib.hid (dstR_is HIT.out HMIN.out (k := k + 1) hk2 hu2)
      clear hu2 hp2 c2 hj e hk2
      go_wp2_with fail
      go_roundw
      case rel => exact ⟨k + 1, u2, j, (by have := HJ0.out; congr 1; split <;> omega), rfl, trivial, HK2, HU2, HJ⟩
      case measure => have h1 := HD.out; have h2 := HD2.out; have := HK2.out; simp only [intOf, Int.toNat_natCast]; omega
end Go.Proofs.Ytgldjjmpjaegfaa
