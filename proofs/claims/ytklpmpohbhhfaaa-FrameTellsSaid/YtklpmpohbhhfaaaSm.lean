/- Lists of bytes in memory, one's own or not; whether two of them are one; the example of chapter 5. -/
import Derived.Test.YtklpmpohbhhfaaaFs
namespace Go.Proofs.Ytklpmpohbhhfaaa
open Go.RowKit
set_option linter.unusedVariables false

/-- A slice of slices of bytes reads as these lists. -/
def Rds (w : World) (B : Nat) (A : Option Addr) (ls : List (List UInt8)) : Prop :=
  ∃ vs : List Value, Rd w B A vs ∧ vs.length = ls.length ∧ ∀ (i : Nat) (l : List UInt8), ls[i]? = some l → ∃ A' c', vs[i]? = some (.slice A' l.length c') ∧ l.length ≤ c' ∧ c' ≤ maxLen ∧ Rd w B A' (l.map B8)
theorem Rds.below {w w' : World} {B : Nat} {A : Option Addr} {ls : List (List UInt8)} (h : Rds w B A ls) (hb : Below B w w') : Rds w' B A ls := by
  obtain ⟨vs, h1, h2, h3⟩ := h
  refine ⟨vs, h1.below hb, h2, fun i l hl => ?_⟩
  obtain ⟨A', c', e, x, y, z⟩ := h3 i l hl
  exact ⟨A', c', e, x, y, z.below hb⟩
theorem Rds.more {w : World} {B B' : Nat} {A : Option Addr} {ls : List (List UInt8)} (h : Rds w B A ls) (hB : B ≤ B') : Rds w B' A ls := by
  obtain ⟨vs, h1, h2, h3⟩ := h
  refine ⟨vs, h1.more hB, h2, fun i l hl => ?_⟩
  obtain ⟨A', c', e, x, y, z⟩ := h3 i l hl
  exact ⟨A', c', e, x, y, z.more hB⟩
theorem Rds.drewN {w : World} {B : Nat} {A : Option Addr} {ls : List (List UInt8)} (h : Rds w B A ls) (k : Nat) : Rds (w.drewN k) B A ls := h
theorem Rds.take {w : World} {B : Nat} {A : Option Addr} {ls : List (List UInt8)} (h : Rds w B A ls) (k : Nat) : Rds w B A (ls.take k) := by
  obtain ⟨vs, h1, h2, h3⟩ := h
  refine ⟨vs.take k, h1.take k, by simp [h2], fun i l hl => ?_⟩
  rw [List.getElem?_take] at hl
  split at hl
  · rename_i hik
    obtain ⟨A', c', e, r⟩ := h3 i l hl
    exact ⟨A', c', by rw [List.getElem?_take, if_pos hik]; exact e, r⟩
  · cases hl
theorem own_cap {w : World} {base n : Nat} {e : TypeId} {v : Value} {xs : List Value} (h : w.ownsRow base e 1 v n xs) : ∃ A c, v = .slice A n c ∧ n ≤ c ∧ c ≤ maxLen ∧ Rd w w.heap.size A xs := by
  obtain ⟨A, c, hv, hc, hr⟩ := own_rd h
  refine ⟨A, c, hv, hc, ?_, hr⟩
  rcases h.2 with ⟨h0, _⟩ | ⟨g, cap, cur, hv2, _, _, _, hm, _⟩
  · rw [hv] at h0; injection h0 with _ _ h0; rw [h0]; simp [maxLen]
  · rw [hv] at hv2; injection hv2 with _ _ hv2; rw [hv2]; exact hm
theorem Owns.rds {w : World} {base : Nat} {v : Value} {ls : List (List UInt8)} (h : Owns w base v ls) : ∃ A c, v = .slice A ls.length c ∧ ls.length ≤ c ∧ Rds w w.heap.size A ls := by
  obtain ⟨vs, h1, _, h3⟩ := h
  obtain ⟨A, c, hv, hc, hr⟩ := own_rd h1
  have hlen : vs.length = ls.length := by have := h1.1; omega
  refine ⟨A, c, hv, hc, vs, hr, hlen, fun i l hl => ?_⟩
  have hi : i < ls.length := by
    rcases Nat.lt_or_ge i ls.length with h | h
    · exact h
    · rw [List.getElem?_eq_none h] at hl; cases hl
  have hu : vs[i]? = some vs[i] := List.getElem?_eq_getElem (by omega)
  obtain ⟨A', c', e, x, y, z⟩ := own_cap (h3 i _ l hu hl)
  exact ⟨A', c', by rw [hu, e], x, y, z⟩
theorem Rds.at_ {w : World} {B : Nat} {A : Option Addr} {ls : List (List UInt8)} (h : Rds w B A ls) {k : Nat} (hk : k < ls.length) : ∃ b off A' c', A = some ⟨b, off, none⟩ ∧ b < B ∧ w.cell? ⟨b, off + k, none⟩ = some (.slice A' (ls.getD k []).length c') ∧ (ls.getD k []).length ≤ c' ∧ c' ≤ maxLen ∧ Rd w B A' ((ls.getD k []).map B8) := by
  obtain ⟨vs, h1, h2, h3⟩ := h
  have hl : ls[k]? = some (ls.getD k []) := by simp [List.getD, hk]
  obtain ⟨A', c', e, x, y, z⟩ := h3 k _ hl
  obtain ⟨a, rfl, hb, hc⟩ := h1 (by omega)
  have hs : a.spot = none := by
    obtain ⟨b, off, spot⟩ := a
    rcases spot with _ | s
    · rfl
    · have h00 := hc 0 (vs[0]'(by omega)) (List.getElem?_eq_getElem (by omega))
      simp [Addr.add, World.cell?] at h00
      split at h00 <;> simp at h00
  obtain ⟨b, off, spot⟩ := a
  simp only at hs
  subst hs
  have e2 : (⟨b, off, none⟩ : Addr).add k = ⟨b, off + k, none⟩ := by unfold Addr.add; split <;> simp_all
  exact ⟨b, off, A', c', rfl, hb, by rw [← e2]; exact hc k _ e, x, y, z⟩

theorem drewN_add (w : World) (i j : Nat) : (w.drewN i).drewN j = w.drewN (i + j) := by
  simp [World.drewN, Nat.add_assoc]
theorem S8_inj {a b : List UInt8} (h : S8 a = S8 b) : a = b := by
  have := congrArg (fun s : ByteArray => s.data.toList) h
  simpa [S8] using this

set_option maxHeartbeats 2000000 in
set_option maxRecDepth 100000 in
theorem same_calls (A1 : Option Addr) (l1 : List (List UInt8)) (n1 c1 : Nat) (A2 : Option Addr) (l2 : List (List UInt8)) (n2 c2 B : Nat) (w : World) (hn1 : n1 = l1.length) (hn2 : n2 = l2.length) (h1 : Rds w B A1 l1) (h2 : Rds w B A2 l2) (m1 : n1 ≤ 1000000) (m2 : n2 ≤ 1000000) :
    Calls Try.prog 12 #[.slice A1 n1 c1, .slice A2 n2 c2] w fun e w' => e = .returned (.bool (decide (l1 = l2))) ∧ ∃ k, w' = w.drewN k := by
  have H1 := Lib.hid h1
  have H2 := Lib.hid h2
  have N1 := Lib.hid hn1
  have N2 := Lib.hid hn2
  by_cases hne : n1 = n2
  · have q : ((n1 : Int) != (n2 : Int)) = false := by rw [bne_eq_false_iff_eq]; omega
    subst hne
    clear h1 h2 hn1 hn2
    go_enter Try.func12, Try.ntmps12
    go_wp2
    go_loopw [5] (fun i wr => ∃ k : Nat, k ≤ n1 ∧ i = .int .i64 k ∧ Hid (l1.take k = l2.take k) ∧ Hid (∃ j, wr = w.drewN j)) (fun i _ => n1 - (intOf i).toNat)
    case atStart => exact ⟨0, by omega, rfl, by simp [Hid], ⟨0, rfl⟩⟩
    case round =>
      obtain ⟨k, hk, rfl, HT, HJ⟩ := hrel
      obtain ⟨j, rfl⟩ := HJ.out
      by_cases hlt : k < n1
      · obtain ⟨b, off, X, cx, rfl, _, hc1, hx1, hx2, hxr⟩ := (H1.out.drewN j).at_ (k := k) (by have := N1.out; omega)
        obtain ⟨b', off', Y, cy, rfl, _, hc2, hy1, hy2, hyr⟩ := (H2.out.drewN j).at_ (k := k) (by have := N2.out; omega)
        have t1 : l1.take (k + 1) = l1.take k ++ [l1.getD k []] := by
          rw [List.take_succ_eq_append_getElem (by have := N1.out; omega)]; congr 2; simp [List.getD, show k < l1.length from by have := N1.out; omega]
        have t2 : l2.take (k + 1) = l2.take k ++ [l2.getD k []] := by
          rw [List.take_succ_eq_append_getElem (by have := N2.out; omega)]; congr 2; simp [List.getD, show k < l2.length from by have := N2.out; omega]
        have T1 := Lib.hid t1
        have T2 := Lib.hid t2
        clear t1 t2
        generalize l1.getD k [] = p1 at *
        generalize l2.getD k [] = p2 at *
        have k1 := fun i => run_str (P := Try.prog) 22 5 9 Try.underlying22 Try.underlying5 Try.underlying9 (w := (w.drewN j).drewN i) (hxr.drewN i) p1.length cx rfl
        have k2 := fun i => run_str (P := Try.prog) 22 5 9 Try.underlying22 Try.underlying5 Try.underlying9 (w := (w.drewN j).drewN i) (hyr.drewN i) p2.length cy rfl
        have i0 : (0 : Int) ≤ (k : Int) := by omega
        have i1 : (k : Int) < (n1 : Int) := by omega
        clear hxr hyr
        generalize w.drewN j = wq at *
        have tl : ∀ l : List UInt8, (S8 l).toList = l := fun l => ByteArray.toList_mk l
        by_cases hp : p1 = p2
        · have q3 : ((S8 p1).toList == (S8 p2).toList) = true := by rw [hp]; simp
          have HT2 : Hid (l1.take (k + 1) = l2.take (k + 1)) := by rw [T1.out, T2.out, HT.out, hp]; simp [Hid]
          clear hp tl
          generalize S8 p1 = s1 at *
          generalize S8 p2 = s2 at *
          go_wp2
          go_quiet (fail)
          go_wp2
          go_roundw
          case rel => exact ⟨k + 1, by omega, by go_num, HT2, by obtain ⟨j', hj'⟩ := HJ.out; exact ⟨_, by rw [hj']; exact drewN_add _ _ _⟩⟩
          case measure => simp [intOf]; omega
        · have q3 : ((S8 p1).toList == (S8 p2).toList) = false := by rw [tl, tl, beq_eq_false_iff_ne]; exact hp
          have HF : Hid (decide (l1 = l2) = false) := by
            have : ¬ l1 = l2 := fun e => by
              have h := T1.out
              rw [e, T2.out] at h
              have h2 := HT.out
              rw [e] at h2
              have := List.append_cancel_left h
              simp at this
              exact hp this.symm
            simp [this, Hid]
          clear hp tl
          generalize S8 p1 = s1 at *
          generalize S8 p2 = s2 at *
          go_wp2
          go_quiet (fail)
          go_wp2
          go_ret
          exact ⟨by rw [HF.out]; rfl, by obtain ⟨j', hj'⟩ := HJ.out; exact ⟨_, by rw [hj']; exact drewN_add _ _ _⟩⟩
      · have hk1 : k = n1 := by omega
        have HF : Hid (decide (l1 = l2) = true) := by
          have h := HT.out
          rw [List.take_of_length_le (by have := N1.out; omega), List.take_of_length_le (by have := N2.out; omega)] at h
          simp [h, Hid]
        go_wp2
        go_ret
        exact ⟨by rw [HF.out]; rfl, j, rfl⟩
  · have q : ((n1 : Int) != (n2 : Int)) = true := by rw [bne_iff_ne]; omega
    have HF : Hid (decide (l1 = l2) = false) := by
      have : ¬ l1 = l2 := fun e => hne (by rw [hn1, hn2, e])
      simp [this, Hid]
    clear h1 h2 hn1 hn2
    go_enter Try.func12, Try.ntmps12
    go_wp2
    go_ret
    exact ⟨by rw [HF.out]; rfl, 0, rfl⟩
end Go.Proofs.Ytklpmpohbhhfaaa
