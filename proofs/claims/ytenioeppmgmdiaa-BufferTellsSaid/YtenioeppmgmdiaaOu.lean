/- What the code's Oldest, Close, Put answer, and the document's, in one form. -/
import Derived.Test.YtenioeppmgmdiaaDzs
import Derived.Test.YtenioeppmgmdiaaOz
import Derived.Test.YtenioeppmgmdiaaPb
namespace Go.Proofs.Ytenioeppmgmdiaa
open Go.RowKit
set_option linter.unusedVariables false
set_option linter.unusedSimpArgs false
set_option maxRecDepth 100000

theorem MinTo.uniq {L : List Le} {a b : Nat} (h : MinTo L L.length a) (k : MinTo L L.length b) : a = b := by
  obtain ⟨e, h1, h2, h3⟩ := h
  obtain ⟨f, k1, k2, k3⟩ := k
  rw [List.take_length] at h2 k2
  have hf := h2 f (List.mem_of_getElem? k1)
  have he := k2 e (List.mem_of_getElem? h1)
  rcases Nat.lt_trichotomy a b with hab | hab | hab
  · have := k3 e (List.mem_of_getElem? (show (L.take b)[a]? = some e by rw [List.getElem?_take, if_pos hab]; exact h1))
    omega
  · exact hab
  · have := h3 f (List.mem_of_getElem? (show (L.take a)[b]? = some f by rw [List.getElem?_take, if_pos hab]; exact k1))
    omega
theorem MinTo.exists {L : List Le} (h : 0 < L.length) : ∀ k, k ≤ L.length → ∃ o, MinTo L k o
  | 0, _ => ⟨0, MinTo.zero h⟩
  | k + 1, hk => by
    obtain ⟨o, ho⟩ := MinTo.exists h k (by omega)
    obtain ⟨e, he, _⟩ := ho
    obtain ⟨x, hx⟩ : ∃ x, L[k]? = some x := ⟨_, List.getElem?_eq_getElem (by omega)⟩
    by_cases hl : x.f < e.f
    · exact ⟨k, MinTo.less (by obtain ⟨o2, ho2⟩ : ∃ o2, o2 = o := ⟨_, rfl⟩; exact ⟨e, he, by assumption⟩) he hx hl⟩
    · exact ⟨o, MinTo.more (by exact ⟨e, he, by assumption⟩) he hx hl⟩
/-- What Oldest answers. -/
def OldU (okb : Bool) (L : List Ep) (E : Ep) (w : World) (e : Ending) (w' : World) : Prop :=
  ∃ (A : Option Addr) (m c : Nat) (l' : List Le) (th tl f la : Int) (su : Bool) (eA : Option Addr) (q ec : Nat) (ls : List Ls), e = .returned (.tuple #[.slice A m c, .agg #[.int .u64 th, .int .u64 tl, .int .i64 f, .int .i64 la, .bool su, .slice eA q ec], .bool okb]) ∧ m = l'.length ∧ RdEps w' w'.heap.size A l' ∧ l'.map Le.ep = L ∧ q = ls.length ∧ RdSps w' w'.heap.size eA ls ∧ (⟨th, tl, f, la, su, ls.map Ls.s⟩ : Ep) = E ∧ Below w.heap.size w w'
theorem nil_sps {w : World} {B : Nat} {A : Option Addr} : RdSps w B A [] := ⟨Rd.nil, fun _ h => by cases h⟩
theorem olds_any (A : Option Addr) (l : List Le) (n c B : Nat) (w : World) (hn : n = l.length) (hy : RdEps w B A l) (hg : ModE l) (hnc : n ≤ c) (hcm : c ≤ maxLen) :
    ∃ (okb : Bool) (L : List Ep) (E : Ep), L.length ≤ n ∧ (E.l = [] ∨ ∃ x ∈ l, E = x.ep) ∧ (∀ e ∈ L, ∃ x ∈ l, e = x.ep) ∧ ∀ W, Below B w W → B ≤ W.heap.size →
      Calls Try.prog 20 #[.slice A n c] W (OldU okb L E W) ∧ Calls Try.prog 21 #[.slice A n c] W (OldU okb L E W) := by
  by_cases h0 : l = []
  · subst h0
    refine ⟨false, [], ⟨0, 0, 0, 0, false, []⟩, by simp, .inl rfl, by simp, fun W hW hB => ⟨(oldest_any A [] n c B W hn (hy.below hW) hB hg).mono ?_, (doldest_any A [] n c B W hn (hy.below hW) hB (by have := hg.1; omega) hnc hcm).mono ?_⟩⟩
    · rintro e w' ⟨hb, ⟨_, rfl⟩ | ⟨_, _, _, _, k, _, _, _, _, _, _, _, _, _, hk, _⟩⟩
      · exact ⟨none, 0, 0, [], 0, 0, 0, 0, false, none, 0, 0, [], rfl, rfl, RdEps.nil, rfl, rfl, nil_sps, rfl, hb⟩
      · simp at hk
    · rintro e w' ⟨hb, ⟨_, rfl⟩ | ⟨_, k, _, _, _, _, _, _, _, _, _, hk, _⟩⟩
      · exact ⟨none, 0, 0, [], 0, 0, 0, 0, false, none, 0, 0, [], rfl, rfl, RdEps.nil, rfl, rfl, nil_sps, rfl, hb⟩
      · simp at hk
  · have hp : 0 < l.length := by
      cases l with
      | nil => exact absurd rfl h0
      | cons _ _ => simp
    obtain ⟨k, hk⟩ := MinTo.exists hp l.length (Nat.le_refl _)
    obtain ⟨x, hx, hx2⟩ := hk
    have hkm : MinTo l l.length k := ⟨x, hx, hx2⟩
    have hkl : k < l.length := by
      rcases Nat.lt_or_ge k l.length with h | h
      · exact h
      · rw [List.getElem?_eq_none h] at hx; cases hx
    refine ⟨true, (l.map Le.ep).eraseIdx k, x.ep, by rw [List.length_eraseIdx_of_lt (by simpa using hkl), List.length_map]; omega, .inr ⟨x, List.mem_of_getElem? hx, rfl⟩, fun e he => ?_, fun W hW hB => ⟨(oldest_any A l n c B W hn (hy.below hW) hB hg).mono ?_, (doldest_any A l n c B W hn (hy.below hW) hB (by have := hg.1; omega) hnc hcm).mono ?_⟩⟩
    · obtain ⟨y, hy, rfl⟩ := List.mem_map.1 (List.mem_of_mem_eraseIdx he)
      exact ⟨y, hy, rfl⟩
    · rintro e w' ⟨hb, ⟨h1, _⟩ | ⟨g, m, c2, l2, k2, q, ec, th, tl, f, la, su, eA, ls, hk2, hq, hm1, _, _, rfl, hown, hxo, hmap, hat, hmin⟩⟩
      · exact absurd h1 h0
      · obtain rfl := hmin.uniq hkm
        obtain ⟨A3, c3, hv3, _, hrd3⟩ := hown.rd
        injection hv3 with hv3 hv4 hv5
        subst hv3
        refine ⟨_, m, c2, l2, th, tl, f, la, su, eA, q, ec, ls, rfl, hv4, hrd3, hmap, hq, OwnE.rd hxo, ?_, hb⟩
        rw [List.getElem?_map, hx] at hat
        injection hat with hat
        exact hat.symm
    · rintro e w' ⟨hb, ⟨h1, _⟩ | ⟨v', k2, q, ec, th, tl, f, la, su, eA, ls, hk2, hq, rfl, hrow, hat, hmin⟩⟩
      · exact absurd h1 h0
      · obtain rfl := hmin.uniq hkm
        have hBw : B ≤ w'.heap.size := Nat.le_trans hB hb.size
        obtain ⟨A3, c3, rfl, _, hrd3⟩ := hrow.rd hBw
        rw [hx] at hat
        injection hat with hat
        refine ⟨A3, _, c3, _, th, tl, f, la, su, eA, q, ec, ls, rfl, rfl, hrd3, ?_, hq, ?_, ?_, hb⟩
        · rw [List.map_append, List.map_take, List.map_drop, List.eraseIdx_eq_take_drop_succ]
        · have h9 := ((hy.below hW).below (hb.mono hB)).each x (List.mem_of_getElem? hx)
          rw [hat] at h9
          exact h9.more hBw
        · rw [hat]
          rfl
/-- What Close answers. -/
def CloseU (L M : List Ep) (w : World) (e : Ending) (w' : World) : Prop :=
  ∃ (A : Option Addr) (m c : Nat) (l' : List Le) (A2 : Option Addr) (m2 c2 : Nat) (l2 : List Le), e = .returned (.tuple #[.slice A m c, .slice A2 m2 c2]) ∧ m = l'.length ∧ RdEps w' w'.heap.size A l' ∧ l'.map Le.ep = L ∧ m2 = l2.length ∧ RdEps w' w'.heap.size A2 l2 ∧ l2.map Le.ep = M ∧ Below w.heap.size w w'
theorem closes_any (A : Option Addr) (l : List Le) (n c B : Nat) (now idle age : Int) (w : World) (hn : n = l.length) (hy : RdEps w B A l) (hg : ModE l) (ho : ∀ e ∈ l, e.ok) (hnow : -9223372036854775808 ≤ now ∧ now ≤ 9223372036854775807) :
    ∃ (L M : List Ep), (∀ e ∈ L, ∃ x ∈ l, e = x.ep) ∧ (∀ e ∈ M, ∃ x ∈ l, e = x.ep) ∧ L.length ≤ n ∧ M.length ≤ n ∧ ∀ W, Below B w W → B ≤ W.heap.size →
      Calls Try.prog 22 #[.slice A n c, .int .i64 now, .int .i64 idle, .int .i64 age] W (CloseU L M W) ∧ Calls Try.prog 23 #[.slice A n c, .int .i64 now, .int .i64 idle, .int .i64 age] W (CloseU L M W) := by
  refine ⟨(l.map Le.ep).filter (fun e => !goneE now idle age e), (l.map Le.ep).filter (goneE now idle age), fun e he => ?_, fun e he => ?_, ?_, ?_, fun W hW hB => ⟨(close_any A l n c B now idle age W hn (hy.below hW) hB hg ho hnow).mono ?_, (dclose_any A l n c B now idle age W hn (hy.below hW) hB (by have := hg.1; omega) ho hnow).mono ?_⟩⟩
  · obtain ⟨y, hy, rfl⟩ := List.mem_map.1 (List.mem_filter.1 he).1
    exact ⟨y, hy, rfl⟩
  · obtain ⟨y, hy, rfl⟩ := List.mem_map.1 (List.mem_filter.1 he).1
    exact ⟨y, hy, rfl⟩
  · have := List.length_filter_le (fun e => !goneE now idle age e) (l.map Le.ep)
    rw [List.length_map] at this
    omega
  · have := List.length_filter_le (goneE now idle age) (l.map Le.ep)
    rw [List.length_map] at this
    omega
  · rintro e w' ⟨u, v, l1, l2, rfl, h1, h2, h3, h4, hb⟩
    obtain ⟨A1, c1, rfl, _, r1⟩ := h1.rd
    obtain ⟨A2, c2, rfl, _, r2⟩ := h2.rd
    exact ⟨A1, _, c1, l1, A2, _, c2, l2, rfl, rfl, r1, h3, rfl, r2, h4, hb⟩
  · rintro e w' ⟨u, v, l1, l2, rfl, h1, h2, h3, h4, hb⟩
    obtain ⟨A1, c1, rfl, _, r1⟩ := h1.rd (Nat.le_trans hB hb.size)
    obtain ⟨A2, c2, rfl, _, r2⟩ := h2.rd (Nat.le_trans hB hb.size)
    exact ⟨A1, _, c1, l1, A2, _, c2, l2, rfl, rfl, r1, h3, rfl, r2, h4, hb⟩
theorem dput_any (A : Option Addr) (l : List Le) (n c : Nat) (x0 x1 x2 x3 : Int) (x4 x5 : ByteArray) (x6 x7 : Int) (x8 : Bool) (ats : List (ByteArray × ByteArray)) (xA : Option Addr) (m xc : Nat) (now : Int) (sure : Bool) (B : Nat) (w : World)
    (hn : n = l.length) (hy : RdEps w B A l) (hB : B ≤ w.heap.size) (hm : m = ats.length) (hx : RdL w B ⟨⟨x0, x1, x2, x3, x4, x5, x6, x7, x8, ats⟩, xA, xc⟩) (hg : ModE l) :
    Calls Try.prog 28 #[.slice A n c, .agg #[.int .u64 x0, .int .u64 x1, .int .u64 x2, .int .u64 x3, .string x4, .string x5, .int .i64 x6, .int .i64 x7, .bool x8, .slice xA m xc], .int .i64 now, .bool sure] w (DPutOf (putE (l.map Le.ep) ⟨x0, x1, x2, x3, x4, x5, x6, x7, x8, ats⟩ now sure) w) := by
  by_cases h : ∃ e ∈ l, e.hi = x0 ∧ e.lo = x1
  · obtain ⟨k, e, he, ht, hno⟩ : ∃ k e, l[k]? = some e ∧ (e.hi = x0 ∧ e.lo = x1) ∧ ∀ x ∈ l.take k, ¬ (x.hi = x0 ∧ x.lo = x1) := by
      clear hn hy hg
      induction l with
      | nil => obtain ⟨e, he, _⟩ := h; cases he
      | cons y r ih =>
        by_cases hy : y.hi = x0 ∧ y.lo = x1
        · exact ⟨0, y, rfl, hy, by simp⟩
        · obtain ⟨e, he, ht⟩ := h
          rcases List.mem_cons.1 he with rfl | he
          · exact absurd ht hy
          · obtain ⟨k, e', h1, h2, h3⟩ := ih ⟨e, he, ht⟩
            refine ⟨k + 1, e', by simpa using h1, h2, fun x hx => ?_⟩
            rw [List.take_succ_cons] at hx
            rcases List.mem_cons.1 hx with rfl | hx
            · exact hy
            · exact h3 x hx
    obtain ⟨th, tl, f, la, su, ls, eA, ec⟩ := e
    obtain ⟨h1, h2⟩ := ht
    simp only at h1 h2
    subst h1 h2
    exact dput_some A l n c th tl x2 x3 x4 x5 x6 x7 x8 ats xA m xc now sure B k f la su eA ec ls w hn hy hB hm hx (by have := hg.1; omega) (hg.2 _ (List.mem_of_getElem? he)).1 he hno
  · exact dput_none A l n c x0 x1 x2 x3 x4 x5 x6 x7 x8 ats xA m xc now sure B w hn hy hB hm hx (by have := hg.1; omega) (fun e he hh => h ⟨e, he, hh⟩)
end Go.Proofs.Ytenioeppmgmdiaa
