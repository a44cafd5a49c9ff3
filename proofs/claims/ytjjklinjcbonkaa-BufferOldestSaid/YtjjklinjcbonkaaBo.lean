/- BufferOldest: the one that is taken out began first, the first of those, and the others stay as they stood. -/
import Derived.Test.YtjjklinjcbonkaaOz
import Derived.Test.YtjjklinjcbonkaaBc
namespace Go.Proofs.Ytjjklinjcbonkaa
open Go.RowKit
set_option linter.unusedVariables false
set_option linter.unusedSimpArgs false
set_option maxRecDepth 100000

theorem RdEps.take {w : World} {B : Nat} {A : Option Addr} {l : List Le} (h : RdEps w B A l) (k : Nat) : RdEps w B A (l.take k) := by
  refine ⟨fun hp => ?_, fun e he => h.each e (List.mem_of_mem_take he)⟩
  rw [← flat_take] at hp
  obtain ⟨a, ha, hb, hc⟩ := h.rd (by rw [List.length_take] at hp; omega)
  refine ⟨a, ha, hb, fun j u hu => hc j u ?_⟩
  rw [← flat_take, List.getElem?_take] at hu
  split at hu
  · exact hu
  · cases hu
theorem RdEps.drop {w : World} {B d o : Nat} {l : List Le} (h : RdEps w B (some ⟨d, o, none⟩) l) (k : Nat) : RdEps w B (some ⟨d, o + k * 6, none⟩) (l.drop k) := by
  refine ⟨fun hp => ?_, fun e he => h.each e (List.mem_of_mem_drop he)⟩
  rw [← flat_drop] at hp
  obtain ⟨a, ha, hb, hc⟩ := h.rd (by rw [List.length_drop] at hp; omega)
  injection ha with ha
  subst ha
  refine ⟨_, rfl, hb, fun j u hu => ?_⟩
  rw [← flat_drop, List.getElem?_drop] at hu
  have := hc _ _ hu
  rw [addr_plain] at this ⊢
  rwa [Nat.add_assoc]
def BoF (d oof n c k g m c2 q ec : Nat) (A2 : Addr) (eA : Option Addr) (th tl f la : Int) (su : Bool) (ls : List Ls) : Nat → Value → World → Prop
  | 0, v, _ => v = .slice (some ⟨d, oof, none⟩) n c
  | 1, v, _ => v = .int .i64 (k : Int)
  | 2, v, _ => v = .int .i64 (k : Int)
  | 3, v, _ => v = .int .i64 ((k + 1 : Nat) : Int)
  | 4, v, _ => v = .slice (some ⟨d, oof + k * 6, none⟩) 1 (c - k)
  | 5, v, _ => v = .agg #[.int .u64 th, .int .u64 tl, .int .i64 f, .int .i64 la, .bool su, .slice eA q ec]
  | 6, v, w => ∃ (a : Addr) (B : Nat), v = .slice (some a) 1 1 ∧ B ≤ w.heap.size ∧ RdEps w B (some a) [⟨th, tl, f, la, su, ls, eA, ec⟩]
  | 7, v, _ => v = .bool true
  | 8, v, _ => v = .bool true
  | 9, v, _ => v = .slice (some ⟨g, 0, none⟩) m c2
  | 10, v, _ => v = .int .i64 (k : Int)
  | 11, v, _ => v = .slice (some ⟨g, 0, none⟩) k c2
  | 12, v, _ => v = .slice (some ⟨d, oof, none⟩) n c
  | 13, v, _ => v = .int .i64 (k : Int)
  | 14, v, _ => v = .slice (some ⟨d, oof, none⟩) k c
  | 15, v, _ => v = .bool true
  | 16, v, _ => v = .bool true
  | 17, v, _ => v = .bool true
  | 18, v, _ => v = .slice (some ⟨g, 0, none⟩) m c2
  | 19, v, _ => v = .int .i64 (k : Int)
  | 20, v, _ => v = .slice (some ⟨g, k * 6, none⟩) (m - k) (c2 - k)
  | 21, v, _ => v = .slice (some ⟨d, oof, none⟩) n c
  | 22, v, _ => v = .int .i64 (k : Int)
  | 23, v, _ => v = .int .i64 ((k + 1 : Nat) : Int)
  | 24, v, _ => v = .slice (some A2) (m - k) (c - (k + 1))
  | 25, v, _ => v = .bool true
  | 26, v, _ => v = .bool true
  | 27, v, _ => v = .bool true
  | _, _, _ => True
theorem BoF.keep {d oof n c k g m c2 q ec : Nat} {A2 : Addr} {eA : Option Addr} {th tl f la : Int} {su : Bool} {ls : List Ls} {w w' : World} {i : Nat} {v : Value} (hb : Below w.heap.size w w') (h : BoF d oof n c k g m c2 q ec A2 eA th tl f la su ls i v w) : BoF d oof n c k g m c2 q ec A2 eA th tl f la su ls i v w' := by
  match i, h with
  | 0, h => exact h
  | 1, h => exact h
  | 2, h => exact h
  | 3, h => exact h
  | 4, h => exact h
  | 5, h => exact h
  | 6, h => obtain ⟨a, B, h1, h2, h3⟩ := h; exact ⟨a, B, h1, Nat.le_trans h2 hb.size, h3.below (hb.mono h2)⟩
  | 7, h => exact h
  | 8, h => exact h
  | 9, h => exact h
  | 10, h => exact h
  | 11, h => exact h
  | 12, h => exact h
  | 13, h => exact h
  | 14, h => exact h
  | 15, h => exact h
  | 16, h => exact h
  | 17, h => exact h
  | 18, h => exact h
  | 19, h => exact h
  | 20, h => exact h
  | 21, h => exact h
  | 22, h => exact h
  | 23, h => exact h
  | 24, h => exact h
  | 25, h => exact h
  | 26, h => exact h
  | 27, h => exact h
  | _ + 28, h => trivial
set_option maxHeartbeats 64000000 in
theorem oldest16 (A : Option Addr) (l : List Le) (n c : Nat) (w : World) (hn : n = l.length) (hy : RdEps w w.heap.size A l) (ho : ∀ e ∈ l, e.ok) (hl : n ≤ maxLen) (hnc : n ≤ c) (hcm : c ≤ maxLen) :
    Calls Try.prog 6 #[.slice A n c] w fun e w' => e = .returned (.bool true) ∧ Below w.heap.size w w' := by
  have HFW : Hid (∀ W, Below w.heap.size w W → Calls Try.prog 8 #[.slice A n c] W (FewEp l W)) := Lib.hid (fun W hW => few15_any A l n c w.heap.size W hn (hy.below hW) ho hW.size hl)
  have HN := Lib.hid hn
  have HY := Lib.hid hy
  have HO := Lib.hid ho
  have HC := Lib.hid (And.intro hnc hcm)
  clear hn hy ho hl hnc hcm
  go_enter Try.func6, Try.ntmps6
  go_wp2_with fail
  refine (alive16_calls _).mono ?_
  rintro e w1 ⟨rfl, hb1⟩
  have HB1 := Lib.hid hb1
  clear hb1
  go_wp2_with fail
  refine (HFW.out w1 HB1.out).mono ?_
  rintro e w2 ⟨fb, rfl, hfb, hb2⟩
  have HB2 := Lib.hid (HB1.out.trans (hb2.mono HB1.out.size))
  have HGO := Lib.hid hfb
  clear hb2 hfb HB1 HFW
  cases fb
  · go_wp2_with fail
    go_ret
    exact ⟨rfl, HB2.out⟩
  have HGD := Lib.hid (HGO.out rfl)
  have hn9 : n ≤ 120 := by have := HGD.out.1; rw [HN.out]; exact this
  have OLD := Lib.hid (oldest_any A l n c w.heap.size w2 HN.out (HY.out.below HB2.out) HB2.out.size HGD.out.mod)
  go_wp2_with fail
  refine OLD.out.mono ?_
  rintro e w3 ⟨hb3, h3⟩
  have HB3 := Lib.hid (HB2.out.trans (hb3.mono HB2.out.size))
  rcases h3 with ⟨h4, rfl⟩ | ⟨g, m, c2, l2, k, q, ec, th, tl, f, la, su, eA, ls, hk, hq, hm1, hmc, hcm, rfl, hown, hx, hmap, hat, hmin⟩
  · subst h4
    have hn0 := HN.out
    simp only [List.length_nil] at hn0
    subst hn0
    have HBW : Hid (Below w.heap.size w (w3.alloc (.cells #[.int .u64 0, .int .u64 0, .int .i64 0, .int .i64 0, .bool false, .slice none 0 0] 28))) := Lib.hid (HB3.out.alloc HB3.out.size _)
    clear hb3 OLD HGO
    go_wp2_with fail
    go_ret
    exact ⟨rfl, HBW.out⟩
  have HQ := Lib.hid hq
  have HMN := Lib.hid hmin
  have HAT := Lib.hid hat
  have HMAP := Lib.hid hmap
  obtain ⟨A3, c3, hv3, _, hrd3⟩ := hown.rd
  injection hv3 with hv3 hv4 hv5
  subst hv3
  clear hv4 hv5
  have HRR := Lib.hid hrd3
  have HXR := Lib.hid (OwnE.rd hx)
  have hkn : k < n := by rw [HN.out]; exact hk
  have hmn : m + 1 = n := by rw [HN.out]; exact hm1
  have HMC := Lib.hid (And.intro hmc hcm)
  have HML : Hid (m = l2.length) := Lib.hid (by
    have h := congrArg List.length HMAP.out
    rw [List.length_eraseIdx_of_lt (by simpa using hk)] at h
    simp only [List.length_map] at h
    omega)
  obtain ⟨y, hy⟩ : ∃ y, l[k]? = some y := ⟨_, List.getElem?_eq_getElem hk⟩
  have HYE : Hid (y.ep = ⟨th, tl, f, la, su, ls.map Ls.s⟩) := Lib.hid (by rw [List.getElem?_map, hy] at hat; injection hat)
  have HYL := Lib.hid hy
  obtain ⟨d, oof, hA, hdB, cy, ry⟩ := eplain (HY.out.below HB3.out) hy
  subst hA
  obtain ⟨w4, hw4⟩ : ∃ w4, w4 = w3.alloc (.cells #[.int .u64 th, .int .u64 tl, .int .i64 f, .int .i64 la, .bool su, .slice eA q ec] 28) := ⟨_, rfl⟩
  have HW4 := Lib.hid hw4
  have HB4 : Hid (Below w3.heap.size w3 w4) := Lib.hid (by rw [HW4.out]; exact (Below.refl _ _).alloc (Nat.le_refl _) _)
  have HZ4 : Hid (w4.heap.size = w3.heap.size + 1) := Lib.hid (by rw [HW4.out]; simp)
  have HT4 : Hid (w4.heap[w3.heap.size]? = some (.cells #[.int .u64 th, .int .u64 tl, .int .i64 f, .int .i64 la, .bool su, .slice eA q ec] 28 (0, 0))) := Lib.hid (by rw [HW4.out]; exact heap_alloc_new w3 _)
  have e1 : IntKind.i64.wrap ((n : Int) - 1) = (m : Int) := by rw [IntKind.wrap_i64] <;> omega
  have d0 : ((n : Int) == 0) = false := by simp; omega
  have d1 : decide ((n : Int) = 0) = false := by simp; omega
  clear hb3 OLD HGO hq hmin hat hmap hown hx hrd3 hk hm1 hmc hcm hy cy ry hw4 hdB
  go_wp2_with fail
  rw [← HW4.out]
  go_loopw [8, 7] (fun a b wr => ∃ j i : Int, a = .int .i64 j ∧ b = .int .i64 i ∧ -1 ≤ j ∧ j < n ∧ Hid (j < (k : Int) → i = (k : Int)) ∧ Hid (Below w4.heap.size w4 wr)) (fun a _ _ => (intOf a + 1).toNat)
  case atStart => exact ⟨(m : Int), -1, rfl, rfl, by omega, by omega, Lib.hid (fun h => by omega), Lib.hid (Below.refl _ _)⟩
  case round =>
    obtain ⟨j, i, rfl, rfl, hj1, hj2, HI, HB⟩ := hrel
    have HTE : Hid (wr.heap[w3.heap.size]? = some (.cells #[.int .u64 th, .int .u64 tl, .int .i64 f, .int .i64 la, .bool su, .slice eA q ec] 28 (0, 0))) := Lib.hid ((HB.out.block _ (by rw [HZ4.out]; omega)).trans HT4.out)
    have HBW := Lib.hid (HB3.out.trans ((HB4.out.trans (HB.out.mono (by rw [HZ4.out]; omega))).mono HB3.out.size))
    by_cases hj : 0 ≤ j
    · obtain ⟨p, rfl⟩ : ∃ p : Nat, j = (p : Int) := ⟨j.toNat, by omega⟩
      have hpn : p < n := by omega
      obtain ⟨z, hz⟩ : ∃ z, l[p]? = some z := ⟨_, List.getElem?_eq_getElem (by rw [← HN.out]; exact hpn)⟩
      obtain ⟨d', oof', hA, hdB, cz, _⟩ := eplain (HY.out.below HBW.out) hz
      injection hA with hA
      injection hA with hA1 hA2
      subst hA1
      subst hA2
      have HMZ : Hid (¬ z.f < f ∧ (p < k → f < z.f) ∧ (p = k → z.f = f)) := Lib.hid (by
        obtain ⟨e, g1, g2, g3⟩ := HMN.out
        rw [HYL.out] at g1
        injection g1 with g1
        subst g1
        have hyf : y.f = f := congrArg Ep.f HYE.out
        refine ⟨?_, fun h => ?_, fun h => ?_⟩
        · have := g2 z (by rw [List.take_length]; exact List.mem_of_getElem? hz)
          omega
        · have := g3 z (List.mem_of_getElem? (show (l.take k)[p]? = some z by rw [List.getElem?_take, if_pos h]; exact hz))
          omega
        · subst h
          rw [HYL.out] at hz
          injection hz with hz
          subst hz
          exact hyf)
      obtain ⟨zh, zl, zf, zla, zsu, zls, zA, zc⟩ := z
      have z2 : wr.cell? ⟨d, oof + p * 6 + 2, none⟩ = some (.int .i64 zf) := cz 2 _ rfl
      have o2 : wr.cell? ⟨w3.heap.size, 2, none⟩ = some (.int .i64 f) := cell_of_row _ _ 2 _ _ (0, 0) HTE.out
      have ad := addr_plain d oof (p * 6)
      simp only at HMZ
      have e2 : decide (zf < f) = false := decide_eq_false HMZ.out.1
      have e3 : IntKind.i64.wrap ((p : Int) - 1) = (p : Int) - 1 := by rw [IntKind.wrap_i64] <;> omega
      clear hz cz hj hj1
      by_cases hq : zf = f
      · subst hq
        clear e2
        go_wp2_with fail
        go_quiet (fail)
        go_wp2_with fail
        go_quiet (fail)
        go_wp2_with fail
        go_roundw
        case rel => exact ⟨(p : Int) - 1, (p : Int), by go_num, rfl, by omega, by omega, Lib.hid (fun h => by have := HMZ.out; omega), Lib.hid (drewNB HB.out _)⟩
        case measure => simp [intOf] <;> omega
      · have e4 : (zf == f) = false := by simp [hq]
        have HQF := Lib.hid hq
        clear hq
        go_wp2_with fail
        go_quiet (fail)
        go_wp2_with fail
        go_quiet (fail)
        go_wp2_with fail
        go_roundw
        case rel => exact ⟨(p : Int) - 1, i, by go_num, rfl, by omega, by omega, Lib.hid (fun h => by
          have h1 := HMZ.out
          have h2 : p ≠ k := fun h => HQF.out (h1.2.2 h)
          exact HI.out (by omega)), Lib.hid (drewNB HB.out _)⟩
        case measure => simp [intOf] <;> omega
    · obtain rfl : j = -1 := by omega
      obtain rfl : i = (k : Int) := HI.out (by omega)
      clear hj hj1 hj2
      obtain ⟨W, hW⟩ : ∃ W, W = wr.drew := ⟨_, rfl⟩
      have hWr : Below wr.heap.size wr W := by rw [hW]; exact drewB wr
      have HBD := Lib.hid (HBW.out.trans (hWr.mono (Nat.le_trans HB3.out.size (Nat.le_trans HB4.out.size HB.out.size))))
      have hWs : w3.heap.size < W.heap.size := by have := HB.out.size; have := hWr.size; have := HZ4.out; omega
      have hWb : w3.heap.size ≤ W.heap.size := Nat.le_of_lt hWs
      have HTW : Hid (W.heap[w3.heap.size]? = some (.cells #[.int .u64 th, .int .u64 tl, .int .i64 f, .int .i64 la, .bool su, .slice eA q ec] 28 (0, 0))) := Lib.hid (by rw [hW]; exact HTE.out)
      clear HTE
      have HTE := HTW
      have h3W : Below w3.heap.size w3 W := HB4.out.trans ((HB.out.trans (hWr.mono HB.out.size)).mono HB4.out.size)
      have HLW : Hid (RdEps W w.heap.size (some ⟨d, oof, none⟩) l) := Lib.hid (HY.out.below HBD.out)
      have HRW : Hid (RdEps W w3.heap.size (some ⟨g, 0, none⟩) l2) := Lib.hid (HRR.out.below h3W)
      have HXW : Hid (RdSps W w3.heap.size eA ls) := Lib.hid (HXR.out.below h3W)
      clear HXR
      have HXR := HXW
      have hwW : w.heap.size ≤ W.heap.size := Nat.le_trans HB3.out.size hWb
      obtain ⟨A2, hA, hA2⟩ : ∃ A2 : Addr, (if c = k + 1 then some (⟨d, oof, none⟩ : Addr) else some ⟨d, oof + (k + 1) * 6, none⟩) = some A2 ∧ Hid (∀ W3, Below W.heap.size W W3 → RdEps W3 w.heap.size (some A2) (l.drop (k + 1))) := by
        by_cases h : c = k + 1
        · refine ⟨⟨d, oof, none⟩, by simp [h], fun W3 h3 => ?_⟩
          have h0 : l.drop (k + 1) = [] := List.drop_of_length_le (by have := HC.out.1; have := HN.out; omega)
          rw [h0]
          exact RdEps.nil
        · refine ⟨⟨d, oof + (k + 1) * 6, none⟩, by simp [h], fun W3 h3 => (HLW.out.below (h3.mono hwW)).drop (k + 1)⟩
      have hsz : ∀ e ∈ l, e.l.length ≤ 1000000 := fun e he => by have := fewAll_len (HGD.out.2 e he); omega
      have hsz2 : ∀ e ∈ l2, e.l.length ≤ 1000000 := fun e he => by
        have h1 : e.ep ∈ (l.map Le.ep).eraseIdx k := by rw [← HMAP.out]; exact List.mem_map_of_mem he
        obtain ⟨x, hx, hxe⟩ := List.mem_map.1 (List.mem_of_mem_eraseIdx h1)
        have h2 := congrArg (fun z : Ep => z.l.length) hxe
        simp only [Le.ep, List.length_map] at h2
        have := hsz x hx
        omega
      have HS1 : Hid (∀ W3 (a : Addr) (B : Nat), Below W.heap.size W W3 → B ≤ W3.heap.size → RdEps W3 B (some a) [⟨th, tl, f, la, su, ls, eA, ec⟩] → Calls Try.prog 12 #[.slice (some ⟨d, oof + k * 6, none⟩) 1 (c - k), .slice (some a) 1 1] W3 fun e w' => e = .returned (.bool true) ∧ Below W3.heap.size W3 w') := Lib.hid (fun W3 a B h3 hB hr => by
        have k1 : RdEps W3 (max B w.heap.size) (some ⟨d, oof + k * 6, none⟩) [y] := by
          have h := ((HLW.out.below (h3.mono hwW)).drop k).take 1
          have he : (l.drop k).take 1 = [y] := by
            rw [List.take_one, List.head?_drop, HYL.out]; rfl
          rw [he] at h
          exact h.more (Nat.le_max_right _ _)
        exact sameeps_eq _ _ [y] [⟨th, tl, f, la, su, ls, eA, ec⟩] 1 (c - k) 1 (max B w.heap.size) W3 rfl k1 (hr.more (Nat.le_max_left _ _)) (by simp [HYE.out]; rfl) (Nat.max_le.2 ⟨hB, Nat.le_trans hwW h3.size⟩) (by omega) (fun e he => by rw [List.mem_singleton] at he; subst he; exact hsz _ (List.mem_of_getElem? HYL.out)))
      have HS2 : Hid (∀ W3, Below W.heap.size W W3 → Calls Try.prog 12 #[.slice (some ⟨g, 0, none⟩) k c2, .slice (some ⟨d, oof, none⟩) k c] W3 fun e w' => e = .returned (.bool true) ∧ Below W3.heap.size W3 w') := Lib.hid (fun W3 h3 =>
        sameeps_eq _ _ (l2.take k) (l.take k) k c2 c w3.heap.size W3 (by rw [List.length_take, ← HML.out]; omega) ((HRW.out.below (h3.mono hWb)).take k) (((HLW.out.below (h3.mono hwW)).take k).more HB3.out.size) (by
          rw [List.map_take, HMAP.out, List.map_take, List.eraseIdx_eq_take_drop_succ, List.take_append_of_le_length (by rw [List.length_take, List.length_map, ← HN.out]; omega), List.take_take, Nat.min_self]) (Nat.le_trans hWb h3.size) (by omega) (fun e he => hsz2 e (List.mem_of_mem_take he)))
      have HS3 : Hid (∀ W3, Below W.heap.size W W3 → Calls Try.prog 12 #[.slice (some ⟨g, k * 6, none⟩) (m - k) (c2 - k), .slice (some A2) (m - k) (c - (k + 1))] W3 fun e w' => e = .returned (.bool true) ∧ Below W3.heap.size W3 w') := Lib.hid (fun W3 h3 => by
        have k1 := (HRW.out.below (h3.mono hWb)).drop k
        rw [Nat.zero_add] at k1
        refine sameeps_eq _ _ (l2.drop k) (l.drop (k + 1)) (m - k) (c2 - k) (c - (k + 1)) w3.heap.size W3 (by rw [List.length_drop, ← HML.out]) k1 ((hA2.out W3 h3).more HB3.out.size) ?_ (Nat.le_trans hWb h3.size) (by omega) (fun e he => hsz2 e (List.mem_of_mem_drop he))
        rw [List.map_drop, HMAP.out, List.map_drop, List.eraseIdx_eq_take_drop_succ, List.drop_append_of_le_length (by rw [List.length_take, List.length_map, ← HN.out]; omega), List.drop_of_length_le (by rw [List.length_take, List.length_map, ← HN.out]; omega), List.nil_append])
      have hcc := HC.out
      have hmc := HMC.out
      simp only [maxLen] at hcc hmc
      have ek : IntKind.i64.wrap ((k : Int) + 1) = ((k + 1 : Nat) : Int) := by rw [IntKind.wrap_i64] <;> omega
      have ek2 : ((k + 1 : Nat) : Int) = (k : Int) + 1 := by omega
      have r1 : (0 : Int) ≤ (k : Int) := by omega
      have r2 : (k : Int) ≤ (k : Int) + 1 := by omega
      have r3 : (k : Int) + 1 ≤ (c : Int) := by omega
      have r4 : (c = k) = False := by simp; omega
      have r5 : ((k : Int) + 1).toNat = k + 1 := by omega
      have r6 : k + 1 ≤ c := by omega
      have r7 : k + 1 - k = 1 := by omega
      have r8 : (⟨d, oof, none⟩ : Addr).add (k * 6) = ⟨d, oof + k * 6, none⟩ := addr_plain d oof (k * 6)
      have r9 : (0 : Int) ≤ (k : Int) + 1 := by omega
      have r10 : (k : Int) ≤ (c : Int) := by omega
      have r11 : k ≤ c := by omega
      have r12 : (c = 0) = False := by simp; omega
      have r13 : (k : Int) + 1 ≤ (n : Int) := by omega
      have r14 : k + 1 ≤ n := by omega
      have r15 : n - (k + 1) = m - k := by omega
      have r16 : (⟨d, oof, none⟩ : Addr).add ((k + 1) * 6) = ⟨d, oof + (k + 1) * 6, none⟩ := addr_plain d oof ((k + 1) * 6)
      have r17 : (n : Int) ≤ (c : Int) := by omega
      have s1 : (k : Int) ≤ (c2 : Int) := by omega
      have s2 : k ≤ c2 := by omega
      have s3 : (c2 = 0) = False := by simp; omega
      have s4 : (k : Int) ≤ (m : Int) := by omega
      have s5 : k ≤ m := by omega
      have s6 : (c2 = k) = False := by simp; omega
      have s8 : (⟨g, 0, none⟩ : Addr).add (k * 6) = ⟨g, k * 6, none⟩ := by rw [addr_plain, Nat.zero_add]
      have hS1 := HS1.out
      have hS2 := HS2.out
      have hS3 := HS3.out
      have e5 : decide ((k : Int) < 0) = false := decide_eq_false (by omega)
      clear hcc hmc hsz hsz2 h3W hWr HI
      go_wp2_with fail
      refine PI.wp_region_persG (R := (fun w w' => Below w.heap.size w w')) (G := fun _ _ => True) (I := fun _ _ _ => True) [(3, 2), (4, 0), (4, 1), (4, 3), (6, 5), (7, 4), (7, 6), (8, 7), (9, 8), (10, 8), (11, 8), (11, 9), (11, 10), (12, 8), (13, 8), (14, 8), (14, 12), (14, 13), (15, 8), (15, 11), (15, 14), (16, 8), (16, 15), (17, 16), (18, 17), (19, 17), (20, 17), (20, 18), (20, 19), (21, 17), (22, 17), (23, 17), (23, 22), (24, 17), (24, 21), (24, 23), (25, 17), (25, 20), (25, 24), (26, 17), (26, 25), (27, 26)] [27] (by kernel_rfl) (PI.formed_of (by kernel_rfl)) ⟨fun w => Below.refl _ w, fun _ _ _ h k => h.trans (k.mono h.size)⟩ (fun _ => trivial) (BoF d oof n c k g m c2 q ec A2 eA th tl f la su ls) trivial ?_ ?_
      · rw [← hW]
        intro i o ho
        rcases i with _ | _ | _ | _ | _ | _ | _ | _ | _ | _ | _ | _ | _ | _ | _ | _ | _ | _ | _ | _ | _ | _ | _ | _ | _ | _ | _ | _ | i
        · obtain rfl := Option.some.inj (show some _ = some o from ho)
          refine PI.shown_val rfl fun a w5 L0 hr T => ?_
          have h1 : a.eval (.tmp 0) = .slice (some ⟨d, oof, none⟩) n c := T.was 0 (by kernel_rfl)
          exact ⟨.slice (some ⟨d, oof, none⟩) n c, w5, by simp only [execOp, h1]; simp [go_sem], PI.Post.pure ⟨fun w => Below.refl _ w, fun _ _ _ h k => h.trans (k.mono h.size)⟩ rfl trivial⟩
        · obtain rfl := Option.some.inj (show some _ = some o from ho)
          refine PI.shown_val rfl fun a w5 L0 hr T => ?_
          have h1 : a.eval (.tmp 7) = .int .i64 (k : Int) := T.was 7 (by kernel_rfl)
          exact ⟨.int .i64 (k : Int), w5, by simp only [execOp, h1]; simp [go_sem], PI.Post.pure ⟨fun w => Below.refl _ w, fun _ _ _ h k => h.trans (k.mono h.size)⟩ rfl trivial⟩
        · obtain rfl := Option.some.inj (show some _ = some o from ho)
          refine PI.shown_val rfl fun a w5 L0 hr T => ?_
          have h1 : a.eval (.tmp 7) = .int .i64 (k : Int) := T.was 7 (by kernel_rfl)
          exact ⟨.int .i64 (k : Int), w5, by simp only [execOp, h1]; simp [go_sem], PI.Post.pure ⟨fun w => Below.refl _ w, fun _ _ _ h k => h.trans (k.mono h.size)⟩ rfl trivial⟩
        · obtain rfl := Option.some.inj (show some _ = some o from ho)
          refine PI.shown_val rfl fun a w5 L0 hr T => ?_
          have h1 : a.eval (.tmp 74) = .int .i64 (k : Int) := T.at_ 2 74 (by kernel_rfl) (by kernel_rfl) (by kernel_rfl)
          exact ⟨.int .i64 ((k + 1 : Nat) : Int), w5, by simp only [execOp, h1]; simp [go_sem, ek, ek2], PI.Post.pure ⟨fun w => Below.refl _ w, fun _ _ _ h k => h.trans (k.mono h.size)⟩ rfl trivial⟩
        · obtain rfl := Option.some.inj (show some _ = some o from ho)
          refine PI.shown_val rfl fun a w5 L0 hr T => ?_
          have h0 : a.eval (.tmp 72) = .slice (some ⟨d, oof, none⟩) n c := T.at_ 0 72 (by kernel_rfl) (by kernel_rfl) (by kernel_rfl)
          have h1 : a.eval (.tmp 73) = .int .i64 (k : Int) := T.at_ 1 73 (by kernel_rfl) (by kernel_rfl) (by kernel_rfl)
          have h3 : a.eval (.tmp 75) = .int .i64 ((k + 1 : Nat) : Int) := T.at_ 3 75 (by kernel_rfl) (by kernel_rfl) (by kernel_rfl)
          have q1 : a.tmps[73]?.getD undef = .int .i64 (k : Int) := by have := h1; simpa [Act.eval] using this
          have q3 : a.tmps[75]?.getD undef = .int .i64 ((k + 1 : Nat) : Int) := by have := h3; simpa [Act.eval] using this
          exact ⟨.slice (some ⟨d, oof + k * 6, none⟩) 1 (c - k), w5, by simp only [execOp, h0, h1, h3]; simp [go_sem, q1, q3, r1, r2, r3, r4, r5, r6, r7, r8, r9, ek2], PI.Post.pure ⟨fun w => Below.refl _ w, fun _ _ _ h k => h.trans (k.mono h.size)⟩ rfl trivial⟩
        · obtain rfl := Option.some.inj (show some _ = some o from ho)
          refine PI.shown_val rfl fun a w5 L0 hr T => ?_
          have h1 : a.eval (.tmp 5) = .pointer (some ⟨w3.heap.size, 0, none⟩) := T.was 5 (by kernel_rfl)
          have hO : w5.heap[w3.heap.size]? = some (.cells #[.int .u64 th, .int .u64 tl, .int .i64 f, .int .i64 la, .bool su, .slice eA q ec] 28 (0, 0)) := (hr.block _ hWs).trans HTE.out
          have v0 : w5.cell? ⟨w3.heap.size, 0, none⟩ = some (.int .u64 th) := cell_of_row _ _ 0 _ _ (0, 0) hO
          have v1 : w5.cell? ⟨w3.heap.size, 1, none⟩ = some (.int .u64 tl) := cell_of_row _ _ 1 _ _ (0, 0) hO
          have v2 : w5.cell? ⟨w3.heap.size, 2, none⟩ = some (.int .i64 f) := cell_of_row _ _ 2 _ _ (0, 0) hO
          have v3 : w5.cell? ⟨w3.heap.size, 3, none⟩ = some (.int .i64 la) := cell_of_row _ _ 3 _ _ (0, 0) hO
          have v4 : w5.cell? ⟨w3.heap.size, 4, none⟩ = some (.bool su) := cell_of_row _ _ 4 _ _ (0, 0) hO
          have v5 : w5.cell? ⟨w3.heap.size, 5, none⟩ = some (.slice eA q ec) := cell_of_row _ _ 5 _ _ (0, 0) hO
          exact ⟨.agg #[.int .u64 th, .int .u64 tl, .int .i64 f, .int .i64 la, .bool su, .slice eA q ec], w5, by simp only [execOp, h1]; simp [go_sem, v0, v1, v2, v3, v4, v5], PI.Post.pure ⟨fun w => Below.refl _ w, fun _ _ _ h k => h.trans (k.mono h.size)⟩ rfl trivial⟩
        · obtain rfl := Option.some.inj (show some _ = some o from ho)
          refine PI.shown_val rfl fun a w5 L0 hr T => ?_
          have h1 : a.eval (.tmp 77) = .agg #[.int .u64 th, .int .u64 tl, .int .i64 f, .int .i64 la, .bool su, .slice eA q ec] := T.at_ 5 77 (by kernel_rfl) (by kernel_rfl) (by kernel_rfl)
          have hb6 : Below w5.heap.size w5 (w5.alloc (.cells #[.int .u64 th, .int .u64 tl, .int .i64 f, .int .i64 la, .bool su, .slice eA q ec] 28)) := (Below.refl _ _).alloc (Nat.le_refl _) _
          refine ⟨.slice (some ⟨w5.heap.size, 0, none⟩) 1 1, w5.alloc (.cells #[.int .u64 th, .int .u64 tl, .int .i64 f, .int .i64 la, .bool su, .slice eA q ec] 28), by simp only [execOp, List.map_toArray, List.map_cons, List.map_nil, h1]; simp [go_sem], hb6, ⟨⟨w5.heap.size, 0, none⟩, w5.heap.size + 1, rfl, by simp, ?_, fun e he => ?_⟩, fun _ _ h => h, fun j v _ _ _ _ h => h.keep hb6, trivial⟩
          · have := Rd.lit w5 #[.int .u64 th, .int .u64 tl, .int .i64 f, .int .i64 la, .bool su, .slice eA q ec] 28
            rw [HQ.out] at this ⊢
            simpa [Le.cells] using this
          · rw [List.mem_singleton] at he
            subst he
            exact (((HXR.out.below (hr.mono hWb)).below (hb6.mono (Nat.le_trans hWb hr.size)))).more (Nat.le_trans hWb (Nat.le_trans hr.size (Nat.le_succ _)))
        · obtain rfl := Option.some.inj (show some _ = some o from ho)
          refine PI.shown_call rfl 12 fun a w5 L0 hr T => ?_
          have h1 : a.eval (.tmp 76) = .slice (some ⟨d, oof + k * 6, none⟩) 1 (c - k) := T.at_ 4 76 (by kernel_rfl) (by kernel_rfl) (by kernel_rfl)
          obtain ⟨aS, B6, h2, h3, h4⟩ : ∃ (aS : Addr) (B : Nat), a.eval (.tmp 78) = .slice (some aS) 1 1 ∧ B ≤ w5.heap.size ∧ RdEps w5 B (some aS) [⟨th, tl, f, la, su, ls, eA, ec⟩] := T.at_ 6 78 (by kernel_rfl) (by kernel_rfl) (by kernel_rfl)
          refine ⟨#[.slice (some ⟨d, oof + k * 6, none⟩) 1 (c - k), .slice (some aS) 1 1], by simp only [execOp, resolve, List.map_toArray, List.map_cons, List.map_nil, h1, h2]; simp [go_sem, Act.eval], ?_⟩
          refine (hS1 w5 aS B6 hr h3 h4).mono fun e w6 hh => ?_
          obtain ⟨rfl, hb6⟩ := hh
          exact ⟨_, rfl, hb6, rfl, fun _ _ h => h, fun j v _ _ _ _ h => h.keep hb6, trivial⟩
        · obtain rfl := Option.some.inj (show some _ = some o from ho)
          refine PI.shown_val rfl fun a w5 L0 hr T => ?_
          have h1 : a.eval (.tmp 79) = .bool true := T.at_ 7 79 (by kernel_rfl) (by kernel_rfl) (by kernel_rfl)
          exact ⟨.bool true, w5, by simp only [execOp, h1]; simp [go_sem], PI.Post.pure ⟨fun w => Below.refl _ w, fun _ _ _ h k => h.trans (k.mono h.size)⟩ rfl trivial⟩
        · obtain rfl := Option.some.inj (show some _ = some o from ho)
          refine PI.shown_val_if 8 80 true rfl (by kernel_rfl) (by kernel_rfl) (by kernel_rfl) (fun v w h => h) fun a w5 L0 hr T => ?_
          have h1 : a.eval (.tmp 4) = .slice (some ⟨g, 0, none⟩) m c2 := T.was 4 (by kernel_rfl)
          exact ⟨.slice (some ⟨g, 0, none⟩) m c2, w5, by simp only [execOp, h1]; simp [go_sem], PI.Post.pure ⟨fun w => Below.refl _ w, fun _ _ _ h k => h.trans (k.mono h.size)⟩ rfl trivial⟩
        · obtain rfl := Option.some.inj (show some _ = some o from ho)
          refine PI.shown_val_if 8 80 true rfl (by kernel_rfl) (by kernel_rfl) (by kernel_rfl) (fun v w h => h) fun a w5 L0 hr T => ?_
          have h1 : a.eval (.tmp 7) = .int .i64 (k : Int) := T.was 7 (by kernel_rfl)
          exact ⟨.int .i64 (k : Int), w5, by simp only [execOp, h1]; simp [go_sem], PI.Post.pure ⟨fun w => Below.refl _ w, fun _ _ _ h k => h.trans (k.mono h.size)⟩ rfl trivial⟩
        · obtain rfl := Option.some.inj (show some _ = some o from ho)
          refine PI.shown_val_if 8 80 true rfl (by kernel_rfl) (by kernel_rfl) (by kernel_rfl) (fun v w h => h) fun a w5 L0 hr T => ?_
          have h9 : a.eval (.tmp 81) = .slice (some ⟨g, 0, none⟩) m c2 := T.at_ 9 81 (by kernel_rfl) (by kernel_rfl) (by kernel_rfl)
          have h10 : a.eval (.tmp 82) = .int .i64 (k : Int) := T.at_ 10 82 (by kernel_rfl) (by kernel_rfl) (by kernel_rfl)
          have q10 : a.tmps[82]?.getD undef = .int .i64 (k : Int) := by have := h10; simpa [Act.eval] using this
          exact ⟨.slice (some ⟨g, 0, none⟩) k c2, w5, by simp only [execOp, h9, h10]; simp [go_sem, q10, r1, s1, s2, s3], PI.Post.pure ⟨fun w => Below.refl _ w, fun _ _ _ h k => h.trans (k.mono h.size)⟩ rfl trivial⟩
        · obtain rfl := Option.some.inj (show some _ = some o from ho)
          refine PI.shown_val_if 8 80 true rfl (by kernel_rfl) (by kernel_rfl) (by kernel_rfl) (fun v w h => h) fun a w5 L0 hr T => ?_
          have h1 : a.eval (.tmp 0) = .slice (some ⟨d, oof, none⟩) n c := T.was 0 (by kernel_rfl)
          exact ⟨.slice (some ⟨d, oof, none⟩) n c, w5, by simp only [execOp, h1]; simp [go_sem], PI.Post.pure ⟨fun w => Below.refl _ w, fun _ _ _ h k => h.trans (k.mono h.size)⟩ rfl trivial⟩
        · obtain rfl := Option.some.inj (show some _ = some o from ho)
          refine PI.shown_val_if 8 80 true rfl (by kernel_rfl) (by kernel_rfl) (by kernel_rfl) (fun v w h => h) fun a w5 L0 hr T => ?_
          have h1 : a.eval (.tmp 7) = .int .i64 (k : Int) := T.was 7 (by kernel_rfl)
          exact ⟨.int .i64 (k : Int), w5, by simp only [execOp, h1]; simp [go_sem], PI.Post.pure ⟨fun w => Below.refl _ w, fun _ _ _ h k => h.trans (k.mono h.size)⟩ rfl trivial⟩
        · obtain rfl := Option.some.inj (show some _ = some o from ho)
          refine PI.shown_val_if 8 80 true rfl (by kernel_rfl) (by kernel_rfl) (by kernel_rfl) (fun v w h => h) fun a w5 L0 hr T => ?_
          have h12 : a.eval (.tmp 84) = .slice (some ⟨d, oof, none⟩) n c := T.at_ 12 84 (by kernel_rfl) (by kernel_rfl) (by kernel_rfl)
          have h13 : a.eval (.tmp 85) = .int .i64 (k : Int) := T.at_ 13 85 (by kernel_rfl) (by kernel_rfl) (by kernel_rfl)
          have q13 : a.tmps[85]?.getD undef = .int .i64 (k : Int) := by have := h13; simpa [Act.eval] using this
          exact ⟨.slice (some ⟨d, oof, none⟩) k c, w5, by simp only [execOp, h12, h13]; simp [go_sem, q13, r1, r10, r11, r12], PI.Post.pure ⟨fun w => Below.refl _ w, fun _ _ _ h k => h.trans (k.mono h.size)⟩ rfl trivial⟩
        · obtain rfl := Option.some.inj (show some _ = some o from ho)
          refine PI.shown_call_if 8 80 true rfl (by kernel_rfl) (by kernel_rfl) (by kernel_rfl) (fun v w h => h) 12 fun a w5 L0 hr T => ?_
          have h1 : a.eval (.tmp 83) = .slice (some ⟨g, 0, none⟩) k c2 := T.at_ 11 83 (by kernel_rfl) (by kernel_rfl) (by kernel_rfl)
          have h2 : a.eval (.tmp 86) = .slice (some ⟨d, oof, none⟩) k c := T.at_ 14 86 (by kernel_rfl) (by kernel_rfl) (by kernel_rfl)
          refine ⟨#[.slice (some ⟨g, 0, none⟩) k c2, .slice (some ⟨d, oof, none⟩) k c], by simp only [execOp, resolve, List.map_toArray, List.map_cons, List.map_nil, h1, h2]; simp [go_sem, Act.eval], ?_⟩
          refine (hS2 w5 hr).mono fun e w6 hh => ?_
          obtain ⟨rfl, hb6⟩ := hh
          exact ⟨_, rfl, hb6, rfl, fun _ _ h => h, fun j v _ _ _ _ h => h.keep hb6, trivial⟩
        · obtain rfl := Option.some.inj (show some _ = some o from ho)
          refine PI.shown_val rfl fun a w5 L0 hr T => ?_
          have h1 : a.eval (.tmp 80) = .bool true := T.at_ 8 80 (by kernel_rfl) (by kernel_rfl) (by kernel_rfl)
          have h2 : a.eval (.tmp 87) = .bool true := T.at_ 15 87 (by kernel_rfl) (by kernel_rfl) (by kernel_rfl)
          exact ⟨.bool true, w5, by simp only [execOp, h1, h2]; simp [go_sem, Act.eval], PI.Post.pure ⟨fun w => Below.refl _ w, fun _ _ _ h k => h.trans (k.mono h.size)⟩ rfl trivial⟩
        · obtain rfl := Option.some.inj (show some _ = some o from ho)
          refine PI.shown_val rfl fun a w5 L0 hr T => ?_
          have h1 : a.eval (.tmp 88) = .bool true := T.at_ 16 88 (by kernel_rfl) (by kernel_rfl) (by kernel_rfl)
          exact ⟨.bool true, w5, by simp only [execOp, h1]; simp [go_sem], PI.Post.pure ⟨fun w => Below.refl _ w, fun _ _ _ h k => h.trans (k.mono h.size)⟩ rfl trivial⟩
        · obtain rfl := Option.some.inj (show some _ = some o from ho)
          refine PI.shown_val_if 17 89 true rfl (by kernel_rfl) (by kernel_rfl) (by kernel_rfl) (fun v w h => h) fun a w5 L0 hr T => ?_
          have h1 : a.eval (.tmp 4) = .slice (some ⟨g, 0, none⟩) m c2 := T.was 4 (by kernel_rfl)
          exact ⟨.slice (some ⟨g, 0, none⟩) m c2, w5, by simp only [execOp, h1]; simp [go_sem], PI.Post.pure ⟨fun w => Below.refl _ w, fun _ _ _ h k => h.trans (k.mono h.size)⟩ rfl trivial⟩
        · obtain rfl := Option.some.inj (show some _ = some o from ho)
          refine PI.shown_val_if 17 89 true rfl (by kernel_rfl) (by kernel_rfl) (by kernel_rfl) (fun v w h => h) fun a w5 L0 hr T => ?_
          have h1 : a.eval (.tmp 7) = .int .i64 (k : Int) := T.was 7 (by kernel_rfl)
          exact ⟨.int .i64 (k : Int), w5, by simp only [execOp, h1]; simp [go_sem], PI.Post.pure ⟨fun w => Below.refl _ w, fun _ _ _ h k => h.trans (k.mono h.size)⟩ rfl trivial⟩
        · obtain rfl := Option.some.inj (show some _ = some o from ho)
          refine PI.shown_val_if 17 89 true rfl (by kernel_rfl) (by kernel_rfl) (by kernel_rfl) (fun v w h => h) fun a w5 L0 hr T => ?_
          have h18 : a.eval (.tmp 90) = .slice (some ⟨g, 0, none⟩) m c2 := T.at_ 18 90 (by kernel_rfl) (by kernel_rfl) (by kernel_rfl)
          have h19 : a.eval (.tmp 91) = .int .i64 (k : Int) := T.at_ 19 91 (by kernel_rfl) (by kernel_rfl) (by kernel_rfl)
          have q19 : a.tmps[91]?.getD undef = .int .i64 (k : Int) := by have := h19; simpa [Act.eval] using this
          exact ⟨.slice (some ⟨g, k * 6, none⟩) (m - k) (c2 - k), w5, by simp only [execOp, h18, h19]; simp [go_sem, q19, r1, s1, s4, s5, s6, s8, s2, s3], PI.Post.pure ⟨fun w => Below.refl _ w, fun _ _ _ h k => h.trans (k.mono h.size)⟩ rfl trivial⟩
        · obtain rfl := Option.some.inj (show some _ = some o from ho)
          refine PI.shown_val_if 17 89 true rfl (by kernel_rfl) (by kernel_rfl) (by kernel_rfl) (fun v w h => h) fun a w5 L0 hr T => ?_
          have h1 : a.eval (.tmp 0) = .slice (some ⟨d, oof, none⟩) n c := T.was 0 (by kernel_rfl)
          exact ⟨.slice (some ⟨d, oof, none⟩) n c, w5, by simp only [execOp, h1]; simp [go_sem], PI.Post.pure ⟨fun w => Below.refl _ w, fun _ _ _ h k => h.trans (k.mono h.size)⟩ rfl trivial⟩
        · obtain rfl := Option.some.inj (show some _ = some o from ho)
          refine PI.shown_val_if 17 89 true rfl (by kernel_rfl) (by kernel_rfl) (by kernel_rfl) (fun v w h => h) fun a w5 L0 hr T => ?_
          have h1 : a.eval (.tmp 7) = .int .i64 (k : Int) := T.was 7 (by kernel_rfl)
          exact ⟨.int .i64 (k : Int), w5, by simp only [execOp, h1]; simp [go_sem], PI.Post.pure ⟨fun w => Below.refl _ w, fun _ _ _ h k => h.trans (k.mono h.size)⟩ rfl trivial⟩
        · obtain rfl := Option.some.inj (show some _ = some o from ho)
          refine PI.shown_val_if 17 89 true rfl (by kernel_rfl) (by kernel_rfl) (by kernel_rfl) (fun v w h => h) fun a w5 L0 hr T => ?_
          have h1 : a.eval (.tmp 94) = .int .i64 (k : Int) := T.at_ 22 94 (by kernel_rfl) (by kernel_rfl) (by kernel_rfl)
          exact ⟨.int .i64 ((k + 1 : Nat) : Int), w5, by simp only [execOp, h1]; simp [go_sem, ek, ek2], PI.Post.pure ⟨fun w => Below.refl _ w, fun _ _ _ h k => h.trans (k.mono h.size)⟩ rfl trivial⟩
        · obtain rfl := Option.some.inj (show some _ = some o from ho)
          refine PI.shown_val_if 17 89 true rfl (by kernel_rfl) (by kernel_rfl) (by kernel_rfl) (fun v w h => h) fun a w5 L0 hr T => ?_
          have h21 : a.eval (.tmp 93) = .slice (some ⟨d, oof, none⟩) n c := T.at_ 21 93 (by kernel_rfl) (by kernel_rfl) (by kernel_rfl)
          have h23 : a.eval (.tmp 95) = .int .i64 ((k + 1 : Nat) : Int) := T.at_ 23 95 (by kernel_rfl) (by kernel_rfl) (by kernel_rfl)
          have q23 : a.tmps[95]?.getD undef = .int .i64 ((k + 1 : Nat) : Int) := by have := h23; simpa [Act.eval] using this
          exact ⟨.slice (some A2) (m - k) (c - (k + 1)), w5, by simp only [execOp, h21, h23]; simp [go_sem, q23, r1, r9, r5, r13, r14, r15, r16, hA, ek2, r6, r17], PI.Post.pure ⟨fun w => Below.refl _ w, fun _ _ _ h k => h.trans (k.mono h.size)⟩ rfl trivial⟩
        · obtain rfl := Option.some.inj (show some _ = some o from ho)
          refine PI.shown_call_if 17 89 true rfl (by kernel_rfl) (by kernel_rfl) (by kernel_rfl) (fun v w h => h) 12 fun a w5 L0 hr T => ?_
          have h1 : a.eval (.tmp 92) = .slice (some ⟨g, k * 6, none⟩) (m - k) (c2 - k) := T.at_ 20 92 (by kernel_rfl) (by kernel_rfl) (by kernel_rfl)
          have h2 : a.eval (.tmp 96) = .slice (some A2) (m - k) (c - (k + 1)) := T.at_ 24 96 (by kernel_rfl) (by kernel_rfl) (by kernel_rfl)
          refine ⟨#[.slice (some ⟨g, k * 6, none⟩) (m - k) (c2 - k), .slice (some A2) (m - k) (c - (k + 1))], by simp only [execOp, resolve, List.map_toArray, List.map_cons, List.map_nil, h1, h2]; simp [go_sem, Act.eval], ?_⟩
          refine (hS3 w5 hr).mono fun e w6 hh => ?_
          obtain ⟨rfl, hb6⟩ := hh
          exact ⟨_, rfl, hb6, rfl, fun _ _ h => h, fun j v _ _ _ _ h => h.keep hb6, trivial⟩
        · obtain rfl := Option.some.inj (show some _ = some o from ho)
          refine PI.shown_val rfl fun a w5 L0 hr T => ?_
          have h1 : a.eval (.tmp 89) = .bool true := T.at_ 17 89 (by kernel_rfl) (by kernel_rfl) (by kernel_rfl)
          have h2 : a.eval (.tmp 97) = .bool true := T.at_ 25 97 (by kernel_rfl) (by kernel_rfl) (by kernel_rfl)
          exact ⟨.bool true, w5, by simp only [execOp, h1, h2]; simp [go_sem, Act.eval], PI.Post.pure ⟨fun w => Below.refl _ w, fun _ _ _ h k => h.trans (k.mono h.size)⟩ rfl trivial⟩
        · obtain rfl := Option.some.inj (show some _ = some o from ho)
          refine PI.shown_val rfl fun a w5 L0 hr T => ?_
          have h1 : a.eval (.tmp 98) = .bool true := T.at_ 26 98 (by kernel_rfl) (by kernel_rfl) (by kernel_rfl)
          exact ⟨.bool true, w5, by simp only [execOp, h1]; simp [go_sem], PI.Post.pure ⟨fun w => Below.refl _ w, fun _ _ _ h k => h.trans (k.mono h.size)⟩ rfl trivial⟩
        · cases ho
      · rw [← hW]
        intro x w9 hr hf he _
        have h27 := hf 27 _ 2 rfl rfl (by decide)
        have hx27 : x 27 = .bool true := h27
        have HB9 := Lib.hid (HBD.out.trans (hr.mono hwW))
        clear hf he hr h27 hS1 hS2 hS3
        simp only [PI.putAll, Act.put, List.setIfInBounds_toArray, List.set_cons_zero, List.set_cons_succ]
        rw [hx27]
        go_wp2_with fail
        go_ret
        exact ⟨rfl, HB9.out⟩
end Go.Proofs.Ytjjklinjcbonkaa
