/- merge.Pick: two blocks of one tier, if there are. -/
import Derived.Test.YtcnbbnjdgmlccaaMf
import Derived.BigQuiet
import Derived.Deep.Cut
namespace Go.Proofs.Ytcnbbnjdgmlccaa
open Go.RowKit
set_option linter.unusedVariables false
set_option linter.unusedSimpArgs false
set_option maxRecDepth 100000

/-- A block's row. -/
structure Bk where
  nu : Int
  bo : Int
  ti : Int
  A : Option Addr
  m : Nat
  c : Nat
def Bk.cells (x : Bk) : List Value := [.int .i64 x.nu, .int .i64 x.bo, .int .i64 x.ti, .slice x.A x.m x.c]
theorem bcells_len (x : Bk) : x.cells.length = 4 := rfl
theorem bcells_one (l : List Bk) : ∀ u ∈ l.flatMap Bk.cells, u.oneCell' = true := by
  intro u hu
  obtain ⟨e, _, hu⟩ := List.mem_flatMap.1 hu
  simp only [Bk.cells, List.mem_cons, List.not_mem_nil, or_false] at hu
  rcases hu with rfl | rfl | rfl | rfl <;> rfl
theorem bk_at {w : World} {B : Nat} {A : Option Addr} {l : List Bk} (h : Rd w B A (l.flatMap Bk.cells)) {k : Nat} {e : Bk} (he : l[k]? = some e) : ∃ a, A = some a ∧ a.block < B ∧ (∀ j u, e.cells[j]? = some u → w.cell? (a.add (k * 4 + j)) = some u) := by
  have hk : k < l.length := by
    rcases Nat.lt_or_ge k l.length with h | h
    · exact h
    · rw [List.getElem?_eq_none h] at he; cases he
  obtain ⟨a, hA, hb, hc⟩ := h (by rw [flatMap_len _ 4 bcells_len]; omega)
  refine ⟨a, hA, hb, fun j u hu => hc _ u ?_⟩
  have hj : j < 4 := by
    rcases Nat.lt_or_ge j 4 with h | h
    · exact h
    · rw [List.getElem?_eq_none (by rw [bcells_len]; exact h)] at hu; cases hu
  rw [flatMap_at _ 4 bcells_len l k j hj, he]
  exact hu
/-- Two of one tier. -/
def Pair (l : List Bk) (k p q : Nat) : Prop := p < q ∧ q < k ∧ ∃ x y, l[p]? = some x ∧ l[q]? = some y ∧ x.ti = y.ti
theorem nodup_snoc {α : Type} {l : List α} {x : α} : (l ++ [x]).Nodup ↔ l.Nodup ∧ x ∉ l := by
  rw [List.nodup_append]
  constructor
  · rintro ⟨h1, _, h3⟩
    exact ⟨h1, fun h => h3 x h x (by simp) rfl⟩
  · rintro ⟨h1, h2⟩
    exact ⟨h1, by simp, fun a ha b hb e => by simp at hb; subst hb; subst e; exact h2 ha⟩
theorem idx_at {l : List Bk} {k : Nat} {t : Int} (h : t ∈ (l.take k).map Bk.ti) : ∃ x, l[((l.take k).map Bk.ti).idxOf t]? = some x ∧ x.ti = t ∧ ((l.take k).map Bk.ti).idxOf t < k := by
  have hi : ((l.take k).map Bk.ti).idxOf t < ((l.take k).map Bk.ti).length := List.idxOf_lt_length_iff.2 h
  have hg : ((l.take k).map Bk.ti)[((l.take k).map Bk.ti).idxOf t] = t := List.getElem_idxOf hi
  have hk : ((l.take k).map Bk.ti).idxOf t < k := by rw [List.length_map, List.length_take] at hi; omega
  have h2 : ((l.take k).map Bk.ti)[((l.take k).map Bk.ti).idxOf t]? = some t := by rw [List.getElem?_eq_getElem hi, hg]
  rw [List.getElem?_map, List.getElem?_take, if_pos hk] at h2
  obtain ⟨x, hx, hxt⟩ := Option.map_eq_some_iff.1 h2
  exact ⟨x, hx, hxt, hk⟩
set_option maxHeartbeats 16000000 in
theorem pick_any (A : Option Addr) (n c : Nat) (l : List Bk) (B : Nat) (w : World) (hn : n = l.length) (hr : Rd w B A (l.flatMap Bk.cells)) (hB : B ≤ w.heap.size) (hsm : n ≤ 100000) (hti : ∀ x ∈ l, -9223372036854775808 ≤ x.ti ∧ x.ti ≤ 9223372036854775807) :
    Calls Try.prog 13 #[.slice A n c] w fun e w' => ∃ (p q : Nat) (f : Bool), e = .returned (.tuple #[.int .i64 p, .int .i64 q, .bool f]) ∧ Below w.heap.size w w' ∧ (f = false ↔ (l.map Bk.ti).Nodup) ∧ (f = true → Pair l n p q) := by
  have HR := Lib.hid hr
  have HN := Lib.hid hn
  have HTI := Lib.hid hti
  clear hr hn hti
  have hmm := @run_makeMap Try.prog
  go_enter Try.func13, Try.ntmps13
  go_wp2
  have hM0 := MapFst.made w
  have HB0 := Lib.hid ((Below.refl w.heap.size w).alloc (Nat.le_refl _) (.map #[] 0))
  obtain ⟨g, hg⟩ : ∃ g, g = w.heap.size := ⟨_, rfl⟩
  have HG := Lib.hid hg
  rw [← hg] at hM0 ⊢
  clear hg
  go_loopw [6, 7, 8, 16] (fun o t f i wr => ∃ (k p q : Nat) (b : Bool) (nn : Nat), k ≤ n ∧ i = .int .i64 k ∧ o = .int .i64 p ∧ t = .int .i64 q ∧ f = .bool b ∧ p ≤ k ∧ q ≤ k ∧ nn ≤ k ∧ Hid (MapFst wr g nn ((l.take k).map Bk.ti)) ∧ Hid (Below w.heap.size w wr) ∧ Hid (b = false ↔ ((l.take k).map Bk.ti).Nodup) ∧ Hid (b = true → Pair l k p q)) (fun _ _ _ i _ => n - (intOf i).toNat)
  case atStart => exact ⟨0, 0, 0, false, 0, Nat.zero_le _, rfl, rfl, rfl, rfl, Nat.le_refl _, Nat.le_refl _, Nat.le_refl _, hM0, HB0, Lib.hid (by simp), Lib.hid (fun h => by cases h)⟩
  case round =>
    obtain ⟨k, p, q, b, nn, hk, rfl, rfl, rfl, rfl, hpk, hqk, hnk, HM, HB, HND, HPR⟩ := hrel
    have hws := HB.out.size
    by_cases hlt : k < n
    · obtain ⟨x, hx⟩ : ∃ x, l[k]? = some x := ⟨l[k]'(by rw [← HN.out]; exact hlt), List.getElem?_eq_getElem _⟩
      obtain ⟨a, rfl, hab, hcc⟩ := bk_at (HR.out.keep (fun p hp => HB.out.cell (Nat.lt_of_lt_of_le hp hB))) hx
      have x0 : wr.cell? (a.add (k * 4)) = some (.int .i64 x.nu) := hcc 0 _ rfl
      have x1 : wr.cell? ⟨(a.add (k * 4)).block, (a.add (k * 4)).off + 1, none⟩ = some (.int .i64 x.bo) := cell_far (hcc 1 _ rfl) (by decide)
      have x2 : wr.cell? ⟨(a.add (k * 4)).block, (a.add (k * 4)).off + 2, none⟩ = some (.int .i64 x.ti) := cell_far (hcc 2 _ rfl) (by decide)
      have x3 : wr.cell? ⟨(a.add (k * 4)).block, (a.add (k * 4)).off + 3, none⟩ = some (.slice x.A x.m x.c) := cell_far (hcc 3 _ rfl) (by decide)
      have hxt := HTI.out x (List.mem_of_getElem? hx)
      have HST := Lib.hid (show (l.take (k + 1)).map Bk.ti = (l.take k).map Bk.ti ++ [x.ti] from by rw [List.take_add_one, hx, List.map_append]; rfl)
      have hlen : ((l.take k).map Bk.ti).length = k := by rw [List.length_map, List.length_take]; have := HN.out; omega
      have HLEN := Lib.hid hlen
      have HID := Lib.hid (fun h : x.ti ∈ (l.take k).map Bk.ti => idx_at h)
      have i1 : (k : Int) < (n : Int) := by omega
      have i0 : (0 : Int) ≤ (k : Int) := by omega
      have HXK := Lib.hid hx
      clear hcc hx hlen
      go_upto_region 6 with fail
      have hq5 := heap_alloc_new wr (.cells #[.int .i64 x.nu, .int .i64 x.bo, .int .i64 x.ti, .slice x.A x.m x.c] 47)
      have HM5 : Hid (MapFst (wr.alloc (.cells #[.int .i64 x.nu, .int .i64 x.bo, .int .i64 x.ti, .slice x.A x.m x.c] 47)) g nn ((l.take k).map Bk.ti)) := Lib.hid (HM.out.block (Below.heap_alloc wr _ g HM.out.lt))
      have HB5 := Lib.hid (HB.out.alloc hws (.cells #[.int .i64 x.nu, .int .i64 x.bo, .int .i64 x.ti, .slice x.A x.m x.c] 47))
      have hs5 : wr.heap.size ≤ (wr.alloc (.cells #[.int .i64 x.nu, .int .i64 x.bo, .int .i64 x.ti, .slice x.A x.m x.c] 47)).heap.size := by simp
      have hgx : g < wr.heap.size := HM.out.lt
      clear x0 x1 x2 x3
      have x0 : (wr.alloc (.cells #[.int .i64 x.nu, .int .i64 x.bo, .int .i64 x.ti, .slice x.A x.m x.c] 47)).cell? ⟨wr.heap.size, 0, none⟩ = some (.int .i64 x.nu) := cell_of_row _ _ 0 _ _ (0, 0) hq5
      have x1 : (wr.alloc (.cells #[.int .i64 x.nu, .int .i64 x.bo, .int .i64 x.ti, .slice x.A x.m x.c] 47)).cell? ⟨wr.heap.size, 1, none⟩ = some (.int .i64 x.bo) := cell_of_row _ _ 1 _ _ (0, 0) hq5
      have x2 : (wr.alloc (.cells #[.int .i64 x.nu, .int .i64 x.bo, .int .i64 x.ti, .slice x.A x.m x.c] 47)).cell? ⟨wr.heap.size, 2, none⟩ = some (.int .i64 x.ti) := cell_of_row _ _ 2 _ _ (0, 0) hq5
      have x3 : (wr.alloc (.cells #[.int .i64 x.nu, .int .i64 x.bo, .int .i64 x.ti, .slice x.A x.m x.c] 47)).cell? ⟨wr.heap.size, 3, none⟩ = some (.slice x.A x.m x.c) := cell_of_row _ _ 3 _ _ (0, 0) hq5
      generalize wr.alloc (.cells #[.int .i64 x.nu, .int .i64 x.bo, .int .i64 x.ti, .slice x.A x.m x.c] 47) = w5 at *
      generalize wr.heap.size = gx at *
      clear hq5 HB HM
      have hs6 : w.heap.size ≤ w5.heap.size := by omega
      by_cases hm : x.ti ∈ (l.take k).map Bk.ti
      · have dm : decide (x.ti ∈ (l.take k).map Bk.ti) = true := decide_eq_true hm
        obtain ⟨y, hy, hyt, hyk⟩ := HID.out hm
        have HM6 : Hid (MapFst w5 g nn ((l.take (k + 1)).map Bk.ti)) := Lib.hid (by rw [HST.out]; exact HM5.out.again hm)
        have HND6 : Hid (true = false ↔ ((l.take (k + 1)).map Bk.ti).Nodup) := Lib.hid (by
          rw [HST.out, nodup_snoc]
          constructor
          · intro h; cases h
          · intro h; exact absurd hm h.2)
        have HPR6 : Hid (true = true → Pair l (k + 1) (((l.take k).map Bk.ti).idxOf x.ti) k) := Lib.hid (fun _ => ⟨hyk, Nat.lt_succ_self _, y, x, hy, HXK.out, hyt⟩)
        obtain ⟨ii, hii⟩ : ∃ ii, ii = ((l.take k).map Bk.ti).idxOf x.ti := ⟨_, rfl⟩
        rw [← hii] at HPR6 hy hyk
        have HCC : Hid (∀ cc : Int, (x.ti ∈ (l.take k).map Bk.ti → cc = ((((l.take k).map Bk.ti).idxOf x.ti : Nat) : Int)) → cc = (ii : Int)) := Lib.hid (fun cc h => by rw [hii]; exact h hm)
        clear hii hm hy hyt
        cases b
        · go_upto_region 9 with (at_lookup; refine wpList_fst HM5.out hxt rfl (.tmp 22) (.tmp 24) rfl rfl rfl ?_; intro cc hcc; rw [dm]; have hcd := HCC.out cc hcc; clear hcc; subst hcd)
          go_quiet (fail)
          have HM7 : Hid (MapFst (w5.drewN nq) g nn ((l.take (k + 1)).map Bk.ti)) := HM6
          have HB7 : Hid (Below w.heap.size w (w5.drewN nq)) := Lib.hid ⟨HB5.out.os, HB5.out.tape, HB5.out.output, HB5.out.size, HB5.out.block⟩
          go_wp2_with fail
          go_roundw
          case rel => exact ⟨k + 1, ii, k, true, nn, by omega, by go_num, rfl, rfl, rfl, by omega, by omega, by omega, HM7, HB7, HND6, HPR6⟩
          case measure => simp [intOf]; omega
        · obtain ⟨hpq, hqk2, px, qy, hpx, hqy, hpt⟩ := HPR.out rfl
          obtain ⟨a', ha', _, hdd⟩ := bk_at (HR.out.keep (fun r hr => HB5.out.cell (Nat.lt_of_lt_of_le hr hB))) hpx
          obtain rfl : a = a' := by injection ha'
          have y2 : w5.cell? ⟨(a.add (p * 4)).block, (a.add (p * 4)).off + 2, none⟩ = some (.int .i64 px.ti) := cell_far (hdd 2 _ rfl) (by decide)
          have ip : (p : Int) < (n : Int) := by omega
          have ip0 : (0 : Int) ≤ (p : Int) := by omega
          have HPR7 : Hid (true = true → Pair l (k + 1) p q) := Lib.hid (fun _ => ⟨hpq, by omega, px, qy, hpx, hqy, hpt⟩)
          clear hdd hpx hqy hpt HPR
          go_upto_region 9 with (at_lookup; refine wpList_fst HM5.out hxt rfl (.tmp 22) (.tmp 24) rfl rfl rfl ?_; intro cc hcc; rw [dm]; have hcd := HCC.out cc hcc; clear hcc; subst hcd)
          go_quiet (fail)
          have HM7 : Hid (MapFst (w5.drewN nq) g nn ((l.take (k + 1)).map Bk.ti)) := HM6
          have HB7 : Hid (Below w.heap.size w (w5.drewN nq)) := Lib.hid ⟨HB5.out.os, HB5.out.tape, HB5.out.output, HB5.out.size, HB5.out.block⟩
          by_cases hl2 : x.ti < px.ti
          · have dl : decide (x.ti < px.ti) = true := decide_eq_true hl2
            go_wp2_with fail
            go_roundw
            case rel => exact ⟨k + 1, ii, k, true, nn, by omega, by go_num, rfl, rfl, rfl, by omega, by omega, by omega, HM7, HB7, HND6, HPR6⟩
            case measure => simp [intOf]; omega
          · have dl : decide (x.ti < px.ti) = false := decide_eq_false hl2
            go_wp2_with fail
            go_roundw
            case rel => exact ⟨k + 1, p, q, true, nn, by omega, by go_num, rfl, rfl, rfl, by omega, by omega, by omega, HM7, HB7, HND6, HPR7⟩
            case measure => simp [intOf]; omega
      · have dm : decide (x.ti ∈ (l.take k).map Bk.ti) = false := decide_eq_false hm
        have HND6 : Hid (b = false ↔ ((l.take (k + 1)).map Bk.ti).Nodup) := Lib.hid (by rw [HST.out, nodup_snoc, HND.out]; exact ⟨fun h => ⟨h, hm⟩, fun h => h.1⟩)
        have HPR6 : Hid (b = true → Pair l (k + 1) p q) := Lib.hid (fun h => by obtain ⟨h1, h2, h3⟩ := HPR.out h; exact ⟨h1, by omega, h3⟩)
        go_wp2_with (first
          | (at_lookup; refine wpList_fst HM5.out hxt rfl (.tmp 22) (.tmp 24) rfl rfl rfl ?_; intro cc hcc; rw [dm]; clear hcc)
          | (at_mapUpdate; refine wpList_fst_put HM5.out hxt hm (by omega) (by rw [HLEN.out]; omega) rfl (.tmp 30) (.tmp 32) (.tmp 33) rfl rfl rfl (by rw [HLEN.out]; rfl) ?_; intro w6 hm6 hgr6; have HM6 := Lib.hid hm6; have HG6 := Lib.hid hgr6; clear hm6 hgr6))
        go_roundw
        case rel => exact ⟨k + 1, p, q, b, nn + 1, by omega, by go_num, rfl, rfl, rfl, by omega, by omega, by omega, by rw [HST.out]; exact HM6, Lib.hid (HB5.out.grown HG6.out hs6 (fun r hr => by injection hr with hr; have := HG.out; omega)), HND6, HPR6⟩
        case measure => simp [intOf]; omega
    · obtain rfl : k = n := by omega
      have HF := Lib.hid (show (l.take k).map Bk.ti = l.map Bk.ti from by rw [List.take_of_length_le (by have := HN.out; omega)])
      go_wp2_with fail
      go_ret3
      exact ⟨p, q, b, rfl, HB.out, by rw [← HF.out]; exact HND.out, HPR.out⟩
end Go.Proofs.Ytcnbbnjdgmlccaa
