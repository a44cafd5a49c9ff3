/- Chapter 28's example. -/
import Derived.Test.YtgiahfjndononaaDoorPok
import Derived.Test.YtgiahfjndononaaDoorPop
import Derived.Test.YtgiahfjndononaaDoorNu
namespace Go.Proofs.YtgiahfjndononaaDoor
open Go.RowKit
set_option linter.unusedVariables false
set_option linter.unusedSimpArgs false
set_option maxRecDepth 100000

theorem num28 (z : Int) (w : World) : Calls Tryd.prog 14 #[.int .i64 z] w fun e w' => e = .returned (.int .i64 z) ∧ w' = w := by
  go_enter Tryd.func14, Tryd.ntmps14
  go_wp2_with fail
  go_ret
  exact ⟨rfl, rfl⟩
theorem err_right : (Rt.mk 5 0 ⟨#[]⟩ ⟨#[]⟩ []).right = true := by
  rw [Rt.right_iff]
  refine ⟨by rw [Rt.hgt_mk]; simp [hgtL], by rw [Rt.cnt_mk]; simp [cntL], by rw [Rt.all_mk]; decide +kernel⟩
theorem alive_shape {w : World} {B : Nat} {cs : List Value} (h : RdR w B (.mk 1 0 ⟨#[]⟩ ⟨#[]⟩ [.mk 5 0 ⟨#[]⟩ ⟨#[]⟩ [], .mk 4 5 ⟨#[]⟩ ⟨#[]⟩ []]) cs) : ∃ (a : Addr) (kc : Nat), cs = rcs 1 0 ⟨#[]⟩ ⟨#[]⟩ (some a) 2 kc ∧ 2 ≤ kc ∧ kc ≤ maxLen ∧ a.block < B ∧ w.cell? ⟨a.block, a.off + 5 + 1, none⟩ = some (.int .i64 5) := by
  cases h with
  | mk k n key val kids kA kc cs h1 h2 h3 h4 h5 h6 hrow hkid =>
    obtain ⟨a, k', n', key', val', A, q, qc, e1, hab, hr, ec, c0, c1, c2, c3, c4⟩ := kid_cells hrow hkid (i := 1) (r := .mk 4 5 ⟨#[]⟩ ⟨#[]⟩ []) rfl
    cases hr with
    | mk _ _ _ _ _ _ _ _ g1 g2 g3 g4 g5 g6 grow gkid =>
    subst e1
    exact ⟨a, kc, rfl, h5, h6, hab, by have h := c1; unfold Addr.add at h; rw [if_neg (by decide)] at h; exact h⟩
set_option maxHeartbeats 8000000 in
theorem alive28_calls (W : World) (hT : Lib.TabIs Tryd.prog W "internal/strconv.uint64pow10" .u64 Lib.pow10Tab) :
    Calls Tryd.prog 7 #[] W fun e w' => e = .returned (.bool true) ∧ Below W.heap.size W w' := by
  have HT := Lib.hid hT
  have HPA := Lib.hid (parse_any aliveS W (by decide))
  have HA2 := Lib.hid alive_ans2
  have HA1 := Lib.hid alive_ans1
  generalize Wm.ans aliveS.data.toList = an at *
  clear hT
  unfold aliveS at HPA
  go_enter Tryd.func7, Tryd.ntmps7
  go_upto_region 2 with (go_at_call 9; (with_reducible refine HPA.out.mono ?_); rintro e1 w1 ⟨cs, rfl, hrd, hb1⟩; rw [HA2.out]; rw [HA1.out] at hrd; obtain ⟨a, kc, rfl, hk2, hk3, hab, hn5⟩ := alive_shape (hrd.toR (B := w1.heap.size) (fun b hb => hb.2)); have HB1 := Lib.hid hb1; have HN5 := Lib.hid hn5; clear hrd hb1 hn5; simp only [rcs])
  have hx5 := heap_alloc_new w1 (.cells #[.int .i64 1, .int .i64 0, .string ⟨#[]⟩, .string ⟨#[]⟩, .slice (some a) 2 kc] 24)
  have hb5 : Below w1.heap.size w1 (w1.alloc (.cells #[.int .i64 1, .int .i64 0, .string ⟨#[]⟩, .string ⟨#[]⟩, .slice (some a) 2 kc] 24)) := (Below.refl _ _).alloc (Nat.le_refl _) _
  have hbW : Below W.heap.size W (w1.alloc (.cells #[.int .i64 1, .int .i64 0, .string ⟨#[]⟩, .string ⟨#[]⟩, .slice (some a) 2 kc] 24)) := HB1.out.trans (hb5.mono HB1.out.size)
  have hn5 := (hb5.cell (p := ⟨a.block, a.off + 5 + 1, none⟩) (show a.block < _ from hab)).trans HN5.out
  generalize w1.alloc (.cells #[.int .i64 1, .int .i64 0, .string ⟨#[]⟩, .string ⟨#[]⟩, .slice (some a) 2 kc] 24) = w5 at *
  have HX5 := Lib.hid hx5
  have HN5 := Lib.hid hn5
  have HBW := Lib.hid hbW
  have HPR := Lib.hid (print_any (RdR.mk (w := w5) (B := 0) 5 0 ⟨#[]⟩ ⟨#[]⟩ [] none 0 (fun _ => []) (by omega) (by omega) (Nat.zero_le _) (Nat.zero_le _) (Nat.le_refl _) (Nat.zero_le _) (fun h => absurd h (by simp)) (fun i r h => by simp at h)) w5 (Below.refl _ _) (Nat.zero_le _) (tab_below HT.out hbW))
  rw [err_right, if_pos rfl] at HPR
  have hse : ((S8 (Wm.shw (Rt.mk 5 0 ⟨#[]⟩ ⟨#[]⟩ []))).toList == (⟨#[101, 114, 114]⟩ : ByteArray).toList) = true := by rw [Wm.shw_mk]; decide +kernel
  have hse2 : ((S8 (Wm.shw (Rt.mk 5 0 ⟨#[]⟩ ⟨#[]⟩ []))).toList == [101, 114, 114]) = true := by rw [Wm.shw_mk]; decide +kernel
  generalize S8 (Wm.shw (Rt.mk 5 0 ⟨#[]⟩ ⟨#[]⟩ [])) = se at *
  simp only [rcs, List.length_nil] at HPR
  simp only [maxLen] at hk3
  clear hx5 hb5 hbW hn5 HPA
  go_wp2_with (first
    | (go_at_call 14; (with_reducible refine (num28 _ _).mono ?_); rintro e3 w3 ⟨rfl, hw3⟩; subst hw3)
    | (go_at_call 11; (with_reducible refine HPR.out.mono ?_); rintro e2 w2 ⟨rfl, hb2⟩; have hrw := (hb2.block _ (in_heap HX5.out)).trans HX5.out; have g0 : w2.cell? ⟨w1.heap.size, 0, none⟩ = some (.int .i64 1) := cell_of_row _ _ 0 _ _ (0, 0) hrw; have g4 : w2.cell? ⟨w1.heap.size, 4, none⟩ = some (.slice (some a) 2 kc) := cell_of_row _ _ 4 _ _ (0, 0) hrw; have g5 := (hb2.cell (p := ⟨a.block, a.off + 5 + 1, none⟩) (cell_lt HN5.out)).trans HN5.out; have HB2 := Lib.hid hb2; clear hb2 hrw))
  all_goals
    go_ret
    exact ⟨rfl, HBW.out.trans (HB2.out.mono HBW.out.size)⟩
theorem three_rows {w1 w4 : World} {A B C : Array Value} {tA tB tC : TypeId} (h : ((w1.alloc (.cells A tA)).alloc (.cells B tB)).alloc (.cells C tC) = w4) : w4.heap[w1.heap.size]? = some (.cells A tA) ∧ w4.heap[w1.heap.size + 1]? = some (.cells B tB) ∧ w4.heap[w1.heap.size + 1 + 1]? = some (.cells C tC) ∧ Below w1.heap.size w1 w4 := by
  subst h
  refine ⟨(heap_alloc_old _ _ (by simp; omega)).trans ((heap_alloc_old _ _ (by simp)).trans (heap_alloc_new w1 _)), ?_, ?_, (((Below.refl _ _).alloc (Nat.le_refl _) _).alloc (by simp) _).alloc (by simp; omega) _⟩
  · have h := heap_alloc_new (w1.alloc (.cells A tA)) (.cells B tB)
    refine (heap_alloc_old _ _ (by simp)).trans ?_
    simpa using h
  · have h := heap_alloc_new ((w1.alloc (.cells A tA)).alloc (.cells B tB)) (.cells C tC)
    simpa using h
set_option maxHeartbeats 16000000 in
theorem wrong28 (which : Int) (W : World) (hw : -9223372036854775808 ≤ which ∧ which ≤ 9223372036854775807) (hT : Lib.TabIs Tryd.prog W "internal/strconv.uint64pow10" .u64 Lib.pow10Tab) :
    Calls Tryd.prog 5 #[.int .i64 which] W fun e w' => e = .returned (.bool true) ∧ Below W.heap.size W w' := by
  have HAL := Lib.hid (alive28_calls W hT)
  clear hT
  by_cases h0 : which < 0 ∨ 35 ≤ which
  · have h0b : (decide (which < 0) || decide (35 ≤ which)) = true := by rcases h0 with h | h <;> simp [h]
    rcases (show which < 0 ∨ (¬ which < 0 ∧ 35 ≤ which) from by omega) with h | ⟨h, h'⟩
    · have d1 : decide (which < 0) = true := decide_eq_true h
      clear h0b h0
      go_enter Tryd.func5, Tryd.ntmps5
      go_wp2_with (go_at_call 7; (with_reducible refine HAL.out.mono ?_); rintro e1 w1 ⟨rfl, hb1⟩; have HB1 := Lib.hid hb1; clear hb1)
      go_ret
      exact ⟨rfl, HB1.out.trans ((((Below.refl _ _).alloc (Nat.le_refl _) _).alloc (by simp) _).alloc (by simp; omega) _ |>.mono HB1.out.size)⟩
    · have d1 : decide (which < 0) = false := decide_eq_false h
      have d2 : decide (35 ≤ which) = true := decide_eq_true h'
      clear h0b h0
      go_enter Tryd.func5, Tryd.ntmps5
      go_wp2_with (go_at_call 7; (with_reducible refine HAL.out.mono ?_); rintro e1 w1 ⟨rfl, hb1⟩; have HB1 := Lib.hid hb1; clear hb1)
      go_ret
      exact ⟨rfl, HB1.out.trans ((((Below.refl _ _).alloc (Nat.le_refl _) _).alloc (by simp) _).alloc (by simp; omega) _ |>.mono HB1.out.size)⟩
  · obtain ⟨k, rfl⟩ : ∃ k : Nat, which = (k : Int) := ⟨which.toNat, by omega⟩
    have hk : k < 35 := by omega
    have d1 : decide ((k : Int) < 0) = false := decide_eq_false (by omega)
    have d2 : decide (35 ≤ (k : Int)) = false := decide_eq_false (by omega)
    have d3 : decide (35 ≤ k) = false := decide_eq_false (by omega)
    obtain ⟨s, hs⟩ : ∃ s, wrongL[k]? = some s := ⟨_, List.getElem?_eq_getElem (show k < wrongL.length from hk)⟩
    obtain ⟨an, han⟩ : ∃ p, wrongA[k]? = some p := ⟨_, List.getElem?_eq_getElem (show k < wrongA.length from hk)⟩
    have hans : (Wm.ans s.data.toList).2 = an := by
      have h1 := congrArg (fun l => l[k]?) wrong_ans
      simp only [List.getElem?_map, hs, han, Option.map_some] at h1
      injection h1
    have hsz : s.size ≤ 100 := by
      have h1 := List.all_eq_true.1 wrong_size s (List.mem_of_getElem? hs)
      exact of_decide_eq_true h1
    have HPA := Lib.hid (fun W => parse_any s W (by omega))
    generalize Wm.ans s.data.toList = ann at *
    obtain ⟨tt, aa, ee⟩ := ann
    subst hans
    have HS := Lib.hid hs
    have HAN := Lib.hid han
    clear hs han h0 hw hsz
    go_enter Tryd.func5, Tryd.ntmps5
    go_upto_region 7 with (go_at_call 7; (with_reducible refine HAL.out.mono ?_); rintro e1 w1 ⟨rfl, hb1⟩; have HB1 := Lib.hid hb1; clear hb1)
    generalize hw4 : World.alloc (World.alloc (World.alloc w1 _) _) _ = w4
    obtain ⟨hA0, hB0, hC0, hb3⟩ := three_rows hw4
    have hA : w4.heap[w1.heap.size]? = some (.cells (wrongL.map Value.string).toArray 9) := hA0
    have hB : w4.heap[w1.heap.size + 1]? = some (.cells (wrongA.map (fun p => Value.int .i64 p.2)).toArray 3) := hB0
    have hC : w4.heap[w1.heap.size + 1 + 1]? = some (.cells (wrongA.map (fun p => Value.int .i64 p.1)).toArray 3) := hC0
    have hb4 : Below W.heap.size W w4 := HB1.out.trans (hb3.mono HB1.out.size)
    clear hA0 hB0 hC0 hb3
    clear hw4
    have cA : w4.cell? ⟨w1.heap.size, k, none⟩ = some (.string s) := by
      rw [cell_of_row _ _ k _ _ (0, 0) hA]
      simp [HS.out]
    have cB : w4.cell? ⟨w1.heap.size + 1, k, none⟩ = some (.int .i64 ee) := by
      rw [cell_of_row _ _ k _ _ (0, 0) hB]
      simp [HAN.out]
    have cC : w4.cell? ⟨w1.heap.size + 1 + 1, k, none⟩ = some (.int .i64 aa) := by
      rw [cell_of_row _ _ k _ _ (0, 0) hC]
      simp [HAN.out]
    have HCB := Lib.hid cB
    have HCC := Lib.hid cC
    have HB4 := Lib.hid hb4
    clear hA hB hC hb4 cB cC
    go_upto_region 8 with (go_at_call 9; (with_reducible refine (HPA.out _).mono ?_); rintro e5 w5 ⟨cs, rfl, hrd, hb5⟩; obtain ⟨k5, n5, y5, v5, A5, m5, c5, rfl⟩ := hrd.inv; have cB := (hb5.cell (p := ⟨w1.heap.size + 1, k, none⟩) (cell_lt HCB.out)).trans HCB.out; have cC := (hb5.cell (p := ⟨w1.heap.size + 1 + 1, k, none⟩) (cell_lt HCC.out)).trans HCC.out; have HB5 := Lib.hid (HB4.out.trans (hb5.mono HB4.out.size)); clear hb5 hrd; simp only [rcs])
    have hb6 := (Below.refl w5.heap.size w5).alloc (Nat.le_refl _) (.cells #[.int .i64 k5, .int .i64 n5, .string y5, .string v5, .slice A5 m5 c5] 24)
    have cB6 := (hb6.cell (p := ⟨w1.heap.size + 1, k, none⟩) (cell_lt cB)).trans cB
    have cC6 := (hb6.cell (p := ⟨w1.heap.size + 1 + 1, k, none⟩) (cell_lt cC)).trans cC
    have hb7 := HB5.out.trans (hb6.mono HB5.out.size)
    generalize w5.alloc (.cells #[.int .i64 k5, .int .i64 n5, .string y5, .string v5, .slice A5 m5 c5] 24) = w6 at *
    have HB7 := Lib.hid hb7
    clear cA cB cC hb6 hb7
    refine wp_region_quiet_lex (by kernel_rfl) (by kernel_rfl) ?_
    repeat (go_big_quiet_step ((go_at_call 14; with_reducible exact Calls.quiet_of_same (num28 _ _))))
    refine wpQuiet_nil ?_
    intro _ hw'
    obtain ⟨nq, hw''⟩ := hw'
    subst hw''
    go_wp2_with fail
    go_ret
    exact ⟨rfl, HB7.out.trans ⟨rfl, rfl, rfl, Nat.le_refl _, fun _ _ => rfl⟩⟩
end Go.Proofs.YtgiahfjndononaaDoor
