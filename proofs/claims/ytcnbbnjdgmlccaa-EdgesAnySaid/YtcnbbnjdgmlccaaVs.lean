/- The document's SameEdges of equal ones; Ordered of ordered ones. -/
import Derived.Test.YtcnbbnjdgmlccaaVt
import Derived.BigQuiet
import Derived.Laws.StructEq
namespace Go.Proofs.Ytcnbbnjdgmlccaa
open Go.RowKit
set_option linter.unusedVariables false
set_option linter.unusedSimpArgs false
set_option maxRecDepth 100000

theorem less_cmpv : ∀ (a b : List UInt8), Op.bytesLess a b = decide (Lib.compareBytes a b < 0)
  | [], [] => rfl
  | [], _ :: _ => rfl
  | _ :: _, [] => rfl
  | x :: a, y :: b => by
    have ih := less_cmpv a b
    unfold Op.bytesLess Lib.compareBytes
    by_cases h1 : x < y
    · simp [h1]
    · by_cases h2 : y < x
      · have h3 : x ≠ y := fun h => by subst h; exact absurd h2 (UInt8.lt_irrefl _)
        simp [h1, h2, h3]
      · have h3 : x = y := UInt8.le_antisymm (UInt8.not_lt.1 h2) (UInt8.not_lt.1 h1)
        subst h3
        simp [h1, ih]
theorem toLv (s : ByteArray) : s.toList = s.data.toList := by
  obtain ⟨⟨l⟩⟩ := s
  exact ByteArray.toList_mk l
theorem less_Tv (a b : ByteArray) : Op.bytesLess a.toList b.toList = decide (cmpT a b < 0) := by rw [toLv, toLv]; exact less_cmpv _ _
set_option maxHeartbeats 8000000 in
theorem sameedges_eq (A A2 : Option Addr) (n c c2 : Nat) (l : List Eg) (B : Nat) (w : World) (hsm : n ≤ 200000) (hn : n = l.length) (hr : Rd w B A (l.flatMap Eg.cells)) (hr2 : Rd w B A2 (l.flatMap Eg.cells)) :
    Calls Try.prog 10 #[.slice A n c, .slice A2 n c2] w fun e w' => e = .returned (.bool true) ∧ Below w.heap.size w w' := by
  have HR := Lib.hid hr
  have HR2 := Lib.hid hr2
  have HN := Lib.hid hn
  clear hr hr2 hn
  go_enter Try.func10, Try.ntmps10
  go_wp2
  go_loopw [5] (fun i wr => ∃ k : Nat, k ≤ n ∧ i = .int .i64 k ∧ Hid (∃ q, wr = w.drewN q)) (fun i _ => n - (intOf i).toNat)
  case atStart => exact ⟨0, Nat.zero_le _, rfl, ⟨0, rfl⟩⟩
  case round =>
    obtain ⟨k, hk, rfl, HQ⟩ := hrel
    obtain ⟨q, rfl⟩ := HQ.out
    by_cases hlt : k < n
    · obtain ⟨x, hx⟩ : ∃ x, l[k]? = some x := ⟨l[k]'(by rw [← HN.out]; exact hlt), List.getElem?_eq_getElem _⟩
      obtain ⟨a, rfl, _, hcc⟩ := eg_at HR.out hx
      obtain ⟨b, rfl, _, hdd⟩ := eg_at HR2.out hx
      have x0 : w.cell? (a.add (k * 4)) = some (.string x.fr) := hcc 0 _ rfl
      have x1 : w.cell? ⟨(a.add (k * 4)).block, (a.add (k * 4)).off + 1, none⟩ = some (.string x.to) := cell_far (hcc 1 _ rfl) (by decide)
      have x2 : w.cell? ⟨(a.add (k * 4)).block, (a.add (k * 4)).off + 2, none⟩ = some (.int .i64 x.cn) := cell_far (hcc 2 _ rfl) (by decide)
      have x3 : w.cell? ⟨(a.add (k * 4)).block, (a.add (k * 4)).off + 3, none⟩ = some (.int .i64 x.er) := cell_far (hcc 3 _ rfl) (by decide)
      have y0 : w.cell? (b.add (k * 4)) = some (.string x.fr) := hdd 0 _ rfl
      have y1 : w.cell? ⟨(b.add (k * 4)).block, (b.add (k * 4)).off + 1, none⟩ = some (.string x.to) := cell_far (hdd 1 _ rfl) (by decide)
      have y2 : w.cell? ⟨(b.add (k * 4)).block, (b.add (k * 4)).off + 2, none⟩ = some (.int .i64 x.cn) := cell_far (hdd 2 _ rfl) (by decide)
      have y3 : w.cell? ⟨(b.add (k * 4)).block, (b.add (k * 4)).off + 3, none⟩ = some (.int .i64 x.er) := cell_far (hdd 3 _ rfl) (by decide)
      have i1 : (k : Int) < (n : Int) := by omega
      have i0 : (0 : Int) ≤ (k : Int) := by omega
      clear hcc hdd hx HQ
      go_upto_region 6 with fail
      go_quiet (fail)
      go_wp2
      go_roundw
      case rel => exact ⟨k + 1, by omega, by go_num, ⟨_, rfl⟩⟩
      case measure => simp [intOf]; omega
    · obtain rfl : k = n := by omega
      go_wp2_with fail
      go_ret
      exact ⟨rfl, ⟨rfl, rfl, rfl, Nat.le_refl _, fun _ _ => rfl⟩⟩
set_option maxHeartbeats 8000000 in
theorem ordered_any (A : Option Addr) (n c : Nat) (l : List Eg) (B : Nat) (w : World) (hsm : n ≤ 200000) (hn : n = l.length) (hr : Rd w B A (l.flatMap Eg.cells)) (ho : l.Pairwise bef) :
    Calls Try.prog 11 #[.slice A n c] w fun e w' => e = .returned (.bool true) ∧ Below w.heap.size w w' := by
  have HR := Lib.hid hr
  have HN := Lib.hid hn
  have HO := Lib.hid ho
  clear hr hn ho
  go_enter Try.func11, Try.ntmps11
  go_wp2
  go_loopw [3] (fun i wr => ∃ k : Nat, k ≤ n ∧ i = .int .i64 ((k : Int) + 1) ∧ Hid (∃ q, wr = w.drewN q)) (fun i _ => n + 1 - (intOf i).toNat)
  case atStart => exact ⟨0, Nat.zero_le _, rfl, ⟨0, rfl⟩⟩
  case round =>
    obtain ⟨k, hk, rfl, HQ⟩ := hrel
    obtain ⟨q, rfl⟩ := HQ.out
    by_cases hlt : k + 1 < n
    · have hl1 : k + 1 < l.length := by rw [← HN.out]; exact hlt
      obtain ⟨p, hp⟩ : ∃ p, l[k]? = some p := ⟨l[k]'(by omega), List.getElem?_eq_getElem _⟩
      obtain ⟨y, hy⟩ : ∃ y, l[k + 1]? = some y := ⟨l[k + 1]'hl1, List.getElem?_eq_getElem _⟩
      have hb : bef p y := by
        have h1 := (List.pairwise_iff_getElem.1 HO.out) k (k + 1) (by omega) hl1 (by omega)
        rw [(List.getElem?_eq_some_iff.1 hp).2, (List.getElem?_eq_some_iff.1 hy).2] at h1
        exact h1
      obtain ⟨a, rfl, _, hcc⟩ := eg_at HR.out hp
      obtain ⟨b, hb', _, hdd⟩ := eg_at HR.out hy
      injection hb' with hb'
      subst hb'
      obtain ⟨k1, hk1⟩ : ∃ k1, k1 = k + 1 := ⟨_, rfl⟩
      rw [← hk1] at hdd
      have x0 : w.cell? (a.add (k * 4)) = some (.string p.fr) := hcc 0 _ rfl
      have x1 : w.cell? ⟨(a.add (k * 4)).block, (a.add (k * 4)).off + 1, none⟩ = some (.string p.to) := cell_far (hcc 1 _ rfl) (by decide)
      have x2 : w.cell? ⟨(a.add (k * 4)).block, (a.add (k * 4)).off + 2, none⟩ = some (.int .i64 p.cn) := cell_far (hcc 2 _ rfl) (by decide)
      have x3 : w.cell? ⟨(a.add (k * 4)).block, (a.add (k * 4)).off + 3, none⟩ = some (.int .i64 p.er) := cell_far (hcc 3 _ rfl) (by decide)
      have y0 : w.cell? (a.add (k1 * 4)) = some (.string y.fr) := hdd 0 _ rfl
      have y1 : w.cell? ⟨(a.add (k1 * 4)).block, (a.add (k1 * 4)).off + 1, none⟩ = some (.string y.to) := cell_far (hdd 1 _ rfl) (by decide)
      have y2 : w.cell? ⟨(a.add (k1 * 4)).block, (a.add (k1 * 4)).off + 2, none⟩ = some (.int .i64 y.cn) := cell_far (hdd 2 _ rfl) (by decide)
      have y3 : w.cell? ⟨(a.add (k1 * 4)).block, (a.add (k1 * 4)).off + 3, none⟩ = some (.int .i64 y.er) := cell_far (hdd 3 _ rfl) (by decide)
      have d0 : Op.bytesLess y.fr.toList p.fr.toList = false := by
        rw [less_Tv, cmpT_flip p.fr y.fr]
        unfold bef ordG at hb
        refine decide_eq_false ?_
        split at hb <;> omega
      have hk2 : ((k : Int) + 1) = (k1 : Int) := by omega
      have i1 : (k1 : Int) < (n : Int) := by omega
      have i0 : (0 : Int) ≤ (k1 : Int) := by omega
      have j1 : (k : Int) < (n : Int) := by omega
      have j0 : (0 : Int) ≤ (k : Int) := by omega
      have j2 : (k1 : Int) - 1 = (k : Int) := by omega
      have j3 : (0 : Int) ≤ (k1 : Int) - 1 := by omega
      have j4 : ((k1 : Int) - 1).toNat = k := by omega
      have j5 : IntKind.i64.wrap ((k1 : Int) - 1) = (k1 : Int) - 1 := IntWalk.i64_in _ (by omega)
      have hkn : k + 1 < n := hlt
      rw [hk2]
      have HK1 := Lib.hid hk1
      clear hcc hdd hp hy HQ hk2 hk1 hl1
      by_cases e : y.fr = p.fr
      · have d1 : (y.fr.toList == p.fr.toList) = true := by rw [e]; simp
        have hb2 : cmpT p.to y.to < 0 := by
          unfold bef ordG at hb
          rw [if_pos ((cmpT_zero _ _).2 e.symm)] at hb
          exact hb
        have d2 : Op.bytesLess y.to.toList p.to.toList = false := by
          rw [less_Tv, cmpT_flip p.to y.to]
          exact decide_eq_false (by omega)
        have d3 : (y.to.toList == p.to.toList) = false := by
          cases h : (y.to.toList == p.to.toList)
          · rfl
          · have h2 := strv_inj (by simpa using h)
            have h3 := (cmpT_zero p.to y.to).2 h2.symm
            omega
        clear hb2
        clear hb e
        go_upto_region 4 with fail
        go_quiet (fail)
        go_wp2_with fail
        go_roundw
        case rel => exact ⟨k1, by have := HK1.out; omega, rfl, ⟨_, rfl⟩⟩
        case measure => simp [intOf]; omega
      · have d1 : (y.fr.toList == p.fr.toList) = false := by
          cases h : (y.fr.toList == p.fr.toList)
          · rfl
          · exact absurd (strv_inj (by simpa using h)) e
        clear hb e
        go_upto_region 4 with fail
        go_quiet (fail)
        go_wp2_with fail
        go_roundw
        case rel => exact ⟨k1, by have := HK1.out; omega, rfl, ⟨_, rfl⟩⟩
        case measure => simp [intOf]; omega
    · have hkk : ¬ ((k : Int) + 1 < (n : Int)) := by omega
      go_wp2_with fail
      go_ret
      exact ⟨rfl, ⟨rfl, rfl, rfl, Nat.le_refl _, fun _ _ => rfl⟩⟩
end Go.Proofs.Ytcnbbnjdgmlccaa
