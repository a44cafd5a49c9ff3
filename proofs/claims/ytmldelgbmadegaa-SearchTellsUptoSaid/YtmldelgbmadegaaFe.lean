/- Whether episodes are few and small enough. -/
import Derived.Test.YtmldelgbmadegaaOe
import Derived.Test.YtmldelgbmadegaaFew
namespace Go.Proofs.Ytmldelgbmadegaa
open Go.RowKit
set_option linter.unusedVariables false
set_option maxRecDepth 100000

def GoodEps (l : List Le) : Prop := l.length ≤ 120 ∧ ∀ e ∈ l, fewAll e.l = true
/-- What Few answers: if it is true, they are few and small. -/
def FewEp (l : List Le) (w : World) (e : Ending) (w' : World) : Prop := ∃ b : Bool, e = .returned (.bool b) ∧ (b = true → GoodEps l) ∧ Below w.heap.size w w'
theorem fewAll_len {l : List Ls} (h : fewAll l = true) : l.length ≤ 60 := by
  unfold fewAll at h
  simp only [Bool.and_eq_true, decide_eq_true_eq] at h
  exact h.1
theorem fewAll_ats {l : List Ls} (h : fewAll l = true) : ∀ x ∈ l, x.s.ats.length ≤ 20 := by
  unfold fewAll at h
  simp only [Bool.and_eq_true, List.all_eq_true] at h
  intro x hx
  have := h.2 x hx
  unfold few at this
  simp only [Bool.and_eq_true, decide_eq_true_eq] at this
  exact this.2.2.1

set_option maxHeartbeats 8000000 in
theorem few15_any (A : Option Addr) (l : List Le) (n c B : Nat) (w : World) (hn : n = l.length) (hy : RdEps w B A l) (hok : ∀ e ∈ l, e.ok) (hB : B ≤ w.heap.size) (hl : n ≤ maxLen) :
    Calls Try.prog 16 #[.slice A n c] w (FewEp l w) := by
  simp only [maxLen] at hl
  have HN := Lib.hid hn
  have HY := Lib.hid hy
  have HK := Lib.hid hok
  clear hn hy hok
  go_enter Try.func16, Try.ntmps16
  go_wp2_with fail
  go_loopw [3, 4] (fun v i wr => ∃ k q : Nat, i = .int .i64 k ∧ v = .int .i64 q ∧ k ≤ n ∧ k ≤ q ∧ q ≤ 1100 ∧ Hid ((l.take k).all (fun e => fewAll e.l) = true) ∧ Hid (Below w.heap.size w wr)) (fun _ i _ => n - (intOf i).toNat)
  case atStart => exact ⟨0, 0, rfl, rfl, Nat.zero_le _, Nat.zero_le _, Nat.zero_le _, Lib.hid (by simp), Lib.hid (Below.refl _ _)⟩
  case round =>
    obtain ⟨k, q, rfl, rfl, hk, hkq, hq, HA, HB⟩ := hrel
    by_cases hlt : k < n
    · by_cases hq2 : q < 1000
      · obtain ⟨e, hx⟩ : ∃ e, l[k]? = some e := ⟨_, List.getElem?_eq_getElem (by rw [← HN.out]; exact hlt)⟩
        have HR : Hid (Below B w wr) := Lib.hid (HB.out.mono hB)
        obtain ⟨a, ha, hab, hc, hl2⟩ := (HY.out.below HR.out).at_ hx
        subst ha
        obtain ⟨m, hm⟩ : ∃ m, m = e.l.length := ⟨_, rfl⟩
        have hcap := (HK.out e (List.mem_of_getElem? hx)).cap
        have c5 : wr.cell? ⟨(a.add (k * 6)).block, (a.add (k * 6)).off + 5, none⟩ = some (.slice e.A m e.c) := by rw [hm]; exact cell_far (hc 5 _ rfl) (by omega)
        have FA := Lib.hid (fewall_any e.A e.l m e.c B wr hm hl2 (Nat.le_trans hB HB.out.size) (by rw [hm]; exact Nat.le_trans hcap.1 hcap.2))
        have HX := Lib.hid hx
        have HM := Lib.hid hm
        clear hc hl2 hcap hx hm
        cases hf : fewAll e.l
        · rw [hf] at FA
          clear hf
          go_wp2_with (go_at_call 53; (with_reducible refine (FA.out).mono ?_); rintro e w3 ⟨rfl, hb3⟩; have HB3 := Lib.hid (HB.out.trans (hb3.mono HB.out.size)); clear hb3)
          go_ret
          exact ⟨false, rfl, fun h => (Bool.noConfusion h), HB3.out⟩
        · have hm60 : m ≤ 60 := by rw [HM.out]; exact fewAll_len hf
          have HP := Lib.hid (all_take_succ (fun e : Le => fewAll e.l) l k _ HX.out HA.out hf)
          rw [hf] at FA
          clear hf
          go_wp2_with (go_at_call 53; (with_reducible refine (FA.out).mono ?_); rintro e2 w3 ⟨rfl, hb3⟩; have d5 : w3.cell? ⟨(a.add (k * 6)).block, (a.add (k * 6)).off + 5, none⟩ = some (.slice e.A m e.c) := (hb3.cell (cell_lt c5)).trans c5; have HB3 := Lib.hid (HB.out.trans (hb3.mono HB.out.size)); clear hb3)
          go_roundw
          case rel => exact ⟨k + 1, q + 1 + m, by go_num, by go_num, by omega, by omega, by omega, HP, HB3⟩
          case measure => simp [intOf]; omega
      · go_wp2_with fail
        go_ret
        exact ⟨_, rfl, fun h => by simp at h; omega, HB.out⟩
    · obtain rfl : k = n := by omega
      have HP : Hid ((l.all fun e => fewAll e.l) = true) := Lib.hid (by have := HA.out; rwa [List.take_of_length_le (by rw [← HN.out]; exact Nat.le_refl _)] at this)
      go_wp2_with fail
      go_ret
      exact ⟨_, rfl, fun h => ⟨by have := HN.out; simp at h; omega, by have := HP.out; rwa [List.all_eq_true] at this⟩, HB.out⟩
end Go.Proofs.Ytmldelgbmadegaa
