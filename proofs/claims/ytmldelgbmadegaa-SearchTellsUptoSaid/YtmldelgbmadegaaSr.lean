/- Whether a span is right: its names, its attributes. -/
import Derived.Test.YtmldelgbmadegaaSp
import Derived.Test.YtmldelgbmadegaaBs
import Derived.Deep.QuietTactic
import Derived.BigQuiet
import Derived.LoopTactic
import Derived.StillTailTactics
namespace Go.Proofs.Ytmldelgbmadegaa
open Go.RowKit
set_option linter.unusedVariables false
set_option maxRecDepth 100000

def nameB (s : ByteArray) : Bool := decide (1 ≤ s.size) && decide (s.size ≤ 16)
set_option maxHeartbeats 2000000 in
theorem name_any (s : ByteArray) (w : World) (hs : s.size ≤ maxLen) :
    Calls Try.prog 124 #[.string s] w fun e w' => e = .returned (.bool (nameB s)) ∧ w = w' := by
  simp only [maxLen] at hs
  have HF : Hid (nameB s = (decide (1 ≤ s.size) && decide (s.size ≤ 16))) := rfl
  generalize nameB s = b at *
  rcases Nat.eq_zero_or_pos s.size with h0 | h0
  · have hz : s.toList = [] := by
      obtain ⟨⟨l⟩⟩ := s
      have : l = [] := by simpa [ByteArray.size] using h0
      subst this; simp
    have HQ : Hid (b = false) := Lib.hid (by rw [HF.out]; simp [h0])
    have h1 : s.toList.isEmpty = true := by rw [hz]; rfl
    go_enter Try.func124, Try.ntmps124
    go_wp2_with fail
    go_ret
    exact ⟨by rw [HQ.out] <;> rfl, rfl⟩
  · have hz : ¬ s.toList = [] := by
      intro h
      obtain ⟨⟨l⟩⟩ := s
      have hh : (ByteArray.mk ⟨l⟩).toList.length = (ByteArray.mk ⟨l⟩).size := by simp; rfl
      rw [h] at hh
      simp at hh
      omega
    have h1 : s.toList.isEmpty = false := by simpa using hz
    have hcc : s.size ≤ 16 ∨ 16 < s.size := by omega
    rcases hcc with h2 | h2
    · have HQ : Hid (b = true) := Lib.hid (by rw [HF.out]; simp; omega)
      go_enter Try.func124, Try.ntmps124
      go_wp2_with fail
      go_ret
      exact ⟨by show Ending.returned (Value.bool (decide ((s.size : Int) ≤ 16))) = _; rw [HQ.out, decide_eq_true (by omega)], rfl⟩
    · have HQ : Hid (b = false) := Lib.hid (by rw [HF.out]; simp; omega)
      go_enter Try.func124, Try.ntmps124
      go_wp2_with fail
      go_ret
      exact ⟨by show Ending.returned (Value.bool (decide ((s.size : Int) ≤ 16))) = _; rw [HQ.out, decide_eq_false (by omega)], rfl⟩

def hasKeyB (l : List (ByteArray × ByteArray)) (k : ByteArray) : Bool := l.any fun a => a.1.toList == k.toList
set_option maxHeartbeats 4000000 in
theorem haskey_any (A : Option Addr) (l : List (ByteArray × ByteArray)) (n c B : Nat) (key : ByteArray) (w : World) (hn : n = l.length) (hy : Rd w B A (l.flatMap atC)) (hB : B ≤ w.heap.size) (hl : n ≤ maxLen) :
    Calls Try.prog 136 #[.slice A n c, .string key] w fun e w' => e = .returned (.bool (hasKeyB l key)) ∧ Below w.heap.size w w' := by
  simp only [maxLen] at hl
  have HN := Lib.hid hn
  have HY := Lib.hid hy
  have HF : Hid (hasKeyB l key = l.any fun a => a.1.toList == key.toList) := rfl
  generalize hasKeyB l key = b at *
  clear hn hy
  go_enter Try.func136, Try.ntmps136
  go_wp2_with fail
  go_loopw [9] (fun i wr => ∃ k : Nat, i = .int .i64 k ∧ k ≤ n ∧ Hid ((l.take k).any (fun a => a.1.toList == key.toList) = false) ∧ Hid (Below w.heap.size w wr)) (fun i _ => n - (intOf i).toNat)
  case atStart => exact ⟨0, rfl, Nat.zero_le _, Lib.hid (by simp), Lib.hid (Below.refl _ _)⟩
  case round =>
    obtain ⟨k, rfl, hk, HK, HB⟩ := hrel
    by_cases hlt : k < n
    · obtain ⟨x, hx⟩ : ∃ x, l[k]? = some x := ⟨_, List.getElem?_eq_getElem (by rw [← HN.out]; exact hlt)⟩
      obtain ⟨a, ha, hab, hc⟩ := (HY.out.below (HB.out.mono hB)) (by rw [flatMap_len _ 2 atC_len, ← HN.out]; omega)
      subst ha
      have g0 := flatMap_at atC 2 atC_len l k 0 (by omega)
      have g1 := flatMap_at atC 2 atC_len l k 1 (by omega)
      rw [hx] at g0 g1
      obtain ⟨y1, y2⟩ := x
      have c0 : wr.cell? (a.add (k * 2)) = some (.string y1) := hc (k * 2) _ g0
      have c1 : wr.cell? ⟨(a.add (k * 2)).block, (a.add (k * 2)).off + 1, none⟩ = some (.string y2) := cell_far (hc (k * 2 + 1) _ g1) (by omega)
      have HX := Lib.hid hx
      have HB2 := Lib.hid (HB.out.alloc HB.out.size (.cells #[.string y1, .string y2] 116))
      clear g0 g1 hc hx
      cases hyk : (y1.toList == key.toList)
      · have HK2 : Hid ((l.take (k + 1)).any (fun a => a.1.toList == key.toList) = false) := Lib.hid (by rw [List.take_add_one, HX.out]; simp [HK.out, hyk])
        go_wp2_with fail
        go_roundw
        case rel => exact ⟨k + 1, by go_num, by omega, HK2, HB2⟩
        case measure => simp [intOf]; omega
      · have HQ : Hid (b = true) := Lib.hid (by rw [HF.out, List.any_eq_true]; exact ⟨_, List.mem_of_getElem? HX.out, hyk⟩)
        go_wp2_with fail
        go_ret
        exact ⟨by rw [HQ.out] <;> rfl, HB2.out⟩
    · obtain rfl : k = n := by omega
      have HQ : Hid (b = false) := Lib.hid (by rw [HF.out]; have := HK.out; rwa [List.take_of_length_le (by rw [← HN.out]; exact Nat.le_refl _)] at this)
      go_wp2_with fail
      go_ret
      exact ⟨by rw [HQ.out] <;> rfl, HB.out⟩

def okAt (l : List (ByteArray × ByteArray)) (i : Nat) : Bool := match l[i]? with
  | some a => nameB a.1 && decide (a.2.size ≤ 16) && !hasKeyB (l.take i) a.1
  | none => true
def rightAts (l : List (ByteArray × ByteArray)) : Bool := decide (l.length ≤ 4) && (List.range l.length).all (okAt l)
theorem range_all_succ {p : Nat → Bool} {k : Nat} (h : (List.range k).all p = true) (hp : p k = true) : (List.range (k + 1)).all p = true := by
  rw [List.range_succ, List.all_append, h]; simp [hp]
theorem range_all_not {p : Nat → Bool} {k n : Nat} (hk : k < n) (hp : p k = false) : (List.range n).all p = false := by
  rw [List.all_eq_false]; exact ⟨k, List.mem_range.2 hk, by simp [hp]⟩
set_option maxHeartbeats 8000000 in
theorem rightattrs_any (A : Option Addr) (l : List (ByteArray × ByteArray)) (n c B : Nat) (w : World) (hn : n = l.length) (hy : Rd w B A (l.flatMap atC)) (hB : B ≤ w.heap.size) (hl : n ≤ c ∧ c ≤ maxLen) (hs : ∀ a ∈ l, a.1.size ≤ maxLen ∧ a.2.size ≤ maxLen) :
    Calls Try.prog 125 #[.slice A n c] w fun e w' => e = .returned (.bool (rightAts l)) ∧ Below w.heap.size w w' := by
  simp only [maxLen] at hl
  obtain ⟨hl1, hl2⟩ := hl
  have HN := Lib.hid hn
  have HY := Lib.hid hy
  have HS := Lib.hid hs
  have HF : Hid (rightAts l = (decide (n ≤ 4) && (List.range n).all (okAt l))) := Lib.hid (by rw [hn]; rfl)
  generalize rightAts l = b at *
  clear hn hy hs
  have hcc : 4 < n ∨ n ≤ 4 := by omega
  rcases hcc with h4 | h4
  · have HQ : Hid (b = false) := Lib.hid (by rw [HF.out]; simp; omega)
    go_enter Try.func125, Try.ntmps125
    go_wp2_with fail
    go_ret
    exact ⟨by rw [HQ.out] <;> rfl, Below.refl _ _⟩
  have HQ : Hid (b = (List.range n).all (okAt l)) := Lib.hid (by rw [HF.out]; simp [h4])
  go_enter Try.func125, Try.ntmps125
  go_wp2_with fail
  go_loopw [10] (fun i wr => ∃ k : Nat, i = .int .i64 k ∧ k ≤ n ∧ Hid ((List.range k).all (okAt l) = true) ∧ Hid (Below w.heap.size w wr)) (fun i _ => n - (intOf i).toNat)
  case atStart => exact ⟨0, rfl, Nat.zero_le _, Lib.hid (by simp), Lib.hid (Below.refl _ _)⟩
  case round =>
    obtain ⟨k, rfl, hk, HK, HB⟩ := hrel
    by_cases hlt : k < n
    · obtain ⟨x, hx⟩ : ∃ x, l[k]? = some x := ⟨_, List.getElem?_eq_getElem (by rw [← HN.out]; exact hlt)⟩
      have HR : Hid (Rd wr B A (l.flatMap atC)) := Lib.hid (HY.out.below (HB.out.mono hB))
      obtain ⟨a, ha, hab, hc⟩ := HR.out (by rw [flatMap_len _ 2 atC_len, ← HN.out]; omega)
      subst ha
      have g0 := flatMap_at atC 2 atC_len l k 0 (by omega)
      have g1 := flatMap_at atC 2 atC_len l k 1 (by omega)
      rw [hx] at g0 g1
      obtain ⟨s1, s2⟩ := HS.out x (List.mem_of_getElem? hx)
      have hok : okAt l k = (nameB x.1 && decide (x.2.size ≤ 16) && !hasKeyB (l.take k) x.1) := by unfold okAt; rw [hx]
      obtain ⟨y1, y2⟩ := x
      simp only at s1 s2 hok
      have c0 : wr.cell? (a.add (k * 2)) = some (.string y1) := hc (k * 2) _ g0
      have c1 : wr.cell? ⟨(a.add (k * 2)).block, (a.add (k * 2)).off + 1, none⟩ = some (.string y2) := cell_far (hc (k * 2 + 1) _ g1) (by omega)
      have HB2 := Lib.hid (HB.out.alloc HB.out.size (.cells #[.string y1, .string y2] 116))
      have hbw : B ≤ wr.heap.size := Nat.le_trans hB HB.out.size
      have HR2 : Hid (Rd (wr.alloc (.cells #[.string y1, .string y2] 116)) B (some a) ((l.take k).flatMap atC)) := Lib.hid (by
        have h := (HR.out.alloc hbw (.cells #[.string y1, .string y2] 116)).take (k * 2)
        have e : (l.flatMap atC).take (k * 2) = (l.take k).flatMap atC := by
          have h2 : l.flatMap atC = (l.take k).flatMap atC ++ (l.drop k).flatMap atC := by rw [← List.flatMap_append, List.take_append_drop]
          rw [h2, List.take_append_of_le_length (by rw [flatMap_len _ 2 atC_len, List.length_take]; have := HN.out; omega), List.take_of_length_le (by rw [flatMap_len _ 2 atC_len, List.length_take]; have := HN.out; omega)]
        rw [← e]; exact h)
      have d0 : (wr.alloc (.cells #[.string y1, .string y2] 116)).cell? ⟨wr.heap.size, 0, none⟩ = some (.string y1) := cell_of_row _ _ 0 _ _ (0, 0) (heap_alloc_new wr _)
      have d1 : (wr.alloc (.cells #[.string y1, .string y2] 116)).cell? ⟨wr.heap.size, 1, none⟩ = some (.string y2) := cell_of_row _ _ 1 _ _ (0, 0) (heap_alloc_new wr _)
      have hbw2 : B ≤ (wr.alloc (.cells #[.string y1, .string y2] 116)).heap.size := by simp; omega
      have NM := fun W => Lib.hid (name_any y1 W s1)
      have HKX : Hid (∀ W, Below B (wr.alloc (.cells #[.string y1, .string y2] 116)) W → Calls Try.prog 136 #[.slice (some a) k c, .string y1] W fun e w' => e = .returned (.bool (hasKeyB (l.take k) y1)) ∧ Below W.heap.size W w') := Lib.hid (fun W hW => haskey_any (some a) (l.take k) k c B y1 W (by rw [List.length_take]; have := HN.out; omega) (HR2.out.below hW) (Nat.le_trans hbw2 hW.size) (by unfold maxLen; omega))
      have HOK := Lib.hid hok
      simp only [maxLen] at s2
      have i1 : (0 : Int) ≤ k := by omega
      have i2 : (k : Int) ≤ c := by omega
      have i3 : (k : Int) ≤ n := by omega
      clear g0 g1 hc hx hok HR HR2
      cases hn1 : nameB y1
      · have HO : Hid ((List.range n).all (okAt l) = false) := Lib.hid (range_all_not hlt (by rw [HOK.out, hn1]; rfl))
        rw [hn1] at NM
        clear hn1
        go_wp2_with fail
        generalize wr.alloc (.cells #[.string y1, .string y2] 116) = W at *
        generalize hB0 : wr.heap.size = B0 at *
        go_quiet ((go_at_call 124; with_reducible exact Calls.quiet_of_same ((NM _).out.mono fun _ _ hh => ⟨hh.1, hh.2.symm⟩)))
        go_wp2_with fail
        go_ret
        exact ⟨by rw [HQ.out, HO.out] <;> rfl, HB2.out.trans ⟨rfl, rfl, rfl, Nat.le_refl _, fun _ _ => rfl⟩⟩
      · rw [hn1] at NM
        have hc2 : 16 < y2.size ∨ y2.size ≤ 16 := by omega
        rcases hc2 with h16 | h16
        · have HO : Hid ((List.range n).all (okAt l) = false) := Lib.hid (range_all_not hlt (by rw [HOK.out, decide_eq_false (by omega)]; simp))
          have hdB : decide ((16 : Int) < (y2.size : Int)) = true := decide_eq_true (by omega)
          clear hn1
          go_wp2_with fail
          generalize wr.alloc (.cells #[.string y1, .string y2] 116) = W at *
          generalize hB0 : wr.heap.size = B0 at *
          go_quiet ((go_at_call 124; with_reducible exact Calls.quiet_of_same ((NM _).out.mono fun _ _ hh => ⟨hh.1, hh.2.symm⟩)))
          go_wp2_with fail
          go_ret
          exact ⟨by rw [HQ.out, HO.out] <;> rfl, HB2.out.trans ⟨rfl, rfl, rfl, Nat.le_refl _, fun _ _ => rfl⟩⟩
        · have HO : Hid (okAt l k = !hasKeyB (l.take k) y1) := Lib.hid (by rw [HOK.out, hn1, decide_eq_true h16]; simp)
          have hdB : decide ((16 : Int) < (y2.size : Int)) = false := decide_eq_false (by omega)
          clear hn1
          go_wp2_with fail
          generalize wr.alloc (.cells #[.string y1, .string y2] 116) = W at *
          generalize hB0 : wr.heap.size = B0 at *
          have HD : Hid (Below B W W.drew) := Lib.hid ⟨rfl, rfl, rfl, Nat.le_refl _, fun _ _ => rfl⟩
          have HW := Lib.hid (HKX.out _ HD.out)
          have HBD : Hid (Below w.heap.size w W.drew) := Lib.hid (HB2.out.trans ⟨rfl, rfl, rfl, Nat.le_refl _, fun _ _ => rfl⟩)
          go_still_tail 16, (by kernel_rfl)
          still_call ((NM _).out.mono fun _ _ hh => ⟨hh.1, hh.2.symm⟩)
          repeat still_step
          refine wpStill_nil ?_
          change wpList _ _ _ _ _ W.drew
          generalize W.drew = W2 at *
          cases hkv : hasKeyB (l.take k) y1
          · have HOT : Hid ((List.range (k + 1)).all (okAt l) = true) := Lib.hid (range_all_succ HK.out (by rw [HO.out, hkv]; rfl))
            rw [hkv] at HW
            clear hkv
            go_wp2_with (go_at_call 136; (with_reducible refine (HW.out).mono ?_); rintro e w3 ⟨rfl, hb3⟩; have HB3 := Lib.hid (HBD.out.trans (hb3.mono HBD.out.size)); clear hb3)
            go_roundw
            case rel => exact ⟨k + 1, by go_num, by omega, HOT, HB3⟩
            case measure => simp [intOf]; omega
          · have HOF : Hid ((List.range n).all (okAt l) = false) := Lib.hid (range_all_not hlt (by rw [HO.out, hkv]; rfl))
            rw [hkv] at HW
            clear hkv
            go_wp2_with (go_at_call 136; (with_reducible refine (HW.out).mono ?_); rintro e w3 ⟨rfl, hb3⟩; have HB3 := Lib.hid (HBD.out.trans (hb3.mono HBD.out.size)); clear hb3)
            go_ret
            exact ⟨by rw [HQ.out, HOF.out] <;> rfl, HB3.out⟩
    · obtain rfl : k = n := by omega
      have HO : Hid ((List.range k).all (okAt l) = true) := HK
      go_wp2_with fail
      go_ret
      exact ⟨by rw [HQ.out, HO.out] <;> rfl, HB.out⟩
end Go.Proofs.Ytmldelgbmadegaa
