/- Which blocks are let go: the code's Choose. -/
import Derived.Test.YtchcjbapbdfhkaaBqf
import Derived.BigQuiet
import Derived.StillTailTactics
namespace Go.Proofs.Ytchcjbapbdfhkaa
open Go.RowKit Go.Maps
set_option linter.unusedVariables false
set_option linter.unusedSimpArgs false
set_option maxRecDepth 100000

/-- One number less another, the greatest or the least where it is too great. -/
def satR (a b : Int) : Int := if 0 < b ∧ a < -9223372036854775808 + b then -9223372036854775808 else if b < 0 ∧ 9223372036854775807 + b < a then 9223372036854775807 else a - b
set_option maxHeartbeats 4000000 in
theorem lessR_any (a b : Int) (w : World) (ha : -9223372036854775808 ≤ a ∧ a ≤ 9223372036854775807) (hb : -9223372036854775808 ≤ b ∧ b ≤ 9223372036854775807) :
    Calls Try.prog 75 #[.int .i64 a, .int .i64 b] w fun e w' => e = .returned (.int .i64 (satR a b)) ∧ w = w' := by
  obtain ⟨a1, a2⟩ := ha
  obtain ⟨b1, b2⟩ := hb
  have hc : (0 < b ∧ a < -9223372036854775808 + b) ∨ (0 < b ∧ ¬ a < -9223372036854775808 + b) ∨ (b < 0 ∧ 9223372036854775807 + b < a) ∨ (b < 0 ∧ ¬ 9223372036854775807 + b < a) ∨ b = 0 := by omega
  rcases hc with ⟨h1, h2⟩ | ⟨h1, h2⟩ | ⟨h1, h2⟩ | ⟨h1, h2⟩ | rfl
  · have HQ : Hid (satR a b = -9223372036854775808) := Lib.hid (by unfold satR; rw [if_pos ⟨h1, h2⟩])
    have d1 : decide (0 < b) = true := decide_eq_true h1
    have d2 : decide (a < -9223372036854775808 + b) = true := decide_eq_true h2
    rw [HQ.out]
    go_enter Try.func75, Try.ntmps75
    go_wp2_with fail
    go_ret
    exact ⟨rfl, rfl⟩
  · have HQ : Hid (satR a b = a - b) := Lib.hid (by unfold satR; rw [if_neg (by omega), if_neg (by omega)])
    have d1 : decide (0 < b) = true := decide_eq_true h1
    have d2 : decide (a < -9223372036854775808 + b) = false := decide_eq_false h2
    have d3 : decide (b < 0) = false := decide_eq_false (by omega)
    rw [HQ.out]
    go_enter Try.func75, Try.ntmps75
    go_wp2_with fail
    go_ret
    exact ⟨rfl, rfl⟩
  · have HQ : Hid (satR a b = 9223372036854775807) := Lib.hid (by unfold satR; rw [if_neg (by omega), if_pos ⟨h1, h2⟩])
    have d1 : decide (0 < b) = false := decide_eq_false (by omega)
    have d3 : decide (b < 0) = true := decide_eq_true h1
    have d2 : decide (9223372036854775807 + b < a) = true := decide_eq_true h2
    rw [HQ.out]
    go_enter Try.func75, Try.ntmps75
    go_wp2_with fail
    go_ret
    exact ⟨rfl, rfl⟩
  · have HQ : Hid (satR a b = a - b) := Lib.hid (by unfold satR; rw [if_neg (by omega), if_neg (by omega)])
    have d1 : decide (0 < b) = false := decide_eq_false (by omega)
    have d3 : decide (b < 0) = true := decide_eq_true h1
    have d2 : decide (9223372036854775807 + b < a) = false := decide_eq_false h2
    rw [HQ.out]
    go_enter Try.func75, Try.ntmps75
    go_wp2_with fail
    go_ret
    exact ⟨rfl, rfl⟩
  · have HQ : Hid (satR a 0 = a) := Lib.hid (by unfold satR; rw [if_neg (by omega), if_neg (by omega)]; omega)
    rw [HQ.out]
    go_enter Try.func75, Try.ntmps75
    go_wp2_with fail
    go_ret
    exact ⟨rfl, rfl⟩
theorem infoQi : (Try.prog.info? 3).map (fun i => (i.zero, i.size, i.bytes)) = some (some (.int .i64 0), 1, 8) := by kernel_rfl
theorem appQi {w : World} {ty : TypeId} {base : Nat} {v : Value} {l : List Int} (hown : w.ownsRow base 3 1 v (l).length ((l).map (Value.int .i64))) {B : Nat} {a : Addr} (x : Int) (hr : Rd w B (some a) [.int .i64 x]) (hl : l.length ≤ 1000000) (hbase : base ≤ w.heap.size) :
    ∃ v' w', (Builtin.append_ #[67, 67] ty #[v, .slice (some a) 1 1]).run Try.prog w = .ok v' w' ∧ (w'.ownsRow base 3 1 v' (l ++ [x]).length ((l ++ [x]).map (Value.int .i64)) ∧ Grew w w' v v') := by
  obtain ⟨i0, hi, hz0, hz1, hz2⟩ := info_parts infoQi
  obtain ⟨v', w', h1, h2, h3⟩ := run_append_rd (P := Try.prog) w base 67 ty 3 i0 _ 1 8 Try.underlying67 hi hz0 hz1 hz2 rfl v l.length (l.map (Value.int .i64)) hown B (some a) 1 1 [.int .i64 x] rfl hr (by simp [Value.oneCell']) (by unfold maxLen; omega) (by omega) hbase
  exact ⟨v', w', h1, by rw [List.length_append, List.map_append]; exact h2, h3⟩
theorem appQh {w : World} {ty : TypeId} {base : Nat} {v : Value} {l : List Hd} (hown : w.ownsRow base 112 3 v (l).length ((l).flatMap Hd.cells)) {B : Nat} {a : Addr} (x : Hd) (hr : Rd w B (some a) x.cells) (hl : l.length ≤ 1000000) (hbase : base ≤ w.heap.size) :
    ∃ v' w', (Builtin.append_ #[109, 109] ty #[v, .slice (some a) 1 1]).run Try.prog w = .ok v' w' ∧ (w'.ownsRow base 112 3 v' (l ++ [x]).length ((l ++ [x]).flatMap Hd.cells) ∧ Grew w w' v v') := by
  obtain ⟨i0, hi, hz0, hz1, hz2⟩ := info_parts rh_info
  obtain ⟨v', w', h1, h2, h3⟩ := run_append_rd (P := Try.prog) w base 109 ty 112 i0 _ 3 24 Try.underlying109 hi hz0 hz1 hz2 rfl v l.length (l.flatMap Hd.cells) hown B (some a) 1 1 x.cells rfl hr (rhcells_one1 x) (by unfold maxLen; omega) (by omega) hbase
  exact ⟨v', w', h1, by rw [List.length_append, List.flatMap_append]; simpa using h2, h3⟩
/-- The place of the first that was born first. -/
def mAt (l : List Hd) : Nat → Nat
  | 0 => 0
  | k + 1 => match l[k]?, l[mAt l k]? with
    | some b, some m => if b.bo < m.bo then k else mAt l k
    | _, _ => mAt l k
def minAt (l : List Hd) : Nat := mAt l l.length
theorem mAt_lt (l : List Hd) : ∀ k, k ≤ l.length → 0 < l.length → mAt l k < l.length
  | 0, _, h => h
  | k + 1, hk, h => by
    have ih := mAt_lt l k (by omega) h
    have h1 : l[k]? = some l[k] := List.getElem?_eq_getElem (by omega)
    have h2 : l[mAt l k]? = some l[mAt l k] := List.getElem?_eq_getElem ih
    unfold mAt
    rw [h1, h2]
    simp only
    split <;> omega
theorem mAt_step {l : List Hd} {k : Nat} {b m : Hd} (h1 : l[k]? = some b) (h2 : l[mAt l k]? = some m) : mAt l (k + 1) = if b.bo < m.bo then k else mAt l k := by
  conv => lhs; unfold mAt
  rw [h1, h2]
def totH (l : List Hd) : Nat := (l.map Hd.sz).sum
theorem totH_erase : ∀ (l : List Hd) (i : Nat) (m : Hd), l[i]? = some m → totH l = m.sz + totH (l.eraseIdx i)
  | [], i, m, h => by simp at h
  | x :: l, 0, m, h => by
    simp only [List.getElem?_cons_zero, Option.some.injEq] at h
    subst h
    simp [totH]
  | x :: l, i + 1, m, h => by
    have ih := totH_erase l i m (by simpa using h)
    unfold totH at *
    simp only [List.map_cons, List.sum_cons, List.eraseIdx_cons_succ] at *
    omega
def letGo (budget : Int) : Nat → List Hd → List Int
  | 0, _ => []
  | f + 1, l => if budget < (totH l : Int) ∧ 1 < l.length then (match l[minAt l]? with
    | some m => m.nu
    | none => 0) :: letGo budget f (l.eraseIdx (minAt l)) else []
theorem letGo_go {budget : Int} {f : Nat} {l : List Hd} {m : Hd} (h1 : budget < (totH l : Int)) (h2 : 1 < l.length) (hm : l[minAt l]? = some m) : letGo budget (f + 1) l = m.nu :: letGo budget f (l.eraseIdx (minAt l)) := by
  conv => lhs; unfold letGo
  rw [if_pos ⟨h1, h2⟩, hm]
theorem letGo_stop {budget : Int} {f : Nat} {l : List Hd} (h : ¬ (budget < (totH l : Int) ∧ 1 < l.length)) : letGo budget f l = [] := by
  cases f with
  | zero => rfl
  | succ f => unfold letGo; rw [if_neg h]
def tooOld (now keep : Int) (x : Bl) : Bool := decide (keep < satR now x.bo)
def Bl.hd (x : Bl) : Hd := ⟨x.nu, x.bo, x.bytes.length⟩
def goneL (now keep : Int) (l : List Bl) : List Int := (l.filter (tooOld now keep)).map Bl.nu
def othL (now keep : Int) (l : List Bl) : List Hd := (l.filter fun x => !tooOld now keep x).map Bl.hd
def choose (l : List Bl) (now keep budget : Int) : List Int := goneL now keep l ++ letGo budget (othL now keep l).length (othL now keep l)
theorem gone_old {now keep : Int} {l : List Bl} {k : Nat} {x : Bl} (h : l[k]? = some x) (ho : tooOld now keep x = true) : goneL now keep (l.take (k + 1)) = goneL now keep (l.take k) ++ [x.nu] ∧ othL now keep (l.take (k + 1)) = othL now keep (l.take k) := by
  unfold goneL othL
  rw [List.take_add_one, h, List.filter_append, List.filter_append]
  simp [ho]
theorem gone_not {now keep : Int} {l : List Bl} {k : Nat} {x : Bl} (h : l[k]? = some x) (ho : tooOld now keep x = false) : goneL now keep (l.take (k + 1)) = goneL now keep (l.take k) ∧ othL now keep (l.take (k + 1)) = othL now keep (l.take k) ++ [x.hd] := by
  unfold goneL othL
  rw [List.take_add_one, h, List.filter_append, List.filter_append]
  simp [ho]
theorem gone_len (now keep : Int) (l : List Bl) : (goneL now keep l).length ≤ l.length ∧ (othL now keep l).length ≤ l.length := by
  unfold goneL othL
  rw [List.length_map, List.length_map]
  exact ⟨List.length_filter_le _ _, List.length_filter_le _ _⟩
theorem totH_app (l : List Hd) (x : Hd) : totH (l ++ [x]) = totH l + x.sz := by
  unfold totH
  simp
set_option maxHeartbeats 4000000 in
theorem oldest_any (A : Option Addr) (n c B : Nat) (l : List Hd) (w : World) (hn : n = l.length) (hr : Rd w B A (l.flatMap Hd.cells)) (hB : B ≤ w.heap.size) (h0 : 0 < n) (hl : n ≤ 1000000) :
    Calls Try.prog 76 #[.slice A n c] w fun e w' => e = .returned (.int .i64 (minAt l : Nat)) ∧ Below w.heap.size w w' := by
  have HR := Lib.hid hr
  have HN := Lib.hid hn
  clear hr hn
  go_enter Try.func76, Try.ntmps76
  go_wp2_with fail
  go_loopw [8, 3] (fun iv av wr => ∃ k : Nat, iv = .int .i64 (k : Int) ∧ av = .int .i64 ((mAt l k : Nat) : Int) ∧ k ≤ n ∧ Hid (Below w.heap.size w wr)) (fun iv _ _ => n - (intOf iv).toNat)
  case atStart => exact ⟨0, rfl, rfl, Nat.zero_le _, Lib.hid (Below.refl _ _)⟩
  case round =>
    obtain ⟨k, rfl, rfl, hk, HB⟩ := hrel
    by_cases hlt : k < n
    · obtain ⟨b, hb⟩ : ∃ b, l[k]? = some b := ⟨_, List.getElem?_eq_getElem (by rw [← HN.out]; exact hlt)⟩
      have hmlt := mAt_lt l k (by rw [← HN.out]; omega) (by rw [← HN.out]; omega)
      obtain ⟨m, hm⟩ : ∃ m, l[mAt l k]? = some m := ⟨_, List.getElem?_eq_getElem hmlt⟩
      have hst := mAt_step hb hm
      have hR := HR.out.below (HB.out.mono hB)
      obtain ⟨a, ha, hab, hc⟩ := rh_at hR hb
      subst ha
      obtain ⟨a2, ha2, _, hc2⟩ := rh_at hR hm
      injection ha2 with ha2
      subst ha2
      rw [← HN.out] at hmlt
      obtain ⟨q, hq⟩ : ∃ q, q = mAt l k := ⟨_, rfl⟩
      rw [← hq] at hm hst hmlt hc2 ⊢
      have HST := Lib.hid hst
      have HQ := Lib.hid hq
      obtain ⟨b0, b1, b2⟩ := b
      obtain ⟨m0, m1, m2⟩ := m
      have c0 := hc 0 _ rfl
      have c1 := cell_far (hc 1 _ rfl) (by omega)
      have c2 := cell_far (hc 2 _ rfl) (by omega)
      have e1 := cell_far (hc2 1 _ rfl) (by omega)
      simp only [Nat.add_zero] at c0
      simp only at c1 c2 e1
      have i0 : (0 : Int) ≤ (q : Int) := by omega
      have i1 : (q : Int) < (n : Int) := by omega
      have ha1 : (a.add (k * 3)).block < wr.heap.size := by rw [block_add]; have := HB.out.size; omega
      have ha2 : (a.add (q * 3)).block < wr.heap.size := by rw [block_add]; have := HB.out.size; omega
      have hBA := HB.out.alloc HB.out.size (.cells #[.int .i64 b0, .int .i64 b1, .int .i64 (b2 : Int)] 112)
      have HBA : Hid (Below w.heap.size w (wr.alloc (.cells #[.int .i64 b0, .int .i64 b1, .int .i64 (b2 : Int)] 112)).drew) := Lib.hid ⟨hBA.os, hBA.tape, hBA.output, hBA.size, hBA.block⟩
      clear hb hm hst hq hR hc hc2 hBA
      by_cases hbm : b1 < m1
      · have d1 : decide (b1 < m1) = true := decide_eq_true hbm
        have HS2 : Hid (mAt l (k + 1) = k) := Lib.hid (by rw [HST.out, if_pos hbm])
        clear hbm
        go_upto_region 5 with fail
        go_quiet (fail)
        go_wp2_with fail
        go_roundw
        case rel => exact ⟨k + 1, by go_num, by rw [HS2.out], by omega, Lib.hid ⟨HBA.out.os, HBA.out.tape, HBA.out.output, HBA.out.size, HBA.out.block⟩⟩
        case measure => simp [intOf]; omega
      · have d1 : decide (b1 < m1) = false := decide_eq_false hbm
        have HS2 : Hid (mAt l (k + 1) = q) := Lib.hid (by rw [HST.out, if_neg hbm])
        clear hbm
        go_upto_region 5 with fail
        go_quiet (fail)
        go_wp2_with fail
        go_roundw
        case rel => exact ⟨k + 1, by go_num, by rw [HS2.out], by omega, Lib.hid ⟨HBA.out.os, HBA.out.tape, HBA.out.output, HBA.out.size, HBA.out.block⟩⟩
        case measure => simp [intOf]; omega
    · obtain rfl : k = n := by omega
      go_wp2_with fail
      go_ret
      exact ⟨by unfold minAt; rw [← HN.out] <;> rfl, HB.out⟩
end Go.Proofs.Ytchcjbapbdfhkaa
