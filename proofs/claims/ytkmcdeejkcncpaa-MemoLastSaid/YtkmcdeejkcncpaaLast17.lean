/- MemoLast: the last verdicts are remembered, as many as may be, the newest first, on each trace one. -/
import Derived.Test.YtkmcdeejkcncpaaDed
import Derived.StillTailTactics
import Derived.Deep.RegionHeld3
import Derived.BigQuiet
import Derived.Deep.QuietTactic
namespace Go.Proofs.Ytkmcdeejkcncpaa
open Go.RowKit
set_option linter.unusedVariables false

theorem i64_and31 (n : Int) : bits .and .i64 n 31 = n % 32 := by
  have h31 : (BitVec.ofInt 64 31).toNat = 2 ^ 5 - 1 := by decide
  have key : (BitVec.ofInt 64 n &&& BitVec.ofInt 64 31).toNat = (n % ((2 ^ 64 : Nat) : Int)).toNat % 2 ^ 5 := by
    rw [BitVec.toNat_and, BitVec.toNat_ofInt, h31, Nat.and_two_pow_sub_one_eq_mod]
  show IntKind.i64.wrap ((BitVec.ofInt 64 n &&& BitVec.ofInt 64 31).toNat : Nat) = n % 32
  rw [key, IntKind.wrap_i64]
  omega

theorem Rd.cellm {w : World} {B : Nat} {A : Option Addr} {xs : List Value} (h : Rd w B A xs) {k : Nat} {u : Value} (hu : xs[k]? = some u) : ∃ b off, A = some ⟨b, off, none⟩ ∧ b < B ∧ w.cell? ⟨b, off + k, none⟩ = some u := by
  have hk : k < xs.length := by
    rcases Nat.lt_or_ge k xs.length with h | h
    · exact h
    · rw [List.getElem?_eq_none h] at hu; cases hu
  obtain ⟨a, rfl, hb, hc⟩ := h (by omega)
  have hs : a.spot = none := by
    obtain ⟨b, off, spot⟩ := a
    rcases spot with _ | s
    · rfl
    · have h00 := hc 0 (xs[0]'(by omega)) (List.getElem?_eq_getElem (by omega))
      simp [Addr.add, World.cell?] at h00
      split at h00 <;> simp at h00
  obtain ⟨b, off, spot⟩ := a
  simp only at hs
  subst hs
  have e2 : (⟨b, off, none⟩ : Addr).add k = ⟨b, off + k, none⟩ := by unfold Addr.add; split <;> simp_all
  exact ⟨b, off, rfl, hb, by rw [← e2]; exact hc k _ hu⟩

/-- The verdicts of the statement's two lists. -/
def Vm.vds (zs : List Int) (bs : List Bool) (n : Nat) : List Vm.V := (List.range n).map fun i => (0, (zs.getD i 0 % 32).toNat, bs.getD i false)
theorem Vm.vds_len (zs : List Int) (bs : List Bool) (n : Nat) : (Vm.vds zs bs n).length = n := by simp [Vm.vds]
theorem Vm.vds_at (zs : List Int) (bs : List Bool) (n k : Nat) (h : k < n) : (Vm.vds zs bs n)[k]'(by rw [Vm.vds_len]; exact h) = (0, (zs.getD k 0 % 32).toNat, bs.getD k false) := by simp [Vm.vds]

theorem own_dN {w : World} {b : Nat} {e : TypeId} {z : Nat} {v : Value} {q : Nat} {xs : List Value} (h : w.ownsRow b e z v q xs) (n : Nat) : (w.drewN n).ownsRow b e z v q xs := h
theorem Vm.ded_len (l : List Vm.V) : (Vm.ded l).length ≤ l.length := by
  have : ∀ (r acc : List Vm.V), (r.foldl Vm.dd acc).length ≤ acc.length + r.length := by
    intro r
    induction r with
    | nil => intro acc; simp
    | cons v r ih =>
      intro acc
      rw [List.foldl_cons, List.length_cons]
      have h := ih (Vm.dd acc v)
      have h2 : (Vm.dd acc v).length ≤ acc.length + 1 := by unfold Vm.dd; split <;> simp
      omega
  have h := this l []
  simpa [Vm.ded] using h
/-- Which traces were seen. -/
def Vm.seen (pre : List Vm.V) : List Value := (List.range 32).map fun k => .bool (pre.any fun o => o.2.1 == k)
theorem Vm.seen_at (pre : List Vm.V) (k : Nat) (h : k < 32) : (Vm.seen pre)[k]? = some (.bool (pre.any fun o => o.2.1 == k)) := by simp [Vm.seen, h]
theorem Vm.seen_set (pre : List Vm.V) (v : Vm.V) (h : v.2.1 < 32) : (Vm.seen pre).set v.2.1 (.bool true) = Vm.seen (pre ++ [v]) := by
  apply List.ext_getElem?
  intro i
  rw [List.getElem?_set]
  by_cases hi : v.2.1 = i
  · rw [if_pos hi, if_pos (by simp [Vm.seen]; omega), Vm.seen_at _ i (by omega)]
    simp [hi]
  · rw [if_neg hi]
    by_cases h32 : i < 32
    · rw [Vm.seen_at _ i h32, Vm.seen_at _ i h32]
      simp [hi]
    · rw [List.getElem?_eq_none (by simp [Vm.seen]; omega), List.getElem?_eq_none (by simp [Vm.seen]; omega)]
theorem Vm.seen_old (pre : List Vm.V) (v : Vm.V) (h : (pre.any fun o => o.2.1 == v.2.1) = true) : Vm.seen pre = Vm.seen (pre ++ [v]) := by
  unfold Vm.seen
  apply List.map_congr_left
  intro k _
  congr 1
  rw [List.any_append]
  by_cases hk : v.2.1 = k
  · subst hk; rw [h]; simp
  · simp [hk]
theorem Vm.ded_any (l : List Vm.V) (u : Vm.V) : (Vm.ded l).any (fun o => Vm.same o u) = l.any (fun o => Vm.same o u) := by
  have : ∀ (r acc : List Vm.V), (r.foldl Vm.dd acc).any (fun o => Vm.same o u) = (acc.any (fun o => Vm.same o u) || r.any (fun o => Vm.same o u)) := by
    intro r
    induction r with
    | nil => intro acc; simp
    | cons v r ih => intro acc; rw [List.foldl_cons, ih, Vm.dd_any, List.any_cons, Bool.or_assoc]
  have h := this l []
  rw [List.any_nil, Bool.false_or] at h
  exact h
/-- Of verdicts whose traces' high halves are all 0. -/
theorem Vm.any_low (l : List Vm.V) (v : Vm.V) (hl : ∀ o ∈ l, o.1 = 0) (hv : v.1 = 0) : l.any (fun o => Vm.same o v) = l.any (fun o => o.2.1 == v.2.1) := by
  induction l with
  | nil => rfl
  | cons o r ih =>
    rw [List.any_cons, List.any_cons, ih (fun x hx => hl x (by simp [hx]))]
    congr 1
    unfold Vm.same
    rw [hl o (by simp), hv]
    simp
theorem Vm.vds_low (zs : List Int) (bs : List Bool) (n : Nat) : ∀ o ∈ Vm.vds zs bs n, o.1 = 0 := by
  intro o ho
  unfold Vm.vds at ho
  obtain ⟨i, _, rfl⟩ := List.mem_map.1 ho
  rfl
theorem Vm.drop_rev (l : List Vm.V) (p : Nat) (h : p < l.length) : (l.drop p).reverse = (l.drop (p + 1)).reverse ++ [l[p]] := by
  rw [List.drop_eq_getElem_cons h, List.reverse_cons]

set_option maxHeartbeats 1000000 in
set_option maxRecDepth 100000 in
theorem last_out (tA : Option Addr) (n c : Nat) (kA : Option Addr) (kn kc : Nat) (m : Int) (w : World) (h : 80 < n ∨ kn < n ∨ m < 0 ∨ 40 < m) (hn : n ≤ maxLen) (hk : kn ≤ maxLen) :
    Calls Try.prog 3 #[.slice tA n c, .slice kA kn kc, .int .i64 m] w fun e w' => e = .returned (.bool true) ∧ Below w.heap.size w w' := by
  unfold maxLen at hn hk
  have hh : (80 < n) ∨ (¬ 80 < n ∧ kn < n) ∨ (¬ 80 < n ∧ ¬ kn < n ∧ m < 0) ∨ (¬ 80 < n ∧ ¬ kn < n ∧ ¬ m < 0 ∧ 40 < m) := by omega
  clear h
  rcases hh with h1 | ⟨h1, h2⟩ | ⟨h1, h2, h3⟩ | ⟨h1, h2, h3, h4⟩
  all_goals
    go_enter Try.func3, Try.ntmps3
    go_wp2_with (go_at_call 6; refine (alive17_calls _).mono ?_; rintro e w1 ⟨rfl, hb1⟩)
    go_ret
    exact ⟨rfl, hb1⟩

set_option maxHeartbeats 4000000 in
set_option maxRecDepth 100000 in
theorem last_in (tA : Option Addr) (zs : List Int) (n c : Nat) (kA : Option Addr) (bs : List Bool) (kn kc m : Nat) (w : World) (hn : n = zs.length) (hkn : kn = bs.length) (h80 : n ≤ 80) (hle : n ≤ kn) (hm : m ≤ 40) (hkm : kn ≤ maxLen)
    (hz : Rd w w.heap.size tA (zs.map (Value.int .i64))) (hk : Rd w w.heap.size kA (bs.map Value.bool)) :
    Calls Try.prog 3 #[.slice tA n c, .slice kA kn kc, .int .i64 m] w fun e w' => e = .returned (.bool true) ∧ Below w.heap.size w w' := by
  unfold maxLen at hkm
  have NZ := Lib.hid hn
  have NK := Lib.hid hkn
  have HZ := Lib.hid hz
  have HK := Lib.hid hk
  clear hn hkn hz hk
  have d1 : decide (80 < (n : Int)) = false := by simp; omega
  have d2 : decide (kn < n) = false := by simp; omega
  have d3 : decide ((m : Int) < 0) = false := by simp
  have d4 : decide (40 < (m : Int)) = false := by simp; omega
  have q1 : ¬ 80 < n := by omega
  have q2 : ¬ kn < n := by omega
  have q4 : ¬ 40 < m := by omega
  go_enter Try.func3, Try.ntmps3
  go_wp2_with (go_at_call 6; refine (alive17_calls _).mono ?_; rintro e w1 ⟨rfl, hb1⟩; have B1 := Lib.hid hb1; clear hb1)
  clear d1 d2 d3 d4 q1 q2 q4
  go_loopw [8, 9] (fun l i wr => ∃ (k q c' : Nat) (A' : Option Addr), k ≤ n ∧ i = .int .i64 k ∧ l = .slice A' q c' ∧ q ≤ k ∧ Hid (q = (Vm.play ((Vm.vds zs bs n).take k) m).length) ∧ Hid (Rd wr wr.heap.size A' (Vm.encs (Vm.play ((Vm.vds zs bs n).take k) m))) ∧ Hid (Below w.heap.size w wr)) (fun _ i _ => n - (intOf i).toNat)
  case atStart => exact ⟨0, 0, 0, none, by omega, rfl, rfl, by omega, Lib.hid rfl, Lib.hid Rd.nil, B1⟩
  case round =>
    obtain ⟨k, q, c', A', hkk, rfl, rfl, hq, HQ, HR, HW⟩ := hrel
    have hws := HW.out.size
    by_cases hlt : k < n
    · have hkz : k < zs.length := by have := NZ.out; omega
      have hkb : k < bs.length := by have := NK.out; omega
      obtain ⟨b1, o1, rfl, _, cz⟩ := (HZ.out.below HW.out).cellm (k := k) (u := .int .i64 (zs.getD k 0)) (by simp [List.getD, hkz])
      obtain ⟨b2, o2, rfl, _, ck⟩ := (HK.out.below HW.out).cellm (k := k) (u := .bool (bs.getD k false)) (by simp [List.getD, hkb])
      have hst := Vm.play_snoc (Vm.vds zs bs n) m k (by rw [Vm.vds_len]; exact hlt)
      rw [Vm.vds_at zs bs n k hlt] at hst
      have hpl := Vm.put_len (Vm.play ((Vm.vds zs bs n).take k) m) (0, (zs.getD k 0 % 32).toNat, bs.getD k false) m
      have e31 := i64_and31 (zs.getD k 0)
      have et : zs.getD k 0 % 32 = (((zs.getD k 0 % 32).toNat : Nat) : Int) := by omega
      rw [et] at e31
      have t32 : (zs.getD k 0 % 32).toNat < 32 := by omega
      clear et
      generalize (zs.getD k 0 % 32).toNat = t at *
      generalize zs.getD k 0 = z at *
      generalize bs.getD k false = bb at *
      have i0 : (0 : Int) ≤ (k : Int) := by omega
      have i1 : (k : Int) < (n : Int) := by omega
      have i2 : (k : Int) < (kn : Int) := by omega
      have HST := Lib.hid hst
      have HPL := Lib.hid hpl
      clear hst hpl
      generalize Vm.play ((Vm.vds zs bs n).take k) m = P at *
      have HP := Lib.hid (fun W (h : Rd W W.heap.size A' (Vm.encs P)) => mput_calls A' P q c' (0, t, bb) (m : Int) W HQ.out h (by have := HQ.out; omega))
      have HDR := Lib.hid (show Rd wr.drew wr.drew.heap.size A' (Vm.encs P) from HR.out)
      have HWD := Lib.hid (show Below w.heap.size w wr.drew from ⟨HW.out.os, HW.out.tape, HW.out.output, HW.out.size, HW.out.block⟩)
      have hwd : w.heap.size ≤ wr.drew.heap.size := hws
      go_wp2
      go_still_tail 14, (by kernel_rfl)
      change wpList _ _ _ _ _ wr.drew
      generalize wr.drew = w2 at *
      go_wp2_with (go_at_call 7; refine (HP.out _ HDR.out).mono ?_; rintro e w3 ⟨A3, n3, c3, rfl, hn3, hc3, hr3, hb3⟩; have HN3 := Lib.hid hn3; have HR3 := Lib.hid hr3; have HB3 := Lib.hid (HWD.out.trans (hb3.mono hwd)); clear hn3 hr3 hb3)
      go_roundw
      case rel => exact ⟨k + 1, n3, c3, A3, by omega, by go_num, rfl, by have := HN3.out; have := HPL.out; have := HQ.out; simp only [Int.toNat_natCast] at *; omega, by rw [HST.out]; exact HN3, by rw [HST.out]; exact HR3, HB3⟩
      case measure => simp [intOf]; omega
    · have hkn : n = k := by omega
      subst hkn
      have htk : (Vm.vds zs bs n).take n = Vm.vds zs bs n := List.take_of_length_le (by rw [Vm.vds_len]; omega)
      rw [htk, Vm.play_ded] at HQ HR
      clear htk
      have hO : (wr.alloc (.cells #[Value.bool false, Value.bool false, Value.bool false, Value.bool false, Value.bool false, Value.bool false, Value.bool false, Value.bool false, Value.bool false, Value.bool false, Value.bool false, Value.bool false, Value.bool false, Value.bool false, Value.bool false, Value.bool false, Value.bool false, Value.bool false, Value.bool false, Value.bool false, Value.bool false, Value.bool false, Value.bool false, Value.bool false, Value.bool false, Value.bool false, Value.bool false, Value.bool false, Value.bool false, Value.bool false, Value.bool false, Value.bool false] 32)).ownsRow wr.heap.size 32 1 (.slice (some ⟨wr.heap.size, 0, none⟩) 32 32) 32 (#[Value.bool false, Value.bool false, Value.bool false, Value.bool false, Value.bool false, Value.bool false, Value.bool false, Value.bool false, Value.bool false, Value.bool false, Value.bool false, Value.bool false, Value.bool false, Value.bool false, Value.bool false, Value.bool false, Value.bool false, Value.bool false, Value.bool false, Value.bool false, Value.bool false, Value.bool false, Value.bool false, Value.bool false, Value.bool false, Value.bool false, Value.bool false, Value.bool false, Value.bool false, Value.bool false, Value.bool false, Value.bool false] : Array Value).toList := World.ownsRow_lit wr #[Value.bool false, Value.bool false, Value.bool false, Value.bool false, Value.bool false, Value.bool false, Value.bool false, Value.bool false, Value.bool false, Value.bool false, Value.bool false, Value.bool false, Value.bool false, Value.bool false, Value.bool false, Value.bool false, Value.bool false, Value.bool false, Value.bool false, Value.bool false, Value.bool false, Value.bool false, Value.bool false, Value.bool false, Value.bool false, Value.bool false, Value.bool false, Value.bool false, Value.bool false, Value.bool false, Value.bool false, Value.bool false] 32 (Nat.le_refl _) (by unfold maxLen; omega) rfl
      have hB : Below wr.heap.size wr (wr.alloc (.cells #[Value.bool false, Value.bool false, Value.bool false, Value.bool false, Value.bool false, Value.bool false, Value.bool false, Value.bool false, Value.bool false, Value.bool false, Value.bool false, Value.bool false, Value.bool false, Value.bool false, Value.bool false, Value.bool false, Value.bool false, Value.bool false, Value.bool false, Value.bool false, Value.bool false, Value.bool false, Value.bool false, Value.bool false, Value.bool false, Value.bool false, Value.bool false, Value.bool false, Value.bool false, Value.bool false, Value.bool false, Value.bool false] 32)) := (Below.refl _ _).alloc (Nat.le_refl _) _
      have hO2 : (wr.alloc (.cells #[Value.bool false, Value.bool false, Value.bool false, Value.bool false, Value.bool false, Value.bool false, Value.bool false, Value.bool false, Value.bool false, Value.bool false, Value.bool false, Value.bool false, Value.bool false, Value.bool false, Value.bool false, Value.bool false, Value.bool false, Value.bool false, Value.bool false, Value.bool false, Value.bool false, Value.bool false, Value.bool false, Value.bool false, Value.bool false, Value.bool false, Value.bool false, Value.bool false, Value.bool false, Value.bool false, Value.bool false, Value.bool false] 32)).ownsRow wr.heap.size 32 1 (.slice (some ⟨wr.heap.size, 0, none⟩) 32 32) 32 (Vm.seen []) := hO
      have HO := Lib.hid hO2
      have HB := Lib.hid hB
      clear hO hO2 hB
      generalize hD : Vm.ded (Vm.vds zs bs n).reverse = D at *
      have HD := Lib.hid hD
      have hqm : q = min m D.length := by rw [HQ.out, List.length_take]
      have HQM := Lib.hid hqm
      have hDn : D.length ≤ n := by rw [← hD]; refine Nat.le_trans (Vm.ded_len _) ?_; rw [List.length_reverse, Vm.vds_len]; exact Nat.le_refl _
      clear hD HQ hqm
      generalize wr = wq at *
      go_wp2
      go_loopw [10, 12] (fun nn i wr => ∃ j F : Nat, j ≤ n ∧ i = .int .i64 ((j : Int) - 1) ∧ nn = .int .i64 F ∧ F ≤ n ∧ Hid (F = (Vm.ded ((Vm.vds zs bs n).drop j).reverse).length) ∧ Hid (wr.ownsRow wq.heap.size 32 1 (.slice (some ⟨wq.heap.size, 0, none⟩) 32 32) 32 (Vm.seen ((Vm.vds zs bs n).drop j).reverse)) ∧ Hid (Below wq.heap.size wq wr)) (fun _ i _ => (intOf i + 1).toNat)
      case atStart => exact ⟨n, 0, Nat.le_refl _, rfl, rfl, by omega, Lib.hid (by rw [List.drop_eq_nil_of_le (by rw [Vm.vds_len]; omega)]; rfl), by rw [List.drop_eq_nil_of_le (by rw [Vm.vds_len]; omega)]; exact HO, HB⟩
      case round =>
        obtain ⟨j, F, hj, rfl, rfl, hFn, HF, HS, HW2⟩ := hrel
        by_cases hj0 : 0 < j
        · obtain ⟨p, hp⟩ : ∃ p, j = p + 1 := ⟨j - 1, by omega⟩
          subst hp
          have hpn : p < n := by omega
          have ip : ((p + 1 : Nat) : Int) - 1 = (p : Int) := by omega
          rw [ip]
          have hpz : p < zs.length := by have := NZ.out; omega
          have hpb : p < bs.length := by have := NK.out; omega
          obtain ⟨b1, o1, rfl, _, cz⟩ := (((HZ.out.below HW.out).more hws).below HW2.out).cellm (k := p) (u := .int .i64 (zs.getD p 0)) (by simp [List.getD, hpz])
          obtain ⟨b2, o2, rfl, hb2k, ck⟩ := (((HK.out.below HW.out).more hws).below HW2.out).cellm (k := p) (u := .bool (bs.getD p false)) (by simp [List.getD, hpb])
          have e31 := i64_and31 (zs.getD p 0)
          have et : zs.getD p 0 % 32 = (((zs.getD p 0 % 32).toNat : Nat) : Int) := by omega
          rw [et] at e31
          have t32 : (zs.getD p 0 % 32).toNat < 32 := by omega
          clear et
          have hdr := Vm.drop_rev (Vm.vds zs bs n) p (by rw [Vm.vds_len]; omega)
          rw [Vm.vds_at zs bs n p hpn] at hdr
          have hlow : ∀ o ∈ ((Vm.vds zs bs n).drop (p + 1)).reverse, o.1 = 0 := fun o ho => Vm.vds_low zs bs n o (List.mem_of_mem_drop (List.mem_reverse.1 ho))
          have hpre : Vm.ded ((Vm.vds zs bs n).drop p).reverse <+: D := by
            have h := Vm.ded_prefix ((Vm.vds zs bs n).take p).reverse ((Vm.vds zs bs n).drop p).reverse
            rw [← List.reverse_append, List.take_append_drop] at h
            rw [← HD.out]; exact h
          generalize (zs.getD p 0 % 32).toNat = t at *
          generalize zs.getD p 0 = z at *
          generalize bs.getD p false = bb at *
          rw [hdr] at hpre
          have HDR := Lib.hid hdr
          clear hdr
          generalize ((Vm.vds zs bs n).drop (p + 1)).reverse = pre at *
          have hany := Vm.any_low pre (0, t, bb) hlow rfl
          have hsn := Vm.ded_snoc pre (0, t, bb)
          have hda := Vm.ded_any pre (0, t, bb)
          rw [hany] at hda
          simp only at hany hda
          obtain ⟨fz, cs, o9, g9⟩ := own_set HS.out (i := t) t32 (.bool true)
          rw [Vm.seen_at pre t t32] at cs
          rw [show (Vm.seen pre).set t (.bool true) = Vm.seen (pre ++ [(0, t, bb)]) from Vm.seen_set pre (0, t, bb) t32] at o9
          have i0 : (0 : Int) ≤ (p : Int) := by omega
          have i1 : (p : Int) < (n : Int) := by omega
          have i2 : (p : Int) < (kn : Int) := by omega
          have i3 : (0 : Int) ≤ (t : Int) := by omega
          have i4 : (t : Int) < 32 := by omega
          have hold := Vm.seen_old pre (0, t, bb)
          simp only at hold
          generalize (pre.any fun o => o.2.1 == t) = sn at *
          have O9 := Lib.hid o9
          have G9 := Lib.hid (g9.below HW2.out HW2.out.size (own_block_ge HS.out))
          clear o9 g9 hlow hany
          rcases sn with _ | _
          · have hd2 : Vm.ded (pre ++ [(0, t, bb)]) = Vm.ded pre ++ [(0, t, bb)] := by rw [hsn]; unfold Vm.dd; rw [hda]; rfl
            rw [hd2] at hpre
            have HPRE := Lib.hid hpre
            have HF2 : Hid (F + 1 = (Vm.ded (pre ++ [(0, t, bb)])).length) := by show _ = _; rw [hd2, List.length_append, ← HF.out]; rfl
            have hFD : F < D.length := by have h := hpre.length_le; rw [List.length_append, ← HF.out] at h; simp at h; omega
            have HDL := Lib.hid hFD
            by_cases hFm : F < m
            · have hFq2 : F < q := by rw [show q = min m D.length from HQM.out]; exact Nat.lt_min.2 ⟨hFm, HDL.out⟩
              have hlen : F < (D.take m).length := by rw [List.length_take]; omega
              have hat : (D.take m)[F] = (0, t, bb) := by
                have h1 : D[F]? = some (0, t, bb) := by
                  obtain ⟨r, hr⟩ := hpre
                  rw [← hr, List.append_assoc, List.getElem?_append_right (by rw [← HF.out]; exact Nat.le_refl _), ← HF.out]
                  simp
                have h2 : (D.take m)[F]? = some (0, t, bb) := by rw [List.getElem?_take, if_pos hFm]; exact h1
                rw [List.getElem?_eq_getElem hlen] at h2
                injection h2
              obtain ⟨b3, o3, rfl, hb3, c0, c1, c2⟩ := (HR.out.below HW2.out).verdict (l := D.take m) hlen
              rw [hat] at c0 c1 c2
              simp only at c0 c1 c2
              have w0 := (World.cell?_setCell_far wr ⟨wq.heap.size, t, none⟩ ⟨b3, o3 + F * 3, none⟩ (.bool true) (Nat.ne_of_gt hb3)).trans c0
              have w1' := (World.cell?_setCell_far wr ⟨wq.heap.size, t, none⟩ ⟨b3, o3 + F * 3 + 1, none⟩ (.bool true) (Nat.ne_of_gt hb3)).trans c1
              have w2' := (World.cell?_setCell_far wr ⟨wq.heap.size, t, none⟩ ⟨b3, o3 + F * 3 + 2, none⟩ (.bool true) (Nat.ne_of_gt hb3)).trans c2
              have w3' := (World.cell?_setCell_far wr ⟨wq.heap.size, t, none⟩ ⟨b2, o2 + p, none⟩ (.bool true) (Nat.ne_of_gt hb2k)).trans ck
              have j0 : (0 : Int) ≤ (F : Int) := by omega
              have j1 : (F : Int) < (q : Int) := by omega
              have j2 : (F : Int) < (m : Int) := by omega
              have j3 : decide (q ≤ F) = false := by simp; omega
              have b1e : ((0 : Int) == 0) = true := by simp
              have b2e : ((t : Int) == (t : Int)) = true := by simp
              have b3e : (bb == bb) = true := by simp
              clear hpre hat hlen hd2 hsn hda hold c0 c1 c2 ck hFD
              go_wp2
              go_quiet (fail)
              go_wp2
              go_roundw
              case rel => exact ⟨p, F + 1, by omega, by go_num, by go_num, by have := HDL.out; omega, by rw [HDR.out]; exact HF2, by rw [HDR.out]; exact Lib.hid (own_dN O9.out _), Lib.hid (below_drewN G9.out _)⟩
              case measure => simp [intOf]
            · have j2 : ¬ (F : Int) < (m : Int) := by omega
              clear hpre hd2 hsn hda hold hFD
              go_wp2
              go_roundw
              case rel => exact ⟨p, F + 1, by omega, by go_num, by go_num, by have := HDL.out; omega, by rw [HDR.out]; exact HF2, by rw [HDR.out]; exact O9, G9⟩
              case measure => simp [intOf]
          · have hd2 : Vm.ded (pre ++ [(0, t, bb)]) = Vm.ded pre := by rw [hsn]; unfold Vm.dd; rw [hda]; rfl
            have HS2 := Lib.hid (hold rfl)
            have HD2 := Lib.hid hd2
            clear hd2 hsn hda hold hpre fz O9 G9
            go_wp2
            go_roundw
            case rel => exact ⟨p, F, by omega, by go_num, rfl, hFn, by rw [HDR.out, HD2.out]; exact HF, by rw [HDR.out, ← HS2.out]; exact HS, HW2⟩
            case measure => simp [intOf]
        · obtain rfl : j = 0 := by omega
          rw [List.drop_zero, HD.out] at HF
          have hFD := HF.out
          subst hFD
          by_cases hFm : m < D.length
          · have hq2 : q = m := by rw [show q = min m D.length from HQM.out]; exact Nat.min_eq_left (by omega)
            clear HQM
            subst hq2
            go_wp2
            go_ret
            exact ⟨rfl, HW.out.trans (HW2.out.mono hws)⟩
          · have hq2 : q = D.length := by rw [show q = min m D.length from HQM.out]; exact Nat.min_eq_right (by omega)
            clear HQM
            subst hq2
            go_wp2
            go_ret
            exact ⟨rfl, HW.out.trans (HW2.out.mono hws)⟩
end Go.Proofs.Ytkmcdeejkcncpaa
