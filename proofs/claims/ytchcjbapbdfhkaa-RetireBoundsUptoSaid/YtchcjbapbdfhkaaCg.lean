/- A sum's bytes, written and read; check.Append, check.Cut. -/
import Derived.Test.YtchcjbapbdfhkaaPuta
import Derived.Test.YtchcjbapbdfhkaaGet
import Derived.Test.YtchcjbapbdfhkaaCk
import Derived.Test.YtchcjbapbdfhkaaPl
import Derived.BigQuiet
import Derived.Deep.QuietTactic
namespace Go.Proofs.Ytchcjbapbdfhkaa
open Go.RowKit
set_option linter.unusedVariables false

/-- A number's four bytes, as the walk meets them. -/
theorem le4_vals (x : Nat) (hx : x < 4294967296) : ∃ u0 u1 u2 u3 z1 z2 : Nat, u0 < 256 ∧ u1 < 256 ∧ u2 < 256 ∧ u3 < 256 ∧ z1 < 4294967296 ∧ z2 < 4294967296 ∧
    (x : Int) % 256 = (u0 : Int) ∧ (z1 : Int) % 256 = (u1 : Int) ∧ (z2 : Int) % 256 = (u2 : Int) ∧ (x : Int) / 256 = (z1 : Int) ∧ (x : Int) / 65536 = (z2 : Int) ∧ (x : Int) / 16777216 = (u3 : Int) ∧
    bits .and .u32 (x : Int) 255 = (u0 : Int) ∧ bits .and .u32 (z1 : Int) 255 = (u1 : Int) ∧ bits .and .u32 (z2 : Int) 255 = (u2 : Int) ∧
    (Cm.le4 x).map B8 = [.int .u8 (u0 : Int), .int .u8 (u1 : Int), .int .u8 (u2 : Int), .int .u8 (u3 : Int)] := by
  refine ⟨x % 256, x / 256 % 256, x / 65536 % 256, x / 16777216, x / 256, x / 65536, by omega, by omega, by omega, by omega, by omega, by omega, by omega, by omega, by omega, by omega, by omega, by omega, and255 x hx, and255 _ (by omega), and255 _ (by omega), ?_⟩
  have h3 : x / 16777216 % 256 = x / 16777216 := by omega
  simp only [Cm.le4, List.map_cons, List.map_nil, B8, Cm.toNat_mod]
  rw [h3]

set_option maxHeartbeats 1000000 in
set_option maxRecDepth 100000 in
theorem appendsum_calls (base : Nat) (v : Value) (l : List UInt8) (x : Nat) (w : World) (hown : w.ownsRow base 5 1 v l.length (l.map B8)) (hbase : base ≤ w.heap.size) (hl : l.length ≤ 4294967200) (hx : x < 4294967296) :
    Calls Try.prog 82 #[v, .int .u32 x] w fun e w' => ∃ v', e = .returned v' ∧ w'.ownsRow base 5 1 v' (l ++ Cm.le4 x).length ((l ++ Cm.le4 x).map B8) ∧ Grew w w' v v' := by
  obtain ⟨u0, u1, u2, u3, z1, z2, a0, a1, a2, a3, a4, a5, e0, e1, e2, d1, d2, d3, _, _, _, hL⟩ := le4_vals x hx
  have HL := Lib.hid hL
  have HO := Lib.hid hown
  clear hL hown
  go_enter Try.func82, Try.ntmps82
  go_wp2_with (at_builtin; refine wpList_app rfl (.tmp 5) (.tmp 17) _ _ rfl rfl rfl (appB (l := Cm.le4 x) (HO.out.alloc _) (by rw [HL.out]; exact Rd.lit w _ _) (by rw [Fm.le4_len]; omega) (by simp; omega)) ?_; rintro v1 w1 ⟨ho1, hg1⟩)
  go_ret
  exact ⟨v1, rfl, ho1, hg1.alloc⟩

set_option maxHeartbeats 1000000 in
set_option maxRecDepth 100000 in
theorem four_calls (x : Nat) (w : World) (hx : x < 4294967296) :
    Calls Try.prog 89 #[.int .u32 x] w fun e w' => ∃ v', e = .returned v' ∧ w'.ownsRow w.heap.size 5 1 v' (Cm.le4 x).length ((Cm.le4 x).map B8) ∧ Grew w w' (.slice none 0 0) v' := by
  obtain ⟨u0, u1, u2, u3, z1, z2, a0, a1, a2, a3, a4, a5, _, _, _, d1, d2, d3, e0, e1, e2, hL⟩ := le4_vals x hx
  have HL := Lib.hid hL
  clear hL
  go_enter Try.func89, Try.ntmps89
  go_wp2
  go_ret
  refine ⟨_, rfl, ?_, ?_⟩
  · rw [HL.out]
    exact World.ownsRow_lit w _ 4 (Nat.le_refl _) (by unfold maxLen; omega) rfl
  · exact ⟨⟨rfl, rfl, rfl, by simp, fun k hk _ => Below.heap_alloc w _ k hk⟩, .inr ⟨_, rfl, Nat.le_refl _⟩⟩

/-- Bytes lie in a plain block. -/
theorem Rd.plain {w : World} {B : Nat} {A : Option Addr} {l : List UInt8} (h : Rd w B A (l.map B8)) (hl : 0 < l.length) : ∃ b off, A = some ⟨b, off, none⟩ ∧ b < B ∧ ∀ j, j < l.length → w.cell? ⟨b, off + j, none⟩ = some (.int .u8 ((l.getD j 0).toNat : Int)) := by
  have hm : ∀ j, j < l.length → (l.map B8)[j]? = some (.int .u8 ((l.getD j 0).toNat : Int)) := fun j hj => by simp [B8, List.getD, hj]
  obtain ⟨a, rfl, hb, hc⟩ := h (by simpa using hl)
  have hs : a.spot = none := by
    obtain ⟨b, off, spot⟩ := a
    rcases spot with _ | s
    · rfl
    · have h00 := hc 0 _ (hm 0 hl)
      simp [Addr.add, World.cell?] at h00
      split at h00 <;> simp at h00
  obtain ⟨b, off, spot⟩ := a
  simp only at hs
  subst hs
  have e : ∀ j, (⟨b, off, none⟩ : Addr).add j = ⟨b, off + j, none⟩ := by
    intro j; unfold Addr.add; split <;> simp_all
  exact ⟨b, off, rfl, hb, fun j hj => by rw [← e]; exact hc _ _ (hm j hj)⟩

theorem shl_or (a b c d : Nat) (ha : a < 256) (hb : b < 256) (hc : c < 256) (hd : d < 256) :
    bits .or .u32 (bits .or .u32 (bits .or .u32 (a : Int) ((b * 256 : Nat) : Int)) ((c * 65536 : Nat) : Int)) ((d * 16777216 : Nat) : Int) = ((a + b * 256 + c * 65536 + d * 16777216 : Nat) : Int) := by
  rw [u32_or_nat a (b * 256) (by omega) (by omega), Nat.or_comm, nat_join 8 (b * 256) a (by omega) (by omega)]
  rw [u32_or_nat _ (c * 65536) (by omega) (by omega), Nat.or_comm, nat_join 16 (c * 65536) _ (by omega) (by omega)]
  rw [u32_or_nat _ (d * 16777216) (by omega) (by omega), Nat.or_comm, nat_join 24 (d * 16777216) _ (by omega) (by omega)]
  congr 1; omega

set_option maxHeartbeats 1000000 in
set_option maxRecDepth 100000 in
theorem cget_calls (A : Option Addr) (l : List UInt8) (n c B : Nat) (w : World) (hn : n = l.length) (hb : Rd w B A (l.map B8)) (h4 : 4 ≤ l.length) (hl : l.length ≤ 140737488355328) :
    Calls Try.prog 84 #[.slice A n c] w fun e w' => e = .returned (.int .u32 (Fm.val4 l : Nat)) ∧ ∃ k, w' = w.drewN k := by
  obtain ⟨b, off, rfl, _, hc⟩ := hb.plain (by omega)
  have c0 : w.cell? ⟨b, off, none⟩ = some (.int .u8 ((l.getD 0 0).toNat : Int)) := hc 0 (by omega)
  have c1 := hc 1 (by omega)
  have c2 := hc 2 (by omega)
  have c3 := hc 3 (by omega)
  have HV : Hid (Fm.val4 l = (l.getD 0 0).toNat + (l.getD 1 0).toNat * 256 + (l.getD 2 0).toNat * 65536 + (l.getD 3 0).toNat * 16777216) := rfl
  have b0 : (l.getD 0 0).toNat < 256 := (l.getD 0 0).toNat_lt
  have b1 : (l.getD 1 0).toNat < 256 := (l.getD 1 0).toNat_lt
  have b2 : (l.getD 2 0).toNat < 256 := (l.getD 2 0).toNat_lt
  have b3 : (l.getD 3 0).toNat < 256 := (l.getD 3 0).toNat_lt
  clear hc hb
  generalize (l.getD 0 0).toNat = v0 at *
  generalize (l.getD 1 0).toNat = v1 at *
  generalize (l.getD 2 0).toNat = v2 at *
  generalize (l.getD 3 0).toNat = v3 at *
  have e := shl_or v0 v1 v2 v3 b0 b1 b2 b3
  rw [← HV.out] at e
  have i0 : (0 : Int) < (n : Int) := by omega
  have i1 : (1 : Int) < (n : Int) := by omega
  have i2 : (2 : Int) < (n : Int) := by omega
  have i3 : (3 : Int) < (n : Int) := by omega
  have j0 : 0 < n := by omega
  have j1 : 1 < n := by omega
  have j2 : 2 < n := by omega
  have j3 : 3 < n := by omega
  have j4 : ¬ n < 4 := by omega
  have nl : n ≤ 140737488355328 := by omega
  clear hn hl h4
  have m1 : (v1 : Int) * 256 = ((v1 * 256 : Nat) : Int) := by omega
  have m2 : (v2 : Int) * 65536 = ((v2 * 65536 : Nat) : Int) := by omega
  have m3 : (v3 : Int) * 16777216 = ((v3 * 16777216 : Nat) : Int) := by omega
  rw [← m1, ← m2, ← m3] at e
  have E := Lib.hid e
  clear m1 m2 m3 e
  go_enter Try.func84, Try.ntmps84
  go_wp2
  go_quiet (fail)
  go_wp2
  go_ret
  refine ⟨congrArg Ending.returned (congrArg (Value.int .u32) E.out), nq, rfl⟩

theorem val4_take (l : List UInt8) (h : 4 ≤ l.length) : Fm.val4 (l.take 4) = Fm.val4 l := by
  match l, h with
  | a :: b :: c :: d :: r, _ => rfl

theorem below_draw3 (w : World) (n : Nat) : Below w.heap.size w (w.drewN n) := ⟨rfl, rfl, rfl, Nat.le_refl _, fun _ _ => rfl⟩

set_option maxHeartbeats 2000000 in
set_option maxRecDepth 100000 in
theorem checkappend_calls (base : Nat) (v : Value) (l : List UInt8) (w : World) (hown : w.ownsRow base 5 1 v l.length (l.map B8)) (hbase : base ≤ w.heap.size) (hl : l.length ≤ 100000000) :
    Calls Try.prog 49 #[v] w fun e w' => ∃ v', e = .returned v' ∧ w'.ownsRow base 5 1 v' (l ++ Cm.le4 (Cm.sum l)).length ((l ++ Cm.le4 (Cm.sum l)).map B8) ∧ Grew w w' v v' := by
  obtain ⟨A, c, rfl, _, hr⟩ := own_rd hown
  have HC := Lib.hid (sumN A l l.length c w.heap.size w rfl hr (by omega))
  have HD := Lib.hid (appendsum_calls base _ l (Cm.sum l) w hown hbase (by omega) (Cm.sum_lt l))
  clear hown hr
  go_enter Try.func49, Try.ntmps49
  go_wp2_with (first
    | (go_at_call 83; (with_reducible refine (HC.out).mono ?_); rintro e w1 ⟨rfl, rfl⟩)
    | (go_at_call 82; (with_reducible refine (HD.out).mono ?_); rintro e w2 ⟨v2, rfl, ho, hg⟩; have HO := Lib.hid ho; have HG := Lib.hid hg; clear ho hg))
  go_ret
  exact ⟨v2, rfl, HO.out, HG.out⟩

namespace Ct
/-- What stands ahead of its own sum. -/
def ok (l : List UInt8) : Prop := 4 ≤ l.length ∧ Fm.val4 (l.drop (l.length - 4)) = Cm.sum (l.take (l.length - 4))
instance (l : List UInt8) : Decidable (ok l) := by unfold ok; infer_instance
end Ct
def CutOf (A : Option Addr) (l : List UInt8) (n c : Nat) (w : World) (e : Ending) (w' : World) : Prop := (∃ k, w' = w.drewN k) ∧ e = .returned (if Ct.ok l then .tuple #[.slice A (n - 4) c, .bool true] else .tuple #[.slice none 0 0, .bool false])
set_option maxHeartbeats 4000000 in
set_option maxRecDepth 100000 in
theorem cut_calls (A : Option Addr) (l : List UInt8) (n c B : Nat) (w : World) (hn : n = l.length) (hb : Rd w B A (l.map B8)) (hc : n ≤ c) (hl : n ≤ 1000000) :
    Calls Try.prog 50 #[.slice A n c] w (CutOf A l n c w) := by
  by_cases h4 : n < 4
  · have hk : ¬ Ct.ok l := fun h => by have := h.1; omega
    have HP : Hid (∀ e, e = .returned (.tuple #[.slice none 0 0, .bool false]) → CutOf A l n c w e w) := Lib.hid (fun e he => ⟨⟨0, rfl⟩, by rw [if_neg hk]; exact he⟩)
    have hd : decide (n < 4) = true := decide_eq_true h4
    clear hk hn hb
    go_enter Try.func50, Try.ntmps50
    go_wp2_with fail
    go_ret2
    exact HP.out _ rfl
  · obtain ⟨m, hm⟩ : ∃ m, n = m + 4 := ⟨n - 4, by omega⟩
    obtain ⟨b, off, rfl, hbB, _⟩ := hb.plain (by omega)
    have hd : decide (n < 4) = false := decide_eq_false h4
    have he : (n : Int) - 4 = (m : Int) := by omega
    have hl4 : (l.drop m).length = 4 := by rw [List.length_drop]; omega
    have hdr := hb.drop (k := m) (cap := c) (by rw [List.length_map]; omega)
    rw [if_neg (by omega), ← List.map_drop] at hdr
    have hadd : (⟨b, off, none⟩ : Addr).add m = ⟨b, off + m, none⟩ := by unfold Addr.add; split <;> simp_all
    change Rd w B (some ((⟨b, off, none⟩ : Addr).add m)) _ at hdr
    rw [hadd] at hdr
    have HG := fun W k (hW : W = w.drewN k) => Lib.hid (cget_calls (some ⟨b, off + m, none⟩) (l.drop m) 4 (c - m) B W hl4.symm (by rw [hW]; exact hdr.drewN k) (by omega) (by omega))
    have htk := hb.take m
    rw [← List.map_take] at htk
    have HS := fun W k (hW : W = w.drewN k) => Lib.hid (sumN (some ⟨b, off, none⟩) (l.take m) m c B W (by rw [List.length_take]; omega) (by rw [hW]; exact htk.drewN k) (by rw [List.length_take]; omega))
    have hok : Ct.ok l ↔ Fm.val4 (l.drop m) = Cm.sum (l.take m) := by
      have e1 : l.length - 4 = m := by omega
      unfold Ct.ok
      rw [e1]
      exact ⟨fun h => h.2, fun h => ⟨by omega, h⟩⟩
    have e1 : n - 4 = m := by omega
    have HE := Lib.hid e1
    have i1 : (0 : Int) ≤ m := by omega
    have i2 : (m : Int) ≤ n := by omega
    have i3 : (m : Int) ≤ c := by omega
    have i4 : m ≤ n := by omega
    have i5 : m ≤ c := by omega
    have i6 : (c = m) = False := by simp; omega
    have i7 : n - m = 4 := by omega
    have HOK := Lib.hid hok
    clear hok hn hb hdr htk e1 hl4 hm hadd
    generalize Fm.val4 (l.drop m) = x at *
    generalize Cm.sum (l.take m) = y at *
    go_enter Try.func50, Try.ntmps50
    have hnd : decide ((n : Int) < 4) = false := decide_eq_false (by omega)
    go_wp2_with fail
    go_quiet ((first | (go_at_call 84; with_reducible exact Calls.quiet_of ((HG _ _ rfl).out.mono fun _ _ hh => ⟨hh.1, hh.2⟩)) | (go_at_call 83; with_reducible exact Calls.quiet_of_same ((HS _ _ rfl).out.mono fun _ _ hh => ⟨hh.1, hh.2.symm⟩))))
    by_cases hxy : x = y
    · have HT : Hid (∀ e W, (∃ k, W = w.drewN k) → e = .returned (.tuple #[.slice (some ⟨b, off, none⟩) m c, .bool true]) → CutOf (some ⟨b, off, none⟩) l n c w e W) := Lib.hid (fun e W hW he => ⟨hW, by rw [if_pos (HOK.out.2 hxy), HE.out]; exact he⟩)
      subst hxy
      clear HOK
      go_wp2_with fail
      go_ret2
      exact HT.out _ _ ⟨_, rfl⟩ rfl
    · have HT : Hid (∀ e W, (∃ k, W = w.drewN k) → e = .returned (.tuple #[.slice none 0 0, .bool false]) → CutOf (some ⟨b, off, none⟩) l n c w e W) := Lib.hid (fun e W hW he => ⟨hW, by rw [if_neg (fun h => hxy (HOK.out.1 h))]; exact he⟩)
      have hb1 : ((x : Int) == (y : Int)) = false := by simp; omega
      have hb2 : ((x : Int) != (y : Int)) = true := by simp; omega
      clear hxy HOK
      go_wp2_with fail
      go_ret2
      exact HT.out _ _ ⟨_, rfl⟩ rfl
end Go.Proofs.Ytchcjbapbdfhkaa
