/- What the code and the document write of a record; a sum's bytes, written and read. -/
import Derived.Test.YtbdiamhhlabojaaDoorPuta
import Derived.Test.YtbdiamhhlabojaaDoorGet
import Derived.Test.YtbdiamhhlabojaaDoorCr
import Derived.Test.YtbdiamhhlabojaaDoorPl
import Derived.BigQuiet
import Derived.Deep.QuietTactic
namespace Go.Proofs.YtbdiamhhlabojaaDoor
open Go.RowKit
set_option linter.unusedVariables false

/-- A number's four bytes, as the walk meets them. -/
theorem le4_vals (x : Nat) (hx : x < 4294967296) : ∃ u0 u1 u2 u3 z1 z2 : Nat, u0 < 256 ∧ u1 < 256 ∧ u2 < 256 ∧ u3 < 256 ∧ z1 < 4294967296 ∧ z2 < 4294967296 ∧
    (x : Int) % 256 = (u0 : Int) ∧ (z1 : Int) % 256 = (u1 : Int) ∧ (z2 : Int) % 256 = (u2 : Int) ∧ (x : Int) / 256 = (z1 : Int) ∧ (x : Int) / 65536 = (z2 : Int) ∧ (x : Int) / 16777216 = (u3 : Int) ∧
    bits .and .u32 (x : Int) 255 = (u0 : Int) ∧ bits .and .u32 (z1 : Int) 255 = (u1 : Int) ∧ bits .and .u32 (z2 : Int) 255 = (u2 : Int) ∧
    (Cm.le4 x).map B8 = [.int .u8 (u0 : Int), .int .u8 (u1 : Int), .int .u8 (u2 : Int), .int .u8 (u3 : Int)] := by
  refine ⟨x % 256, x / 256 % 256, x / 65536 % 256, x / 16777216, x / 256, x / 65536, by omega, by omega, by omega, by omega, by omega, by omega, by omega, by omega, by omega, by omega, by omega, by omega, and255 x hx, and255 _ (by omega), and255 _ (by omega), ?_⟩
  have h3 : x / 16777216 % 256 = x / 16777216 := by omega
  simp only [Cm.le4, List.map_cons, List.map_nil, B8, Cm.toNat_mod]
  rw [h3]

set_option maxHeartbeats 1000000 in
set_option maxRecDepth 100000 in
theorem appendsum_calls (base : Nat) (v : Value) (l : List UInt8) (x : Nat) (w : World) (hown : w.ownsRow base 5 1 v l.length (l.map B8)) (hbase : base ≤ w.heap.size) (hl : l.length ≤ 4294967200) (hx : x < 4294967296) :
    Calls Tryd.prog 43 #[v, .int .u32 x] w fun e w' => ∃ v', e = .returned v' ∧ w'.ownsRow base 5 1 v' (l ++ Cm.le4 x).length ((l ++ Cm.le4 x).map B8) ∧ Grew w w' v v' := by
  obtain ⟨u0, u1, u2, u3, z1, z2, a0, a1, a2, a3, a4, a5, e0, e1, e2, d1, d2, d3, _, _, _, hL⟩ := le4_vals x hx
  have HL := Lib.hid hL
  have HO := Lib.hid hown
  clear hL hown
  go_enter Tryd.func43, Tryd.ntmps43
  go_wp2_with (at_builtin; refine wpList_app rfl (.tmp 5) (.tmp 17) _ _ rfl rfl rfl (appB (l := Cm.le4 x) (HO.out.alloc _) (by rw [HL.out]; exact Rd.lit w _ _) (by rw [Fm.le4_len]; omega) (by simp; omega)) ?_; rintro v1 w1 ⟨ho1, hg1⟩)
  go_ret
  exact ⟨v1, rfl, ho1, hg1.alloc⟩

set_option maxHeartbeats 1000000 in
set_option maxRecDepth 100000 in
theorem bytes_calls (A : Option Addr) (l : List UInt8) (c B : Nat) (w : World) (hb : Rd w B A (l.map B8)) (hB : B ≤ w.heap.size) (hl : l.length ≤ 1000000) :
    Calls Tryd.prog 17 #[.slice A l.length c] w fun e w' => ∃ v', e = .returned v' ∧ w'.ownsRow w.heap.size 5 1 v' (Fm.rec l).length ((Fm.rec l).map B8) ∧ Grew w w' (.slice none 0 0) v' := by
  have HB := Lib.hid hb
  clear hb
  have hp := (Mi.put_len l.length).2
  have hs := Cm.sum_lt l
  have HA := Lib.hid (fun W => append_calls w.heap.size (.slice none 0 0) [] l.length W (own_nil W w.heap.size))
  simp only [List.nil_append] at HA
  have HR : Hid (Fm.rec l = (Mi.put l.length ++ Cm.le4 (Cm.sum l)) ++ l) := by show _ = _; unfold Fm.rec; rw [List.append_assoc]
  go_enter Tryd.func17, Tryd.ntmps17
  go_wp2_with (first
    | (go_at_call 42; refine (HA.out w (Nat.le_refl _) (by simp) (by omega)).mono ?_; rintro e w1 ⟨v1, rfl, ho1, hg1⟩; have R1 := Lib.hid (HB.out.grew hg1 hB (by simp [Value.ownBlock])))
    | (go_at_call 44; refine (sum_calls _ l _ _ _ R1.out (by omega)).mono ?_; rintro e w2 ⟨rfl, rfl⟩)
    | (go_at_call 43; refine (appendsum_calls w.heap.size _ _ _ _ ho1 hg1.grown.size (by omega) hs).mono ?_; rintro e w3 ⟨v3, rfl, ho3, hg3⟩; have hg13 := hg1.trans hg3; have R3 := Lib.hid (HB.out.grew hg13 hB (by simp [Value.ownBlock])))
    | (at_builtin; refine wpList_app rfl (.tmp 12) (.tmp 13) _ _ rfl rfl rfl (appB ho3 R3.out (by simp only [List.length_append, Fm.le4_len]; omega) hg13.grown.size) ?_; rintro v4 w4 ⟨ho4, hg4⟩))
  go_ret
  refine ⟨v4, rfl, ?_, hg13.trans hg4⟩
  rw [HR.out]
  exact ho4

end Go.Proofs.YtbdiamhhlabojaaDoor
