/- PathSelf. -/
import Derived.Test.YtgldjjmpjaegfaaPhl
import Derived.Test.YtgldjjmpjaegfaaPhh
import Derived.Test.YtgldjjmpjaegfaaBs
import Derived.Great.BuildSlice
import Derived.Deep.RegionHeld3
namespace Go.Proofs.Ytgldjjmpjaegfaa
open Go.RowKit Go.Maps
set_option linter.unusedVariables false
set_option linter.unusedSimpArgs false
set_option maxRecDepth 100000

theorem rd_int {w : World} {B : Nat} {A : Option Addr} {L : List Int} {i : Nat} {z : Int} (h : Rd w B A (L.map (Value.int .i64))) (hz : L[i]? = some z) : ∃ a, A = some a ∧ a.block < B ∧ w.cell? (a.add i) = some (.int .i64 z) := by
  have hi := (List.getElem?_eq_some_iff.1 hz).1
  obtain ⟨a, h1, h2, h3⟩ := h (by rw [List.length_map]; omega)
  exact ⟨a, h1, h2, h3 i _ (by rw [List.getElem?_map, hz]; rfl)⟩
theorem fill_span (i2 st du : Int) (s1 s2 : ByteArray) : Instr.fill (fun i => some (i * 10, 10)) ((Array.range (1 * 10)).map ((Value.agg #[.int .u64 0, .int .u64 0, .int .u64 0, .int .u64 0, .string ⟨#[]⟩, .string ⟨#[]⟩, .int .i64 0, .int .i64 0, .bool false, .slice none 0 0]).cells[· % (Value.agg #[.int .u64 0, .int .u64 0, .int .u64 0, .int .u64 0, .string ⟨#[]⟩, .string ⟨#[]⟩, .int .i64 0, .int .i64 0, .bool false, .slice none 0 0]).cells.size]!)) [(0, Value.agg #[.int .u64 0, .int .u64 0, .int .u64 i2, .int .u64 1, .string s1, .string s2, .int .i64 st, .int .i64 du, .bool false, .slice none 0 0])] = some #[.int .u64 0, .int .u64 0, .int .u64 i2, .int .u64 1, .string s1, .string s2, .int .i64 st, .int .i64 du, .bool false, .slice none 0 0] := by
  kernel_rfl
def PsF (b0 q c i i2 sn sc dn dc N : Nat) (A : Option Addr) (asx ad : Addr) (sv dv st0 st du : Int) (L L2 : List Value) (s1 s2 : ByteArray) : Nat → Value → World → Prop
  | 0, u, _ => u = .slice A q c
  | 1, u, _ => u = .int .i64 (i : Int)
  | 2, u, _ => u = .int .i64 (i2 : Int)
  | 3, u, _ => u = .int .u64 (i2 : Int)
  | 4, u, _ => u = .slice (some asx) sn sc
  | 5, u, _ => u = .int .i64 (i : Int)
  | 6, u, _ => u = .pointer (some (asx.add i))
  | 7, u, _ => u = .int .i64 sv
  | 8, u, _ => u = .int .i64 st0
  | 9, u, _ => u = .int .i64 st
  | 10, u, _ => u = .slice (some ad) dn dc
  | 11, u, _ => u = .int .i64 (i : Int)
  | 12, u, _ => u = .pointer (some (ad.add i))
  | 13, u, _ => u = .int .i64 dv
  | 14, u, _ => u = .int .i64 du
  | 15, u, _ => u = .agg #[.int .u64 0, .int .u64 0, .int .u64 (i2 : Int), .int .u64 1, .string s1, .string s2, .int .i64 st, .int .i64 du, .bool false, .slice none 0 0]
  | 16, u, w => (∃ g, u = .slice (some ⟨g, 0, none⟩) 1 1 ∧ N ≤ g) ∧ w.ownsRow N 34 10 u 1 [.int .u64 0, .int .u64 0, .int .u64 (i2 : Int), .int .u64 1, .string s1, .string s2, .int .i64 st, .int .i64 du, .bool false, .slice none 0 0]
  | 17, u, w => w.ownsRow b0 34 10 u (q + 1) L2
  | 18, u, w => w.ownsRow b0 34 10 u (q + 1) L2
  | _, _, _ => True
theorem PsF.other {b0 q c i i2 sn sc dn dc N : Nat} {A : Option Addr} {asx ad : Addr} {sv dv st0 st du : Int} {L L2 : List Value} {s1 s2 : ByteArray} {j : Nat} {u : Value} {w w' : World} (h : PsF b0 q c i i2 sn sc dn dc N A asx ad sv dv st0 st du L L2 s1 s2 j u w) (hi : ¬ (j = 16 ∨ j = 17 ∨ j = 18)) : PsF b0 q c i i2 sn sc dn dc N A asx ad sv dv st0 st du L L2 s1 s2 j u w' := by
  match j, h, hi with
  | 0, h, hi => exact h
  | 1, h, hi => exact h
  | 2, h, hi => exact h
  | 3, h, hi => exact h
  | 4, h, hi => exact h
  | 5, h, hi => exact h
  | 6, h, hi => exact h
  | 7, h, hi => exact h
  | 8, h, hi => exact h
  | 9, h, hi => exact h
  | 10, h, hi => exact h
  | 11, h, hi => exact h
  | 12, h, hi => exact h
  | 13, h, hi => exact h
  | 14, h, hi => exact h
  | 15, h, hi => exact h
  | 16, h, hi => exact absurd (by decide) hi
  | 17, h, hi => exact absurd (by decide) hi
  | 18, h, hi => exact absurd (by decide) hi
  | _ + 19, h, hi => trivial
theorem GOESB {b : Nat} : PI.Goes (fun a a' => Below b a a') := ⟨fun w => Below.refl _ w, fun _ _ _ h q => h.trans q⟩
theorem GOESC {b : Nat} : PI.Goes (fun a a' => Below b a a' ∧ a.heap.size ≤ a'.heap.size) := ⟨fun w => ⟨Below.refl _ w, Nat.le_refl _⟩, fun _ _ _ h q => ⟨h.1.trans q.1, Nat.le_trans h.2 q.2⟩⟩

set_option maxHeartbeats 32000000 in
theorem self30 (dA : Option Addr) (D : List Int) (dn dc : Nat) (sA : Option Addr) (S : List Int) (sn sc : Nat) (own : Int) (w : World) (hD : Rd w w.heap.size dA (D.map (Value.int .i64))) (hdn : dn = D.length) (hdl : dn ≤ maxLen) (hS : Rd w w.heap.size sA (S.map (Value.int .i64))) (hsn : sn = S.length) (hsl : sn ≤ maxLen) (hDb : ∀ x ∈ D, -9223372036854775808 ≤ x ∧ x ≤ 9223372036854775807) (hSb : ∀ x ∈ S, -9223372036854775808 ≤ x ∧ x ≤ 9223372036854775807) :
    Calls Try.prog 9 #[.slice dA dn dc, .slice sA sn sc, .int .i64 own] w fun e w' => e = .returned (.bool true) ∧ Below w.heap.size w w' := by
  have AL := Lib.hid (alive30_calls w)
  obtain ⟨b0, hb0⟩ : ∃ b0, b0 = w.heap.size := ⟨_, rfl⟩
  have HB0 := Lib.hid hb0
  rw [← hb0] at hD hS ⊢
  have HD := Lib.hid hD
  have HS := Lib.hid hS
  have HDN := Lib.hid hdn
  have HSN := Lib.hid hsn
  have HSB := Lib.hid (show ∀ W, Below b0 w W → b0 ≤ W.heap.size from fun W h => by have := h.size; omega)
  have hm1 := hdl
  have hm2 := hsl
  simp only [maxLen] at hm1 hm2
  clear hD hS hdn hsn hdl hsl hDb hSb hb0
  rcases (show 12 < dn ∨ (¬ 12 < dn ∧ sn < dn) ∨ (¬ 12 < dn ∧ ¬ sn < dn ∧ own < 0) ∨ (¬ 12 < dn ∧ ¬ sn < dn ∧ ¬ own < 0 ∧ 3000 < own) ∨ (¬ 12 < dn ∧ ¬ sn < dn ∧ ¬ own < 0 ∧ ¬ 3000 < own) from by omega) with h1 | h1 | h1 | h1 | h1
  · have c1 : decide ((12 : Int) < (dn : Int)) = true := decide_eq_true (by omega)
    have c2 : decide (12 < dn) = true := decide_eq_true h1
    clear h1
    go_enter Try.func9, Try.ntmps9
    go_wp2_with (go_at_call 21; (with_reducible refine AL.out.mono ?_); rintro ex w1 ⟨rfl, hb1⟩; have HB1 := Lib.hid (show Below b0 w w1 from by rw [HB0.out]; exact hb1); clear hb1)
    go_ret
    exact ⟨rfl, HB1.out⟩
  · have c1 : decide ((12 : Int) < (dn : Int)) = false := decide_eq_false (by omega)
    have c2 : decide (12 < dn) = false := decide_eq_false h1.1
    have c3 : decide ((sn : Int) < (dn : Int)) = true := decide_eq_true (by omega)
    have c4 : decide (sn < dn) = true := decide_eq_true h1.2
    clear h1
    go_enter Try.func9, Try.ntmps9
    go_wp2_with (go_at_call 21; (with_reducible refine AL.out.mono ?_); rintro ex w1 ⟨rfl, hb1⟩; have HB1 := Lib.hid (show Below b0 w w1 from by rw [HB0.out]; exact hb1); clear hb1)
    go_ret
    exact ⟨rfl, HB1.out⟩
  · have c1 : decide ((12 : Int) < (dn : Int)) = false := decide_eq_false (by omega)
    have c2 : decide (12 < dn) = false := decide_eq_false h1.1
    have c3 : decide ((sn : Int) < (dn : Int)) = false := decide_eq_false (by omega)
    have c4 : decide (sn < dn) = false := decide_eq_false h1.2.1
    have c5 : decide (own < 0) = true := decide_eq_true h1.2.2
    clear h1
    go_enter Try.func9, Try.ntmps9
    go_wp2_with (go_at_call 21; (with_reducible refine AL.out.mono ?_); rintro ex w1 ⟨rfl, hb1⟩; have HB1 := Lib.hid (show Below b0 w w1 from by rw [HB0.out]; exact hb1); clear hb1)
    go_ret
    exact ⟨rfl, HB1.out⟩
  · have c1 : decide ((12 : Int) < (dn : Int)) = false := decide_eq_false (by omega)
    have c2 : decide (12 < dn) = false := decide_eq_false h1.1
    have c3 : decide ((sn : Int) < (dn : Int)) = false := decide_eq_false (by omega)
    have c4 : decide (sn < dn) = false := decide_eq_false h1.2.1
    have c5 : decide (own < 0) = false := decide_eq_false h1.2.2.1
    have c6 : decide (3000 < own) = true := decide_eq_true h1.2.2.2
    clear h1
    go_enter Try.func9, Try.ntmps9
    go_wp2_with (go_at_call 21; (with_reducible refine AL.out.mono ?_); rintro ex w1 ⟨rfl, hb1⟩; have HB1 := Lib.hid (show Below b0 w w1 from by rw [HB0.out]; exact hb1); clear hb1)
    go_ret
    exact ⟨rfl, HB1.out⟩
  · obtain ⟨N, rfl⟩ : ∃ N : Nat, own = (N : Int) := ⟨own.toNat, by omega⟩
    have c1 : decide ((12 : Int) < (dn : Int)) = false := decide_eq_false (by omega)
    have c2 : decide (12 < dn) = false := decide_eq_false h1.1
    have c3 : decide ((sn : Int) < (dn : Int)) = false := decide_eq_false (by omega)
    have c4 : decide (sn < dn) = false := decide_eq_false h1.2.1
    have c5 : decide ((N : Int) < 0) = false := decide_eq_false h1.2.2.1
    have c6 : decide (3000 < (N : Int)) = false := decide_eq_false h1.2.2.2
    have c7 : decide (3000 < N) = false := decide_eq_false (by omega)
    have HNT := Lib.hid (show dn ≤ 12 ∧ dn ≤ sn ∧ N ≤ 3000 from by omega)
    clear h1
    go_enter Try.func9, Try.ntmps9
    go_upto_region 4 with (go_at_call 21; (with_reducible refine AL.out.mono ?_); rintro ex w1 ⟨rfl, hb1⟩; have HB1 := Lib.hid (show Below b0 w w1 from by rw [HB0.out]; exact hb1); clear hb1)
    clear AL c1 c2 c3 c4 c5 c6 c7
    have hlit := World.ownsRow_lit (base := b0) (e := 34) (size := 10) w1 #[.int .u64 0, .int .u64 0, .int .u64 1, .int .u64 99, .string ⟨#[97]⟩, .string ⟨#[98]⟩, .int .i64 3, .int .i64 (N : Int), .bool false, .slice none 0 0] 1 (HSB.out _ HB1.out) (by unfold maxLen; omega) rfl
    have HOL := Lib.hid (show (w1.alloc (.cells #[.int .u64 0, .int .u64 0, .int .u64 1, .int .u64 99, .string ⟨#[97]⟩, .string ⟨#[98]⟩, .int .i64 3, .int .i64 (N : Int), .bool false, .slice none 0 0] 34)).ownsRow b0 34 10 (.slice (some ⟨w1.heap.size, 0, none⟩) 1 1) 1 ((starL D S (N : Int) 0).flatMap Ls.cells) from hlit)
    have HBL := Lib.hid (show Below b0 w (w1.alloc (.cells #[.int .u64 0, .int .u64 0, .int .u64 1, .int .u64 99, .string ⟨#[97]⟩, .string ⟨#[98]⟩, .int .i64 3, .int .i64 (N : Int), .bool false, .slice none 0 0] 34)) from HB1.out.trans ((Below.refl w1.heap.size w1).alloc (Nat.le_refl _) _ |>.mono (HSB.out _ HB1.out)))
    clear hlit
    go_upto_region 6 with fail
    generalize w1.alloc (.cells #[.int .u64 0, .int .u64 0, .int .u64 1, .int .u64 99, .string ⟨#[97]⟩, .string ⟨#[98]⟩, .int .i64 3, .int .i64 (N : Int), .bool false, .slice none 0 0] 34) = w2 at *
    generalize w1.heap.size = g1 at *
    go_loopw [8, 9] (fun vl vi wq => ∃ (i q c : Nat) (A : Option Addr), vi = .int .i64 (i : Int) ∧ vl = .slice A q c ∧ Hid (q = i + 1 ∧ i ≤ dn) ∧ Hid (wq.ownsRow b0 34 10 (.slice A q c) q ((starL D S (N : Int) i).flatMap Ls.cells)) ∧ Hid (Below b0 w wq)) (fun _ vi _ => dn - (intOf vi).toNat)
    case atStart => exact ⟨0, 1, 1, _, rfl, rfl, Lib.hid ⟨rfl, Nat.zero_le _⟩, HOL, HBL⟩
    clear HOL HBL HB1
    case round =>
      obtain ⟨i, q, c, A, rfl, rfl, HQ, HO, HB⟩ := hrel
      by_cases hlt : i < dn
      · as_aux_lemma =>
        have d0 : decide ((i : Int) < (dn : Int)) = true := decide_eq_true (by omega)
        have d1 : decide (i < dn) = true := decide_eq_true hlt
        have hnt := HNT.out
        obtain ⟨dv, hdv⟩ : ∃ z, D[i]? = some z := ⟨_, List.getElem?_eq_getElem (by rw [← HDN.out]; exact hlt)⟩
        obtain ⟨sv, hsv⟩ : ∃ z, S[i]? = some z := ⟨_, List.getElem?_eq_getElem (by rw [← HSN.out]; omega)⟩
        obtain ⟨ad, had, hadb, xd⟩ := rd_int (HD.out.below (by rw [HB0.out] at HB ⊢; exact HB.out)) hdv
        obtain ⟨asx, has, hasb, xs⟩ := rd_int (HS.out.below (by rw [HB0.out] at HB ⊢; exact HB.out)) hsv
        subst had has
        obtain ⟨st0, hst0⟩ : ∃ st0, st0 = sv % 4 := ⟨_, rfl⟩
        obtain ⟨st, hst⟩ : ∃ st, st = 2 + st0 := ⟨_, rfl⟩
        obtain ⟨du, hdu⟩ : ∃ du, du = dv % 2048 := ⟨_, rfl⟩
        obtain ⟨i2, hi2⟩ : ∃ i2, i2 = i + 2 := ⟨_, rfl⟩
        obtain ⟨i9, hi9⟩ : ∃ i9, i9 = i + 1 := ⟨_, rfl⟩
        have e1 : IntKind.i64.wrap ((i : Int) + 1) = (i9 : Int) := by rw [IntKind.wrap_i64] <;> omega
        have e2 : IntKind.i64.wrap ((i : Int) + 2) = (i2 : Int) := by rw [IntKind.wrap_i64] <;> omega
        have e2b : IntKind.i64.wrap (i2 : Int) = (i2 : Int) := by rw [IntKind.wrap_i64] <;> omega
        have e3 : IntKind.u64.wrap (i2 : Int) = (i2 : Int) := by rw [IntKind.wrap_u64] <;> omega
        have e4 : bits .and .i64 sv 3 = st0 := by rw [i64_and3, hst0]
        have e5 : bits .and .i64 dv 2047 = du := by rw [i64_and2047, hdu]
        have e6 : IntKind.i64.wrap (2 + st0) = st := by rw [IntKind.wrap_i64] <;> omega
        have e6b : IntKind.i64.wrap st = st := by rw [IntKind.wrap_i64] <;> omega
        have i0 : (0 : Int) ≤ (i : Int) := by omega
        have i1 : (i : Int) < (dn : Int) := by omega
        have i3 : (i : Int) < (sn : Int) := by omega
        have hbl : Below wr.heap.size wr ((wr.alloc (.cells #[.int .u64 0, .int .u64 0, .int .u64 (i2 : Int), .int .u64 1, .string ⟨#[97]⟩, .string ⟨#[98]⟩, .int .i64 st, .int .i64 du, .bool false, .slice none 0 0] 34)).drew) := by
          have h := (Below.refl wr.heap.size wr).alloc (Nat.le_refl _) (.cells #[.int .u64 0, .int .u64 0, .int .u64 (i2 : Int), .int .u64 1, .string ⟨#[97]⟩, .string ⟨#[98]⟩, .int .i64 st, .int .i64 du, .bool false, .slice none 0 0] 34)
          exact ⟨h.os, h.tape, h.output, h.size, h.block⟩
        have hkid : kidS D S i = ⟨⟨0, 0, (i2 : Int), 1, ⟨#[97]⟩, ⟨#[98]⟩, st, du, false, []⟩, none, 0⟩ := by
          unfold kidS spA
          rw [hdv, hsv, hi2, hst, hst0, hdu]; rfl
        have APP := Lib.hid (fun ty => appSs (ty := ty) (L := [kidS D S i]) (own_below HO.out hbl) (show Rd _ _ _ ([kidS D S i].flatMap Ls.cells) from by rw [hkid]; exact (Rd.lit wr #[.int .u64 0, .int .u64 0, .int .u64 (i2 : Int), .int .u64 1, .string ⟨#[97]⟩, .string ⟨#[98]⟩, .int .i64 st, .int .i64 du, .bool false, .slice none 0 0] 34).drew) (m := 1) (c := 1) rfl (by have := HQ.out; omega) (by have := HSB.out _ HB.out; have := hbl.size; omega))
        have HKID := Lib.hid hkid
        have HI9 := Lib.hid hi9
        have HLT := Lib.hid hlt
        have HBL := Lib.hid hbl
        have HAB := Lib.hid (And.intro hadb hasb)
        have HGE := Lib.hid (own_block_ge HO.out)
        have HZB := Lib.hid (HSB.out _ HB.out)
        clear hdv hsv hadb hasb hst0 hst hdu hi2 hi9 hnt hlt hbl hkid
        go_upto_region 8 with fail
        obtain ⟨s1, hs1⟩ : ∃ s : ByteArray, s = ⟨#[97]⟩ := ⟨_, rfl⟩
        obtain ⟨s2, hs2⟩ : ∃ s : ByteArray, s = ⟨#[98]⟩ := ⟨_, rfl⟩
        have HKID := Lib.hid (show kidS D S i = ⟨⟨0, 0, (i2 : Int), 1, s1, s2, st, du, false, []⟩, none, 0⟩ from by rw [hs1, hs2]; exact HKID.out)
        have BLD := Lib.hid (show ∀ w3 : World, Sem.run Try.prog (Instr.build 34 #[(1, .int .u64 (i2 : Int)), (2, .int .u64 1), (3, .string ⟨#[97]⟩), (4, .string ⟨#[98]⟩), (5, .int .i64 st), (6, .int .i64 du)]) w3 = .ok (.agg #[.int .u64 0, .int .u64 0, .int .u64 (i2 : Int), .int .u64 1, .string s1, .string s2, .int .i64 st, .int .i64 du, .bool false, .slice none 0 0]) w3 from fun w3 => by rw [hs1, hs2]; kernel_rfl)
        have BLS := Lib.hid (show ∀ w3 : World, Sem.run Try.prog (Instr.buildSlice 22 1 #[(0, .agg #[.int .u64 0, .int .u64 0, .int .u64 (i2 : Int), .int .u64 1, .string s1, .string s2, .int .i64 st, .int .i64 du, .bool false, .slice none 0 0])]) w3 = .ok (.slice (some ⟨w3.heap.size, 0, none⟩) 1 1) (w3.alloc (.cells #[.int .u64 0, .int .u64 0, .int .u64 (i2 : Int), .int .u64 1, .string s1, .string s2, .int .i64 st, .int .i64 du, .bool false, .slice none 0 0] 34)) from fun w3 => by
          obtain ⟨iq, hi, hz0, hz1, hz2⟩ := info_parts info_sp
          exact run_buildSlice w3 22 34 1 _ _ iq _ Try.underlying22 hi hz0 (by rw [hz1]; decide) (by rw [hz1]; decide) (by rw [hz1]; exact fill_span _ _ _ _ _))
        clear hs1 hs2
        obtain ⟨W, hW⟩ : ∃ W, W = wr.drew := ⟨_, rfl⟩
        obtain ⟨N0, hN0⟩ : ∃ N0, N0 = W.heap.size := ⟨_, rfl⟩
        have HWO := Lib.hid (show W.ownsRow b0 34 10 (.slice A q c) q ((starL D S (N : Int) i).flatMap Ls.cells) from by rw [hW]; exact own_drewY HO.out)
        have HWN := Lib.hid (show b0 ≤ N0 ∧ N0 = wr.heap.size from ⟨by rw [hN0, hW]; exact HZB.out, by rw [hN0, hW]; rfl⟩)
        have XD := Lib.hid (show ∀ w3, Below b0 W w3 → w3.cell? (ad.add i) = some (.int .i64 dv) from fun w3 h => (h.cell (by rw [block_add]; exact HAB.out.1)).trans (by rw [hW]; exact xd))
        have XS := Lib.hid (show ∀ w3, Below b0 W w3 → w3.cell? (asx.add i) = some (.int .i64 sv) from fun w3 h => (h.cell (by rw [block_add]; exact HAB.out.2)).trans (by rw [hW]; exact xs))
        have HWW := Lib.hid hW
        have HNN := Lib.hid hN0
        have HBW := Lib.hid (show Below b0 w W from by rw [hW]; exact HB.out.trans ⟨rfl, rfl, rfl, Nat.le_refl _, fun _ _ => rfl⟩)
        obtain ⟨L2, hL2⟩ : ∃ L2 : List Value, L2 = (starL D S (N : Int) i).flatMap Ls.cells ++ [.int .u64 0, .int .u64 0, .int .u64 (i2 : Int), .int .u64 1, .string s1, .string s2, .int .i64 st, .int .i64 du, .bool false, .slice none 0 0] := ⟨_, rfl⟩
        have HL2 := Lib.hid hL2
        clear hW hN0 hL2
        refine PI.wp_region_persG (R := fun a a' => Below b0 a a' ∧ a.heap.size ≤ a'.heap.size) (G := fun _ _ => True) (I := fun L0 _ w' => L0 17 = false → w'.ownsRow b0 34 10 (.slice A q c) q ((starL D S (N : Int) i).flatMap Ls.cells)) [(2, 1), (3, 2), (6, 4), (6, 5), (7, 6), (8, 7), (9, 8), (12, 10), (12, 11), (13, 12), (14, 13), (15, 3), (15, 9), (15, 14), (16, 15), (17, 0), (17, 16), (18, 17)] [18] (by kernel_rfl) (PI.formed_of (by kernel_rfl)) GOESC (fun _ => trivial) (PsF b0 q c i i2 sn sc dn dc N0 A asx ad sv dv st0 st du ((starL D S (N : Int) i).flatMap Ls.cells) L2 s1 s2) (fun _ => by rw [← HWW.out]; exact HWO.out) ?_ ?_
        · rw [← HWW.out]
          intro i' o ho
          rcases i' with _ | _ | _ | _ | _ | _ | _ | _ | _ | _ | _ | _ | _ | _ | _ | _ | _ | _ | _ | i'
          · obtain rfl := Option.some.inj (show some _ = some o from ho)
            refine PI.shown_val rfl fun a w3 L0 hr T => ?_
            have h1 : a.eval (.tmp 8) = .slice A q c := T.was 8 (by kernel_rfl)
            exact ⟨.slice A q c, w3, by simp only [execOp, h1]; simp [go_sem], PI.Post.pure GOESC rfl (fun hl => T.inv hl)⟩
          · obtain rfl := Option.some.inj (show some _ = some o from ho)
            refine PI.shown_val rfl fun a w3 L0 hr T => ?_
            have h1 : a.eval (.tmp 9) = .int .i64 (i : Int) := T.was 9 (by kernel_rfl)
            exact ⟨.int .i64 (i : Int), w3, by simp only [execOp, h1]; simp [go_sem], PI.Post.pure GOESC rfl (fun hl => T.inv hl)⟩
          · obtain rfl := Option.some.inj (show some _ = some o from ho)
            refine PI.shown_val rfl fun a w3 L0 hr T => ?_
            have h1 : a.eval (.tmp 49) = .int .i64 (i : Int) := T.at_ 1 49 (by kernel_rfl) (by kernel_rfl) (by kernel_rfl)
            exact ⟨.int .i64 (i2 : Int), w3, by simp only [execOp, h1]; simp [go_sem, e2, e3, e4, e5, e6], PI.Post.pure GOESC rfl (fun hl => T.inv hl)⟩
          · obtain rfl := Option.some.inj (show some _ = some o from ho)
            refine PI.shown_val rfl fun a w3 L0 hr T => ?_
            have h1 : a.eval (.tmp 50) = .int .i64 (i2 : Int) := T.at_ 2 50 (by kernel_rfl) (by kernel_rfl) (by kernel_rfl)
            exact ⟨.int .u64 (i2 : Int), w3, by simp only [execOp, h1]; simp [go_sem, e2, e3, e4, e5, e6], PI.Post.pure GOESC rfl (fun hl => T.inv hl)⟩
          · obtain rfl := Option.some.inj (show some _ = some o from ho)
            refine PI.shown_val rfl fun a w3 L0 hr T => ?_
            have h1 : a.eval (.tmp 1) = .slice (some asx) sn sc := T.was 1 (by kernel_rfl)
            exact ⟨.slice (some asx) sn sc, w3, by simp only [execOp, h1]; simp [go_sem], PI.Post.pure GOESC rfl (fun hl => T.inv hl)⟩
          · obtain rfl := Option.some.inj (show some _ = some o from ho)
            refine PI.shown_val rfl fun a w3 L0 hr T => ?_
            have h1 : a.eval (.tmp 9) = .int .i64 (i : Int) := T.was 9 (by kernel_rfl)
            exact ⟨.int .i64 (i : Int), w3, by simp only [execOp, h1]; simp [go_sem], PI.Post.pure GOESC rfl (fun hl => T.inv hl)⟩
          · obtain rfl := Option.some.inj (show some _ = some o from ho)
            refine PI.shown_val rfl fun a w3 L0 hr T => ?_
            have h1 : a.eval (.tmp 52) = .slice (some asx) sn sc := T.at_ 4 52 (by kernel_rfl) (by kernel_rfl) (by kernel_rfl)
            have h2 : a.eval (.tmp 53) = .int .i64 (i : Int) := T.at_ 5 53 (by kernel_rfl) (by kernel_rfl) (by kernel_rfl)
            exact ⟨.pointer (some (asx.add i)), w3, by simp only [execOp, h1, h2]; simp [go_sem, i0, i1, i3], PI.Post.pure GOESC rfl (fun hl => T.inv hl)⟩
          · obtain rfl := Option.some.inj (show some _ = some o from ho)
            refine PI.shown_val rfl fun a w3 L0 hr T => ?_
            have h1 : a.eval (.tmp 54) = .pointer (some (asx.add i)) := T.at_ 6 54 (by kernel_rfl) (by kernel_rfl) (by kernel_rfl)
            have hc := XS.out w3 hr.1
            exact ⟨.int .i64 sv, w3, by simp only [execOp, h1]; simp [go_sem, hc], PI.Post.pure GOESC rfl (fun hl => T.inv hl)⟩
          · obtain rfl := Option.some.inj (show some _ = some o from ho)
            refine PI.shown_val rfl fun a w3 L0 hr T => ?_
            have h1 : a.eval (.tmp 55) = .int .i64 sv := T.at_ 7 55 (by kernel_rfl) (by kernel_rfl) (by kernel_rfl)
            exact ⟨.int .i64 st0, w3, by simp only [execOp, h1]; simp [go_sem, e2, e3, e4, e5, e6], PI.Post.pure GOESC rfl (fun hl => T.inv hl)⟩
          · obtain rfl := Option.some.inj (show some _ = some o from ho)
            refine PI.shown_val rfl fun a w3 L0 hr T => ?_
            have h1 : a.eval (.tmp 56) = .int .i64 st0 := T.at_ 8 56 (by kernel_rfl) (by kernel_rfl) (by kernel_rfl)
            exact ⟨.int .i64 st, w3, by simp only [execOp, h1]; simp [go_sem, e2, e3, e4, e5, e6], PI.Post.pure GOESC rfl (fun hl => T.inv hl)⟩
          · obtain rfl := Option.some.inj (show some _ = some o from ho)
            refine PI.shown_val rfl fun a w3 L0 hr T => ?_
            have h1 : a.eval (.tmp 0) = .slice (some ad) dn dc := T.was 0 (by kernel_rfl)
            exact ⟨.slice (some ad) dn dc, w3, by simp only [execOp, h1]; simp [go_sem], PI.Post.pure GOESC rfl (fun hl => T.inv hl)⟩
          · obtain rfl := Option.some.inj (show some _ = some o from ho)
            refine PI.shown_val rfl fun a w3 L0 hr T => ?_
            have h1 : a.eval (.tmp 9) = .int .i64 (i : Int) := T.was 9 (by kernel_rfl)
            exact ⟨.int .i64 (i : Int), w3, by simp only [execOp, h1]; simp [go_sem], PI.Post.pure GOESC rfl (fun hl => T.inv hl)⟩
          · obtain rfl := Option.some.inj (show some _ = some o from ho)
            refine PI.shown_val rfl fun a w3 L0 hr T => ?_
            have h1 : a.eval (.tmp 58) = .slice (some ad) dn dc := T.at_ 10 58 (by kernel_rfl) (by kernel_rfl) (by kernel_rfl)
            have h2 : a.eval (.tmp 59) = .int .i64 (i : Int) := T.at_ 11 59 (by kernel_rfl) (by kernel_rfl) (by kernel_rfl)
            exact ⟨.pointer (some (ad.add i)), w3, by simp only [execOp, h1, h2]; simp [go_sem, i0, i1, i3], PI.Post.pure GOESC rfl (fun hl => T.inv hl)⟩
          · obtain rfl := Option.some.inj (show some _ = some o from ho)
            refine PI.shown_val rfl fun a w3 L0 hr T => ?_
            have h1 : a.eval (.tmp 60) = .pointer (some (ad.add i)) := T.at_ 12 60 (by kernel_rfl) (by kernel_rfl) (by kernel_rfl)
            have hc := XD.out w3 hr.1
            exact ⟨.int .i64 dv, w3, by simp only [execOp, h1]; simp [go_sem, hc], PI.Post.pure GOESC rfl (fun hl => T.inv hl)⟩
          · obtain rfl := Option.some.inj (show some _ = some o from ho)
            refine PI.shown_val rfl fun a w3 L0 hr T => ?_
            have h1 : a.eval (.tmp 61) = .int .i64 dv := T.at_ 13 61 (by kernel_rfl) (by kernel_rfl) (by kernel_rfl)
            exact ⟨.int .i64 du, w3, by simp only [execOp, h1]; simp [go_sem, e2, e3, e4, e5, e6], PI.Post.pure GOESC rfl (fun hl => T.inv hl)⟩
          · obtain rfl := Option.some.inj (show some _ = some o from ho)
            refine PI.shown_val rfl fun a w3 L0 hr T => ?_
            have h1 : a.eval (.tmp 51) = .int .u64 (i2 : Int) := T.at_ 3 51 (by kernel_rfl) (by kernel_rfl) (by kernel_rfl)
            have h2 : a.eval (.tmp 57) = .int .i64 st := T.at_ 9 57 (by kernel_rfl) (by kernel_rfl) (by kernel_rfl)
            have h3 : a.eval (.tmp 62) = .int .i64 du := T.at_ 14 62 (by kernel_rfl) (by kernel_rfl) (by kernel_rfl)
            have h1b := h1
            have h2b := h2
            have h3b := h3
            simp only [Act.eval, Array.getD_eq_getD_getElem?] at h1b h2b h3b
            exact ⟨.agg #[.int .u64 0, .int .u64 0, .int .u64 (i2 : Int), .int .u64 1, .string s1, .string s2, .int .i64 st, .int .i64 du, .bool false, .slice none 0 0], w3, by (have hb := BLD.out w3; simp only [execOp]; simp [Act.eval, h1b, h2b, h3b, hb]), PI.Post.pure GOESC rfl (fun hl => T.inv hl)⟩
          · obtain rfl := Option.some.inj (show some _ = some o from ho)
            refine PI.shown_val rfl fun a w3 L0 hr T => ?_
            have h1 : a.eval (.tmp 63) = .agg #[.int .u64 0, .int .u64 0, .int .u64 (i2 : Int), .int .u64 1, .string s1, .string s2, .int .i64 st, .int .i64 du, .bool false, .slice none 0 0] := T.at_ 15 63 (by kernel_rfl) (by kernel_rfl) (by kernel_rfl)
            have hsz : N0 ≤ w3.heap.size := by rw [HNN.out]; exact hr.2
            have ho4 : (w3.alloc (.cells #[.int .u64 0, .int .u64 0, .int .u64 (i2 : Int), .int .u64 1, .string s1, .string s2, .int .i64 st, .int .i64 du, .bool false, .slice none 0 0] 34)).ownsRow N0 34 10 (.slice (some ⟨w3.heap.size, 0, none⟩) 1 1) 1 [.int .u64 0, .int .u64 0, .int .u64 (i2 : Int), .int .u64 1, .string s1, .string s2, .int .i64 st, .int .i64 du, .bool false, .slice none 0 0] := World.ownsRow_lit (base := N0) (e := 34) (size := 10) w3 #[.int .u64 0, .int .u64 0, .int .u64 (i2 : Int), .int .u64 1, .string s1, .string s2, .int .i64 st, .int .i64 du, .bool false, .slice none 0 0] 1 hsz (by decide) rfl
            have hb4 := (Below.refl w3.heap.size w3).alloc (Nat.le_refl _) (.cells #[.int .u64 0, .int .u64 0, .int .u64 (i2 : Int), .int .u64 1, .string s1, .string s2, .int .i64 st, .int .i64 du, .bool false, .slice none 0 0] 34)
            have h1b := h1
            simp only [Act.eval, Array.getD_eq_getD_getElem?] at h1b
            refine ⟨.slice (some ⟨w3.heap.size, 0, none⟩) 1 1, _, by (have hb := BLS.out w3; simp only [execOp]; simp [Act.eval, h1b, hb]), ⟨hb4.mono (Nat.le_trans HWN.out.1 hsz), hb4.size⟩, ⟨⟨_, rfl, hsz⟩, ho4⟩, fun _ _ h => h, fun j v hj hLj hnd hvj h => ?_, fun hl => own_below (T.inv (by simpa [PI.upd] using hl)) hb4⟩
            by_cases hjr : j = 16 ∨ j = 17 ∨ j = 18
            · rcases hjr with rfl | rfl | rfl
              · exact absurd rfl hj
              · exact own_below h hb4
              · exact own_below h hb4
            · exact PsF.other h hjr
          · obtain rfl := Option.some.inj (show some _ = some o from ho)
            refine PI.shown_val rfl fun a w3 L0 hr T => ?_
            have h0 : a.eval (.tmp 48) = .slice A q c := T.at_ 0 48 (by kernel_rfl) (by kernel_rfl) (by kernel_rfl)
            have h2 : (∃ g, a.eval (.tmp 64) = .slice (some ⟨g, 0, none⟩) 1 1 ∧ N0 ≤ g) ∧ w3.ownsRow N0 34 10 (a.eval (.tmp 64)) 1 [.int .u64 0, .int .u64 0, .int .u64 (i2 : Int), .int .u64 1, .string s1, .string s2, .int .i64 st, .int .i64 du, .bool false, .slice none 0 0] := T.at_ 16 64 (by kernel_rfl) (by kernel_rfl) (by kernel_rfl)
            have hown := T.inv T.yetNot
            have hsz : b0 ≤ w3.heap.size := Nat.le_trans HWN.out.1 (by rw [HNN.out]; exact hr.2)
            obtain ⟨⟨g, hg, hge⟩, ho2⟩ := h2
            rw [hg] at ho2
            obtain ⟨v4, w4, e4', ho4, hg4⟩ := appSs (ty := 22) (L := [kidS D S i]) hown (show Rd _ _ _ ([kidS D S i].flatMap Ls.cells) from by rw [HKID.out]; exact own_read ho2 (Nat.le_refl _)) (m := 1) (c := 1) rfl (by have := HQ.out; have := HNT.out; omega) hsz
            have ho5 : w4.ownsRow b0 34 10 v4 (q + 1) L2 := by
              rw [HL2.out]
              rw [HKID.out] at ho4
              exact ho4
            refine ⟨v4, w4, by simp only [execOp, resolve, invoke, builtin, Sem.run_bind, Sem.run_pure, Result.andThen_ok, List.map_toArray, List.map_cons, List.map_nil, h0, hg, e4'], ⟨hg4.below (Below.refl _ _) hsz (own_block_ge hown), hg4.grown.size⟩, ho5, fun _ _ h => h, fun j v hj hLj hnd hvj h => ?_, fun hl => by exfalso; simp [PI.upd] at hl⟩
            by_cases hjr : j = 16 ∨ j = 17 ∨ j = 18
            · rcases hjr with rfl | rfl | rfl
              · simp [PI.needB] at hnd
              · exact absurd rfl hj
              · exact absurd (T.shut_ 18 17 (by kernel_rfl) hLj) (by rw [T.yetNot]; decide)
            · exact PsF.other h hjr
          · obtain rfl := Option.some.inj (show some _ = some o from ho)
            refine PI.shown_val rfl fun a w3 L0 hr T => ?_
            have h1 : w3.ownsRow b0 34 10 (a.eval (.tmp 65)) (q + 1) L2 := T.at_ 17 65 (by kernel_rfl) (by kernel_rfl) (by kernel_rfl)
            exact ⟨a.eval (.tmp 65), w3, by simp only [execOp]; simp [go_sem], PI.Post.pure GOESC h1 (fun hl => T.inv hl)⟩
          · cases ho
        · rw [← HWW.out]
          intro x9 w9 hr hf he _
          have h1 := hf 18 _ 8 rfl rfl (by decide)
          change w9.ownsRow b0 34 10 (x9 18) (q + 1) L2 at h1
          obtain ⟨A12, c12, hv9, _, _⟩ := own_rd h1
          rw [hv9] at h1
          have HO12 := Lib.hid h1
          have HB12 := Lib.hid (HBW.out.trans hr.1)
          simp only [PI.putAll, Act.put, List.setIfInBounds_toArray, List.set_cons_zero, List.set_cons_succ]
          rw [hv9]
          clear hf he h1 hr hv9
          go_wp2_with fail
          go_roundw
          case rel => exact ⟨i9, q + 1, c12, A12, by first | rfl | go_num, rfl, Lib.hid (by have := HLT.out; have := HI9.out; have := HQ.out; omega), Lib.hid (by
            have h := HO12.out
            rw [HL2.out] at h
            rw [HI9.out, starL_step, List.flatMap_append, show [kidS D S i].flatMap Ls.cells = (kidS D S i).cells ++ [] from rfl, List.append_nil, HKID.out]
            exact h), HB12⟩
          case measure => have := HLT.out; have := HI9.out; simp [intOf]; omega
      · as_aux_lemma =>
        obtain rfl : dn = i := by have := HQ.out; omega
        have d0 : decide ((dn : Int) < (dn : Int)) = false := decide_eq_false (by omega)
        have d1 : decide (dn < dn) = false := decide_eq_false (by omega)
        have HRQ := Lib.hid (show ∀ W, Below wr.heap.size wr W → RdSps W wr.heap.size A (starL D S (N : Int) dn) from fun W h => (show RdSps wr wr.heap.size A (starL D S (N : Int) dn) from ⟨own_read HO.out (Nat.le_refl _), star_rd (by have := HNT.out; omega) (by omega) (by have := HNT.out; omega)⟩).below h)
        have HQL := Lib.hid (show q = (starL D S (N : Int) dn).length from by rw [starL_len]; exact HQ.out.1)
        have SC := Lib.hid (show ∀ (W : World) (i : Int), Below wr.heap.size wr W → Calls Try.prog 27 #[.slice A q c, .int .i64 i] W (fun e w' => ∃ s, e = .returned (.int .i64 s) ∧ SelfIs (starL D S (N : Int) dn) (dn + 1) i s ∧ Below W.heap.size W w') from fun W i h => by
          have h2 := self_any (starL D S (N : Int) dn) A q c wr.heap.size i W (HRQ.out W h) h.size HQL.out (by have := HQ.out; have := HNT.out; omega)
          rw [HQ.out.1] at h2 ⊢
          exact h2)
        have HFB := Lib.hid (show ∀ W, Below wr.heap.size wr W → Below b0 w W from fun W h => HB.out.trans (h.mono (HSB.out _ HB.out)))
        have HR0 := Lib.hid (Below.refl wr.heap.size wr)
        obtain ⟨R, hR⟩ : ∃ R, R = starR D S dn := ⟨_, rfl⟩
        have HRR := Lib.hid hR
        obtain ⟨tn, htn⟩ : ∃ tn, tn = 3000 + (N : Int) := ⟨_, rfl⟩
        have ew : IntKind.i64.wrap (3000 + (N : Int)) = tn := by have := HNT.out; rw [IntKind.wrap_i64] <;> omega
        have HTN := Lib.hid htn
        clear hlt hR htn HO
        go_upto_region 11 with fail
        clear d0 d1
        generalize wr = wL at *
        go_loopw [10, 11] (fun vf vt wq => ∃ (k f : Nat) (tz : Int), vt = .int .i64 tz ∧ vf = .int .i64 (f : Int) ∧ Hid (tz = 3000 + (k : Int) ∧ k ≤ N) ∧ Hid (f = Sy.cnt (Sy.freeB R) 3000 k) ∧ Hid (Below wL.heap.size wL wq)) (fun _ vt _ => 3000 + N - (intOf vt).toNat)
        case atStart => exact ⟨0, 0, 3000, rfl, rfl, Lib.hid ⟨by omega, Nat.zero_le _⟩, Lib.hid rfl, HR0⟩
        case round =>
          obtain ⟨k, f, tz, rfl, rfl, HK, HF, HW⟩ := hrel
          by_cases hkn : k < N
          · as_aux_lemma =>
            have d0 : decide (tz < tn) = true := decide_eq_true (by have := HK.out; have := HTN.out; omega)
            have HKN := Lib.hid hkn
            obtain ⟨t9, ht9⟩ : ∃ t9, t9 = tz + 1 := ⟨_, rfl⟩
            have e1 : IntKind.i64.wrap (tz + 1) = t9 := by have := HK.out; have := HNT.out; rw [IntKind.wrap_i64] <;> omega
            have HT9 := Lib.hid ht9
            clear hkn ht9
            go_upto_region 15 with fail
            clear d0 ew
            generalize wr = wM at *
            go_loopw [12, 13] (fun vb vi wq => ∃ (j i : Nat) (b : Bool), vi = .int .i64 (i : Int) ∧ vb = .bool b ∧ Hid (i = j + 1 ∧ j ≤ dn) ∧ Hid (b = Sy.freeB (starR D S j) tz) ∧ Hid (Below wL.heap.size wL wq)) (fun _ vi _ => dn + 1 - (intOf vi).toNat)
            case atStart => exact ⟨0, 1, true, rfl, rfl, Lib.hid ⟨rfl, Nat.zero_le _⟩, Lib.hid rfl, HW⟩
            case round =>
              obtain ⟨j, i, b, rfl, rfl, HJ, HBF, HWQ⟩ := hrel
              by_cases hjd : j < dn
              · have d0 : decide ((i : Int) < (q : Int)) = true := decide_eq_true (by have := HJ.out; have := HQ.out; omega)
                have d1 : decide (i < q) = true := decide_eq_true (by have := HJ.out; have := HQ.out; omega)
                have i0 : (0 : Int) ≤ (i : Int) := by omega
                have i1 : (i : Int) < (q : Int) := by have := HJ.out; have := HQ.out; omega
                obtain ⟨i9, hi9⟩ : ∃ i9, i9 = i + 1 := ⟨_, rfl⟩
                have e2 : IntKind.i64.wrap ((i : Int) + 1) = (i9 : Int) := by have := HJ.out; have := HNT.out; rw [IntKind.wrap_i64] <;> omega
                have hx : (starL D S (N : Int) dn)[i]? = some (kidS D S j) := by rw [HJ.out.1]; exact starL_at hjd
                obtain ⟨aa, haa, _, hca, _⟩ := (HRQ.out _ HWQ.out).at_ hx
                subst haa
                have hbd := kid_bd D S j
                obtain ⟨st, hst⟩ : ∃ st, st = (kidS D S j).s.st := ⟨_, rfl⟩
                obtain ⟨du, hdu⟩ : ∃ du, du = (kidS D S j).s.du := ⟨_, rfl⟩
                have c6 : wr.cell? ⟨(aa.add (i * 10)).block, (aa.add (i * 10)).off + 6, none⟩ = some (.int .i64 st) := by rw [hst]; exact cell_far (hca 6 _ rfl) (by decide)
                have c7 : wr.cell? ⟨(aa.add (i * 10)).block, (aa.add (i * 10)).off + 7, none⟩ = some (.int .i64 du) := by rw [hdu]; exact cell_far (hca 7 _ rfl) (by decide)
                obtain ⟨m1, hm1'⟩ : ∃ m1, m1 = st * 1000 := ⟨_, rfl⟩
                obtain ⟨m2, hm2'⟩ : ∃ m2, m2 = m1 + du := ⟨_, rfl⟩
                have e3 : IntKind.i64.wrap (st * 1000) = m1 := by rw [IntKind.wrap_i64] <;> omega
                have e4 : IntKind.i64.wrap (m1 + du) = m2 := by rw [IntKind.wrap_i64] <;> omega
                have hfr : Sy.freeB (starR D S (j + 1)) tz = (b && (decide (tz < m1) || decide (m2 ≤ tz))) := by
                  rw [starR_step, freeB_snoc, ← HBF.out, hm2', hm1', hst, hdu]
                have HFR := Lib.hid hfr
                have HI9 := Lib.hid hi9
                have HJD := Lib.hid hjd
                clear hca hst hdu hbd hm1' hm2' hfr hi9 hjd hx
                cases b
                · as_aux_lemma =>
                  have HB2 : Hid (false = Sy.freeB (starR D S (j + 1)) tz) := Lib.hid (by rw [HFR.out]; rfl)
                  go_upto_region 17 with fail
                  refine wp_region_quiet_lex (by kernel_rfl) (by kernel_rfl) ?_
                  repeat (go_big_quiet_step (fail))
                  refine wpQuiet_nil ?_
                  intro _ hw'
                  obtain ⟨nq, hw''⟩ := hw'
                  subst hw''
                  go_wp2_with fail
                  go_roundw
                  case rel => exact ⟨j + 1, i9, false, by first | rfl | go_num, rfl, Lib.hid (by have := HJD.out; have := HJ.out; have := HI9.out; omega), HB2, Lib.hid (HWQ.out.trans ⟨rfl, rfl, rfl, Nat.le_refl _, fun _ _ => rfl⟩)⟩
                  case measure => have := HJD.out; have := HJ.out; have := HI9.out; simp [intOf]; omega
                · by_cases h1 : tz < m1
                  · as_aux_lemma =>
                    have f1 : decide (tz < m1) = true := decide_eq_true h1
                    have HB2 : Hid (true = Sy.freeB (starR D S (j + 1)) tz) := Lib.hid (by rw [HFR.out, f1]; rfl)
                    clear h1
                    go_upto_region 17 with fail
                    refine wp_region_quiet_lex (by kernel_rfl) (by kernel_rfl) ?_
                    repeat (go_big_quiet_step (fail))
                    refine wpQuiet_nil ?_
                    intro _ hw'
                    obtain ⟨nq, hw''⟩ := hw'
                    subst hw''
                    go_wp2_with fail
                    go_roundw
                    case rel => exact ⟨j + 1, i9, true, by first | rfl | go_num, rfl, Lib.hid (by have := HJD.out; have := HJ.out; have := HI9.out; omega), HB2, Lib.hid (HWQ.out.trans ⟨rfl, rfl, rfl, Nat.le_refl _, fun _ _ => rfl⟩)⟩
                    case measure => have := HJD.out; have := HJ.out; have := HI9.out; simp [intOf]; omega
                  · have f1 : decide (tz < m1) = false := decide_eq_false h1
                    obtain ⟨b2, hb2⟩ : ∃ b2, b2 = decide (m2 ≤ tz) := ⟨_, rfl⟩
                    have f2 : decide (m2 ≤ tz) = b2 := hb2.symm
                    have HB2 : Hid (b2 = Sy.freeB (starR D S (j + 1)) tz) := Lib.hid (by rw [HFR.out, f1, f2]; rfl)
                    clear h1 hb2
                    cases b2
                    · as_aux_lemma =>
                      go_upto_region 17 with fail
                      refine wp_region_quiet_lex (by kernel_rfl) (by kernel_rfl) ?_
                      repeat (go_big_quiet_step (fail))
                      refine wpQuiet_nil ?_
                      intro _ hw'
                      obtain ⟨nq, hw''⟩ := hw'
                      subst hw''
                      go_wp2_with fail
                      go_roundw
                      case rel => exact ⟨j + 1, i9, false, by first | rfl | go_num, rfl, Lib.hid (by have := HJD.out; have := HJ.out; have := HI9.out; omega), HB2, Lib.hid (HWQ.out.trans ⟨rfl, rfl, rfl, Nat.le_refl _, fun _ _ => rfl⟩)⟩
                      case measure => have := HJD.out; have := HJ.out; have := HI9.out; simp [intOf]; omega
                    · as_aux_lemma =>
                      go_upto_region 17 with fail
                      refine wp_region_quiet_lex (by kernel_rfl) (by kernel_rfl) ?_
                      repeat (go_big_quiet_step (fail))
                      refine wpQuiet_nil ?_
                      intro _ hw'
                      obtain ⟨nq, hw''⟩ := hw'
                      subst hw''
                      go_wp2_with fail
                      go_roundw
                      case rel => exact ⟨j + 1, i9, true, by first | rfl | go_num, rfl, Lib.hid (by have := HJD.out; have := HJ.out; have := HI9.out; omega), HB2, Lib.hid (HWQ.out.trans ⟨rfl, rfl, rfl, Nat.le_refl _, fun _ _ => rfl⟩)⟩
                      case measure => have := HJD.out; have := HJ.out; have := HI9.out; simp [intOf]; omega
              · have d0 : decide ((i : Int) < (q : Int)) = false := decide_eq_false (by have := HJ.out; have := HQ.out; omega)
                have d1 : decide (i < q) = false := decide_eq_false (by have := HJ.out; have := HQ.out; omega)
                have hbf : b = Sy.freeB R (3000 + (k : Int)) := by
                  have h1 : j = dn := by have := HJ.out; omega
                  rw [HBF.out, h1, HRR.out, HK.out.1]
                have HBF2 := Lib.hid hbf
                obtain ⟨f9, hf9⟩ : ∃ f9, f9 = f + 1 := ⟨_, rfl⟩
                have hfl : f ≤ k := by rw [HF.out]; exact Sy.cnt_le _ _ _
                have e2 : IntKind.i64.wrap ((f : Int) + 1) = (f9 : Int) := by have := HKN.out; have := HNT.out; rw [IntKind.wrap_i64] <;> omega
                have HF9 := Lib.hid hf9
                clear hjd hbf hf9 hfl
                cases b
                · as_aux_lemma =>
                  have HC := Lib.hid (show f = Sy.cnt (Sy.freeB R) 3000 (k + 1) from by
                    show f = Sy.cnt (Sy.freeB R) 3000 k + (if Sy.freeB R (3000 + (k : Int)) = true then 1 else 0)
                    rw [← HBF2.out, ← HF.out]; rfl)
                  go_wp2_with fail
                  go_roundw
                  case rel => exact ⟨k + 1, f, t9, by first | rfl | go_num, rfl, Lib.hid (by have := HK.out; have := HT9.out; have := HKN.out; omega), HC, HWQ⟩
                  case measure => have := HK.out; have := HT9.out; have := HKN.out; simp [intOf]; omega
                · as_aux_lemma =>
                  have HC := Lib.hid (show f9 = Sy.cnt (Sy.freeB R) 3000 (k + 1) from by
                    show f9 = Sy.cnt (Sy.freeB R) 3000 k + (if Sy.freeB R (3000 + (k : Int)) = true then 1 else 0)
                    rw [← HBF2.out, ← HF.out, HF9.out]; rfl)
                  go_wp2_with fail
                  go_roundw
                  case rel => exact ⟨k + 1, f9, t9, by first | rfl | go_num, rfl, Lib.hid (by have := HK.out; have := HT9.out; have := HKN.out; omega), HC, HWQ⟩
                  case measure => have := HK.out; have := HT9.out; have := HKN.out; simp [intOf]; omega
          · as_aux_lemma =>
            obtain rfl : N = k := by have := HK.out; omega
            have d0 : decide (tz < tn) = false := decide_eq_false (by have := HK.out; have := HTN.out; omega)
            have HFE := Lib.hid (show (f : Int) = (Sy.cnt (Sy.freeB (starR D S dn)) 3000 ((N : Int)).toNat : Int) ∧ f ≤ N from ⟨by rw [HF.out, HRR.out]; rfl, by rw [HF.out]; exact Sy.cnt_le _ _ _⟩)
            clear hkn
            go_upto_region 21 with fail
            clear d0 ew
            generalize wr = wM at *
            go_loopw [14] (fun vi wq => ∃ (j i : Nat), vi = .int .i64 (i : Int) ∧ Hid (i = j + 1 ∧ j ≤ dn) ∧ Hid (Below wL.heap.size wL wq)) (fun vi _ => dn + 1 - (intOf vi).toNat)
            case atStart => exact ⟨0, 1, rfl, Lib.hid ⟨rfl, Nat.zero_le _⟩, HW⟩
            case round =>
              obtain ⟨j, i, rfl, HJ, HWQ⟩ := hrel
              by_cases hjd : j < dn
              · as_aux_lemma =>
                have d0 : decide ((i : Int) < (q : Int)) = true := decide_eq_true (by have := HJ.out; have := HQ.out; omega)
                have d1 : decide (i < q) = true := decide_eq_true (by have := HJ.out; have := HQ.out; omega)
                have i0 : (0 : Int) ≤ (i : Int) := by omega
                have i1 : (i : Int) < (q : Int) := by have := HJ.out; have := HQ.out; omega
                obtain ⟨i9, hi9⟩ : ∃ i9, i9 = i + 1 := ⟨_, rfl⟩
                have e2 : IntKind.i64.wrap ((i : Int) + 1) = (i9 : Int) := by have := HJ.out; have := HNT.out; rw [IntKind.wrap_i64] <;> omega
                have hx : (starL D S (N : Int) dn)[i]? = some (kidS D S j) := by rw [HJ.out.1]; exact starL_at hjd
                obtain ⟨aa, haa, _, hca, _⟩ := (HRQ.out _ HWQ.out).at_ hx
                subst haa
                obtain ⟨du, hdu⟩ : ∃ du, du = (kidS D S j).s.du := ⟨_, rfl⟩
                have c7 : wr.cell? ⟨(aa.add (i * 10)).block, (aa.add (i * 10)).off + 7, none⟩ = some (.int .i64 du) := by rw [hdu]; exact cell_far (hca 7 _ rfl) (by decide)
                have SCI := fun (p : NowB wr) => Lib.hid (show Calls Try.prog 27 #[.slice (some aa) q c, .int .i64 (i : Int)] p.W (fun e w' => e = .returned (.int .i64 du) ∧ Below p.W.heap.size p.W w') from (SC.out p.W (i : Int) (HWQ.out.trans (p.h.mono HWQ.out.size))).mono (by
                  rintro ex w' ⟨s, rfl, hs, hb⟩
                  rw [HJ.out.1] at hs
                  rw [star_kid HNT.out.1 (by omega) (by have := HNT.out; omega) hjd hs, hdu]
                  exact ⟨rfl, hb⟩))
                have HI9 := Lib.hid hi9
                have HJD := Lib.hid hjd
                clear hca hdu hi9 hjd hx
                go_upto_region 23 with fail
                have n7 := fun p : NowB wr => p.cell c7
                clear c7
                refine wp_region_quiet_below_lex (by kernel_rfl) (by kernel_rfl) ?_
                repeat (go_big_quiet_step ((go_at_call 27; with_reducible exact Calls.now_of (SCI _).out)))
                refine wpQuiet_nil ?_
                intro _ hw'
                obtain ⟨pp, hw''⟩ := hw'
                subst hw''
                have HP9 := Lib.hid pp.h
                generalize pp.W = w9 at *
                go_wp2_with fail
                go_roundw
                case rel => exact ⟨j + 1, i9, by first | rfl | go_num, Lib.hid (by have := HJD.out; have := HJ.out; have := HI9.out; omega), Lib.hid (HWQ.out.trans (HP9.out.mono HWQ.out.size))⟩
                case measure => have := HJD.out; have := HJ.out; have := HI9.out; simp [intOf]; omega
              · as_aux_lemma =>
                have d0 : decide ((i : Int) < (q : Int)) = false := decide_eq_false (by have := HJ.out; have := HQ.out; omega)
                have d1 : decide (i < q) = false := decide_eq_false (by have := HJ.out; have := HQ.out; omega)
                have SC0 := Lib.hid (show Calls Try.prog 27 #[.slice A q c, .int .i64 0] wr (fun e w' => e = .returned (.int .i64 (f : Int)) ∧ Below wr.heap.size wr w') from (SC.out wr 0 HWQ.out).mono (by
                  rintro ex w' ⟨s, rfl, hs, hb⟩
                  rw [star_self HNT.out.1 (by omega) (by have := HNT.out; omega) hs, HFE.out.1]
                  exact ⟨rfl, hb⟩))
                have f1 : decide ((f : Int) ≤ (N : Int)) = true := decide_eq_true (by have := HFE.out.2; omega)
                have f2 : decide (f ≤ N) = true := decide_eq_true HFE.out.2
                clear hjd
                go_wp2_with (go_at_call 27; (with_reducible refine SC0.out.mono ?_); rintro ex w9 ⟨rfl, hb9⟩; have HB9 := Lib.hid hb9; clear hb9)
                go_ret
                exact ⟨by simp, HFB.out _ (HWQ.out.trans (HB9.out.mono HWQ.out.size))⟩
end Go.Proofs.Ytgldjjmpjaegfaa
