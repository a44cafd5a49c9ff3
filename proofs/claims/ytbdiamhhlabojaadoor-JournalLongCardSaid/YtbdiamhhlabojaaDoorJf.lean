/- Chapter 7's example. -/
import Derived.Test.YtbdiamhhlabojaaDoorJe
import Derived.Lib.SlBytesConst
namespace Go.Proofs.YtbdiamhhlabojaaDoor
open Go.RowKit
set_option linter.unusedVariables false
set_option linter.unusedSimpArgs false
set_option maxRecDepth 100000

theorem num7 (k : Int) (w : World) : Calls Tryd.prog 13 #[.int .i64 k] w fun e w' => e = .returned (.int .i64 k) ∧ w' = w := by
  go_enter Tryd.func13, Tryd.ntmps13
  go_wp2
  go_ret
  exact ⟨rfl, rfl⟩
theorem addr0 (a : Addr) : a.add 0 = a := by
  cases a with
  | mk b o x => cases x <;> simp [Addr.add]
def m0 : Mp := fun _ => none
def ab : List UInt8 := [97, 98]
def m1 : Mp := upM m0 (nmJ 0) (some (Fm.rec ab, ((Fm.rec ab).length : Int)))
theorem new_ab : newJ m0 (nmJ 0) ab = Fm.rec ab := rfl
theorem rec_ab : (Fm.rec ab).length = 7 := by decide +kernel
theorem m1_one : m1 (nmJ 1) = none := by
  unfold m1 upM
  rw [if_neg (by decide +kernel)]; rfl
theorem open_none (D : Nat) (n : Nat) (us room : Int) (S : Nat → Prop) (w : World) (h : DvN w D D m0 us room n S) (hn : n ≤ 900000) :
    Calls Tryd.prog 11 #[.pointer (some ⟨D, 0, none⟩), .int .i64 0] w fun e w' => ∃ A c, e = .returned (.tuple #[.pointer (some ⟨w.heap.size, 0, none⟩), .slice A 0 c]) ∧ JAt w' w.heap.size D 0 0 ∧ Below w.heap.size w w' := by
  refine (open_any D D 0 [] m0 us room n 0 S w h hn rfl (by omega) (fun i q hq => by simp at hq) rfl (by simp)).mono fun e w' hh => ?_
  obtain ⟨v, rfl, ⟨vs, h1, _⟩, h2, h3⟩ := hh
  obtain ⟨A, c, rfl, _⟩ := own_rd h1
  exact ⟨A, c, rfl, h2, h3⟩
theorem open_ab (D : Nat) (n : Nat) (us room : Int) (S : Nat → Prop) (w : World) (h : DvN w D D m1 us room n S) (hn : n ≤ 900000) :
    Calls Tryd.prog 11 #[.pointer (some ⟨D, 0, none⟩), .int .i64 0] w fun e w' => ∃ a c Au cu, e = .returned (.tuple #[.pointer (some ⟨w.heap.size, 0, none⟩), .slice (some a) 1 c]) ∧ w'.cell? a = some (.slice Au 2 cu) ∧ Rd w' w'.heap.size Au (ab.map B8) ∧ Below w.heap.size w w' := by
  refine (open_any D D 0 [[ab]] m1 us room n 1 S w h hn rfl (by omega) (fun i q hq => ?_) m1_one (by decide)).mono fun e w' hh => ?_
  · rcases i with _ | i
    · simp at hq
      subst hq
      refine ⟨⟨((Fm.rec ab).length : Int), ?_⟩, by decide +kernel, fun p hp => by simp at hp; subst hp; decide⟩
      unfold m1
      rw [upM_same]
      have e : Fm.recs [ab] = Fm.rec ab := by simp [Fm.recs]
      rw [e]
    · simp at hq
  · obtain ⟨v, rfl, ⟨vs, h1, h2, h3⟩, h4, h5⟩ := hh
    have hl : vs.length = 1 := by have := h1.1; simpa using this
    obtain ⟨u, rfl⟩ : ∃ u, vs = [u] := by
      match vs, hl with
      | [u], _ => exact ⟨u, rfl⟩
    have hu := h3 0 u ab rfl rfl
    obtain ⟨Au, cu, rfl, _, hru⟩ := own_rd hu
    obtain ⟨A, c, rfl, _, hr⟩ := own_rd h1
    obtain ⟨a, rfl, _, hc⟩ := hr (by simp)
    have h0 := hc 0 _ rfl
    rw [addr0] at h0
    exact ⟨a, c, Au, cu, rfl, h0, hru, h5⟩
set_option maxHeartbeats 4000000 in
theorem alive7_calls (w : World) : Calls Tryd.prog 9 #[] w fun e w' => e = .returned (.bool true) ∧ Below w.heap.size w w' := by
  have kc := fun (w : World) (C : Array Value) (n c : Nat) => Lib.run_convert_bytes_const (P := Tryd.prog) w 30 5 C n c Tryd.underlying30 Tryd.underlying5
  obtain ⟨D, hD⟩ : ∃ D, D = w.heap.size := ⟨_, rfl⟩
  have HDE := Lib.hid hD
  have NW : Hid (Calls Tryd.prog 10 #[.int .i64 100] w fun e w' => e = .returned (.pointer (some ⟨D, 0, none⟩)) ∧ (∃ S, DvN w' D D m0 0 100 0 S) ∧ Below D w w') := Lib.hid (by rw [hD]; exact newN 100 w (by decide))
  have AJ : Hid (∀ W S jb fr, DvN W D D m0 0 100 0 S → JAt W jb D 0 0 → ¬ S jb → Calls Tryd.prog 14 #[.pointer (some ⟨jb, 0, none⟩), .slice (some ⟨W.heap.size, 0, none⟩) 2 2] (W.alloc (.cells #[.int .u8 97, .int .u8 98] 5 fr)) (LeftJ D D jb 0 0 m1 7 100 1 S (.int .i64 0) (W.alloc (.cells #[.int .u8 97, .int .u8 98] 5 fr)))) := Lib.hid (fun W S jb fr h hj hS => by
    have kk := jappend D D jb 0 0 m0 0 100 0 S (some ⟨W.heap.size, 0, none⟩) ab 2 2 (W.heap.size + 1) (W.alloc (.cells #[.int .u8 97, .int .u8 98] 5 fr)) (((Below.refl W.heap.size W).alloc (Nat.le_refl _) _).block _ hj.lt |>.trans hj) (by decide) (h.below ((Below.refl _ _).alloc (Nat.le_refl _) _)) hS (by decide) rfl (by have := Rd.litm W #[Value.int .u8 97, .int .u8 98] 5 fr; exact this) (by simp) (by decide) (by rw [rec_ab]; decide) (fun v hv => by cases hv) (by rw [rec_ab]; decide)
    rw [new_ab, rec_ab] at kk
    have e : (upM m0 (nmJ 0) (some (Fm.rec ab, ((7 : Nat) : Int)))) = m1 := by unfold m1; rw [rec_ab]
    rw [e] at kk
    exact kk)
  have O1 := Lib.hid (fun W S (h : DvN W D D m0 0 100 0 S) => open_none D 0 0 100 S W h (by decide))
  have O2 := Lib.hid (fun W S (h : DvN W D D m1 7 100 1 S) => open_ab D 1 7 100 S W h (by decide))
  have N12 : Hid (∀ W, Calls Tryd.prog 21 #[.int .i64 12] W fun e w' => e = .returned (.string ⟨#[106, 49, 50]⟩) ∧ w' = W) := Lib.hid (fun W => name_any 12 (by decide) W)
  clear hD
  go_enter Tryd.func9, Tryd.ntmps9
  go_upto_region 5 with (first
    | (go_at_call 11; (with_reducible refine (O1.out _ _ HD1.out).mono ?_); rintro e w2 ⟨A2, c2, rfl, hj2, hb2⟩; have HJ2 := Lib.hid hj2; have HD2 := Lib.hid (HD1.out.below hb2); have HS2 : Hid (¬ S w1.heap.size) := Lib.hid (fun h => absurd (HD1.out.lt _ h) (Nat.lt_irrefl _)); have HB2 := Lib.hid (HB1.out.trans (hb2.mono (Nat.le_of_lt HD1.out.dok.2))); clear hj2 hb2)
    | (go_at_call 10; (with_reducible refine NW.out.mono ?_); rintro e w1 ⟨rfl, ⟨S, hd1⟩, hb1⟩; have HD1 := Lib.hid hd1; have HB1 := Lib.hid hb1; clear hd1 hb1))
  go_upto_region 6 with (go_at_call 14; (with_reducible refine (AJ.out _ _ _ _ HD2.out HJ2.out HS2.out).mono ?_); rintro e w3 ⟨rfl, S3, hd3, hj3, hs3, hk3⟩; have HD3 := Lib.hid hd3; have HB3 := Lib.hid ((HB2.out.alloc (Nat.le_of_lt HD2.out.dok.2) _).trans (hk3.below (fun k hk => hk.elim (HD2.out.ge k) (fun e => by rw [e]; exact Nat.le_of_lt HD1.out.dok.2)) (by simp; have := HD2.out.dok.2; omega))); clear hd3 hj3 hs3 hk3)
  clear AJ HS2 kc
  go_upto_region 7 with (go_at_call 11; (with_reducible refine (O2.out _ _ HD3.out).mono ?_); rintro e w4 ⟨a, c4, Au, cu, rfl, hc4, hr4, hb4⟩; have HB4 := Lib.hid (HB3.out.trans (hb4.mono (Nat.le_of_lt HD3.out.dok.2))); have hstr : (convert 30 9 (.slice Au 2 cu)).run Tryd.prog w4 = .ok (.string ⟨#[97, 98]⟩) w4 := run_str (P := Tryd.prog) 30 5 9 Tryd.underlying30 Tryd.underlying5 Tryd.underlying9 (l := ab) hr4 2 cu rfl; have hca : w4.cell? (a.add 0) = some (.slice Au 2 cu) := (by rw [addr0]; exact hc4); clear hr4 hb4)
  go_wp2_with (first
    | (go_at_call 21; (with_reducible refine (N12.out _).mono ?_); rintro e wi ⟨rfl, hwi⟩; subst hwi)
    | (go_at_call 13; (with_reducible refine (num7 _ _).mono ?_); rintro e wn ⟨rfl, hwn⟩; subst hwn))
  go_ret
  refine ⟨rfl, ?_⟩
  have b3 := HB4.out
  rw [HDE.out] at b3
  exact b3
end Go.Proofs.YtbdiamhhlabojaaDoor
