/- device.New, Fuse, Sync. -/
import Derived.Test.YtbdiamhhlabojaaDoorUe
import Derived.StillTailTactics
namespace Go.Proofs.YtbdiamhhlabojaaDoor
open Go.RowKit
set_option linter.unusedVariables false
set_option linter.unusedSimpArgs false
set_option maxRecDepth 100000

theorem Kept.drew {w w' : World} {S S' : Nat → Prop} (h : Kept w w' S S') : Kept w w'.drew S S' := ⟨h.os, h.tape, h.output, h.size, h.block, h.sub⟩
def Dv.new (D : Nat) (room : Int) : Dv := ⟨D, room, 0, none, 0, [], false, 0⟩
theorem newdev_any (room r : Int) (w : World) (hr : r = max room 0) (hb : -9223372036854775808 ≤ room ∧ room ≤ 9223372036854775807) :
    Calls Tryd.prog 10 #[.int .i64 room] w fun e w' => e = .returned (.pointer (some ⟨w.heap.size, 0, none⟩)) ∧ DvAt w' w.heap.size (Dv.new w.heap.size r) ∧ Below w.heap.size w w' ∧ w.heap.size < w'.heap.size := by
  have h : DvAt (w.alloc (.cells #[.int .i64 r, .int .i64 0, .slice none 0 0, .bool false, .int .i64 0] 70)) w.heap.size (Dv.new w.heap.size r) :=
    ⟨heap_alloc_new w _, Nat.le_refl _, World.ownsRow_nil _ _ _ _, (fun f hf => by cases hf), List.Pairwise.nil⟩
  have HD := Lib.hid h
  have HB := Lib.hid ((Below.refl w.heap.size w).alloc (Nat.le_refl _) (.cells #[.int .i64 r, .int .i64 0, .slice none 0 0, .bool false, .int .i64 0] 70))
  clear h
  by_cases h0 : room < 0
  · have hr0 : r = 0 := by omega
    subst hr0
    clear hr
    go_enter Tryd.func10, Tryd.ntmps10
    go_wp2
    go_ret
    exact ⟨rfl, HD.out, HB.out, by simp⟩
  · have hr0 : r = room := by omega
    subst hr0
    clear hr
    go_enter Tryd.func10, Tryd.ntmps10
    go_wp2
    go_ret
    exact ⟨rfl, HD.out, HB.out, by simp⟩
def Dv.fused (d : Dv) (n : Int) : Dv := { d with fu := decide (0 ≤ n), lf := n }
theorem fuse_any (base : Nat) (d : Dv) (n : Int) (w : World) (h : DvAt w base d) :
    Calls Tryd.prog 12 #[.pointer (some ⟨d.D, 0, none⟩), .int .i64 n] w (Went base d (d.fused n) (.tuple #[]) w) := by
  have h3 := h.c3
  have f3 := h.fz 3
  have h4 := h.c4
  have f4 := h.fz 4
  obtain ⟨k1, k2⟩ := h.setFu (decide (0 ≤ n))
  obtain ⟨m1, m2⟩ := k1.setLf n
  have HM := Lib.hid m1
  have HK := Lib.hid (k2.trans m2)
  clear h k1 k2 m1 m2
  unfold Went Dv.fused
  simp only at HM HK
  generalize hD : d.D = D at *
  go_enter Tryd.func12, Tryd.ntmps12
  go_wp2
  go_end0
  exact ⟨rfl, HM.out, HK.out⟩
def Dv.synced (d : Dv) (i : Nat) (f : Lf) : Dv := { d with fs := d.fs.set i { f with su := f.da.length } }
theorem sync_dead (base : Nat) (d : Dv) (nm : ByteArray) (w : World) (h : DvAt w base d) (hd : d.dead = true) :
    Calls Tryd.prog 40 #[.pointer (some ⟨d.D, 0, none⟩), .string nm] w (Went base d d (.int .i64 5) w) := by
  have HD := Lib.hid h
  clear h
  unfold Went
  go_enter Tryd.func40, Tryd.ntmps40
  go_wp2_with (go_at_call 50; (with_reducible refine (dead_any base d _ HD.out).mono ?_); rintro e wd ⟨rfl, hwd⟩; subst hwd)
  go_ret
  exact ⟨rfl, HD.out, Kept.refl _ _⟩
theorem sync_none (base : Nat) (d : Dv) (nm : ByteArray) (w : World) (h : DvAt w base d) (hd : d.dead = false) (hs : SortF d.fs) (hsm : d.fs.length ≤ 1000000) (hh : hitF d.fs nm = false) :
    Calls Tryd.prog 40 #[.pointer (some ⟨d.D, 0, none⟩), .string nm] w (Went base d d (.int .i64 4) w) := by
  have HD := Lib.hid h
  have HSF := Lib.hid hs
  clear h hs
  unfold Went
  go_enter Tryd.func40, Tryd.ntmps40
  go_wp2_with (first
    | (go_at_call 46; (with_reducible refine (finddev_any base d nm _ HD.out HSF.out hsm).mono ?_); rintro e w1 ⟨rfl, hb1⟩; have HB1 := Lib.hid hb1; have HD1 := Lib.hid (HD.out.below hb1); clear hb1)
    | (go_at_call 50; (with_reducible refine (dead_any base d _ HD.out).mono ?_); rintro e wd ⟨rfl, hwd⟩; subst hwd))
  go_ret
  exact ⟨rfl, HD1.out, Kept.of HB1.out _⟩
theorem sync_hit (base : Nat) (d : Dv) (nm : ByteArray) (i : Nat) (f : Lf) (w : World) (h : DvAt w base d) (hd : d.dead = false) (hs : SortF d.fs) (hsm : d.fs.length ≤ 1000000) (hh : hitF d.fs nm = true) (hi : i = posF d.fs nm) (hf : d.fs[i]? = some f) (hl : -9223372036854775807 ≤ d.lf ∧ d.lf ≤ 9223372036854775807) :
    Calls Tryd.prog 40 #[.pointer (some ⟨d.D, 0, none⟩), .string nm] w (Went base d (d.synced i f).burnt (.int .i64 0) w) := by
  have HD := Lib.hid h
  have HSF := Lib.hid hs
  have HF := Lib.hid hf
  have HH := Lib.hid hh
  have HI := Lib.hid hi
  have hil := (List.getElem?_eq_some_iff.1 hf).1
  obtain ⟨g, hA⟩ : ∃ g, d.A = some ⟨g, 0, none⟩ := by
    obtain ⟨g, hA, _⟩ := own_parts h.own (by omega)
    exact ⟨g, hA⟩
  have HA := Lib.hid hA
  clear h hs hf hh hi hA
  unfold Went
  go_enter Tryd.func40, Tryd.ntmps40
  go_upto_region 8 with (first
    | (go_at_call 46; (with_reducible refine (finddev_any base d nm _ HD.out HSF.out hsm).mono ?_); rintro e w1 ⟨rfl, hb1⟩; have HB1 := Lib.hid hb1; have HD1 := Lib.hid (HD.out.below hb1); clear hb1; rw [HH.out, ← HI.out])
    | (go_at_call 50; (with_reducible refine (dead_any base d _ HD.out).mono ?_); rintro e wd ⟨rfl, hwd⟩; subst hwd))
  obtain ⟨n, hn⟩ : ∃ n, n = d.fs.length := ⟨_, rfl⟩
  obtain ⟨q, hq⟩ : ∃ q, q = f.da.length := ⟨_, rfl⟩
  have c2 := HD1.out.c2
  rw [HA.out, ← hn] at c2
  have hr := Rd.of_own HD1.out.own
  rw [HA.out] at hr
  obtain ⟨a, ha, hab, x0, x1, x2⟩ := file_cells hr HF.out q hq
  injection ha with ha
  subst ha
  rw [Addr.add_lit, Nat.zero_add] at x0 x1 x2
  obtain ⟨k1, k2, k3⟩ := HD1.out.resure HA.out HF.out (f.da.length : Int)
  rw [← hq] at k1 k2
  have HK1 := Lib.hid k1
  have HK2 := Lib.hid k2
  have HN := Lib.hid hn
  have HQ := Lib.hid hq
  have i0 : (0 : Int) ≤ (i : Int) := by omega
  have i1 : (i : Int) < (n : Int) := by omega
  clear hn hq hr k1 k2 hil
  go_still_tail 16, (by kernel_rfl)
  change wpList _ _ _ _ _ w1.drew
  have HD3 : Hid (DvAt (w1.setCell ⟨g, i * 3 + 2, none⟩ (.int .i64 (q : Int))).drew base (d.synced i f)) := Lib.hid (by
    unfold Dv.synced; rw [← HQ.out]
    exact HK1.out.below ⟨rfl, rfl, rfl, Nat.le_refl _, fun _ _ => rfl⟩)
  have HK3 : Hid (Kept wd (w1.setCell ⟨g, i * 3 + 2, none⟩ (.int .i64 (q : Int))).drew d.has (d.synced i f).has) := Lib.hid (by
    unfold Dv.synced; rw [← HQ.out]
    exact (Kept.of HB1.out _).trans HK2.out.drew)
  have BN := Lib.hid (burn_any base (d.synced i f) _ HD3.out hl)
  rw [show (d.synced i f).D = d.D from rfl] at BN
  clear HK1 HK2
  go_upto_region 9 with fail
  generalize (w1.setCell ⟨g, i * 3 + 2, none⟩ (.int .i64 (q : Int))).drew = W3 at *
  go_wp2_with (go_at_call 53; (with_reducible refine BN.out.mono ?_); rintro e w4 ⟨rfl, hd4, hk4⟩; have HD4 := Lib.hid hd4; have HK4 := Lib.hid hk4; clear hd4 hk4)
  go_ret
  exact ⟨rfl, HD4.out, HK3.out.trans HK4.out⟩
end Go.Proofs.YtbdiamhhlabojaaDoor
