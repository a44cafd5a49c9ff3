/- device.remove, Delete. -/
import Derived.Test.YtbdiamhhlabojaaDoorUl
import Derived.Test.YtbdiamhhlabojaaDoorUd
namespace Go.Proofs.YtbdiamhhlabojaaDoor
open Go.RowKit
set_option linter.unusedVariables false
set_option linter.unusedSimpArgs false
set_option maxRecDepth 100000

def Leave (base : Nat) (d : Dv) (v : Value) (us : Int) (lf : Int) (L : List Lg) (w : World) (e : Ending) (w' : World) : Prop :=
  ∃ d' : Dv, Went base d d' v w e w' ∧ d'.D = d.D ∧ d'.room = d.room ∧ d'.us = us ∧ d'.fu = d.fu ∧ d'.lf = lf ∧ d'.fs.map Lf.lg = L
theorem erase_pair {l : List Lf} (h : l.Pairwise apartF) (i : Nat) : (l.eraseIdx i).Pairwise apartF := h.sublist (List.eraseIdx_sublist _ _)
set_option maxHeartbeats 2000000 in
theorem remove_any (base : Nat) (d : Dv) (i : Nat) (f : Lf) (w : World) (h : DvAt w base d) (hf : d.fs[i]? = some f) (hsm : d.fs.length ≤ 1000000) (hu : 0 ≤ d.us ∧ d.us ≤ 4611686018427387904) (hbig : f.da.length ≤ 4294967296) :
    Calls Tryd.prog 67 #[.pointer (some ⟨d.D, 0, none⟩), .int .i64 (i : Int)] w (Leave base d (.tuple #[]) (d.us - (f.da.length : Int)) d.lf ((d.fs.map Lf.lg).eraseIdx i) w) := by
  have HF := Lib.hid hf
  have hil := (List.getElem?_eq_some_iff.1 hf).1
  obtain ⟨g, hA⟩ : ∃ g, d.A = some ⟨g, 0, none⟩ := by
    obtain ⟨g, hA, _⟩ := own_parts h.own (by omega)
    exact ⟨g, hA⟩
  have HA := Lib.hid hA
  obtain ⟨n, hn⟩ : ∃ n, n = d.fs.length := ⟨_, rfl⟩
  obtain ⟨q, hq⟩ : ∃ q, q = f.da.length := ⟨_, rfl⟩
  have c2 := h.c2
  rw [hA, ← hn] at c2
  have c1 := h.c1
  have f1 := h.fz 1
  have hr := Rd.of_own h.own
  rw [hA] at hr
  obtain ⟨a, ha, hab, x0, x1, x2⟩ := file_cells hr hf q hq
  injection ha with ha
  subst ha
  rw [Addr.add_lit, Nat.zero_add] at x0 x1 x2
  obtain ⟨us2, hus⟩ : ∃ us2, us2 = d.us - (q : Int) := ⟨_, rfl⟩
  have iq : IntKind.i64.wrap (-(q : Int)) = -(q : Int) := by rw [IntKind.wrap_i64]; omega
  have AD := Lib.hid (addI_any d.D d.us (-(q : Int)) us2 w.drew c1 f1 (by omega) (by omega))
  obtain ⟨s1, s2⟩ := (h.below (w' := w.drew) ⟨rfl, rfl, rfl, Nat.le_refl _, fun _ _ => rfl⟩).setUs us2
  have HS1 : Hid (DvAt (w.setCell ⟨d.D, 1, none⟩ (.int .i64 us2)).drew base { d with us := us2 }) := Lib.hid s1
  have HS2 : Hid (Kept w (w.setCell ⟨d.D, 1, none⟩ (.int .i64 us2)).drew d.has ({ d with us := us2 } : Dv).has) := Lib.hid ((Kept.drew (Kept.refl w d.has)).trans s2)
  have i0 : (0 : Int) ≤ (i : Int) := by omega
  have i1 : (i : Int) < (n : Int) := by omega
  have HN := Lib.hid hn
  have HQ := Lib.hid hq
  have HUS := Lib.hid hus
  clear hf hr hq hus c1 f1 s1 s2 hab hA hu hn
  go_enter Tryd.func67, Tryd.ntmps67
  go_upto_region 0 with fail
  go_still_tail 13, (by kernel_rfl)
  change wpList _ _ _ _ _ w.drew
  go_upto_region 1 with (go_at_call 41; (with_reducible refine AD.out.mono ?_); rintro e w2 ⟨rfl, hw2⟩)
  subst hw2
  generalize (w.setCell ⟨d.D, 1, none⟩ (.int .i64 us2)).drew = W2 at *
  have k2 := HS1.out.c2
  have k3 := HS1.out.fz 2
  simp only at k2 k3
  rw [HA.out, ← HN.out] at k2
  have ho := HS1.out.own
  simp only at ho
  rw [HA.out, ← HN.out] at ho
  have DL := Lib.hid (l_delete g n d.c i base d.fs W2 ho (by have := HN.out; omega) (by have := HN.out; omega))
  have HNE : Hid (∀ w3 v', Grew W2 w3 (.slice (some ⟨g, 0, none⟩) n d.c) v' → w3.heap[d.D]? = W2.heap[d.D]?) := Lib.hid (fun w3 v' hg => hg.grown.block d.D HS1.out.ltD (fun e => own_ne HS1.out.own HS1.out.row (by decide) (by simp only; rw [HA.out, ← HN.out]; exact e.symm)))
  have HROW := Lib.hid HS1.out.row
  clear ho
  go_wp2_with (go_at_call 75; (with_reducible refine DL.out.mono ?_); rintro e w3 ⟨rfl, ho3, hg3⟩; have hr3 := (HNE.out w3 _ hg3).trans HROW.out; have q2 : w3.cell? ⟨d.D, 2, none⟩ = some (.slice d.A d.fs.length d.c) := cell_of_row _ _ 2 _ _ (0, 0) hr3; have q3 : w3.frozen? ⟨d.D, 2, none⟩ = false := (by simp [World.frozen?, hr3]); have HO3 := Lib.hid ho3; have HG3 := Lib.hid hg3; clear ho3 hg3 hr3)
  go_end0
  obtain ⟨r1, r2⟩ := HS1.out.rerow (S := d.has) (A' := some ⟨g, 0, none⟩) (n' := n - 1) (c' := d.c) (L := d.fs.eraseIdx i) (fun _ h => h) (by simp only; rw [HA.out, ← HN.out]; exact HG3.out) HO3.out (by rw [List.length_eraseIdx, if_pos hil, HN.out]) (fun z hz => HS1.out.each z (List.mem_of_mem_eraseIdx hz)) (fun z hz a ha => .inr (.inr ⟨z, List.mem_of_mem_eraseIdx hz, a, ha, rfl⟩)) (erase_pair HS1.out.two i)
  refine ⟨_, ⟨rfl, r1, HS2.out.trans r2⟩, rfl, rfl, ?_, rfl, rfl, ?_⟩
  · rw [← HQ.out]; exact HUS.out
  · show (d.fs.eraseIdx i).map Lf.lg = _
    rw [List.eraseIdx_eq_take_drop_succ, List.eraseIdx_eq_take_drop_succ, List.map_append, List.map_take, List.map_drop]
theorem delete_dead (base : Nat) (d : Dv) (nm : ByteArray) (w : World) (h : DvAt w base d) (hd : d.dead = true) :
    Calls Tryd.prog 45 #[.pointer (some ⟨d.D, 0, none⟩), .string nm] w (Went base d d (.int .i64 5) w) := by
  have HD := Lib.hid h
  clear h
  unfold Went
  go_enter Tryd.func45, Tryd.ntmps45
  go_wp2_with (go_at_call 50; (with_reducible refine (dead_any base d _ HD.out).mono ?_); rintro e wd ⟨rfl, hwd⟩; subst hwd)
  go_ret
  exact ⟨rfl, HD.out, Kept.refl _ _⟩
theorem delete_none (base : Nat) (d : Dv) (nm : ByteArray) (w : World) (h : DvAt w base d) (hd : d.dead = false) (hs : SortF d.fs) (hsm : d.fs.length ≤ 1000000) (hh : hitF d.fs nm = false) :
    Calls Tryd.prog 45 #[.pointer (some ⟨d.D, 0, none⟩), .string nm] w (Went base d d (.int .i64 4) w) := by
  have HD := Lib.hid h
  have HSF := Lib.hid hs
  clear h hs
  unfold Went
  go_enter Tryd.func45, Tryd.ntmps45
  go_wp2_with (first
    | (go_at_call 46; (with_reducible refine (finddev_any base d nm _ HD.out HSF.out hsm).mono ?_); rintro e w1 ⟨rfl, hb1⟩; have HB1 := Lib.hid hb1; have HD1 := Lib.hid (HD.out.below hb1); clear hb1)
    | (go_at_call 50; (with_reducible refine (dead_any base d _ HD.out).mono ?_); rintro e wd ⟨rfl, hwd⟩; subst hwd))
  go_ret
  exact ⟨rfl, HD1.out, Kept.of HB1.out _⟩
theorem delete_hit (base : Nat) (d : Dv) (nm : ByteArray) (i : Nat) (f : Lf) (w : World) (h : DvAt w base d) (hd : d.dead = false) (hs : SortF d.fs) (hsm : d.fs.length ≤ 1000000) (hh : hitF d.fs nm = true) (hi : i = posF d.fs nm) (hf : d.fs[i]? = some f) (hl : -9223372036854775807 ≤ d.lf ∧ d.lf ≤ 9223372036854775807) (hu : 0 ≤ d.us ∧ d.us ≤ 4611686018427387904) (hbig : f.da.length ≤ 4294967296) :
    Calls Tryd.prog 45 #[.pointer (some ⟨d.D, 0, none⟩), .string nm] w (Leave base d (.int .i64 0) (d.us - (f.da.length : Int)) (if d.fu = true then d.lf - 1 else d.lf) ((d.fs.map Lf.lg).eraseIdx i) w) := by
  have HD := Lib.hid h
  have HSF := Lib.hid hs
  have HF := Lib.hid hf
  have HH := Lib.hid hh
  have HI := Lib.hid hi
  have RMV : Hid (∀ W, DvAt W base d → Calls Tryd.prog 67 #[.pointer (some ⟨d.D, 0, none⟩), .int .i64 (i : Int)] W (Leave base d (.tuple #[]) (d.us - (f.da.length : Int)) d.lf ((d.fs.map Lf.lg).eraseIdx i) W)) := Lib.hid (fun W hW => remove_any base d i f W hW hf hsm hu hbig)
  clear h hs hf hh hi hu
  obtain ⟨P, hP⟩ : ∃ P, P = Leave base d (.int .i64 0) (d.us - (f.da.length : Int)) (if d.fu = true then d.lf - 1 else d.lf) ((d.fs.map Lf.lg).eraseIdx i) w := ⟨_, rfl⟩
  have HP := Lib.hid hP
  rw [← hP]
  clear hP
  go_enter Tryd.func45, Tryd.ntmps45
  go_upto_region 9 with (first
    | (go_at_call 67; (with_reducible refine (RMV.out _ HD1.out).mono ?_); rintro e w2 ⟨d2, ⟨rfl, hd2, hk2⟩, p1, p2, p3, p4, p5, p6⟩; have HD2 := Lib.hid hd2; have HK2 := Lib.hid hk2; have BN := Lib.hid (burn_any base d2 w2 hd2 (by rw [p5]; exact hl)); rw [p1] at BN; have HPP := Lib.hid (And.intro p1 (And.intro p2 (And.intro p3 (And.intro p4 (And.intro p5 p6))))); clear hd2 hk2 p1 p2 p3 p4 p5 p6)
    | (go_at_call 46; (with_reducible refine (finddev_any base d nm _ HD.out HSF.out hsm).mono ?_); rintro e w1 ⟨rfl, hb1⟩; have HB1 := Lib.hid hb1; have HD1 := Lib.hid (HD.out.below hb1); clear hb1; rw [HH.out, ← HI.out])
    | (go_at_call 50; (with_reducible refine (dead_any base d _ HD.out).mono ?_); rintro e wd ⟨rfl, hwd⟩; subst hwd))
  go_wp2_with fail
  refine BN.out.mono ?_
  rintro e w4 ⟨rfl, hd4, hk4⟩
  have HD4 := Lib.hid hd4
  have HK4 := Lib.hid hk4
  clear hd4 hk4
  go_wp2_with fail
  rw [HP.out]
  obtain ⟨p1, p2, p3, p4, p5, p6⟩ := HPP.out
  obtain ⟨b1, b2, b3, b4, b5, b6⟩ := burnt_all d2
  exact ⟨d2.burnt, ⟨rfl, HD4.out, (Kept.of HB1.out _).trans (HK2.out.trans HK4.out)⟩, b1.trans p1, b2.trans p2, b3.trans p3, b4.trans p4, by rw [b5, p4, p5], by rw [b6, p6]⟩
theorem delete_deadL (base D : Nat) (g : Dg) (S : Nat → Prop) (nm : ByteArray) (w : World) (h : DvL w base D g S) (hd : g.dead = true) : Calls Tryd.prog 45 #[.pointer (some ⟨D, 0, none⟩), .string nm] w (LeftL base D g S (.int .i64 5) w) := by
  obtain ⟨d, h1, rfl, e1, e2, e3, e4, e5, rfl⟩ := h
  exact (delete_dead base d nm w h1 (by rw [dead_of e3 e4]; exact hd)).mono fun e w' h => ⟨h.1, _, ⟨_, h.2.1, rfl, e1, e2, e3, e4, e5, rfl⟩, h.2.2⟩
theorem delete_noneL (base D : Nat) (g : Dg) (S : Nat → Prop) (nm : ByteArray) (w : World) (h : DvL w base D g S) (hk : g.ok) (hd : g.dead = false) (hh : hitG g.L nm = false) : Calls Tryd.prog 45 #[.pointer (some ⟨D, 0, none⟩), .string nm] w (LeftL base D g S (.int .i64 4) w) := by
  obtain ⟨d, h1, rfl, e1, e2, e3, e4, e5, rfl⟩ := h
  have hs := hk.srt
  have hf := hk.few
  rw [← e5] at hs hh hf
  rw [hitG_of] at hh
  rw [List.length_map] at hf
  exact (delete_none base d nm w h1 (by rw [dead_of e3 e4]; exact hd) (sortG_of hs) hf hh).mono fun e w' h => ⟨h.1, _, ⟨_, h.2.1, rfl, e1, e2, e3, e4, e5, rfl⟩, h.2.2⟩
def Dg.del (g : Dg) (i : Nat) (x : Lg) : Dg := { g with us := g.us - (x.2.1.length : Int), L := g.L.eraseIdx i }
theorem delete_hitL (base D : Nat) (g : Dg) (S : Nat → Prop) (nm : ByteArray) (i : Nat) (x : Lg) (w : World) (h : DvL w base D g S) (hk : g.ok) (hd : g.dead = false) (hh : hitG g.L nm = true) (hi : posG g.L nm = i) (hx : g.L[i]? = some x) : Calls Tryd.prog 45 #[.pointer (some ⟨D, 0, none⟩), .string nm] w (LeftL base D (g.del i x).burnt S (.int .i64 0) w) := by
  obtain ⟨d, h1, rfl, e1, e2, e3, e4, e5, rfl⟩ := h
  have hs := hk.srt
  have hf := hk.few
  have hu := hk.us
  have hb := hk.big x (List.mem_of_getElem? hx)
  rw [← e5] at hs hh hf hi hx
  rw [hitG_of] at hh
  rw [posG_of] at hi
  rw [List.length_map] at hf
  obtain ⟨f, hfi, f1, f2, f3⟩ := at_of hx
  refine (delete_hit base d nm i f w h1 (by rw [dead_of e3 e4]; exact hd) (sortG_of hs) hf hh hi.symm hfi (by rw [e4]; exact hk.lf) (by rw [e2]; exact hu) (by rw [f2]; omega)).mono fun e w' hp => ?_
  obtain ⟨d', ⟨p0, p1, p2⟩, q1, q2, q3, q4, q5, q6⟩ := hp
  exact ⟨p0, _, ⟨d', p1, q1, q2.trans e1, by rw [q3, e2, f2]; rfl, q4.trans e3, by rw [q5, e3, e4]; rfl, by rw [q6, e5]; rfl, rfl⟩, p2⟩
end Go.Proofs.YtbdiamhhlabojaaDoor
