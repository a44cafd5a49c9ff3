/- device.Append. -/
import Derived.Test.YtbdiamhhlabojaaDoorUf
import Derived.Test.YtbdiamhhlabojaaDoorPuta
import Derived.Deep.RegionHeld3
import Derived.BigQuiet
namespace Go.Proofs.YtbdiamhhlabojaaDoor
open Go.RowKit
set_option linter.unusedVariables false
set_option linter.unusedSimpArgs false
set_option maxRecDepth 100000

theorem Kept.drewN (w : World) (q : Nat) (S : Nat → Prop) : Kept w (w.drewN q) S S := ⟨rfl, rfl, rfl, Nat.le_refl _, fun _ _ _ => rfl, fun _ _ h => h⟩
def Lf.lg (f : Lf) : ByteArray × List UInt8 × Int := (f.nm, f.da, f.su)
/-- What a call that put bytes leaves. -/
def Put (base : Nat) (d : Dv) (m : Nat) (L : List (ByteArray × List UInt8 × Int)) (w : World) (e : Ending) (w' : World) : Prop :=
  ∃ d' : Dv, Went base d d' (.int .i64 0) w e w' ∧ d'.D = d.D ∧ d'.room = d.room ∧ d'.us = d.us + m ∧ d'.fu = d.fu ∧ d'.lf = (if d.fu = true then d.lf - 1 else d.lf) ∧ d'.fs.map Lf.lg = L
theorem new_lg (l : List Lf) (i : Nat) (nm : ByteArray) (b : List UInt8) (A2 : Option Addr) (cc2 : Nat) (hi : i ≤ l.length) : ((l.take i ++ (⟨nm, [], 0, none, 0⟩ : Lf) :: l.drop i).set i ⟨nm, [] ++ b, 0, A2, cc2⟩).map Lf.lg = (l.map Lf.lg).take i ++ (nm, b, 0) :: (l.map Lf.lg).drop i := by
  have e : (l.take i).length = i := by rw [List.length_take]; omega
  rw [List.set_append_right _ _ (by omega), e, Nat.sub_self, List.set_cons_zero, List.map_append, List.map_cons, List.map_take, List.map_drop]
  rfl
theorem DvAt.redata' {w w2 : World} {base : Nat} {d : Dv} (h : DvAt w base d) {g i : Nat} {f : Lf} {v0 : Value} (hA : d.A = some ⟨g, 0, none⟩) (hi : d.fs[i]? = some f) (b : List UInt8) (A2 : Option Addr) (cc2 qb : Nat) (hqb : qb = (f.da ++ b).length) (hv : f.val = v0) (hg : Grew w.drew w2 v0 (.slice A2 qb cc2)) (ho : w2.ownsRow base 5 1 (.slice A2 qb cc2) qb ((f.da ++ b).map B8)) :
    DvAt (w2.setCell ⟨g, i * 3 + 1, none⟩ (.slice A2 qb cc2)) base { d with fs := d.fs.set i ⟨f.nm, f.da ++ b, f.su, A2, cc2⟩ } ∧ Kept w (w2.setCell ⟨g, i * 3 + 1, none⟩ (.slice A2 qb cc2)) d.has ({ d with fs := d.fs.set i ⟨f.nm, f.da ++ b, f.su, A2, cc2⟩ } : Dv).has ∧ w2.frozen? ⟨g, i * 3 + 1, none⟩ = false := by
  subst hqb
  subst hv
  exact h.redata (y := ⟨f.nm, f.da ++ b, f.su, A2, cc2⟩) hA hi rfl (grew_drew hg) ho
def ApF (W0 : World) (base : Nat) (d : Dv) (g i n q : Nat) (f : Lf) (b : List UInt8) (bA : Option Addr) (m bc : Nat) : Nat → Value → World → Prop
  | 0, v, _ => v = .pointer (some ⟨d.D, 0, none⟩)
  | 1, v, _ => v = .pointer (some ⟨d.D, 0, none⟩)
  | 2, v, _ => v = .pointer (some ⟨d.D, 2, none⟩)
  | 3, v, _ => v = .slice (some ⟨g, 0, none⟩) n d.c
  | 4, v, _ => v = .int .i64 (i : Int)
  | 5, v, _ => v = .pointer (some ⟨d.D, 0, none⟩)
  | 6, v, _ => v = .pointer (some ⟨d.D, 0, none⟩)
  | 7, v, _ => v = .pointer (some ⟨d.D, 2, none⟩)
  | 8, v, _ => v = .slice (some ⟨g, 0, none⟩) n d.c
  | 9, v, _ => v = .int .i64 (i : Int)
  | 10, v, _ => v = .pointer (some ⟨g, i * 3, none⟩)
  | 11, v, _ => v = .pointer (some ⟨g, i * 3 + 1, none⟩)
  | 12, v, _ => v = .slice f.A q f.c
  | 13, v, _ => v = .slice bA m bc
  | 14, v, w => w.ownsRow base 5 1 v (f.da ++ b).length ((f.da ++ b).map B8) ∧ Grew W0 w f.val v
  | 15, v, _ => v = .pointer (some ⟨g, i * 3, none⟩)
  | 16, v, _ => v = .pointer (some ⟨g, i * 3 + 1, none⟩)
  | _, _, _ => True
theorem ApF.keep {W0 : World} {base : Nat} {d : Dv} {g i n q : Nat} {f : Lf} {b : List UInt8} {bA : Option Addr} {m bc : Nat} {w w' : World} {j : Nat} {v : Value} (hj : j ≠ 14) (h : ApF W0 base d g i n q f b bA m bc j v w) : ApF W0 base d g i n q f b bA m bc j v w' := by
  match j, hj, h with
  | 0, _, h => exact h
  | 1, _, h => exact h
  | 2, _, h => exact h
  | 3, _, h => exact h
  | 4, _, h => exact h
  | 5, _, h => exact h
  | 6, _, h => exact h
  | 7, _, h => exact h
  | 8, _, h => exact h
  | 9, _, h => exact h
  | 10, _, h => exact h
  | 11, _, h => exact h
  | 12, _, h => exact h
  | 13, _, h => exact h
  | 14, hj, _ => exact absurd rfl hj
  | 15, _, h => exact h
  | 16, _, h => exact h
  | _ + 17, _, _ => trivial
def ApI (W0 : World) (base : Nat) (d : Dv) (i : Nat) (f : Lf) (b : List UInt8) (L : Nat → Bool) (w : World) : Prop :=
  if L 17 = true then (∃ A2 cc2, DvAt w base { d with fs := d.fs.set i ⟨f.nm, f.da ++ b, f.su, A2, cc2⟩ } ∧ Kept W0 w d.has ({ d with fs := d.fs.set i ⟨f.nm, f.da ++ b, f.su, A2, cc2⟩ } : Dv).has)
  else if L 14 = true then w.cell? ⟨d.D, 2, none⟩ = some (.slice d.A d.fs.length d.c) else w = W0
theorem ApI.same {W0 : World} {base : Nat} {d : Dv} {i : Nat} {f : Lf} {b : List UInt8} {L : Nat → Bool} {w : World} (k : Nat) (hk : k ≠ 14 ∧ k ≠ 17) (h : ApI W0 base d i f b L w) : ApI W0 base d i f b (PI.upd L k) w := by
  obtain ⟨h1, h2⟩ := hk
  unfold ApI PI.upd at *
  simp only [Ne.symm h1, Ne.symm h2, if_false] at *
  exact h
theorem apI0 (W0 : World) (base : Nat) (d : Dv) (i : Nat) (f : Lf) (b : List UInt8) : ApI W0 base d i f b (fun _ => false) W0 := by unfold ApI; simp
theorem apcell {W0 : World} {base : Nat} {d : Dv} {i : Nat} {f : Lf} {b : List UInt8} {L : Nat → Bool} {w : World} (h : ApI W0 base d i f b L w) (h17 : L 17 = false) {v : Value} (c2 : W0.cell? ⟨d.D, 2, none⟩ = some v) (hv : v = .slice d.A d.fs.length d.c) : w.cell? ⟨d.D, 2, none⟩ = some v := by
  unfold ApI at h
  rw [if_neg (by rw [h17]; simp)] at h
  split at h
  · rw [h, hv]
  · rw [h]; exact c2
theorem apworld {W0 : World} {base : Nat} {d : Dv} {i : Nat} {f : Lf} {b : List UInt8} {L : Nat → Bool} {w : World} (h : ApI W0 base d i f b L w) (h17 : L 17 = false) (h14 : L 14 = false) : w = W0 := by
  unfold ApI at h
  rw [if_neg (by rw [h17]; simp), if_neg (by rw [h14]; simp)] at h
  exact h
theorem apend {W0 : World} {base : Nat} {d : Dv} {i : Nat} {f : Lf} {b : List UInt8} {n : Nat} {w : World} (h : ApI W0 base d i f b (fun k => decide (k < n)) w) (hn : 17 < n) : ∃ A2 cc2, DvAt w base { d with fs := d.fs.set i ⟨f.nm, f.da ++ b, f.su, A2, cc2⟩ } ∧ Kept W0 w d.has ({ d with fs := d.fs.set i ⟨f.nm, f.da ++ b, f.su, A2, cc2⟩ } : Dv).has := by
  unfold ApI at h
  rw [if_pos (decide_eq_true hn)] at h
  exact h
theorem burnt_all (d : Dv) : d.burnt.D = d.D ∧ d.burnt.room = d.room ∧ d.burnt.us = d.us ∧ d.burnt.fu = d.fu ∧ d.burnt.lf = (if d.fu = true then d.lf - 1 else d.lf) ∧ d.burnt.fs = d.fs := by
  unfold Dv.burnt
  split <;> simp_all
theorem append_dead (base : Nat) (d : Dv) (nm : ByteArray) (bA : Option Addr) (m bc : Nat) (w : World) (h : DvAt w base d) (hd : d.dead = true) :
    Calls Tryd.prog 27 #[.pointer (some ⟨d.D, 0, none⟩), .string nm, .slice bA m bc] w (Went base d d (.int .i64 5) w) := by
  have HD := Lib.hid h
  clear h
  unfold Went
  go_enter Tryd.func27, Tryd.ntmps27
  go_wp2_with (go_at_call 50; (with_reducible refine (dead_any base d _ HD.out).mono ?_); rintro e wd ⟨rfl, hwd⟩; subst hwd)
  go_ret
  exact ⟨rfl, HD.out, Kept.refl _ _⟩
theorem append_full (base : Nat) (d : Dv) (nm : ByteArray) (bA : Option Addr) (m bc : Nat) (w : World) (h : DvAt w base d) (hd : d.dead = false) (hnm : (nm.toList == ([] : List UInt8)) = false) (hf : d.room - d.us < (m : Int)) (hr : 0 ≤ d.us ∧ 0 ≤ d.room ∧ d.us ≤ 9223372036854775807 ∧ d.room ≤ 9223372036854775807) :
    Calls Tryd.prog 27 #[.pointer (some ⟨d.D, 0, none⟩), .string nm, .slice bA m bc] w (Went base d d (.int .i64 3) w) := by
  have HD := Lib.hid h
  have US := Lib.hid (fun q => used_any base d (w.drewN q) (h.below ⟨rfl, rfl, rfl, Nat.le_refl _, fun _ _ => rfl⟩))
  have c0 := h.c0
  obtain ⟨z, hz⟩ : ∃ z, z = d.room - d.us := ⟨_, rfl⟩
  have iw1 : d.room - d.us = z := hz.symm
  have iw2 : IntKind.i64.wrap z = z := by rw [IntKind.wrap_i64]; omega
  have z0 : -9223372036854775808 ≤ z ∧ z ≤ 9223372036854775807 := by omega
  have d1 : decide (z < (m : Int)) = true := decide_eq_true (by omega)
  clear h hz hf
  unfold Went
  go_enter Tryd.func27, Tryd.ntmps27
  go_upto_region 7 with (go_at_call 50; (with_reducible refine (dead_any base d _ HD.out).mono ?_); rintro e wd ⟨rfl, hwd⟩; subst hwd)
  go_quiet ((go_at_call 51; with_reducible exact Calls.quiet_of_same (US.out _)))
  go_wp2_with fail
  go_ret
  exact ⟨rfl, HD.out.below ⟨rfl, rfl, rfl, Nat.le_refl _, fun _ _ => rfl⟩, Kept.drewN _ _ _⟩
set_option maxHeartbeats 4000000 in
theorem append_hit (base : Nat) (d : Dv) (nm : ByteArray) (i : Nat) (f : Lf) (bA : Option Addr) (b : List UInt8) (m bc B : Nat) (w : World) (h : DvAt w base d) (hd : d.dead = false) (hnm : (nm.toList == ([] : List UInt8)) = false) (hf : (m : Int) ≤ d.room - d.us) (hr : 0 ≤ d.us ∧ 0 ≤ d.room ∧ d.us ≤ 4611686018427387904 ∧ d.room ≤ 9223372036854775807)
    (hs : SortF d.fs) (hsm : d.fs.length ≤ 1000000) (hh : hitF d.fs nm = true) (hi : i = posF d.fs nm) (hfi : d.fs[i]? = some f) (hl : -9223372036854775807 ≤ d.lf ∧ d.lf ≤ 9223372036854775807) (hm : m = b.length) (hbr : Rd w B bA (b.map B8)) (hB : B ≤ w.heap.size) (hbA : b ≠ [] → ∀ a, bA = some a → ¬ d.has a.block) (hbig : f.da.length + b.length ≤ 4294967296) :
    Calls Tryd.prog 27 #[.pointer (some ⟨d.D, 0, none⟩), .string nm, .slice bA m bc] w (Put base d m ((d.fs.map Lf.lg).set i (f.nm, f.da ++ b, f.su)) w) := by
  have HF := Lib.hid hfi
  have hil0 := (List.getElem?_eq_some_iff.1 hfi).1
  obtain ⟨g, hA⟩ : ∃ g, d.A = some ⟨g, 0, none⟩ := by
    obtain ⟨g, hA, _⟩ := own_parts h.own (by omega)
    exact ⟨g, hA⟩
  have HA := Lib.hid hA
  clear hA hfi hil0
  have HD := Lib.hid h
  have US := Lib.hid (fun q => used_any base d (w.drewN q) (h.below ⟨rfl, rfl, rfl, Nat.le_refl _, fun _ _ => rfl⟩))
  have c0 := h.c0
  have HSF := Lib.hid hs
  have HH := Lib.hid hh
  have HI := Lib.hid hi
  have HM := Lib.hid hm
  have HBR0 := Lib.hid hbr
  have HBA := Lib.hid hbA
  obtain ⟨z, hz⟩ : ∃ z, z = d.room - d.us := ⟨_, rfl⟩
  have iw1 : d.room - d.us = z := hz.symm
  have iw2 : IntKind.i64.wrap z = z := by rw [IntKind.wrap_i64]; omega
  have z0 : -9223372036854775808 ≤ z ∧ z ≤ 9223372036854775807 := by omega
  have d1 : decide (z < (m : Int)) = false := decide_eq_false (by omega)
  have HUM : Hid (-9223372036854775808 ≤ d.us + (m : Int) ∧ d.us + (m : Int) ≤ 9223372036854775807) := Lib.hid (by omega)
  clear h hz hf hs hh hi hm hbr hbA
  go_enter Tryd.func27, Tryd.ntmps27
  go_upto_region 7 with (go_at_call 50; (with_reducible refine (dead_any base d _ HD.out).mono ?_); rintro e wd ⟨rfl, hwd⟩; subst hwd)
  go_quiet ((go_at_call 51; with_reducible exact Calls.quiet_of_same (US.out _)))
  have HDq := Lib.hid (HD.out.below (w' := wd.drewN nq) ⟨rfl, rfl, rfl, Nat.le_refl _, fun _ _ => rfl⟩)
  have HKq := Lib.hid (Kept.drewN wd nq d.has)
  clear iw1 iw2 z0 c0
  go_upto_region 12 with (go_at_call 46; (with_reducible refine (finddev_any base d nm _ HDq.out HSF.out hsm).mono ?_); rintro e w1 ⟨rfl, hb1⟩; have HB1 := Lib.hid hb1; have HD1 := Lib.hid (HDq.out.below hb1); clear hb1; rw [HH.out, ← HI.out])
  have HBR := Lib.hid (((HKq.out.trans (Kept.of HB1.out _)).rd HBR0.out hB (fun hx => HBA.out (fun e0 => hx (by rw [e0]; rfl)))))
  obtain ⟨n, hn⟩ : ∃ n, n = d.fs.length := ⟨_, rfl⟩
  obtain ⟨q, hq⟩ : ∃ q, q = f.da.length := ⟨_, rfl⟩
  have hil := (List.getElem?_eq_some_iff.1 HF.out).1
  have c2 : w1.drew.cell? ⟨d.D, 2, none⟩ = _ := HD1.out.c2
  rw [HA.out, ← hn] at c2
  have hr := Rd.of_own HD1.out.own
  rw [HA.out] at hr
  obtain ⟨a, ha, hab, x0, x1, x2⟩ := file_cells hr HF.out q hq
  injection ha with ha
  subst ha
  rw [Addr.add_lit, Nat.zero_add] at x0 x1 x2
  have hfm : f ∈ d.fs := List.mem_of_getElem? HF.out
  have HDW : Hid (DvAt w1.drew base d) := Lib.hid (HD1.out.below ⟨rfl, rfl, rfl, Nat.le_refl _, fun _ _ => rfl⟩)
  have HFO : Hid (w1.drew.ownsRow base 5 1 (.slice f.A q f.c) f.da.length (f.da.map B8)) := Lib.hid (by
    rw [hq]; exact own_drew (HD1.out.each f hfm))
  have HGN : Hid (some g ≠ (f.val).ownBlock ∧ some d.D ≠ (f.val).ownBlock ∧ g < w1.heap.size ∧ d.D < w1.heap.size) := Lib.hid ⟨fun e => HD1.out.neAF hfm HA.out e.symm, fun e => HD1.out.neF hfm e.symm, HD1.out.lt g (.inr (.inl ⟨_, HA.out, rfl⟩)), HD1.out.ltD⟩
  have HVL : Hid (f.val = .slice f.A q f.c) := Lib.hid (by rw [hq]; rfl)
  have APP := Lib.hid (fun ty => appB (ty := ty) (k := f.da) (l := b) (c := bc) HFO.out (Rd.drew HBR.out) hbig (Nat.le_trans HD1.out.lo (Nat.le_of_lt HD1.out.ltD)))
  have hdA : Value.slice (some ⟨g, 0, none⟩) n d.c = .slice d.A d.fs.length d.c := by rw [HA.out, hn]
  have HN := Lib.hid hn
  have HQ := Lib.hid hq
  have i0 : (0 : Int) ≤ (i : Int) := by omega
  have i1 : (i : Int) < (n : Int) := by omega
  have HM2 := HM.out
  rw [← HM2] at APP
  clear hn hq hr hil hfm HM2
  refine PI.wp_region_persG (R := fun _ _ => True) (G := fun _ _ => True) (I := fun L _ w => ApI w1.drew base d i f b L w) [(1, 0), (2, 1), (3, 2), (6, 5), (7, 6), (8, 7), (10, 8), (10, 9), (11, 10), (12, 11), (14, 12), (14, 13), (15, 3), (15, 4), (16, 15), (17, 16), (17, 14)] [] (by kernel_rfl) (PI.formed_of (by kernel_rfl)) ⟨fun _ => trivial, fun _ _ _ _ _ => trivial⟩ (fun _ => trivial) (ApF w1.drew base d g i n q f b bA m bc) (apI0 _ _ _ _ _ _) ?_ ?_
  · intro i9 o ho
    rcases i9 with _ | _ | _ | _ | _ | _ | _ | _ | _ | _ | _ | _ | _ | _ | _ | _ | _ | _ | i9
    · obtain rfl := Option.some.inj (show some _ = some o from ho)
      refine PI.shown_val rfl fun a w3 L hr T => ?_
      have h1 : a.eval (.tmp 0) = .pointer (some ⟨d.D, 0, none⟩) := T.was 0 (by kernel_rfl)
      exact ⟨.pointer (some ⟨d.D, 0, none⟩), w3, by simp only [execOp, h1]; simp [go_sem], PI.Post.pure ⟨fun _ => trivial, fun _ _ _ _ _ => trivial⟩ rfl (ApI.same 0 (by decide) T.inv)⟩
    · obtain rfl := Option.some.inj (show some _ = some o from ho)
      refine PI.shown_val rfl fun a w3 L hr T => ?_
      have h1 : a.eval (.tmp 49) = .pointer (some ⟨d.D, 0, none⟩) := T.at_ 0 49 (by kernel_rfl) (by kernel_rfl) (by kernel_rfl)
      exact ⟨.pointer (some ⟨d.D, 0, none⟩), w3, by simp only [execOp, h1]; simp [go_sem], PI.Post.pure ⟨fun _ => trivial, fun _ _ _ _ _ => trivial⟩ rfl (ApI.same 1 (by decide) T.inv)⟩
    · obtain rfl := Option.some.inj (show some _ = some o from ho)
      refine PI.shown_val rfl fun a w3 L hr T => ?_
      have h1 : a.eval (.tmp 50) = .pointer (some ⟨d.D, 0, none⟩) := T.at_ 1 50 (by kernel_rfl) (by kernel_rfl) (by kernel_rfl)
      exact ⟨.pointer (some ⟨d.D, 2, none⟩), w3, by simp only [execOp, h1]; simp [go_sem], PI.Post.pure ⟨fun _ => trivial, fun _ _ _ _ _ => trivial⟩ rfl (ApI.same 2 (by decide) T.inv)⟩
    · obtain rfl := Option.some.inj (show some _ = some o from ho)
      refine PI.shown_val rfl fun a w3 L hr T => ?_
      have h1 : a.eval (.tmp 51) = .pointer (some ⟨d.D, 2, none⟩) := T.at_ 2 51 (by kernel_rfl) (by kernel_rfl) (by kernel_rfl)
      have hL15 : L 15 = false := T.wait 15 _ rfl ⟨_, Array.mem_of_getElem? (i := 0) rfl, rfl, rfl⟩
      have hL16 : L 16 = false := Bool.eq_false_iff.2 fun hl => by have := T.shut_ 16 15 (by kernel_rfl) hl; rw [hL15] at this; cases this
      have hL17 : L 17 = false := Bool.eq_false_iff.2 fun hl => by have := T.shut_ 17 16 (by kernel_rfl) hl; rw [hL16] at this; cases this
      have c3 : w3.cell? ⟨d.D, 2, none⟩ = some (.slice (some ⟨g, 0, none⟩) n d.c) := apcell T.inv hL17 c2 hdA
      exact ⟨.slice (some ⟨g, 0, none⟩) n d.c, w3, by simp only [execOp, h1]; simp [go_sem, c3], PI.Post.pure ⟨fun _ => trivial, fun _ _ _ _ _ => trivial⟩ rfl (ApI.same 3 (by decide) T.inv)⟩
    · obtain rfl := Option.some.inj (show some _ = some o from ho)
      refine PI.shown_val rfl fun a w3 L hr T => ?_
      have h1 : a.eval (.tmp 7) = .int .i64 (i : Int) := T.was 7 (by kernel_rfl)
      exact ⟨.int .i64 (i : Int), w3, by simp only [execOp, h1]; simp [go_sem], PI.Post.pure ⟨fun _ => trivial, fun _ _ _ _ _ => trivial⟩ rfl (ApI.same 4 (by decide) T.inv)⟩
    · obtain rfl := Option.some.inj (show some _ = some o from ho)
      refine PI.shown_val rfl fun a w3 L hr T => ?_
      have h1 : a.eval (.tmp 0) = .pointer (some ⟨d.D, 0, none⟩) := T.was 0 (by kernel_rfl)
      exact ⟨.pointer (some ⟨d.D, 0, none⟩), w3, by simp only [execOp, h1]; simp [go_sem], PI.Post.pure ⟨fun _ => trivial, fun _ _ _ _ _ => trivial⟩ rfl (ApI.same 5 (by decide) T.inv)⟩
    · obtain rfl := Option.some.inj (show some _ = some o from ho)
      refine PI.shown_val rfl fun a w3 L hr T => ?_
      have h1 : a.eval (.tmp 54) = .pointer (some ⟨d.D, 0, none⟩) := T.at_ 5 54 (by kernel_rfl) (by kernel_rfl) (by kernel_rfl)
      exact ⟨.pointer (some ⟨d.D, 0, none⟩), w3, by simp only [execOp, h1]; simp [go_sem], PI.Post.pure ⟨fun _ => trivial, fun _ _ _ _ _ => trivial⟩ rfl (ApI.same 6 (by decide) T.inv)⟩
    · obtain rfl := Option.some.inj (show some _ = some o from ho)
      refine PI.shown_val rfl fun a w3 L hr T => ?_
      have h1 : a.eval (.tmp 55) = .pointer (some ⟨d.D, 0, none⟩) := T.at_ 6 55 (by kernel_rfl) (by kernel_rfl) (by kernel_rfl)
      exact ⟨.pointer (some ⟨d.D, 2, none⟩), w3, by simp only [execOp, h1]; simp [go_sem], PI.Post.pure ⟨fun _ => trivial, fun _ _ _ _ _ => trivial⟩ rfl (ApI.same 7 (by decide) T.inv)⟩
    · obtain rfl := Option.some.inj (show some _ = some o from ho)
      refine PI.shown_val rfl fun a w3 L hr T => ?_
      have h1 : a.eval (.tmp 56) = .pointer (some ⟨d.D, 2, none⟩) := T.at_ 7 56 (by kernel_rfl) (by kernel_rfl) (by kernel_rfl)
      have hL10 : L 10 = false := T.wait 10 _ rfl ⟨_, Array.mem_of_getElem? (i := 0) rfl, rfl, rfl⟩
      have hL11 : L 11 = false := Bool.eq_false_iff.2 fun hl => by have := T.shut_ 11 10 (by kernel_rfl) hl; rw [hL10] at this; cases this
      have hL12 : L 12 = false := Bool.eq_false_iff.2 fun hl => by have := T.shut_ 12 11 (by kernel_rfl) hl; rw [hL11] at this; cases this
      have hL14 : L 14 = false := Bool.eq_false_iff.2 fun hl => by have := T.shut_ 14 12 (by kernel_rfl) hl; rw [hL12] at this; cases this
      have hL17 : L 17 = false := Bool.eq_false_iff.2 fun hl => by have := T.shut_ 17 14 (by kernel_rfl) hl; rw [hL14] at this; cases this
      have c3 : w3.cell? ⟨d.D, 2, none⟩ = some (.slice (some ⟨g, 0, none⟩) n d.c) := apcell T.inv hL17 c2 hdA
      exact ⟨.slice (some ⟨g, 0, none⟩) n d.c, w3, by simp only [execOp, h1]; simp [go_sem, c3], PI.Post.pure ⟨fun _ => trivial, fun _ _ _ _ _ => trivial⟩ rfl (ApI.same 8 (by decide) T.inv)⟩
    · obtain rfl := Option.some.inj (show some _ = some o from ho)
      refine PI.shown_val rfl fun a w3 L hr T => ?_
      have h1 : a.eval (.tmp 7) = .int .i64 (i : Int) := T.was 7 (by kernel_rfl)
      exact ⟨.int .i64 (i : Int), w3, by simp only [execOp, h1]; simp [go_sem], PI.Post.pure ⟨fun _ => trivial, fun _ _ _ _ _ => trivial⟩ rfl (ApI.same 9 (by decide) T.inv)⟩
    · obtain rfl := Option.some.inj (show some _ = some o from ho)
      refine PI.shown_val rfl fun a w3 L hr T => ?_
      have h1 : a.eval (.tmp 57) = .slice (some ⟨g, 0, none⟩) n d.c := T.at_ 8 57 (by kernel_rfl) (by kernel_rfl) (by kernel_rfl)
      have h2 : a.eval (.tmp 58) = .int .i64 (i : Int) := T.at_ 9 58 (by kernel_rfl) (by kernel_rfl) (by kernel_rfl)
      exact ⟨.pointer (some ⟨g, i * 3, none⟩), w3, by simp only [execOp, h1, h2]; simp [go_sem, i0, i1], PI.Post.pure ⟨fun _ => trivial, fun _ _ _ _ _ => trivial⟩ rfl (ApI.same 10 (by decide) T.inv)⟩
    · obtain rfl := Option.some.inj (show some _ = some o from ho)
      refine PI.shown_val rfl fun a w3 L hr T => ?_
      have h1 : a.eval (.tmp 59) = .pointer (some ⟨g, i * 3, none⟩) := T.at_ 10 59 (by kernel_rfl) (by kernel_rfl) (by kernel_rfl)
      exact ⟨.pointer (some ⟨g, i * 3 + 1, none⟩), w3, by simp only [execOp, h1]; simp [go_sem], PI.Post.pure ⟨fun _ => trivial, fun _ _ _ _ _ => trivial⟩ rfl (ApI.same 11 (by decide) T.inv)⟩
    · obtain rfl := Option.some.inj (show some _ = some o from ho)
      refine PI.shown_val rfl fun a w3 L hr T => ?_
      have h1 : a.eval (.tmp 60) = .pointer (some ⟨g, i * 3 + 1, none⟩) := T.at_ 11 60 (by kernel_rfl) (by kernel_rfl) (by kernel_rfl)
      have hL14 : L 14 = false := T.wait 14 _ rfl ⟨_, Array.mem_of_getElem? (i := 0) rfl, rfl, rfl⟩
      have hL17 : L 17 = false := Bool.eq_false_iff.2 fun hl => by have := T.shut_ 17 14 (by kernel_rfl) hl; rw [hL14] at this; cases this
      have hw3 := apworld T.inv hL17 hL14
      have x3 : w3.cell? ⟨g, i * 3 + 1, none⟩ = some (.slice f.A q f.c) := by rw [hw3]; exact x1
      exact ⟨.slice f.A q f.c, w3, by simp only [execOp, h1]; simp [go_sem, x3], PI.Post.pure ⟨fun _ => trivial, fun _ _ _ _ _ => trivial⟩ rfl (ApI.same 12 (by decide) T.inv)⟩
    · obtain rfl := Option.some.inj (show some _ = some o from ho)
      refine PI.shown_val rfl fun a w3 L hr T => ?_
      have h1 : a.eval (.tmp 2) = .slice bA m bc := T.was 2 (by kernel_rfl)
      exact ⟨.slice bA m bc, w3, by simp only [execOp, h1]; simp [go_sem], PI.Post.pure ⟨fun _ => trivial, fun _ _ _ _ _ => trivial⟩ rfl (ApI.same 13 (by decide) T.inv)⟩
    · obtain rfl := Option.some.inj (show some _ = some o from ho)
      refine PI.shown_val rfl fun a w3 L hr T => ?_
      have h1 : a.eval (.tmp 61) = .slice f.A q f.c := T.at_ 12 61 (by kernel_rfl) (by kernel_rfl) (by kernel_rfl)
      have h2 : a.eval (.tmp 62) = .slice bA m bc := T.at_ 13 62 (by kernel_rfl) (by kernel_rfl) (by kernel_rfl)
      have hL14 : L 14 = false := T.yetNot
      have hL17 : L 17 = false := Bool.eq_false_iff.2 fun hl => by have := T.shut_ 17 14 (by kernel_rfl) hl; rw [hL14] at this; cases this
      have hw3 := apworld T.inv hL17 hL14
      subst hw3
      obtain ⟨v', w', r1, r2, r3⟩ := APP.out 30
      refine ⟨v', w', by simp only [execOp, resolve, invoke, builtin, Sem.run_bind, Sem.run_pure, Result.andThen_ok, List.map_toArray, List.map_cons, List.map_nil, h1, h2, r1], trivial, ⟨r2, by rw [HVL.out]; exact r3⟩, fun _ _ h => h, fun j v hj hlj hnd hvj h => ApF.keep hj h, ?_⟩
      show ApI _ base d i f b (PI.upd L 14) w'
      unfold ApI PI.upd
      simp only [show ¬ (17 = 14) by decide, if_false, if_true, hL17, Bool.false_eq_true]
      exact (World.cell?_of_block (r3.grown.block _ HGN.out.2.2.2 (by rw [← HVL.out]; exact HGN.out.2.1))).trans HDW.out.c2
    · obtain rfl := Option.some.inj (show some _ = some o from ho)
      refine PI.shown_val rfl fun a w3 L hr T => ?_
      have h1 : a.eval (.tmp 52) = .slice (some ⟨g, 0, none⟩) n d.c := T.at_ 3 52 (by kernel_rfl) (by kernel_rfl) (by kernel_rfl)
      have h2 : a.eval (.tmp 53) = .int .i64 (i : Int) := T.at_ 4 53 (by kernel_rfl) (by kernel_rfl) (by kernel_rfl)
      exact ⟨.pointer (some ⟨g, i * 3, none⟩), w3, by simp only [execOp, h1, h2]; simp [go_sem, i0, i1], PI.Post.pure ⟨fun _ => trivial, fun _ _ _ _ _ => trivial⟩ rfl (ApI.same 15 (by decide) T.inv)⟩
    · obtain rfl := Option.some.inj (show some _ = some o from ho)
      refine PI.shown_val rfl fun a w3 L hr T => ?_
      have h1 : a.eval (.tmp 64) = .pointer (some ⟨g, i * 3, none⟩) := T.at_ 15 64 (by kernel_rfl) (by kernel_rfl) (by kernel_rfl)
      exact ⟨.pointer (some ⟨g, i * 3 + 1, none⟩), w3, by simp only [execOp, h1]; simp [go_sem], PI.Post.pure ⟨fun _ => trivial, fun _ _ _ _ _ => trivial⟩ rfl (ApI.same 16 (by decide) T.inv)⟩
    · obtain rfl := Option.some.inj (show some _ = some o from ho)
      refine PI.shown_skip rfl fun a w3 L hr T => ?_
      have h1 : a.eval (.tmp 65) = .pointer (some ⟨g, i * 3 + 1, none⟩) := T.at_ 16 65 (by kernel_rfl) (by kernel_rfl) (by kernel_rfl)
      have h14 : w3.ownsRow base 5 1 (a.eval (.tmp 63)) (f.da ++ b).length ((f.da ++ b).map B8) ∧ Grew _ w3 f.val (a.eval (.tmp 63)) := T.at_ 14 63 (by kernel_rfl) (by kernel_rfl) (by kernel_rfl)
      obtain ⟨ho3, hg3⟩ := h14
      obtain ⟨A2, cc2, hv, _, _⟩ := own_rd ho3
      rw [hv] at ho3 hg3
      obtain ⟨k1, k2, k3⟩ := HDW.out.redata (y := ⟨f.nm, f.da ++ b, f.su, A2, cc2⟩) HA.out HF.out rfl hg3 ho3
      have x3 : w3.cell? ⟨g, i * 3 + 1, none⟩ = some (.slice f.A q f.c) := (World.cell?_of_block (hg3.grown.block _ HGN.out.2.2.1 HGN.out.1)).trans x1
      refine ⟨w3.setCell ⟨g, i * 3 + 1, none⟩ (.slice A2 (f.da ++ b).length cc2), by simp only [execOp, h1, hv]; simp [go_sem, x3, k3], trivial, trivial, fun _ _ h => h, fun j v hj hlj hnd hvj h => ?_, ?_⟩
      · refine ApF.keep (fun e => ?_) h
        subst e
        simp [PI.needB] at hnd
      · show ApI _ base d i f b (PI.upd L 17) _
        unfold ApI PI.upd
        simp only [if_true]
        exact ⟨A2, cc2, k1, k2⟩
    · cases ho
  · intro x w5 hr hf he hI
    obtain ⟨A2, cc2, k1, k2⟩ := apend hI (by decide)
    have HD5 := Lib.hid k1
    have HK5 := Lib.hid k2
    clear hf he hI k1 k2 hr APP
    simp only [PI.putAll, Act.put, Nat.zero_add, Nat.reduceAdd, List.setIfInBounds_toArray, List.set_cons_zero, List.set_cons_succ]
    have u1 := HD5.out.c1
    have uf := HD5.out.fz 1
    simp only at u1 uf
    obtain ⟨s1, s2⟩ := HD5.out.setUs (d.us + m)
    have HS1 := Lib.hid s1
    have HS2 := Lib.hid s2
    have AD := Lib.hid (addI_any d.D d.us (m : Int) (d.us + m) w5 u1 uf rfl HUM.out)
    have BN := Lib.hid (burn_any base _ _ HS1.out hl)
    simp only at BN
    clear u1 uf s1 s2
    go_upto_region 14 with (go_at_call 41; (with_reducible refine AD.out.mono ?_); rintro e w6 ⟨rfl, hw6⟩)
    subst hw6
    generalize w5.setCell ⟨d.D, 1, none⟩ (.int .i64 (d.us + m)) = W6 at *
    go_wp2_with (go_at_call 53; (with_reducible refine BN.out.mono ?_); rintro e w7 ⟨rfl, hd7, hk7⟩; have HD7 := Lib.hid hd7; have HK7 := Lib.hid hk7; clear hd7 hk7)
    go_ret
    unfold Put Went
    refine ⟨_, ⟨rfl, HD7.out, HKq.out.trans ((Kept.of HB1.out _).trans (((Kept.refl _ _).drew).trans (HK5.out.trans (HS2.out.trans HK7.out))))⟩, ?_⟩
    obtain ⟨b1, b2, b3, b4, b5, b6⟩ := burnt_all ({ d with fs := d.fs.set i ⟨f.nm, f.da ++ b, f.su, A2, cc2⟩, us := d.us + m } : Dv)
    rw [b1, b2, b3, b4, b5, b6]
    refine ⟨rfl, rfl, rfl, rfl, rfl, ?_⟩
    show (d.fs.set i ⟨f.nm, f.da ++ b, f.su, A2, cc2⟩).map Lf.lg = _
    rw [List.map_set]; rfl
set_option maxHeartbeats 4000000 in
theorem append_new (base : Nat) (d : Dv) (nm : ByteArray) (i : Nat) (bA : Option Addr) (b : List UInt8) (m bc B : Nat) (w : World) (h : DvAt w base d) (hd : d.dead = false) (hnm : (nm.toList == ([] : List UInt8)) = false) (hf : (m : Int) ≤ d.room - d.us) (hr : 0 ≤ d.us ∧ 0 ≤ d.room ∧ d.us ≤ 4611686018427387904 ∧ d.room ≤ 9223372036854775807)
    (hs : SortF d.fs) (hsm : d.fs.length ≤ 1000000) (hh : hitF d.fs nm = false) (hi : i = posF d.fs nm) (hl : -9223372036854775807 ≤ d.lf ∧ d.lf ≤ 9223372036854775807) (hm : m = b.length) (hbr : Rd w B bA (b.map B8)) (hB : B ≤ w.heap.size) (hbA : b ≠ [] → ∀ a, bA = some a → ¬ d.has a.block) (hbig : b.length ≤ 4294967296) :
    Calls Tryd.prog 27 #[.pointer (some ⟨d.D, 0, none⟩), .string nm, .slice bA m bc] w (Put base d m ((d.fs.map Lf.lg).take i ++ (nm, b, 0) :: (d.fs.map Lf.lg).drop i) w) := by
  have hil : i ≤ d.fs.length := by rw [hi]; exact pos_le _ _
  have HD := Lib.hid h
  have US := Lib.hid (fun q => used_any base d (w.drewN q) (h.below ⟨rfl, rfl, rfl, Nat.le_refl _, fun _ _ => rfl⟩))
  have c0 := h.c0
  have HSF := Lib.hid hs
  have HH := Lib.hid hh
  have HI := Lib.hid hi
  have HM := Lib.hid hm
  have HBR0 := Lib.hid hbr
  have HBA := Lib.hid hbA
  obtain ⟨z, hz⟩ : ∃ z, z = d.room - d.us := ⟨_, rfl⟩
  have iw1 : d.room - d.us = z := hz.symm
  have iw2 : IntKind.i64.wrap z = z := by rw [IntKind.wrap_i64]; omega
  have z0 : -9223372036854775808 ≤ z ∧ z ≤ 9223372036854775807 := by omega
  have d1 : decide (z < (m : Int)) = false := decide_eq_false (by omega)
  have HUM : Hid (-9223372036854775808 ≤ d.us + (m : Int) ∧ d.us + (m : Int) ≤ 9223372036854775807) := Lib.hid (by omega)
  clear h hz hf hs hh hi hm hbr hbA
  go_enter Tryd.func27, Tryd.ntmps27
  go_upto_region 7 with (go_at_call 50; (with_reducible refine (dead_any base d _ HD.out).mono ?_); rintro e wd ⟨rfl, hwd⟩; subst hwd)
  go_quiet ((go_at_call 51; with_reducible exact Calls.quiet_of_same (US.out _)))
  have HDq := Lib.hid (HD.out.below (w' := wd.drewN nq) ⟨rfl, rfl, rfl, Nat.le_refl _, fun _ _ => rfl⟩)
  have HKq := Lib.hid (Kept.drewN wd nq d.has)
  clear iw1 iw2 z0 c0
  go_upto_region 11 with (go_at_call 46; (with_reducible refine (finddev_any base d nm _ HDq.out HSF.out hsm).mono ?_); rintro e w1 ⟨rfl, hb1⟩; have HB1 := Lib.hid hb1; have HD1 := Lib.hid (HDq.out.below hb1); clear hb1; rw [HH.out, ← HI.out])
  obtain ⟨f, hf⟩ : ∃ f : Lf, f = ⟨nm, [], 0, none, 0⟩ := ⟨_, rfl⟩
  obtain ⟨n0, hn0⟩ : ∃ n0, n0 = d.fs.length := ⟨_, rfl⟩
  have c2 := HD1.out.c2
  rw [← hn0] at c2
  have f2 := HD1.out.fz 2
  have hzD := HD1.out.ltD
  have HIN := Lib.hid (l_insert d.A n0 d.c i w1.heap.size d.fs f base (w1.alloc (.cells #[.string nm, .slice none 0 0, .int .i64 0] 78)) (by rw [hn0]; exact HD1.out.own.alloc _) hn0 (by omega) (by omega) (by simp; have := HD1.out.lo; omega) (by rw [hf]; exact heap_alloc_new w1 _) (fun a ha e => by have := HD1.out.lt a.block (.inr (.inl ⟨a, ha, rfl⟩)); omega))
  have HNE : Hid (∀ w3 v', Grew (w1.alloc (.cells #[.string nm, .slice none 0 0, .int .i64 0] 78)) w3 (.slice d.A n0 d.c) v' → w3.heap[d.D]? = w1.heap[d.D]?) := Lib.hid (fun w3 v' hg => hg.alloc.grown.block d.D hzD (fun e => by rw [hn0] at e; exact own_ne HD1.out.own HD1.out.row (by decide) e.symm))
  have HROW := Lib.hid HD1.out.row
  have HN0 := Lib.hid hn0
  have HFE := Lib.hid hf
  have hi0 : (0 : Int) ≤ (i : Int) := by omega
  clear hn0 hf
  go_upto_region 12 with (go_at_call 52; (with_reducible refine HIN.out.mono ?_); rintro e w3 ⟨A', c', rfl, ho3, hg3⟩; have hr3 := (HNE.out w3 _ hg3).trans HROW.out; have q2 : w3.cell? ⟨d.D, 2, none⟩ = some (.slice d.A d.fs.length d.c) := cell_of_row _ _ 2 _ _ (0, 0) hr3; have q3 : w3.frozen? ⟨d.D, 2, none⟩ = false := (by simp [World.frozen?, hr3]); have HO3 := Lib.hid ho3; have HG3 := Lib.hid hg3; clear ho3 hg3 hr3)
  clear q2 q3 c2 f2 hi0 hzD HIN
  obtain ⟨r1, r2⟩ := HD1.out.rerow (S := d.has) (A' := A') (n' := n0 + 1) (c' := c') (L := d.fs.take i ++ f :: d.fs.drop i) (fun _ h => h) (by rw [← HN0.out]; exact HG3.out.alloc) HO3.out (by simp; rw [HN0.out]; omega) (fun z hz => by
    rcases List.mem_append.1 hz with hz | hz
    · exact HD1.out.each z (List.mem_of_mem_take hz)
    · rcases List.mem_cons.1 hz with rfl | hz
      · rw [HFE.out]; exact World.ownsRow_nil _ _ _ _
      · exact HD1.out.each z (List.mem_of_mem_drop hz)) (fun z hz a ha => by
    rcases List.mem_append.1 hz with hz | hz
    · exact .inr (.inr ⟨z, List.mem_of_mem_take hz, a, ha, rfl⟩)
    · rcases List.mem_cons.1 hz with rfl | hz
      · rw [HFE.out] at ha; cases ha
      · exact .inr (.inr ⟨z, List.mem_of_mem_drop hz, a, ha, rfl⟩)) (by
    have hp : (d.fs.take i ++ d.fs.drop i).Pairwise apartF := by rw [List.take_append_drop]; exact HD1.out.two
    obtain ⟨p1, p2, p3⟩ := List.pairwise_append.1 hp
    have hff : ∀ z, apartF f z := fun z a b' ha _ => by rw [HFE.out] at ha; cases ha
    refine List.pairwise_append.2 ⟨p1, List.pairwise_cons.2 ⟨fun z _ => hff z, p2⟩, fun a ha z hz => ?_⟩
    rcases List.mem_cons.1 hz with rfl | hz
    · exact (hff a).symm
    · exact p3 a ha z hz)
  obtain ⟨d1, hd1⟩ : ∃ d1 : Dv, d1 = { d with A := A', c := c', fs := d.fs.take i ++ f :: d.fs.drop i } := ⟨_, rfl⟩
  rw [← hd1] at r1 r2
  have E0 : d.D = d1.D := by rw [hd1]
  have E1 : d1.us = d.us := by rw [hd1]
  have E2 : d1.room = d.room := by rw [hd1]
  have E3 : d1.fu = d.fu := by rw [hd1]
  have E4 : d1.lf = d.lf := by rw [hd1]
  have E5 : d1.fs = d.fs.take i ++ f :: d.fs.drop i := by rw [hd1]
  rw [E0] at r1 r2 ⊢
  rw [← E4] at hl
  rw [← E1] at HUM
  generalize w3.setCell ⟨d1.D, 2, none⟩ (.slice A' (n0 + 1) c') = w4 at *
  have HD4 := Lib.hid r1
  have HK4 := Lib.hid r2
  have HF : Hid (d1.fs[i]? = some f) := Lib.hid (by
    rw [E5, List.getElem?_append_right (by rw [List.length_take]; omega), List.length_take, Nat.min_eq_left hil, Nat.sub_self]; rfl)
  have hbig2 : f.da.length + b.length ≤ 4294967296 := by rw [HFE.out]; simpa using hbig
  obtain ⟨g, hA⟩ : ∃ g, d1.A = some ⟨g, 0, none⟩ := by
    obtain ⟨g, hA, _⟩ := own_parts r1.own (by rw [E5]; simp; omega)
    exact ⟨g, hA⟩
  have HA := Lib.hid hA
  have HBR := Lib.hid (((HKq.out.trans ((Kept.of HB1.out _).trans HK4.out)).rd HBR0.out hB (fun hx => HBA.out (fun e0 => hx (by rw [e0]; rfl)))))
  have HE := Lib.hid (And.intro E0 (And.intro E1 (And.intro E2 (And.intro E3 (And.intro E4 E5)))))
  clear r1 r2 hA hd1 E0 E1 E2 E3 E4 E5 HD1 HO3 HG3 HROW HNE hbig
  have hbig := hbig2
  clear hbig2
  obtain ⟨n, hn⟩ : ∃ n, n = d1.fs.length := ⟨_, rfl⟩
  obtain ⟨q, hq⟩ : ∃ q, q = f.da.length := ⟨_, rfl⟩
  have hil := (List.getElem?_eq_some_iff.1 HF.out).1
  have c2 : w4.drew.cell? ⟨d1.D, 2, none⟩ = _ := HD4.out.c2
  rw [HA.out, ← hn] at c2
  have hr := Rd.of_own HD4.out.own
  rw [HA.out] at hr
  obtain ⟨a, ha, hab, x0, x1, x2⟩ := file_cells hr HF.out q hq
  injection ha with ha
  subst ha
  rw [Addr.add_lit, Nat.zero_add] at x0 x1 x2
  have hfm : f ∈ d1.fs := List.mem_of_getElem? HF.out
  have HDW : Hid (DvAt w4.drew base d1) := Lib.hid (HD4.out.below ⟨rfl, rfl, rfl, Nat.le_refl _, fun _ _ => rfl⟩)
  have HFO : Hid (w4.drew.ownsRow base 5 1 (.slice f.A q f.c) f.da.length (f.da.map B8)) := Lib.hid (by
    rw [hq]; exact own_drew (HD4.out.each f hfm))
  have HGN : Hid (some g ≠ (f.val).ownBlock ∧ some d1.D ≠ (f.val).ownBlock ∧ g < w4.heap.size ∧ d1.D < w4.heap.size) := Lib.hid ⟨fun e => HD4.out.neAF hfm HA.out e.symm, fun e => HD4.out.neF hfm e.symm, HD4.out.lt g (.inr (.inl ⟨_, HA.out, rfl⟩)), HD4.out.ltD⟩
  have HVL : Hid (f.val = .slice f.A q f.c) := Lib.hid (by rw [hq]; rfl)
  have APP := Lib.hid (fun ty => appB (ty := ty) (k := f.da) (l := b) (c := bc) HFO.out (Rd.drew HBR.out) hbig (Nat.le_trans HD4.out.lo (Nat.le_of_lt HD4.out.ltD)))
  have hdA : Value.slice (some ⟨g, 0, none⟩) n d1.c = .slice d1.A d1.fs.length d1.c := by rw [HA.out, hn]
  have HN := Lib.hid hn
  have HQ := Lib.hid hq
  have i0 : (0 : Int) ≤ (i : Int) := by omega
  have i1 : (i : Int) < (n : Int) := by omega
  have HM2 := HM.out
  rw [← HM2] at APP
  clear hn hq hr hil hfm HM2
  refine PI.wp_region_persG (R := fun _ _ => True) (G := fun _ _ => True) (I := fun L _ w => ApI w4.drew base d1 i f b L w) [(1, 0), (2, 1), (3, 2), (6, 5), (7, 6), (8, 7), (10, 8), (10, 9), (11, 10), (12, 11), (14, 12), (14, 13), (15, 3), (15, 4), (16, 15), (17, 16), (17, 14)] [] (by kernel_rfl) (PI.formed_of (by kernel_rfl)) ⟨fun _ => trivial, fun _ _ _ _ _ => trivial⟩ (fun _ => trivial) (ApF w4.drew base d1 g i n q f b bA m bc) (apI0 _ _ _ _ _ _) ?_ ?_
  · intro i9 o ho
    rcases i9 with _ | _ | _ | _ | _ | _ | _ | _ | _ | _ | _ | _ | _ | _ | _ | _ | _ | _ | i9
    · obtain rfl := Option.some.inj (show some _ = some o from ho)
      refine PI.shown_val rfl fun a w3 L hr T => ?_
      have h1 : a.eval (.tmp 0) = .pointer (some ⟨d1.D, 0, none⟩) := T.was 0 (by kernel_rfl)
      exact ⟨.pointer (some ⟨d1.D, 0, none⟩), w3, by simp only [execOp, h1]; simp [go_sem], PI.Post.pure ⟨fun _ => trivial, fun _ _ _ _ _ => trivial⟩ rfl (ApI.same 0 (by decide) T.inv)⟩
    · obtain rfl := Option.some.inj (show some _ = some o from ho)
      refine PI.shown_val rfl fun a w3 L hr T => ?_
      have h1 : a.eval (.tmp 49) = .pointer (some ⟨d1.D, 0, none⟩) := T.at_ 0 49 (by kernel_rfl) (by kernel_rfl) (by kernel_rfl)
      exact ⟨.pointer (some ⟨d1.D, 0, none⟩), w3, by simp only [execOp, h1]; simp [go_sem], PI.Post.pure ⟨fun _ => trivial, fun _ _ _ _ _ => trivial⟩ rfl (ApI.same 1 (by decide) T.inv)⟩
    · obtain rfl := Option.some.inj (show some _ = some o from ho)
      refine PI.shown_val rfl fun a w3 L hr T => ?_
      have h1 : a.eval (.tmp 50) = .pointer (some ⟨d1.D, 0, none⟩) := T.at_ 1 50 (by kernel_rfl) (by kernel_rfl) (by kernel_rfl)
      exact ⟨.pointer (some ⟨d1.D, 2, none⟩), w3, by simp only [execOp, h1]; simp [go_sem], PI.Post.pure ⟨fun _ => trivial, fun _ _ _ _ _ => trivial⟩ rfl (ApI.same 2 (by decide) T.inv)⟩
    · obtain rfl := Option.some.inj (show some _ = some o from ho)
      refine PI.shown_val rfl fun a w3 L hr T => ?_
      have h1 : a.eval (.tmp 51) = .pointer (some ⟨d1.D, 2, none⟩) := T.at_ 2 51 (by kernel_rfl) (by kernel_rfl) (by kernel_rfl)
      have hL15 : L 15 = false := T.wait 15 _ rfl ⟨_, Array.mem_of_getElem? (i := 0) rfl, rfl, rfl⟩
      have hL16 : L 16 = false := Bool.eq_false_iff.2 fun hl => by have := T.shut_ 16 15 (by kernel_rfl) hl; rw [hL15] at this; cases this
      have hL17 : L 17 = false := Bool.eq_false_iff.2 fun hl => by have := T.shut_ 17 16 (by kernel_rfl) hl; rw [hL16] at this; cases this
      have c3 : w3.cell? ⟨d1.D, 2, none⟩ = some (.slice (some ⟨g, 0, none⟩) n d1.c) := apcell T.inv hL17 c2 hdA
      exact ⟨.slice (some ⟨g, 0, none⟩) n d1.c, w3, by simp only [execOp, h1]; simp [go_sem, c3], PI.Post.pure ⟨fun _ => trivial, fun _ _ _ _ _ => trivial⟩ rfl (ApI.same 3 (by decide) T.inv)⟩
    · obtain rfl := Option.some.inj (show some _ = some o from ho)
      refine PI.shown_val rfl fun a w3 L hr T => ?_
      have h1 : a.eval (.tmp 7) = .int .i64 (i : Int) := T.was 7 (by kernel_rfl)
      exact ⟨.int .i64 (i : Int), w3, by simp only [execOp, h1]; simp [go_sem], PI.Post.pure ⟨fun _ => trivial, fun _ _ _ _ _ => trivial⟩ rfl (ApI.same 4 (by decide) T.inv)⟩
    · obtain rfl := Option.some.inj (show some _ = some o from ho)
      refine PI.shown_val rfl fun a w3 L hr T => ?_
      have h1 : a.eval (.tmp 0) = .pointer (some ⟨d1.D, 0, none⟩) := T.was 0 (by kernel_rfl)
      exact ⟨.pointer (some ⟨d1.D, 0, none⟩), w3, by simp only [execOp, h1]; simp [go_sem], PI.Post.pure ⟨fun _ => trivial, fun _ _ _ _ _ => trivial⟩ rfl (ApI.same 5 (by decide) T.inv)⟩
    · obtain rfl := Option.some.inj (show some _ = some o from ho)
      refine PI.shown_val rfl fun a w3 L hr T => ?_
      have h1 : a.eval (.tmp 54) = .pointer (some ⟨d1.D, 0, none⟩) := T.at_ 5 54 (by kernel_rfl) (by kernel_rfl) (by kernel_rfl)
      exact ⟨.pointer (some ⟨d1.D, 0, none⟩), w3, by simp only [execOp, h1]; simp [go_sem], PI.Post.pure ⟨fun _ => trivial, fun _ _ _ _ _ => trivial⟩ rfl (ApI.same 6 (by decide) T.inv)⟩
    · obtain rfl := Option.some.inj (show some _ = some o from ho)
      refine PI.shown_val rfl fun a w3 L hr T => ?_
      have h1 : a.eval (.tmp 55) = .pointer (some ⟨d1.D, 0, none⟩) := T.at_ 6 55 (by kernel_rfl) (by kernel_rfl) (by kernel_rfl)
      exact ⟨.pointer (some ⟨d1.D, 2, none⟩), w3, by simp only [execOp, h1]; simp [go_sem], PI.Post.pure ⟨fun _ => trivial, fun _ _ _ _ _ => trivial⟩ rfl (ApI.same 7 (by decide) T.inv)⟩
    · obtain rfl := Option.some.inj (show some _ = some o from ho)
      refine PI.shown_val rfl fun a w3 L hr T => ?_
      have h1 : a.eval (.tmp 56) = .pointer (some ⟨d1.D, 2, none⟩) := T.at_ 7 56 (by kernel_rfl) (by kernel_rfl) (by kernel_rfl)
      have hL10 : L 10 = false := T.wait 10 _ rfl ⟨_, Array.mem_of_getElem? (i := 0) rfl, rfl, rfl⟩
      have hL11 : L 11 = false := Bool.eq_false_iff.2 fun hl => by have := T.shut_ 11 10 (by kernel_rfl) hl; rw [hL10] at this; cases this
      have hL12 : L 12 = false := Bool.eq_false_iff.2 fun hl => by have := T.shut_ 12 11 (by kernel_rfl) hl; rw [hL11] at this; cases this
      have hL14 : L 14 = false := Bool.eq_false_iff.2 fun hl => by have := T.shut_ 14 12 (by kernel_rfl) hl; rw [hL12] at this; cases this
      have hL17 : L 17 = false := Bool.eq_false_iff.2 fun hl => by have := T.shut_ 17 14 (by kernel_rfl) hl; rw [hL14] at this; cases this
      have c3 : w3.cell? ⟨d1.D, 2, none⟩ = some (.slice (some ⟨g, 0, none⟩) n d1.c) := apcell T.inv hL17 c2 hdA
      exact ⟨.slice (some ⟨g, 0, none⟩) n d1.c, w3, by simp only [execOp, h1]; simp [go_sem, c3], PI.Post.pure ⟨fun _ => trivial, fun _ _ _ _ _ => trivial⟩ rfl (ApI.same 8 (by decide) T.inv)⟩
    · obtain rfl := Option.some.inj (show some _ = some o from ho)
      refine PI.shown_val rfl fun a w3 L hr T => ?_
      have h1 : a.eval (.tmp 7) = .int .i64 (i : Int) := T.was 7 (by kernel_rfl)
      exact ⟨.int .i64 (i : Int), w3, by simp only [execOp, h1]; simp [go_sem], PI.Post.pure ⟨fun _ => trivial, fun _ _ _ _ _ => trivial⟩ rfl (ApI.same 9 (by decide) T.inv)⟩
    · obtain rfl := Option.some.inj (show some _ = some o from ho)
      refine PI.shown_val rfl fun a w3 L hr T => ?_
      have h1 : a.eval (.tmp 57) = .slice (some ⟨g, 0, none⟩) n d1.c := T.at_ 8 57 (by kernel_rfl) (by kernel_rfl) (by kernel_rfl)
      have h2 : a.eval (.tmp 58) = .int .i64 (i : Int) := T.at_ 9 58 (by kernel_rfl) (by kernel_rfl) (by kernel_rfl)
      exact ⟨.pointer (some ⟨g, i * 3, none⟩), w3, by simp only [execOp, h1, h2]; simp [go_sem, i0, i1], PI.Post.pure ⟨fun _ => trivial, fun _ _ _ _ _ => trivial⟩ rfl (ApI.same 10 (by decide) T.inv)⟩
    · obtain rfl := Option.some.inj (show some _ = some o from ho)
      refine PI.shown_val rfl fun a w3 L hr T => ?_
      have h1 : a.eval (.tmp 59) = .pointer (some ⟨g, i * 3, none⟩) := T.at_ 10 59 (by kernel_rfl) (by kernel_rfl) (by kernel_rfl)
      exact ⟨.pointer (some ⟨g, i * 3 + 1, none⟩), w3, by simp only [execOp, h1]; simp [go_sem], PI.Post.pure ⟨fun _ => trivial, fun _ _ _ _ _ => trivial⟩ rfl (ApI.same 11 (by decide) T.inv)⟩
    · obtain rfl := Option.some.inj (show some _ = some o from ho)
      refine PI.shown_val rfl fun a w3 L hr T => ?_
      have h1 : a.eval (.tmp 60) = .pointer (some ⟨g, i * 3 + 1, none⟩) := T.at_ 11 60 (by kernel_rfl) (by kernel_rfl) (by kernel_rfl)
      have hL14 : L 14 = false := T.wait 14 _ rfl ⟨_, Array.mem_of_getElem? (i := 0) rfl, rfl, rfl⟩
      have hL17 : L 17 = false := Bool.eq_false_iff.2 fun hl => by have := T.shut_ 17 14 (by kernel_rfl) hl; rw [hL14] at this; cases this
      have hw3 := apworld T.inv hL17 hL14
      have x3 : w3.cell? ⟨g, i * 3 + 1, none⟩ = some (.slice f.A q f.c) := by rw [hw3]; exact x1
      exact ⟨.slice f.A q f.c, w3, by simp only [execOp, h1]; simp [go_sem, x3], PI.Post.pure ⟨fun _ => trivial, fun _ _ _ _ _ => trivial⟩ rfl (ApI.same 12 (by decide) T.inv)⟩
    · obtain rfl := Option.some.inj (show some _ = some o from ho)
      refine PI.shown_val rfl fun a w3 L hr T => ?_
      have h1 : a.eval (.tmp 2) = .slice bA m bc := T.was 2 (by kernel_rfl)
      exact ⟨.slice bA m bc, w3, by simp only [execOp, h1]; simp [go_sem], PI.Post.pure ⟨fun _ => trivial, fun _ _ _ _ _ => trivial⟩ rfl (ApI.same 13 (by decide) T.inv)⟩
    · obtain rfl := Option.some.inj (show some _ = some o from ho)
      refine PI.shown_val rfl fun a w3 L hr T => ?_
      have h1 : a.eval (.tmp 61) = .slice f.A q f.c := T.at_ 12 61 (by kernel_rfl) (by kernel_rfl) (by kernel_rfl)
      have h2 : a.eval (.tmp 62) = .slice bA m bc := T.at_ 13 62 (by kernel_rfl) (by kernel_rfl) (by kernel_rfl)
      have hL14 : L 14 = false := T.yetNot
      have hL17 : L 17 = false := Bool.eq_false_iff.2 fun hl => by have := T.shut_ 17 14 (by kernel_rfl) hl; rw [hL14] at this; cases this
      have hw3 := apworld T.inv hL17 hL14
      subst hw3
      obtain ⟨v', w', r1, r2, r3⟩ := APP.out 30
      refine ⟨v', w', by simp only [execOp, resolve, invoke, builtin, Sem.run_bind, Sem.run_pure, Result.andThen_ok, List.map_toArray, List.map_cons, List.map_nil, h1, h2, r1], trivial, ⟨r2, by rw [HVL.out]; exact r3⟩, fun _ _ h => h, fun j v hj hlj hnd hvj h => ApF.keep hj h, ?_⟩
      show ApI _ base d1 i f b (PI.upd L 14) w'
      unfold ApI PI.upd
      simp only [show ¬ (17 = 14) by decide, if_false, if_true, hL17, Bool.false_eq_true]
      exact (World.cell?_of_block (r3.grown.block _ HGN.out.2.2.2 (by rw [← HVL.out]; exact HGN.out.2.1))).trans HDW.out.c2
    · obtain rfl := Option.some.inj (show some _ = some o from ho)
      refine PI.shown_val rfl fun a w3 L hr T => ?_
      have h1 : a.eval (.tmp 52) = .slice (some ⟨g, 0, none⟩) n d1.c := T.at_ 3 52 (by kernel_rfl) (by kernel_rfl) (by kernel_rfl)
      have h2 : a.eval (.tmp 53) = .int .i64 (i : Int) := T.at_ 4 53 (by kernel_rfl) (by kernel_rfl) (by kernel_rfl)
      exact ⟨.pointer (some ⟨g, i * 3, none⟩), w3, by simp only [execOp, h1, h2]; simp [go_sem, i0, i1], PI.Post.pure ⟨fun _ => trivial, fun _ _ _ _ _ => trivial⟩ rfl (ApI.same 15 (by decide) T.inv)⟩
    · obtain rfl := Option.some.inj (show some _ = some o from ho)
      refine PI.shown_val rfl fun a w3 L hr T => ?_
      have h1 : a.eval (.tmp 64) = .pointer (some ⟨g, i * 3, none⟩) := T.at_ 15 64 (by kernel_rfl) (by kernel_rfl) (by kernel_rfl)
      exact ⟨.pointer (some ⟨g, i * 3 + 1, none⟩), w3, by simp only [execOp, h1]; simp [go_sem], PI.Post.pure ⟨fun _ => trivial, fun _ _ _ _ _ => trivial⟩ rfl (ApI.same 16 (by decide) T.inv)⟩
    · obtain rfl := Option.some.inj (show some _ = some o from ho)
      refine PI.shown_skip rfl fun a w3 L hr T => ?_
      have h1 : a.eval (.tmp 65) = .pointer (some ⟨g, i * 3 + 1, none⟩) := T.at_ 16 65 (by kernel_rfl) (by kernel_rfl) (by kernel_rfl)
      have h14 : w3.ownsRow base 5 1 (a.eval (.tmp 63)) (f.da ++ b).length ((f.da ++ b).map B8) ∧ Grew _ w3 f.val (a.eval (.tmp 63)) := T.at_ 14 63 (by kernel_rfl) (by kernel_rfl) (by kernel_rfl)
      obtain ⟨ho3, hg3⟩ := h14
      obtain ⟨A2, cc2, hv, _, _⟩ := own_rd ho3
      rw [hv] at ho3 hg3
      obtain ⟨k1, k2, k3⟩ := HDW.out.redata (y := ⟨f.nm, f.da ++ b, f.su, A2, cc2⟩) HA.out HF.out rfl hg3 ho3
      have x3 : w3.cell? ⟨g, i * 3 + 1, none⟩ = some (.slice f.A q f.c) := (World.cell?_of_block (hg3.grown.block _ HGN.out.2.2.1 HGN.out.1)).trans x1
      refine ⟨w3.setCell ⟨g, i * 3 + 1, none⟩ (.slice A2 (f.da ++ b).length cc2), by simp only [execOp, h1, hv]; simp [go_sem, x3, k3], trivial, trivial, fun _ _ h => h, fun j v hj hlj hnd hvj h => ?_, ?_⟩
      · refine ApF.keep (fun e => ?_) h
        subst e
        simp [PI.needB] at hnd
      · show ApI _ base d1 i f b (PI.upd L 17) _
        unfold ApI PI.upd
        simp only [if_true]
        exact ⟨A2, cc2, k1, k2⟩
    · cases ho
  · intro x w5 hr hf he hI
    obtain ⟨A2, cc2, k1, k2⟩ := apend hI (by decide)
    have HD5 := Lib.hid k1
    have HK5 := Lib.hid k2
    clear hf he hI k1 k2 hr APP
    simp only [PI.putAll, Act.put, Nat.zero_add, Nat.reduceAdd, List.setIfInBounds_toArray, List.set_cons_zero, List.set_cons_succ]
    have u1 := HD5.out.c1
    have uf := HD5.out.fz 1
    simp only at u1 uf
    obtain ⟨s1, s2⟩ := HD5.out.setUs (d1.us + m)
    have HS1 := Lib.hid s1
    have HS2 := Lib.hid s2
    have AD := Lib.hid (addI_any d1.D d1.us (m : Int) (d1.us + m) w5 u1 uf rfl HUM.out)
    have BN := Lib.hid (burn_any base _ _ HS1.out hl)
    simp only at BN
    clear u1 uf s1 s2
    go_upto_region 14 with (go_at_call 41; (with_reducible refine AD.out.mono ?_); rintro e w6 ⟨rfl, hw6⟩)
    subst hw6
    generalize w5.setCell ⟨d1.D, 1, none⟩ (.int .i64 (d1.us + m)) = W6 at *
    go_wp2_with (go_at_call 53; (with_reducible refine BN.out.mono ?_); rintro e w7 ⟨rfl, hd7, hk7⟩; have HD7 := Lib.hid hd7; have HK7 := Lib.hid hk7; clear hd7 hk7)
    go_ret
    unfold Put Went
    refine ⟨_, ⟨rfl, HD7.out, HKq.out.trans ((Kept.of HB1.out _).trans (HK4.out.trans (((Kept.refl _ _).drew).trans (HK5.out.trans (HS2.out.trans HK7.out)))))⟩, ?_⟩
    obtain ⟨b1, b2, b3, b4, b5, b6⟩ := burnt_all ({ d1 with fs := d1.fs.set i ⟨f.nm, f.da ++ b, f.su, A2, cc2⟩, us := d1.us + m } : Dv)
    rw [b1, b2, b3, b4, b5, b6]
    refine ⟨HE.out.1.symm, HE.out.2.2.1, by rw [HE.out.2.1], HE.out.2.2.2.1, by rw [HE.out.2.2.2.1, HE.out.2.2.2.2.1], ?_⟩
    show (d1.fs.set i ⟨f.nm, f.da ++ b, f.su, A2, cc2⟩).map Lf.lg = _
    rw [HE.out.2.2.2.2.2, HFE.out]; exact new_lg _ _ _ _ _ _ hil
end Go.Proofs.YtbdiamhhlabojaaDoor
