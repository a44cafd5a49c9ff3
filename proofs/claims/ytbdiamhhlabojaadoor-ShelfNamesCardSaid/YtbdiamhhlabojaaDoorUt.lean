/- device.Rename. -/
import Derived.Test.YtbdiamhhlabojaaDoorUm
import Derived.StillTailTactics
namespace Go.Proofs.YtbdiamhhlabojaaDoor
open Go.RowKit
set_option linter.unusedVariables false
set_option linter.unusedSimpArgs false
set_option maxRecDepth 100000

theorem own_kept {w w' : World} {base : Nat} {f : Lf} {S S' : Nat → Prop} (h : OwnD w base f) (k : Kept w w' S S') (hn : ∀ a, f.A = some a → ¬ S a.block) : OwnD w' base f := by
  unfold OwnD Lf.val at h ⊢
  refine ⟨h.1, ?_⟩
  rcases h.2 with h2 | ⟨g, cap, cur, hv, hb, hg, hr⟩
  · exact .inl h2
  · have hA : f.A = some ⟨g, 0, none⟩ := by injection hv
    have hlt : g < w.heap.size := by
      rcases Nat.lt_or_ge g w.heap.size with h1 | h1
      · exact h1
      · rw [Array.getElem?_eq_none h1] at hg; cases hg
    exact .inr ⟨g, cap, cur, hv, hb, (k.block g hlt (hn _ hA)).trans hg, hr⟩
theorem Kept.to {w w' : World} {S S' T : Nat → Prop} (k : Kept w w' S S') (h : ∀ k, T k → S' k ∨ S k) : Kept w w' S T :=
  ⟨k.os, k.tape, k.output, k.size, k.block, fun j hj ht => (h j ht).elim (k.sub j hj) id⟩
theorem Kept.wide {w w' : World} {S S' : Nat → Prop} (T : Nat → Prop) (k : Kept w w' S S') : Kept w w' (fun j => S j ∨ T j) (fun j => S' j ∨ T j) :=
  ⟨k.os, k.tape, k.output, k.size, fun j hj hn => k.block j hj (fun h => hn (.inl h)), fun j hj ht => ht.elim (fun h => .inl (k.sub j hj h)) .inr⟩
def blkF (f : Lf) (k : Nat) : Prop := ∃ a, f.A = some a ∧ a.block = k
theorem map_erase (l : List Lf) (i : Nat) : (l.eraseIdx i).map Lf.lg = (l.map Lf.lg).eraseIdx i := by
  rw [List.eraseIdx_eq_take_drop_succ, List.eraseIdx_eq_take_drop_succ, List.map_append, List.map_take, List.map_drop]
theorem sort_erase {l : List Lf} (h : SortF l) (i : Nat) : SortF (l.eraseIdx i) := List.Pairwise.sublist (List.eraseIdx_sublist _ _) h
def RnF (W0 : World) (base D n2 p q : Nat) (A : Option Addr) (c : Nat) (f : Lf) (to : ByteArray) (L : List Lf) : Nat → Value → World → Prop
  | 0, v, _ => v = .pointer (some ⟨D, 0, none⟩)
  | 1, v, _ => v = .pointer (some ⟨D, 0, none⟩)
  | 2, v, _ => v = .pointer (some ⟨D, 0, none⟩)
  | 3, v, _ => v = .pointer (some ⟨D, 2, none⟩)
  | 4, v, _ => v = .slice A n2 c
  | 5, v, _ => v = .int .i64 (p : Int)
  | 6, v, _ => v = .agg #[.string to, .slice f.A q f.c, .int .i64 f.su]
  | 7, v, _ => v = .slice (some ⟨W0.heap.size, 0, none⟩) 1 1
  | 8, v, w => ∃ A' c', v = .slice A' (n2 + 1) c' ∧ w.ownsRow base 78 3 (.slice A' (n2 + 1) c') (n2 + 1) (L.flatMap Lf.cells) ∧ Grew W0 w (.slice A n2 c) (.slice A' (n2 + 1) c')
  | 9, v, _ => v = .pointer (some ⟨D, 0, none⟩)
  | 10, v, _ => v = .pointer (some ⟨D, 2, none⟩)
  | _, _, _ => True
theorem RnF.keep {W0 : World} {base D n2 p q : Nat} {A : Option Addr} {c : Nat} {f : Lf} {to : ByteArray} {L : List Lf} {w w' : World} {j : Nat} {v : Value} (hj : j ≠ 8) (h : RnF W0 base D n2 p q A c f to L j v w) : RnF W0 base D n2 p q A c f to L j v w' := by
  match j, hj, h with
  | 0, _, h => exact h
  | 1, _, h => exact h
  | 2, _, h => exact h
  | 3, _, h => exact h
  | 4, _, h => exact h
  | 5, _, h => exact h
  | 6, _, h => exact h
  | 7, _, h => exact h
  | 8, hj, _ => exact absurd rfl hj
  | 9, _, h => exact h
  | 10, _, h => exact h
  | _ + 11, _, _ => trivial
def RnI (W0 : World) (o : Obj) (FIN : World → Prop) (L : Nat → Bool) (w : World) : Prop :=
  if L 11 = true then FIN w else if L 8 = true then True else if L 7 = true then w = W0.alloc o else w = W0
theorem RnI.same {W0 : World} {o : Obj} {FIN : World → Prop} {L : Nat → Bool} {w : World} (k : Nat) (hk : k ≠ 7 ∧ k ≠ 8 ∧ k ≠ 11) (h : RnI W0 o FIN L w) : RnI W0 o FIN (PI.upd L k) w := by
  obtain ⟨h1, h2, h3⟩ := hk
  unfold RnI PI.upd at *
  simp only [Ne.symm h1, Ne.symm h2, Ne.symm h3, if_false] at *
  exact h
theorem rni0 (W0 : World) (o : Obj) (FIN : World → Prop) : RnI W0 o FIN (fun _ => false) W0 := by unfold RnI; simp
theorem rni7 {W0 : World} {o : Obj} {FIN : World → Prop} {L : Nat → Bool} {w : World} (h : RnI W0 o FIN L w) (h11 : L 11 = false) (h8 : L 8 = false) (h7 : L 7 = false) : w = W0 := by
  unfold RnI at h
  rw [if_neg (by rw [h11]; simp), if_neg (by rw [h8]; simp), if_neg (by rw [h7]; simp)] at h
  exact h
theorem rni8 {W0 : World} {o : Obj} {FIN : World → Prop} {L : Nat → Bool} {w : World} (h : RnI W0 o FIN L w) (h11 : L 11 = false) (h8 : L 8 = false) (h7 : L 7 = true) : w = W0.alloc o := by
  unfold RnI at h
  rw [if_neg (by rw [h11]; simp), if_neg (by rw [h8]; simp), if_pos h7] at h
  exact h
theorem rniend {W0 : World} {o : Obj} {FIN : World → Prop} {n : Nat} {w : World} (h : RnI W0 o FIN (fun k => decide (k < n)) w) (hn : 11 < n) : FIN w := by
  unfold RnI at h
  rw [if_pos (decide_eq_true hn)] at h
  exact h
theorem rnicell {W0 : World} {o : Obj} {FIN : World → Prop} {L : Nat → Bool} {w : World} (h : RnI W0 o FIN L w) (h11 : L 11 = false) (h8 : L 8 = false) (a : Addr) (ha : a.block < W0.heap.size) : w.cell? a = W0.cell? a := by
  cases h7 : L 7 with
  | true => rw [rni8 h h11 h8 h7]; exact World.cell?_alloc_lt W0 o a ha
  | false => rw [rni7 h h11 h8 h7]
theorem rename_dead (base : Nat) (d : Dv) (frm to : ByteArray) (w : World) (h : DvAt w base d) (hd : d.dead = true) :
    Calls Tryd.prog 57 #[.pointer (some ⟨d.D, 0, none⟩), .string frm, .string to] w (Went base d d (.int .i64 5) w) := by
  have HD := Lib.hid h
  clear h
  unfold Went
  go_enter Tryd.func57, Tryd.ntmps57
  go_wp2_with (go_at_call 50; (with_reducible refine (dead_any base d _ HD.out).mono ?_); rintro e wd ⟨rfl, hwd⟩; subst hwd)
  go_ret
  exact ⟨rfl, HD.out, Kept.refl _ _⟩
theorem rename_none (base : Nat) (d : Dv) (frm to : ByteArray) (w : World) (h : DvAt w base d) (hd : d.dead = false) (hs : SortF d.fs) (hsm : d.fs.length ≤ 1000000) (hh : hitF d.fs frm = false) :
    Calls Tryd.prog 57 #[.pointer (some ⟨d.D, 0, none⟩), .string frm, .string to] w (Went base d d (.int .i64 4) w) := by
  have HD := Lib.hid h
  have HSF := Lib.hid hs
  clear h hs
  unfold Went
  go_enter Tryd.func57, Tryd.ntmps57
  go_wp2_with (first
    | (go_at_call 46; (with_reducible refine (finddev_any base d frm _ HD.out HSF.out hsm).mono ?_); rintro e w1 ⟨rfl, hb1⟩; have HB1 := Lib.hid hb1; have HD1 := Lib.hid (HD.out.below hb1); clear hb1)
    | (go_at_call 50; (with_reducible refine (dead_any base d _ HD.out).mono ?_); rintro e wd ⟨rfl, hwd⟩; subst hwd))
  go_ret
  exact ⟨rfl, HD1.out, Kept.of HB1.out _⟩
theorem rename_empty (base : Nat) (d : Dv) (frm to : ByteArray) (w : World) (h : DvAt w base d) (hd : d.dead = false) (hs : SortF d.fs) (hsm : d.fs.length ≤ 1000000) (hh : hitF d.fs frm = true) (hto : (to.toList == ([] : List UInt8)) = true) :
    Calls Tryd.prog 57 #[.pointer (some ⟨d.D, 0, none⟩), .string frm, .string to] w (Went base d d (.int .i64 1) w) := by
  have HD := Lib.hid h
  have HSF := Lib.hid hs
  have HH := Lib.hid hh
  clear h hs hh
  unfold Went
  go_enter Tryd.func57, Tryd.ntmps57
  go_wp2_with (first
    | (go_at_call 46; (with_reducible refine (finddev_any base d frm _ HD.out HSF.out hsm).mono ?_); rintro e w1 ⟨rfl, hb1⟩; have HB1 := Lib.hid hb1; have HD1 := Lib.hid (HD.out.below hb1); clear hb1; rw [HH.out])
    | (go_at_call 50; (with_reducible refine (dead_any base d _ HD.out).mono ?_); rintro e wd ⟨rfl, hwd⟩; subst hwd))
  go_ret
  exact ⟨rfl, HD1.out, Kept.of HB1.out _⟩
theorem rename_same (base : Nat) (d : Dv) (frm to : ByteArray) (w : World) (h : DvAt w base d) (hd : d.dead = false) (hs : SortF d.fs) (hsm : d.fs.length ≤ 1000000) (hh : hitF d.fs frm = true) (hto : (to.toList == ([] : List UInt8)) = false) (heq : (to.toList == frm.toList) = true) (hl : -9223372036854775807 ≤ d.lf ∧ d.lf ≤ 9223372036854775807) :
    Calls Tryd.prog 57 #[.pointer (some ⟨d.D, 0, none⟩), .string frm, .string to] w (Went base d d.burnt (.int .i64 0) w) := by
  have HD := Lib.hid h
  have HSF := Lib.hid hs
  have HH := Lib.hid hh
  have BN := Lib.hid (fun W (hW : DvAt W base d) => burn_any base d W hW hl)
  clear h hs hh
  unfold Went
  go_enter Tryd.func57, Tryd.ntmps57
  go_wp2_with (first
    | (go_at_call 53; (with_reducible refine (BN.out _ HD1.out).mono ?_); rintro e w4 ⟨rfl, hd4, hk4⟩; have HD4 := Lib.hid hd4; have HK4 := Lib.hid hk4; clear hd4 hk4)
    | (go_at_call 46; (with_reducible refine (finddev_any base d frm _ HD.out HSF.out hsm).mono ?_); rintro e w1 ⟨rfl, hb1⟩; have HB1 := Lib.hid hb1; have HD1 := Lib.hid (HD.out.below hb1); clear hb1; rw [HH.out])
    | (go_at_call 50; (with_reducible refine (dead_any base d _ HD.out).mono ?_); rintro e wd ⟨rfl, hwd⟩; subst hwd))
  go_ret
  exact ⟨rfl, HD4.out, (Kept.of HB1.out _).trans HK4.out⟩
set_option maxHeartbeats 4000000 in
theorem rename_move0 (base : Nat) (d : Dv) (frm to : ByteArray) (i p : Nat) (f : Lf) (w : World) (h : DvAt w base d) (hd : d.dead = false) (hs : SortF d.fs) (hsm : d.fs.length ≤ 1000000) (hh : hitF d.fs frm = true) (hi : i = posF d.fs frm) (hf : d.fs[i]? = some f) (hto : (to.toList == ([] : List UInt8)) = false) (hne : (to.toList == frm.toList) = false)
    (hl : -9223372036854775807 ≤ d.lf ∧ d.lf ≤ 9223372036854775807) (hu : 0 ≤ d.us ∧ d.us ≤ 4611686018427387904) (hbig : ∀ f ∈ d.fs, f.da.length ≤ 4294967296) (hp : p = posF (d.fs.eraseIdx i) to) (hh2 : hitF (d.fs.eraseIdx i) to = false) :
    Calls Tryd.prog 57 #[.pointer (some ⟨d.D, 0, none⟩), .string frm, .string to] w (Leave base d (.int .i64 0) d.us (if d.fu = true then d.lf - 1 else d.lf) (((d.fs.map Lf.lg).eraseIdx i).take p ++ (to, f.da, f.su) :: ((d.fs.map Lf.lg).eraseIdx i).drop p) w) := by
  have HP := Lib.hid hp
  have HH2 := Lib.hid hh2
  obtain ⟨PO, hPO⟩ : ∃ PO, PO = (Leave base d (.int .i64 0) d.us (if d.fu = true then d.lf - 1 else d.lf) (((d.fs.map Lf.lg).eraseIdx i).take p ++ (to, f.da, f.su) :: ((d.fs.map Lf.lg).eraseIdx i).drop p) w) := ⟨_, rfl⟩
  have HPO := Lib.hid hPO
  rw [← hPO]
  clear hp hh2 hPO
  have HD := Lib.hid h
  have HSF := Lib.hid hs
  have HF := Lib.hid hf
  have HH := Lib.hid hh
  have HI := Lib.hid hi
  have HBIG := Lib.hid hbig
  clear h hs hf hh hi hbig
  go_enter Tryd.func57, Tryd.ntmps57
  go_upto_region 12 with (first
    | (go_at_call 46; (with_reducible refine (finddev_any base d frm _ HD.out HSF.out hsm).mono ?_); rintro e w1 ⟨rfl, hb1⟩; have HB1 := Lib.hid hb1; have HD1 := Lib.hid (HD.out.below hb1); clear hb1; rw [HH.out, ← HI.out])
    | (go_at_call 50; (with_reducible refine (dead_any base d _ HD.out).mono ?_); rintro e wd ⟨rfl, hwd⟩; subst hwd))
  obtain ⟨n, hn⟩ : ∃ n, n = d.fs.length := ⟨_, rfl⟩
  have hil := (List.getElem?_eq_some_iff.1 HF.out).1
  obtain ⟨g, hA⟩ : ∃ g, d.A = some ⟨g, 0, none⟩ := by
    obtain ⟨g, hA, _⟩ := own_parts HD1.out.own (by omega)
    exact ⟨g, hA⟩
  have c2 := HD1.out.c2
  rw [hA, ← hn] at c2
  obtain ⟨q, hq⟩ : ∃ q, q = f.da.length := ⟨_, rfl⟩
  have hr := Rd.of_own HD1.out.own
  rw [hA] at hr
  obtain ⟨a, ha, hab, x0, x1, x2⟩ := file_cells hr HF.out q hq
  injection ha with ha
  subst ha
  rw [Addr.add_lit, Nat.zero_add] at x0 x1 x2
  have i0 : (0 : Int) ≤ (i : Int) := by omega
  have i1 : (i : Int) < (n : Int) := by omega
  have HN := Lib.hid hn
  have HA := Lib.hid hA
  have HQ := Lib.hid hq
  have HIL := Lib.hid hil
  have hnn : n ≤ 1000000 := by omega
  clear hn hA hq hr hil
  have HL1 : Hid (∀ k, d.has k → k < w1.heap.size) := Lib.hid HD1.out.lt
  go_upto_region 14 with fail
  have HBW : Hid (Below w1.heap.size w1 (w1.alloc (.cells #[.string to, .slice f.A q f.c, .int .i64 f.su] 78))) := Lib.hid ((Below.refl _ _).alloc (Nat.le_refl _) _)
  have HDW := Lib.hid (HD1.out.below HBW.out)
  have HKW : Hid (Kept wd (w1.alloc (.cells #[.string to, .slice f.A q f.c, .int .i64 f.su] 78)) d.has d.has) := Lib.hid ((Kept.of HB1.out _).trans (Kept.of HBW.out _))
  have HLW : Hid (((w1.alloc (.cells #[.string to, .slice f.A q f.c, .int .i64 f.su] 78))).heap[w1.heap.size]? = some (.cells #[.string to, .slice f.A q f.c, .int .i64 f.su] 78)) := Lib.hid (heap_alloc_new w1 _)
  have HZW : Hid (w1.heap.size < ((w1.alloc (.cells #[.string to, .slice f.A q f.c, .int .i64 f.su] 78))).heap.size) := Lib.hid (by simp)
  clear x0 x1 x2 hab HB1 HD1 HBW
  generalize (w1.alloc (.cells #[.string to, .slice f.A q f.c, .int .i64 f.su] 78)) = W at *
  have hfm : f ∈ d.fs := List.mem_of_getElem? HF.out
  have c2 := HDW.out.c2
  rw [HA.out, ← HN.out] at c2
  have ho := HDW.out.own
  rw [HA.out, ← HN.out] at ho
  have DL := Lib.hid (l_delete g n d.c i base d.fs W ho (by have := HN.out; omega) hnn)
  have HNE : Hid (∀ w3 v', Grew W w3 (.slice (some ⟨g, 0, none⟩) n d.c) v' → w3.heap[d.D]? = W.heap[d.D]?) := Lib.hid (fun w3 v' hg => hg.grown.block d.D HDW.out.ltD (fun e => own_ne HDW.out.own HDW.out.row (by decide) (by rw [HA.out, ← HN.out]; exact e.symm)))
  have HROW := Lib.hid HDW.out.row
  have HFM := Lib.hid hfm
  have iw : IntKind.i64.wrap ((i : Int) + 1) = (i : Int) + 1 := by rw [IntKind.wrap_i64]; omega
  clear ho hfm
  go_upto_region 15 with (go_at_call 75; (with_reducible refine DL.out.mono ?_); rintro e w3 ⟨rfl, ho3, hg3⟩; have hr3 := (HNE.out w3 _ hg3).trans HROW.out; have q2 : w3.cell? ⟨d.D, 2, none⟩ = some (.slice d.A d.fs.length d.c) := cell_of_row _ _ 2 _ _ (0, 0) hr3; have q3 : w3.frozen? ⟨d.D, 2, none⟩ = false := (by simp [World.frozen?, hr3]); have HO3 := Lib.hid ho3; have HG3 := Lib.hid hg3; have HR3 := Lib.hid hr3; clear ho3 hg3 hr3)
  clear q2 q3 DL HNE c2 iw
  obtain ⟨r1, r2⟩ := HDW.out.rerow (S := d.has) (A' := some ⟨g, 0, none⟩) (n' := n - 1) (c' := d.c) (L := d.fs.eraseIdx i) (fun _ h => h) (by rw [HA.out, ← HN.out]; exact HG3.out) HO3.out (by rw [List.length_eraseIdx, if_pos HIL.out, HN.out]) (fun z hz => HDW.out.each z (List.mem_of_mem_eraseIdx hz)) (fun z hz a ha => .inr (.inr ⟨z, List.mem_of_mem_eraseIdx hz, a, ha, rfl⟩)) (erase_pair HDW.out.two i)
  have HFO4 : Hid (OwnD (w3.setCell ⟨d.D, 2, none⟩ (.slice (some ⟨g, 0, none⟩) (n - 1) d.c)) base f) := Lib.hid (by
    have hf0 := HDW.out.each f HFM.out
    have h1 : OwnD w3 base f := own_grew hf0 HG3.out (own_apart hf0 (by have h := HDW.out.own; rw [HA.out, ← HN.out] at h; exact h) (by decide))
    exact own_aside h1 (own_ne h1 HR3.out (by decide)) _ _)
  obtain ⟨d1, hd1⟩ : ∃ d1 : Dv, d1 = { d with A := some ⟨g, 0, none⟩, c := d.c, fs := d.fs.eraseIdx i } := ⟨_, rfl⟩
  rw [← hd1] at r1 r2
  have HE1 : Hid (d1.D = d.D ∧ d1.us = d.us ∧ d1.room = d.room ∧ d1.fu = d.fu ∧ d1.lf = d.lf ∧ d1.fs = d.fs.eraseIdx i) := Lib.hid (by rw [hd1]; exact ⟨rfl, rfl, rfl, rfl, rfl, rfl⟩)
  have HA1 : Hid (d1.A = some ⟨g, 0, none⟩) := Lib.hid (by rw [hd1])
  have HNF : Hid (∀ a, f.A = some a → ¬ d1.has a.block) := Lib.hid (by
    rintro a ha (e | ⟨b, hb, e⟩ | ⟨z, hz, b, hb, e⟩)
    · have h := HDW.out.neF HFM.out
      rw [HE1.out.1] at e
      exact h (by simp [Lf.val, Value.ownBlock, ha, e])
    · have h := HDW.out.neAF HFM.out HA.out
      rw [hd1] at hb
      injection hb with hb
      subst hb
      exact h (by simp only [Lf.val, Value.ownBlock, ha]; exact congrArg some e.symm)
    · rw [HE1.out.2.2.2.2.2] at hz
      exact erase_apart HDW.out.two HF.out z hz a b ha hb e.symm)
  clear hd1
  generalize w3.setCell ⟨d.D, 2, none⟩ (.slice (some ⟨g, 0, none⟩) (n - 1) d.c) = W4 at *
  have HD4 := Lib.hid r1
  have HK4 : Hid (Kept W W4 d.has (fun k => d1.has k ∨ blkF f k)) := Lib.hid (r2.to (fun k hk => hk.elim .inl (fun ⟨a, ha, e⟩ => .inr (.inr (.inr ⟨f, HFM.out, a, ha, e⟩)))))
  have HL4 : Hid (W4.heap[w1.heap.size]? = some (.cells #[.string to, .slice f.A q f.c, .int .i64 f.su] 78)) := Lib.hid ((r2.block _ HZW.out (fun h => by have := HL1.out _ h; omega)).trans HLW.out)
  have HN4 : Hid (∀ k, d1.has k → k < w1.heap.size) := Lib.hid (fun k hk => HL1.out k (r2.sub k (by
    rcases Nat.lt_or_ge k W.heap.size with h | h
    · exact h
    · exfalso
      rcases hk with e | ⟨b, hb, e⟩ | ⟨z, hz, b, hb, e⟩
      · have := HDW.out.ltD; rw [HE1.out.1] at e; omega
      · rw [HA1.out] at hb
        have := HDW.out.lt k (.inr (.inl ⟨b, by rw [HA.out]; exact hb, e⟩)); omega
      · rw [HE1.out.2.2.2.2.2] at hz
        have := HDW.out.lt k (.inr (.inr ⟨z, List.mem_of_mem_eraseIdx hz, b, hb, e⟩)); omega) hk))
  clear r1 r2 HO3 HG3 HR3 HROW HLW
  have HS1 : Hid (SortF d1.fs) := Lib.hid (by rw [HE1.out.2.2.2.2.2]; exact sort_erase HSF.out i)
  have HPH : Hid (hitF d1.fs to = false ∧ posF d1.fs to = p) := Lib.hid (by rw [HE1.out.2.2.2.2.2]; exact ⟨HH2.out, HP.out.symm⟩)
  have d1D := HE1.out.1
  have FN := Lib.hid (finddev_any base d1 to _ HD4.out HS1.out (by rw [HE1.out.2.2.2.2.2, List.length_eraseIdx]; split <;> omega))
  rw [d1D, HPH.out.1, HPH.out.2] at FN
  have d1D := Lib.hid d1D
  go_upto_region 16 with (go_at_call 46; (with_reducible refine FN.out.mono ?_); rintro e w5 ⟨rfl, hb5⟩; have HB5 := Lib.hid hb5; have HD5 := Lib.hid (HD4.out.below hb5); clear hb5)
  have d1D := d1D.out
  have HL5 : Hid (w5.heap[w1.heap.size]? = some (.cells #[.string to, .slice f.A q f.c, .int .i64 f.su] 78)) := Lib.hid ((HB5.out.block _ (by have h := HL4.out; rcases Nat.lt_or_ge w1.heap.size W4.heap.size with h1 | h1; exact h1; rw [Array.getElem?_eq_none h1] at h; cases h)).trans HL4.out)
  have HPL : Hid (p ≤ d1.fs.length ∧ d1.fs.length ≤ 1000000) := Lib.hid ⟨by rw [← HPH.out.2]; exact pos_le _ _, by rw [HE1.out.2.2.2.2.2, List.length_eraseIdx]; split <;> omega⟩
  have HFO5 : Hid (OwnD w5 base f) := Lib.hid (own_below HFO4.out HB5.out)
  have d1LF := HE1.out.2.2.2.2.1
  have h1LF := Lib.hid d1LF
  go_upto_region 18 with fail
  obtain ⟨n2, hn2⟩ : ∃ n2, n2 = d1.fs.length := ⟨_, rfl⟩
  have c2 : (w5.drew).cell? ⟨d.D, 2, none⟩ = some (.slice d1.A n2 d1.c) := by have h := HD5.out.c2; rw [← hn2, d1D] at h; exact h
  have o0 : (w5.drew).cell? ⟨w1.heap.size, 0, none⟩ = some (.string to) := cell_of_row _ _ 0 _ _ (0, 0) HL5.out
  have o1 : (w5.drew).cell? ⟨w1.heap.size, 1, none⟩ = some (.slice f.A q f.c) := cell_of_row _ _ 1 _ _ (0, 0) HL5.out
  have o2 : (w5.drew).cell? ⟨w1.heap.size, 2, none⟩ = some (.int .i64 f.su) := cell_of_row _ _ 2 _ _ (0, 0) HL5.out
  have hDs : d.D < (w5.drew).heap.size := by have h := HD5.out.ltD; rw [d1D] at h; exact h
  obtain ⟨LL, hLL⟩ : ∃ LL, LL = d1.fs.take p ++ (⟨to, f.da, f.su, f.A, f.c⟩ : Lf) :: d1.fs.drop p := ⟨_, rfl⟩
  have HLL := Lib.hid hLL
  have HN2 := Lib.hid hn2
  have HDX : Hid (DvAt (w5.drew) base d1) := Lib.hid (HD5.out.below ⟨rfl, rfl, rfl, Nat.le_refl _, fun _ _ => rfl⟩)
  have INS : Hid (Calls Tryd.prog 52 #[.slice d1.A n2 d1.c, .int .i64 (p : Int), .slice (some ⟨(w5.drew).heap.size, 0, none⟩) 1 1] ((w5.drew).alloc (.cells #[.string to, .slice f.A q f.c, .int .i64 f.su] 78)) (lIns base LL ((w5.drew).alloc (.cells #[.string to, .slice f.A q f.c, .int .i64 f.su] 78)) d1.A n2 d1.c)) := Lib.hid (by
    rw [hLL]
    exact l_insert d1.A n2 d1.c p (w5.drew).heap.size d1.fs (⟨to, f.da, f.su, f.A, f.c⟩ : Lf) base ((w5.drew).alloc (.cells #[.string to, .slice f.A q f.c, .int .i64 f.su] 78)) (by rw [hn2]; exact HDX.out.own.alloc _) hn2 (by rw [hn2]; exact HPL.out.1) (by rw [hn2]; exact HPL.out.2) (Nat.le_trans HDX.out.lo (Nat.le_of_lt (Nat.lt_of_lt_of_le HDX.out.ltD ((Below.refl _ _).alloc (Nat.le_refl _) _).size))) (by rw [HQ.out]; exact heap_alloc_new _ _) (fun a ha e => by have := HDX.out.lt a.block (.inr (.inl ⟨a, ha, rfl⟩)); omega))
  have FINH : Hid (∀ w3 A' c', w3.ownsRow base 78 3 (.slice A' (n2 + 1) c') (n2 + 1) (LL.flatMap Lf.cells) → Grew (w5.drew) w3 (.slice d1.A n2 d1.c) (.slice A' (n2 + 1) c') →
      (∃ d3 : Dv, DvAt (w3.setCell ⟨d.D, 2, none⟩ (.slice A' (n2 + 1) c')) base d3 ∧ Kept (w5.drew) (w3.setCell ⟨d.D, 2, none⟩ (.slice A' (n2 + 1) c')) (fun k => d1.has k ∨ blkF f k) d3.has ∧ d3.D = d.D ∧ d3.us = d1.us ∧ d3.room = d1.room ∧ d3.fu = d1.fu ∧ d3.lf = d1.lf ∧ d3.fs = LL) ∧ w3.cell? ⟨d.D, 2, none⟩ = some (.slice d1.A d1.fs.length d1.c) ∧ w3.frozen? ⟨d.D, 2, none⟩ = false) := Lib.hid (by
    intro w3 A' c' ho3 hg3
    have hr3 := (hg3.grown.block d1.D HDX.out.ltD (fun e => own_ne HDX.out.own HDX.out.row (by decide) (by rw [← HN2.out]; exact e.symm))).trans HDX.out.row
    obtain ⟨r1, r2⟩ := HDX.out.rerow (S := fun k => d1.has k ∨ blkF f k) (A' := A') (n' := n2 + 1) (c' := c') (L := LL) (fun _ h => .inl h) (by rw [← HN2.out]; exact hg3) ho3 (by rw [HLL.out]; simp; have := HPL.out.1; rw [HN2.out]; omega) (fun z hz => by
      rw [HLL.out] at hz
      rcases List.mem_append.1 hz with hz | hz
      · exact HDX.out.each z (List.mem_of_mem_take hz)
      · rcases List.mem_cons.1 hz with rfl | hz
        · exact HFO5.out
        · exact HDX.out.each z (List.mem_of_mem_drop hz)) (fun z hz a ha => by
      rw [HLL.out] at hz
      rcases List.mem_append.1 hz with hz | hz
      · exact .inl (.inr (.inr ⟨z, List.mem_of_mem_take hz, a, ha, rfl⟩))
      · rcases List.mem_cons.1 hz with rfl | hz
        · exact .inr ⟨a, ha, rfl⟩
        · exact .inl (.inr (.inr ⟨z, List.mem_of_mem_drop hz, a, ha, rfl⟩))) (by
      have hp : (d1.fs.take p ++ d1.fs.drop p).Pairwise apartF := by rw [List.take_append_drop]; exact HDX.out.two
      obtain ⟨p1, p2, p3⟩ := List.pairwise_append.1 hp
      have hff : ∀ z ∈ d1.fs, apartF (⟨to, f.da, f.su, f.A, f.c⟩ : Lf) z := fun z hz a b ha hb e => HNF.out a ha (.inr (.inr ⟨z, hz, b, hb, e.symm⟩))
      rw [HLL.out]
      refine List.pairwise_append.2 ⟨p1, List.pairwise_cons.2 ⟨fun z hz => hff z (List.mem_of_mem_drop hz), p2⟩, fun a ha z hz => ?_⟩
      rcases List.mem_cons.1 hz with rfl | hz
      · exact (hff a (List.mem_of_mem_take ha)).symm
      · exact p3 a ha z hz)
    rw [d1D] at r1 r2 hr3
    exact ⟨⟨_, r1, r2, rfl, rfl, rfl, rfl, rfl, rfl⟩, cell_of_row _ _ 2 _ _ (0, 0) hr3, by simp [World.frozen?, hr3]⟩)
  clear hn2 hLL
  refine PI.wp_region_persG (R := fun _ _ => True) (G := fun _ _ => True) (I := fun L _ w => RnI (w5.drew) (.cells #[.string to, .slice f.A q f.c, .int .i64 f.su] 78) (fun w' => ∃ d3 : Dv, DvAt w' base d3 ∧ Kept (w5.drew) w' (fun k => d1.has k ∨ blkF f k) d3.has ∧ d3.D = d.D ∧ d3.us = d1.us ∧ d3.room = d1.room ∧ d3.fu = d1.fu ∧ d3.lf = d1.lf ∧ d3.fs = LL) L w) [(2, 1), (3, 2), (4, 3), (7, 6), (8, 4), (8, 5), (8, 7), (9, 0), (10, 9), (11, 10), (11, 8)] [] (by kernel_rfl) (PI.formed_of (by kernel_rfl)) ⟨fun _ => trivial, fun _ _ _ _ _ => trivial⟩ (fun _ => trivial) (RnF (w5.drew) base d.D n2 p q d1.A d1.c f to LL) (rni0 _ _ _) ?_ ?_
  · intro i9 o ho
    rcases i9 with _ | _ | _ | _ | _ | _ | _ | _ | _ | _ | _ | _ | i9
    · obtain rfl := Option.some.inj (show some _ = some o from ho)
      refine PI.shown_val rfl fun a w3 L hr T => ?_
      have h1 : a.eval (.tmp 0) = .pointer (some ⟨d.D, 0, none⟩) := T.was 0 (by kernel_rfl)
      exact ⟨.pointer (some ⟨d.D, 0, none⟩), w3, by simp only [execOp, h1]; simp [go_sem], PI.Post.pure ⟨fun _ => trivial, fun _ _ _ _ _ => trivial⟩ rfl (RnI.same 0 (by decide) T.inv)⟩
    · obtain rfl := Option.some.inj (show some _ = some o from ho)
      refine PI.shown_val rfl fun a w3 L hr T => ?_
      have h1 : a.eval (.tmp 0) = .pointer (some ⟨d.D, 0, none⟩) := T.was 0 (by kernel_rfl)
      exact ⟨.pointer (some ⟨d.D, 0, none⟩), w3, by simp only [execOp, h1]; simp [go_sem], PI.Post.pure ⟨fun _ => trivial, fun _ _ _ _ _ => trivial⟩ rfl (RnI.same 1 (by decide) T.inv)⟩
    · obtain rfl := Option.some.inj (show some _ = some o from ho)
      refine PI.shown_val rfl fun a w3 L hr T => ?_
      have h1 : a.eval (.tmp 65) = .pointer (some ⟨d.D, 0, none⟩) := T.at_ 1 65 (by kernel_rfl) (by kernel_rfl) (by kernel_rfl)
      exact ⟨.pointer (some ⟨d.D, 0, none⟩), w3, by simp only [execOp, h1]; simp [go_sem], PI.Post.pure ⟨fun _ => trivial, fun _ _ _ _ _ => trivial⟩ rfl (RnI.same 2 (by decide) T.inv)⟩
    · obtain rfl := Option.some.inj (show some _ = some o from ho)
      refine PI.shown_val rfl fun a w3 L hr T => ?_
      have h1 : a.eval (.tmp 66) = .pointer (some ⟨d.D, 0, none⟩) := T.at_ 2 66 (by kernel_rfl) (by kernel_rfl) (by kernel_rfl)
      exact ⟨.pointer (some ⟨d.D, 2, none⟩), w3, by simp only [execOp, h1]; simp [go_sem], PI.Post.pure ⟨fun _ => trivial, fun _ _ _ _ _ => trivial⟩ rfl (RnI.same 3 (by decide) T.inv)⟩
    · obtain rfl := Option.some.inj (show some _ = some o from ho)
      refine PI.shown_val rfl fun a w3 L hr T => ?_
      have h1 : a.eval (.tmp 67) = .pointer (some ⟨d.D, 2, none⟩) := T.at_ 3 67 (by kernel_rfl) (by kernel_rfl) (by kernel_rfl)
      have hL8 : L 8 = false := T.wait 8 _ rfl ⟨_, Array.mem_of_getElem? (i := 0) rfl, rfl, rfl⟩
      have hL11 : L 11 = false := Bool.eq_false_iff.2 fun hl => by have := T.shut_ 11 8 (by kernel_rfl) hl; rw [hL8] at this; cases this
      have c3 : w3.cell? ⟨d.D, 2, none⟩ = some (.slice d1.A n2 d1.c) := (rnicell T.inv hL11 hL8 _ hDs).trans c2
      exact ⟨.slice d1.A n2 d1.c, w3, by simp only [execOp, h1]; simp [go_sem, c3], PI.Post.pure ⟨fun _ => trivial, fun _ _ _ _ _ => trivial⟩ rfl (RnI.same 4 (by decide) T.inv)⟩
    · obtain rfl := Option.some.inj (show some _ = some o from ho)
      refine PI.shown_val rfl fun a w3 L hr T => ?_
      have h1 : a.eval (.tmp 10) = .int .i64 (p : Int) := T.was 10 (by kernel_rfl)
      exact ⟨.int .i64 (p : Int), w3, by simp only [execOp, h1]; simp [go_sem], PI.Post.pure ⟨fun _ => trivial, fun _ _ _ _ _ => trivial⟩ rfl (RnI.same 5 (by decide) T.inv)⟩
    · obtain rfl := Option.some.inj (show some _ = some o from ho)
      refine PI.shown_val rfl fun a w3 L hr T => ?_
      have h1 : a.eval (.tmp 9) = .pointer (some ⟨w1.heap.size, 0, none⟩) := T.was 9 (by kernel_rfl)
      have hL7 : L 7 = false := T.wait 7 _ rfl ⟨_, Array.mem_of_getElem? (i := 0) rfl, rfl, rfl⟩
      have hL8 : L 8 = false := Bool.eq_false_iff.2 fun hl => by have := T.shut_ 8 7 (by kernel_rfl) hl; rw [hL7] at this; cases this
      have hL11 : L 11 = false := Bool.eq_false_iff.2 fun hl => by have := T.shut_ 11 8 (by kernel_rfl) hl; rw [hL8] at this; cases this
      have hw3 := rni7 T.inv hL11 hL8 hL7
      rw [← hw3] at o0 o1 o2
      exact ⟨.agg #[.string to, .slice f.A q f.c, .int .i64 f.su], w3, by simp only [execOp, h1]; simp [go_sem, o0, o1, o2], PI.Post.pure ⟨fun _ => trivial, fun _ _ _ _ _ => trivial⟩ rfl (RnI.same 6 (by decide) T.inv)⟩
    · obtain rfl := Option.some.inj (show some _ = some o from ho)
      refine PI.shown_val rfl fun a w3 L hr T => ?_
      have h1 : a.eval (.tmp 70) = .agg #[.string to, .slice f.A q f.c, .int .i64 f.su] := T.at_ 6 70 (by kernel_rfl) (by kernel_rfl) (by kernel_rfl)
      have h1b : a.tmps[70]?.getD undef = .agg #[.string to, .slice f.A q f.c, .int .i64 f.su] := by have h := h1; simpa [Act.eval] using h
      have hL7 : L 7 = false := T.yetNot
      have hL8 : L 8 = false := Bool.eq_false_iff.2 fun hl => by have := T.shut_ 8 7 (by kernel_rfl) hl; rw [hL7] at this; cases this
      have hL11 : L 11 = false := Bool.eq_false_iff.2 fun hl => by have := T.shut_ 11 8 (by kernel_rfl) hl; rw [hL8] at this; cases this
      have hw3 := rni7 T.inv hL11 hL8 hL7
      subst hw3
      refine ⟨.slice (some ⟨(w5.drew).heap.size, 0, none⟩) 1 1, (w5.drew).alloc (.cells #[.string to, .slice f.A q f.c, .int .i64 f.su] 78), by simp only [execOp, h1]; simp [go_sem, h1b], trivial, rfl, fun _ _ h => h, fun j v hj hlj hnd hvj h => RnF.keep (fun e => by rw [e, hL8] at hlj; cases hlj) h, ?_⟩
      show RnI _ _ _ (PI.upd L 7) _
      unfold RnI PI.upd
      simp only [show ¬ (11 = 7) by decide, show ¬ (8 = 7) by decide, if_false, if_true, hL8, hL11, Bool.false_eq_true]
    · obtain rfl := Option.some.inj (show some _ = some o from ho)
      refine PI.shown_call rfl 52 fun a w3 L hr T => ?_
      have h1 : a.eval (.tmp 68) = .slice d1.A n2 d1.c := T.at_ 4 68 (by kernel_rfl) (by kernel_rfl) (by kernel_rfl)
      have h2 : a.eval (.tmp 69) = .int .i64 (p : Int) := T.at_ 5 69 (by kernel_rfl) (by kernel_rfl) (by kernel_rfl)
      have h3 : a.eval (.tmp 71) = .slice (some ⟨(w5.drew).heap.size, 0, none⟩) 1 1 := T.at_ 7 71 (by kernel_rfl) (by kernel_rfl) (by kernel_rfl)
      have hL8 : L 8 = false := T.yetNot
      have hL11 : L 11 = false := Bool.eq_false_iff.2 fun hl => by have := T.shut_ 11 8 (by kernel_rfl) hl; rw [hL8] at this; cases this
      have hL7 : L 7 = true := T.done _ (Array.mem_of_getElem? (i := 2) rfl) rfl
      have hw3 := rni8 T.inv hL11 hL8 hL7
      subst hw3
      refine ⟨#[.slice d1.A n2 d1.c, .int .i64 (p : Int), .slice (some ⟨(w5.drew).heap.size, 0, none⟩) 1 1], by simp only [execOp, resolve, List.map_toArray, List.map_cons, List.map_nil, h1, h2, h3]; simp [go_sem, Act.eval], ?_⟩
      refine INS.out.mono fun e w4 hh => ?_
      obtain ⟨A', c', rfl, ho4, hg4⟩ := hh
      refine ⟨_, rfl, trivial, ⟨A', c', rfl, ho4, hg4.alloc⟩, fun _ _ h => h, fun j v hj hlj hnd hvj h => RnF.keep hj h, ?_⟩
      show RnI _ _ _ (PI.upd L 8) _
      unfold RnI PI.upd
      simp only [show ¬ (11 = 8) by decide, if_false, if_true, hL11, Bool.false_eq_true]
    · obtain rfl := Option.some.inj (show some _ = some o from ho)
      refine PI.shown_val rfl fun a w3 L hr T => ?_
      have h1 : a.eval (.tmp 64) = .pointer (some ⟨d.D, 0, none⟩) := T.at_ 0 64 (by kernel_rfl) (by kernel_rfl) (by kernel_rfl)
      exact ⟨.pointer (some ⟨d.D, 0, none⟩), w3, by simp only [execOp, h1]; simp [go_sem], PI.Post.pure ⟨fun _ => trivial, fun _ _ _ _ _ => trivial⟩ rfl (RnI.same 9 (by decide) T.inv)⟩
    · obtain rfl := Option.some.inj (show some _ = some o from ho)
      refine PI.shown_val rfl fun a w3 L hr T => ?_
      have h1 : a.eval (.tmp 73) = .pointer (some ⟨d.D, 0, none⟩) := T.at_ 9 73 (by kernel_rfl) (by kernel_rfl) (by kernel_rfl)
      exact ⟨.pointer (some ⟨d.D, 2, none⟩), w3, by simp only [execOp, h1]; simp [go_sem], PI.Post.pure ⟨fun _ => trivial, fun _ _ _ _ _ => trivial⟩ rfl (RnI.same 10 (by decide) T.inv)⟩
    · obtain rfl := Option.some.inj (show some _ = some o from ho)
      refine PI.shown_skip rfl fun a w3 L hr T => ?_
      have h1 : a.eval (.tmp 74) = .pointer (some ⟨d.D, 2, none⟩) := T.at_ 10 74 (by kernel_rfl) (by kernel_rfl) (by kernel_rfl)
      have h8 : RnF (w5.drew) base d.D n2 p q d1.A d1.c f to LL 8 (a.eval (.tmp 72)) w3 := T.at_ 8 72 (by kernel_rfl) (by kernel_rfl) (by kernel_rfl)
      obtain ⟨A', c', hv, ho3, hg3⟩ := h8
      obtain ⟨k1, k2, k3⟩ := FINH.out w3 A' c' ho3 hg3
      refine ⟨w3.setCell ⟨d.D, 2, none⟩ (.slice A' (n2 + 1) c'), by simp only [execOp, h1, hv]; simp [go_sem, k2, k3], trivial, trivial, fun _ _ h => h, fun j v hj hlj hnd hvj h => ?_, ?_⟩
      · refine RnF.keep (fun e => ?_) h
        subst e
        simp [PI.needB] at hnd
      · show RnI _ _ _ (PI.upd L 11) _
        unfold RnI PI.upd
        simp only [if_true]
        exact k1
    · cases ho
  · intro x w9 hr hf9 he hI
    obtain ⟨d3, hd9, hk9, E1, E2, E3, E4, E5, E6⟩ := rniend hI (by decide)
    have HD9 := Lib.hid hd9
    have HK9 := Lib.hid hk9
    have HE9 := Lib.hid (And.intro E1 (And.intro E2 (And.intro E3 (And.intro E4 (And.intro E5 E6)))))
    clear hf9 he hI hd9 hk9 hr INS FINH E1 E2 E3 E4 E5 E6
    simp only [PI.putAll, Act.put, Nat.zero_add, Nat.reduceAdd, List.setIfInBounds_toArray, List.set_cons_zero, List.set_cons_succ]
    have BN := Lib.hid (burn_any base d3 w9 HD9.out (by rw [HE9.out.2.2.2.2.1, d1LF]; exact hl))
    rw [HE9.out.1] at BN
    go_wp2_with (go_at_call 53; (with_reducible refine BN.out.mono ?_); rintro e w10 ⟨rfl, hd10, hk10⟩; have HD10 := Lib.hid hd10; have HK10 := Lib.hid hk10; clear hd10 hk10)
    rw [HPO.out]
    obtain ⟨e1, e2, e3, e4, e5, e6⟩ := HE9.out
    obtain ⟨b1, b2, b3, b4, b5, b6⟩ := burnt_all d3
    refine ⟨d3.burnt, ⟨rfl, HD10.out, HKW.out.trans (HK4.out.trans ((Kept.of HB5.out _).trans ((((Kept.refl _ _).drew).trans (HK9.out.trans HK10.out)))))⟩, b1.trans e1, by rw [b2, e3, HE1.out.2.2.1], by rw [b3, e2, HE1.out.2.1], by rw [b4, e4, HE1.out.2.2.2.1], by rw [b5, e4, e5, HE1.out.2.2.2.1, HE1.out.2.2.2.2.1], by rw [b6, e6, HLL.out, HE1.out.2.2.2.2.2, List.map_append, List.map_cons, List.map_take, List.map_drop, map_erase]; rfl⟩

set_option maxHeartbeats 4000000 in
theorem rename_move1 (base : Nat) (d : Dv) (frm to : ByteArray) (i p : Nat) (f : Lf) (w : World) (h : DvAt w base d) (hd : d.dead = false) (hs : SortF d.fs) (hsm : d.fs.length ≤ 1000000) (hh : hitF d.fs frm = true) (hi : i = posF d.fs frm) (hf : d.fs[i]? = some f) (hto : (to.toList == ([] : List UInt8)) = false) (hne : (to.toList == frm.toList) = false)
    (hl : -9223372036854775807 ≤ d.lf ∧ d.lf ≤ 9223372036854775807) (hu : 0 ≤ d.us ∧ d.us ≤ 4611686018427387904) (hbig : ∀ f ∈ d.fs, f.da.length ≤ 4294967296) (hp : p = posF (d.fs.eraseIdx i) to) (y : Lf) (hh2 : hitF (d.fs.eraseIdx i) to = true) (hy : (d.fs.eraseIdx i)[p]? = some y) :
    Calls Tryd.prog 57 #[.pointer (some ⟨d.D, 0, none⟩), .string frm, .string to] w (Leave base d (.int .i64 0) (d.us - (y.da.length : Int)) (if d.fu = true then d.lf - 1 else d.lf) ((((d.fs.map Lf.lg).eraseIdx i).eraseIdx p).take p ++ (to, f.da, f.su) :: (((d.fs.map Lf.lg).eraseIdx i).eraseIdx p).drop p) w) := by
  have HP := Lib.hid hp
  have HH2 := Lib.hid hh2
  obtain ⟨PO, hPO⟩ : ∃ PO, PO = (Leave base d (.int .i64 0) (d.us - (y.da.length : Int)) (if d.fu = true then d.lf - 1 else d.lf) ((((d.fs.map Lf.lg).eraseIdx i).eraseIdx p).take p ++ (to, f.da, f.su) :: (((d.fs.map Lf.lg).eraseIdx i).eraseIdx p).drop p) w) := ⟨_, rfl⟩
  have HPO := Lib.hid hPO
  rw [← hPO]
  clear hp hh2 hPO
  have HY := Lib.hid hy
  clear hy
  have HD := Lib.hid h
  have HSF := Lib.hid hs
  have HF := Lib.hid hf
  have HH := Lib.hid hh
  have HI := Lib.hid hi
  have HBIG := Lib.hid hbig
  clear h hs hf hh hi hbig
  go_enter Tryd.func57, Tryd.ntmps57
  go_upto_region 12 with (first
    | (go_at_call 46; (with_reducible refine (finddev_any base d frm _ HD.out HSF.out hsm).mono ?_); rintro e w1 ⟨rfl, hb1⟩; have HB1 := Lib.hid hb1; have HD1 := Lib.hid (HD.out.below hb1); clear hb1; rw [HH.out, ← HI.out])
    | (go_at_call 50; (with_reducible refine (dead_any base d _ HD.out).mono ?_); rintro e wd ⟨rfl, hwd⟩; subst hwd))
  obtain ⟨n, hn⟩ : ∃ n, n = d.fs.length := ⟨_, rfl⟩
  have hil := (List.getElem?_eq_some_iff.1 HF.out).1
  obtain ⟨g, hA⟩ : ∃ g, d.A = some ⟨g, 0, none⟩ := by
    obtain ⟨g, hA, _⟩ := own_parts HD1.out.own (by omega)
    exact ⟨g, hA⟩
  have c2 := HD1.out.c2
  rw [hA, ← hn] at c2
  obtain ⟨q, hq⟩ : ∃ q, q = f.da.length := ⟨_, rfl⟩
  have hr := Rd.of_own HD1.out.own
  rw [hA] at hr
  obtain ⟨a, ha, hab, x0, x1, x2⟩ := file_cells hr HF.out q hq
  injection ha with ha
  subst ha
  rw [Addr.add_lit, Nat.zero_add] at x0 x1 x2
  have i0 : (0 : Int) ≤ (i : Int) := by omega
  have i1 : (i : Int) < (n : Int) := by omega
  have HN := Lib.hid hn
  have HA := Lib.hid hA
  have HQ := Lib.hid hq
  have HIL := Lib.hid hil
  have hnn : n ≤ 1000000 := by omega
  clear hn hA hq hr hil
  have HL1 : Hid (∀ k, d.has k → k < w1.heap.size) := Lib.hid HD1.out.lt
  go_upto_region 14 with fail
  have HBW : Hid (Below w1.heap.size w1 (w1.alloc (.cells #[.string to, .slice f.A q f.c, .int .i64 f.su] 78))) := Lib.hid ((Below.refl _ _).alloc (Nat.le_refl _) _)
  have HDW := Lib.hid (HD1.out.below HBW.out)
  have HKW : Hid (Kept wd (w1.alloc (.cells #[.string to, .slice f.A q f.c, .int .i64 f.su] 78)) d.has d.has) := Lib.hid ((Kept.of HB1.out _).trans (Kept.of HBW.out _))
  have HLW : Hid (((w1.alloc (.cells #[.string to, .slice f.A q f.c, .int .i64 f.su] 78))).heap[w1.heap.size]? = some (.cells #[.string to, .slice f.A q f.c, .int .i64 f.su] 78)) := Lib.hid (heap_alloc_new w1 _)
  have HZW : Hid (w1.heap.size < ((w1.alloc (.cells #[.string to, .slice f.A q f.c, .int .i64 f.su] 78))).heap.size) := Lib.hid (by simp)
  clear x0 x1 x2 hab HB1 HD1 HBW
  generalize (w1.alloc (.cells #[.string to, .slice f.A q f.c, .int .i64 f.su] 78)) = W at *
  have hfm : f ∈ d.fs := List.mem_of_getElem? HF.out
  have c2 := HDW.out.c2
  rw [HA.out, ← HN.out] at c2
  have ho := HDW.out.own
  rw [HA.out, ← HN.out] at ho
  have DL := Lib.hid (l_delete g n d.c i base d.fs W ho (by have := HN.out; omega) hnn)
  have HNE : Hid (∀ w3 v', Grew W w3 (.slice (some ⟨g, 0, none⟩) n d.c) v' → w3.heap[d.D]? = W.heap[d.D]?) := Lib.hid (fun w3 v' hg => hg.grown.block d.D HDW.out.ltD (fun e => own_ne HDW.out.own HDW.out.row (by decide) (by rw [HA.out, ← HN.out]; exact e.symm)))
  have HROW := Lib.hid HDW.out.row
  have HFM := Lib.hid hfm
  have iw : IntKind.i64.wrap ((i : Int) + 1) = (i : Int) + 1 := by rw [IntKind.wrap_i64]; omega
  clear ho hfm
  go_upto_region 15 with (go_at_call 75; (with_reducible refine DL.out.mono ?_); rintro e w3 ⟨rfl, ho3, hg3⟩; have hr3 := (HNE.out w3 _ hg3).trans HROW.out; have q2 : w3.cell? ⟨d.D, 2, none⟩ = some (.slice d.A d.fs.length d.c) := cell_of_row _ _ 2 _ _ (0, 0) hr3; have q3 : w3.frozen? ⟨d.D, 2, none⟩ = false := (by simp [World.frozen?, hr3]); have HO3 := Lib.hid ho3; have HG3 := Lib.hid hg3; have HR3 := Lib.hid hr3; clear ho3 hg3 hr3)
  clear q2 q3 DL HNE c2 iw
  obtain ⟨r1, r2⟩ := HDW.out.rerow (S := d.has) (A' := some ⟨g, 0, none⟩) (n' := n - 1) (c' := d.c) (L := d.fs.eraseIdx i) (fun _ h => h) (by rw [HA.out, ← HN.out]; exact HG3.out) HO3.out (by rw [List.length_eraseIdx, if_pos HIL.out, HN.out]) (fun z hz => HDW.out.each z (List.mem_of_mem_eraseIdx hz)) (fun z hz a ha => .inr (.inr ⟨z, List.mem_of_mem_eraseIdx hz, a, ha, rfl⟩)) (erase_pair HDW.out.two i)
  have HFO4 : Hid (OwnD (w3.setCell ⟨d.D, 2, none⟩ (.slice (some ⟨g, 0, none⟩) (n - 1) d.c)) base f) := Lib.hid (by
    have hf0 := HDW.out.each f HFM.out
    have h1 : OwnD w3 base f := own_grew hf0 HG3.out (own_apart hf0 (by have h := HDW.out.own; rw [HA.out, ← HN.out] at h; exact h) (by decide))
    exact own_aside h1 (own_ne h1 HR3.out (by decide)) _ _)
  obtain ⟨d1, hd1⟩ : ∃ d1 : Dv, d1 = { d with A := some ⟨g, 0, none⟩, c := d.c, fs := d.fs.eraseIdx i } := ⟨_, rfl⟩
  rw [← hd1] at r1 r2
  have HE1 : Hid (d1.D = d.D ∧ d1.us = d.us ∧ d1.room = d.room ∧ d1.fu = d.fu ∧ d1.lf = d.lf ∧ d1.fs = d.fs.eraseIdx i) := Lib.hid (by rw [hd1]; exact ⟨rfl, rfl, rfl, rfl, rfl, rfl⟩)
  have HA1 : Hid (d1.A = some ⟨g, 0, none⟩) := Lib.hid (by rw [hd1])
  have HNF : Hid (∀ a, f.A = some a → ¬ d1.has a.block) := Lib.hid (by
    rintro a ha (e | ⟨b, hb, e⟩ | ⟨z, hz, b, hb, e⟩)
    · have h := HDW.out.neF HFM.out
      rw [HE1.out.1] at e
      exact h (by simp [Lf.val, Value.ownBlock, ha, e])
    · have h := HDW.out.neAF HFM.out HA.out
      rw [hd1] at hb
      injection hb with hb
      subst hb
      exact h (by simp only [Lf.val, Value.ownBlock, ha]; exact congrArg some e.symm)
    · rw [HE1.out.2.2.2.2.2] at hz
      exact erase_apart HDW.out.two HF.out z hz a b ha hb e.symm)
  clear hd1
  generalize w3.setCell ⟨d.D, 2, none⟩ (.slice (some ⟨g, 0, none⟩) (n - 1) d.c) = W4 at *
  have HD4 := Lib.hid r1
  have HK4 : Hid (Kept W W4 d.has (fun k => d1.has k ∨ blkF f k)) := Lib.hid (r2.to (fun k hk => hk.elim .inl (fun ⟨a, ha, e⟩ => .inr (.inr (.inr ⟨f, HFM.out, a, ha, e⟩)))))
  have HL4 : Hid (W4.heap[w1.heap.size]? = some (.cells #[.string to, .slice f.A q f.c, .int .i64 f.su] 78)) := Lib.hid ((r2.block _ HZW.out (fun h => by have := HL1.out _ h; omega)).trans HLW.out)
  have HN4 : Hid (∀ k, d1.has k → k < w1.heap.size) := Lib.hid (fun k hk => HL1.out k (r2.sub k (by
    rcases Nat.lt_or_ge k W.heap.size with h | h
    · exact h
    · exfalso
      rcases hk with e | ⟨b, hb, e⟩ | ⟨z, hz, b, hb, e⟩
      · have := HDW.out.ltD; rw [HE1.out.1] at e; omega
      · rw [HA1.out] at hb
        have := HDW.out.lt k (.inr (.inl ⟨b, by rw [HA.out]; exact hb, e⟩)); omega
      · rw [HE1.out.2.2.2.2.2] at hz
        have := HDW.out.lt k (.inr (.inr ⟨z, List.mem_of_mem_eraseIdx hz, b, hb, e⟩)); omega) hk))
  clear r1 r2 HO3 HG3 HR3 HROW HLW
  have HS1 : Hid (SortF d1.fs) := Lib.hid (by rw [HE1.out.2.2.2.2.2]; exact sort_erase HSF.out i)
  have HPH : Hid (hitF d1.fs to = true ∧ posF d1.fs to = p) := Lib.hid (by rw [HE1.out.2.2.2.2.2]; exact ⟨HH2.out, HP.out.symm⟩)
  have d1D := HE1.out.1
  have FN := Lib.hid (finddev_any base d1 to _ HD4.out HS1.out (by rw [HE1.out.2.2.2.2.2, List.length_eraseIdx]; split <;> omega))
  rw [d1D, HPH.out.1, HPH.out.2] at FN
  have d1D := Lib.hid d1D
  go_upto_region 16 with (go_at_call 46; (with_reducible refine FN.out.mono ?_); rintro e w5 ⟨rfl, hb5⟩; have HB5 := Lib.hid hb5; have HD5 := Lib.hid (HD4.out.below hb5); clear hb5)
  have d1D := d1D.out
  have HL5 : Hid (w5.heap[w1.heap.size]? = some (.cells #[.string to, .slice f.A q f.c, .int .i64 f.su] 78)) := Lib.hid ((HB5.out.block _ (by have h := HL4.out; rcases Nat.lt_or_ge w1.heap.size W4.heap.size with h1 | h1; exact h1; rw [Array.getElem?_eq_none h1] at h; cases h)).trans HL4.out)
  have HPL1 : Hid (p ≤ d1.fs.length ∧ d1.fs.length ≤ 1000000) := Lib.hid ⟨by rw [← HPH.out.2]; exact pos_le _ _, by rw [HE1.out.2.2.2.2.2, List.length_eraseIdx]; split <;> omega⟩
  have HFO5 : Hid (OwnD w5 base f) := Lib.hid (own_below HFO4.out HB5.out)
  have d1LF := HE1.out.2.2.2.2.1
  have HY1 : Hid (d1.fs[p]? = some y) := Lib.hid (by rw [HE1.out.2.2.2.2.2]; exact HY.out)
  have RMV : Hid (Calls Tryd.prog 67 #[.pointer (some ⟨d.D, 0, none⟩), .int .i64 (p : Int)] w5 (Leave base d1 (.tuple #[]) (d1.us - (y.da.length : Int)) d1.lf ((d1.fs.map Lf.lg).eraseIdx p) w5)) := Lib.hid (by
    have h := remove_any base d1 p y w5 HD5.out HY1.out HPL1.out.2 (by rw [HE1.out.2.1]; exact hu) (HBIG.out y (List.mem_of_mem_eraseIdx (List.mem_of_getElem? HY.out)))
    rw [d1D] at h
    exact h)
  have H1D := Lib.hid d1D
  have H1LF := Lib.hid d1LF
  clear d1D d1LF
  go_upto_region 18 with (go_at_call 67; (with_reducible refine RMV.out.mono ?_); rintro e w6 ⟨d2, ⟨rfl, hd6, hk6⟩, p1, p2, p3, p4, p5, p6⟩; have HD6 := Lib.hid hd6; have HK6 := Lib.hid hk6; have HE6 := Lib.hid (And.intro p1 (And.intro p2 (And.intro p3 (And.intro p4 (And.intro p5 p6))))); clear hd6 hk6 p1 p2 p3 p4 p5 p6)
  have d2D : d2.D = d.D := HE6.out.1.trans H1D.out
  have d2LF : d2.lf = d.lf := HE6.out.2.2.2.2.1.trans H1LF.out
  have hpn := (List.getElem?_eq_some_iff.1 HY1.out).1
  have hl2 : d2.fs.length = d1.fs.length - 1 := by
    have h := congrArg List.length HE6.out.2.2.2.2.2
    rw [List.length_map, List.length_eraseIdx, List.length_map, if_pos hpn] at h
    exact h
  have HPL : Hid (p ≤ d2.fs.length ∧ d2.fs.length ≤ 1000000) := Lib.hid ⟨by omega, by have := HPL1.out.2; omega⟩
  have HL6 : Hid (w6.heap[w1.heap.size]? = some (.cells #[.string to, .slice f.A q f.c, .int .i64 f.su] 78)) := Lib.hid ((HK6.out.block _ (by have h := HL5.out; rcases Nat.lt_or_ge w1.heap.size w5.heap.size with h1 | h1; exact h1; rw [Array.getElem?_eq_none h1] at h; cases h) (fun h => by have := HN4.out _ h; omega)).trans HL5.out)
  have HFO6 : Hid (OwnD w6 base f) := Lib.hid (own_kept HFO5.out HK6.out HNF.out)
  have HNF6 : Hid (∀ a, f.A = some a → ¬ d2.has a.block) := Lib.hid (fun a ha h => HNF.out a ha (HK6.out.sub _ (own_block_lt HFO5.out a.block (by simp [Lf.val, Value.ownBlock, ha])) h))
  clear hl2 hpn RMV
  obtain ⟨n2, hn2⟩ : ∃ n2, n2 = d2.fs.length := ⟨_, rfl⟩
  have c2 : (w6.drew).cell? ⟨d.D, 2, none⟩ = some (.slice d2.A n2 d2.c) := by have h := HD6.out.c2; rw [← hn2, d2D] at h; exact h
  have o0 : (w6.drew).cell? ⟨w1.heap.size, 0, none⟩ = some (.string to) := cell_of_row _ _ 0 _ _ (0, 0) HL6.out
  have o1 : (w6.drew).cell? ⟨w1.heap.size, 1, none⟩ = some (.slice f.A q f.c) := cell_of_row _ _ 1 _ _ (0, 0) HL6.out
  have o2 : (w6.drew).cell? ⟨w1.heap.size, 2, none⟩ = some (.int .i64 f.su) := cell_of_row _ _ 2 _ _ (0, 0) HL6.out
  have hDs : d.D < (w6.drew).heap.size := by have h := HD6.out.ltD; rw [d2D] at h; exact h
  obtain ⟨LL, hLL⟩ : ∃ LL, LL = d2.fs.take p ++ (⟨to, f.da, f.su, f.A, f.c⟩ : Lf) :: d2.fs.drop p := ⟨_, rfl⟩
  have HLL := Lib.hid hLL
  have HN2 := Lib.hid hn2
  have HDX : Hid (DvAt (w6.drew) base d2) := Lib.hid (HD6.out.below ⟨rfl, rfl, rfl, Nat.le_refl _, fun _ _ => rfl⟩)
  have INS : Hid (Calls Tryd.prog 52 #[.slice d2.A n2 d2.c, .int .i64 (p : Int), .slice (some ⟨(w6.drew).heap.size, 0, none⟩) 1 1] ((w6.drew).alloc (.cells #[.string to, .slice f.A q f.c, .int .i64 f.su] 78)) (lIns base LL ((w6.drew).alloc (.cells #[.string to, .slice f.A q f.c, .int .i64 f.su] 78)) d2.A n2 d2.c)) := Lib.hid (by
    rw [hLL]
    exact l_insert d2.A n2 d2.c p (w6.drew).heap.size d2.fs (⟨to, f.da, f.su, f.A, f.c⟩ : Lf) base ((w6.drew).alloc (.cells #[.string to, .slice f.A q f.c, .int .i64 f.su] 78)) (by rw [hn2]; exact HDX.out.own.alloc _) hn2 (by rw [hn2]; exact HPL.out.1) (by rw [hn2]; exact HPL.out.2) (Nat.le_trans HDX.out.lo (Nat.le_of_lt (Nat.lt_of_lt_of_le HDX.out.ltD ((Below.refl _ _).alloc (Nat.le_refl _) _).size))) (by rw [HQ.out]; exact heap_alloc_new _ _) (fun a ha e => by have := HDX.out.lt a.block (.inr (.inl ⟨a, ha, rfl⟩)); omega))
  have FINH : Hid (∀ w3 A' c', w3.ownsRow base 78 3 (.slice A' (n2 + 1) c') (n2 + 1) (LL.flatMap Lf.cells) → Grew (w6.drew) w3 (.slice d2.A n2 d2.c) (.slice A' (n2 + 1) c') →
      (∃ d3 : Dv, DvAt (w3.setCell ⟨d.D, 2, none⟩ (.slice A' (n2 + 1) c')) base d3 ∧ Kept (w6.drew) (w3.setCell ⟨d.D, 2, none⟩ (.slice A' (n2 + 1) c')) (fun k => d2.has k ∨ blkF f k) d3.has ∧ d3.D = d.D ∧ d3.us = d2.us ∧ d3.room = d2.room ∧ d3.fu = d2.fu ∧ d3.lf = d2.lf ∧ d3.fs = LL) ∧ w3.cell? ⟨d.D, 2, none⟩ = some (.slice d2.A d2.fs.length d2.c) ∧ w3.frozen? ⟨d.D, 2, none⟩ = false) := Lib.hid (by
    intro w3 A' c' ho3 hg3
    have hr3 := (hg3.grown.block d2.D HDX.out.ltD (fun e => own_ne HDX.out.own HDX.out.row (by decide) (by rw [← HN2.out]; exact e.symm))).trans HDX.out.row
    obtain ⟨r1, r2⟩ := HDX.out.rerow (S := fun k => d2.has k ∨ blkF f k) (A' := A') (n' := n2 + 1) (c' := c') (L := LL) (fun _ h => .inl h) (by rw [← HN2.out]; exact hg3) ho3 (by rw [HLL.out]; simp; have := HPL.out.1; rw [HN2.out]; omega) (fun z hz => by
      rw [HLL.out] at hz
      rcases List.mem_append.1 hz with hz | hz
      · exact HDX.out.each z (List.mem_of_mem_take hz)
      · rcases List.mem_cons.1 hz with rfl | hz
        · exact HFO6.out
        · exact HDX.out.each z (List.mem_of_mem_drop hz)) (fun z hz a ha => by
      rw [HLL.out] at hz
      rcases List.mem_append.1 hz with hz | hz
      · exact .inl (.inr (.inr ⟨z, List.mem_of_mem_take hz, a, ha, rfl⟩))
      · rcases List.mem_cons.1 hz with rfl | hz
        · exact .inr ⟨a, ha, rfl⟩
        · exact .inl (.inr (.inr ⟨z, List.mem_of_mem_drop hz, a, ha, rfl⟩))) (by
      have hp : (d2.fs.take p ++ d2.fs.drop p).Pairwise apartF := by rw [List.take_append_drop]; exact HDX.out.two
      obtain ⟨p1, p2, p3⟩ := List.pairwise_append.1 hp
      have hff : ∀ z ∈ d2.fs, apartF (⟨to, f.da, f.su, f.A, f.c⟩ : Lf) z := fun z hz a b ha hb e => HNF6.out a ha (.inr (.inr ⟨z, hz, b, hb, e.symm⟩))
      rw [HLL.out]
      refine List.pairwise_append.2 ⟨p1, List.pairwise_cons.2 ⟨fun z hz => hff z (List.mem_of_mem_drop hz), p2⟩, fun a ha z hz => ?_⟩
      rcases List.mem_cons.1 hz with rfl | hz
      · exact (hff a (List.mem_of_mem_take ha)).symm
      · exact p3 a ha z hz)
    rw [d2D] at r1 r2 hr3
    exact ⟨⟨_, r1, r2, rfl, rfl, rfl, rfl, rfl, rfl⟩, cell_of_row _ _ 2 _ _ (0, 0) hr3, by simp [World.frozen?, hr3]⟩)
  clear hn2 hLL
  refine PI.wp_region_persG (R := fun _ _ => True) (G := fun _ _ => True) (I := fun L _ w => RnI (w6.drew) (.cells #[.string to, .slice f.A q f.c, .int .i64 f.su] 78) (fun w' => ∃ d3 : Dv, DvAt w' base d3 ∧ Kept (w6.drew) w' (fun k => d2.has k ∨ blkF f k) d3.has ∧ d3.D = d.D ∧ d3.us = d2.us ∧ d3.room = d2.room ∧ d3.fu = d2.fu ∧ d3.lf = d2.lf ∧ d3.fs = LL) L w) [(2, 1), (3, 2), (4, 3), (7, 6), (8, 4), (8, 5), (8, 7), (9, 0), (10, 9), (11, 10), (11, 8)] [] (by kernel_rfl) (PI.formed_of (by kernel_rfl)) ⟨fun _ => trivial, fun _ _ _ _ _ => trivial⟩ (fun _ => trivial) (RnF (w6.drew) base d.D n2 p q d2.A d2.c f to LL) (rni0 _ _ _) ?_ ?_
  · intro i9 o ho
    rcases i9 with _ | _ | _ | _ | _ | _ | _ | _ | _ | _ | _ | _ | i9
    · obtain rfl := Option.some.inj (show some _ = some o from ho)
      refine PI.shown_val rfl fun a w3 L hr T => ?_
      have h1 : a.eval (.tmp 0) = .pointer (some ⟨d.D, 0, none⟩) := T.was 0 (by kernel_rfl)
      exact ⟨.pointer (some ⟨d.D, 0, none⟩), w3, by simp only [execOp, h1]; simp [go_sem], PI.Post.pure ⟨fun _ => trivial, fun _ _ _ _ _ => trivial⟩ rfl (RnI.same 0 (by decide) T.inv)⟩
    · obtain rfl := Option.some.inj (show some _ = some o from ho)
      refine PI.shown_val rfl fun a w3 L hr T => ?_
      have h1 : a.eval (.tmp 0) = .pointer (some ⟨d.D, 0, none⟩) := T.was 0 (by kernel_rfl)
      exact ⟨.pointer (some ⟨d.D, 0, none⟩), w3, by simp only [execOp, h1]; simp [go_sem], PI.Post.pure ⟨fun _ => trivial, fun _ _ _ _ _ => trivial⟩ rfl (RnI.same 1 (by decide) T.inv)⟩
    · obtain rfl := Option.some.inj (show some _ = some o from ho)
      refine PI.shown_val rfl fun a w3 L hr T => ?_
      have h1 : a.eval (.tmp 65) = .pointer (some ⟨d.D, 0, none⟩) := T.at_ 1 65 (by kernel_rfl) (by kernel_rfl) (by kernel_rfl)
      exact ⟨.pointer (some ⟨d.D, 0, none⟩), w3, by simp only [execOp, h1]; simp [go_sem], PI.Post.pure ⟨fun _ => trivial, fun _ _ _ _ _ => trivial⟩ rfl (RnI.same 2 (by decide) T.inv)⟩
    · obtain rfl := Option.some.inj (show some _ = some o from ho)
      refine PI.shown_val rfl fun a w3 L hr T => ?_
      have h1 : a.eval (.tmp 66) = .pointer (some ⟨d.D, 0, none⟩) := T.at_ 2 66 (by kernel_rfl) (by kernel_rfl) (by kernel_rfl)
      exact ⟨.pointer (some ⟨d.D, 2, none⟩), w3, by simp only [execOp, h1]; simp [go_sem], PI.Post.pure ⟨fun _ => trivial, fun _ _ _ _ _ => trivial⟩ rfl (RnI.same 3 (by decide) T.inv)⟩
    · obtain rfl := Option.some.inj (show some _ = some o from ho)
      refine PI.shown_val rfl fun a w3 L hr T => ?_
      have h1 : a.eval (.tmp 67) = .pointer (some ⟨d.D, 2, none⟩) := T.at_ 3 67 (by kernel_rfl) (by kernel_rfl) (by kernel_rfl)
      have hL8 : L 8 = false := T.wait 8 _ rfl ⟨_, Array.mem_of_getElem? (i := 0) rfl, rfl, rfl⟩
      have hL11 : L 11 = false := Bool.eq_false_iff.2 fun hl => by have := T.shut_ 11 8 (by kernel_rfl) hl; rw [hL8] at this; cases this
      have c3 : w3.cell? ⟨d.D, 2, none⟩ = some (.slice d2.A n2 d2.c) := (rnicell T.inv hL11 hL8 _ hDs).trans c2
      exact ⟨.slice d2.A n2 d2.c, w3, by simp only [execOp, h1]; simp [go_sem, c3], PI.Post.pure ⟨fun _ => trivial, fun _ _ _ _ _ => trivial⟩ rfl (RnI.same 4 (by decide) T.inv)⟩
    · obtain rfl := Option.some.inj (show some _ = some o from ho)
      refine PI.shown_val rfl fun a w3 L hr T => ?_
      have h1 : a.eval (.tmp 10) = .int .i64 (p : Int) := T.was 10 (by kernel_rfl)
      exact ⟨.int .i64 (p : Int), w3, by simp only [execOp, h1]; simp [go_sem], PI.Post.pure ⟨fun _ => trivial, fun _ _ _ _ _ => trivial⟩ rfl (RnI.same 5 (by decide) T.inv)⟩
    · obtain rfl := Option.some.inj (show some _ = some o from ho)
      refine PI.shown_val rfl fun a w3 L hr T => ?_
      have h1 : a.eval (.tmp 9) = .pointer (some ⟨w1.heap.size, 0, none⟩) := T.was 9 (by kernel_rfl)
      have hL7 : L 7 = false := T.wait 7 _ rfl ⟨_, Array.mem_of_getElem? (i := 0) rfl, rfl, rfl⟩
      have hL8 : L 8 = false := Bool.eq_false_iff.2 fun hl => by have := T.shut_ 8 7 (by kernel_rfl) hl; rw [hL7] at this; cases this
      have hL11 : L 11 = false := Bool.eq_false_iff.2 fun hl => by have := T.shut_ 11 8 (by kernel_rfl) hl; rw [hL8] at this; cases this
      have hw3 := rni7 T.inv hL11 hL8 hL7
      rw [← hw3] at o0 o1 o2
      exact ⟨.agg #[.string to, .slice f.A q f.c, .int .i64 f.su], w3, by simp only [execOp, h1]; simp [go_sem, o0, o1, o2], PI.Post.pure ⟨fun _ => trivial, fun _ _ _ _ _ => trivial⟩ rfl (RnI.same 6 (by decide) T.inv)⟩
    · obtain rfl := Option.some.inj (show some _ = some o from ho)
      refine PI.shown_val rfl fun a w3 L hr T => ?_
      have h1 : a.eval (.tmp 70) = .agg #[.string to, .slice f.A q f.c, .int .i64 f.su] := T.at_ 6 70 (by kernel_rfl) (by kernel_rfl) (by kernel_rfl)
      have h1b : a.tmps[70]?.getD undef = .agg #[.string to, .slice f.A q f.c, .int .i64 f.su] := by have h := h1; simpa [Act.eval] using h
      have hL7 : L 7 = false := T.yetNot
      have hL8 : L 8 = false := Bool.eq_false_iff.2 fun hl => by have := T.shut_ 8 7 (by kernel_rfl) hl; rw [hL7] at this; cases this
      have hL11 : L 11 = false := Bool.eq_false_iff.2 fun hl => by have := T.shut_ 11 8 (by kernel_rfl) hl; rw [hL8] at this; cases this
      have hw3 := rni7 T.inv hL11 hL8 hL7
      subst hw3
      refine ⟨.slice (some ⟨(w6.drew).heap.size, 0, none⟩) 1 1, (w6.drew).alloc (.cells #[.string to, .slice f.A q f.c, .int .i64 f.su] 78), by simp only [execOp, h1]; simp [go_sem, h1b], trivial, rfl, fun _ _ h => h, fun j v hj hlj hnd hvj h => RnF.keep (fun e => by rw [e, hL8] at hlj; cases hlj) h, ?_⟩
      show RnI _ _ _ (PI.upd L 7) _
      unfold RnI PI.upd
      simp only [show ¬ (11 = 7) by decide, show ¬ (8 = 7) by decide, if_false, if_true, hL8, hL11, Bool.false_eq_true]
    · obtain rfl := Option.some.inj (show some _ = some o from ho)
      refine PI.shown_call rfl 52 fun a w3 L hr T => ?_
      have h1 : a.eval (.tmp 68) = .slice d2.A n2 d2.c := T.at_ 4 68 (by kernel_rfl) (by kernel_rfl) (by kernel_rfl)
      have h2 : a.eval (.tmp 69) = .int .i64 (p : Int) := T.at_ 5 69 (by kernel_rfl) (by kernel_rfl) (by kernel_rfl)
      have h3 : a.eval (.tmp 71) = .slice (some ⟨(w6.drew).heap.size, 0, none⟩) 1 1 := T.at_ 7 71 (by kernel_rfl) (by kernel_rfl) (by kernel_rfl)
      have hL8 : L 8 = false := T.yetNot
      have hL11 : L 11 = false := Bool.eq_false_iff.2 fun hl => by have := T.shut_ 11 8 (by kernel_rfl) hl; rw [hL8] at this; cases this
      have hL7 : L 7 = true := T.done _ (Array.mem_of_getElem? (i := 2) rfl) rfl
      have hw3 := rni8 T.inv hL11 hL8 hL7
      subst hw3
      refine ⟨#[.slice d2.A n2 d2.c, .int .i64 (p : Int), .slice (some ⟨(w6.drew).heap.size, 0, none⟩) 1 1], by simp only [execOp, resolve, List.map_toArray, List.map_cons, List.map_nil, h1, h2, h3]; simp [go_sem, Act.eval], ?_⟩
      refine INS.out.mono fun e w4 hh => ?_
      obtain ⟨A', c', rfl, ho4, hg4⟩ := hh
      refine ⟨_, rfl, trivial, ⟨A', c', rfl, ho4, hg4.alloc⟩, fun _ _ h => h, fun j v hj hlj hnd hvj h => RnF.keep hj h, ?_⟩
      show RnI _ _ _ (PI.upd L 8) _
      unfold RnI PI.upd
      simp only [show ¬ (11 = 8) by decide, if_false, if_true, hL11, Bool.false_eq_true]
    · obtain rfl := Option.some.inj (show some _ = some o from ho)
      refine PI.shown_val rfl fun a w3 L hr T => ?_
      have h1 : a.eval (.tmp 64) = .pointer (some ⟨d.D, 0, none⟩) := T.at_ 0 64 (by kernel_rfl) (by kernel_rfl) (by kernel_rfl)
      exact ⟨.pointer (some ⟨d.D, 0, none⟩), w3, by simp only [execOp, h1]; simp [go_sem], PI.Post.pure ⟨fun _ => trivial, fun _ _ _ _ _ => trivial⟩ rfl (RnI.same 9 (by decide) T.inv)⟩
    · obtain rfl := Option.some.inj (show some _ = some o from ho)
      refine PI.shown_val rfl fun a w3 L hr T => ?_
      have h1 : a.eval (.tmp 73) = .pointer (some ⟨d.D, 0, none⟩) := T.at_ 9 73 (by kernel_rfl) (by kernel_rfl) (by kernel_rfl)
      exact ⟨.pointer (some ⟨d.D, 2, none⟩), w3, by simp only [execOp, h1]; simp [go_sem], PI.Post.pure ⟨fun _ => trivial, fun _ _ _ _ _ => trivial⟩ rfl (RnI.same 10 (by decide) T.inv)⟩
    · obtain rfl := Option.some.inj (show some _ = some o from ho)
      refine PI.shown_skip rfl fun a w3 L hr T => ?_
      have h1 : a.eval (.tmp 74) = .pointer (some ⟨d.D, 2, none⟩) := T.at_ 10 74 (by kernel_rfl) (by kernel_rfl) (by kernel_rfl)
      have h8 : RnF (w6.drew) base d.D n2 p q d2.A d2.c f to LL 8 (a.eval (.tmp 72)) w3 := T.at_ 8 72 (by kernel_rfl) (by kernel_rfl) (by kernel_rfl)
      obtain ⟨A', c', hv, ho3, hg3⟩ := h8
      obtain ⟨k1, k2, k3⟩ := FINH.out w3 A' c' ho3 hg3
      refine ⟨w3.setCell ⟨d.D, 2, none⟩ (.slice A' (n2 + 1) c'), by simp only [execOp, h1, hv]; simp [go_sem, k2, k3], trivial, trivial, fun _ _ h => h, fun j v hj hlj hnd hvj h => ?_, ?_⟩
      · refine RnF.keep (fun e => ?_) h
        subst e
        simp [PI.needB] at hnd
      · show RnI _ _ _ (PI.upd L 11) _
        unfold RnI PI.upd
        simp only [if_true]
        exact k1
    · cases ho
  · intro x w9 hr hf9 he hI
    obtain ⟨d3, hd9, hk9, E1, E2, E3, E4, E5, E6⟩ := rniend hI (by decide)
    have HD9 := Lib.hid hd9
    have HK9 := Lib.hid hk9
    have HE9 := Lib.hid (And.intro E1 (And.intro E2 (And.intro E3 (And.intro E4 (And.intro E5 E6)))))
    clear hf9 he hI hd9 hk9 hr INS FINH E1 E2 E3 E4 E5 E6
    simp only [PI.putAll, Act.put, Nat.zero_add, Nat.reduceAdd, List.setIfInBounds_toArray, List.set_cons_zero, List.set_cons_succ]
    have BN := Lib.hid (burn_any base d3 w9 HD9.out (by rw [HE9.out.2.2.2.2.1, d2LF]; exact hl))
    rw [HE9.out.1] at BN
    go_wp2_with (go_at_call 53; (with_reducible refine BN.out.mono ?_); rintro e w10 ⟨rfl, hd10, hk10⟩; have HD10 := Lib.hid hd10; have HK10 := Lib.hid hk10; clear hd10 hk10)
    rw [HPO.out]
    obtain ⟨e1, e2, e3, e4, e5, e6⟩ := HE9.out
    obtain ⟨b1, b2, b3, b4, b5, b6⟩ := burnt_all d3
    refine ⟨d3.burnt, ⟨rfl, HD10.out, HKW.out.trans (HK4.out.trans ((Kept.of HB5.out _).trans ((HK6.out.wide (blkF f)).trans (((Kept.refl _ _).drew).trans (HK9.out.trans HK10.out)))))⟩, b1.trans e1, by rw [b2, e3, HE6.out.2.1, HE1.out.2.2.1], by rw [b3, e2, HE6.out.2.2.1, HE1.out.2.1], by rw [b4, e4, HE6.out.2.2.2.1, HE1.out.2.2.2.1], by rw [b5, e4, e5, HE6.out.2.2.2.1, HE6.out.2.2.2.2.1, HE1.out.2.2.2.1, HE1.out.2.2.2.2.1], by rw [b6, e6, HLL.out, List.map_append, List.map_cons, List.map_take, List.map_drop, HE6.out.2.2.2.2.2, HE1.out.2.2.2.2.2, map_erase]; rfl⟩

end Go.Proofs.YtbdiamhhlabojaaDoor
