/- device.Files. -/
import Derived.Test.YtbdiamhhlabojaaDoorUm
namespace Go.Proofs.YtbdiamhhlabojaaDoor
open Go.RowKit
set_option linter.unusedVariables false
set_option linter.unusedSimpArgs false
set_option maxRecDepth 100000

/-- Files in memory of one's own. -/
structure FRow (w : World) (base : Nat) (v : Value) (l : List Lf) : Prop where
  own : w.ownsRow base 78 3 v l.length (l.flatMap Lf.cells)
  each : ∀ f ∈ l, OwnD w base f
section
variable {w w' : World} {base : Nat} {v : Value} {l : List Lf}
theorem FRow.below (h : FRow w base v l) (hb : Below w.heap.size w w') : FRow w' base v l := ⟨own_below h.own hb, fun f hf => own_below (h.each f hf) hb⟩
theorem appF {ty : TypeId} {y : Lf} (h : FRow w base v l) (hx : OwnD w base y) {B' : Nat} {A : Option Addr} (hr : Rd w B' A ([y].flatMap Lf.cells)) (hl : l.length ≤ 1000000) (hbase : base ≤ w.heap.size) :
    ∃ v' w', (Builtin.append_ #[58, 58] ty #[v, .slice A 1 1]).run Tryd.prog w = .ok v' w' ∧ (FRow w' base v' (l ++ [y]) ∧ Grew w w' v v') := by
  obtain ⟨i0, hi, hz0, hz1, hz2⟩ := info_parts l_info
  obtain ⟨v', w', r1, r2, r3⟩ := run_append_rd (P := Tryd.prog) w base 58 ty 78 i0 _ 3 48 Tryd.underlying58 hi hz0 hz1 hz2 rfl v l.length (l.flatMap Lf.cells) h.own B' A 1 1 ([y].flatMap Lf.cells) rfl hr (lcells_one [y]) (by unfold maxLen; omega) (by omega) hbase
  refine ⟨v', w', r1, ⟨by rw [List.length_append, List.flatMap_append]; exact r2, fun z hz => ?_⟩, r3⟩
  rcases List.mem_append.1 hz with hz | hz
  · exact own_grew (h.each z hz) r3 (own_apart (h.each z hz) h.own (by decide))
  · rw [List.mem_singleton] at hz; subst hz
    exact own_grew hx r3 (own_apart hx h.own (by decide))
end
/-- All files, handed back. -/
def FilesOf (L : List Lg) (w : World) (e : Ending) (w' : World) : Prop := ∃ (v : Value) (l : List Lf), e = .returned v ∧ FRow w' w.heap.size v l ∧ l.map Lf.lg = L ∧ Below w.heap.size w w'
set_option maxHeartbeats 4000000 in
theorem files_any (base : Nat) (d : Dv) (w : World) (h : DvAt w base d) (hsm : d.fs.length ≤ 100000) (hbig : ∀ f ∈ d.fs, f.da.length ≤ 4294967296) :
    Calls Tryd.prog 34 #[.pointer (some ⟨d.D, 0, none⟩)] w (FilesOf (d.fs.map Lf.lg) w) := by
  obtain ⟨i0, hi, hz0, hz1, hz2⟩ := info_parts l_info
  have HBIG := Lib.hid hbig
  have HD := Lib.hid h
  obtain ⟨n, hn⟩ : ∃ n, n = d.fs.length := ⟨_, rfl⟩
  obtain ⟨dA, hdA⟩ : ∃ dA, dA = d.A := ⟨_, rfl⟩
  have c2 := h.c2
  rw [← hn, ← hdA] at c2
  have HDA := Lib.hid hdA
  have hnn : n ≤ 100000 := by omega
  obtain ⟨wm, hm1, hm2, hm3⟩ := run_make_own (P := Tryd.prog) (w := w) w.heap.size 58 78 i0 _ 3 Tryd.underlying58 hi hz0 hz1 .i64 .i64 n (by rw [hz2]; omega) (by unfold maxLen; omega) (Nat.le_refl _)
  have HM2 := Lib.hid hm2
  have hbm : Below w.heap.size w wm := ⟨hm3.os, hm3.tape, hm3.output, hm3.size, fun k hk => hm3.block k hk (by simp)⟩
  have HBM := Lib.hid hbm
  have c2m : wm.cell? ⟨d.D, 2, none⟩ = some (.slice dA n d.c) := (hbm.cell (p := ⟨d.D, 2, none⟩) h.ltD).trans c2
  have HN := Lib.hid hn
  clear hdA hbm hm2 hm3 hz0 hz1 hz2 hi hbig h hn hsm
  go_enter Tryd.func34, Tryd.ntmps34
  go_wp2_with fail
  go_loopw [3, 19] (fun v kv wr => ∃ (k : Nat) (l : List Lf), kv = .int .i64 k ∧ k ≤ n ∧ Hid (FRow wr w.heap.size v l) ∧ Hid (l.map Lf.lg = (d.fs.take k).map Lf.lg) ∧ Hid (Below w.heap.size w wr)) (fun _ kv _ => n - (intOf kv).toNat)
  case atStart => exact ⟨0, [], rfl, Nat.zero_le _, Lib.hid ⟨HM2.out, fun f hf => by cases hf⟩, Lib.hid (by simp), HBM⟩
  case round =>
    obtain ⟨k, l, rfl, hk, HF, HL, HB⟩ := hrel
    by_cases hlt : k < n
    · obtain ⟨f, hf⟩ : ∃ f, d.fs[k]? = some f := ⟨_, List.getElem?_eq_getElem (by rw [← HN.out]; exact hlt)⟩
      obtain ⟨q, hq⟩ : ∃ q, q = f.da.length := ⟨_, rfl⟩
      have hdr := HD.out.below HB.out
      have hfm : f ∈ d.fs := List.mem_of_getElem? hf
      obtain ⟨a, ha, hab, x0, x1, x2⟩ := file_cells (Rd.of_own hdr.own) hf q hq
      obtain rfl : dA = some a := by rw [HDA.out]; exact ha
      clear ha
      have HRD : Hid (Rd (wr.alloc (.cells #[.string f.nm, .slice f.A q f.c, .int .i64 f.su] 78)) wr.heap.size f.A (f.da.map B8)) := Lib.hid ((Rd.of_own (hdr.each f hfm)).alloc (Nat.le_refl _) _)
      have CL := Lib.hid (clone_calls f.A f.da f.c wr.heap.size (wr.alloc (.cells #[.string f.nm, .slice f.A q f.c, .int .i64 f.su] 78)) HRD.out (by simp) (HBIG.out f hfm))
      rw [← hq] at CL
      have hll : l.length ≤ 100000 := by
        have h1 := congrArg List.length HL.out
        rw [List.length_map, List.length_map, List.length_take] at h1
        omega
      have i0' : (0 : Int) ≤ (k : Int) := by omega
      have i1' : (k : Int) < (n : Int) := by omega
      have HFK := Lib.hid hf
      have HQ := Lib.hid hq
      clear hf hdr hfm hq
      go_upto_region 8 with (go_at_call 47; (with_reducible refine CL.out.mono ?_); rintro e w2 ⟨v2, rfl, ho2, hg2⟩; obtain ⟨A2, cc2, rfl, _, _⟩ := own_rd ho2; have hB1 : w2.heap[wr.heap.size]? = some (.cells #[.string f.nm, .slice f.A q f.c, .int .i64 f.su] 78) := (hg2.new.block _ (by simp)).trans (heap_alloc_new wr _); have o0 : w2.cell? ⟨wr.heap.size, 0, none⟩ = some (.string f.nm) := cell_of_row _ _ 0 _ _ (0, 0) hB1; have o1 : w2.cell? ⟨wr.heap.size, 1, none⟩ = some (.slice f.A q f.c) := cell_of_row _ _ 1 _ _ (0, 0) hB1; have o2 : w2.cell? ⟨wr.heap.size, 2, none⟩ = some (.int .i64 f.su) := cell_of_row _ _ 2 _ _ (0, 0) hB1; have p1 : w2.frozen? ⟨wr.heap.size, 1, none⟩ = false := (by simp [World.frozen?, hB1]); have HO2 := Lib.hid ho2; have HB2 := Lib.hid hg2.new; clear ho2 hg2 hB1)
      have hz2 : wr.heap.size < w2.heap.size := by have := HB2.out.size; simp at this; omega
      have HBW : Hid (Below wr.heap.size wr ((w2.setCell ⟨wr.heap.size, 1, none⟩ (.slice A2 q cc2)).alloc (.cells #[.string f.nm, .slice A2 q cc2, .int .i64 f.su] 78))) := Lib.hid (by
        refine Below.alloc ?_ (by simp; omega) _
        refine Below.setCell (p := ⟨wr.heap.size, 1, none⟩) ?_ (Nat.le_refl _) _
        exact ((Below.refl wr.heap.size wr).alloc (Nat.le_refl _) _).trans (HB2.out.mono (by simp)))
      have HFW := Lib.hid (HF.out.below HBW.out)
      have HYW : Hid (OwnD ((w2.setCell ⟨wr.heap.size, 1, none⟩ (.slice A2 q cc2)).alloc (.cells #[.string f.nm, .slice A2 q cc2, .int .i64 f.su] 78)) w.heap.size ⟨f.nm, f.da, f.su, A2, cc2⟩) := Lib.hid (by
        have h1 := own_far HO2.out (p := ⟨wr.heap.size, 1, none⟩) (by simp) (.slice A2 q cc2)
        have h2 := own_mono (own_below h1 ((Below.refl _ _).alloc (Nat.le_refl _) (.cells #[.string f.nm, .slice A2 q cc2, .int .i64 f.su] 78))) (show w.heap.size ≤ _ by have := HB.out.size; simp; omega)
        unfold OwnD Lf.val
        rw [← HQ.out]
        rw [HQ.out] at h2 ⊢
        exact h2)
      have HRW : Hid (Rd ((w2.setCell ⟨wr.heap.size, 1, none⟩ (.slice A2 q cc2)).alloc (.cells #[.string f.nm, .slice A2 q cc2, .int .i64 f.su] 78)) ((w2.setCell ⟨wr.heap.size, 1, none⟩ (.slice A2 q cc2)).heap.size + 1) (some ⟨(w2.setCell ⟨wr.heap.size, 1, none⟩ (.slice A2 q cc2)).heap.size, 0, none⟩) ([(⟨f.nm, f.da, f.su, A2, cc2⟩ : Lf)].flatMap Lf.cells)) := Lib.hid (by
        have h1 := Rd.lit (w2.setCell ⟨wr.heap.size, 1, none⟩ (.slice A2 q cc2)) #[.string f.nm, .slice A2 q cc2, .int .i64 f.su] 78
        rw [HQ.out] at h1 ⊢
        exact h1)
      rw [heap_set_lt] at HRW
      have APP := Lib.hid (fun ty => appF (ty := ty) HFW.out HYW.out HRW.out (by omega) (show w.heap.size ≤ _ by have := HB.out.size; simp; omega))
      go_wp2_with (at_builtin; (refine wpList_app rfl (.tmp 27) (.tmp 29) _ _ rfl rfl rfl (APP.out _) ?_); rintro v4 w4 ⟨hf4, hg4⟩; have HF4 := Lib.hid hf4; have HB4 := Lib.hid ((HB.out.trans (HBW.out.mono HB.out.size)).grown hg4.grown (by have := HB.out.size; simp; omega) (own_block_ge HFW.out.own)); clear hf4 hg4)
      go_roundw
      case rel => exact ⟨k + 1, l ++ [⟨f.nm, f.da, f.su, A2, cc2⟩], by go_num, by omega, HF4, Lib.hid (by rw [List.map_append, HL.out, List.take_add_one, HFK.out, List.map_append]; rfl), HB4⟩
      case measure => simp [intOf]; omega
    · obtain rfl : k = n := by omega
      go_wp2_with fail
      go_ret
      refine ⟨_, l, rfl, HF.out, ?_, HB.out⟩
      rw [HL.out, HN.out, List.take_length]
theorem filesL (base D : Nat) (g : Dg) (S : Nat → Prop) (w : World) (h : DvL w base D g S) (hk : g.ok) (hf : g.L.length ≤ 100000) : Calls Tryd.prog 34 #[.pointer (some ⟨D, 0, none⟩)] w (FilesOf g.L w) := by
  obtain ⟨d, h1, rfl, e1, e2, e3, e4, e5, rfl⟩ := h
  rw [← e5] at hf ⊢
  rw [List.length_map] at hf
  refine files_any base d w h1 hf (fun f hf => ?_)
  have := hk.big f.lg (by rw [← e5]; exact List.mem_map.2 ⟨f, hf, rfl⟩)
  have h2 : f.da.length ≤ 2147483648 := this
  omega
end Go.Proofs.YtbdiamhhlabojaaDoor
