/- device.Read; a number of an error. -/
import Derived.Test.YtbdiamhhlabojaaDoorUg
namespace Go.Proofs.YtbdiamhhlabojaaDoor
open Go.RowKit
set_option linter.unusedVariables false
set_option linter.unusedSimpArgs false
set_option maxRecDepth 100000

/-- What reading a file hands back. -/
def ReadOf (l : List UInt8) (w : World) (e : Ending) (w' : World) : Prop := ∃ (A : Option Addr) (c : Nat), e = .returned (.tuple #[.slice A l.length c, .bool true]) ∧ w'.ownsRow w.heap.size 5 1 (.slice A l.length c) l.length (l.map B8) ∧ Below w.heap.size w w'
theorem read_none (base : Nat) (d : Dv) (nm : ByteArray) (w : World) (h : DvAt w base d) (hs : SortF d.fs) (hsm : d.fs.length ≤ 1000000) (hh : hitF d.fs nm = false) :
    Calls Tryd.prog 20 #[.pointer (some ⟨d.D, 0, none⟩), .string nm] w fun e w' => e = .returned (.tuple #[.slice none 0 0, .bool false]) ∧ Below w.heap.size w w' := by
  have HD := Lib.hid h
  have HSF := Lib.hid hs
  clear h hs
  go_enter Tryd.func20, Tryd.ntmps20
  go_wp2_with (go_at_call 46; (with_reducible refine (finddev_any base d nm _ HD.out HSF.out hsm).mono ?_); rintro e w1 ⟨rfl, hb1⟩; have HB1 := Lib.hid hb1; have HD1 := Lib.hid (HD.out.below hb1); clear hb1)
  go_ret2
  exact ⟨rfl, HB1.out⟩
theorem read_hit (base : Nat) (d : Dv) (nm : ByteArray) (i : Nat) (f : Lf) (w : World) (h : DvAt w base d) (hs : SortF d.fs) (hsm : d.fs.length ≤ 1000000) (hh : hitF d.fs nm = true) (hi : i = posF d.fs nm) (hf : d.fs[i]? = some f) (hbig : f.da.length ≤ 4294967296) :
    Calls Tryd.prog 20 #[.pointer (some ⟨d.D, 0, none⟩), .string nm] w (ReadOf f.da w) := by
  have HD := Lib.hid h
  have HSF := Lib.hid hs
  have HF := Lib.hid hf
  have HH := Lib.hid hh
  have HI := Lib.hid hi
  have hil := (List.getElem?_eq_some_iff.1 hf).1
  clear h hs hf hh hi
  go_enter Tryd.func20, Tryd.ntmps20
  go_upto_region 6 with (go_at_call 46; (with_reducible refine (finddev_any base d nm _ HD.out HSF.out hsm).mono ?_); rintro e w1 ⟨rfl, hb1⟩; have HB1 := Lib.hid hb1; have HD1 := Lib.hid (HD.out.below hb1); clear hb1; rw [HH.out, ← HI.out])
  obtain ⟨n, hn⟩ : ∃ n, n = d.fs.length := ⟨_, rfl⟩
  obtain ⟨g, hA⟩ : ∃ g, d.A = some ⟨g, 0, none⟩ := by
    obtain ⟨g, hA, _⟩ := own_parts HD1.out.own (by omega)
    exact ⟨g, hA⟩
  have c2 := HD1.out.c2
  rw [hA, ← hn] at c2
  have hr := Rd.of_own HD1.out.own
  rw [hA] at hr
  obtain ⟨a, ha, hab, x0, x1, x2⟩ := file_cells hr HF.out _ rfl
  injection ha with ha
  subst ha
  rw [Addr.add_lit, Nat.zero_add] at x0 x1 x2
  have hfm : f ∈ d.fs := List.mem_of_getElem? HF.out
  have hfr : Rd w1 w1.heap.size f.A (f.da.map B8) := Rd.of_own (HD1.out.each f hfm)
  have CL := Lib.hid (clone_calls f.A f.da f.c w1.heap.size w1 hfr (Nat.le_refl _) hbig)
  have i0 : (0 : Int) ≤ (i : Int) := by omega
  have i1 : (i : Int) < (n : Int) := by omega
  have HN := Lib.hid hn
  clear hn hr hfr hfm hil hA
  obtain ⟨q, hq⟩ : ∃ q, q = f.da.length := ⟨_, rfl⟩
  rw [← hq] at x1 CL
  have HQ := Lib.hid hq
  clear hq
  go_wp2_with (go_at_call 47; (with_reducible refine CL.out.mono ?_); rintro e w2 ⟨v2, rfl, ho2, hg2⟩; obtain ⟨A2, cc2, rfl, _, _⟩ := own_rd ho2; have HO2 := Lib.hid ho2; have HB2 := Lib.hid hg2.new; clear ho2 hg2)
  go_ret2
  unfold ReadOf
  rw [← HQ.out]
  exact ⟨A2, cc2, rfl, own_mono HO2.out HB1.out.size, HB1.out.trans (HB2.out.mono HB1.out.size)⟩
end Go.Proofs.YtbdiamhhlabojaaDoor
