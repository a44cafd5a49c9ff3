/- The document's writer of batches: RightSpans, Sealed, BatchBytes. -/
import Derived.Test.YtchcjbapbdfhkaaDb
import Derived.Test.YtchcjbapbdfhkaaCr
import Derived.Test.YtchcjbapbdfhkaaTb
import Derived.Test.YtchcjbapbdfhkaaRr
namespace Go.Proofs.Ytchcjbapbdfhkaa
open Go.RowKit
set_option linter.unusedVariables false
set_option maxRecDepth 100000

theorem addspan_int (x0 x1 x2 x3 : Int) (x4 x5 : ByteArray) (x6 x7 : Int) (x8 : Bool) (ats : List (ByteArray × ByteArray)) (xA : Option Addr) (xc n B base : Nat) (v : Value) (L : List UInt8) (w : World) (hn : n = ats.length) (hy : RdL w B ⟨⟨x0, x1, x2, x3, x4, x5, x6, x7, x8, ats⟩, xA, xc⟩) (hB : B ≤ w.heap.size) (hBb : B ≤ base) (hown : w.ownsRow base 5 1 v L.length (L.map B8)) (hbase : base ≤ w.heap.size) (hl : L.length ≤ 1000000000) (hr : right ⟨x0, x1, x2, x3, x4, x5, x6, x7, x8, ats⟩ = true) :
    Calls Try.prog 98 #[v, .agg #[.int .u64 x0, .int .u64 x1, .int .u64 x2, .int .u64 x3, .string x4, .string x5, .int .i64 x6, .int .i64 x7, .bool x8, .slice xA n xc]] w fun e w' => ∃ v', e = .returned v' ∧ w'.ownsRow base 5 1 v' (L ++ enc ⟨x0, x1, x2, x3, x4, x5, x6, x7, x8, ats⟩).length ((L ++ enc ⟨x0, x1, x2, x3, x4, x5, x6, x7, x8, ats⟩).map B8) ∧ Below base w w' := by
  have hs := sp_nat hy.ok hr
  simp only [Sp.mk.injEq] at hs
  obtain ⟨e0, e1, e2, e3, _, _, e6, e7, _, _⟩ := hs
  generalize x0.toNat = n0 at e0
  generalize x1.toNat = n1 at e1
  generalize x2.toNat = n2 at e2
  generalize x3.toNat = n3 at e3
  generalize x6.toNat = n6 at e6
  generalize x7.toNat = n7 at e7
  subst e0 e1 e2 e3 e6 e7
  exact addspan_any n0 n1 n2 n3 x4 x5 n6 n7 x8 ats xA xc n B base v L w hn hy hB hBb hown hbase hl hr
theorem rsumQ (A : Option Addr) (l : List UInt8) (n c B : Nat) (w : World) (hn : n = l.length) (hb : Rd w B A (l.map B8)) (hl : l.length ≤ 140737488355328) :
    Calls Try.prog 90 #[.slice A n c] w fun e w' => e = .returned (.int .u32 (Cm.sum l : Nat)) ∧ w = w' := by
  subst hn; exact rsum_calls A l c B w hb hl
set_option maxHeartbeats 8000000 in
theorem sealed_any (A : Option Addr) (l : List UInt8) (n c B : Nat) (w : World) (hn : n = l.length) (hb : Rd w B A (l.map B8)) (hB : B ≤ w.heap.size) (hnc : n ≤ c) (hl : n ≤ 100000000) :
    Calls Try.prog 69 #[.slice A n c] w (BytesOf (l ++ Cm.le4 (Cm.sum l)) w) := by
  have HRD := Lib.hid hb
  have HN := Lib.hid hn
  have HL := Lib.hid hl
  have A1 := Lib.hid (fun ty => appB (ty := ty) (c := c) (own_nil w w.heap.size) hb (by simp; omega) (Nat.le_refl _))
  rw [← hn] at A1
  have HE := Lib.hid hnc
  clear hn hb hnc hl
  go_enter Try.func69, Try.ntmps69
  go_wp2_with (at_builtin; (refine wpList_app rfl (.const (.slice none 0 0)) (.tmp 3) _ _ rfl rfl rfl (A1.out _) ?_); rintro v2 w2 ⟨ho2, hg2⟩; rw [List.nil_append] at ho2; have HO2 := Lib.hid ho2; have HG2 := Lib.hid hg2.new; clear ho2 hg2)
  have HR2 := Lib.hid (HRD.out.below (HG2.out.mono hB))
  have CS := Lib.hid (rsumQ A l n c B w2 HN.out HR2.out (by have := HL.out; have := HN.out; omega))
  refine CS.out.mono ?_
  rintro e w3 ⟨rfl, rfl⟩
  clear CS A1
  have hcl := Cm.sum_lt l
  have CF := Lib.hid (four_calls (Cm.sum l) w2 hcl)
  clear hcl
  go_wp2_with fail
  refine CF.out.mono ?_
  rintro e w3 ⟨v3, rfl, ho3, hg3⟩
  have HB3 := Lib.hid hg3.new
  obtain ⟨A3, c3, rfl, hc3, hr3⟩ := own_rd ho3
  obtain ⟨A2, c2, rfl, _, _⟩ := own_rd HO2.out
  have HO3 := Lib.hid (own_below HO2.out HB3.out)
  have A2' := Lib.hid (fun ty => appB (ty := ty) (c := c3) HO3.out hr3 (by have := HL.out; have := HN.out; have : (Cm.le4 (Cm.sum l)).length = 4 := rfl; omega) (Nat.le_trans HG2.out.size HB3.out.size))
  have h4 : (Cm.le4 (Cm.sum l)).length = 4 := rfl
  rw [h4] at A2'
  clear ho3 hg3 CF hr3 hc3 h4
  generalize hq : l.length = q at *
  go_wp2_with (at_builtin; (refine wpList_app rfl (.tmp 4) (.tmp 7) _ _ rfl rfl rfl (A2'.out _) ?_); rintro v4 w4 ⟨ho4, hg4⟩; have HO4 := Lib.hid ho4; have HG4 := Lib.hid hg4; clear ho4 hg4)
  go_ret
  refine ⟨_, rfl, HO4.out, ?_⟩
  exact HG4.out.below (HG2.out.trans (HB3.out.mono HG2.out.size)) (Nat.le_trans HG2.out.size HB3.out.size) (own_block_ge HO3.out)
end Go.Proofs.Ytchcjbapbdfhkaa
