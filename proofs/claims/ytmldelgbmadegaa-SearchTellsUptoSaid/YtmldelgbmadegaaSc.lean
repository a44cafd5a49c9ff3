/- Copies of spans. -/
import Derived.Test.YtmldelgbmadegaaSo
import Derived.OwnWalk
namespace Go.Proofs.Ytmldelgbmadegaa
open Go.RowKit
set_option linter.unusedVariables false
set_option maxRecDepth 100000

/-- What a copy is, its cells written out. -/
def CopyX (x0 x1 x2 x3 : Int) (x4 x5 : ByteArray) (x6 x7 : Int) (x8 : Bool) (ats : List (ByteArray × ByteArray)) (n : Nat) (w : World) (e : Ending) (w' : World) : Prop :=
  ∃ (A : Option Addr) (c : Nat), e = .returned (.agg #[.int .u64 x0, .int .u64 x1, .int .u64 x2, .int .u64 x3, .string x4, .string x5, .int .i64 x6, .int .i64 x7, .bool x8, .slice A n c]) ∧ OwnL w' w.heap.size ⟨⟨x0, x1, x2, x3, x4, x5, x6, x7, x8, ats⟩, A, c⟩ ∧ Below w.heap.size w w'
theorem copy_lit (x0 x1 x2 x3 : Int) (x4 x5 : ByteArray) (x6 x7 : Int) (x8 : Bool) (ats : List (ByteArray × ByteArray)) (aA : Option Addr) (ac n B : Nat) (w : World) (hn : n = ats.length) (hy : RdL w B ⟨⟨x0, x1, x2, x3, x4, x5, x6, x7, x8, ats⟩, aA, ac⟩) (hB : B ≤ w.heap.size) (hl : n ≤ 100000) :
    Calls Try.prog 127 #[.agg #[.int .u64 x0, .int .u64 x1, .int .u64 x2, .int .u64 x3, .string x4, .string x5, .int .i64 x6, .int .i64 x7, .bool x8, .slice aA n ac]] w (CopyX x0 x1 x2 x3 x4 x5 x6 x7 x8 ats n w) := by
  subst hn
  exact (copy_any ⟨⟨x0, x1, x2, x3, x4, x5, x6, x7, x8, ats⟩, aA, ac⟩ B w hy hB hl).mono fun e w' ⟨A, c, he, ho, hb⟩ => ⟨A, c, he, ho, hb⟩

/-- What copies of spans are. -/
def CopiesOf (l : List Sp) (w : World) (e : Ending) (w' : World) : Prop := ∃ (v : Value) (l' : List Ls), e = .returned v ∧ OwnSps w' w.heap.size v l' ∧ l'.map Ls.s = l ∧ Below w.heap.size w w'
theorem grown_below {w w' : World} (h : w.grownBy w' none) : Below w.heap.size w w' := ⟨h.os, h.tape, h.output, h.size, fun i hi => h.block i hi (by simp)⟩
theorem Ls.lit_cells (x0 x1 x2 x3 : Int) (x4 x5 : ByteArray) (x6 x7 : Int) (x8 : Bool) (ats : List (ByteArray × ByteArray)) (A : Option Addr) (c n : Nat) (hn : n = ats.length) : (Ls.mk ⟨x0, x1, x2, x3, x4, x5, x6, x7, x8, ats⟩ A c).cells = [.int .u64 x0, .int .u64 x1, .int .u64 x2, .int .u64 x3, .string x4, .string x5, .int .i64 x6, .int .i64 x7, .bool x8, .slice A n c] := by subst hn; rfl

set_option maxHeartbeats 8000000 in
theorem copies_any (A : Option Addr) (l : List Ls) (n c B : Nat) (w : World) (hn : n = l.length) (hy : RdSps w B A l) (hB : B ≤ w.heap.size) (hl : n ≤ 100000) (ha : ∀ x ∈ l, x.s.ats.length ≤ 100000) :
    Calls Try.prog 107 #[.slice A n c] w (CopiesOf (l.map Ls.s) w) := by
  obtain ⟨i0, hi, hz0, hz1, hz2⟩ := info_parts infoSp
  have HN := Lib.hid hn
  have HY := Lib.hid hy
  have HA := Lib.hid ha
  have ML : maxLen = 9223372036854775807 := by decide
  have hbyt : i0.bytes * n ≤ 281474976710656 := by rw [hz2]; omega
  have hml : n ≤ maxLen := by rw [ML]; omega
  have HI := Lib.hid (And.intro hi (And.intro hz0 (And.intro hz1 (And.intro hbyt hml))))
  clear hn hy ha hi hz0 hz1 hz2 hbyt hml ML
  go_enter Try.func107, Try.ntmps107
  go_wp2_with (at_make; refine wpList_make_own _ rfl _ _ 46 rfl w.heap.size 71 i0 _ 10 Try.underlying46 HI.out.1 HI.out.2.1 HI.out.2.2.1 .i64 .i64 _ n rfl rfl rfl HI.out.2.2.2.1 HI.out.2.2.2.2 (Nat.le_refl _) ?_; intro w0 hown0 hgrow0)
  have HB0 := Lib.hid (grown_below hgrow0)
  have HO0 : Hid (OwnSps w0 w.heap.size (.slice (some ⟨w.heap.size, 0, none⟩) 0 n) []) := Lib.hid ⟨hown0, fun _ h => by cases h⟩
  clear hown0 hgrow0 HI
  go_loopw [3, 11] (fun v i wr => ∃ (k : Nat) (l' : List Ls), i = .int .i64 k ∧ k ≤ n ∧ Hid (OwnSps wr w.heap.size v l' ∧ l'.map Ls.s = (l.take k).map Ls.s) ∧ Hid (Below w.heap.size w wr)) (fun _ i _ => n - (intOf i).toNat)
  case atStart => exact ⟨0, [], rfl, Nat.zero_le _, Lib.hid ⟨HO0.out, rfl⟩, HB0⟩
  case round =>
    obtain ⟨k, l', rfl, hk, HO, HB⟩ := hrel
    by_cases hlt : k < n
    · obtain ⟨x, hx⟩ : ∃ x, l[k]? = some x := ⟨_, List.getElem?_eq_getElem (by rw [← HN.out]; exact hlt)⟩
      have HR : Hid (RdSps wr B A l) := Lib.hid (HY.out.below (HB.out.mono hB))
      have hBr : B ≤ wr.heap.size := Nat.le_trans hB HB.out.size
      obtain ⟨a, ha, hab, hc, hl2⟩ := HR.out.at_ hx
      subst ha
      have hln : x.s.ats.length ≤ 100000 := HA.out x (List.mem_of_getElem? hx)
      obtain ⟨⟨x0, x1, x2, x3, x4, x5, x6, x7, x8, ats⟩, xA, xc⟩ := x
      obtain ⟨m, hm⟩ : ∃ m, m = ats.length := ⟨_, rfl⟩
      simp only at hln
      rw [← hm] at hln
      have c0 := hc 0 _ rfl
      have c1 := cell_far (hc 1 _ rfl) (by omega)
      have c2 := cell_far (hc 2 _ rfl) (by omega)
      have c3 := cell_far (hc 3 _ rfl) (by omega)
      have c4 := cell_far (hc 4 _ rfl) (by omega)
      have c5 := cell_far (hc 5 _ rfl) (by omega)
      have c6 := cell_far (hc 6 _ rfl) (by omega)
      have c7 := cell_far (hc 7 _ rfl) (by omega)
      have c8 := cell_far (hc 8 _ rfl) (by omega)
      have c9 : wr.cell? ⟨(a.add (k * 10)).block, (a.add (k * 10)).off + 9, none⟩ = some (.slice xA m xc) := by rw [hm]; exact cell_far (hc 9 _ rfl) (by omega)
      simp only [Nat.add_zero] at c0
      have hll : l'.length ≤ 1000000 := by
        have h1 := congrArg List.length HO.out.2
        simp only [List.length_map, List.length_take] at h1
        have := HN.out
        omega
      have HX := Lib.hid hx
      have HM := Lib.hid hm
      have HL2 := Lib.hid hl2
      have CP := Lib.hid (copy_lit x0 x1 x2 x3 x4 x5 x6 x7 x8 ats xA xc m B (wr.alloc (.cells #[.int .u64 x0, .int .u64 x1, .int .u64 x2, .int .u64 x3, .string x4, .string x5, .int .i64 x6, .int .i64 x7, .bool x8, .slice xA m xc] 71)) hm (hl2.below ((Below.refl _ _).alloc hBr _)) (Nat.le_trans hBr (by simp)) hln)
      have hab2 : (a.add (k * 10)).block < wr.heap.size := by rw [block_add]; omega
      have hsz : (wr.alloc (.cells #[.int .u64 x0, .int .u64 x1, .int .u64 x2, .int .u64 x3, .string x4, .string x5, .int .i64 x6, .int .i64 x7, .bool x8, .slice xA m xc] 71)).heap.size = wr.heap.size + 1 := by simp
      have HSZ := Lib.hid hsz
      have HBA : Hid (Below wr.heap.size wr (wr.alloc (.cells #[.int .u64 x0, .int .u64 x1, .int .u64 x2, .int .u64 x3, .string x4, .string x5, .int .i64 x6, .int .i64 x7, .bool x8, .slice xA m xc] 71))) := Lib.hid ((Below.refl _ _).alloc (Nat.le_refl _) _)
      clear hc hl2 hx hm hsz
      go_wp2_with (first
        | (go_at_call 127; (with_reducible refine (CP.out).mono ?_); rintro e w2 ⟨A2, c2, rfl, ho2, hb2⟩; have HO2 := Lib.hid ho2; have HB2 := Lib.hid (HBA.out.trans (hb2.mono (by rw [HSZ.out]; exact Nat.le_succ _))); clear ho2 hb2)
        | (at_builtin; go_loud (refine wpList_app rfl (.tmp 15) (.tmp 18) _ _ rfl rfl rfl (appSp (x := ⟨⟨x0, x1, x2, x3, x4, x5, x6, x7, x8, ats⟩, A2, c2⟩) (HO.out.1.below (HB2.out.trans ((Below.refl _ _).alloc HB2.out.size _))) ((HO2.out.mono (by rw [HSZ.out]; exact Nat.le_trans HB.out.size (Nat.le_succ _))).below ((Below.refl _ _).alloc (Nat.le_refl _) _)) (B := w2.heap.size + 1) (by rw [Ls.lit_cells _ _ _ _ _ _ _ _ _ _ _ _ m HM.out]; exact Rd.lit w2 _ _) hll (Nat.le_trans HB.out.size (Nat.le_trans HB2.out.size (by simp)))) ?_; rintro v3 w3 ⟨ho3, hg3⟩; have HO3 := Lib.hid ho3; have HG3 := Lib.hid hg3; clear ho3 hg3)))
      go_roundw
      case rel =>
        refine ⟨k + 1, l' ++ [⟨⟨x0, x1, x2, x3, x4, x5, x6, x7, x8, ats⟩, A2, c2⟩], by go_num, by omega, Lib.hid ⟨HO3.out, ?_⟩, Lib.hid ?_⟩
        · rw [List.map_append, HO.out.2, List.take_add_one, HX.out]
          simp
        · exact HG3.out.below (HB.out.trans ((HB2.out.mono HB.out.size).trans ((Below.refl _ _).alloc (Nat.le_trans HB.out.size HB2.out.size) _))) (Nat.le_trans HB.out.size (Nat.le_trans HB2.out.size (by simp))) (own_block_ge HO.out.1.own)
      case measure => simp [intOf]; omega
    · obtain rfl : k = n := by omega
      go_wp2_with fail
      go_ret
      refine ⟨_, l', rfl, HO.out.1, ?_, HB.out⟩
      have h := HO.out.2
      rwa [List.take_of_length_le (by rw [← HN.out]; exact Nat.le_refl _)] at h
end Go.Proofs.Ytmldelgbmadegaa
