/- The hash of a trace: sixteen bytes, their sum, and the part that it is in. -/
import Derived.Test.YtenioeppmgmdiaaBs
import Derived.Test.YtenioeppmgmdiaaCk
import Derived.Deep.RegionHeld3
import Derived.BigQuiet
import Derived.IntWalk
namespace Go.Proofs.Ytenioeppmgmdiaa
open Go.RowKit
set_option linter.unusedVariables false

theorem infoB : (Try.prog.info? 5).map (fun i => (i.zero, i.size, i.bytes)) = some (some (.int .u8 0), 1, 1) := by kernel_rfl
/-- A number's eight bytes, the highest first. -/
def wd (n : Nat) : List UInt8 := [UInt8.ofNat (n / 72057594037927936), UInt8.ofNat (n / 281474976710656), UInt8.ofNat (n / 1099511627776), UInt8.ofNat (n / 4294967296), UInt8.ofNat (n / 16777216), UInt8.ofNat (n / 65536), UInt8.ofNat (n / 256), UInt8.ofNat (n / 1)]
/-- The part that a trace is in. -/
def hsh (hi lo : Nat) : Nat := Cm.sum (wd hi ++ wd lo) % 1000
theorem byte_is (m : Nat) (x : Int) (h : x = ((m % 256 : Nat) : Int)) : Value.int .u8 x = B8 (UInt8.ofNat m) := by
  rw [h, B8]
  congr 1

set_option maxHeartbeats 4000000 in
set_option maxRecDepth 100000 in
theorem wide_calls (base : Nat) (v : Value) (l : List UInt8) (n : Nat) (w : World) (hown : w.ownsRow base 5 1 v l.length (l.map B8)) (hbase : base ≤ w.heap.size) (hl : l.length ≤ 1000) (hn : n < 18446744073709551616) :
    Calls Try.prog 30 #[v, .int .u64 n] w fun e w' => ∃ v', e = .returned v' ∧ w'.ownsRow base 5 1 v' (l ++ wd n).length ((l ++ wd n).map B8) ∧ Grew w w' v v' := by
  obtain ⟨i0, hi, hz0, hz1, hz2⟩ := info_parts infoB
  have HI := Lib.hid (And.intro hi (And.intro hz0 (And.intro hz1 hz2)))
  clear hi hz0 hz1 hz2
  have n0 : (0 : Int) ≤ (n : Int) := by omega
  go_enter Try.func30, Try.ntmps30
  go_wp2_with fail
  go_loopw [0, 5] (fun b s wr => ∃ k : Nat, s = .int .i64 (56 - 8 * (k : Int)) ∧ k ≤ 8 ∧ Hid (wr.ownsRow base 5 1 b (l ++ (wd n).take k).length ((l ++ (wd n).take k).map B8)) ∧ Hid (Grew w wr v b)) (fun _ s _ => (intOf s + 8).toNat)
  case atStart => exact ⟨0, rfl, by omega, Lib.hid (by simpa using hown), Lib.hid (Grew.refl _ _)⟩
  case round =>
    obtain ⟨k, rfl, hk, HO, HG⟩ := hrel
    have hbw : base ≤ wr.heap.size := Nat.le_trans hbase HG.out.grown.size
    have hk9 : k = 0 ∨ k = 1 ∨ k = 2 ∨ k = 3 ∨ k = 4 ∨ k = 5 ∨ k = 6 ∨ k = 7 ∨ k = 8 := by omega
    clear hk hown
    rcases hk9 with rfl | rfl | rfl | rfl | rfl | rfl | rfl | rfl | rfl
    · have HI2 := HI.out
      obtain ⟨hi, hz0, hz1, hz2⟩ := HI2
      go_wp2_with (at_builtin; refine wpList_app rfl (.tmp 10) (.tmp 15) _ _ rfl rfl rfl (run_append_rd _ base _ _ 5 i0 _ 1 1 Try.underlying57 hi hz0 hz1 hz2 rfl u0 _ _ (HO.out.alloc _) (wr.heap.size + 1) (some ⟨wr.heap.size, 0, none⟩) 1 1 [_] rfl (Rd.one wr _ _) (by simp [Value.oneCell']) (by simp [wd]; unfold maxLen; omega) (by simp [wd]; omega) (by simp; omega)) ?_; rintro v1 w1 ⟨ho1, hg1⟩; have HO1 := Lib.hid ho1; have HG1 := Lib.hid (HG.out.trans hg1.alloc); clear ho1 hg1)
      go_roundw
      case rel =>
        refine ⟨1, by simp, by omega, ?_, HG1⟩
        have h := HO1.out
        rw [byte_is (n / 72057594037927936) _ (by omega)] at h
        have e : (l ++ (wd n).take 1).map B8 = (l ++ (wd n).take 0).map B8 ++ [B8 (UInt8.ofNat (n / 72057594037927936))] := by simp [wd]
        have e2 : (l ++ (wd n).take 1).length = (l ++ (wd n).take 0).length + 1 := by simp [wd]; try omega
        rw [e, e2]
        exact Lib.hid h
      case measure => simp [intOf]
    · have HI2 := HI.out
      obtain ⟨hi, hz0, hz1, hz2⟩ := HI2
      go_wp2_with (at_builtin; refine wpList_app rfl (.tmp 10) (.tmp 15) _ _ rfl rfl rfl (run_append_rd _ base _ _ 5 i0 _ 1 1 Try.underlying57 hi hz0 hz1 hz2 rfl u0 _ _ (HO.out.alloc _) (wr.heap.size + 1) (some ⟨wr.heap.size, 0, none⟩) 1 1 [_] rfl (Rd.one wr _ _) (by simp [Value.oneCell']) (by simp [wd]; unfold maxLen; omega) (by simp [wd]; omega) (by simp; omega)) ?_; rintro v1 w1 ⟨ho1, hg1⟩; have HO1 := Lib.hid ho1; have HG1 := Lib.hid (HG.out.trans hg1.alloc); clear ho1 hg1)
      go_roundw
      case rel =>
        refine ⟨2, by simp, by omega, ?_, HG1⟩
        have h := HO1.out
        rw [byte_is (n / 281474976710656) _ (by omega)] at h
        have e : (l ++ (wd n).take 2).map B8 = (l ++ (wd n).take 1).map B8 ++ [B8 (UInt8.ofNat (n / 281474976710656))] := by simp [wd]
        have e2 : (l ++ (wd n).take 2).length = (l ++ (wd n).take 1).length + 1 := by simp [wd]; try omega
        rw [e, e2]
        exact Lib.hid h
      case measure => simp [intOf]
    · have HI2 := HI.out
      obtain ⟨hi, hz0, hz1, hz2⟩ := HI2
      go_wp2_with (at_builtin; refine wpList_app rfl (.tmp 10) (.tmp 15) _ _ rfl rfl rfl (run_append_rd _ base _ _ 5 i0 _ 1 1 Try.underlying57 hi hz0 hz1 hz2 rfl u0 _ _ (HO.out.alloc _) (wr.heap.size + 1) (some ⟨wr.heap.size, 0, none⟩) 1 1 [_] rfl (Rd.one wr _ _) (by simp [Value.oneCell']) (by simp [wd]; unfold maxLen; omega) (by simp [wd]; omega) (by simp; omega)) ?_; rintro v1 w1 ⟨ho1, hg1⟩; have HO1 := Lib.hid ho1; have HG1 := Lib.hid (HG.out.trans hg1.alloc); clear ho1 hg1)
      go_roundw
      case rel =>
        refine ⟨3, by simp, by omega, ?_, HG1⟩
        have h := HO1.out
        rw [byte_is (n / 1099511627776) _ (by omega)] at h
        have e : (l ++ (wd n).take 3).map B8 = (l ++ (wd n).take 2).map B8 ++ [B8 (UInt8.ofNat (n / 1099511627776))] := by simp [wd]
        have e2 : (l ++ (wd n).take 3).length = (l ++ (wd n).take 2).length + 1 := by simp [wd]; try omega
        rw [e, e2]
        exact Lib.hid h
      case measure => simp [intOf]
    · have HI2 := HI.out
      obtain ⟨hi, hz0, hz1, hz2⟩ := HI2
      go_wp2_with (at_builtin; refine wpList_app rfl (.tmp 10) (.tmp 15) _ _ rfl rfl rfl (run_append_rd _ base _ _ 5 i0 _ 1 1 Try.underlying57 hi hz0 hz1 hz2 rfl u0 _ _ (HO.out.alloc _) (wr.heap.size + 1) (some ⟨wr.heap.size, 0, none⟩) 1 1 [_] rfl (Rd.one wr _ _) (by simp [Value.oneCell']) (by simp [wd]; unfold maxLen; omega) (by simp [wd]; omega) (by simp; omega)) ?_; rintro v1 w1 ⟨ho1, hg1⟩; have HO1 := Lib.hid ho1; have HG1 := Lib.hid (HG.out.trans hg1.alloc); clear ho1 hg1)
      go_roundw
      case rel =>
        refine ⟨4, by simp, by omega, ?_, HG1⟩
        have h := HO1.out
        rw [byte_is (n / 4294967296) _ (by omega)] at h
        have e : (l ++ (wd n).take 4).map B8 = (l ++ (wd n).take 3).map B8 ++ [B8 (UInt8.ofNat (n / 4294967296))] := by simp [wd]
        have e2 : (l ++ (wd n).take 4).length = (l ++ (wd n).take 3).length + 1 := by simp [wd]; try omega
        rw [e, e2]
        exact Lib.hid h
      case measure => simp [intOf]
    · have HI2 := HI.out
      obtain ⟨hi, hz0, hz1, hz2⟩ := HI2
      go_wp2_with (at_builtin; refine wpList_app rfl (.tmp 10) (.tmp 15) _ _ rfl rfl rfl (run_append_rd _ base _ _ 5 i0 _ 1 1 Try.underlying57 hi hz0 hz1 hz2 rfl u0 _ _ (HO.out.alloc _) (wr.heap.size + 1) (some ⟨wr.heap.size, 0, none⟩) 1 1 [_] rfl (Rd.one wr _ _) (by simp [Value.oneCell']) (by simp [wd]; unfold maxLen; omega) (by simp [wd]; omega) (by simp; omega)) ?_; rintro v1 w1 ⟨ho1, hg1⟩; have HO1 := Lib.hid ho1; have HG1 := Lib.hid (HG.out.trans hg1.alloc); clear ho1 hg1)
      go_roundw
      case rel =>
        refine ⟨5, by simp, by omega, ?_, HG1⟩
        have h := HO1.out
        rw [byte_is (n / 16777216) _ (by omega)] at h
        have e : (l ++ (wd n).take 5).map B8 = (l ++ (wd n).take 4).map B8 ++ [B8 (UInt8.ofNat (n / 16777216))] := by simp [wd]
        have e2 : (l ++ (wd n).take 5).length = (l ++ (wd n).take 4).length + 1 := by simp [wd]; try omega
        rw [e, e2]
        exact Lib.hid h
      case measure => simp [intOf]
    · have HI2 := HI.out
      obtain ⟨hi, hz0, hz1, hz2⟩ := HI2
      go_wp2_with (at_builtin; refine wpList_app rfl (.tmp 10) (.tmp 15) _ _ rfl rfl rfl (run_append_rd _ base _ _ 5 i0 _ 1 1 Try.underlying57 hi hz0 hz1 hz2 rfl u0 _ _ (HO.out.alloc _) (wr.heap.size + 1) (some ⟨wr.heap.size, 0, none⟩) 1 1 [_] rfl (Rd.one wr _ _) (by simp [Value.oneCell']) (by simp [wd]; unfold maxLen; omega) (by simp [wd]; omega) (by simp; omega)) ?_; rintro v1 w1 ⟨ho1, hg1⟩; have HO1 := Lib.hid ho1; have HG1 := Lib.hid (HG.out.trans hg1.alloc); clear ho1 hg1)
      go_roundw
      case rel =>
        refine ⟨6, by simp, by omega, ?_, HG1⟩
        have h := HO1.out
        rw [byte_is (n / 65536) _ (by omega)] at h
        have e : (l ++ (wd n).take 6).map B8 = (l ++ (wd n).take 5).map B8 ++ [B8 (UInt8.ofNat (n / 65536))] := by simp [wd]
        have e2 : (l ++ (wd n).take 6).length = (l ++ (wd n).take 5).length + 1 := by simp [wd]; try omega
        rw [e, e2]
        exact Lib.hid h
      case measure => simp [intOf]
    · have HI2 := HI.out
      obtain ⟨hi, hz0, hz1, hz2⟩ := HI2
      go_wp2_with (at_builtin; refine wpList_app rfl (.tmp 10) (.tmp 15) _ _ rfl rfl rfl (run_append_rd _ base _ _ 5 i0 _ 1 1 Try.underlying57 hi hz0 hz1 hz2 rfl u0 _ _ (HO.out.alloc _) (wr.heap.size + 1) (some ⟨wr.heap.size, 0, none⟩) 1 1 [_] rfl (Rd.one wr _ _) (by simp [Value.oneCell']) (by simp [wd]; unfold maxLen; omega) (by simp [wd]; omega) (by simp; omega)) ?_; rintro v1 w1 ⟨ho1, hg1⟩; have HO1 := Lib.hid ho1; have HG1 := Lib.hid (HG.out.trans hg1.alloc); clear ho1 hg1)
      go_roundw
      case rel =>
        refine ⟨7, by simp, by omega, ?_, HG1⟩
        have h := HO1.out
        rw [byte_is (n / 256) _ (by omega)] at h
        have e : (l ++ (wd n).take 7).map B8 = (l ++ (wd n).take 6).map B8 ++ [B8 (UInt8.ofNat (n / 256))] := by simp [wd]
        have e2 : (l ++ (wd n).take 7).length = (l ++ (wd n).take 6).length + 1 := by simp [wd]; try omega
        rw [e, e2]
        exact Lib.hid h
      case measure => simp [intOf]
    · have HI2 := HI.out
      obtain ⟨hi, hz0, hz1, hz2⟩ := HI2
      go_wp2_with (at_builtin; refine wpList_app rfl (.tmp 10) (.tmp 15) _ _ rfl rfl rfl (run_append_rd _ base _ _ 5 i0 _ 1 1 Try.underlying57 hi hz0 hz1 hz2 rfl u0 _ _ (HO.out.alloc _) (wr.heap.size + 1) (some ⟨wr.heap.size, 0, none⟩) 1 1 [_] rfl (Rd.one wr _ _) (by simp [Value.oneCell']) (by simp [wd]; unfold maxLen; omega) (by simp [wd]; omega) (by simp; omega)) ?_; rintro v1 w1 ⟨ho1, hg1⟩; have HO1 := Lib.hid ho1; have HG1 := Lib.hid (HG.out.trans hg1.alloc); clear ho1 hg1)
      go_roundw
      case rel =>
        refine ⟨8, by simp, by omega, ?_, HG1⟩
        have h := HO1.out
        rw [byte_is (n / 1) _ (by omega)] at h
        have e : (l ++ (wd n).take 8).map B8 = (l ++ (wd n).take 7).map B8 ++ [B8 (UInt8.ofNat (n / 1))] := by simp [wd]
        have e2 : (l ++ (wd n).take 8).length = (l ++ (wd n).take 7).length + 1 := by simp [wd]; try omega
        rw [e, e2]
        exact Lib.hid h
      case measure => simp [intOf]
    · go_wp2_with fail
      go_ret
      exact ⟨_, rfl, HO.out, HG.out⟩

/-- What holds all through the hash's first statement. -/
def HKeep (B : Nat) (W w : World) (hi lo : Int) : Prop := Hid (Below B W w) ∧ w.cell? ⟨B - 1, 0, none⟩ = some (.int .u64 hi) ∧ w.cell? ⟨B - 1, 1, none⟩ = some (.int .u64 lo)

set_option maxHeartbeats 4000000 in
set_option maxRecDepth 100000 in
theorem hash_any (hi lo : Nat) (w : World) (h1 : hi < 18446744073709551616) (h2 : lo < 18446744073709551616) :
    Calls Try.prog 11 #[.agg #[.int .u64 hi, .int .u64 lo]] w fun e w' => e = .returned (.int .i64 (hsh hi lo : Nat)) ∧ Below w.heap.size w w' := by
  have W1 := fun W => Lib.hid (wide_calls (w.heap.size + 1) (.slice none 0 0) [] hi W (World.ownsRow_nil _ _ _ _))
  have W2 := fun v W => Lib.hid (wide_calls (w.heap.size + 1) v (wd hi) lo W)
  have hwl : ∀ n, (wd n).length = 8 := fun n => rfl
  have HWL := Lib.hid hwl
  have HS : Hid (hsh hi lo = Cm.sum (wd hi ++ wd lo) % 1000) := rfl
  have SL := Lib.hid (Cm.sum_lt (wd hi ++ wd lo))
  clear hwl
  generalize hsh hi lo = hh at *
  have c0 : (w.alloc (.cells #[.int .u64 hi, .int .u64 lo] 27)).cell? ⟨w.heap.size, 0, none⟩ = some (.int .u64 hi) := cell_of_row _ _ 0 _ _ (0, 0) (heap_alloc_new w _)
  have c1 : (w.alloc (.cells #[.int .u64 hi, .int .u64 lo] 27)).cell? ⟨w.heap.size, 1, none⟩ = some (.int .u64 lo) := cell_of_row _ _ 1 _ _ (0, 0) (heap_alloc_new w _)
  go_enter Try.func11, Try.ntmps11
  go_wp2_with fail
  have hz : (w.alloc (.cells #[.int .u64 hi, .int .u64 lo] 27)).heap.size = w.heap.size + 1 := by simp
  have hB : Below w.heap.size w (w.alloc (.cells #[.int .u64 hi, .int .u64 lo] 27)) := (Below.refl _ _).alloc (Nat.le_refl _) _
  generalize w.alloc (.cells #[.int .u64 hi, .int .u64 lo] 27) = W at *
  generalize hB0 : w.heap.size = B at *
  have HB0 := Lib.hid hB0
  have HZ := Lib.hid hz
  have HB := Lib.hid hB
  clear hB0 hz hB
  have hS : Hid (Below (B + 1) W W.drew) ∧ W.drew.cell? ⟨B, 0, none⟩ = some (.int .u64 (hi : Int)) ∧ W.drew.cell? ⟨B, 1, none⟩ = some (.int .u64 (lo : Int)) := ⟨Lib.hid ⟨rfl, rfl, rfl, Nat.le_refl _, fun _ _ => rfl⟩, c0, c1⟩
  clear c0 c1
  have KS : Hid (∀ w1 w2, (Hid (Below (B + 1) W w1) ∧ w1.cell? ⟨B, 0, none⟩ = some (.int .u64 (hi : Int)) ∧ w1.cell? ⟨B, 1, none⟩ = some (.int .u64 (lo : Int))) → Below (B + 1) w1 w2 → (Hid (Below (B + 1) W w2) ∧ w2.cell? ⟨B, 0, none⟩ = some (.int .u64 (hi : Int)) ∧ w2.cell? ⟨B, 1, none⟩ = some (.int .u64 (lo : Int)))) :=
    Lib.hid (fun w1 w2 h hb => ⟨Lib.hid (h.1.out.trans hb), (hb.cell (p := ⟨B, 0, none⟩) (Nat.lt_succ_self _)).trans h.2.1, (hb.cell (p := ⟨B, 1, none⟩) (Nat.lt_succ_self _)).trans h.2.2⟩)
  go_region_held3 (fun w' => (Hid (Below (B + 1) W w') ∧ w'.cell? ⟨B, 0, none⟩ = some (.int .u64 (hi : Int)) ∧ w'.cell? ⟨B, 1, none⟩ = some (.int .u64 (lo : Int))))
    (first | (with_reducible assumption) | (with_reducible exact hS) | (with_reducible exact hs2) | (with_reducible exact hs1))
    ((first
      | (go_at_call 30; (with_reducible refine ((W1 _).out (by have := (‹Hid (Below (B + 1) W _) ∧ _›).1.out.size; rw [HZ.out] at this; exact this) (by simp) h1).mono ?_); rintro e wa ⟨v1, rfl, ho1, hg1⟩; rw [List.nil_append] at ho1; have hs1 := KS.out _ _ ‹Hid (Below (B + 1) W _) ∧ _› (hg1.below (Below.refl _ _) (by have := (‹Hid (Below (B + 1) W _) ∧ _›).1.out.size; rw [HZ.out] at this; exact this) (by simp [Value.ownBlock])); have HO1 := Lib.hid ho1; clear ho1 hg1)
      | (go_at_call 30; (with_reducible refine ((W2 _ _).out HO1.out (by have := (‹Hid (Below (B + 1) W _) ∧ _›).1.out.size; rw [HZ.out] at this; exact this) (by rw [HWL.out]; omega) h2).mono ?_); rintro e wb ⟨v2, rfl, ho2, hg2⟩; have hs2 := KS.out _ _ ‹Hid (Below (B + 1) W _) ∧ _› (hg2.below (Below.refl _ _) (by have := (‹Hid (Below (B + 1) W _) ∧ _›).1.out.size; rw [HZ.out] at this; exact this) (own_block_ge HO1.out)); have HO2 := Lib.hid ho2; clear ho2 hg2)))
  all_goals
    obtain ⟨A2, c2, rfl, hc2, hr2⟩ := own_rd HO2.out
    have hbf := Lib.hid (‹Hid (Below (B + 1) W _) ∧ _›).1.out
    obtain ⟨nn, hnn⟩ : ∃ nn, (wd hi ++ wd lo).length = nn := ⟨_, rfl⟩
    have SU := Lib.hid (sumN A2 (wd hi ++ wd lo) nn c2 _ _ hnn.symm hr2 (by simp [HWL.out]))
    rw [hnn]
    clear hr2 HO1 HO2 hc2 hnn
    generalize Cm.sum (wd hi ++ wd lo) = sm at *
    have hsm := SL.out
    go_wp2_with (go_at_call 31; (with_reducible refine (SU.out).mono ?_); rintro e wc ⟨rfl, rfl⟩)
    go_ret
    refine ⟨?_, ?_⟩
    · rw [HS.out]; go_num
    · rw [HB0.out]; exact HB.out.trans (hbf.out.mono (Nat.le_succ _))
end Go.Proofs.Ytenioeppmgmdiaa
