/- The document's hash of a trace; the document's some. -/
import Derived.Test.YtenioeppmgmdiaaJh
import Derived.Test.YtenioeppmgmdiaaCr
import Derived.Test.YtenioeppmgmdiaaRq
namespace Go.Proofs.Ytenioeppmgmdiaa
open Go.RowKit
set_option linter.unusedVariables false
set_option linter.unusedSimpArgs false
set_option maxRecDepth 100000

theorem app1 {w : World} {ty : TypeId} {base n : Nat} {v : Value} {l : List UInt8} {y : Int} {x : UInt8} (h : w.ownsRow base 5 1 v n (l.map B8)) (hx : Value.int .u8 y = B8 x) (hb : base ≤ w.heap.size) (hn : n ≤ 1000) :
    ∃ v' w', (Builtin.append_ #[57, 57] ty #[v, .slice (some ⟨w.heap.size, 0, none⟩) 1 1]).run Try.prog (w.alloc (.cells #[.int .u8 y] 5)) = .ok v' w' ∧ (w'.ownsRow base 5 1 v' (n + 1) ((l ++ [x]).map B8) ∧ Below base w w') := by
  obtain ⟨i0, hi, hz0, hz1, hz2⟩ := info_parts infoB
  have hs : (w.alloc (.cells #[.int .u8 y] 5)).heap.size = w.heap.size + 1 := by simp
  obtain ⟨v', w', r1, r2, r3⟩ := run_append_rd (P := Try.prog) (w.alloc (.cells #[.int .u8 y] 5)) base 57 ty 5 i0 _ 1 1 Try.underlying57 hi hz0 hz1 hz2 rfl v n (l.map B8) (h.alloc _) (w.heap.size + 1) (some ⟨w.heap.size, 0, none⟩) 1 1 [.int .u8 y] rfl (Rd.one w _ _) (by simp [Value.oneCell']) (by unfold maxLen; omega) (by omega) (by omega)
  refine ⟨v', w', r1, ?_, r3.below ((Below.refl base w).alloc hb (.cells #[.int .u8 y] 5)) (by omega) (own_block_ge (h.alloc (.cells #[.int .u8 y] 5)))⟩
  rw [hx] at r2
  simpa using r2
theorem b255 (n d : Nat) (y : Int) (hn : n < 18446744073709551616) (hy : y = ((n / d : Nat) : Int)) : Value.int .u8 (bits .and .u64 y 255 % 256) = B8 (UInt8.ofNat (n / d)) := by
  refine byte_is (n / d) _ ?_
  have h : n / d < 18446744073709551616 := Nat.lt_of_le_of_lt (Nat.div_le_self _ _) hn
  rw [hy, show (255 : Int) = ((255 : Nat) : Int) from rfl, bits_and_u64_nat _ _ h (by omega), show (255 : Nat) = 2 ^ 8 - 1 from rfl, Nat.and_two_pow_sub_one_eq_mod]
  omega
set_option maxHeartbeats 16000000 in
theorem hash_ref (hi lo : Nat) (w : World) (h1 : hi < 18446744073709551616) (h2 : lo < 18446744073709551616) :
    Calls Try.prog 12 #[.agg #[.int .u64 hi, .int .u64 lo]] w fun e w' => e = .returned (.int .i64 (hsh hi lo : Nat)) ∧ Below w.heap.size w w' := by
  obtain ⟨i0, hi0, hz0, hz1, hz2⟩ := info_parts infoB
  have HI := Lib.hid (And.intro hi0 (And.intro hz0 (And.intro hz1 hz2)))
  clear hi0 hz0 hz1 hz2
  have HS : Hid (hsh hi lo = Cm.sum (wd hi ++ wd lo) % 1000) := rfl
  have SL := Lib.hid (Cm.sum_lt (wd hi ++ wd lo))
  generalize hsh hi lo = hh at *
  have n0 : (0 : Int) ≤ (hi : Int) := by omega
  have n1 : (0 : Int) ≤ (lo : Int) := by omega
  go_enter Try.func12, Try.ntmps12
  go_wp2_with fail
  have hBX := ((Below.refl w.heap.size w).alloc (Nat.le_refl _) (.cells #[.int .u64 hi, .int .u64 lo] 27)).alloc (by simp) (.cells #[.int .u64 hi, .int .u64 lo] 25)
  have hz1 : (w.alloc (.cells #[.int .u64 hi, .int .u64 lo] 27)).heap.size = w.heap.size + 1 := by simp
  have hz2 : ((w.alloc (.cells #[.int .u64 hi, .int .u64 lo] 27)).alloc (.cells #[.int .u64 hi, .int .u64 lo] 25)).heap.size = w.heap.size + 2 := by simp
  have q1 := heap_alloc_new (w.alloc (.cells #[.int .u64 hi, .int .u64 lo] 27)) (.cells #[.int .u64 hi, .int .u64 lo] 25)
  rw [hz1] at q1
  generalize hWX : (w.alloc (.cells #[.int .u64 hi, .int .u64 lo] 27)).alloc (.cells #[.int .u64 hi, .int .u64 lo] 25) = WX at *
  generalize hB0 : w.heap.size = B0 at *
  have HB0 := Lib.hid hB0
  have v0 : WX.cell? ⟨B0 + 1, 0, none⟩ = some (.int .u64 (hi : Int)) := cell_of_row _ _ 0 _ _ (0, 0) q1
  have v1 : WX.cell? ⟨B0 + 1, 1, none⟩ = some (.int .u64 (lo : Int)) := cell_of_row _ _ 1 _ _ (0, 0) q1
  have HS2 := Lib.hid (show ∀ V, Below (B0 + 2) WX V → (V.cell? ⟨B0 + 1, 0, none⟩ = some (.int .u64 (hi : Int)) ∧ V.cell? ⟨B0 + 1, 1, none⟩ = some (.int .u64 (lo : Int))) ∧ Below B0 w V from fun V hV => ⟨⟨(hV.cell (p := ⟨B0 + 1, 0, none⟩) (Nat.lt_succ_self _)).trans v0, (hV.cell (p := ⟨B0 + 1, 1, none⟩) (Nat.lt_succ_self _)).trans v1⟩, hBX.trans (hV.mono (by omega))⟩)
  clear hWX hz1 q1 v0 v1 hBX hB0
  have hz : B0 + 2 ≤ WX.heap.size := by omega
  clear hz2
  go_loopw [3, 5] (fun b i wr => ∃ (j : Nat) (z : Int), i = .int .i64 z ∧ Hid (z = (j : Int)) ∧ j ≤ 2 ∧ Hid (wr.ownsRow (B0 + 2) 5 1 b (8 * j) (((wd hi ++ wd lo).take (8 * j)).map B8)) ∧ Hid (Below (B0 + 2) WX wr)) (fun _ i _ => 2 - (intOf i).toNat)
  case atStart => exact ⟨0, 0, rfl, Lib.hid rfl, by omega, Lib.hid (World.ownsRow_nil _ _ _ _), Lib.hid (Below.refl _ _)⟩
  case round =>
    obtain ⟨j, z, rfl, HZ, hj, HO, HBB⟩ := hrel
    generalize wr = w0 at *
    have hj3 : j = 0 ∨ j = 1 ∨ j = 2 := by omega
    rcases hj3 with rfl | rfl | rfl
    · have hz9 : z = 0 := HZ.out
      subst hz9
      go_wp2_with fail
      go_loopw [3, 6] (fun b s wr => ∃ k : Nat, s = .int .i64 (7 - (k : Int)) ∧ k ≤ 8 ∧ Hid (wr.ownsRow (B0 + 2) 5 1 b (8 * 0 + k) (((wd hi ++ wd lo).take (8 * 0 + k)).map B8)) ∧ Hid (Below (B0 + 2) WX wr)) (fun _ s _ => (intOf s + 1).toNat)
      case atStart => exact ⟨0, rfl, by omega, HO, HBB⟩
      case round =>
        obtain ⟨k, rfl, hk, HO2, HB2⟩ := hrel
        have hbw : B0 + 2 ≤ wr.heap.size := Nat.le_trans hz HB2.out.size
        obtain ⟨⟨v0, v1⟩, _⟩ := HS2.out wr HB2.out
        have hb1 : B0 + 1 < wr.heap.size := by omega
        have hk9 : k = 0 ∨ k = 1 ∨ k = 2 ∨ k = 3 ∨ k = 4 ∨ k = 5 ∨ k = 6 ∨ k = 7 ∨ k = 8 := by omega
        clear hk HO
        rcases hk9 with rfl | rfl | rfl | rfl | rfl | rfl | rfl | rfl | rfl
        · have e : (wd hi ++ wd lo).take (8 * 0 + 0) ++ [UInt8.ofNat (hi / 72057594037927936)] = (wd hi ++ wd lo).take (8 * 0 + 0 + 1) := by rfl
          have HX := Lib.hid (fun (y : Int) (hy : Value.int .u8 y = B8 (UInt8.ofNat (hi / 72057594037927936))) ty => app1 (ty := ty) HO2.out hy hbw (by omega))
          rw [e] at HX
          clear e
          go_wp2_with (at_builtin; go_loud (refine wpList_app rfl (.tmp 20) (.tmp 31) _ _ rfl rfl rfl (HX.out _ (b255 hi 72057594037927936 _ (by omega) (by omega)) _) ?_; rintro v1 w1 ⟨ho1, hg1⟩; have HO1 := Lib.hid ho1; have HG1 := Lib.hid hg1; clear ho1 hg1))
          go_roundw
          case rel => exact ⟨1, by simp, by omega, HO1, Lib.hid (HB2.out.trans HG1.out)⟩
          case measure => simp [intOf]
        · have e : (wd hi ++ wd lo).take (8 * 0 + 1) ++ [UInt8.ofNat (hi / 281474976710656)] = (wd hi ++ wd lo).take (8 * 0 + 1 + 1) := by rfl
          have HX := Lib.hid (fun (y : Int) (hy : Value.int .u8 y = B8 (UInt8.ofNat (hi / 281474976710656))) ty => app1 (ty := ty) HO2.out hy hbw (by omega))
          rw [e] at HX
          clear e
          go_wp2_with (at_builtin; go_loud (refine wpList_app rfl (.tmp 20) (.tmp 31) _ _ rfl rfl rfl (HX.out _ (b255 hi 281474976710656 _ (by omega) (by omega)) _) ?_; rintro v1 w1 ⟨ho1, hg1⟩; have HO1 := Lib.hid ho1; have HG1 := Lib.hid hg1; clear ho1 hg1))
          go_roundw
          case rel => exact ⟨2, by simp, by omega, HO1, Lib.hid (HB2.out.trans HG1.out)⟩
          case measure => simp [intOf]
        · have e : (wd hi ++ wd lo).take (8 * 0 + 2) ++ [UInt8.ofNat (hi / 1099511627776)] = (wd hi ++ wd lo).take (8 * 0 + 2 + 1) := by rfl
          have HX := Lib.hid (fun (y : Int) (hy : Value.int .u8 y = B8 (UInt8.ofNat (hi / 1099511627776))) ty => app1 (ty := ty) HO2.out hy hbw (by omega))
          rw [e] at HX
          clear e
          go_wp2_with (at_builtin; go_loud (refine wpList_app rfl (.tmp 20) (.tmp 31) _ _ rfl rfl rfl (HX.out _ (b255 hi 1099511627776 _ (by omega) (by omega)) _) ?_; rintro v1 w1 ⟨ho1, hg1⟩; have HO1 := Lib.hid ho1; have HG1 := Lib.hid hg1; clear ho1 hg1))
          go_roundw
          case rel => exact ⟨3, by simp, by omega, HO1, Lib.hid (HB2.out.trans HG1.out)⟩
          case measure => simp [intOf]
        · have e : (wd hi ++ wd lo).take (8 * 0 + 3) ++ [UInt8.ofNat (hi / 4294967296)] = (wd hi ++ wd lo).take (8 * 0 + 3 + 1) := by rfl
          have HX := Lib.hid (fun (y : Int) (hy : Value.int .u8 y = B8 (UInt8.ofNat (hi / 4294967296))) ty => app1 (ty := ty) HO2.out hy hbw (by omega))
          rw [e] at HX
          clear e
          go_wp2_with (at_builtin; go_loud (refine wpList_app rfl (.tmp 20) (.tmp 31) _ _ rfl rfl rfl (HX.out _ (b255 hi 4294967296 _ (by omega) (by omega)) _) ?_; rintro v1 w1 ⟨ho1, hg1⟩; have HO1 := Lib.hid ho1; have HG1 := Lib.hid hg1; clear ho1 hg1))
          go_roundw
          case rel => exact ⟨4, by simp, by omega, HO1, Lib.hid (HB2.out.trans HG1.out)⟩
          case measure => simp [intOf]
        · have e : (wd hi ++ wd lo).take (8 * 0 + 4) ++ [UInt8.ofNat (hi / 16777216)] = (wd hi ++ wd lo).take (8 * 0 + 4 + 1) := by rfl
          have HX := Lib.hid (fun (y : Int) (hy : Value.int .u8 y = B8 (UInt8.ofNat (hi / 16777216))) ty => app1 (ty := ty) HO2.out hy hbw (by omega))
          rw [e] at HX
          clear e
          go_wp2_with (at_builtin; go_loud (refine wpList_app rfl (.tmp 20) (.tmp 31) _ _ rfl rfl rfl (HX.out _ (b255 hi 16777216 _ (by omega) (by omega)) _) ?_; rintro v1 w1 ⟨ho1, hg1⟩; have HO1 := Lib.hid ho1; have HG1 := Lib.hid hg1; clear ho1 hg1))
          go_roundw
          case rel => exact ⟨5, by simp, by omega, HO1, Lib.hid (HB2.out.trans HG1.out)⟩
          case measure => simp [intOf]
        · have e : (wd hi ++ wd lo).take (8 * 0 + 5) ++ [UInt8.ofNat (hi / 65536)] = (wd hi ++ wd lo).take (8 * 0 + 5 + 1) := by rfl
          have HX := Lib.hid (fun (y : Int) (hy : Value.int .u8 y = B8 (UInt8.ofNat (hi / 65536))) ty => app1 (ty := ty) HO2.out hy hbw (by omega))
          rw [e] at HX
          clear e
          go_wp2_with (at_builtin; go_loud (refine wpList_app rfl (.tmp 20) (.tmp 31) _ _ rfl rfl rfl (HX.out _ (b255 hi 65536 _ (by omega) (by omega)) _) ?_; rintro v1 w1 ⟨ho1, hg1⟩; have HO1 := Lib.hid ho1; have HG1 := Lib.hid hg1; clear ho1 hg1))
          go_roundw
          case rel => exact ⟨6, by simp, by omega, HO1, Lib.hid (HB2.out.trans HG1.out)⟩
          case measure => simp [intOf]
        · have e : (wd hi ++ wd lo).take (8 * 0 + 6) ++ [UInt8.ofNat (hi / 256)] = (wd hi ++ wd lo).take (8 * 0 + 6 + 1) := by rfl
          have HX := Lib.hid (fun (y : Int) (hy : Value.int .u8 y = B8 (UInt8.ofNat (hi / 256))) ty => app1 (ty := ty) HO2.out hy hbw (by omega))
          rw [e] at HX
          clear e
          go_wp2_with (at_builtin; go_loud (refine wpList_app rfl (.tmp 20) (.tmp 31) _ _ rfl rfl rfl (HX.out _ (b255 hi 256 _ (by omega) (by omega)) _) ?_; rintro v1 w1 ⟨ho1, hg1⟩; have HO1 := Lib.hid ho1; have HG1 := Lib.hid hg1; clear ho1 hg1))
          go_roundw
          case rel => exact ⟨7, by simp, by omega, HO1, Lib.hid (HB2.out.trans HG1.out)⟩
          case measure => simp [intOf]
        · have e : (wd hi ++ wd lo).take (8 * 0 + 7) ++ [UInt8.ofNat (hi / 1)] = (wd hi ++ wd lo).take (8 * 0 + 7 + 1) := by rfl
          have HX := Lib.hid (fun (y : Int) (hy : Value.int .u8 y = B8 (UInt8.ofNat (hi / 1))) ty => app1 (ty := ty) HO2.out hy hbw (by omega))
          rw [e] at HX
          clear e
          go_wp2_with (at_builtin; go_loud (refine wpList_app rfl (.tmp 20) (.tmp 31) _ _ rfl rfl rfl (HX.out _ (b255 hi 1 _ (by omega) (by omega)) _) ?_; rintro v1 w1 ⟨ho1, hg1⟩; have HO1 := Lib.hid ho1; have HG1 := Lib.hid hg1; clear ho1 hg1))
          go_roundw
          case rel => exact ⟨8, by simp, by omega, HO1, Lib.hid (HB2.out.trans HG1.out)⟩
          case measure => simp [intOf]
        · go_wp2_with fail
          go_roundw
          case rel => exact ⟨1, 1, by simp, Lib.hid rfl, by omega, HO2, HB2⟩
          case measure => simp [intOf]
    · have hz9 : z = 1 := HZ.out
      subst hz9
      go_wp2_with fail
      go_loopw [3, 6] (fun b s wr => ∃ k : Nat, s = .int .i64 (7 - (k : Int)) ∧ k ≤ 8 ∧ Hid (wr.ownsRow (B0 + 2) 5 1 b (8 * 1 + k) (((wd hi ++ wd lo).take (8 * 1 + k)).map B8)) ∧ Hid (Below (B0 + 2) WX wr)) (fun _ s _ => (intOf s + 1).toNat)
      case atStart => exact ⟨0, rfl, by omega, HO, HBB⟩
      case round =>
        obtain ⟨k, rfl, hk, HO2, HB2⟩ := hrel
        have hbw : B0 + 2 ≤ wr.heap.size := Nat.le_trans hz HB2.out.size
        obtain ⟨⟨v0, v1⟩, _⟩ := HS2.out wr HB2.out
        have hb1 : B0 + 1 < wr.heap.size := by omega
        have hk9 : k = 0 ∨ k = 1 ∨ k = 2 ∨ k = 3 ∨ k = 4 ∨ k = 5 ∨ k = 6 ∨ k = 7 ∨ k = 8 := by omega
        clear hk HO
        rcases hk9 with rfl | rfl | rfl | rfl | rfl | rfl | rfl | rfl | rfl
        · have e : (wd hi ++ wd lo).take (8 * 1 + 0) ++ [UInt8.ofNat (lo / 72057594037927936)] = (wd hi ++ wd lo).take (8 * 1 + 0 + 1) := by rfl
          have HX := Lib.hid (fun (y : Int) (hy : Value.int .u8 y = B8 (UInt8.ofNat (lo / 72057594037927936))) ty => app1 (ty := ty) HO2.out hy hbw (by omega))
          rw [e] at HX
          clear e
          go_wp2_with (at_builtin; go_loud (refine wpList_app rfl (.tmp 20) (.tmp 31) _ _ rfl rfl rfl (HX.out _ (b255 lo 72057594037927936 _ (by omega) (by omega)) _) ?_; rintro v1 w1 ⟨ho1, hg1⟩; have HO1 := Lib.hid ho1; have HG1 := Lib.hid hg1; clear ho1 hg1))
          go_roundw
          case rel => exact ⟨1, by simp, by omega, HO1, Lib.hid (HB2.out.trans HG1.out)⟩
          case measure => simp [intOf]
        · have e : (wd hi ++ wd lo).take (8 * 1 + 1) ++ [UInt8.ofNat (lo / 281474976710656)] = (wd hi ++ wd lo).take (8 * 1 + 1 + 1) := by rfl
          have HX := Lib.hid (fun (y : Int) (hy : Value.int .u8 y = B8 (UInt8.ofNat (lo / 281474976710656))) ty => app1 (ty := ty) HO2.out hy hbw (by omega))
          rw [e] at HX
          clear e
          go_wp2_with (at_builtin; go_loud (refine wpList_app rfl (.tmp 20) (.tmp 31) _ _ rfl rfl rfl (HX.out _ (b255 lo 281474976710656 _ (by omega) (by omega)) _) ?_; rintro v1 w1 ⟨ho1, hg1⟩; have HO1 := Lib.hid ho1; have HG1 := Lib.hid hg1; clear ho1 hg1))
          go_roundw
          case rel => exact ⟨2, by simp, by omega, HO1, Lib.hid (HB2.out.trans HG1.out)⟩
          case measure => simp [intOf]
        · have e : (wd hi ++ wd lo).take (8 * 1 + 2) ++ [UInt8.ofNat (lo / 1099511627776)] = (wd hi ++ wd lo).take (8 * 1 + 2 + 1) := by rfl
          have HX := Lib.hid (fun (y : Int) (hy : Value.int .u8 y = B8 (UInt8.ofNat (lo / 1099511627776))) ty => app1 (ty := ty) HO2.out hy hbw (by omega))
          rw [e] at HX
          clear e
          go_wp2_with (at_builtin; go_loud (refine wpList_app rfl (.tmp 20) (.tmp 31) _ _ rfl rfl rfl (HX.out _ (b255 lo 1099511627776 _ (by omega) (by omega)) _) ?_; rintro v1 w1 ⟨ho1, hg1⟩; have HO1 := Lib.hid ho1; have HG1 := Lib.hid hg1; clear ho1 hg1))
          go_roundw
          case rel => exact ⟨3, by simp, by omega, HO1, Lib.hid (HB2.out.trans HG1.out)⟩
          case measure => simp [intOf]
        · have e : (wd hi ++ wd lo).take (8 * 1 + 3) ++ [UInt8.ofNat (lo / 4294967296)] = (wd hi ++ wd lo).take (8 * 1 + 3 + 1) := by rfl
          have HX := Lib.hid (fun (y : Int) (hy : Value.int .u8 y = B8 (UInt8.ofNat (lo / 4294967296))) ty => app1 (ty := ty) HO2.out hy hbw (by omega))
          rw [e] at HX
          clear e
          go_wp2_with (at_builtin; go_loud (refine wpList_app rfl (.tmp 20) (.tmp 31) _ _ rfl rfl rfl (HX.out _ (b255 lo 4294967296 _ (by omega) (by omega)) _) ?_; rintro v1 w1 ⟨ho1, hg1⟩; have HO1 := Lib.hid ho1; have HG1 := Lib.hid hg1; clear ho1 hg1))
          go_roundw
          case rel => exact ⟨4, by simp, by omega, HO1, Lib.hid (HB2.out.trans HG1.out)⟩
          case measure => simp [intOf]
        · have e : (wd hi ++ wd lo).take (8 * 1 + 4) ++ [UInt8.ofNat (lo / 16777216)] = (wd hi ++ wd lo).take (8 * 1 + 4 + 1) := by rfl
          have HX := Lib.hid (fun (y : Int) (hy : Value.int .u8 y = B8 (UInt8.ofNat (lo / 16777216))) ty => app1 (ty := ty) HO2.out hy hbw (by omega))
          rw [e] at HX
          clear e
          go_wp2_with (at_builtin; go_loud (refine wpList_app rfl (.tmp 20) (.tmp 31) _ _ rfl rfl rfl (HX.out _ (b255 lo 16777216 _ (by omega) (by omega)) _) ?_; rintro v1 w1 ⟨ho1, hg1⟩; have HO1 := Lib.hid ho1; have HG1 := Lib.hid hg1; clear ho1 hg1))
          go_roundw
          case rel => exact ⟨5, by simp, by omega, HO1, Lib.hid (HB2.out.trans HG1.out)⟩
          case measure => simp [intOf]
        · have e : (wd hi ++ wd lo).take (8 * 1 + 5) ++ [UInt8.ofNat (lo / 65536)] = (wd hi ++ wd lo).take (8 * 1 + 5 + 1) := by rfl
          have HX := Lib.hid (fun (y : Int) (hy : Value.int .u8 y = B8 (UInt8.ofNat (lo / 65536))) ty => app1 (ty := ty) HO2.out hy hbw (by omega))
          rw [e] at HX
          clear e
          go_wp2_with (at_builtin; go_loud (refine wpList_app rfl (.tmp 20) (.tmp 31) _ _ rfl rfl rfl (HX.out _ (b255 lo 65536 _ (by omega) (by omega)) _) ?_; rintro v1 w1 ⟨ho1, hg1⟩; have HO1 := Lib.hid ho1; have HG1 := Lib.hid hg1; clear ho1 hg1))
          go_roundw
          case rel => exact ⟨6, by simp, by omega, HO1, Lib.hid (HB2.out.trans HG1.out)⟩
          case measure => simp [intOf]
        · have e : (wd hi ++ wd lo).take (8 * 1 + 6) ++ [UInt8.ofNat (lo / 256)] = (wd hi ++ wd lo).take (8 * 1 + 6 + 1) := by rfl
          have HX := Lib.hid (fun (y : Int) (hy : Value.int .u8 y = B8 (UInt8.ofNat (lo / 256))) ty => app1 (ty := ty) HO2.out hy hbw (by omega))
          rw [e] at HX
          clear e
          go_wp2_with (at_builtin; go_loud (refine wpList_app rfl (.tmp 20) (.tmp 31) _ _ rfl rfl rfl (HX.out _ (b255 lo 256 _ (by omega) (by omega)) _) ?_; rintro v1 w1 ⟨ho1, hg1⟩; have HO1 := Lib.hid ho1; have HG1 := Lib.hid hg1; clear ho1 hg1))
          go_roundw
          case rel => exact ⟨7, by simp, by omega, HO1, Lib.hid (HB2.out.trans HG1.out)⟩
          case measure => simp [intOf]
        · have e : (wd hi ++ wd lo).take (8 * 1 + 7) ++ [UInt8.ofNat (lo / 1)] = (wd hi ++ wd lo).take (8 * 1 + 7 + 1) := by rfl
          have HX := Lib.hid (fun (y : Int) (hy : Value.int .u8 y = B8 (UInt8.ofNat (lo / 1))) ty => app1 (ty := ty) HO2.out hy hbw (by omega))
          rw [e] at HX
          clear e
          go_wp2_with (at_builtin; go_loud (refine wpList_app rfl (.tmp 20) (.tmp 31) _ _ rfl rfl rfl (HX.out _ (b255 lo 1 _ (by omega) (by omega)) _) ?_; rintro v1 w1 ⟨ho1, hg1⟩; have HO1 := Lib.hid ho1; have HG1 := Lib.hid hg1; clear ho1 hg1))
          go_roundw
          case rel => exact ⟨8, by simp, by omega, HO1, Lib.hid (HB2.out.trans HG1.out)⟩
          case measure => simp [intOf]
        · go_wp2_with fail
          go_roundw
          case rel => exact ⟨2, 2, by simp, Lib.hid rfl, by omega, HO2, HB2⟩
          case measure => simp [intOf]
    · have hz9 : z = 2 := HZ.out
      subst hz9
      have HT : Hid ((wd hi ++ wd lo).take (8 * 2) = wd hi ++ wd lo) := rfl
      have HO3 := Lib.hid (show w0.ownsRow (B0 + 2) 5 1 u3 16 ((wd hi ++ wd lo).map B8) from by have h := HO.out; rw [HT.out] at h; exact h)
      obtain ⟨A2, c2, rfl, hc2, hr2⟩ := own_rd HO3.out
      have HW := Lib.hid (HS2.out w0 HBB.out).2
      have HSU := Lib.hid (show Calls Try.prog 32 #[.slice A2 16 c2] w0 fun e w' => e = .returned (.int .u32 (Cm.sum (wd hi ++ wd lo) : Nat)) ∧ w0 = w' from rsum_calls A2 (wd hi ++ wd lo) c2 _ w0 hr2 (by show 16 ≤ _; omega))
      clear hr2 HO HO3 HT hc2
      generalize Cm.sum (wd hi ++ wd lo) = sm at *
      have hsm := SL.out
      go_wp2_with (go_at_call 32; (with_reducible refine (HSU.out).mono ?_); rintro e wc ⟨rfl, rfl⟩)
      go_ret
      refine ⟨?_, by rw [HB0.out]; exact HW.out⟩
      rw [HS.out]; go_num

set_option maxHeartbeats 16000000 in
theorem refsome_all (A : Option Addr) (l : List Ls) (ln lc : Nat) (k n : Int) (key val : ByteArray) (kA : Option Addr) (q kc : Nat) (B : Nat) (w : World)
    (hn : ln = l.length) (hy : RdSps w B A l) (hB : B ≤ w.heap.size) (hl : ln ≤ maxLen) (hk : k = 4 ∨ k = 5 ∨ k = 6) :
    Calls Try.prog 50 #[.agg #[.int .i64 k, .int .i64 n, .string key, .string val, .slice kA q kc], .slice A ln lc] w fun e w' => e = .returned (.bool (l.any fun x => isS k n key val x.s)) ∧ Below w.heap.size w w' := by
  simp only [maxLen] at hl
  have HN := Lib.hid hn
  have HY := Lib.hid hy
  clear hn hy
  rcases hk with rfl | rfl | rfl
  · obtain ⟨ii, hii⟩ : ∃ ii, (l.any fun x => isS 4 n key val x.s) = ii := ⟨_, rfl⟩
    have HI := Lib.hid hii
    rw [hii]
    clear hii
    go_enter Try.func50, Try.ntmps50
    go_wp2_with fail
    have HBX0 := (Below.refl w.heap.size w).alloc (Nat.le_refl _) (.cells #[.int .i64 4, .int .i64 n, .string key, .string val, .slice kA q kc] 24)
    have r0 := heap_alloc_new w (.cells #[.int .i64 4, .int .i64 n, .string key, .string val, .slice kA q kc] 24)
    have hz0 : w.heap.size < (w.alloc (.cells #[.int .i64 4, .int .i64 n, .string key, .string val, .slice kA q kc] 24)).heap.size := by simp
    generalize hWX : w.alloc (.cells #[.int .i64 4, .int .i64 n, .string key, .string val, .slice kA q kc] 24) = WX at *
    have hzz : w.heap.size ≤ WX.heap.size := by omega
    have s0 : WX.cell? ⟨w.heap.size, 0, none⟩ = some (.int .i64 4) := cell_of_row _ _ 0 _ _ (0, 0) r0
    have s1 : WX.cell? ⟨w.heap.size, 1, none⟩ = some (.int .i64 n) := cell_of_row _ _ 1 _ _ (0, 0) r0
    have s2 : WX.cell? ⟨w.heap.size, 2, none⟩ = some (.string key) := cell_of_row _ _ 2 _ _ (0, 0) r0
    have s3 : WX.cell? ⟨w.heap.size, 3, none⟩ = some (.string val) := cell_of_row _ _ 3 _ _ (0, 0) r0
    have s4 : WX.cell? ⟨w.heap.size, 4, none⟩ = some (.slice kA q kc) := cell_of_row _ _ 4 _ _ (0, 0) r0
    have HS := Lib.hid (show ∀ V, Below WX.heap.size WX V → (V.cell? ⟨w.heap.size, 0, none⟩ = some (.int .i64 4) ∧ V.cell? ⟨w.heap.size, 1, none⟩ = some (.int .i64 n) ∧ V.cell? ⟨w.heap.size, 2, none⟩ = some (.string key) ∧ V.cell? ⟨w.heap.size, 3, none⟩ = some (.string val) ∧ V.cell? ⟨w.heap.size, 4, none⟩ = some (.slice kA q kc)) ∧ Below w.heap.size w V ∧ w.heap.size ≤ V.heap.size from fun V hV => ⟨⟨(hV.cell (p := ⟨w.heap.size, 0, none⟩) hz0).trans s0, (hV.cell (p := ⟨w.heap.size, 1, none⟩) hz0).trans s1, (hV.cell (p := ⟨w.heap.size, 2, none⟩) hz0).trans s2, (hV.cell (p := ⟨w.heap.size, 3, none⟩) hz0).trans s3, (hV.cell (p := ⟨w.heap.size, 4, none⟩) hz0).trans s4⟩, HBX0.trans (hV.mono hzz), Nat.le_trans hzz hV.size⟩)
    clear r0 hWX
    go_loopw [5] (fun i wr => ∃ (j : Nat), i = .int .i64 (j : Int) ∧ j ≤ ln ∧ Hid (∀ x ∈ l.take j, isS 4 n key val x.s = false) ∧ Hid (Below WX.heap.size WX wr)) (fun i _ => ln - (intOf i).toNat)
    case atStart => exact ⟨0, rfl, by omega, Lib.hid (by simp), Lib.hid (Below.refl _ _)⟩
    case round =>
      obtain ⟨j, rfl, hj, HZ, HBB⟩ := hrel
      generalize wr = w0 at *
      obtain ⟨⟨t0, t1, t2, t3, t4⟩, hb, hzr⟩ := HS.out w0 HBB.out
      have HB := Lib.hid hb
      have HZR := Lib.hid hzr
      clear hb hzr
      by_cases hlt : j < ln
      · obtain ⟨x, hx⟩ : ∃ x, l[j]? = some x := ⟨_, List.getElem?_eq_getElem (by rw [← HN.out]; exact hlt)⟩
        have HR : Hid (RdSps w0 B A l) := Lib.hid (HY.out.below (HB.out.mono hB))
        obtain ⟨a, ha, hab, hc, hl2⟩ := HR.out.at_ hx
        subst ha
        have hBr : B ≤ w0.heap.size := Nat.le_trans hB HZR.out
        obtain ⟨⟨x0, x1, x2, x3, x4, x5, x6, x7, x8, ats⟩, xA, xc⟩ := x
        have c0 := hc 0 _ rfl
        have c1 := cell_far (hc 1 _ rfl) (by omega)
        have c2 := cell_far (hc 2 _ rfl) (by omega)
        have c3 := cell_far (hc 3 _ rfl) (by omega)
        have c4 := cell_far (hc 4 _ rfl) (by omega)
        have c5 := cell_far (hc 5 _ rfl) (by omega)
        have c6 := cell_far (hc 6 _ rfl) (by omega)
        have c7 := cell_far (hc 7 _ rfl) (by omega)
        have c8 := cell_far (hc 8 _ rfl) (by omega)
        have c9 := cell_far (hc 9 _ rfl) (by omega)
        simp only [Nat.add_zero] at c0
        have HX := Lib.hid hx
        have HL2 := Lib.hid hl2
        have hab2 : a.block < w0.heap.size := by omega
        have hab3 : a.block ≠ w0.heap.size := by omega
        have hbn : w.heap.size ≠ w0.heap.size := by have := HBB.out.size; omega
        have hbl : w.heap.size < w0.heap.size := by have := HBB.out.size; omega
        obtain ⟨xn, hxn⟩ : ∃ xn, ats.length = xn := ⟨_, rfl⟩
        have HXN := Lib.hid hxn
        have hxl : xn ≤ maxLen := by rw [← hxn]; exact hl2.ok.ats.1
        simp only [maxLen] at hxl
        rw [hxn] at c9
        have HIS : Hid (isS 4 n key val ⟨x0, x1, x2, x3, x4, x5, x6, x7, x8, ats⟩ = decide (n ≤ x7)) := rfl
        have HB1 := Lib.hid ((Below.refl w0.heap.size w0).alloc (Nat.le_refl _) (.cells #[.int .u64 x0, .int .u64 x1, .int .u64 x2, .int .u64 x3, .string x4, .string x5, .int .i64 x6, .int .i64 x7, .bool x8, .slice xA xn xc] 42))
        have q0 := heap_alloc_new w0 (.cells #[.int .u64 x0, .int .u64 x1, .int .u64 x2, .int .u64 x3, .string x4, .string x5, .int .i64 x6, .int .i64 x7, .bool x8, .slice xA xn xc] 42)
        have g9 : (w0.alloc (.cells #[.int .u64 x0, .int .u64 x1, .int .u64 x2, .int .u64 x3, .string x4, .string x5, .int .i64 x6, .int .i64 x7, .bool x8, .slice xA xn xc] 42)).cell? ⟨w0.heap.size, 9, none⟩ = some (.slice xA xn xc) := cell_of_row _ _ 9 _ _ (0, 0) q0
        have hz4 : w0.heap.size < (w0.alloc (.cells #[.int .u64 x0, .int .u64 x1, .int .u64 x2, .int .u64 x3, .string x4, .string x5, .int .i64 x6, .int .i64 x7, .bool x8, .slice xA xn xc] 42)).heap.size := by simp
        clear hc hl2 hx hab hxn q0
        have hcc : n ≤ x7 ∨ x7 < n := by omega
        rcases hcc with hcc | hcc
        · have HP := Lib.hid (any_hit (p := fun x : Ls => isS 4 n key val x.s) HX.out (by rw [HIS.out]; simpa using hcc))
          go_wp2_with fail
          go_ret
          exact ⟨by rw [← HI.out, HP.out]; rfl, HB.out.trans (HB1.out.mono HB.out.size)⟩
        · have HP := Lib.hid (any_not_take (p := fun x : Ls => isS 4 n key val x.s) HX.out HZ.out (by rw [HIS.out]; simp; omega))
          go_wp2_with fail
          have h4 : (w0.alloc (.cells #[.int .u64 x0, .int .u64 x1, .int .u64 x2, .int .u64 x3, .string x4, .string x5, .int .i64 x6, .int .i64 x7, .bool x8, .slice xA xn xc] 42)).cell? ⟨w.heap.size, 0, none⟩ = some (.int .i64 4) := (World.cell?_alloc_lt _ _ ⟨w.heap.size, 0, none⟩ hbl).trans t0
          have h42 : (w0.alloc (.cells #[.int .u64 x0, .int .u64 x1, .int .u64 x2, .int .u64 x3, .string x4, .string x5, .int .i64 x6, .int .i64 x7, .bool x8, .slice xA xn xc] 42)).cell? ⟨w.heap.size, 2, none⟩ = some (.string key) := (World.cell?_alloc_lt _ _ ⟨w.heap.size, 2, none⟩ hbl).trans t2
          have h43 : (w0.alloc (.cells #[.int .u64 x0, .int .u64 x1, .int .u64 x2, .int .u64 x3, .string x4, .string x5, .int .i64 x6, .int .i64 x7, .bool x8, .slice xA xn xc] 42)).cell? ⟨w.heap.size, 3, none⟩ = some (.string val) := (World.cell?_alloc_lt _ _ ⟨w.heap.size, 3, none⟩ hbl).trans t3
          clear c0 c1 c2 c3 c4 c5 c6 c7 c8 c9
          generalize w0.alloc (.cells #[.int .u64 x0, .int .u64 x1, .int .u64 x2, .int .u64 x3, .string x4, .string x5, .int .i64 x6, .int .i64 x7, .bool x8, .slice xA xn xc] 42) = W1 at *
          have HT := Lib.hid (show ∀ V, Below W1.heap.size W1 V → V.cell? ⟨w.heap.size, 0, none⟩ = some (.int .i64 4) ∧ V.cell? ⟨w.heap.size, 2, none⟩ = some (.string key) ∧ V.cell? ⟨w.heap.size, 3, none⟩ = some (.string val) ∧ V.cell? ⟨w0.heap.size, 9, none⟩ = some (.slice xA xn xc) from fun V hV => ⟨(hV.cell (p := ⟨w.heap.size, 0, none⟩) (Nat.lt_trans hbl hz4)).trans h4, (hV.cell (p := ⟨w.heap.size, 2, none⟩) (Nat.lt_trans hbl hz4)).trans h42, (hV.cell (p := ⟨w.heap.size, 3, none⟩) (Nat.lt_trans hbl hz4)).trans h43, (hV.cell (p := ⟨w0.heap.size, 9, none⟩) hz4).trans g9⟩)
          clear h4 h42 h43 g9 t0 t1 t2 t3 t4
          go_loopw [7] (fun i wr => i = .int .i64 0 ∧ Hid (Below W1.heap.size W1 wr)) (fun _ _ => 0)
          case atStart => exact ⟨rfl, Lib.hid (Below.refl _ _)⟩
          case round =>
            obtain ⟨rfl, HB2⟩ := hrel
            obtain ⟨h4, h42, h43, g9⟩ := HT.out wr HB2.out
            have hxc : xn = 0 ∨ 0 < xn := by omega
            rcases hxc with rfl | hxc
            all_goals
              go_wp2_with fail
              go_roundw
              case rel => exact ⟨j + 1, by go_num, by omega, HP, Lib.hid (HBB.out.trans ((HB1.out.trans (HB2.out.mono HB1.out.size)).mono HBB.out.size))⟩
              case measure => simp [intOf]; omega
      · obtain rfl : j = ln := by omega
        have HF := Lib.hid (any_none (p := fun x : Ls => isS 4 n key val x.s) (by rw [HN.out]; exact Nat.le_refl _) HZ.out)
        go_wp2_with fail
        go_ret
        exact ⟨by rw [← HI.out, HF.out]; rfl, HB.out⟩
  · obtain ⟨ii, hii⟩ : ∃ ii, (l.any fun x => isS 5 n key val x.s) = ii := ⟨_, rfl⟩
    have HI := Lib.hid hii
    rw [hii]
    clear hii
    go_enter Try.func50, Try.ntmps50
    go_wp2_with fail
    have HBX0 := (Below.refl w.heap.size w).alloc (Nat.le_refl _) (.cells #[.int .i64 5, .int .i64 n, .string key, .string val, .slice kA q kc] 24)
    have r0 := heap_alloc_new w (.cells #[.int .i64 5, .int .i64 n, .string key, .string val, .slice kA q kc] 24)
    have hz0 : w.heap.size < (w.alloc (.cells #[.int .i64 5, .int .i64 n, .string key, .string val, .slice kA q kc] 24)).heap.size := by simp
    generalize hWX : w.alloc (.cells #[.int .i64 5, .int .i64 n, .string key, .string val, .slice kA q kc] 24) = WX at *
    have hzz : w.heap.size ≤ WX.heap.size := by omega
    have s0 : WX.cell? ⟨w.heap.size, 0, none⟩ = some (.int .i64 5) := cell_of_row _ _ 0 _ _ (0, 0) r0
    have s1 : WX.cell? ⟨w.heap.size, 1, none⟩ = some (.int .i64 n) := cell_of_row _ _ 1 _ _ (0, 0) r0
    have s2 : WX.cell? ⟨w.heap.size, 2, none⟩ = some (.string key) := cell_of_row _ _ 2 _ _ (0, 0) r0
    have s3 : WX.cell? ⟨w.heap.size, 3, none⟩ = some (.string val) := cell_of_row _ _ 3 _ _ (0, 0) r0
    have s4 : WX.cell? ⟨w.heap.size, 4, none⟩ = some (.slice kA q kc) := cell_of_row _ _ 4 _ _ (0, 0) r0
    have HS := Lib.hid (show ∀ V, Below WX.heap.size WX V → (V.cell? ⟨w.heap.size, 0, none⟩ = some (.int .i64 5) ∧ V.cell? ⟨w.heap.size, 1, none⟩ = some (.int .i64 n) ∧ V.cell? ⟨w.heap.size, 2, none⟩ = some (.string key) ∧ V.cell? ⟨w.heap.size, 3, none⟩ = some (.string val) ∧ V.cell? ⟨w.heap.size, 4, none⟩ = some (.slice kA q kc)) ∧ Below w.heap.size w V ∧ w.heap.size ≤ V.heap.size from fun V hV => ⟨⟨(hV.cell (p := ⟨w.heap.size, 0, none⟩) hz0).trans s0, (hV.cell (p := ⟨w.heap.size, 1, none⟩) hz0).trans s1, (hV.cell (p := ⟨w.heap.size, 2, none⟩) hz0).trans s2, (hV.cell (p := ⟨w.heap.size, 3, none⟩) hz0).trans s3, (hV.cell (p := ⟨w.heap.size, 4, none⟩) hz0).trans s4⟩, HBX0.trans (hV.mono hzz), Nat.le_trans hzz hV.size⟩)
    clear r0 hWX
    go_loopw [5] (fun i wr => ∃ (j : Nat), i = .int .i64 (j : Int) ∧ j ≤ ln ∧ Hid (∀ x ∈ l.take j, isS 5 n key val x.s = false) ∧ Hid (Below WX.heap.size WX wr)) (fun i _ => ln - (intOf i).toNat)
    case atStart => exact ⟨0, rfl, by omega, Lib.hid (by simp), Lib.hid (Below.refl _ _)⟩
    case round =>
      obtain ⟨j, rfl, hj, HZ, HBB⟩ := hrel
      generalize wr = w0 at *
      obtain ⟨⟨t0, t1, t2, t3, t4⟩, hb, hzr⟩ := HS.out w0 HBB.out
      have HB := Lib.hid hb
      have HZR := Lib.hid hzr
      clear hb hzr
      by_cases hlt : j < ln
      · obtain ⟨x, hx⟩ : ∃ x, l[j]? = some x := ⟨_, List.getElem?_eq_getElem (by rw [← HN.out]; exact hlt)⟩
        have HR : Hid (RdSps w0 B A l) := Lib.hid (HY.out.below (HB.out.mono hB))
        obtain ⟨a, ha, hab, hc, hl2⟩ := HR.out.at_ hx
        subst ha
        have hBr : B ≤ w0.heap.size := Nat.le_trans hB HZR.out
        obtain ⟨⟨x0, x1, x2, x3, x4, x5, x6, x7, x8, ats⟩, xA, xc⟩ := x
        have c0 := hc 0 _ rfl
        have c1 := cell_far (hc 1 _ rfl) (by omega)
        have c2 := cell_far (hc 2 _ rfl) (by omega)
        have c3 := cell_far (hc 3 _ rfl) (by omega)
        have c4 := cell_far (hc 4 _ rfl) (by omega)
        have c5 := cell_far (hc 5 _ rfl) (by omega)
        have c6 := cell_far (hc 6 _ rfl) (by omega)
        have c7 := cell_far (hc 7 _ rfl) (by omega)
        have c8 := cell_far (hc 8 _ rfl) (by omega)
        have c9 := cell_far (hc 9 _ rfl) (by omega)
        simp only [Nat.add_zero] at c0
        have HX := Lib.hid hx
        have HL2 := Lib.hid hl2
        have hab2 : a.block < w0.heap.size := by omega
        have hab3 : a.block ≠ w0.heap.size := by omega
        have hbn : w.heap.size ≠ w0.heap.size := by have := HBB.out.size; omega
        have hbl : w.heap.size < w0.heap.size := by have := HBB.out.size; omega
        obtain ⟨xn, hxn⟩ : ∃ xn, ats.length = xn := ⟨_, rfl⟩
        have HXN := Lib.hid hxn
        have hxl : xn ≤ maxLen := by rw [← hxn]; exact hl2.ok.ats.1
        simp only [maxLen] at hxl
        rw [hxn] at c9
        have HIS : Hid (isS 5 n key val ⟨x0, x1, x2, x3, x4, x5, x6, x7, x8, ats⟩ = x8) := rfl
        have HB1 := Lib.hid ((Below.refl w0.heap.size w0).alloc (Nat.le_refl _) (.cells #[.int .u64 x0, .int .u64 x1, .int .u64 x2, .int .u64 x3, .string x4, .string x5, .int .i64 x6, .int .i64 x7, .bool x8, .slice xA xn xc] 42))
        have q0 := heap_alloc_new w0 (.cells #[.int .u64 x0, .int .u64 x1, .int .u64 x2, .int .u64 x3, .string x4, .string x5, .int .i64 x6, .int .i64 x7, .bool x8, .slice xA xn xc] 42)
        have g9 : (w0.alloc (.cells #[.int .u64 x0, .int .u64 x1, .int .u64 x2, .int .u64 x3, .string x4, .string x5, .int .i64 x6, .int .i64 x7, .bool x8, .slice xA xn xc] 42)).cell? ⟨w0.heap.size, 9, none⟩ = some (.slice xA xn xc) := cell_of_row _ _ 9 _ _ (0, 0) q0
        have hz4 : w0.heap.size < (w0.alloc (.cells #[.int .u64 x0, .int .u64 x1, .int .u64 x2, .int .u64 x3, .string x4, .string x5, .int .i64 x6, .int .i64 x7, .bool x8, .slice xA xn xc] 42)).heap.size := by simp
        clear hc hl2 hx hab hxn q0
        cases x8
        · have HP := Lib.hid (any_not_take (p := fun x : Ls => isS 5 n key val x.s) HX.out HZ.out (by rw [HIS.out]))
          go_wp2_with fail
          have h4 : (w0.alloc (.cells #[.int .u64 x0, .int .u64 x1, .int .u64 x2, .int .u64 x3, .string x4, .string x5, .int .i64 x6, .int .i64 x7, .bool false, .slice xA xn xc] 42)).cell? ⟨w.heap.size, 0, none⟩ = some (.int .i64 5) := (World.cell?_alloc_lt _ _ ⟨w.heap.size, 0, none⟩ hbl).trans t0
          have h42 : (w0.alloc (.cells #[.int .u64 x0, .int .u64 x1, .int .u64 x2, .int .u64 x3, .string x4, .string x5, .int .i64 x6, .int .i64 x7, .bool false, .slice xA xn xc] 42)).cell? ⟨w.heap.size, 2, none⟩ = some (.string key) := (World.cell?_alloc_lt _ _ ⟨w.heap.size, 2, none⟩ hbl).trans t2
          have h43 : (w0.alloc (.cells #[.int .u64 x0, .int .u64 x1, .int .u64 x2, .int .u64 x3, .string x4, .string x5, .int .i64 x6, .int .i64 x7, .bool false, .slice xA xn xc] 42)).cell? ⟨w.heap.size, 3, none⟩ = some (.string val) := (World.cell?_alloc_lt _ _ ⟨w.heap.size, 3, none⟩ hbl).trans t3
          clear c0 c1 c2 c3 c4 c5 c6 c7 c8 c9
          generalize w0.alloc (.cells #[.int .u64 x0, .int .u64 x1, .int .u64 x2, .int .u64 x3, .string x4, .string x5, .int .i64 x6, .int .i64 x7, .bool false, .slice xA xn xc] 42) = W1 at *
          have HT := Lib.hid (show ∀ V, Below W1.heap.size W1 V → V.cell? ⟨w.heap.size, 0, none⟩ = some (.int .i64 5) ∧ V.cell? ⟨w.heap.size, 2, none⟩ = some (.string key) ∧ V.cell? ⟨w.heap.size, 3, none⟩ = some (.string val) ∧ V.cell? ⟨w0.heap.size, 9, none⟩ = some (.slice xA xn xc) from fun V hV => ⟨(hV.cell (p := ⟨w.heap.size, 0, none⟩) (Nat.lt_trans hbl hz4)).trans h4, (hV.cell (p := ⟨w.heap.size, 2, none⟩) (Nat.lt_trans hbl hz4)).trans h42, (hV.cell (p := ⟨w.heap.size, 3, none⟩) (Nat.lt_trans hbl hz4)).trans h43, (hV.cell (p := ⟨w0.heap.size, 9, none⟩) hz4).trans g9⟩)
          clear h4 h42 h43 g9 t0 t1 t2 t3 t4
          go_loopw [7] (fun i wr => i = .int .i64 0 ∧ Hid (Below W1.heap.size W1 wr)) (fun _ _ => 0)
          case atStart => exact ⟨rfl, Lib.hid (Below.refl _ _)⟩
          case round =>
            obtain ⟨rfl, HB2⟩ := hrel
            obtain ⟨h4, h42, h43, g9⟩ := HT.out wr HB2.out
            have hxc : xn = 0 ∨ 0 < xn := by omega
            rcases hxc with rfl | hxc
            all_goals
              go_wp2_with fail
              go_roundw
              case rel => exact ⟨j + 1, by go_num, by omega, HP, Lib.hid (HBB.out.trans ((HB1.out.trans (HB2.out.mono HB1.out.size)).mono HBB.out.size))⟩
              case measure => simp [intOf]; omega
        · have HP := Lib.hid (any_hit (p := fun x : Ls => isS 5 n key val x.s) HX.out (by rw [HIS.out]))
          go_wp2_with fail
          go_ret
          exact ⟨by rw [← HI.out, HP.out]; rfl, HB.out.trans (HB1.out.mono HB.out.size)⟩
      · obtain rfl : j = ln := by omega
        have HF := Lib.hid (any_none (p := fun x : Ls => isS 5 n key val x.s) (by rw [HN.out]; exact Nat.le_refl _) HZ.out)
        go_wp2_with fail
        go_ret
        exact ⟨by rw [← HI.out, HF.out]; rfl, HB.out⟩
  · obtain ⟨ii, hii⟩ : ∃ ii, (l.any fun x => isS 6 n key val x.s) = ii := ⟨_, rfl⟩
    have HI := Lib.hid hii
    rw [hii]
    clear hii
    go_enter Try.func50, Try.ntmps50
    go_wp2_with fail
    have HBX0 := (Below.refl w.heap.size w).alloc (Nat.le_refl _) (.cells #[.int .i64 6, .int .i64 n, .string key, .string val, .slice kA q kc] 24)
    have r0 := heap_alloc_new w (.cells #[.int .i64 6, .int .i64 n, .string key, .string val, .slice kA q kc] 24)
    have hz0 : w.heap.size < (w.alloc (.cells #[.int .i64 6, .int .i64 n, .string key, .string val, .slice kA q kc] 24)).heap.size := by simp
    generalize hWX : w.alloc (.cells #[.int .i64 6, .int .i64 n, .string key, .string val, .slice kA q kc] 24) = WX at *
    have hzz : w.heap.size ≤ WX.heap.size := by omega
    have s0 : WX.cell? ⟨w.heap.size, 0, none⟩ = some (.int .i64 6) := cell_of_row _ _ 0 _ _ (0, 0) r0
    have s1 : WX.cell? ⟨w.heap.size, 1, none⟩ = some (.int .i64 n) := cell_of_row _ _ 1 _ _ (0, 0) r0
    have s2 : WX.cell? ⟨w.heap.size, 2, none⟩ = some (.string key) := cell_of_row _ _ 2 _ _ (0, 0) r0
    have s3 : WX.cell? ⟨w.heap.size, 3, none⟩ = some (.string val) := cell_of_row _ _ 3 _ _ (0, 0) r0
    have s4 : WX.cell? ⟨w.heap.size, 4, none⟩ = some (.slice kA q kc) := cell_of_row _ _ 4 _ _ (0, 0) r0
    have HS := Lib.hid (show ∀ V, Below WX.heap.size WX V → (V.cell? ⟨w.heap.size, 0, none⟩ = some (.int .i64 6) ∧ V.cell? ⟨w.heap.size, 1, none⟩ = some (.int .i64 n) ∧ V.cell? ⟨w.heap.size, 2, none⟩ = some (.string key) ∧ V.cell? ⟨w.heap.size, 3, none⟩ = some (.string val) ∧ V.cell? ⟨w.heap.size, 4, none⟩ = some (.slice kA q kc)) ∧ Below w.heap.size w V ∧ w.heap.size ≤ V.heap.size from fun V hV => ⟨⟨(hV.cell (p := ⟨w.heap.size, 0, none⟩) hz0).trans s0, (hV.cell (p := ⟨w.heap.size, 1, none⟩) hz0).trans s1, (hV.cell (p := ⟨w.heap.size, 2, none⟩) hz0).trans s2, (hV.cell (p := ⟨w.heap.size, 3, none⟩) hz0).trans s3, (hV.cell (p := ⟨w.heap.size, 4, none⟩) hz0).trans s4⟩, HBX0.trans (hV.mono hzz), Nat.le_trans hzz hV.size⟩)
    clear r0 hWX
    go_loopw [5] (fun i wr => ∃ (j : Nat), i = .int .i64 (j : Int) ∧ j ≤ ln ∧ Hid (∀ x ∈ l.take j, isS 6 n key val x.s = false) ∧ Hid (Below WX.heap.size WX wr)) (fun i _ => ln - (intOf i).toNat)
    case atStart => exact ⟨0, rfl, by omega, Lib.hid (by simp), Lib.hid (Below.refl _ _)⟩
    case round =>
      obtain ⟨j, rfl, hj, HZ, HBB⟩ := hrel
      generalize wr = w0 at *
      obtain ⟨⟨t0, t1, t2, t3, t4⟩, hb, hzr⟩ := HS.out w0 HBB.out
      have HB := Lib.hid hb
      have HZR := Lib.hid hzr
      clear hb hzr
      by_cases hlt : j < ln
      · obtain ⟨x, hx⟩ : ∃ x, l[j]? = some x := ⟨_, List.getElem?_eq_getElem (by rw [← HN.out]; exact hlt)⟩
        have HR : Hid (RdSps w0 B A l) := Lib.hid (HY.out.below (HB.out.mono hB))
        obtain ⟨a, ha, hab, hc, hl2⟩ := HR.out.at_ hx
        subst ha
        have hBr : B ≤ w0.heap.size := Nat.le_trans hB HZR.out
        obtain ⟨⟨x0, x1, x2, x3, x4, x5, x6, x7, x8, ats⟩, xA, xc⟩ := x
        have c0 := hc 0 _ rfl
        have c1 := cell_far (hc 1 _ rfl) (by omega)
        have c2 := cell_far (hc 2 _ rfl) (by omega)
        have c3 := cell_far (hc 3 _ rfl) (by omega)
        have c4 := cell_far (hc 4 _ rfl) (by omega)
        have c5 := cell_far (hc 5 _ rfl) (by omega)
        have c6 := cell_far (hc 6 _ rfl) (by omega)
        have c7 := cell_far (hc 7 _ rfl) (by omega)
        have c8 := cell_far (hc 8 _ rfl) (by omega)
        have c9 := cell_far (hc 9 _ rfl) (by omega)
        simp only [Nat.add_zero] at c0
        have HX := Lib.hid hx
        have HL2 := Lib.hid hl2
        have hab2 : a.block < w0.heap.size := by omega
        have hab3 : a.block ≠ w0.heap.size := by omega
        have hbn : w.heap.size ≠ w0.heap.size := by have := HBB.out.size; omega
        have hbl : w.heap.size < w0.heap.size := by have := HBB.out.size; omega
        obtain ⟨xn, hxn⟩ : ∃ xn, ats.length = xn := ⟨_, rfl⟩
        have HXN := Lib.hid hxn
        have hxl : xn ≤ maxLen := by rw [← hxn]; exact hl2.ok.ats.1
        simp only [maxLen] at hxl
        rw [hxn] at c9
        have HIS : Hid (isS 6 n key val ⟨x0, x1, x2, x3, x4, x5, x6, x7, x8, ats⟩ = ats.any (isA key val)) := rfl
        have HB1 := Lib.hid ((Below.refl w0.heap.size w0).alloc (Nat.le_refl _) (.cells #[.int .u64 x0, .int .u64 x1, .int .u64 x2, .int .u64 x3, .string x4, .string x5, .int .i64 x6, .int .i64 x7, .bool x8, .slice xA xn xc] 42))
        have q0 := heap_alloc_new w0 (.cells #[.int .u64 x0, .int .u64 x1, .int .u64 x2, .int .u64 x3, .string x4, .string x5, .int .i64 x6, .int .i64 x7, .bool x8, .slice xA xn xc] 42)
        have g9 : (w0.alloc (.cells #[.int .u64 x0, .int .u64 x1, .int .u64 x2, .int .u64 x3, .string x4, .string x5, .int .i64 x6, .int .i64 x7, .bool x8, .slice xA xn xc] 42)).cell? ⟨w0.heap.size, 9, none⟩ = some (.slice xA xn xc) := cell_of_row _ _ 9 _ _ (0, 0) q0
        have hz4 : w0.heap.size < (w0.alloc (.cells #[.int .u64 x0, .int .u64 x1, .int .u64 x2, .int .u64 x3, .string x4, .string x5, .int .i64 x6, .int .i64 x7, .bool x8, .slice xA xn xc] 42)).heap.size := by simp
        clear hc hl2 hx hab hxn q0
        go_wp2_with fail
        have h4 : (w0.alloc (.cells #[.int .u64 x0, .int .u64 x1, .int .u64 x2, .int .u64 x3, .string x4, .string x5, .int .i64 x6, .int .i64 x7, .bool x8, .slice xA xn xc] 42)).cell? ⟨w.heap.size, 0, none⟩ = some (.int .i64 6) := (World.cell?_alloc_lt _ _ ⟨w.heap.size, 0, none⟩ hbl).trans t0
        have h42 : (w0.alloc (.cells #[.int .u64 x0, .int .u64 x1, .int .u64 x2, .int .u64 x3, .string x4, .string x5, .int .i64 x6, .int .i64 x7, .bool x8, .slice xA xn xc] 42)).cell? ⟨w.heap.size, 2, none⟩ = some (.string key) := (World.cell?_alloc_lt _ _ ⟨w.heap.size, 2, none⟩ hbl).trans t2
        have h43 : (w0.alloc (.cells #[.int .u64 x0, .int .u64 x1, .int .u64 x2, .int .u64 x3, .string x4, .string x5, .int .i64 x6, .int .i64 x7, .bool x8, .slice xA xn xc] 42)).cell? ⟨w.heap.size, 3, none⟩ = some (.string val) := (World.cell?_alloc_lt _ _ ⟨w.heap.size, 3, none⟩ hbl).trans t3
        clear c0 c1 c2 c3 c4 c5 c6 c7 c8 c9
        generalize w0.alloc (.cells #[.int .u64 x0, .int .u64 x1, .int .u64 x2, .int .u64 x3, .string x4, .string x5, .int .i64 x6, .int .i64 x7, .bool x8, .slice xA xn xc] 42) = W1 at *
        have HT := Lib.hid (show ∀ V, Below W1.heap.size W1 V → V.cell? ⟨w.heap.size, 0, none⟩ = some (.int .i64 6) ∧ V.cell? ⟨w.heap.size, 2, none⟩ = some (.string key) ∧ V.cell? ⟨w.heap.size, 3, none⟩ = some (.string val) ∧ V.cell? ⟨w0.heap.size, 9, none⟩ = some (.slice xA xn xc) from fun V hV => ⟨(hV.cell (p := ⟨w.heap.size, 0, none⟩) (Nat.lt_trans hbl hz4)).trans h4, (hV.cell (p := ⟨w.heap.size, 2, none⟩) (Nat.lt_trans hbl hz4)).trans h42, (hV.cell (p := ⟨w.heap.size, 3, none⟩) (Nat.lt_trans hbl hz4)).trans h43, (hV.cell (p := ⟨w0.heap.size, 9, none⟩) hz4).trans g9⟩)
        clear h4 h42 h43 g9 t0 t1 t2 t3 t4
        go_loopw [7] (fun i wr => ∃ (i' : Nat), i = .int .i64 (i' : Int) ∧ i' ≤ xn ∧ Hid (∀ a ∈ ats.take i', isA key val a = false) ∧ Hid (Below W1.heap.size W1 wr)) (fun i _ => xn - (intOf i).toNat)
        case atStart => exact ⟨0, rfl, by omega, Lib.hid (by simp), Lib.hid (Below.refl _ _)⟩
        case round =>
          obtain ⟨i, rfl, hi, HYA, HB2⟩ := hrel
          obtain ⟨h4, h42, h43, g9⟩ := HT.out wr HB2.out
          by_cases hli : i < xn
          · obtain ⟨y, hy⟩ : ∃ y, ats[i]? = some y := ⟨_, List.getElem?_eq_getElem (by rw [HXN.out]; exact hli)⟩
            obtain ⟨a2, ha2, hab4, d0, d1, l1, l2⟩ := (HL2.out.below ((HB1.out.trans (HB2.out.mono HB1.out.size)).mono hBr)).attr hy
            have ha2 : xA = some a2 := ha2
            subst ha2
            have d1 := cell_far d1 (by omega)
            obtain ⟨y1, y2⟩ := y
            simp only [maxLen] at l1 l2 d0 d1
            have HYY := Lib.hid hy
            clear hy hab4
            by_cases e1 : y1 = key
            · by_cases e2 : y2 = val
              · subst e1 e2
                have HP := Lib.hid (any_hit (p := fun x : Ls => isS 6 n y1 y2 x.s) HX.out (by rw [HIS.out]; exact any_hit (p := isA y1 y2) HYY.out (by simp [isA])))
                go_wp2_with fail
                go_quiet (fail)
                go_wp2_with fail
                go_ret
                exact ⟨by rw [← HI.out, HP.out]; rfl, HB.out.trans ((HB1.out.trans (HB2.out.mono HB1.out.size)).mono HB.out.size |>.trans ⟨rfl, rfl, rfl, Nat.le_refl _, fun _ _ => rfl⟩)⟩
              · subst e1
                have hs := str_off e2
                have HF := Lib.hid (any_not_take HYY.out HYA.out (show isA y1 val (y1, y2) = false from by unfold isA; rw [hs]; simp))
                clear e2
                go_wp2_with fail
                go_quiet (fail)
                go_wp2_with fail
                go_roundw
                case rel => exact ⟨i + 1, by go_num, by omega, HF, Lib.hid (HB2.out.trans ⟨rfl, rfl, rfl, Nat.le_refl _, fun _ _ => rfl⟩)⟩
                case measure => simp [intOf]; omega
            · have hs := str_off e1
              have HF := Lib.hid (any_not_take HYY.out HYA.out (show isA key val (y1, y2) = false from by unfold isA; rw [hs]; simp))
              clear e1
              go_wp2_with fail
              go_quiet (fail)
              go_wp2_with fail
              go_roundw
              case rel => exact ⟨i + 1, by go_num, by omega, HF, Lib.hid (HB2.out.trans ⟨rfl, rfl, rfl, Nat.le_refl _, fun _ _ => rfl⟩)⟩
              case measure => simp [intOf]; omega
          · obtain rfl : i = xn := by omega
            have HP := Lib.hid (any_not_take (p := fun x : Ls => isS 6 n key val x.s) HX.out HZ.out (by rw [HIS.out]; exact any_none (p := isA key val) (by rw [HXN.out]; exact Nat.le_refl _) HYA.out))
            go_wp2_with fail
            go_roundw
            case rel => exact ⟨j + 1, by go_num, by omega, HP, Lib.hid (HBB.out.trans ((HB1.out.trans (HB2.out.mono HB1.out.size)).mono HBB.out.size))⟩
            case measure => simp [intOf]; omega
      · obtain rfl : j = ln := by omega
        have HF := Lib.hid (any_none (p := fun x : Ls => isS 6 n key val x.s) (by rw [HN.out]; exact Nat.le_refl _) HZ.out)
        go_wp2_with fail
        go_ret
        exact ⟨by rw [← HI.out, HF.out]; rfl, HB.out⟩
end Go.Proofs.Ytenioeppmgmdiaa
