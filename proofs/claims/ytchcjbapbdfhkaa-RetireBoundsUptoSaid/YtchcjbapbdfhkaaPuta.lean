/- What the code and the document write of a number, onto a row of one's own; a copy. -/
import Derived.Test.YtchcjbapbdfhkaaRows
import Derived.Test.YtchcjbapbdfhkaaBs
import Derived.Test.YtchcjbapbdfhkaaPl
namespace Go.Proofs.Ytchcjbapbdfhkaa
open Go.RowKit
theorem infoB : (Try.prog.info? 5).map (fun i => (i.zero, i.size, i.bytes)) = some (some (.int .u8 0), 1, 1) := by kernel_rfl

/-- append of bytes onto a row of one's own. -/
theorem appB {w : World} {ty : TypeId} {base : Nat} {v : Value} {k : List UInt8} (hown : w.ownsRow base 5 1 v k.length (k.map B8)) {B : Nat} {A : Option Addr} {l : List UInt8} {c : Nat} (hr : Rd w B A (l.map B8))
    (hl : k.length + l.length ≤ 4294967296) (hbase : base ≤ w.heap.size) :
    ∃ v' w', (Builtin.append_ #[25, 25] ty #[v, .slice A l.length c]).run Try.prog w = .ok v' w' ∧ (w'.ownsRow base 5 1 v' (k ++ l).length ((k ++ l).map B8) ∧ Grew w w' v v') := by
  obtain ⟨i0, hi, hz0, hz1, hz2⟩ := info_parts infoB
  obtain ⟨v', w', h1, h2, h3⟩ := run_append_rd (P := Try.prog) w base 25 ty 5 i0 _ 1 1 Try.underlying25 hi hz0 hz1 hz2 rfl v k.length (k.map B8) hown B A l.length c (l.map B8) (by simp) hr (by simp [B8, Value.oneCell']) (by unfold maxLen; omega) (by omega) hbase
  exact ⟨v', w', h1, by rw [List.length_append, List.map_append]; exact h2, h3⟩
theorem own_nil (w : World) (base : Nat) : w.ownsRow base 5 1 (.slice none 0 0) ([] : List UInt8).length (([] : List UInt8).map B8) := World.ownsRow_nil _ _ _ _

set_option maxHeartbeats 1000000 in
set_option maxRecDepth 100000 in
theorem append_calls (base : Nat) (v : Value) (l : List UInt8) (n : Nat) (w : World) (hown : w.ownsRow base 5 1 v l.length (l.map B8)) (hbase : base ≤ w.heap.size)
    (hl : l.length ≤ 4294967296) (hn : n < 18446744073709551616) :
    Calls Try.prog 47 #[v, .int .u64 n] w fun e w' => ∃ v', e = .returned v' ∧ w'.ownsRow base 5 1 v' (l ++ Mi.put n).length ((l ++ Mi.put n).map B8) ∧ Grew w w' v v' := by
  obtain ⟨i0, hi, hz0, hz1, hz2⟩ := info_parts infoB
  go_enter Try.func47, Try.ntmps47
  go_wp2
  go_loopw [0, 1] (fun b m wr => ∃ (pre : List UInt8) (k : Nat), m = .int .u64 k ∧ k ≤ n ∧ pre.length ≤ 10 ∧ Hid (pre ++ Mi.put k = Mi.put n) ∧ wr.ownsRow base 5 1 b (l ++ pre).length ((l ++ pre).map B8) ∧ Grew w wr v b) (fun _ m _ => (intOf m).toNat)
  case atStart => exact ⟨[], n, rfl, by omega, by simp, rfl, by simpa using hown, Grew.refl _ _⟩
  case round =>
    obtain ⟨pre, k, rfl, hk, hp, H, ho, hg⟩ := hrel
    have hbw : base ≤ wr.heap.size := Nat.le_trans hbase hg.grown.size
    have hll : (l ++ pre).length ≤ 4294967306 := by simp; omega
    have HS := Lib.hid (Mi.put_step k (by omega))
    by_cases h127 : 127 < k
    · obtain ⟨c, hc⟩ : ∃ c : UInt8, c = UInt8.ofNat (k % 128 + 128) := ⟨_, rfl⟩
      have e1 := Mi.or128 k
      rw [← hc] at e1
      have H2 : Hid ((pre ++ [c]) ++ Mi.put (k / 128) = Mi.put n) := by
        rw [← H.out, HS.out, if_pos h127, hc, List.append_assoc]; rfl
      have hp2 : pre.length < 10 := by
        have h1 := (Mi.put_len n).2
        have h2 := (Mi.put_len (k / 128)).1
        rw [← H2.out] at h1
        simp only [List.length_append, List.length_singleton] at h1
        omega
      clear hc H HS hown
      go_wp2_with (at_builtin; refine wpList_app rfl (.tmp 7) (.tmp 11) _ _ rfl rfl rfl (run_append_rd _ base _ _ 5 i0 _ 1 1 Try.underlying25 hi hz0 hz1 hz2 rfl u0 _ _ (ho.alloc _) (wr.heap.size + 1) (some ⟨wr.heap.size, 0, none⟩) 1 1 [.int .u8 (c.toNat : Int)] rfl (Rd.one wr _ _) (by simp [Value.oneCell']) (by unfold maxLen; omega) (by omega) (by simp; omega)) ?_; rintro v1 w1 ⟨ho1, hg1⟩)
      go_roundw
      case rel =>
        refine ⟨pre ++ [c], k / 128, by go_num, by omega, by simp; omega, H2, ?_, hg.trans hg1.alloc⟩
        have : (l ++ (pre ++ [c])).map B8 = (l ++ pre).map B8 ++ [B8 c] := by simp
        rw [this]
        have e : (l ++ (pre ++ [c])).length = (l ++ pre).length + 1 := by simp; omega
        rw [e]
        exact ho1
      case measure => simp [intOf]; omega
    · obtain ⟨c, hc⟩ : ∃ c : UInt8, c = UInt8.ofNat k := ⟨_, rfl⟩
      have E1 : Hid (Value.int .u8 (k : Int) = B8 c) := by show Value.int .u8 (k : Int) = B8 c; rw [B8, hc, Mi.low8 k (by omega)]
      have H2 : Hid (pre ++ [c] = Mi.put n) := by
        rw [← H.out, HS.out, if_neg h127, hc]; rfl
      clear hc H HS hown
      go_wp2_with (at_builtin; refine wpList_app rfl (.tmp 15) (.tmp 18) _ _ rfl rfl rfl (run_append_rd _ base _ _ 5 i0 _ 1 1 Try.underlying25 hi hz0 hz1 hz2 rfl u0 _ _ (ho.alloc _) (wr.heap.size + 1) (some ⟨wr.heap.size, 0, none⟩) 1 1 [.int .u8 (k : Int)] rfl (Rd.one wr _ _) (by simp [Value.oneCell']) (by unfold maxLen; omega) (by omega) (by simp; omega)) ?_; rintro v1 w1 ⟨ho1, hg1⟩)
      go_ret
      refine ⟨v1, rfl, ?_, hg.trans hg1.alloc⟩
      rw [← H2.out]
      have : (l ++ (pre ++ [c])).map B8 = (l ++ pre).map B8 ++ [B8 c] := by simp
      rw [this]
      have e : (l ++ (pre ++ [c])).length = (l ++ pre).length + 1 := by simp; omega
      rw [e, ← E1.out]
      exact ho1
set_option maxHeartbeats 1000000 in
set_option maxRecDepth 100000 in
theorem rput_calls (base : Nat) (v : Value) (l : List UInt8) (n : Nat) (w : World) (hown : w.ownsRow base 5 1 v l.length (l.map B8)) (hbase : base ≤ w.heap.size)
    (hl : l.length ≤ 4294967296) (hn : n < 18446744073709551616) :
    Calls Try.prog 34 #[v, .int .u64 n] w fun e w' => ∃ v', e = .returned v' ∧ w'.ownsRow base 5 1 v' (l ++ Mi.put n).length ((l ++ Mi.put n).map B8) ∧ Grew w w' v v' := by
  obtain ⟨i0, hi, hz0, hz1, hz2⟩ := info_parts infoB
  go_enter Try.func34, Try.ntmps34
  go_wp2
  go_loopw [0, 1] (fun b m wr => ∃ (pre : List UInt8) (k : Nat), m = .int .u64 k ∧ k ≤ n ∧ pre.length ≤ 10 ∧ Hid (pre ++ Mi.put k = Mi.put n) ∧ wr.ownsRow base 5 1 b (l ++ pre).length ((l ++ pre).map B8) ∧ Grew w wr v b) (fun _ m _ => (intOf m).toNat)
  case atStart => exact ⟨[], n, rfl, by omega, by simp, rfl, by simpa using hown, Grew.refl _ _⟩
  case round =>
    obtain ⟨pre, k, rfl, hk, hp, H, ho, hg⟩ := hrel
    have hbw : base ≤ wr.heap.size := Nat.le_trans hbase hg.grown.size
    have hll : (l ++ pre).length ≤ 4294967306 := by simp; omega
    have HS := Lib.hid (Mi.put_step k (by omega))
    by_cases h127 : 127 < k
    · obtain ⟨c, hc⟩ : ∃ c : UInt8, c = UInt8.ofNat (k % 128 + 128) := ⟨_, rfl⟩
      obtain ⟨q, hq⟩ : ∃ q : Nat, q = k % 128 := ⟨_, rfl⟩
      have hq128 : q < 128 := by omega
      have e0 : bits .and .u64 (k : Int) 127 = (q : Int) := by
        rw [hq, show (127 : Int) = ((127 : Nat) : Int) from rfl, u64_and_nat k 127 (by omega) (by omega), Nat.and_two_pow_sub_one_eq_mod k 7]
      have e1 : bits .or .u8 (q : Int) 128 = (c.toNat : Int) := by
        have := Mi.or128 q
        rw [show ((q : Int) % 256) = (q : Int) from by omega, show q % 128 = k % 128 from by omega, ← hc] at this
        exact this
      clear hq
      have H2 : Hid ((pre ++ [c]) ++ Mi.put (k / 128) = Mi.put n) := by
        rw [← H.out, HS.out, if_pos h127, hc, List.append_assoc]; rfl
      have hp2 : pre.length < 10 := by
        have h1 := (Mi.put_len n).2
        have h2 := (Mi.put_len (k / 128)).1
        rw [← H2.out] at h1
        simp only [List.length_append, List.length_singleton] at h1
        omega
      clear hc H HS hown
      go_wp2_with (at_builtin; refine wpList_app rfl (.tmp 7) (.tmp 12) _ _ rfl rfl rfl (run_append_rd _ base _ _ 5 i0 _ 1 1 Try.underlying25 hi hz0 hz1 hz2 rfl u0 _ _ (ho.alloc _) (wr.heap.size + 1) (some ⟨wr.heap.size, 0, none⟩) 1 1 [.int .u8 (c.toNat : Int)] rfl (Rd.one wr _ _) (by simp [Value.oneCell']) (by unfold maxLen; omega) (by omega) (by simp; omega)) ?_; rintro v1 w1 ⟨ho1, hg1⟩)
      go_roundw
      case rel =>
        refine ⟨pre ++ [c], k / 128, by go_num, by omega, by simp; omega, H2, ?_, hg.trans hg1.alloc⟩
        have : (l ++ (pre ++ [c])).map B8 = (l ++ pre).map B8 ++ [B8 c] := by simp
        rw [this]
        have e : (l ++ (pre ++ [c])).length = (l ++ pre).length + 1 := by simp; omega
        rw [e]
        exact ho1
      case measure => simp [intOf]; omega
    · obtain ⟨c, hc⟩ : ∃ c : UInt8, c = UInt8.ofNat k := ⟨_, rfl⟩
      have E1 : Hid (Value.int .u8 (k : Int) = B8 c) := by show Value.int .u8 (k : Int) = B8 c; rw [B8, hc, Mi.low8 k (by omega)]
      have H2 : Hid (pre ++ [c] = Mi.put n) := by
        rw [← H.out, HS.out, if_neg h127, hc]; rfl
      clear hc H HS hown
      go_wp2_with (at_builtin; refine wpList_app rfl (.tmp 16) (.tmp 19) _ _ rfl rfl rfl (run_append_rd _ base _ _ 5 i0 _ 1 1 Try.underlying25 hi hz0 hz1 hz2 rfl u0 _ _ (ho.alloc _) (wr.heap.size + 1) (some ⟨wr.heap.size, 0, none⟩) 1 1 [.int .u8 (k : Int)] rfl (Rd.one wr _ _) (by simp [Value.oneCell']) (by unfold maxLen; omega) (by omega) (by simp; omega)) ?_; rintro v1 w1 ⟨ho1, hg1⟩)
      go_ret
      refine ⟨v1, rfl, ?_, hg.trans hg1.alloc⟩
      rw [← H2.out]
      have : (l ++ (pre ++ [c])).map B8 = (l ++ pre).map B8 ++ [B8 c] := by simp
      rw [this]
      have e : (l ++ (pre ++ [c])).length = (l ++ pre).length + 1 := by simp; omega
      rw [e, ← E1.out]
      exact ho1

end Go.Proofs.Ytchcjbapbdfhkaa
