/- IntsShort: how many bytes a number has, and that there is but one way to write it. -/
import Derived.Test.YtlffhdgfmcjmmaaAlive1
namespace Go.Proofs.Ytlffhdgfmcjmmaa
open Go.RowKit

set_option maxHeartbeats 1000000 in
set_option maxRecDepth 100000 in
theorem short_out (n pad : Int) (w : World) (hp : pad < 1 ∨ 5 < pad) :
    Calls Try.prog 5 #[.int .u64 n, .int .i64 pad] w fun e w' => e = .returned (.bool true) ∧ Below w.heap.size w w' := by
  rcases hp with hp | hp
  · go_enter Try.func5, Try.ntmps5
    go_wp2_with (go_at_call 7; refine (alive1_calls _).mono ?_; rintro e w1 ⟨rfl, hb1⟩)
    go_ret
    exact ⟨rfl, hb1⟩
  · have hp1 : ¬ pad < 1 := by omega
    go_enter Try.func5, Try.ntmps5
    go_wp2_with (go_at_call 7; refine (alive1_calls _).mono ?_; rintro e w1 ⟨rfl, hb1⟩)
    go_ret
    exact ⟨rfl, hb1⟩

set_option maxHeartbeats 2000000 in
set_option maxRecDepth 100000 in
theorem short_in (n : Nat) (pad : Int) (w : World) (hn : n < 18446744073709551616) (h1 : 1 ≤ pad) (h5 : pad ≤ 5) :
    Calls Try.prog 5 #[.int .u64 n, .int .i64 pad] w fun e w' => e = .returned (.bool true) ∧ Below w.heap.size w w' := by
  obtain ⟨i0, hi, hz0, hz1, hz2⟩ := info_parts infoB
  have hpl := (Mi.put_len n).2
  have hpl0 := (Mi.put_len n).1
  have HL := Lib.hid (Mi.len_left n hn)
  go_enter Try.func5, Try.ntmps5
  go_wp2_with (first
    | (go_at_call 7; refine (alive1_calls _).mono ?_; rintro e w1 ⟨rfl, hb1⟩; have hz' := hb1.size)
    | (go_at_call 12; refine (put_calls none [] _ _ n _ Rd.nil (Nat.zero_le _) (by simp) hn).mono ?_; rintro e w2 ⟨v2, rfl, ho2, hg2⟩; rw [List.nil_append] at ho2; have hb2 := hg2.below hb1 hb1.size (by simp [Value.ownBlock]); have hz2' := hb2.size; have HO2 := Lib.hid ho2; clear ho2 hg2 hb1))
  go_loop [7, 8] (fun wnt x => ∃ k q : Nat, wnt = .int .i64 k ∧ x = .int .u64 q ∧ 1 ≤ k ∧ k ≤ 10 ∧ q ≤ n ∧ Hid (k + Mi.left q = (Mi.put n).length)) (fun _ x => (intOf x).toNat)
  case atStart => exact ⟨1, n / 128, rfl, by go_num, by omega, by omega, by omega, HL.out.symm⟩
  case round =>
    obtain ⟨k, q, rfl, rfl, hk1, hk10, hq, H⟩ := hrel
    by_cases hq0 : 0 < q
    · have H2 : Hid (k + 1 + Mi.left (q / 128) = (Mi.put n).length) := by
        rw [← H.out, Mi.left_step q (by omega) hq0]; show _ = _; omega
      have hk9 : k + 1 ≤ 10 := by have := H2.out; omega
      clear H
      go_wp2
      go_round
      case rel => exact ⟨k + 1, q / 128, by go_num, by go_num, by omega, by omega, by omega, H2⟩
      case measure => simp [intOf]; omega
    · have H2 : k = (Mi.put n).length := by
        have := H.out
        have hq : q = 0 := by omega
        subst hq
        simpa [Mi.left] using this
      have hne : (((Mi.put n).length : Int) != (k : Int)) = false := by rw [bne_eq_false_iff_eq, H2]
      clear H H2 HL
      have hh : ∀ j, j + 1 < (Mi.put n).length → 128 ≤ ((Mi.put n).getD j 0).toNat := fun j hj => Mi.put_high 10 n j hj
      generalize Mi.put n = l at *
      obtain ⟨d, c, hd, e1, hall⟩ := Mi.last_high l hpl0 hh
      have HA := Lib.hid hall
      have HD := Lib.hid hd
      clear hh hall hd
      obtain ⟨A2, c2, rfl, hc2, hr2⟩ := own_rd HO2.out
      clear HO2
      go_wp2_with (at_builtin; refine wpList_app rfl (.const (.slice none 0 0)) (.tmp 40) _ _ rfl rfl rfl (run_append_rd _ w2.heap.size _ _ 5 i0 _ 1 1 Try.underlying22 hi hz0 hz1 hz2 rfl (.slice none 0 0) 0 [] (World.ownsRow_nil _ _ _ _) w2.heap.size A2 l.length c2 (l.map B8) (by simp) hr2 (by simp [B8, Value.oneCell']) (by unfold maxLen; omega) (by omega) (Nat.le_refl _)) ?_; rintro v3 w3 ⟨ho3, hg3⟩; rw [List.nil_append, Nat.zero_add] at ho3; obtain ⟨g, cap, rfl, hbg, hgl⟩ := ho3.form (by omega); have hcl : w3.cell? ⟨g, l.length - 1, none⟩ = some (.int .u8 (d.toNat : Int)) := (by rw [ho3.cellAt _ (by omega), List.getElem?_map, HD.out]; rfl); have hfz := ho3.frozenAt (l.length - 1); have hst := Lib.hid (ho3.stored (l.length - 1) (.int .u8 (c.toNat : Int))); have hb3 := Lib.hid (hg3.below hb2 hz2' (by simp [Value.ownBlock])); clear ho3 hg3)
      have hst2 := hst.out.1
      have hsm : (l.map B8).set (l.length - 1) (.int .u8 (c.toNat : Int)) = (l.set (l.length - 1) c).map B8 := by rw [List.map_set]; rfl
      rw [hsm] at hst2
      have hb4 : Below w.heap.size w (w3.setCell ⟨g, l.length - 1, none⟩ (.int .u8 (c.toNat : Int))) := hb3.out.setCell (Nat.le_trans hz2' hbg) _
      have hl4 : (l.set (l.length - 1) c).length = l.length := by simp
      have hl4' : l.length = (l.set (l.length - 1) c).length := hl4.symm
      have HO4 : Hid ((w3.setCell ⟨g, l.length - 1, none⟩ (.int .u8 (c.toNat : Int))).ownsRow w2.heap.size 5 1 (.slice (some ⟨g, 0, none⟩) l.length cap) (l.set (l.length - 1) c).length ((l.set (l.length - 1) c).map B8)) := by
        show World.ownsRow _ _ _ _ _ _ _; rw [hl4]; exact hst2
      have HB4 := Lib.hid hb4
      have hl0 : 0 < (l.set (l.length - 1) c).length := by rw [hl4]; exact hpl0
      have hl10 : (l.set (l.length - 1) c).length ≤ 10 := by rw [hl4]; exact hpl
      clear hst2 hsm hb4 hl4 hl4' hst hb3 hcl hfz e1 HD
      generalize hm0 : l.set (l.length - 1) c = m0 at *
      clear hm0
      generalize w3.setCell ⟨g, l.length - 1, none⟩ (.int .u8 (c.toNat : Int)) = w4 at *
      have hz4 := HB4.out.size
      have hz24 : w2.heap.size ≤ w4.heap.size := by
        obtain ⟨_, _, _, hh, hlt⟩ := HO4.out.form hl0
        omega
      clear hgl
      go_loopw [9, 10] (fun v j wr => ∃ (m : List UInt8) (i : Nat), j = .int .i64 i ∧ (i : Int) ≤ pad ∧ 1 ≤ i ∧ wr.ownsRow w2.heap.size 5 1 v m.length (m.map B8) ∧ 0 < m.length ∧ m.length ≤ 9 + i ∧ (∀ x ∈ m, 128 ≤ x.toNat) ∧ Below w.heap.size w wr ∧ w2.heap.size ≤ wr.heap.size) (fun _ j _ => (pad - intOf j).toNat)
      case atStart => exact ⟨m0, 1, rfl, by omega, by omega, HO4.out, hl0, by omega, HA.out, HB4.out, hz24⟩
      case round =>
        obtain ⟨m, i, rfl, hi1, hi2, ho, hm0', hm9, hall, hb, hz5⟩ := hrel
        have HALL := Lib.hid hall
        have HO := Lib.hid ho
        have HB := Lib.hid hb
        clear hall ho hb HA HO4 HB4
        by_cases hip : (i : Int) < pad
        · go_wp2_with (at_builtin; refine wpList_app rfl (.tmp 59) (.tmp 60) _ _ rfl rfl rfl (run_append_rd _ w2.heap.size _ _ 5 i0 _ 1 1 Try.underlying22 hi hz0 hz1 hz2 rfl u9 _ _ (HO.out.alloc _) (wr.heap.size + 1) (some ⟨wr.heap.size, 0, none⟩) 1 1 [.int .u8 128] rfl (Rd.one wr _ _) (by simp [Value.oneCell']) (by unfold maxLen; omega) (by omega) (by simp; omega)) ?_; rintro v5 w5 ⟨ho5, hg5⟩)
          go_roundw
          case rel =>
            refine ⟨m ++ [128], i + 1, by go_num, by omega, by omega, ?_, by simp, by simp; omega, ?_, ?_, ?_⟩
            · have e1 : (m ++ [128]).length = m.length + 1 := by simp
              have e2 : (m ++ [128]).map B8 = m.map B8 ++ [.int .u8 128] := by simp [B8]
              rw [e1, e2]; exact ho5
            · intro x hx
              rw [List.mem_append] at hx
              rcases hx with hx | hx
              · exact HALL.out x hx
              · simp at hx; subst hx; decide
            · exact hg5.alloc.below HB.out HB.out.size (fun k hk => Nat.le_trans hz2' (own_block_ge HO.out k hk))
            · exact Nat.le_trans hz5 hg5.alloc.grown.size
          case measure => simp [intOf]; omega
        · have HZ := Lib.hid (Mi.get_zero m HALL.out hm0')
          go_wp2_with (first | (go_at_call 8; rw [show m.length + 1 = (m ++ [0]).length from by simp]; refine (get_calls _ (m ++ [0]) _ _ _ hr5 (by simp; omega)).mono ?_; rintro e w6 ⟨rfl, rfl⟩) | (at_builtin; refine wpList_app rfl (.tmp 63) (.tmp 64) _ _ rfl rfl rfl (run_append_rd _ w2.heap.size _ _ 5 i0 _ 1 1 Try.underlying22 hi hz0 hz1 hz2 rfl u9 _ _ (HO.out.alloc _) (wr.heap.size + 1) (some ⟨wr.heap.size, 0, none⟩) 1 1 [.int .u8 0] rfl (Rd.one wr _ _) (by simp [Value.oneCell']) (by unfold maxLen; omega) (by omega) (by simp; omega)) ?_; rintro v5 w5 ⟨ho5, hg5⟩; have hb6 := Lib.hid (hg5.alloc.below HB.out HB.out.size (fun k hk => Nat.le_trans hz2' (own_block_ge HO.out k hk))); obtain ⟨A5, c5, rfl, _, hr5⟩ := own_rd ho5; rw [show m.map B8 ++ [.int .u8 0] = (m ++ [0]).map B8 from by simp [B8]] at hr5; clear ho5 hg5))
          go_ret
          exact ⟨by rw [HZ.out]; rfl, hb6.out⟩
end Go.Proofs.Ytlffhdgfmcjmmaa
