/- What the code and the document write of a number and of a text, onto a row of one's own. -/
import Derived.Test.YthkclgkbidhmbaaPuta
namespace Go.Proofs.Ythkclgkbidhmbaa
open Go.RowKit
set_option maxHeartbeats 1000000 in
theorem put_calls (A : Option Addr) (l : List UInt8) (c B n : Nat) (w : World) (hb : Rd w B A (l.map B8)) (hB : B ≤ w.heap.size) (hl : l.length ≤ 4294967296) (hn : n < 18446744073709551616) :
    Calls Try.prog 20 #[.slice A l.length c, .int .u64 n] w fun e w' => ∃ v', e = .returned v' ∧ w'.ownsRow w.heap.size 5 1 v' (l ++ Mi.put n).length ((l ++ Mi.put n).map B8) ∧ Grew w w' (.slice none 0 0) v' := by
  go_enter Try.func20, Try.ntmps20
  go_wp2_with (first | (go_at_call 55; refine (clone_calls _ _ _ _ _ hb hB hl).mono ?_; rintro e w1 ⟨v1, rfl, ho1, hg1⟩) | (go_at_call 54; refine (append_calls w.heap.size _ _ _ _ ho1 hg1.grown.size hl hn).mono ?_; rintro e w2 ⟨v2, rfl, ho2, hg2⟩))
  go_ret
  exact ⟨v2, rfl, ho2, hg1.trans hg2⟩

set_option maxHeartbeats 1000000 in
theorem appendtext_calls (base : Nat) (v : Value) (l : List UInt8) (s : ByteArray) (w : World) (hown : w.ownsRow base 5 1 v l.length (l.map B8)) (hbase : base ≤ w.heap.size)
    (hl : l.length ≤ 4294967296) (hs : s.size ≤ 4294967296) :
    Calls Try.prog 56 #[v, .string s] w fun e w' => ∃ v', e = .returned v' ∧ w'.ownsRow base 5 1 v' (l ++ Mi.text s.data.toList).length ((l ++ Mi.text s.data.toList).map B8) ∧ Grew w w' v v' := by
  obtain ⟨i0, hi, hz0, hz1, hz2⟩ := info_parts infoB
  have hp := (Mi.put_len s.size).2
  have hll : (l ++ Mi.put s.size).length ≤ 4294967306 := by simp; omega
  go_enter Try.func56, Try.ntmps56
  go_wp2_with (first | (go_at_call 54; refine (append_calls base _ _ s.size _ hown hbase hl (by omega)).mono ?_; rintro e w1 ⟨v1, rfl, ho1, hg1⟩) | (at_builtin; refine wpList_app rfl (.tmp 9) (.tmp 10) _ _ rfl rfl rfl (run_append_str _ base _ _ _ 5 i0 _ 1 Try.underlying22 Try.underlying9 hi hz0 hz1 hz2 rfl v1 _ _ ho1 s (by unfold maxLen; omega) (by omega) (Nat.le_trans hbase hg1.grown.size)) ?_; rintro v2 w2 ⟨ho2, hg2⟩))
  go_ret
  refine ⟨v2, rfl, ?_, hg1.trans hg2⟩
  have e1 : (l ++ Mi.text s.data.toList).map B8 = (l ++ Mi.put s.size).map B8 ++ s.data.toList.map B8 := by
    simp [Mi.text]
  have e2 : (l ++ Mi.text s.data.toList).length = (l ++ Mi.put s.size).length + s.size := by
    simp only [Mi.text, List.length_append, size_list]; omega
  rw [e1, e2]
  exact ho2

set_option maxHeartbeats 1000000 in
theorem rtext_calls (base : Nat) (v : Value) (l : List UInt8) (s : ByteArray) (w : World) (hown : w.ownsRow base 5 1 v l.length (l.map B8)) (hbase : base ≤ w.heap.size)
    (hl : l.length ≤ 4294967296) (hs : s.size ≤ 4294967296) :
    Calls Try.prog 23 #[v, .string s] w fun e w' => ∃ v', e = .returned v' ∧ w'.ownsRow base 5 1 v' (l ++ Mi.text s.data.toList).length ((l ++ Mi.text s.data.toList).map B8) ∧ Grew w w' v v' := by
  obtain ⟨i0, hi, hz0, hz1, hz2⟩ := info_parts infoB
  have hp := (Mi.put_len s.size).2
  have hll : (l ++ Mi.put s.size).length ≤ 4294967306 := by simp; omega
  go_enter Try.func23, Try.ntmps23
  go_wp2_with (first | (go_at_call 21; refine (rput_calls base _ _ s.size _ hown hbase hl (by omega)).mono ?_; rintro e w1 ⟨v1, rfl, ho1, hg1⟩) | (at_builtin; refine wpList_app rfl (.tmp 9) (.tmp 10) _ _ rfl rfl rfl (run_append_str _ base _ _ _ 5 i0 _ 1 Try.underlying22 Try.underlying9 hi hz0 hz1 hz2 rfl v1 _ _ ho1 s (by unfold maxLen; omega) (by omega) (Nat.le_trans hbase hg1.grown.size)) ?_; rintro v2 w2 ⟨ho2, hg2⟩))
  go_ret
  refine ⟨v2, rfl, ?_, hg1.trans hg2⟩
  have e1 : (l ++ Mi.text s.data.toList).map B8 = (l ++ Mi.put s.size).map B8 ++ s.data.toList.map B8 := by
    simp [Mi.text]
  have e2 : (l ++ Mi.text s.data.toList).length = (l ++ Mi.put s.size).length + s.size := by
    simp only [Mi.text, List.length_append, size_list]; omega
  rw [e1, e2]
  exact ho2

set_option maxHeartbeats 1000000 in
theorem text_calls (A : Option Addr) (l : List UInt8) (c B : Nat) (s : ByteArray) (w : World) (hb : Rd w B A (l.map B8)) (hB : B ≤ w.heap.size) (hl : l.length ≤ 4294967296) (hs : s.size ≤ 4294967296) :
    Calls Try.prog 22 #[.slice A l.length c, .string s] w fun e w' => ∃ v', e = .returned v' ∧ w'.ownsRow w.heap.size 5 1 v' (l ++ Mi.text s.data.toList).length ((l ++ Mi.text s.data.toList).map B8) ∧ Grew w w' (.slice none 0 0) v' := by
  go_enter Try.func22, Try.ntmps22
  go_wp2_with (first | (go_at_call 55; refine (clone_calls _ _ _ _ _ hb hB hl).mono ?_; rintro e w1 ⟨v1, rfl, ho1, hg1⟩) | (go_at_call 56; refine (appendtext_calls w.heap.size _ _ _ _ ho1 hg1.grown.size hl hs).mono ?_; rintro e w2 ⟨v2, rfl, ho2, hg2⟩))
  go_ret
  exact ⟨v2, rfl, ho2, hg1.trans hg2⟩

/-- The same, the length spelled as it stands at the call. -/
theorem putN (A : Option Addr) (l : List UInt8) (m c B n : Nat) (w : World) (hm : m = l.length) (hb : Rd w B A (l.map B8)) (hB : B ≤ w.heap.size) (hl : l.length ≤ 4294967296) (hn : n < 18446744073709551616) :
    Calls Try.prog 20 #[.slice A m c, .int .u64 n] w fun e w' => ∃ A' m' c', e = .returned (.slice A' m' c') ∧ m' = (l ++ Mi.put n).length ∧ m' ≤ c' ∧ Rd w' w'.heap.size A' ((l ++ Mi.put n).map B8) ∧ Below w.heap.size w w' := by
  subst hm
  refine (put_calls A l c B n w hb hB hl hn).mono ?_
  rintro e w' ⟨v', rfl, ho, hg⟩
  obtain ⟨A', c', rfl, hc, hr⟩ := own_rd ho
  exact ⟨A', _, c', rfl, rfl, hc, hr, hg.new⟩
theorem textN (A : Option Addr) (l : List UInt8) (m c B : Nat) (s : ByteArray) (w : World) (hm : m = l.length) (hb : Rd w B A (l.map B8)) (hB : B ≤ w.heap.size) (hl : l.length ≤ 4294967296) (hs : s.size ≤ 4294967296) :
    Calls Try.prog 22 #[.slice A m c, .string s] w fun e w' => ∃ A' m' c', e = .returned (.slice A' m' c') ∧ m' = (l ++ Mi.text s.data.toList).length ∧ m' ≤ c' ∧ Rd w' w'.heap.size A' ((l ++ Mi.text s.data.toList).map B8) ∧ Below w.heap.size w w' := by
  subst hm
  refine (text_calls A l c B s w hb hB hl hs).mono ?_
  rintro e w' ⟨v', rfl, ho, hg⟩
  obtain ⟨A', c', rfl, hc, hr⟩ := own_rd ho
  exact ⟨A', _, c', rfl, rfl, hc, hr, hg.new⟩
end Go.Proofs.Ythkclgkbidhmbaa
