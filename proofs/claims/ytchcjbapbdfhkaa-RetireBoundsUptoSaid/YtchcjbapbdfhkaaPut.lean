/- What the code and the document write of a number and of a text, onto a row of one's own. -/
import Derived.Test.YtchcjbapbdfhkaaPuta
namespace Go.Proofs.Ytchcjbapbdfhkaa
open Go.RowKit
set_option maxHeartbeats 1000000 in
theorem appendtext_calls (base : Nat) (v : Value) (l : List UInt8) (s : ByteArray) (w : World) (hown : w.ownsRow base 5 1 v l.length (l.map B8)) (hbase : base ≤ w.heap.size)
    (hl : l.length ≤ 4294967296) (hs : s.size ≤ 4294967296) :
    Calls Try.prog 103 #[v, .string s] w fun e w' => ∃ v', e = .returned v' ∧ w'.ownsRow base 5 1 v' (l ++ Mi.text s.data.toList).length ((l ++ Mi.text s.data.toList).map B8) ∧ Grew w w' v v' := by
  obtain ⟨i0, hi, hz0, hz1, hz2⟩ := info_parts infoB
  have hp := (Mi.put_len s.size).2
  have hll : (l ++ Mi.put s.size).length ≤ 4294967306 := by simp; omega
  go_enter Try.func103, Try.ntmps103
  go_wp2_with (first | (go_at_call 47; refine (append_calls base _ _ s.size _ hown hbase hl (by omega)).mono ?_; rintro e w1 ⟨v1, rfl, ho1, hg1⟩) | (at_builtin; refine wpList_app rfl (.tmp 9) (.tmp 10) _ _ rfl rfl rfl (run_append_str _ base _ _ _ 5 i0 _ 1 Try.underlying25 Try.underlying9 hi hz0 hz1 hz2 rfl v1 _ _ ho1 s (by unfold maxLen; omega) (by omega) (Nat.le_trans hbase hg1.grown.size)) ?_; rintro v2 w2 ⟨ho2, hg2⟩))
  go_ret
  refine ⟨v2, rfl, ?_, hg1.trans hg2⟩
  have e1 : (l ++ Mi.text s.data.toList).map B8 = (l ++ Mi.put s.size).map B8 ++ s.data.toList.map B8 := by
    simp [Mi.text]
  have e2 : (l ++ Mi.text s.data.toList).length = (l ++ Mi.put s.size).length + s.size := by
    simp only [Mi.text, List.length_append, size_list]; omega
  rw [e1, e2]
  exact ho2

set_option maxHeartbeats 1000000 in
theorem rtext_calls (base : Nat) (v : Value) (l : List UInt8) (s : ByteArray) (w : World) (hown : w.ownsRow base 5 1 v l.length (l.map B8)) (hbase : base ≤ w.heap.size)
    (hl : l.length ≤ 4294967296) (hs : s.size ≤ 4294967296) :
    Calls Try.prog 114 #[v, .string s] w fun e w' => ∃ v', e = .returned v' ∧ w'.ownsRow base 5 1 v' (l ++ Mi.text s.data.toList).length ((l ++ Mi.text s.data.toList).map B8) ∧ Grew w w' v v' := by
  obtain ⟨i0, hi, hz0, hz1, hz2⟩ := info_parts infoB
  have hp := (Mi.put_len s.size).2
  have hll : (l ++ Mi.put s.size).length ≤ 4294967306 := by simp; omega
  go_enter Try.func114, Try.ntmps114
  go_wp2_with (first | (go_at_call 34; refine (rput_calls base _ _ s.size _ hown hbase hl (by omega)).mono ?_; rintro e w1 ⟨v1, rfl, ho1, hg1⟩) | (at_builtin; refine wpList_app rfl (.tmp 9) (.tmp 10) _ _ rfl rfl rfl (run_append_str _ base _ _ _ 5 i0 _ 1 Try.underlying25 Try.underlying9 hi hz0 hz1 hz2 rfl v1 _ _ ho1 s (by unfold maxLen; omega) (by omega) (Nat.le_trans hbase hg1.grown.size)) ?_; rintro v2 w2 ⟨ho2, hg2⟩))
  go_ret
  refine ⟨v2, rfl, ?_, hg1.trans hg2⟩
  have e1 : (l ++ Mi.text s.data.toList).map B8 = (l ++ Mi.put s.size).map B8 ++ s.data.toList.map B8 := by
    simp [Mi.text]
  have e2 : (l ++ Mi.text s.data.toList).length = (l ++ Mi.put s.size).length + s.size := by
    simp only [Mi.text, List.length_append, size_list]; omega
  rw [e1, e2]
  exact ho2

end Go.Proofs.Ytchcjbapbdfhkaa
