/- A batch is read as it was written: plain. -/
import Derived.Test.YthkclgkbidhmbaaTr
namespace Go.Proofs.Ythkclgkbidhmbaa
open Go.RowKit
set_option linter.unusedVariables false
set_option maxRecDepth 100000

theorem val4_sum (b : List UInt8) : Fm.val4 (Cm.le4 (Cm.sum b)) = Cm.sum b := Fm.val4_le4 _ (Cm.sum_lt b)
theorem sealed_ok (b : List UInt8) : Ct.ok (b ++ Cm.le4 (Cm.sum b)) ∧ Bm.body (b ++ Cm.le4 (Cm.sum b)) = b := by
  have hl : (b ++ Cm.le4 (Cm.sum b)).length = b.length + 4 := by rw [List.length_append]; rfl
  have e : (b ++ Cm.le4 (Cm.sum b)).length - 4 = b.length := by omega
  refine ⟨⟨by omega, ?_⟩, ?_⟩
  · rw [e, List.drop_left, List.take_left, val4_sum]
  · unfold Bm.body
    rw [e, List.take_left]
theorem rds_put : ∀ (l : List Ls) (m : List UInt8) (acc : List Sp), (∀ x ∈ l, x.s.ok) → (∀ x ∈ l, right x.s = true) → Bm.rds l.length (encL l ++ m, false) acc = ((m, false), acc ++ l.map Ls.s)
  | [], m, acc, _, _ => by simp [Bm.rds, encL]
  | x :: l, m, acc, ho, hr => by
    have e : encL (x :: l) ++ m = enc x.s ++ (encL l ++ m) := by
      have : encL (x :: l) = enc x.s ++ encL l := rfl
      rw [this, List.append_assoc]
    rw [List.length_cons]
    unfold Bm.rds
    rw [if_pos rfl, e, Rm.span_put (ho x (by simp)) (hr x (by simp))]
    simp only
    rw [rds_put l m _ (fun y hy => ho y (by simp [hy])) (fun y hy => hr y (by simp [hy]))]
    simp
theorem read_back (l : List Ls) (ho : ∀ x ∈ l, x.s.ok) (hr : rightL l = true) : Bm.okB (batchBytes l) = true ∧ (Bm.all (batchBytes l)).2 = l.map Ls.s := by
  obtain ⟨g1, g2, g3⟩ := rightL_parts hr
  obtain ⟨s1, s2⟩ := sealed_ok (encB l)
  have e : Rm.num (Bm.body (batchBytes l), false) = (l.length, (encL l, false)) := by
    unfold batchBytes
    rw [s2]
    exact Rm.num_put l.length (encL l) false (by omega)
  have ha : Bm.all (batchBytes l) = (([], false), l.map Ls.s) := by
    unfold Bm.all
    rw [e]
    have := rds_put l [] [] ho g3
    rw [List.append_nil] at this
    exact this
  refine ⟨?_, by rw [ha]⟩
  unfold Bm.okB
  rw [ha, decide_eq_true (show Ct.ok (batchBytes l) from s1)]
  simp only [Bool.not_false, List.isEmpty_nil, Bool.true_and]
  rw [← Bm.rightL_eq]
  exact hr
theorem batch_len (l : List Ls) (hr : rightL l = true) : 0 < (batchBytes l).length ∧ (batchBytes l).length ≤ 30000 := by
  obtain ⟨g1, g2, g3⟩ := rightL_parts hr
  have h1 := encL_len l g3
  have h2 := Mi.put_len l.length
  have h3 : (Cm.le4 (Cm.sum (encB l))).length = 4 := rfl
  unfold batchBytes
  rw [List.length_append, h3]
  unfold encB
  rw [List.length_append]
  omega
theorem okB_nil : Bm.okB [] = false := by
  have h : ¬ Ct.ok [] := fun h => by have := h.1; simp at this
  unfold Bm.okB
  rw [decide_eq_false h]
  rfl
theorem num4_any (e : Int) (w : World) : Calls Try.prog 52 #[.int .i64 e] w fun r w' => r = .returned (.int .i64 e) ∧ w = w' := by
  go_enter Try.func52, Try.ntmps52
  go_wp2_with fail
  go_ret
  exact ⟨rfl, rfl⟩
def ex4 : Ls := ⟨⟨0, 0, 0, 0, ⟨#[97]⟩, ⟨#[98]⟩, 0, 0, false, []⟩, none, 0⟩
theorem ex4_ok : ex4.s.ok := ⟨⟨by decide, by decide⟩, ⟨by decide, by decide⟩, ⟨by decide, by decide⟩, ⟨by decide, by decide⟩, by decide, by decide, ⟨by decide, by decide⟩, ⟨by decide, by decide⟩, by decide, fun a h => by cases h⟩
theorem ex4_right : rightL [ex4] = true := by decide +kernel
set_option maxHeartbeats 8000000 in
theorem alive4_calls (w : World) : Calls Try.prog 47 #[] w fun e w' => e = .returned (.bool true) ∧ Below w.heap.size w w' := by
  have HN := Lib.hid ((readbatch_any none [] 0 0 0 w rfl Rd.nil (Nat.zero_le _) ⟨Nat.le_refl _, Nat.zero_le _⟩ (by omega)).1 okB_nil)
  go_enter Try.func47, Try.ntmps47
  go_wp2_with fail
  refine HN.out.mono ?_
  rintro e w1 ⟨rfl, hb1⟩
  have HB1 := Lib.hid hb1
  clear hb1 HN
  have HRS : Hid (RdSps (w1.alloc (.cells #[.int .u64 0, .int .u64 0, .int .u64 0, .int .u64 0, .string ⟨#[97]⟩, .string ⟨#[98]⟩, .int .i64 0, .int .i64 0, .bool false, .slice none 0 0] 36)) (w1.heap.size + 1) (some ⟨w1.heap.size, 0, none⟩) [ex4]) := Lib.hid ⟨by
    have h := Rd.lit w1 #[.int .u64 0, .int .u64 0, .int .u64 0, .int .u64 0, .string ⟨#[97]⟩, .string ⟨#[98]⟩, .int .i64 0, .int .i64 0, .bool false, .slice none 0 0] 36
    simpa [ex4, Ls.cells] using h, fun x hx => by
    rw [List.mem_singleton] at hx
    subst hx
    exact ⟨Rd.nil, ⟨Nat.le_refl _, Nat.zero_le _⟩, ex4_ok⟩⟩
  have HB2 := Lib.hid (HB1.out.alloc HB1.out.size (.cells #[.int .u64 0, .int .u64 0, .int .u64 0, .int .u64 0, .string ⟨#[97]⟩, .string ⟨#[98]⟩, .int .i64 0, .int .i64 0, .bool false, .slice none 0 0] 36))
  have hzz : w1.heap.size + 1 ≤ (w1.alloc (.cells #[.int .u64 0, .int .u64 0, .int .u64 0, .int .u64 0, .string ⟨#[97]⟩, .string ⟨#[98]⟩, .int .i64 0, .int .i64 0, .bool false, .slice none 0 0] 36)).heap.size := by simp
  go_wp2_with fail
  generalize w1.alloc (.cells #[.int .u64 0, .int .u64 0, .int .u64 0, .int .u64 0, .string ⟨#[97]⟩, .string ⟨#[98]⟩, .int .i64 0, .int .i64 0, .bool false, .slice none 0 0] 36) = W at *
  have HBY := Lib.hid (batchbytes_any _ [ex4] 1 1 _ W rfl HRS.out hzz (by decide))
  rw [if_pos ex4_right] at HBY
  refine HBY.out.mono ?_
  rintro e w2 ⟨v2, rfl, ho2, hb2⟩
  obtain ⟨q1, q2⟩ := batch_len [ex4] ex4_right
  obtain ⟨A2, c2, rfl, hc2, hr2⟩ := own_rd ho2
  have hcap := (own_cap ho2).2
  obtain ⟨p1, p2⟩ := read_back [ex4] (fun x hx => by rw [List.mem_singleton] at hx; subst hx; exact ex4_ok) ex4_right
  have HRB := Lib.hid ((readbatch_any A2 (batchBytes [ex4]) _ c2 w2.heap.size w2 rfl hr2 (Nat.le_refl _) ⟨hc2, hcap⟩ (by omega)).2 p1)
  rw [p2] at HRB
  have HB3 := Lib.hid (HB2.out.trans (hb2.mono HB2.out.size))
  clear HBY ho2 hb2 hr2 hc2 hcap p1 p2 q1 q2
  generalize (batchBytes [ex4]).length = q at *
  go_wp2_with fail
  refine HRB.out.mono ?_
  rintro e w3 ⟨v3, l3, rfl, ho3, hm3, hb3⟩
  have HB4 := Lib.hid (HB3.out.trans (hb3.mono HB3.out.size))
  obtain ⟨A3, c3, hv, hvc, hrd⟩ := ho3.rd
  have hl3 : l3.length = 1 := by have h := congrArg List.length hm3; simpa using h
  obtain ⟨x3, rfl⟩ : ∃ x, l3 = [x] := List.length_eq_one_iff.1 hl3
  have hx3 : x3.s = ex4.s := by simpa using hm3
  rw [hl3] at hv
  subst hv
  obtain ⟨a, ha, _, hc, _⟩ := hrd.at_ (k := 0) (x := x3) rfl
  subst ha
  have c5 := hc 5 (.string x3.s.op) rfl
  rw [hx3] at c5
  have c5' : w3.cell? ⟨a.block, a.off + 5, none⟩ = some (.string ⟨#[98]⟩) := by
    have e : (0 * 10 + 5) = 5 := rfl
    rw [e] at c5
    have h2 : a.add 5 = ⟨a.block, a.off + 5, none⟩ := by unfold Addr.add; rw [if_neg (by omega)]
    rw [h2] at c5
    exact c5
  clear ho3 hm3 hb3 hvc hrd hl3 hx3 hc c5 HRB
  go_wp2_with (go_at_call 52; (with_reducible refine (num4_any _ _).mono ?_); rintro e w5 ⟨rfl, rfl⟩)
  go_ret
  exact ⟨rfl, HB4.out⟩
end Go.Proofs.Ythkclgkbidhmbaa
