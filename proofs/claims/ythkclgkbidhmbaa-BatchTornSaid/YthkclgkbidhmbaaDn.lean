/- The document's span against the code's: the way back. -/
import Derived.Test.YthkclgkbidhmbaaDm
import Derived.Test.YthkclgkbidhmbaaSb
namespace Go.Proofs.Ythkclgkbidhmbaa
open Go.RowKit
set_option linter.unusedVariables false
set_option linter.unusedSimpArgs false
set_option maxHeartbeats 2000000 in
/-- Where the code's reader reads a span, the document's does not refuse. -/
theorem dspan_back (r : Rm.R) (h : (Rm.span r).2.2 = false) : (Dm.span r).2.2 = false := by
  rcases hp0 : Rm.p0 r with ⟨v0, r0⟩
  rcases hp1 : Rm.p1 r with ⟨v1, r1⟩
  rcases hp2 : Rm.p2 r with ⟨v2, r2⟩
  rcases hp3 : Rm.p3 r with ⟨v3, r3⟩
  rcases hp4 : Rm.p4 r with ⟨v4, r4⟩
  rcases hp5 : Rm.p5 r with ⟨v5, r5⟩
  rcases hp6 : Rm.p6 r with ⟨v6, r6⟩
  rcases hp7 : Rm.p7 r with ⟨v7, r7⟩
  rcases hp8 : Rm.p8 r with ⟨v8, r8⟩
  rcases hp9 : Rm.p9 r with ⟨v9, r9⟩
  rcases hpa : Rm.pa r with ⟨rE, aE⟩
  have W0 : Rm.wide r = (v0, r0) := by have h' := hp0; unfold Rm.p0 at h'; exact h'
  have W1 : Rm.wide r0 = (v1, r1) := by have h' := hp1; unfold Rm.p1 at h'; rw [hp0] at h'; exact h'
  have W2 : Rm.wide r1 = (v2, r2) := by have h' := hp2; unfold Rm.p2 at h'; rw [hp1] at h'; exact h'
  have W3 : Rm.wide r2 = (v3, r3) := by have h' := hp3; unfold Rm.p3 at h'; rw [hp2] at h'; exact h'
  have W4 : Rm.text r3 = (v4, r4) := by have h' := hp4; unfold Rm.p4 at h'; rw [hp3] at h'; exact h'
  have W5 : Rm.text r4 = (v5, r5) := by have h' := hp5; unfold Rm.p5 at h'; rw [hp4] at h'; exact h'
  have W6 : Rm.num r5 = (v6, r6) := by have h' := hp6; unfold Rm.p6 at h'; rw [hp5] at h'; exact h'
  have W7 : Rm.num r6 = (v7, r7) := by have h' := hp7; unfold Rm.p7 at h'; rw [hp6] at h'; exact h'
  have W8 : Rm.flag r7 = (v8, r8) := by have h' := hp8; unfold Rm.p8 at h'; rw [hp7] at h'; exact h'
  have W9 : Rm.num r8 = (v9, r9) := by have h' := hp9; unfold Rm.p9 at h'; rw [hp8] at h'; exact h'
  have HAT : Rm.atl 5 v9 r9 [] = (rE, aE) := by have h' := hpa; unfold Rm.pa at h'; rw [hp9] at h'; exact h'
  have HRAW : Rm.raw r = ⟨v0, v1, v2, v3, S8 v4, S8 v5, v6, v7, v8, aE⟩ := by unfold Rm.raw; rw [hp0, hp1, hp2, hp3, hp4, hp5, hp6, hp7, hp8, hpa]
  have HSP : Rm.span r = if rE.2 = false ∧ right ⟨v0, v1, v2, v3, S8 v4, S8 v5, v6, v7, v8, aE⟩ = true then (⟨v0, v1, v2, v3, S8 v4, S8 v5, v6, v7, v8, aE⟩, rE) else (Rm.zero, Rm.fail) := by unfold Rm.span; rw [hpa, HRAW]
  rw [HSP] at h
  clear hp0 hp1 hp2 hp3 hp4 hp5 hp6 hp7 hp8 hp9 hpa HRAW HSP
  have hh : rE.2 = false ∧ right ⟨v0, v1, v2, v3, S8 v4, S8 v5, v6, v7, v8, aE⟩ = true := by
    by_cases hh : rE.2 = false ∧ right ⟨v0, v1, v2, v3, S8 v4, S8 v5, v6, v7, v8, aE⟩ = true
    · exact hh
    · rw [if_neg hh] at h; cases h
  obtain ⟨oa, hri⟩ := hh
  obtain ⟨_, _, _, b6, _, b7, ba⟩ := right_parts hri
  simp only at b6 b7 ba
  have b6 : v6 ≤ 1099511627776 := by omega
  have b7 : v7 ≤ 1073741824 := by omega
  have ba := rightAts_len ba
  have sz := atl_size 5 v9 r9 [] (by rw [HAT]; exact oa)
  rw [HAT] at sz
  simp only [List.length_nil] at sz
  have b9 : v9 ≤ 4 := by omega
  have o9 : r9.2 = false := ratl_ok 5 v9 r9 [] (by rw [HAT]; exact oa)
  have o8 : r8.2 = false := rnum_ok (r := r8) (by rw [W9]; exact o9)
  rcases hn8 : Rm.num r7 with ⟨n8, s8⟩
  have f8 := flag_ok (r := r7) (by rw [W8]; exact o8)
  rw [hn8] at f8
  obtain ⟨o8n, b8⟩ := f8
  simp only at o8n b8
  have o7 : r7.2 = false := rnum_ok (r := r7) (by rw [hn8]; exact o8n)
  have o6 : r6.2 = false := rnum_ok (r := r6) (by rw [W7]; exact o7)
  have o5 : r5.2 = false := rnum_ok (r := r5) (by rw [W6]; exact o6)
  have o4 : r4.2 = false := rtext_ok (r := r4) (by rw [W5]; exact o5)
  have o3 : r3.2 = false := rtext_ok (r := r3) (by rw [W4]; exact o4)
  have o2 : r2.2 = false := wide_ok (r := r2) (by rw [W3]; exact o3)
  have o1 : r1.2 = false := wide_ok (r := r1) (by rw [W2]; exact o2)
  have o0 : r0.2 = false := wide_ok (r := r0) (by rw [W1]; exact o1)
  have e0 : Dm.num r = (v0, r0) := ((num_tie r).2 ((num_tie r).1.trans (by rw [W0]; exact o0))).trans W0
  have e1 : Dm.num r0 = (v1, r1) := ((num_tie r0).2 ((num_tie r0).1.trans (by rw [W1]; exact o1))).trans W1
  have e2 : Dm.num r1 = (v2, r2) := ((num_tie r1).2 ((num_tie r1).1.trans (by rw [W2]; exact o2))).trans W2
  have e3 : Dm.num r2 = (v3, r3) := ((num_tie r2).2 ((num_tie r2).1.trans (by rw [W3]; exact o3))).trans W3
  have e4 : Dm.text r3 = (v4, r4) := ((text_tie r3).2 ((text_tie r3).1.trans (by rw [W4]; exact o4))).trans W4
  have e5 : Dm.text r4 = (v5, r5) := ((text_tie r4).2 ((text_tie r4).1.trans (by rw [W5]; exact o5))).trans W5
  have e6 : Dm.int 1099511627776 r5 = (v6, r6) := (int_back 1099511627776 (by omega) r5 (by rw [W6]; exact o6) (by rw [W6]; exact b6)).trans W6
  have e7 : Dm.int 1073741824 r6 = (v7, r7) := (int_back 1073741824 (by omega) r6 (by rw [W7]; exact o7) (by rw [W7]; exact b7)).trans W7
  have e9 : Dm.int 4 r8 = (v9, r9) := (int_back 4 (by omega) r8 (by rw [W9]; exact o9) (by rw [W9]; exact b9)).trans W9
  have e8 : Dm.int 1 r7 = (n8, s8) := (int_back 1 (by omega) r7 (by rw [hn8]; exact o8n) (by rw [hn8]; exact b8)).trans hn8
  have f8 : (decide (n8 = 1), s8) = (v8, r8) := by
    rw [← W8]
    unfold Rm.flag
    rw [hn8]
    simp only
    rw [if_neg (by omega)]
  injection f8 with f81 f82
  subst f81
  subst f82
  have ea : Dm.atl 4 v9 r9 [] = (rE, aE) := (atl_back 4 v9 r9 [] b9 (by rw [HAT]; exact oa)).trans HAT
  have Q0 : Dm.q0 r = (v0, r0) := by unfold Dm.q0; exact e0
  have Q1 : Dm.q1 r = (v1, r1) := by unfold Dm.q1; rw [Q0]; exact e1
  have Q2 : Dm.q2 r = (v2, r2) := by unfold Dm.q2; rw [Q1]; exact e2
  have Q3 : Dm.q3 r = (v3, r3) := by unfold Dm.q3; rw [Q2]; exact e3
  have Q4 : Dm.q4 r = (v4, r4) := by unfold Dm.q4; rw [Q3]; exact e4
  have Q5 : Dm.q5 r = (v5, r5) := by unfold Dm.q5; rw [Q4]; exact e5
  have Q6 : Dm.q6 r = (v6, r6) := by unfold Dm.q6; rw [Q5]; exact e6
  have Q7 : Dm.q7 r = (v7, r7) := by unfold Dm.q7; rw [Q6]; exact e7
  have Q8 : Dm.q8 r = (n8, s8) := by unfold Dm.q8; rw [Q7]; exact e8
  have Q9 : Dm.q9 r = (v9, r9) := by unfold Dm.q9; rw [Q8]; exact e9
  have QA : Dm.qa r = (rE, aE) := by unfold Dm.qa; rw [Q9]; exact ea
  have QR : Dm.raw r = ⟨v0, v1, v2, v3, S8 v4, S8 v5, v6, v7, decide (n8 = 1), aE⟩ := by unfold Dm.raw; rw [Q0, Q1, Q2, Q3, Q4, Q5, Q6, Q7, Q8, QA]
  unfold Dm.span
  rw [QR, QA]
  simp only
  rw [oa, hri]
  rfl
/-- Both read one, or neither. -/
theorem dspan_both (r : Rm.R) : (Dm.span r).2.2 = (Rm.span r).2.2 ∧ ((Rm.span r).2.2 = false → Dm.span r = Rm.span r) := by
  cases hd : (Dm.span r).2.2 with
  | false => rw [dspan_tie r hd]; exact ⟨hd.symm, fun _ => rfl⟩
  | true =>
    cases hr : (Rm.span r).2.2 with
    | false => rw [dspan_back r hr] at hd; cases hd
    | true => exact ⟨rfl, fun h => by cases h⟩
end Go.Proofs.Ythkclgkbidhmbaa
