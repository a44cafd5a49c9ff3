/- SpanBack: a span is read as it was written, whatever stands behind it, and from no beginning of it. -/
import Derived.Test.YthkclgkbidhmbaaAl3
import Derived.Test.YthkclgkbidhmbaaRr
namespace Go.Proofs.Ythkclgkbidhmbaa
open Go.RowKit
set_option linter.unusedVariables false
set_option maxRecDepth 100000

theorem encA_len : ∀ (l : List (ByteArray × ByteArray)), (∀ a ∈ l, a.1.size ≤ 16 ∧ a.2.size ≤ 16) → (encA l).length ≤ 52 * l.length
  | [], _ => by simp [encA]
  | a :: l, h => by
    have h1 := encA_len l (fun x hx => h x (by simp [hx]))
    have h2 := h a (by simp)
    have h3 := text_len a.1 h2.1
    have h4 := text_len a.2 h2.2
    have e : encA (a :: l) = (Mi.text a.1.data.toList ++ Mi.text a.2.data.toList) ++ encA l := rfl
    rw [e, List.length_append, List.length_append, List.length_cons]
    omega
theorem enc_len {s : Sp} (hr : right s = true) : 0 < (enc s).length ∧ (enc s).length ≤ 400 := by
  obtain ⟨r1, r2, r3, r4, r5, r6, r7⟩ := right_parts hr
  have q4 := text_len s.sv (nameB_len r1).2
  have q5 := text_len s.op (nameB_len r2).2
  have q8 := rightAts_len r7
  have hat : ∀ a ∈ s.ats, a.1.size ≤ 16 ∧ a.2.size ≤ 16 := fun a ha => by
    obtain ⟨k, hk⟩ := List.getElem?_of_mem ha
    exact okAt_len r7 hk
  have q9 := encA_len s.ats hat
  have l0 := Mi.put_len s.hi.toNat
  have l1 := Mi.put_len s.lo.toNat
  have l2 := Mi.put_len s.id.toNat
  have l3 := Mi.put_len s.pa.toNat
  have l6 := Mi.put_len s.st.toNat
  have l7 := Mi.put_len s.du.toNat
  have l9 := Mi.put_len s.ats.length
  have l8 : (flag s.er).length = 1 := rfl
  unfold enc
  simp only [List.length_append]
  omega
set_option maxHeartbeats 8000000 in
theorem back3_out (x0 x1 x2 x3 : Int) (x4 x5 : ByteArray) (x6 x7 : Int) (x8 : Bool) (ats : List (ByteArray × ByteArray)) (xA : Option Addr) (xc k : Nat) (mA : Option Addr) (l : List UInt8) (n mc : Nat) (cut : Int) (w : World) (hk : k = ats.length) (hy : RdL w w.heap.size ⟨⟨x0, x1, x2, x3, x4, x5, x6, x7, x8, ats⟩, xA, xc⟩) (hn : n = l.length) (h : right ⟨x0, x1, x2, x3, x4, x5, x6, x7, x8, ats⟩ = false ∨ 100 < n ∨ cut < 0) :
    Calls Try.prog 5 #[.agg #[.int .u64 x0, .int .u64 x1, .int .u64 x2, .int .u64 x3, .string x4, .string x5, .int .i64 x6, .int .i64 x7, .bool x8, .slice xA k xc], .slice mA n mc, .int .i64 cut] w fun e w' => e = .returned (.bool true) ∧ Below w.heap.size w w' := by
  have HB0 := Lib.hid ((Below.refl w.heap.size w).alloc (Nat.le_refl _) (.cells #[.int .u64 x0, .int .u64 x1, .int .u64 x2, .int .u64 x3, .string x4, .string x5, .int .i64 x6, .int .i64 x7, .bool x8, .slice xA k xc] 36))
  have HX0 := Lib.hid (heap_alloc_new w (.cells #[.int .u64 x0, .int .u64 x1, .int .u64 x2, .int .u64 x3, .string x4, .string x5, .int .i64 x6, .int .i64 x7, .bool x8, .slice xA k xc] 36))
  have HK := Lib.hid hk
  have HY := Lib.hid hy
  have HRI : Hid (∀ W, Below w.heap.size w W → Calls Try.prog 29 #[.agg #[.int .u64 x0, .int .u64 x1, .int .u64 x2, .int .u64 x3, .string x4, .string x5, .int .i64 x6, .int .i64 x7, .bool x8, .slice xA k xc]] W fun e w' => e = .returned (.bool (right ⟨x0, x1, x2, x3, x4, x5, x6, x7, x8, ats⟩)) ∧ Below W.heap.size W w') := Lib.hid (fun W hW => rightspan_lit x0 x1 x2 x3 x4 x5 x6 x7 x8 ats xA xc k w.heap.size W hk (hy.below hW) hW.size)
  have hh : right ⟨x0, x1, x2, x3, x4, x5, x6, x7, x8, ats⟩ = false ∨ (right ⟨x0, x1, x2, x3, x4, x5, x6, x7, x8, ats⟩ = true ∧ 100 < n) ∨ (right ⟨x0, x1, x2, x3, x4, x5, x6, x7, x8, ats⟩ = true ∧ ¬ 100 < n ∧ cut < 0) := by
    cases hr : right ⟨x0, x1, x2, x3, x4, x5, x6, x7, x8, ats⟩ with
    | false => exact .inl rfl
    | true =>
      rcases h with h | h | h
      · rw [hr] at h; cases h
      · exact .inr (.inl ⟨rfl, h⟩)
      · by_cases h2 : 100 < n
        · exact .inr (.inl ⟨rfl, h2⟩)
        · exact .inr (.inr ⟨rfl, h2, h⟩)
  clear h hy hk hn
  rcases hh with hr | ⟨hr, h1⟩ | ⟨hr, h1, h2⟩
  all_goals
    rw [hr] at HRI
    clear hr
    go_enter Try.func5, Try.ntmps5
    go_wp2_with (first
      | (go_at_call 24; (with_reducible refine (alive3_calls _).mono ?_); rintro e w1 ⟨rfl, hb1⟩; have hX1 := (hb1.block w.heap.size (in_heap HX0.out)).trans HX0.out; have HX1 := Lib.hid hX1; have HB1 := Lib.hid (HB0.out.trans (hb1.mono HB0.out.size)); have b0 : w1.cell? ⟨w.heap.size, 0, none⟩ = some (.int .u64 x0) := cell_of_row _ _ 0 _ _ (0, 0) hX1; have b1 : w1.cell? ⟨w.heap.size, 1, none⟩ = some (.int .u64 x1) := cell_of_row _ _ 1 _ _ (0, 0) hX1; have b2 : w1.cell? ⟨w.heap.size, 2, none⟩ = some (.int .u64 x2) := cell_of_row _ _ 2 _ _ (0, 0) hX1; have b3 : w1.cell? ⟨w.heap.size, 3, none⟩ = some (.int .u64 x3) := cell_of_row _ _ 3 _ _ (0, 0) hX1; have b4 : w1.cell? ⟨w.heap.size, 4, none⟩ = some (.string x4) := cell_of_row _ _ 4 _ _ (0, 0) hX1; have b5 : w1.cell? ⟨w.heap.size, 5, none⟩ = some (.string x5) := cell_of_row _ _ 5 _ _ (0, 0) hX1; have b6 : w1.cell? ⟨w.heap.size, 6, none⟩ = some (.int .i64 x6) := cell_of_row _ _ 6 _ _ (0, 0) hX1; have b7 : w1.cell? ⟨w.heap.size, 7, none⟩ = some (.int .i64 x7) := cell_of_row _ _ 7 _ _ (0, 0) hX1; have b8 : w1.cell? ⟨w.heap.size, 8, none⟩ = some (.bool x8) := cell_of_row _ _ 8 _ _ (0, 0) hX1; have b9 : w1.cell? ⟨w.heap.size, 9, none⟩ = some (.slice xA k xc) := cell_of_row _ _ 9 _ _ (0, 0) hX1; have HR1 := Lib.hid (HRI.out w1 HB1.out); clear hb1 hX1)
      | (go_at_call 29; (with_reducible refine (HR1.out).mono ?_); rintro e w2 ⟨rfl, hb2⟩; have hX2 := (hb2.block w.heap.size (in_heap HX1.out)).trans HX1.out; have HX2 := Lib.hid hX2; have d0 : w2.cell? ⟨w.heap.size, 0, none⟩ = some (.int .u64 x0) := cell_of_row _ _ 0 _ _ (0, 0) hX2; have d1 : w2.cell? ⟨w.heap.size, 1, none⟩ = some (.int .u64 x1) := cell_of_row _ _ 1 _ _ (0, 0) hX2; have d2 : w2.cell? ⟨w.heap.size, 2, none⟩ = some (.int .u64 x2) := cell_of_row _ _ 2 _ _ (0, 0) hX2; have d3 : w2.cell? ⟨w.heap.size, 3, none⟩ = some (.int .u64 x3) := cell_of_row _ _ 3 _ _ (0, 0) hX2; have d4 : w2.cell? ⟨w.heap.size, 4, none⟩ = some (.string x4) := cell_of_row _ _ 4 _ _ (0, 0) hX2; have d5 : w2.cell? ⟨w.heap.size, 5, none⟩ = some (.string x5) := cell_of_row _ _ 5 _ _ (0, 0) hX2; have d6 : w2.cell? ⟨w.heap.size, 6, none⟩ = some (.int .i64 x6) := cell_of_row _ _ 6 _ _ (0, 0) hX2; have d7 : w2.cell? ⟨w.heap.size, 7, none⟩ = some (.int .i64 x7) := cell_of_row _ _ 7 _ _ (0, 0) hX2; have d8 : w2.cell? ⟨w.heap.size, 8, none⟩ = some (.bool x8) := cell_of_row _ _ 8 _ _ (0, 0) hX2; have d9 : w2.cell? ⟨w.heap.size, 9, none⟩ = some (.slice xA k xc) := cell_of_row _ _ 9 _ _ (0, 0) hX2; have HB2 := Lib.hid (HB1.out.trans (hb2.mono HB1.out.size)); clear hb2 hX2))
    go_ret
    exact ⟨rfl, HB2.out⟩

set_option maxHeartbeats 16000000 in
theorem back3_in (x0 x1 x2 x3 : Int) (x4 x5 : ByteArray) (x6 x7 : Int) (x8 : Bool) (ats : List (ByteArray × ByteArray)) (xA : Option Addr) (xc k : Nat) (mA : Option Addr) (l : List UInt8) (n mc : Nat) (cut : Nat) (w : World) (hk : k = ats.length) (hy : RdL w w.heap.size ⟨⟨x0, x1, x2, x3, x4, x5, x6, x7, x8, ats⟩, xA, xc⟩) (hn : n = l.length) (hl : Rd w w.heap.size mA (l.map B8)) (hn1 : n ≤ 100) (hc : cut ≤ 9223372036854775807) (hri : right ⟨x0, x1, x2, x3, x4, x5, x6, x7, x8, ats⟩ = true) :
    Calls Try.prog 5 #[.agg #[.int .u64 x0, .int .u64 x1, .int .u64 x2, .int .u64 x3, .string x4, .string x5, .int .i64 x6, .int .i64 x7, .bool x8, .slice xA k xc], .slice mA n mc, .int .i64 cut] w fun e w' => e = .returned (.bool true) ∧ Below w.heap.size w w' := by
  have HB0 := Lib.hid ((Below.refl w.heap.size w).alloc (Nat.le_refl _) (.cells #[.int .u64 x0, .int .u64 x1, .int .u64 x2, .int .u64 x3, .string x4, .string x5, .int .i64 x6, .int .i64 x7, .bool x8, .slice xA k xc] 36))
  have HX0 := Lib.hid (heap_alloc_new w (.cells #[.int .u64 x0, .int .u64 x1, .int .u64 x2, .int .u64 x3, .string x4, .string x5, .int .i64 x6, .int .i64 x7, .bool x8, .slice xA k xc] 36))
  have HK := Lib.hid hk
  have HY := Lib.hid hy
  have HRI : Hid (∀ W, Below w.heap.size w W → Calls Try.prog 29 #[.agg #[.int .u64 x0, .int .u64 x1, .int .u64 x2, .int .u64 x3, .string x4, .string x5, .int .i64 x6, .int .i64 x7, .bool x8, .slice xA k xc]] W fun e w' => e = .returned (.bool (right ⟨x0, x1, x2, x3, x4, x5, x6, x7, x8, ats⟩)) ∧ Below W.heap.size W w') := Lib.hid (fun W hW => rightspan_lit x0 x1 x2 x3 x4 x5 x6 x7 x8 ats xA xc k w.heap.size W hk (hy.below hW) hW.size)
  have HBY : Hid (∀ W, Below w.heap.size w W → Calls Try.prog 30 #[.agg #[.int .u64 x0, .int .u64 x1, .int .u64 x2, .int .u64 x3, .string x4, .string x5, .int .i64 x6, .int .i64 x7, .bool x8, .slice xA k xc]] W (BytesOf (enc ⟨x0, x1, x2, x3, x4, x5, x6, x7, x8, ats⟩) W)) := Lib.hid (fun W hW => by
    have h := bytes_lit x0 x1 x2 x3 x4 x5 x6 x7 x8 ats xA xc k w.heap.size W hk (hy.below hW) hW.size
    rw [if_pos hri] at h
    exact h)
  obtain ⟨e0, e1⟩ := enc_len hri
  have hok : Sp.ok ⟨x0, x1, x2, x3, x4, x5, x6, x7, x8, ats⟩ := hy.ok
  have HSY := Lib.hid (Rm.span_put hok hri l)
  have HSN : Hid (∀ j, j < (enc ⟨x0, x1, x2, x3, x4, x5, x6, x7, x8, ats⟩).length → (Rm.span ((enc ⟨x0, x1, x2, x3, x4, x5, x6, x7, x8, ats⟩).take j, false)).2.2 = true) := Lib.hid (fun j hj => Rm.span_cut hok hri j hj)
  rw [hri] at HRI
  have hkm : k ≤ maxLen := by have h1 := hy.cap.1; have h2 := hy.cap.2; simp only at h1 h2; omega
  have HN := Lib.hid hn
  have HL := Lib.hid hl
  generalize enc ⟨x0, x1, x2, x3, x4, x5, x6, x7, x8, ats⟩ = L at *
  obtain ⟨q, hq⟩ : ∃ q, q = L.length := ⟨_, rfl⟩
  have HQ := Lib.hid hq
  rw [← hq] at e0 e1 HSN
  obtain ⟨j, hj⟩ : ∃ j, j = cut % q := ⟨_, rfl⟩
  have hj1 : j < q := by rw [hj]; exact Nat.mod_lt _ e0
  have ej : (cut : Int) % (q : Int) = (j : Int) := by rw [hj]; rfl
  have q1 : ((q : Int) == 0) = false := by rw [beq_eq_false_iff_ne]; omega
  rcases hcut : Rm.span (L.take j, false) with ⟨s2, m2, b2⟩
  have hb2t : b2 = true := by have h := HSN.out j hj1; rw [hcut] at h; exact h
  subst hb2t
  have HCUT := Lib.hid hcut
  have EJ := Lib.hid ej
  have Q1 := Lib.hid q1
  clear hy hk hn hl hri hq hj hcut HSN ej q1 hc
  have HKM := Lib.hid hkm
  clear hkm
  go_enter Try.func5, Try.ntmps5
  go_wp2_with fail
  refine (alive3_calls _).mono ?_
  rintro e w1 ⟨rfl, hb1⟩
  have HX1 := Lib.hid ((hb1.block w.heap.size (in_heap HX0.out)).trans HX0.out)
  have HB1 := Lib.hid (HB0.out.trans (hb1.mono HB0.out.size))
  have b0 : w1.cell? ⟨w.heap.size, 0, none⟩ = some (.int .u64 x0) := cell_of_row _ _ 0 _ _ (0, 0) HX1.out
  have b1 : w1.cell? ⟨w.heap.size, 1, none⟩ = some (.int .u64 x1) := cell_of_row _ _ 1 _ _ (0, 0) HX1.out
  have b2 : w1.cell? ⟨w.heap.size, 2, none⟩ = some (.int .u64 x2) := cell_of_row _ _ 2 _ _ (0, 0) HX1.out
  have b3 : w1.cell? ⟨w.heap.size, 3, none⟩ = some (.int .u64 x3) := cell_of_row _ _ 3 _ _ (0, 0) HX1.out
  have b4 : w1.cell? ⟨w.heap.size, 4, none⟩ = some (.string x4) := cell_of_row _ _ 4 _ _ (0, 0) HX1.out
  have b5 : w1.cell? ⟨w.heap.size, 5, none⟩ = some (.string x5) := cell_of_row _ _ 5 _ _ (0, 0) HX1.out
  have b6 : w1.cell? ⟨w.heap.size, 6, none⟩ = some (.int .i64 x6) := cell_of_row _ _ 6 _ _ (0, 0) HX1.out
  have b7 : w1.cell? ⟨w.heap.size, 7, none⟩ = some (.int .i64 x7) := cell_of_row _ _ 7 _ _ (0, 0) HX1.out
  have b8 : w1.cell? ⟨w.heap.size, 8, none⟩ = some (.bool x8) := cell_of_row _ _ 8 _ _ (0, 0) HX1.out
  have b9 : w1.cell? ⟨w.heap.size, 9, none⟩ = some (.slice xA k xc) := cell_of_row _ _ 9 _ _ (0, 0) HX1.out
  clear hb1
  go_wp2_with fail
  refine (HRI.out w1 HB1.out).mono ?_
  rintro e w2 ⟨rfl, hb2⟩
  have HX2 := Lib.hid ((hb2.block w.heap.size (in_heap HX1.out)).trans HX1.out)
  have HB2 := Lib.hid (HB1.out.trans (hb2.mono HB1.out.size))
  clear b0 b1 b2 b3 b4 b5 b6 b7 b8 b9
  have b0 : w2.cell? ⟨w.heap.size, 0, none⟩ = some (.int .u64 x0) := cell_of_row _ _ 0 _ _ (0, 0) HX2.out
  have b1 : w2.cell? ⟨w.heap.size, 1, none⟩ = some (.int .u64 x1) := cell_of_row _ _ 1 _ _ (0, 0) HX2.out
  have b2 : w2.cell? ⟨w.heap.size, 2, none⟩ = some (.int .u64 x2) := cell_of_row _ _ 2 _ _ (0, 0) HX2.out
  have b3 : w2.cell? ⟨w.heap.size, 3, none⟩ = some (.int .u64 x3) := cell_of_row _ _ 3 _ _ (0, 0) HX2.out
  have b4 : w2.cell? ⟨w.heap.size, 4, none⟩ = some (.string x4) := cell_of_row _ _ 4 _ _ (0, 0) HX2.out
  have b5 : w2.cell? ⟨w.heap.size, 5, none⟩ = some (.string x5) := cell_of_row _ _ 5 _ _ (0, 0) HX2.out
  have b6 : w2.cell? ⟨w.heap.size, 6, none⟩ = some (.int .i64 x6) := cell_of_row _ _ 6 _ _ (0, 0) HX2.out
  have b7 : w2.cell? ⟨w.heap.size, 7, none⟩ = some (.int .i64 x7) := cell_of_row _ _ 7 _ _ (0, 0) HX2.out
  have b8 : w2.cell? ⟨w.heap.size, 8, none⟩ = some (.bool x8) := cell_of_row _ _ 8 _ _ (0, 0) HX2.out
  have b9 : w2.cell? ⟨w.heap.size, 9, none⟩ = some (.slice xA k xc) := cell_of_row _ _ 9 _ _ (0, 0) HX2.out
  clear hb2
  have hd1 : decide (100 < n) = false := decide_eq_false (by omega)
  have hd2 : decide ((cut : Int) < 0) = false := decide_eq_false (by omega)
  have hd3 : decide ((100 : Int) < (n : Int)) = false := decide_eq_false (by omega)
  have HE := Lib.hid (And.intro e0 (And.intro e1 (And.intro hj1 hn1)))
  clear e0 e1 hj1 hn1
  go_wp2_with fail
  obtain ⟨e0, e1, hj1, hn1⟩ := HE.out
  clear hd1 hd2 hd3
  refine (HBY.out w2 HB2.out).mono ?_
  rintro e w3 ⟨v3, rfl, ho3, hb3⟩
  rw [← HQ.out] at ho3
  obtain ⟨A3, c3, rfl, hc3, hr3⟩ := own_rd ho3
  have hcap3 := (own_cap ho3).2
  have HX3 := Lib.hid ((hb3.block w.heap.size (in_heap HX2.out)).trans HX2.out)
  have HB3 := Lib.hid (HB2.out.trans (hb3.mono HB2.out.size))
  have R3 := Lib.hid hr3
  clear ho3 hb3 hr3
  have LEN : Hid ((L ++ l).length = q + n) := Lib.hid (by rw [List.length_append, ← HQ.out, ← HN.out])
  have A4 := Lib.hid (fun ty => appB (ty := ty) (c := c3) (own_nil w3 w3.heap.size) R3.out (by rw [← HQ.out]; simp; omega) (Nat.le_refl _))
  rw [← HQ.out] at A4
  have q1 := Q1.out
  go_wp2_with (first
    | (at_builtin; (refine wpList_app rfl (.const (.slice none 0 0)) (.tmp 39) _ _ rfl rfl rfl (A4.out _) ?_); rintro v4 w4 ⟨ho4, hg4⟩; have hb4 := hg4.new; have A5 := Lib.hid (fun ty => appB (ty := ty) (c := mc) ho4 (HL.out.below (HB3.out.trans (hb4.mono HB3.out.size))) (by rw [List.nil_append, ← HQ.out, ← HN.out]; omega) hb4.size); rw [List.nil_append, ← HN.out] at A5; have HX4 := Lib.hid ((hb4.block w.heap.size (in_heap HX3.out)).trans HX3.out); have HB4 := Lib.hid (HB3.out.trans (hb4.mono HB3.out.size)); have HO4 := Lib.hid (own_block_ge ho4); have R34 := Lib.hid (R3.out.below hb4); have hz34 := hb4.size; clear ho4 hg4 hb4)
    | (at_builtin; (refine wpList_app rfl (.tmp 40) (.tmp 41) _ _ rfl rfl rfl (A5.out _) ?_); rintro v5 w5 ⟨ho5, hg5⟩; have hb5 := hg5.below (Below.refl w3.heap.size w4) hz34 HO4.out; rw [LEN.out] at ho5; obtain ⟨A5', c5, rfl, hc5, hr5⟩ := own_rd ho5; have hcap5 := (own_cap ho5).2; have HX5 := Lib.hid ((hb5.block w.heap.size (in_heap HX3.out)).trans HX4.out); have HB5 := Lib.hid (HB4.out.trans (hb5.mono HB3.out.size)); have R35 := Lib.hid (R34.out.below hb5); have R5 := Lib.hid hr5; have hz35 := Nat.le_trans hz34 hb5.size; clear ho5 hg5 hr5 A5 HO4 hb5))
  have RY := Lib.hid (read_yes A5' (L ++ l) l (q + n) c5 w5.heap.size ⟨x0, x1, x2, x3, x4, x5, x6, x7, x8, ats⟩ w5 LEN.out.symm R5.out (Nat.le_refl _) ⟨hc5, by omega, hcap5⟩ HSY.out)
  refine RY.out.mono ?_
  rintro e w6 ⟨A6, c6, rfl, ho6, hb6⟩
  have HX6 := Lib.hid ((hb6.block w.heap.size (in_heap HX5.out)).trans HX5.out)
  have HB6 := Lib.hid (HB5.out.trans (hb6.mono HB5.out.size))
  have R36 := Lib.hid (R35.out.below (hb6.mono hz35))
  have HO6 := Lib.hid ho6
  have hz36 := Nat.le_trans hz35 hb6.size
  have eNN : Hid (((q + n : Nat) : Int) - (l.length : Int) = (q : Int)) := Lib.hid (by rw [← HN.out]; omega)
  rw [eNN.out]
  clear ho6 hb6 RY R35 R5 eNN
  simp only [Ls.cells]
  rw [← HK.out]
  have ej := EJ.out
  go_wp2_with fail
  have HSAME : Hid (∀ W, Below w6.heap.size w6 W → Calls Try.prog 32 #[.agg #[.int .u64 x0, .int .u64 x1, .int .u64 x2, .int .u64 x3, .string x4, .string x5, .int .i64 x6, .int .i64 x7, .bool x8, .slice A6 k c6], .agg #[.int .u64 x0, .int .u64 x1, .int .u64 x2, .int .u64 x3, .string x4, .string x5, .int .i64 x6, .int .i64 x7, .bool x8, .slice xA k xc]] W fun e w' => e = .returned (.bool true) ∧ Below W.heap.size W w') := Lib.hid (fun W hW => samespan_eq x0 x1 x2 x3 x4 x5 x6 x7 x8 ats k A6 xA c6 xc w6.heap.size W HK.out ((Rd.of_own HO6.out.own).below hW) (((HY.out.rd.below HB6.out).more HB6.out.size).below hW) hW.size HKM.out)
  have HX7 := Lib.hid ((heap_alloc_old w6 (.cells #[.int .u64 x0, .int .u64 x1, .int .u64 x2, .int .u64 x3, .string x4, .string x5, .int .i64 x6, .int .i64 x7, .bool x8, .slice A6 k c6] 36) (in_heap HX6.out)).trans HX6.out)
  have HY7 := Lib.hid (heap_alloc_new w6 (.cells #[.int .u64 x0, .int .u64 x1, .int .u64 x2, .int .u64 x3, .string x4, .string x5, .int .i64 x6, .int .i64 x7, .bool x8, .slice A6 k c6] 36))
  have HB7 := Lib.hid (HB6.out.alloc HB6.out.size (.cells #[.int .u64 x0, .int .u64 x1, .int .u64 x2, .int .u64 x3, .string x4, .string x5, .int .i64 x6, .int .i64 x7, .bool x8, .slice A6 k c6] 36))
  have HC7 := Lib.hid ((Below.refl w6.heap.size w6).alloc (Nat.le_refl _) (.cells #[.int .u64 x0, .int .u64 x1, .int .u64 x2, .int .u64 x3, .string x4, .string x5, .int .i64 x6, .int .i64 x7, .bool x8, .slice A6 k c6] 36))
  have R37 := Lib.hid (R36.out.alloc hz36 (.cells #[.int .u64 x0, .int .u64 x1, .int .u64 x2, .int .u64 x3, .string x4, .string x5, .int .i64 x6, .int .i64 x7, .bool x8, .slice A6 k c6] 36))
  clear HY HRI HBY HX0 HX1 HX2 HX3 HX4 HX5 HB0 HB1 HB2 HB3 HB4 HB5 R34 hz34 HO6 R36
  generalize w6.alloc (.cells #[.int .u64 x0, .int .u64 x1, .int .u64 x2, .int .u64 x3, .string x4, .string x5, .int .i64 x6, .int .i64 x7, .bool x8, .slice A6 k c6] 36) = w7 at *
  have hz37 := Nat.le_trans hz36 HC7.out.size
  have RN := Lib.hid (read_no A3 (L.take j) m2 j c3 w3.heap.size s2 w7 (by rw [List.length_take, ← HQ.out]; omega) (by rw [List.map_take]; exact R37.out.take j) hz37 ⟨by omega, by omega, hcap3⟩ HCUT.out)
  refine RN.out.mono ?_
  rintro e w8 ⟨rfl, hb8⟩
  have HX8 := Lib.hid ((hb8.block w.heap.size (in_heap HX7.out)).trans HX7.out)
  have HY8 := Lib.hid ((hb8.block w6.heap.size (in_heap HY7.out)).trans HY7.out)
  have HB8 := Lib.hid (HB7.out.trans (hb8.mono HB7.out.size))
  have HC8 := Lib.hid (HC7.out.trans (hb8.mono HC7.out.size))
  clear hb8 RN R37 HX7 HY7 HX6
  have hxz := in_heap HX8.out
  have hyz := in_heap HY8.out
  have u0 : w8.cell? ⟨w.heap.size, 0, none⟩ = some (.int .u64 x0) := cell_of_row _ _ 0 _ _ (0, 0) HX8.out
  have u1 : w8.cell? ⟨w.heap.size, 1, none⟩ = some (.int .u64 x1) := cell_of_row _ _ 1 _ _ (0, 0) HX8.out
  have u2 : w8.cell? ⟨w.heap.size, 2, none⟩ = some (.int .u64 x2) := cell_of_row _ _ 2 _ _ (0, 0) HX8.out
  have u3 : w8.cell? ⟨w.heap.size, 3, none⟩ = some (.int .u64 x3) := cell_of_row _ _ 3 _ _ (0, 0) HX8.out
  have u4 : w8.cell? ⟨w.heap.size, 4, none⟩ = some (.string x4) := cell_of_row _ _ 4 _ _ (0, 0) HX8.out
  have u5 : w8.cell? ⟨w.heap.size, 5, none⟩ = some (.string x5) := cell_of_row _ _ 5 _ _ (0, 0) HX8.out
  have u6 : w8.cell? ⟨w.heap.size, 6, none⟩ = some (.int .i64 x6) := cell_of_row _ _ 6 _ _ (0, 0) HX8.out
  have u7 : w8.cell? ⟨w.heap.size, 7, none⟩ = some (.int .i64 x7) := cell_of_row _ _ 7 _ _ (0, 0) HX8.out
  have u8 : w8.cell? ⟨w.heap.size, 8, none⟩ = some (.bool x8) := cell_of_row _ _ 8 _ _ (0, 0) HX8.out
  have u9 : w8.cell? ⟨w.heap.size, 9, none⟩ = some (.slice xA k xc) := cell_of_row _ _ 9 _ _ (0, 0) HX8.out
  have y0 : w8.cell? ⟨w6.heap.size, 0, none⟩ = some (.int .u64 x0) := cell_of_row _ _ 0 _ _ (0, 0) HY8.out
  have y1 : w8.cell? ⟨w6.heap.size, 1, none⟩ = some (.int .u64 x1) := cell_of_row _ _ 1 _ _ (0, 0) HY8.out
  have y2 : w8.cell? ⟨w6.heap.size, 2, none⟩ = some (.int .u64 x2) := cell_of_row _ _ 2 _ _ (0, 0) HY8.out
  have y3 : w8.cell? ⟨w6.heap.size, 3, none⟩ = some (.int .u64 x3) := cell_of_row _ _ 3 _ _ (0, 0) HY8.out
  have y4 : w8.cell? ⟨w6.heap.size, 4, none⟩ = some (.string x4) := cell_of_row _ _ 4 _ _ (0, 0) HY8.out
  have y5 : w8.cell? ⟨w6.heap.size, 5, none⟩ = some (.string x5) := cell_of_row _ _ 5 _ _ (0, 0) HY8.out
  have y6 : w8.cell? ⟨w6.heap.size, 6, none⟩ = some (.int .i64 x6) := cell_of_row _ _ 6 _ _ (0, 0) HY8.out
  have y7 : w8.cell? ⟨w6.heap.size, 7, none⟩ = some (.int .i64 x7) := cell_of_row _ _ 7 _ _ (0, 0) HY8.out
  have y8 : w8.cell? ⟨w6.heap.size, 8, none⟩ = some (.bool x8) := cell_of_row _ _ 8 _ _ (0, 0) HY8.out
  have y9 : w8.cell? ⟨w6.heap.size, 9, none⟩ = some (.slice A6 k c6) := cell_of_row _ _ 9 _ _ (0, 0) HY8.out
  have HS9 := Lib.hid (HSAME.out (w8.alloc (.cells #[.int .u64 0, .int .u64 0, .int .u64 0, .int .u64 0, .string ⟨#[]⟩, .string ⟨#[]⟩, .int .i64 0, .int .i64 0, .bool false, .slice none 0 0] 36)) (HC8.out.alloc HC8.out.size _))
  have HB9 := Lib.hid (HB8.out.alloc HB8.out.size (.cells #[.int .u64 0, .int .u64 0, .int .u64 0, .int .u64 0, .string ⟨#[]⟩, .string ⟨#[]⟩, .int .i64 0, .int .i64 0, .bool false, .slice none 0 0] 36))
  clear HSAME HC8 HC7 HB7 HB6 HB8 e0 e1 hj1 hn1
  go_wp2_with (first | (go_at_call 33; (with_reducible refine (num3_any _ _).mono ?_); rintro e w10 ⟨rfl, rfl⟩) | (go_at_call 32; (with_reducible refine (HS9.out).mono ?_); rintro e w11 ⟨rfl, hb11⟩; have HB11 := Lib.hid (HB9.out.trans (hb11.mono HB9.out.size)); clear hb11))
  go_ret
  exact ⟨rfl, HB11.out⟩
end Go.Proofs.Ythkclgkbidhmbaa
