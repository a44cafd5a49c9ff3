/- SpanLimits: many attributes. -/
import Derived.Test.YthkclgkbidhmbaaBk3
import Derived.Test.YthkclgkbidhmbaaPerk
namespace Go.Proofs.Ythkclgkbidhmbaa
open Go.RowKit
set_option linter.unusedVariables false
set_option maxRecDepth 100000

def longS : ByteArray := ⟨#[97, 98, 99, 100, 101, 102, 103, 104, 105, 106, 107, 108, 109, 110, 111, 112, 113]⟩
def ats5 (k : Nat) : List (ByteArray × ByteArray) := (List.range k).map fun i => (longS.extract i (i + 1), ⟨#[]⟩)
theorem ats5_len (k : Nat) : (ats5 k).length = k := by simp [ats5]
theorem ats5_succ (k : Nat) : ats5 (k + 1) = ats5 k ++ [(longS.extract k (k + 1), ⟨#[]⟩)] := by simp [ats5, List.range_succ]
/-- What each operation of the loop's statement leaves. -/
def LF (A : Option Addr) (k c G : Nat) : Nat → Value → World → Prop
  | 0, v, _ => v = .pointer (some ⟨G, 9, none⟩)
  | 1, v, _ => v = .slice A k c
  | 2, v, _ => v = .string longS
  | 3, v, _ => v = .int .i64 (k : Int)
  | 4, v, _ => v = .int .i64 (k : Int)
  | 5, v, _ => v = .int .i64 ((k : Int) + 1)
  | 6, v, _ => v = .string (longS.extract k (k + 1))
  | 7, v, _ => v = .agg #[.string (longS.extract k (k + 1)), .string ⟨#[]⟩]
  | 8, v, w => ∃ g, v = .slice (some ⟨g, 0, none⟩) 1 1 ∧ Rd w (g + 1) (some ⟨g, 0, none⟩) [.string (longS.extract k (k + 1)), .string ⟨#[]⟩] ∧ g < w.heap.size ∧ G < g ∧ (Value.slice A k c).ownBlock ≠ some g
  | 9, v, w => ∃ A5 c5, v = .slice A5 (k + 1) c5 ∧ w.ownsRow G 49 2 v (k + 1) ((ats5 (k + 1)).flatMap atC)
  | 10, v, _ => v = .pointer (some ⟨G, 9, none⟩)
  | 11, _, w => ∃ A5 c5, w.ownsRow G 49 2 (.slice A5 (k + 1) c5) (k + 1) ((ats5 (k + 1)).flatMap atC) ∧ w.heap[G]? = some (.cells #[.int .u64 0, .int .u64 0, .int .u64 0, .int .u64 0, .string ⟨#[97]⟩, .string ⟨#[98]⟩, .int .i64 0, .int .i64 0, .bool false, .slice A5 (k + 1) c5] 36)
  | _, _, _ => True
/-- What holds till the append, and till the store. -/
def LG (A : Option Addr) (k c G : Nat) : Nat → World → Prop
  | 9, w => w.ownsRow G 49 2 (.slice A k c) k ((ats5 k).flatMap atC)
  | 11, w => w.heap[G]? = some (.cells #[.int .u64 0, .int .u64 0, .int .u64 0, .int .u64 0, .string ⟨#[97]⟩, .string ⟨#[98]⟩, .int .i64 0, .int .i64 0, .bool false, .slice A k c] 36)
  | _, _ => True
section
variable {A : Option Addr} {k c G : Nat} {w w' : World}
theorem LF.below {i : Nat} {v : Value} (h : LF A k c G i v w) (hb : Below w.heap.size w w') : LF A k c G i v w' := by
  match i, h with
  | 0, h => exact h
  | 1, h => exact h
  | 2, h => exact h
  | 3, h => exact h
  | 4, h => exact h
  | 5, h => exact h
  | 6, h => exact h
  | 7, h => exact h
  | 8, h => obtain ⟨g, h1, h2, h3, h4, h5⟩ := h; exact ⟨g, h1, h2.block (hb.block g h3), Nat.lt_of_lt_of_le h3 hb.size, h4, h5⟩
  | 9, h => obtain ⟨A5, c5, h1, h2⟩ := h; exact ⟨A5, c5, h1, own_below h2 hb⟩
  | 10, h => exact h
  | 11, h => obtain ⟨A5, c5, h1, h2⟩ := h; exact ⟨A5, c5, own_below h1 hb, (hb.block G (in_heap h2)).trans h2⟩
  | _ + 12, h => trivial
theorem LG.below {i : Nat} (h : LG A k c G i w) (hb : Below w.heap.size w w') : LG A k c G i w' := by
  unfold LG at *
  split
  · exact own_below h hb
  · exact (hb.block G (in_heap h)).trans h
  · trivial
theorem lpost_below {ops : Array Oper} {i : Nat} {v : Value} (hbase : G ≤ w.heap.size) (hb : Below w.heap.size w w') (h : LF A k c G i v w') :
    PG.Post ops (Below G) (LG A k c G) (LF A k c G) i w v w' := ⟨hb.mono hbase, h, fun _ _ h => h.below hb, fun _ _ _ _ h => h.below hb⟩
end
theorem rd_two (w : World) (x y : ByteArray) : Rd (w.alloc (.cells #[.string x, .string y] 49)) (w.heap.size + 1) (some ⟨w.heap.size, 0, none⟩) [.string x, .string y] := Rd.lit w #[.string x, .string y] 49
theorem own_ne_new {w : World} {base e size n : Nat} {v : Value} {xs : List Value} (h : w.ownsRow base e size v n xs) : v.ownBlock ≠ some w.heap.size := fun he => by
  have := own_block_lt h _ he
  omega

set_option maxHeartbeats 16000000 in
theorem lim_5_true (w : World) :
    Calls Try.prog 6 #[.int .i64 5, .bool true] w fun e w' => e = .returned (.bool true) ∧ Below w.heap.size w w' := by
  have hok : Sp.ok ⟨0, 0, 0, 0, ⟨#[97]⟩, ⟨#[98]⟩, 0, 0, false, ats5 5⟩ := ⟨⟨by decide, by decide⟩, ⟨by decide, by decide⟩, ⟨by decide, by decide⟩, ⟨by decide, by decide⟩, by decide +kernel, by decide +kernel, ⟨by decide, by decide⟩, ⟨by decide, by decide⟩, ⟨by decide, fun a ha => by simp only [ats5, List.mem_map] at ha; obtain ⟨i, hi, rfl⟩ := ha; have := List.mem_range.1 hi; have hc : i = 0 ∨ i = 1 ∨ i = 2 ∨ i = 3 ∨ i = 4 := (by omega); rcases hc with rfl | rfl | rfl | rfl | rfl <;> exact ⟨by decide +kernel, by decide +kernel⟩⟩⟩
  have hri : right ⟨0, 0, 0, 0, ⟨#[97]⟩, ⟨#[98]⟩, 0, 0, false, ats5 5⟩ = false := by decide +kernel
  have HOK := Lib.hid hok
  have HRI := Lib.hid hri
  clear hok hri
  go_enter Try.func6, Try.ntmps6
  go_wp2_with fail
  refine (alive3_calls w).mono ?_
  rintro e w1 ⟨rfl, hb1⟩
  have HB1 := Lib.hid hb1
  clear hb1
  have HX0 : Hid ((w1.alloc (.cells #[.int .u64 0, .int .u64 0, .int .u64 0, .int .u64 0, .string ⟨#[97]⟩, .string ⟨#[98]⟩, .int .i64 0, .int .i64 0, .bool false, .slice none 0 0] 36)).heap[w1.heap.size]? = some (.cells #[.int .u64 0, .int .u64 0, .int .u64 0, .int .u64 0, .string ⟨#[97]⟩, .string ⟨#[98]⟩, .int .i64 0, .int .i64 0, .bool false, .slice none 0 0] 36)) := Lib.hid (heap_alloc_new w1 _)
  have HB0 : Hid (Below w.heap.size w (w1.alloc (.cells #[.int .u64 0, .int .u64 0, .int .u64 0, .int .u64 0, .string ⟨#[97]⟩, .string ⟨#[98]⟩, .int .i64 0, .int .i64 0, .bool false, .slice none 0 0] 36))) := Lib.hid (HB1.out.alloc HB1.out.size _)
  go_wp2_with fail
  generalize w1.alloc (.cells #[.int .u64 0, .int .u64 0, .int .u64 0, .int .u64 0, .string ⟨#[97]⟩, .string ⟨#[98]⟩, .int .i64 0, .int .i64 0, .bool false, .slice none 0 0] 36) = W0 at *
  go_loopw [9] (fun i wr => ∃ (k : Nat) (A : Option Addr) (c : Nat), i = .int .i64 k ∧ k ≤ 5 ∧ Hid (wr.heap[w1.heap.size]? = some (.cells #[.int .u64 0, .int .u64 0, .int .u64 0, .int .u64 0, .string ⟨#[97]⟩, .string ⟨#[98]⟩, .int .i64 0, .int .i64 0, .bool false, .slice A k c] 36)) ∧ Hid (wr.ownsRow w1.heap.size 49 2 (.slice A k c) k ((ats5 k).flatMap atC)) ∧ Hid (Below w.heap.size w wr)) (fun i _ => 5 - (intOf i).toNat)
  case atStart => exact ⟨0, none, 0, rfl, Nat.zero_le _, HX0, Lib.hid (World.ownsRow_nil _ _ _ _), HB0⟩
  case round =>
    obtain ⟨k, A, c, rfl, hk, HX, HO, HB⟩ := hrel
    by_cases hlt : k < 5
    · have hk5 : k = 0 ∨ k = 1 ∨ k = 2 ∨ k = 3 ∨ k = 4 := by omega
      have hd : decide ((k : Int) < 5) = true := decide_eq_true (by omega)
      have hgw : w1.heap.size < wr.drew.heap.size := in_heap HX.out
      have HBD : Hid (Below w.heap.size w wr.drew) := Lib.hid (below_drew HB.out)
      have HK5 := Lib.hid hk5
      clear hk5
      go_wp2_with fail
      have hk5 := HK5.out
      refine PG.wp_region_persG (R := Below w1.heap.size) (G := LG A k c w1.heap.size) (by kernel_rfl) (PG.formed_of (by kernel_rfl)) ⟨fun w => Below.refl _ w, fun _ _ _ h k => h.trans k⟩ ?_ (LF A k c w1.heap.size) ?_ ?_
      · intro j
        unfold LG
        split
        · exact HO.out
        · exact HX.out
        · trivial
      · intro i o ho
        rcases i with _ | _ | _ | _ | _ | _ | _ | _ | _ | _ | _ | _ | i
        · obtain rfl := Option.some.inj (show some _ = some o from ho)
          refine PG.shown_val rfl fun a w3 hr T => ?_
          have h8 : a.eval (.tmp 8) = .pointer (some ⟨w1.heap.size, 0, none⟩) := T.was 8 (by kernel_rfl)
          exact ⟨.pointer (some ⟨w1.heap.size, 9, none⟩), w3, by simp only [execOp, h8]; simp [go_sem], PG.Post.pure ⟨fun w => Below.refl _ w, fun _ _ _ h k => h.trans k⟩ rfl⟩
        · obtain rfl := Option.some.inj (show some _ = some o from ho)
          refine PG.shown_val rfl fun a w3 hr T => ?_
          have h70 : a.eval (.tmp 70) = .pointer (some ⟨w1.heap.size, 9, none⟩) := T.at_ 0 70 (by kernel_rfl) (by kernel_rfl)
          have hO : w3.heap[w1.heap.size]? = some (.cells #[.int .u64 0, .int .u64 0, .int .u64 0, .int .u64 0, .string ⟨#[97]⟩, .string ⟨#[98]⟩, .int .i64 0, .int .i64 0, .bool false, .slice A k c] 36) := T.yet 11 (by kernel_rfl)
          have c9 : w3.cell? ⟨w1.heap.size, 9, none⟩ = some (.slice A k c) := cell_of_row _ _ 9 _ _ (0, 0) hO
          exact ⟨.slice A k c, w3, by simp only [execOp, h70]; simp [go_sem, c9], PG.Post.pure ⟨fun w => Below.refl _ w, fun _ _ _ h k => h.trans k⟩ rfl⟩
        · obtain rfl := Option.some.inj (show some _ = some o from ho)
          refine PG.shown_val rfl fun a w3 hr T => ?_
          have h7 : a.eval (.tmp 7) = .string longS := T.was 7 (by kernel_rfl)
          exact ⟨.string longS, w3, by simp only [execOp, h7]; simp [go_sem], PG.Post.pure ⟨fun w => Below.refl _ w, fun _ _ _ h k => h.trans k⟩ rfl⟩
        · obtain rfl := Option.some.inj (show some _ = some o from ho)
          refine PG.shown_val rfl fun a w3 hr T => ?_
          have h9 : a.eval (.tmp 9) = .int .i64 (k : Int) := T.was 9 (by kernel_rfl)
          exact ⟨.int .i64 (k : Int), w3, by simp only [execOp, h9]; simp [go_sem], PG.Post.pure ⟨fun w => Below.refl _ w, fun _ _ _ h k => h.trans k⟩ rfl⟩
        · obtain rfl := Option.some.inj (show some _ = some o from ho)
          refine PG.shown_val rfl fun a w3 hr T => ?_
          have h9 : a.eval (.tmp 9) = .int .i64 (k : Int) := T.was 9 (by kernel_rfl)
          exact ⟨.int .i64 (k : Int), w3, by simp only [execOp, h9]; simp [go_sem], PG.Post.pure ⟨fun w => Below.refl _ w, fun _ _ _ h k => h.trans k⟩ rfl⟩
        · obtain rfl := Option.some.inj (show some _ = some o from ho)
          refine PG.shown_val rfl fun a w3 hr T => ?_
          have h74 : a.eval (.tmp 74) = .int .i64 (k : Int) := T.at_ 4 74 (by kernel_rfl) (by kernel_rfl)
          exact ⟨.int .i64 ((k : Int) + 1), w3, by rcases hk5 with rfl | rfl | rfl | rfl | rfl <;> (simp only [execOp, h74]; simp [go_sem]; rfl), PG.Post.pure ⟨fun w => Below.refl _ w, fun _ _ _ h k => h.trans k⟩ rfl⟩
        · obtain rfl := Option.some.inj (show some _ = some o from ho)
          refine PG.shown_val rfl fun a w3 hr T => ?_
          have h72 : a.eval (.tmp 72) = .string longS := T.at_ 2 72 (by kernel_rfl) (by kernel_rfl)
          have h73 : a.eval (.tmp 73) = .int .i64 (k : Int) := T.at_ 3 73 (by kernel_rfl) (by kernel_rfl)
          have h75 : a.eval (.tmp 75) = .int .i64 ((k : Int) + 1) := T.at_ 5 75 (by kernel_rfl) (by kernel_rfl)
          have hls : longS.size = 17 := rfl
          exact ⟨.string (longS.extract k (k + 1)), w3, by rcases hk5 with rfl | rfl | rfl | rfl | rfl <;> (simp only [execOp, h72, h73, h75, Option.map_some, Option.map_none]; simp [go_sem, hls]; done), PG.Post.pure ⟨fun w => Below.refl _ w, fun _ _ _ h k => h.trans k⟩ rfl⟩
        · obtain rfl := Option.some.inj (show some _ = some o from ho)
          refine PG.shown_val rfl fun a w3 hr T => ?_
          have h76 : a.eval (.tmp 76) = .string (longS.extract k (k + 1)) := T.at_ 6 76 (by kernel_rfl) (by kernel_rfl)
          exact ⟨.agg #[.string (longS.extract k (k + 1)), .string ⟨#[]⟩], w3, by simp only [execOp, List.map_toArray, List.map_cons, List.map_nil, h76]; simp [go_sem], PG.Post.pure ⟨fun w => Below.refl _ w, fun _ _ _ h k => h.trans k⟩ rfl⟩
        · obtain rfl := Option.some.inj (show some _ = some o from ho)
          refine PG.shown_val rfl fun a w3 hr T => ?_
          have h77 : a.eval (.tmp 77) = .agg #[.string (longS.extract k (k + 1)), .string ⟨#[]⟩] := T.at_ 7 77 (by kernel_rfl) (by kernel_rfl)
          have h5 := T.yet 9 (by kernel_rfl)
          have hz3 : w1.heap.size < w3.heap.size := Nat.lt_of_lt_of_le hgw hr.size
          refine ⟨.slice (some ⟨w3.heap.size, 0, none⟩) 1 1, w3.alloc (.cells #[.string (longS.extract k (k + 1)), .string ⟨#[]⟩] 49), by simp only [execOp, List.map_toArray, List.map_cons, List.map_nil, h77]; simp [go_sem], lpost_below (by omega) ((Below.refl _ _).alloc (Nat.le_refl _) _) ⟨w3.heap.size, rfl, rd_two _ _ _, by simp, hz3, own_ne_new h5⟩⟩
        · obtain rfl := Option.some.inj (show some _ = some o from ho)
          refine PG.shown_val rfl fun a w3 hr T => ?_
          have h71 : a.eval (.tmp 71) = .slice A k c := T.at_ 1 71 (by kernel_rfl) (by kernel_rfl)
          obtain ⟨g, h78, hrd, hg, hog, hne⟩ := T.at_ 8 78 (by kernel_rfl) (by kernel_rfl)
          have h5 : w3.ownsRow w1.heap.size 49 2 (.slice A k c) k ((ats5 k).flatMap atC) := T.own
          have hz3 : w1.heap.size < w3.heap.size := Nat.lt_of_lt_of_le hgw hr.size
          obtain ⟨v', w', r1, r2, r3⟩ := appAt (ty := 34) h5 (ats5_len k).symm hrd (by omega) (by omega)
          rw [← ats5_succ] at r2
          refine ⟨v', w', by simp only [execOp, resolve, invoke, builtin, Sem.run_bind, Sem.run_pure, Result.andThen_ok, List.map_toArray, List.map_cons, List.map_nil, h71, h78, r1], r3.below (Below.refl _ _) (by omega) (own_block_ge h5), ?_, fun k' hk' hG => ?_, fun j v hj hw hF => ?_⟩
          · obtain ⟨A5, c5, hv, _, _⟩ := own_rd r2
            exact ⟨A5, c5, hv, r2⟩
          · unfold LG at *
            split
            · exact absurd rfl hk'
            · exact (r3.grown.block _ (in_heap hG) (Ne.symm (own_not h5 hG (by decide)))).trans hG
            · trivial
          · match j, hj, hw, hF with
            | 0, _, _, hF => exact hF
            | 1, _, _, hF => exact hF
            | 2, _, _, hF => exact hF
            | 3, _, _, hF => exact hF
            | 4, _, _, hF => exact hF
            | 5, _, _, hF => exact hF
            | 6, _, _, hF => exact hF
            | 7, _, _, hF => exact hF
            | 8, _, _, hF => obtain ⟨g, h1, h2, h3, h6, h7⟩ := hF; exact ⟨g, h1, h2.block (r3.grown.block g h3 (Ne.symm h7)), Nat.lt_of_lt_of_le h3 r3.grown.size, h6, h7⟩
            | 9, hj, _, _ => exact absurd rfl hj
            | 10, _, _, hF => exact hF
            | 11, _, hw, _ => exact (PG.waits_no (by kernel_rfl) hw).elim
            | _ + 12, _, _, _ => trivial
        · obtain rfl := Option.some.inj (show some _ = some o from ho)
          refine PG.shown_val rfl fun a w3 hr T => ?_
          have h8 : a.eval (.tmp 8) = .pointer (some ⟨w1.heap.size, 0, none⟩) := T.was 8 (by kernel_rfl)
          exact ⟨.pointer (some ⟨w1.heap.size, 9, none⟩), w3, by simp only [execOp, h8]; simp [go_sem], PG.Post.pure ⟨fun w => Below.refl _ w, fun _ _ _ h k => h.trans k⟩ rfl⟩
        · obtain rfl := Option.some.inj (show some _ = some o from ho)
          refine PG.shown_skip rfl fun a w3 hr T => ?_
          have h80 : a.eval (.tmp 80) = .pointer (some ⟨w1.heap.size, 9, none⟩) := T.at_ 10 80 (by kernel_rfl) (by kernel_rfl)
          obtain ⟨A5, c5, h79, ho5⟩ := T.at_ 9 79 (by kernel_rfl) (by kernel_rfl)
          rw [h79] at ho5
          have hO : w3.heap[w1.heap.size]? = some (.cells #[.int .u64 0, .int .u64 0, .int .u64 0, .int .u64 0, .string ⟨#[97]⟩, .string ⟨#[98]⟩, .int .i64 0, .int .i64 0, .bool false, .slice A k c] 36) := T.own
          have k9 : w3.cell? ⟨w1.heap.size, 9, none⟩ = some (.slice A k c) := cell_of_row _ _ 9 _ _ (0, 0) hO
          have f9 : w3.frozen? ⟨w1.heap.size, 9, none⟩ = false := by simp [World.frozen?, hO]
          refine ⟨w3.setCell ⟨w1.heap.size, 9, none⟩ (.slice A5 (k + 1) c5), by simp only [execOp, h80, h79]; simp [go_sem, k9, f9], Below.setCell (p := ⟨w1.heap.size, 9, none⟩) (Below.refl w1.heap.size w3) (Nat.le_refl _) _, ⟨A5, c5, own_else (p := ⟨w1.heap.size, 9, none⟩) ho5 hO (by decide) _, ?_⟩, fun k' hk' hG => ?_, fun j v hj hw hF => ?_⟩
          · rw [heap_setCell_same _ _ _ _ _ _ hO]; rfl
          · unfold LG at *
            split
            · exact own_else (p := ⟨w1.heap.size, 9, none⟩) hG hO (by decide) _
            · exact absurd rfl hk'
            · trivial
          · match j, hj, hw, hF with
            | 0, _, _, hF => exact hF
            | 1, _, _, hF => exact hF
            | 2, _, _, hF => exact hF
            | 3, _, _, hF => exact hF
            | 4, _, _, hF => exact hF
            | 5, _, _, hF => exact hF
            | 6, _, _, hF => exact hF
            | 7, _, _, hF => exact hF
            | 8, _, _, hF => obtain ⟨g, h1, h2, h3, h6, h7⟩ := hF; exact ⟨g, h1, h2.block (Below.heap_setCell w3 _ _ g (by simp; omega)), by simpa using h3, h6, h7⟩
            | 9, _, _, hF => obtain ⟨A6, c6, h1, h2⟩ := hF; exact ⟨A6, c6, h1, own_else (p := ⟨w1.heap.size, 9, none⟩) h2 hO (by decide) _⟩
            | 10, _, _, hF => exact hF
            | 11, hj, _, _ => exact absurd rfl hj
            | _ + 12, _, _, _ => trivial
        · cases ho
      · intro x w5 hr hf he
        obtain ⟨v11, A5, c5, ho5, hO5⟩ := he 11 _ rfl rfl
        have HB5 := Lib.hid (HBD.out.trans (hr.mono HB1.out.size))
        have HO5 := Lib.hid ho5
        have HX5 := Lib.hid hO5
        clear ho5 hO5 hf he hr
        simp only [PG.putAll, Act.put, List.setIfInBounds_toArray, List.set_cons_zero, List.set_cons_succ]
        go_wp2_with fail
        go_roundw
        case rel => exact ⟨k + 1, A5, c5, by go_num, by omega, HX5, HO5, HB5⟩
        case measure => simp [intOf]; omega
    · obtain rfl : k = 5 := by omega
      clear hlt hk
      have d0 : wr.cell? ⟨w1.heap.size, 0, none⟩ = some (.int .u64 0) := cell_of_row _ _ 0 _ _ (0, 0) HX.out
      have d1 : wr.cell? ⟨w1.heap.size, 1, none⟩ = some (.int .u64 0) := cell_of_row _ _ 1 _ _ (0, 0) HX.out
      have d2 : wr.cell? ⟨w1.heap.size, 2, none⟩ = some (.int .u64 0) := cell_of_row _ _ 2 _ _ (0, 0) HX.out
      have d3 : wr.cell? ⟨w1.heap.size, 3, none⟩ = some (.int .u64 0) := cell_of_row _ _ 3 _ _ (0, 0) HX.out
      have d4 : wr.cell? ⟨w1.heap.size, 4, none⟩ = some (.string ⟨#[97]⟩) := cell_of_row _ _ 4 _ _ (0, 0) HX.out
      have d5 : wr.cell? ⟨w1.heap.size, 5, none⟩ = some (.string ⟨#[98]⟩) := cell_of_row _ _ 5 _ _ (0, 0) HX.out
      have d6 : wr.cell? ⟨w1.heap.size, 6, none⟩ = some (.int .i64 0) := cell_of_row _ _ 6 _ _ (0, 0) HX.out
      have d7 : wr.cell? ⟨w1.heap.size, 7, none⟩ = some (.int .i64 0) := cell_of_row _ _ 7 _ _ (0, 0) HX.out
      have d8 : wr.cell? ⟨w1.heap.size, 8, none⟩ = some (.bool false) := cell_of_row _ _ 8 _ _ (0, 0) HX.out
      have d9 : wr.cell? ⟨w1.heap.size, 9, none⟩ = some (.slice A 5 c) := cell_of_row _ _ 9 _ _ (0, 0) HX.out
      go_wp2_with fail
      have HRD : Hid (RdL wr wr.heap.size ⟨⟨0, 0, 0, 0, ⟨#[97]⟩, ⟨#[98]⟩, 0, 0, false, ats5 5⟩, A, c⟩) := Lib.hid ⟨Rd.of_own HO.out, own_cap HO.out, HOK.out⟩
      have C1 := Lib.hid (right_lit 0 0 0 0 ⟨#[97]⟩ ⟨#[98]⟩ 0 0 false (ats5 5) A c 5 wr.heap.size wr (ats5_len 5).symm HRD.out (Nat.le_refl _))
      rw [HRI.out] at C1
      refine C1.out.mono ?_
      rintro e w2 ⟨rfl, hb2⟩
      have hX2 := (hb2.block _ (in_heap HX.out)).trans HX.out
      have b0 : w2.cell? ⟨w1.heap.size, 0, none⟩ = some (.int .u64 0) := cell_of_row _ _ 0 _ _ (0, 0) hX2
      have b1 : w2.cell? ⟨w1.heap.size, 1, none⟩ = some (.int .u64 0) := cell_of_row _ _ 1 _ _ (0, 0) hX2
      have b2 : w2.cell? ⟨w1.heap.size, 2, none⟩ = some (.int .u64 0) := cell_of_row _ _ 2 _ _ (0, 0) hX2
      have b3 : w2.cell? ⟨w1.heap.size, 3, none⟩ = some (.int .u64 0) := cell_of_row _ _ 3 _ _ (0, 0) hX2
      have b4 : w2.cell? ⟨w1.heap.size, 4, none⟩ = some (.string ⟨#[97]⟩) := cell_of_row _ _ 4 _ _ (0, 0) hX2
      have b5 : w2.cell? ⟨w1.heap.size, 5, none⟩ = some (.string ⟨#[98]⟩) := cell_of_row _ _ 5 _ _ (0, 0) hX2
      have b6 : w2.cell? ⟨w1.heap.size, 6, none⟩ = some (.int .i64 0) := cell_of_row _ _ 6 _ _ (0, 0) hX2
      have b7 : w2.cell? ⟨w1.heap.size, 7, none⟩ = some (.int .i64 0) := cell_of_row _ _ 7 _ _ (0, 0) hX2
      have b8 : w2.cell? ⟨w1.heap.size, 8, none⟩ = some (.bool false) := cell_of_row _ _ 8 _ _ (0, 0) hX2
      have b9 : w2.cell? ⟨w1.heap.size, 9, none⟩ = some (.slice A 5 c) := cell_of_row _ _ 9 _ _ (0, 0) hX2
      have C2 := Lib.hid (bytes_lit 0 0 0 0 ⟨#[97]⟩ ⟨#[98]⟩ 0 0 false (ats5 5) A c 5 wr.heap.size w2 (ats5_len 5).symm (HRD.out.below hb2) hb2.size)
      rw [HRI.out] at C2
      have HB3 := Lib.hid (HB.out.trans (hb2.mono HB.out.size))
      clear C1 hb2 hX2
      go_wp2_with fail
      have C3 : Hid (Calls _ _ _ w2 (BytesOf [] w2)) := C2
      refine C3.out.mono ?_
      rintro e w3 ⟨v3, rfl, ho3, hb3⟩
      obtain ⟨A3, c3, hv3, _, _⟩ := own_rd ho3
      have hv3' : v3 = .slice A3 0 c3 := hv3
      subst hv3'
      have HB4 := Lib.hid (HB3.out.trans (hb3.mono HB3.out.size))
      clear ho3 hb3
      go_wp2_with fail
      go_ret
      exact ⟨rfl, HB4.out⟩
set_option maxHeartbeats 16000000 in
theorem lim_5_false (w : World) :
    Calls Try.prog 6 #[.int .i64 5, .bool false] w fun e w' => e = .returned (.bool true) ∧ Below w.heap.size w w' := by
  have hok : Sp.ok ⟨0, 0, 0, 0, ⟨#[97]⟩, ⟨#[98]⟩, 0, 0, false, ats5 4⟩ := ⟨⟨by decide, by decide⟩, ⟨by decide, by decide⟩, ⟨by decide, by decide⟩, ⟨by decide, by decide⟩, by decide +kernel, by decide +kernel, ⟨by decide, by decide⟩, ⟨by decide, by decide⟩, ⟨by decide, fun a ha => by simp only [ats5, List.mem_map] at ha; obtain ⟨i, hi, rfl⟩ := ha; have := List.mem_range.1 hi; have hc : i = 0 ∨ i = 1 ∨ i = 2 ∨ i = 3 ∨ i = 4 := (by omega); rcases hc with rfl | rfl | rfl | rfl | rfl <;> exact ⟨by decide +kernel, by decide +kernel⟩⟩⟩
  have hri : right ⟨0, 0, 0, 0, ⟨#[97]⟩, ⟨#[98]⟩, 0, 0, false, ats5 4⟩ = true := by decide +kernel
  have HOK := Lib.hid hok
  have HRI := Lib.hid hri
  obtain ⟨e0, e1⟩ := enc_len hri
  generalize hL : enc ⟨0, 0, 0, 0, ⟨#[97]⟩, ⟨#[98]⟩, 0, 0, false, ats5 4⟩ = L at e0 e1
  have HL := Lib.hid hL
  clear hL
  have h0 : decide ((0 : Int) < (L.length : Int)) = true := decide_eq_true (by omega)
  have h1 : decide (0 < L.length) = true := decide_eq_true (by omega)
  clear e0 e1
  clear hok hri
  go_enter Try.func6, Try.ntmps6
  go_wp2_with fail
  refine (alive3_calls w).mono ?_
  rintro e w1 ⟨rfl, hb1⟩
  have HB1 := Lib.hid hb1
  clear hb1
  have HX0 : Hid ((w1.alloc (.cells #[.int .u64 0, .int .u64 0, .int .u64 0, .int .u64 0, .string ⟨#[97]⟩, .string ⟨#[98]⟩, .int .i64 0, .int .i64 0, .bool false, .slice none 0 0] 36)).heap[w1.heap.size]? = some (.cells #[.int .u64 0, .int .u64 0, .int .u64 0, .int .u64 0, .string ⟨#[97]⟩, .string ⟨#[98]⟩, .int .i64 0, .int .i64 0, .bool false, .slice none 0 0] 36)) := Lib.hid (heap_alloc_new w1 _)
  have HB0 : Hid (Below w.heap.size w (w1.alloc (.cells #[.int .u64 0, .int .u64 0, .int .u64 0, .int .u64 0, .string ⟨#[97]⟩, .string ⟨#[98]⟩, .int .i64 0, .int .i64 0, .bool false, .slice none 0 0] 36))) := Lib.hid (HB1.out.alloc HB1.out.size _)
  go_wp2_with fail
  generalize w1.alloc (.cells #[.int .u64 0, .int .u64 0, .int .u64 0, .int .u64 0, .string ⟨#[97]⟩, .string ⟨#[98]⟩, .int .i64 0, .int .i64 0, .bool false, .slice none 0 0] 36) = W0 at *
  go_loopw [9] (fun i wr => ∃ (k : Nat) (A : Option Addr) (c : Nat), i = .int .i64 k ∧ k ≤ 4 ∧ Hid (wr.heap[w1.heap.size]? = some (.cells #[.int .u64 0, .int .u64 0, .int .u64 0, .int .u64 0, .string ⟨#[97]⟩, .string ⟨#[98]⟩, .int .i64 0, .int .i64 0, .bool false, .slice A k c] 36)) ∧ Hid (wr.ownsRow w1.heap.size 49 2 (.slice A k c) k ((ats5 k).flatMap atC)) ∧ Hid (Below w.heap.size w wr)) (fun i _ => 4 - (intOf i).toNat)
  case atStart => exact ⟨0, none, 0, rfl, Nat.zero_le _, HX0, Lib.hid (World.ownsRow_nil _ _ _ _), HB0⟩
  case round =>
    obtain ⟨k, A, c, rfl, hk, HX, HO, HB⟩ := hrel
    by_cases hlt : k < 4
    · have hk5 : k = 0 ∨ k = 1 ∨ k = 2 ∨ k = 3 ∨ k = 4 := by omega
      have hd : decide ((k : Int) < 4) = true := decide_eq_true (by omega)
      have hgw : w1.heap.size < wr.drew.heap.size := in_heap HX.out
      have HBD : Hid (Below w.heap.size w wr.drew) := Lib.hid (below_drew HB.out)
      have HK5 := Lib.hid hk5
      clear hk5
      go_wp2_with fail
      have hk5 := HK5.out
      refine PG.wp_region_persG (R := Below w1.heap.size) (G := LG A k c w1.heap.size) (by kernel_rfl) (PG.formed_of (by kernel_rfl)) ⟨fun w => Below.refl _ w, fun _ _ _ h k => h.trans k⟩ ?_ (LF A k c w1.heap.size) ?_ ?_
      · intro j
        unfold LG
        split
        · exact HO.out
        · exact HX.out
        · trivial
      · intro i o ho
        rcases i with _ | _ | _ | _ | _ | _ | _ | _ | _ | _ | _ | _ | i
        · obtain rfl := Option.some.inj (show some _ = some o from ho)
          refine PG.shown_val rfl fun a w3 hr T => ?_
          have h8 : a.eval (.tmp 8) = .pointer (some ⟨w1.heap.size, 0, none⟩) := T.was 8 (by kernel_rfl)
          exact ⟨.pointer (some ⟨w1.heap.size, 9, none⟩), w3, by simp only [execOp, h8]; simp [go_sem], PG.Post.pure ⟨fun w => Below.refl _ w, fun _ _ _ h k => h.trans k⟩ rfl⟩
        · obtain rfl := Option.some.inj (show some _ = some o from ho)
          refine PG.shown_val rfl fun a w3 hr T => ?_
          have h70 : a.eval (.tmp 70) = .pointer (some ⟨w1.heap.size, 9, none⟩) := T.at_ 0 70 (by kernel_rfl) (by kernel_rfl)
          have hO : w3.heap[w1.heap.size]? = some (.cells #[.int .u64 0, .int .u64 0, .int .u64 0, .int .u64 0, .string ⟨#[97]⟩, .string ⟨#[98]⟩, .int .i64 0, .int .i64 0, .bool false, .slice A k c] 36) := T.yet 11 (by kernel_rfl)
          have c9 : w3.cell? ⟨w1.heap.size, 9, none⟩ = some (.slice A k c) := cell_of_row _ _ 9 _ _ (0, 0) hO
          exact ⟨.slice A k c, w3, by simp only [execOp, h70]; simp [go_sem, c9], PG.Post.pure ⟨fun w => Below.refl _ w, fun _ _ _ h k => h.trans k⟩ rfl⟩
        · obtain rfl := Option.some.inj (show some _ = some o from ho)
          refine PG.shown_val rfl fun a w3 hr T => ?_
          have h7 : a.eval (.tmp 7) = .string longS := T.was 7 (by kernel_rfl)
          exact ⟨.string longS, w3, by simp only [execOp, h7]; simp [go_sem], PG.Post.pure ⟨fun w => Below.refl _ w, fun _ _ _ h k => h.trans k⟩ rfl⟩
        · obtain rfl := Option.some.inj (show some _ = some o from ho)
          refine PG.shown_val rfl fun a w3 hr T => ?_
          have h9 : a.eval (.tmp 9) = .int .i64 (k : Int) := T.was 9 (by kernel_rfl)
          exact ⟨.int .i64 (k : Int), w3, by simp only [execOp, h9]; simp [go_sem], PG.Post.pure ⟨fun w => Below.refl _ w, fun _ _ _ h k => h.trans k⟩ rfl⟩
        · obtain rfl := Option.some.inj (show some _ = some o from ho)
          refine PG.shown_val rfl fun a w3 hr T => ?_
          have h9 : a.eval (.tmp 9) = .int .i64 (k : Int) := T.was 9 (by kernel_rfl)
          exact ⟨.int .i64 (k : Int), w3, by simp only [execOp, h9]; simp [go_sem], PG.Post.pure ⟨fun w => Below.refl _ w, fun _ _ _ h k => h.trans k⟩ rfl⟩
        · obtain rfl := Option.some.inj (show some _ = some o from ho)
          refine PG.shown_val rfl fun a w3 hr T => ?_
          have h74 : a.eval (.tmp 74) = .int .i64 (k : Int) := T.at_ 4 74 (by kernel_rfl) (by kernel_rfl)
          exact ⟨.int .i64 ((k : Int) + 1), w3, by rcases hk5 with rfl | rfl | rfl | rfl | rfl <;> (simp only [execOp, h74]; simp [go_sem]; rfl), PG.Post.pure ⟨fun w => Below.refl _ w, fun _ _ _ h k => h.trans k⟩ rfl⟩
        · obtain rfl := Option.some.inj (show some _ = some o from ho)
          refine PG.shown_val rfl fun a w3 hr T => ?_
          have h72 : a.eval (.tmp 72) = .string longS := T.at_ 2 72 (by kernel_rfl) (by kernel_rfl)
          have h73 : a.eval (.tmp 73) = .int .i64 (k : Int) := T.at_ 3 73 (by kernel_rfl) (by kernel_rfl)
          have h75 : a.eval (.tmp 75) = .int .i64 ((k : Int) + 1) := T.at_ 5 75 (by kernel_rfl) (by kernel_rfl)
          have hls : longS.size = 17 := rfl
          exact ⟨.string (longS.extract k (k + 1)), w3, by rcases hk5 with rfl | rfl | rfl | rfl | rfl <;> (simp only [execOp, h72, h73, h75, Option.map_some, Option.map_none]; simp [go_sem, hls]; done), PG.Post.pure ⟨fun w => Below.refl _ w, fun _ _ _ h k => h.trans k⟩ rfl⟩
        · obtain rfl := Option.some.inj (show some _ = some o from ho)
          refine PG.shown_val rfl fun a w3 hr T => ?_
          have h76 : a.eval (.tmp 76) = .string (longS.extract k (k + 1)) := T.at_ 6 76 (by kernel_rfl) (by kernel_rfl)
          exact ⟨.agg #[.string (longS.extract k (k + 1)), .string ⟨#[]⟩], w3, by simp only [execOp, List.map_toArray, List.map_cons, List.map_nil, h76]; simp [go_sem], PG.Post.pure ⟨fun w => Below.refl _ w, fun _ _ _ h k => h.trans k⟩ rfl⟩
        · obtain rfl := Option.some.inj (show some _ = some o from ho)
          refine PG.shown_val rfl fun a w3 hr T => ?_
          have h77 : a.eval (.tmp 77) = .agg #[.string (longS.extract k (k + 1)), .string ⟨#[]⟩] := T.at_ 7 77 (by kernel_rfl) (by kernel_rfl)
          have h5 := T.yet 9 (by kernel_rfl)
          have hz3 : w1.heap.size < w3.heap.size := Nat.lt_of_lt_of_le hgw hr.size
          refine ⟨.slice (some ⟨w3.heap.size, 0, none⟩) 1 1, w3.alloc (.cells #[.string (longS.extract k (k + 1)), .string ⟨#[]⟩] 49), by simp only [execOp, List.map_toArray, List.map_cons, List.map_nil, h77]; simp [go_sem], lpost_below (by omega) ((Below.refl _ _).alloc (Nat.le_refl _) _) ⟨w3.heap.size, rfl, rd_two _ _ _, by simp, hz3, own_ne_new h5⟩⟩
        · obtain rfl := Option.some.inj (show some _ = some o from ho)
          refine PG.shown_val rfl fun a w3 hr T => ?_
          have h71 : a.eval (.tmp 71) = .slice A k c := T.at_ 1 71 (by kernel_rfl) (by kernel_rfl)
          obtain ⟨g, h78, hrd, hg, hog, hne⟩ := T.at_ 8 78 (by kernel_rfl) (by kernel_rfl)
          have h5 : w3.ownsRow w1.heap.size 49 2 (.slice A k c) k ((ats5 k).flatMap atC) := T.own
          have hz3 : w1.heap.size < w3.heap.size := Nat.lt_of_lt_of_le hgw hr.size
          obtain ⟨v', w', r1, r2, r3⟩ := appAt (ty := 34) h5 (ats5_len k).symm hrd (by omega) (by omega)
          rw [← ats5_succ] at r2
          refine ⟨v', w', by simp only [execOp, resolve, invoke, builtin, Sem.run_bind, Sem.run_pure, Result.andThen_ok, List.map_toArray, List.map_cons, List.map_nil, h71, h78, r1], r3.below (Below.refl _ _) (by omega) (own_block_ge h5), ?_, fun k' hk' hG => ?_, fun j v hj hw hF => ?_⟩
          · obtain ⟨A5, c5, hv, _, _⟩ := own_rd r2
            exact ⟨A5, c5, hv, r2⟩
          · unfold LG at *
            split
            · exact absurd rfl hk'
            · exact (r3.grown.block _ (in_heap hG) (Ne.symm (own_not h5 hG (by decide)))).trans hG
            · trivial
          · match j, hj, hw, hF with
            | 0, _, _, hF => exact hF
            | 1, _, _, hF => exact hF
            | 2, _, _, hF => exact hF
            | 3, _, _, hF => exact hF
            | 4, _, _, hF => exact hF
            | 5, _, _, hF => exact hF
            | 6, _, _, hF => exact hF
            | 7, _, _, hF => exact hF
            | 8, _, _, hF => obtain ⟨g, h1, h2, h3, h6, h7⟩ := hF; exact ⟨g, h1, h2.block (r3.grown.block g h3 (Ne.symm h7)), Nat.lt_of_lt_of_le h3 r3.grown.size, h6, h7⟩
            | 9, hj, _, _ => exact absurd rfl hj
            | 10, _, _, hF => exact hF
            | 11, _, hw, _ => exact (PG.waits_no (by kernel_rfl) hw).elim
            | _ + 12, _, _, _ => trivial
        · obtain rfl := Option.some.inj (show some _ = some o from ho)
          refine PG.shown_val rfl fun a w3 hr T => ?_
          have h8 : a.eval (.tmp 8) = .pointer (some ⟨w1.heap.size, 0, none⟩) := T.was 8 (by kernel_rfl)
          exact ⟨.pointer (some ⟨w1.heap.size, 9, none⟩), w3, by simp only [execOp, h8]; simp [go_sem], PG.Post.pure ⟨fun w => Below.refl _ w, fun _ _ _ h k => h.trans k⟩ rfl⟩
        · obtain rfl := Option.some.inj (show some _ = some o from ho)
          refine PG.shown_skip rfl fun a w3 hr T => ?_
          have h80 : a.eval (.tmp 80) = .pointer (some ⟨w1.heap.size, 9, none⟩) := T.at_ 10 80 (by kernel_rfl) (by kernel_rfl)
          obtain ⟨A5, c5, h79, ho5⟩ := T.at_ 9 79 (by kernel_rfl) (by kernel_rfl)
          rw [h79] at ho5
          have hO : w3.heap[w1.heap.size]? = some (.cells #[.int .u64 0, .int .u64 0, .int .u64 0, .int .u64 0, .string ⟨#[97]⟩, .string ⟨#[98]⟩, .int .i64 0, .int .i64 0, .bool false, .slice A k c] 36) := T.own
          have k9 : w3.cell? ⟨w1.heap.size, 9, none⟩ = some (.slice A k c) := cell_of_row _ _ 9 _ _ (0, 0) hO
          have f9 : w3.frozen? ⟨w1.heap.size, 9, none⟩ = false := by simp [World.frozen?, hO]
          refine ⟨w3.setCell ⟨w1.heap.size, 9, none⟩ (.slice A5 (k + 1) c5), by simp only [execOp, h80, h79]; simp [go_sem, k9, f9], Below.setCell (p := ⟨w1.heap.size, 9, none⟩) (Below.refl w1.heap.size w3) (Nat.le_refl _) _, ⟨A5, c5, own_else (p := ⟨w1.heap.size, 9, none⟩) ho5 hO (by decide) _, ?_⟩, fun k' hk' hG => ?_, fun j v hj hw hF => ?_⟩
          · rw [heap_setCell_same _ _ _ _ _ _ hO]; rfl
          · unfold LG at *
            split
            · exact own_else (p := ⟨w1.heap.size, 9, none⟩) hG hO (by decide) _
            · exact absurd rfl hk'
            · trivial
          · match j, hj, hw, hF with
            | 0, _, _, hF => exact hF
            | 1, _, _, hF => exact hF
            | 2, _, _, hF => exact hF
            | 3, _, _, hF => exact hF
            | 4, _, _, hF => exact hF
            | 5, _, _, hF => exact hF
            | 6, _, _, hF => exact hF
            | 7, _, _, hF => exact hF
            | 8, _, _, hF => obtain ⟨g, h1, h2, h3, h6, h7⟩ := hF; exact ⟨g, h1, h2.block (Below.heap_setCell w3 _ _ g (by simp; omega)), by simpa using h3, h6, h7⟩
            | 9, _, _, hF => obtain ⟨A6, c6, h1, h2⟩ := hF; exact ⟨A6, c6, h1, own_else (p := ⟨w1.heap.size, 9, none⟩) h2 hO (by decide) _⟩
            | 10, _, _, hF => exact hF
            | 11, hj, _, _ => exact absurd rfl hj
            | _ + 12, _, _, _ => trivial
        · cases ho
      · intro x w5 hr hf he
        obtain ⟨v11, A5, c5, ho5, hO5⟩ := he 11 _ rfl rfl
        have HB5 := Lib.hid (HBD.out.trans (hr.mono HB1.out.size))
        have HO5 := Lib.hid ho5
        have HX5 := Lib.hid hO5
        clear ho5 hO5 hf he hr
        simp only [PG.putAll, Act.put, List.setIfInBounds_toArray, List.set_cons_zero, List.set_cons_succ]
        go_wp2_with fail
        go_roundw
        case rel => exact ⟨k + 1, A5, c5, by go_num, by omega, HX5, HO5, HB5⟩
        case measure => simp [intOf]; omega
    · obtain rfl : k = 4 := by omega
      clear hlt hk
      have d0 : wr.cell? ⟨w1.heap.size, 0, none⟩ = some (.int .u64 0) := cell_of_row _ _ 0 _ _ (0, 0) HX.out
      have d1 : wr.cell? ⟨w1.heap.size, 1, none⟩ = some (.int .u64 0) := cell_of_row _ _ 1 _ _ (0, 0) HX.out
      have d2 : wr.cell? ⟨w1.heap.size, 2, none⟩ = some (.int .u64 0) := cell_of_row _ _ 2 _ _ (0, 0) HX.out
      have d3 : wr.cell? ⟨w1.heap.size, 3, none⟩ = some (.int .u64 0) := cell_of_row _ _ 3 _ _ (0, 0) HX.out
      have d4 : wr.cell? ⟨w1.heap.size, 4, none⟩ = some (.string ⟨#[97]⟩) := cell_of_row _ _ 4 _ _ (0, 0) HX.out
      have d5 : wr.cell? ⟨w1.heap.size, 5, none⟩ = some (.string ⟨#[98]⟩) := cell_of_row _ _ 5 _ _ (0, 0) HX.out
      have d6 : wr.cell? ⟨w1.heap.size, 6, none⟩ = some (.int .i64 0) := cell_of_row _ _ 6 _ _ (0, 0) HX.out
      have d7 : wr.cell? ⟨w1.heap.size, 7, none⟩ = some (.int .i64 0) := cell_of_row _ _ 7 _ _ (0, 0) HX.out
      have d8 : wr.cell? ⟨w1.heap.size, 8, none⟩ = some (.bool false) := cell_of_row _ _ 8 _ _ (0, 0) HX.out
      have d9 : wr.cell? ⟨w1.heap.size, 9, none⟩ = some (.slice A 4 c) := cell_of_row _ _ 9 _ _ (0, 0) HX.out
      go_wp2_with fail
      have HRD : Hid (RdL wr wr.heap.size ⟨⟨0, 0, 0, 0, ⟨#[97]⟩, ⟨#[98]⟩, 0, 0, false, ats5 4⟩, A, c⟩) := Lib.hid ⟨Rd.of_own HO.out, own_cap HO.out, HOK.out⟩
      have C1 := Lib.hid (right_lit 0 0 0 0 ⟨#[97]⟩ ⟨#[98]⟩ 0 0 false (ats5 4) A c 4 wr.heap.size wr (ats5_len 4).symm HRD.out (Nat.le_refl _))
      rw [HRI.out] at C1
      refine C1.out.mono ?_
      rintro e w2 ⟨rfl, hb2⟩
      have hX2 := (hb2.block _ (in_heap HX.out)).trans HX.out
      have b0 : w2.cell? ⟨w1.heap.size, 0, none⟩ = some (.int .u64 0) := cell_of_row _ _ 0 _ _ (0, 0) hX2
      have b1 : w2.cell? ⟨w1.heap.size, 1, none⟩ = some (.int .u64 0) := cell_of_row _ _ 1 _ _ (0, 0) hX2
      have b2 : w2.cell? ⟨w1.heap.size, 2, none⟩ = some (.int .u64 0) := cell_of_row _ _ 2 _ _ (0, 0) hX2
      have b3 : w2.cell? ⟨w1.heap.size, 3, none⟩ = some (.int .u64 0) := cell_of_row _ _ 3 _ _ (0, 0) hX2
      have b4 : w2.cell? ⟨w1.heap.size, 4, none⟩ = some (.string ⟨#[97]⟩) := cell_of_row _ _ 4 _ _ (0, 0) hX2
      have b5 : w2.cell? ⟨w1.heap.size, 5, none⟩ = some (.string ⟨#[98]⟩) := cell_of_row _ _ 5 _ _ (0, 0) hX2
      have b6 : w2.cell? ⟨w1.heap.size, 6, none⟩ = some (.int .i64 0) := cell_of_row _ _ 6 _ _ (0, 0) hX2
      have b7 : w2.cell? ⟨w1.heap.size, 7, none⟩ = some (.int .i64 0) := cell_of_row _ _ 7 _ _ (0, 0) hX2
      have b8 : w2.cell? ⟨w1.heap.size, 8, none⟩ = some (.bool false) := cell_of_row _ _ 8 _ _ (0, 0) hX2
      have b9 : w2.cell? ⟨w1.heap.size, 9, none⟩ = some (.slice A 4 c) := cell_of_row _ _ 9 _ _ (0, 0) hX2
      have C2 := Lib.hid (bytes_lit 0 0 0 0 ⟨#[97]⟩ ⟨#[98]⟩ 0 0 false (ats5 4) A c 4 wr.heap.size w2 (ats5_len 4).symm (HRD.out.below hb2) hb2.size)
      rw [HRI.out] at C2
      have HB3 := Lib.hid (HB.out.trans (hb2.mono HB.out.size))
      clear C1 hb2 hX2
      go_wp2_with fail
      have C3 : Hid (Calls _ _ _ w2 (BytesOf (enc ⟨0, 0, 0, 0, ⟨#[97]⟩, ⟨#[98]⟩, 0, 0, false, ats5 4⟩) w2)) := C2
      rw [HL.out] at C3
      refine C3.out.mono ?_
      rintro e w3 ⟨v3, rfl, ho3, hb3⟩
      obtain ⟨A3, c3, hv3, _, _⟩ := own_rd ho3
      subst hv3
      have HB4 := Lib.hid (HB3.out.trans (hb3.mono HB3.out.size))
      clear ho3 hb3
      go_wp2_with fail
      go_ret
      exact ⟨rfl, HB4.out⟩

end Go.Proofs.Ythkclgkbidhmbaa
