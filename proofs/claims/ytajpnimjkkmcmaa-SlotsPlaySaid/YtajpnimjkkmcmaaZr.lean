/- The document's ahead and MoveSlots. -/
import Derived.Test.YtajpnimjkkmcmaaZu
namespace Go.Proofs.Ytajpnimjkkmcmaa
open Go.RowKit
set_option linter.unusedVariables false
set_option linter.unusedSimpArgs false
set_option maxRecDepth 100000

theorem less_cmp : ∀ (a b : List UInt8), Op.bytesLess a b = decide (Lib.compareBytes a b < 0)
  | [], [] => rfl
  | [], _ :: _ => rfl
  | _ :: _, [] => rfl
  | x :: a, y :: b => by
    have ih := less_cmp a b
    unfold Op.bytesLess Lib.compareBytes
    by_cases h1 : x < y
    · simp [h1]
    · by_cases h2 : y < x
      · have h3 : x ≠ y := fun h => by subst h; exact absurd h2 (UInt8.lt_irrefl _)
        simp [h1, h2, h3]
      · have h3 : x = y := UInt8.le_antisymm (UInt8.not_lt.1 h2) (UInt8.not_lt.1 h1)
        subst h3
        simp [h1, ih]
theorem toL (s : ByteArray) : s.toList = s.data.toList := by
  obtain ⟨⟨l⟩⟩ := s
  exact ByteArray.toList_mk l
theorem less_T (a b : ByteArray) : Op.bytesLess a.toList b.toList = decide (cmpT a b < 0) := by rw [toL, toL]; exact less_cmp _ _
set_option maxHeartbeats 4000000 in
theorem ahead_calls (a b : Ex) (w : World) : Calls Try.prog 40 #[.agg #[.string a.sv, .string a.op, .int .u64 a.hi, .int .u64 a.lo, .int .u64 a.id, .int .i64 a.bl], .agg #[.string b.sv, .string b.op, .int .u64 b.hi, .int .u64 b.lo, .int .u64 b.id, .int .i64 b.bl]] w fun e w' => e = .returned (.bool (decide (ordE a b < 0))) ∧ Below w.heap.size w w' := by
  have hB := ((Below.refl w.heap.size w).alloc (Nat.le_refl _) (.cells #[.string a.sv, .string a.op, .int .u64 a.hi, .int .u64 a.lo, .int .u64 a.id, .int .i64 a.bl] 38)).alloc (by simp) (.cells #[.string b.sv, .string b.op, .int .u64 b.hi, .int .u64 b.lo, .int .u64 b.id, .int .i64 b.bl] 38)
  have hz1 : (w.alloc (.cells #[.string a.sv, .string a.op, .int .u64 a.hi, .int .u64 a.lo, .int .u64 a.id, .int .i64 a.bl] 38)).heap.size = w.heap.size + 1 := by simp
  have q0 := heap_alloc_new w (.cells #[.string a.sv, .string a.op, .int .u64 a.hi, .int .u64 a.lo, .int .u64 a.id, .int .i64 a.bl] 38)
  have q1 := heap_alloc_new (w.alloc (.cells #[.string a.sv, .string a.op, .int .u64 a.hi, .int .u64 a.lo, .int .u64 a.id, .int .i64 a.bl] 38)) (.cells #[.string b.sv, .string b.op, .int .u64 b.hi, .int .u64 b.lo, .int .u64 b.id, .int .i64 b.bl] 38)
  rw [hz1] at q1
  have a0 : ((w.alloc (.cells #[.string a.sv, .string a.op, .int .u64 a.hi, .int .u64 a.lo, .int .u64 a.id, .int .i64 a.bl] 38)).alloc (.cells #[.string b.sv, .string b.op, .int .u64 b.hi, .int .u64 b.lo, .int .u64 b.id, .int .i64 b.bl] 38)).cell? ⟨w.heap.size, 0, none⟩ = some (.string a.sv) := (World.cell?_alloc_lt _ _ ⟨w.heap.size, 0, none⟩ (by simp)).trans (cell_of_row _ _ 0 _ _ (0, 0) q0)
  have a1 : ((w.alloc (.cells #[.string a.sv, .string a.op, .int .u64 a.hi, .int .u64 a.lo, .int .u64 a.id, .int .i64 a.bl] 38)).alloc (.cells #[.string b.sv, .string b.op, .int .u64 b.hi, .int .u64 b.lo, .int .u64 b.id, .int .i64 b.bl] 38)).cell? ⟨w.heap.size, 1, none⟩ = some (.string a.op) := (World.cell?_alloc_lt _ _ ⟨w.heap.size, 1, none⟩ (by simp)).trans (cell_of_row _ _ 1 _ _ (0, 0) q0)
  have b0 : ((w.alloc (.cells #[.string a.sv, .string a.op, .int .u64 a.hi, .int .u64 a.lo, .int .u64 a.id, .int .i64 a.bl] 38)).alloc (.cells #[.string b.sv, .string b.op, .int .u64 b.hi, .int .u64 b.lo, .int .u64 b.id, .int .i64 b.bl] 38)).cell? ⟨w.heap.size + 1, 0, none⟩ = some (.string b.sv) := cell_of_row _ _ 0 _ _ (0, 0) q1
  have b1 : ((w.alloc (.cells #[.string a.sv, .string a.op, .int .u64 a.hi, .int .u64 a.lo, .int .u64 a.id, .int .i64 a.bl] 38)).alloc (.cells #[.string b.sv, .string b.op, .int .u64 b.hi, .int .u64 b.lo, .int .u64 b.id, .int .i64 b.bl] 38)).cell? ⟨w.heap.size + 1, 1, none⟩ = some (.string b.op) := cell_of_row _ _ 1 _ _ (0, 0) q1
  have HB := Lib.hid hB
  clear hB q0 q1 hz1
  have l1 := less_T a.sv b.sv
  have l2 := less_T a.op b.op
  by_cases c1 : cmpT a.sv b.sv < 0
  · have d1 : Op.bytesLess a.sv.toList b.sv.toList = true := by rw [l1]; exact decide_eq_true c1
    have r : decide (ordE a b < 0) = true := by unfold ordE; rw [if_neg (by omega)]; exact decide_eq_true c1
    rw [r]
    clear l1 l2 r c1
    go_enter Try.func40, Try.ntmps40
    go_upto_region 1 with fail
    generalize ((w.alloc (.cells #[.string a.sv, .string a.op, .int .u64 a.hi, .int .u64 a.lo, .int .u64 a.id, .int .i64 a.bl] 38)).alloc (.cells #[.string b.sv, .string b.op, .int .u64 b.hi, .int .u64 b.lo, .int .u64 b.id, .int .i64 b.bl] 38)) = W at *
    go_wp2_with fail
    go_ret
    exact ⟨rfl, HB.out⟩
  · have d1 : Op.bytesLess a.sv.toList b.sv.toList = false := by rw [l1]; exact decide_eq_false c1
    by_cases c2 : a.sv = b.sv
    · have d2 : (a.sv.toList == b.sv.toList) = true := by rw [c2]; simp
      have r : decide (ordE a b < 0) = Op.bytesLess a.op.toList b.op.toList := by unfold ordE; rw [if_pos ((cmpT_zero _ _).2 c2), l2]
      rw [r]
      clear l1 l2 r c1 c2
      go_enter Try.func40, Try.ntmps40
      go_upto_region 1 with fail
      generalize ((w.alloc (.cells #[.string a.sv, .string a.op, .int .u64 a.hi, .int .u64 a.lo, .int .u64 a.id, .int .i64 a.bl] 38)).alloc (.cells #[.string b.sv, .string b.op, .int .u64 b.hi, .int .u64 b.lo, .int .u64 b.id, .int .i64 b.bl] 38)) = W at *
      go_wp2_with fail
      go_ret
      exact ⟨rfl, HB.out⟩
    · have d2 : (a.sv.toList == b.sv.toList) = false := beq_eq_false_iff_ne.2 (fun h => c2 (strx_inj h))
      have r : decide (ordE a b < 0) = false := by unfold ordE; rw [if_neg (fun h => c2 ((cmpT_zero _ _).1 h))]; exact decide_eq_false c1
      rw [r]
      clear l1 l2 r c1 c2
      go_enter Try.func40, Try.ntmps40
      go_upto_region 1 with fail
      generalize ((w.alloc (.cells #[.string a.sv, .string a.op, .int .u64 a.hi, .int .u64 a.lo, .int .u64 a.id, .int .i64 a.bl] 38)).alloc (.cells #[.string b.sv, .string b.op, .int .u64 b.hi, .int .u64 b.lo, .int .u64 b.id, .int .i64 b.bl] 38)) = W at *
      go_wp2_with fail
      go_ret
      exact ⟨rfl, HB.out⟩
set_option maxHeartbeats 8000000 in
theorem dmove_any (A : Option Addr) (n c : Nat) (l : List Ex) (f t : Int) (B : Nat) (w : World) (hn : n = l.length) (hr : Rd w B A (l.flatMap Ex.cells)) (hB : B ≤ w.heap.size) (hsm : n ≤ 100000) :
    Calls Try.prog 18 #[.slice A n c, .int .i64 f, .int .i64 t] w (RowX (l.map (mvX f t)) w) := by
  have HR := Lib.hid hr
  have HN := Lib.hid hn
  clear hr hn
  go_enter Try.func18, Try.ntmps18
  go_wp2
  go_loopw [7, 8] (fun o i wr => ∃ (k c' : Nat) (A' : Option Addr), k ≤ n ∧ i = .int .i64 k ∧ o = .slice A' k c' ∧ Hid (wr.ownsRow w.heap.size 38 6 (.slice A' k c') k (((l.take k).map (mvX f t)).flatMap Ex.cells)) ∧ Hid (Below w.heap.size w wr)) (fun _ i _ => n - (intOf i).toNat)
  case atStart => exact ⟨0, 0, none, Nat.zero_le _, rfl, rfl, World.ownsRow_nil _ _ _ _, Lib.hid (Below.refl _ _)⟩
  case round =>
    obtain ⟨k, c', A', hk, rfl, rfl, HO, HB⟩ := hrel
    have hws := HB.out.size
    by_cases hlt : k < n
    · obtain ⟨x, hx⟩ : ∃ x, l[k]? = some x := ⟨l[k]'(by rw [← HN.out]; exact hlt), List.getElem?_eq_getElem _⟩
      obtain ⟨a, rfl, hab, hcc⟩ := ex_at (HR.out.keep (fun p hp => HB.out.cell (Nat.lt_of_lt_of_le hp hB))) hx
      have x0 : wr.cell? (a.add (k * 6)) = some (.string x.sv) := hcc 0 _ rfl
      have x1 : wr.cell? ⟨(a.add (k * 6)).block, (a.add (k * 6)).off + 1, none⟩ = some (.string x.op) := cell_far (hcc 1 _ rfl) (by decide)
      have x2 : wr.cell? ⟨(a.add (k * 6)).block, (a.add (k * 6)).off + 2, none⟩ = some (.int .u64 x.hi) := cell_far (hcc 2 _ rfl) (by decide)
      have x3 : wr.cell? ⟨(a.add (k * 6)).block, (a.add (k * 6)).off + 3, none⟩ = some (.int .u64 x.lo) := cell_far (hcc 3 _ rfl) (by decide)
      have x4 : wr.cell? ⟨(a.add (k * 6)).block, (a.add (k * 6)).off + 4, none⟩ = some (.int .u64 x.id) := cell_far (hcc 4 _ rfl) (by decide)
      have x5 : wr.cell? ⟨(a.add (k * 6)).block, (a.add (k * 6)).off + 5, none⟩ = some (.int .i64 x.bl) := cell_far (hcc 5 _ rfl) (by decide)
      have HST := Lib.hid (show (l.take (k + 1)).map (mvX f t) = (l.take k).map (mvX f t) ++ [mvX f t x] from by rw [List.take_add_one, hx, List.map_append]; rfl)
      have i1 : (k : Int) < (n : Int) := by omega
      have i0 : (0 : Int) ≤ (k : Int) := by omega
      clear hcc hx
      go_upto_region 6 with fail
      have hq5 := heap_alloc_new wr (.cells #[.string x.sv, .string x.op, .int .u64 x.hi, .int .u64 x.lo, .int .u64 x.id, .int .i64 x.bl] 38)
      have HO5 := Lib.hid (own_below HO.out ((Below.refl wr.heap.size wr).alloc (Nat.le_refl _) (.cells #[.string x.sv, .string x.op, .int .u64 x.hi, .int .u64 x.lo, .int .u64 x.id, .int .i64 x.bl] 38)))
      have HB5 := Lib.hid (HB.out.alloc hws (.cells #[.string x.sv, .string x.op, .int .u64 x.hi, .int .u64 x.lo, .int .u64 x.id, .int .i64 x.bl] 38))
      have hs5 : w.heap.size ≤ (wr.alloc (.cells #[.string x.sv, .string x.op, .int .u64 x.hi, .int .u64 x.lo, .int .u64 x.id, .int .i64 x.bl] 38)).heap.size := by simp; omega
      have hob5 : ∀ q, (Value.slice A' k c').ownBlock = some q → w.heap.size ≤ q ∧ q < wr.heap.size := fun q hq => ⟨own_block_ge HO.out q hq, own_block_lt HO.out q hq⟩
      clear x0 x1 x2 x3 x4 x5
      have x0 : (wr.alloc (.cells #[.string x.sv, .string x.op, .int .u64 x.hi, .int .u64 x.lo, .int .u64 x.id, .int .i64 x.bl] 38)).cell? ⟨wr.heap.size, 0, none⟩ = some (.string x.sv) := cell_of_row _ _ 0 _ _ (0, 0) hq5
      have x1 : (wr.alloc (.cells #[.string x.sv, .string x.op, .int .u64 x.hi, .int .u64 x.lo, .int .u64 x.id, .int .i64 x.bl] 38)).cell? ⟨wr.heap.size, 1, none⟩ = some (.string x.op) := cell_of_row _ _ 1 _ _ (0, 0) hq5
      have x2 : (wr.alloc (.cells #[.string x.sv, .string x.op, .int .u64 x.hi, .int .u64 x.lo, .int .u64 x.id, .int .i64 x.bl] 38)).cell? ⟨wr.heap.size, 2, none⟩ = some (.int .u64 x.hi) := cell_of_row _ _ 2 _ _ (0, 0) hq5
      have x3 : (wr.alloc (.cells #[.string x.sv, .string x.op, .int .u64 x.hi, .int .u64 x.lo, .int .u64 x.id, .int .i64 x.bl] 38)).cell? ⟨wr.heap.size, 3, none⟩ = some (.int .u64 x.lo) := cell_of_row _ _ 3 _ _ (0, 0) hq5
      have x4 : (wr.alloc (.cells #[.string x.sv, .string x.op, .int .u64 x.hi, .int .u64 x.lo, .int .u64 x.id, .int .i64 x.bl] 38)).cell? ⟨wr.heap.size, 4, none⟩ = some (.int .u64 x.id) := cell_of_row _ _ 4 _ _ (0, 0) hq5
      have x5 : (wr.alloc (.cells #[.string x.sv, .string x.op, .int .u64 x.hi, .int .u64 x.lo, .int .u64 x.id, .int .i64 x.bl] 38)).cell? ⟨wr.heap.size, 5, none⟩ = some (.int .i64 x.bl) := cell_of_row _ _ 5 _ _ (0, 0) hq5
      have bf : (wr.alloc (.cells #[.string x.sv, .string x.op, .int .u64 x.hi, .int .u64 x.lo, .int .u64 x.id, .int .i64 x.bl] 38)).frozen? ⟨wr.heap.size, 5, none⟩ = false := by simp only [World.frozen?, hq5]; rfl
      generalize wr.alloc (.cells #[.string x.sv, .string x.op, .int .u64 x.hi, .int .u64 x.lo, .int .u64 x.id, .int .i64 x.bl] 38) = w5 at *
      generalize wr.heap.size = gx at *
      clear hq5
      by_cases he : x.bl = f
      · have e1 : (x.bl == f) = true := by simpa using he
        have hme : mvX f t x = { x with bl := t } := by unfold mvX; rw [if_pos he]
        rw [hme] at HST
        go_upto_region 8 with fail
        have HO7 := Lib.hid (show (w5.setCell ⟨gx, 5, none⟩ (.int .i64 t)).ownsRow w.heap.size 38 6 (.slice A' k c') k (((l.take k).map (mvX f t)).flatMap Ex.cells) from
          HO5.out.kept (row := some gx) ⟨rfl, rfl, rfl, by rw [World.size_setCell]; exact Nat.le_refl _, fun q hq hne => Below.heap_setCell _ _ _ _ (fun e => hne (by rw [e]))⟩ (by
            rcases h : (Value.slice A' k c').ownBlock with _ | q
            · exact .inl rfl
            · exact .inr (fun e => by injection e with e; have := hob5 q h; omega)))
        have HB7 := Lib.hid (HB5.out.setCell (p := ⟨gx, 5, none⟩) (show w.heap.size ≤ gx from hws) (.int .i64 t))
        have y0 : (w5.setCell ⟨gx, 5, none⟩ (.int .i64 t)).cell? ⟨gx, 0, none⟩ = some (.string x.sv) := (World.cell?_setCell_other _ _ _ _ (by simp)).trans x0
        have y1 : (w5.setCell ⟨gx, 5, none⟩ (.int .i64 t)).cell? ⟨gx, 1, none⟩ = some (.string x.op) := (World.cell?_setCell_other _ _ _ _ (by simp)).trans x1
        have y2 : (w5.setCell ⟨gx, 5, none⟩ (.int .i64 t)).cell? ⟨gx, 2, none⟩ = some (.int .u64 x.hi) := (World.cell?_setCell_other _ _ _ _ (by simp)).trans x2
        have y3 : (w5.setCell ⟨gx, 5, none⟩ (.int .i64 t)).cell? ⟨gx, 3, none⟩ = some (.int .u64 x.lo) := (World.cell?_setCell_other _ _ _ _ (by simp)).trans x3
        have y4 : (w5.setCell ⟨gx, 5, none⟩ (.int .i64 t)).cell? ⟨gx, 4, none⟩ = some (.int .u64 x.id) := (World.cell?_setCell_other _ _ _ _ (by simp)).trans x4
        have y5 : (w5.setCell ⟨gx, 5, none⟩ (.int .i64 t)).cell? ⟨gx, 5, none⟩ = some (.int .i64 t) := World.cell?_setCell_same _ _ _ x5
        have hs7 : w.heap.size ≤ (w5.setCell ⟨gx, 5, none⟩ (.int .i64 t)).heap.size := HB7.out.size
        clear x0 x1 x2 x3 x4 x5 bf HO5 HB5 HO HB hs5
        generalize w5.setCell ⟨gx, 5, none⟩ (.int .i64 t) = w7 at *
        have APP := Lib.hid (fun ty => appX (ty := ty) HO7.out { x with bl := t } (by omega) hs7)
        clear HO7
        go_wp2_with (at_builtin; refine wpList_app rfl (.tmp 26) (.tmp 28) _ _ rfl rfl rfl (APP.out _) ?_; rintro v8 w8 ⟨ho8, hg8⟩; obtain ⟨A8, c8, rfl, _, _⟩ := own_rd ho8; have HO8 := Lib.hid ho8; have HG8 := Lib.hid hg8; clear ho8 hg8)
        go_roundw
        case rel => exact ⟨k + 1, c8, A8, by omega, by go_num, rfl, by rw [HST.out, List.flatMap_append, List.flatMap_singleton]; exact HO8, Lib.hid (HB7.out.grown HG8.out.grown hs7 (fun q hq => (hob5 q hq).1))⟩
        case measure => simp [intOf]; omega
      · have e1 : (x.bl == f) = false := by simpa using he
        have hme : mvX f t x = x := by unfold mvX; rw [if_neg he]
        rw [hme] at HST
        have APP := Lib.hid (fun ty => appX (ty := ty) HO5.out x (by omega) hs5)
        clear HO5
        go_wp2_with (at_builtin; refine wpList_app rfl (.tmp 26) (.tmp 28) _ _ rfl rfl rfl (APP.out _) ?_; rintro v8 w8 ⟨ho8, hg8⟩; obtain ⟨A8, c8, rfl, _, _⟩ := own_rd ho8; have HO8 := Lib.hid ho8; have HG8 := Lib.hid hg8; clear ho8 hg8)
        go_roundw
        case rel => exact ⟨k + 1, c8, A8, by omega, by go_num, rfl, by rw [HST.out, List.flatMap_append, List.flatMap_singleton]; exact HO8, Lib.hid (HB5.out.grown HG8.out.grown hs5 (fun q hq => (hob5 q hq).1))⟩
        case measure => simp [intOf]; omega
    · obtain rfl : k = n := by omega
      have HE := Lib.hid (show (l.take k).map (mvX f t) = l.map (mvX f t) from by rw [List.take_of_length_le (by have := HN.out; omega)])
      go_wp2_with fail
      go_ret
      exact ⟨A', k, c', rfl, by rw [List.length_map]; exact HN.out, by rw [← HE.out]; exact HO.out, HB.out⟩
end Go.Proofs.Ytajpnimjkkmcmaa
