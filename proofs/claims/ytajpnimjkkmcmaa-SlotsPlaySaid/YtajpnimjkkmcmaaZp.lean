/- slots.put: one exemplar put in. -/
import Derived.Test.YtajpnimjkkmcmaaZi
import Derived.Test.YtajpnimjkkmcmaaZd
import Derived.Test.YtajpnimjkkmcmaaZo
namespace Go.Proofs.Ytajpnimjkkmcmaa
open Go.RowKit
set_option linter.unusedVariables false
set_option linter.unusedSimpArgs false
set_option maxRecDepth 100000

theorem Grew.belowr {w w' : World} (v : Value) (h : Below w.heap.size w w') : Grew w w' v v := ⟨⟨h.os, h.tape, h.output, h.size, fun i hi _ => h.block i hi⟩, .inl rfl⟩
theorem Rd.of_slice {w : World} {base n c size : Nat} {e : TypeId} {A : Option Addr} {xs : List Value} (h : w.ownsRow base e size (.slice A n c) n xs) : Rd w w.heap.size A xs := by
  obtain ⟨A', c', hv, _, hr⟩ := own_rd h
  injection hv with h1
  rw [h1]; exact hr
/-- What put leaves. -/
def PutX (base : Nat) (L : List Ex) (w : World) (v : Value) (ex : Ending) (w' : World) : Prop :=
  ∃ (A' : Option Addr) (n' c' : Nat), ex = .returned (.slice A' n' c') ∧ n' = L.length ∧ w'.ownsRow base 38 6 (.slice A' n' c') n' (L.flatMap Ex.cells) ∧ Grew w w' v (.slice A' n' c')
set_option maxHeartbeats 16000000 in
theorem putx_any (A : Option Addr) (n c : Nat) (l : List Ex) (e : Ex) (base : Nat) (w : World) (h : w.ownsRow base 38 6 (.slice A n c) n (l.flatMap Ex.cells)) (hn : n = l.length) (hsm : n ≤ 100000) (hbase : base ≤ w.heap.size) :
    Calls Try.prog 39 #[.slice A n c, .agg #[.string e.sv, .string e.op, .int .u64 e.hi, .int .u64 e.lo, .int .u64 e.id, .int .i64 e.bl]] w (PutX base (putX e l) w (.slice A n c)) := by
  go_enter Try.func39, Try.ntmps39
  go_wp2_with fail
  have q0 := heap_alloc_new w (.cells #[.string e.sv, .string e.op, .int .u64 e.hi, .int .u64 e.lo, .int .u64 e.id, .int .i64 e.bl] 38)
  have own00 := own_below h ((Below.refl w.heap.size w).alloc (Nat.le_refl _) (.cells #[.string e.sv, .string e.op, .int .u64 e.hi, .int .u64 e.lo, .int .u64 e.id, .int .i64 e.bl] 38))
  have hz0 : (w.alloc (.cells #[.string e.sv, .string e.op, .int .u64 e.hi, .int .u64 e.lo, .int .u64 e.id, .int .i64 e.bl] 38)).heap.size = w.heap.size + 1 := by simp
  obtain ⟨B, hB⟩ : ∃ B, B = w.heap.size := ⟨_, rfl⟩
  have hlB : ∀ k, (Value.slice A n c).ownBlock = some k → k < B := fun k hk => by rw [hB]; exact own_block_lt h k hk
  obtain ⟨w0, hw0⟩ : ∃ w0, w0 = w.alloc (.cells #[.string e.sv, .string e.op, .int .u64 e.hi, .int .u64 e.lo, .int .u64 e.id, .int .i64 e.bl] 38) := ⟨_, rfl⟩
  have HGW := Lib.hid (show Below w.heap.size w w0 from by rw [hw0]; exact (Below.refl _ _).alloc (Nat.le_refl _) _)
  rw [← hw0] at q0 own00 hz0 ⊢
  rw [← hB] at q0 hz0 ⊢
  have own0 := own00
  clear own00 hw0
  have HN := Lib.hid hn
  have HBB := Lib.hid hB
  clear hB h
  have HP : Hid (∀ k, k ≤ n → (∀ i x, i < k → l[i]? = some x → ordE x e < 0) → (∀ x, l[k]? = some x → ¬ ordE x e < 0) → putAt e l = k) := fun k h1 h2 h3 => putAt_at e l k h2 (by omega) h3
  clear hn
  go_loopw [5] (fun i wr => ∃ k : Nat, k ≤ n ∧ i = .int .i64 k ∧ Hid (∀ i x, i < k → l[i]? = some x → ordE x e < 0) ∧ Hid (Below w0.heap.size w0 wr)) (fun i _ => n - (intOf i).toNat)
  case atStart => exact ⟨0, Nat.zero_le _, rfl, fun i x hi => absurd hi (Nat.not_lt_zero i), Lib.hid (Below.refl _ _)⟩
  case round =>
    obtain ⟨k, hk, rfl, HO, HW⟩ := hrel
    have hz1 := HW.out.size
    by_cases hlt : k < n
    · obtain ⟨x, hx⟩ : ∃ x, l[k]? = some x := ⟨l[k]'(by rw [← HN.out]; exact hlt), List.getElem?_eq_getElem _⟩
      have hr1 : Rd wr wr.heap.size A (l.flatMap Ex.cells) := Rd.of_slice (own_below own0 HW.out)
      obtain ⟨a, rfl, hab, hcc⟩ := ex_at hr1 hx
      have hbw : wr.heap[B]? = some (.cells #[.string e.sv, .string e.op, .int .u64 e.hi, .int .u64 e.lo, .int .u64 e.id, .int .i64 e.bl] 38) := (HW.out.block B (by omega)).trans q0
      have e0 : wr.cell? ⟨B, 0, none⟩ = some (.string e.sv) := cell_of_row _ _ 0 _ _ (0, 0) hbw
      have e1 : wr.cell? ⟨B, 1, none⟩ = some (.string e.op) := cell_of_row _ _ 1 _ _ (0, 0) hbw
      have e2 : wr.cell? ⟨B, 2, none⟩ = some (.int .u64 e.hi) := cell_of_row _ _ 2 _ _ (0, 0) hbw
      have e3 : wr.cell? ⟨B, 3, none⟩ = some (.int .u64 e.lo) := cell_of_row _ _ 3 _ _ (0, 0) hbw
      have e4 : wr.cell? ⟨B, 4, none⟩ = some (.int .u64 e.id) := cell_of_row _ _ 4 _ _ (0, 0) hbw
      have e5 : wr.cell? ⟨B, 5, none⟩ = some (.int .i64 e.bl) := cell_of_row _ _ 5 _ _ (0, 0) hbw
      have x0 : wr.cell? (a.add (k * 6)) = some (.string x.sv) := hcc 0 _ rfl
      have x1 : wr.cell? ⟨(a.add (k * 6)).block, (a.add (k * 6)).off + 1, none⟩ = some (.string x.op) := cell_far (hcc 1 _ rfl) (by decide)
      have x2 : wr.cell? ⟨(a.add (k * 6)).block, (a.add (k * 6)).off + 2, none⟩ = some (.int .u64 x.hi) := cell_far (hcc 2 _ rfl) (by decide)
      have x3 : wr.cell? ⟨(a.add (k * 6)).block, (a.add (k * 6)).off + 3, none⟩ = some (.int .u64 x.lo) := cell_far (hcc 3 _ rfl) (by decide)
      have x4 : wr.cell? ⟨(a.add (k * 6)).block, (a.add (k * 6)).off + 4, none⟩ = some (.int .u64 x.id) := cell_far (hcc 4 _ rfl) (by decide)
      have x5 : wr.cell? ⟨(a.add (k * 6)).block, (a.add (k * 6)).off + 5, none⟩ = some (.int .i64 x.bl) := cell_far (hcc 5 _ rfl) (by decide)
      have ORD := Lib.hid (show ∀ W, Calls Try.prog 55 #[.agg #[.string x.sv, .string x.op, .int .u64 x.hi, .int .u64 x.lo, .int .u64 x.id, .int .i64 x.bl], .agg #[.string e.sv, .string e.op, .int .u64 e.hi, .int .u64 e.lo, .int .u64 e.id, .int .i64 e.bl]] W fun ex w' => ex = .returned (.int .i64 (ordE x e)) ∧ Below W.heap.size W w' from fun W => order_calls x e W)
      have d1 : decide ((k : Int) < (n : Int)) = true := decide_eq_true (by omega)
      have i1 : (k : Int) < (n : Int) := by omega
      have i0 : (0 : Int) ≤ (k : Int) := by omega
      have HX0 := Lib.hid hx
      clear hr1 hcc hbw hx
      generalize ho : ordE x e = o at ORD
      have HOO := Lib.hid ho
      clear ho
      go_upto_region 2 with fail
      go_still_tail 10, (by kernel_rfl)
      change wpList _ _ _ _ _ wr.drew
      have HW3 := Lib.hid (show Below w0.heap.size w0 wr.drew from ⟨HW.out.os, HW.out.tape, HW.out.output, HW.out.size, HW.out.block⟩)
      have hz6 : w0.heap.size ≤ wr.drew.heap.size := hz1
      clear e0 e1 e2 e3 e4 e5 x0 x1 x2 x3 x4 x5
      generalize wr.drew = w6 at *
      by_cases hneg : o < 0
      · have d0 : decide (o < 0) = true := decide_eq_true hneg
        go_wp2_with (go_at_call 55; (with_reducible refine (ORD.out _).mono ?_); rintro ex w7 ⟨rfl, hbw7⟩)
        go_roundw
        case rel => exact ⟨k + 1, by omega, by go_num, fun i y hi hy => by
          rcases Nat.lt_or_ge i k with h1 | h1
          · exact HO.out i y h1 hy
          · obtain rfl : i = k := by omega
            rw [HX0.out] at hy
            injection hy with hy
            rw [← hy, HOO.out]; exact hneg, Lib.hid (HW3.out.trans (hbw7.mono hz6))⟩
        case measure => simp [intOf]; omega
      · have d0 : decide (o < 0) = false := decide_eq_false hneg
        have hput0 := HP.out k hk HO.out (fun y hy => by rw [HX0.out] at hy; injection hy with hy; rw [← hy, HOO.out]; exact hneg)
        go_upto_region 4 with (go_at_call 55; (with_reducible refine (ORD.out _).mono ?_); rintro ex w7 ⟨rfl, hbw7⟩)
        have HX := Lib.hid (HW3.out.trans (hbw7.mono hz6))
        clear hbw7 hz6 HW3 HW hz1 HO HX0 HOO ORD d0 hneg d1 i1 i0 hlt hab HP
        generalize (some a) = A at *
        generalize w7 = WX at *
        have hbx : WX.heap[B]? = some (.cells #[.string e.sv, .string e.op, .int .u64 e.hi, .int .u64 e.lo, .int .u64 e.id, .int .i64 e.bl] 38) := (HX.out.block B (by omega)).trans q0
        have e0 : WX.cell? ⟨B, 0, none⟩ = some (.string e.sv) := cell_of_row _ _ 0 _ _ (0, 0) hbx
        have e1 : WX.cell? ⟨B, 1, none⟩ = some (.string e.op) := cell_of_row _ _ 1 _ _ (0, 0) hbx
        have e2 : WX.cell? ⟨B, 2, none⟩ = some (.int .u64 e.hi) := cell_of_row _ _ 2 _ _ (0, 0) hbx
        have e3 : WX.cell? ⟨B, 3, none⟩ = some (.int .u64 e.lo) := cell_of_row _ _ 3 _ _ (0, 0) hbx
        have e4 : WX.cell? ⟨B, 4, none⟩ = some (.int .u64 e.id) := cell_of_row _ _ 4 _ _ (0, 0) hbx
        have e5 : WX.cell? ⟨B, 5, none⟩ = some (.int .i64 e.bl) := cell_of_row _ _ 5 _ _ (0, 0) hbx
        have hox := own_below own0 HX.out
        have hvB : (WX.alloc (.cells #[.string e.sv, .string e.op, .int .u64 e.hi, .int .u64 e.lo, .int .u64 e.id, .int .i64 e.bl] 38)).heap[WX.heap.size]? = some (.cells #[.string e.sv, .string e.op, .int .u64 e.hi, .int .u64 e.lo, .int .u64 e.id, .int .i64 e.bl] 38) := heap_alloc_new WX _
        have hoa := own_below hox ((Below.refl WX.heap.size WX).alloc (Nat.le_refl _) (.cells #[.string e.sv, .string e.op, .int .u64 e.hi, .int .u64 e.lo, .int .u64 e.id, .int .i64 e.bl] 38))
        have hzx := HX.out.size
        have INS := Lib.hid (x_insert A n c k WX.heap.size l e base (WX.alloc (.cells #[.string e.sv, .string e.op, .int .u64 e.hi, .int .u64 e.lo, .int .u64 e.id, .int .i64 e.bl] 38)) hoa HN.out hk (by omega) (by have := HBB.out; simp; omega) hvB (fun a ha => by
          have h1 := hlB a.block (by rw [ha]; rfl)
          omega))
        have hbB2 : (WX.alloc (.cells #[.string e.sv, .string e.op, .int .u64 e.hi, .int .u64 e.lo, .int .u64 e.id, .int .i64 e.bl] 38)).heap[B]? = some (.cells #[.string e.sv, .string e.op, .int .u64 e.hi, .int .u64 e.lo, .int .u64 e.id, .int .i64 e.bl] 38) := (Below.heap_alloc WX _ B (by omega)).trans hbx
        clear hoa hox hvB
        go_wp2_with (go_at_call 56; (with_reducible refine INS.out.mono ?_); rintro ex w4 ⟨A4, c4, rfl, ho4, hg4⟩; have HO4 := Lib.hid ho4; have HG4 := Lib.hid hg4; clear ho4 hg4)
        clear INS
        have hb4 : w4.heap[B]? = some (.cells #[.string e.sv, .string e.op, .int .u64 e.hi, .int .u64 e.lo, .int .u64 e.id, .int .i64 e.bl] 38) := (HG4.out.grown.block B (by simp; omega) (fun h => by
          have h1 := hlB B h.symm
          omega)).trans hbB2
        have HB4 := Lib.hid hb4
        have hz4 : B < w4.heap.size := by have h1 := HG4.out.grown.size; simp at h1; omega
        have hput := hput0
        have HL2 := Lib.hid (show l.take k ++ e :: l.drop k = insX e l from by unfold insX; rw [hput])
        rw [HL2.out] at HO4
        have HN2 := Lib.hid (show n + 1 = (insX e l).length from by rw [insX_len, ← HN.out])
        have HG0 := Lib.hid (show Grew w w4 (.slice A n c) (.slice A4 (n + 1) c4) from ((Grew.belowr _ HGW.out).trans (Grew.belowr _ HX.out)).trans ((Grew.belowr _ (Below.alloc (Below.refl _ _) (Nat.le_refl _) (.cells #[.string e.sv, .string e.op, .int .u64 e.hi, .int .u64 e.lo, .int .u64 e.id, .int .i64 e.bl] 38))).trans HG4.out))
        clear hb4 hbB2 hbx HG4 e0 e1 e2 e3 e4 e5 HL2
        generalize hl2 : insX e l = l2 at *
        have HLL := Lib.hid hl2
        clear hl2
        go_loopw [6, 7, 31] (fun cn la i wr => ∃ k2 : Nat, k2 ≤ n + 1 ∧ i = .int .i64 k2 ∧ cn = .int .i64 ((cntK e l2 k2 : Nat) : Int) ∧ la = .int .i64 ((lastK e l2 k2 : Nat) : Int) ∧ Hid (Below w4.heap.size w4 wr)) (fun _ _ i _ => n + 1 - (intOf i).toNat)
        case atStart => exact ⟨0, Nat.zero_le _, rfl, rfl, rfl, Lib.hid (Below.refl _ _)⟩
        case round =>
          obtain ⟨k2, hk2, rfl, rfl, rfl, HW2⟩ := hrel
          have hc1 := cntK_le e l2 k2
          have hc2 := lastK_lt e l2 k2
          have hz5 := HW2.out.size
          by_cases hlt : k2 < n + 1
          · obtain ⟨x, hx⟩ : ∃ x, l2[k2]? = some x := ⟨l2[k2]'(by rw [← HN2.out]; exact hlt), List.getElem?_eq_getElem _⟩
            have hr4 : Rd wr wr.heap.size A4 (l2.flatMap Ex.cells) := Rd.of_slice (own_below HO4.out HW2.out)
            obtain ⟨a, rfl, hab, hcc⟩ := ex_at hr4 hx
            have hbw : wr.heap[B]? = some (.cells #[.string e.sv, .string e.op, .int .u64 e.hi, .int .u64 e.lo, .int .u64 e.id, .int .i64 e.bl] 38) := (HW2.out.block B hz4).trans HB4.out
            have e0 : wr.cell? ⟨B, 0, none⟩ = some (.string e.sv) := cell_of_row _ _ 0 _ _ (0, 0) hbw
            have e1 : wr.cell? ⟨B, 1, none⟩ = some (.string e.op) := cell_of_row _ _ 1 _ _ (0, 0) hbw
            have e2 : wr.cell? ⟨B, 2, none⟩ = some (.int .u64 e.hi) := cell_of_row _ _ 2 _ _ (0, 0) hbw
            have e3 : wr.cell? ⟨B, 3, none⟩ = some (.int .u64 e.lo) := cell_of_row _ _ 3 _ _ (0, 0) hbw
            have e4 : wr.cell? ⟨B, 4, none⟩ = some (.int .u64 e.id) := cell_of_row _ _ 4 _ _ (0, 0) hbw
            have e5 : wr.cell? ⟨B, 5, none⟩ = some (.int .i64 e.bl) := cell_of_row _ _ 5 _ _ (0, 0) hbw
            have x0 : wr.cell? (a.add (k2 * 6)) = some (.string x.sv) := hcc 0 _ rfl
            have x1 : wr.cell? ⟨(a.add (k2 * 6)).block, (a.add (k2 * 6)).off + 1, none⟩ = some (.string x.op) := cell_far (hcc 1 _ rfl) (by decide)
            have x2 : wr.cell? ⟨(a.add (k2 * 6)).block, (a.add (k2 * 6)).off + 2, none⟩ = some (.int .u64 x.hi) := cell_far (hcc 2 _ rfl) (by decide)
            have x3 : wr.cell? ⟨(a.add (k2 * 6)).block, (a.add (k2 * 6)).off + 3, none⟩ = some (.int .u64 x.lo) := cell_far (hcc 3 _ rfl) (by decide)
            have x4 : wr.cell? ⟨(a.add (k2 * 6)).block, (a.add (k2 * 6)).off + 4, none⟩ = some (.int .u64 x.id) := cell_far (hcc 4 _ rfl) (by decide)
            have x5 : wr.cell? ⟨(a.add (k2 * 6)).block, (a.add (k2 * 6)).off + 5, none⟩ = some (.int .i64 x.bl) := cell_far (hcc 5 _ rfl) (by decide)
            have ORD := Lib.hid (show ∀ W, Calls Try.prog 55 #[.agg #[.string x.sv, .string x.op, .int .u64 x.hi, .int .u64 x.lo, .int .u64 x.id, .int .i64 x.bl], .agg #[.string e.sv, .string e.op, .int .u64 e.hi, .int .u64 e.lo, .int .u64 e.id, .int .i64 e.bl]] W fun ex w' => ex = .returned (.int .i64 (ordE x e)) ∧ Below W.heap.size W w' from fun W => order_calls x e W)
            have i1 : (k2 : Int) < ((n + 1 : Nat) : Int) := by omega
            have i1b : (k2 : Int) < (n : Int) + 1 := by omega
            have i0 : (0 : Int) ≤ (k2 : Int) := by omega
            have YES := Lib.hid (cntK_yes (e := e) hx)
            have NO := Lib.hid (cntK_no (e := e) hx)
            clear hr4 hcc hbw hx
            generalize ordE x e = o at *
            generalize cntK e l2 k2 = cc at *
            generalize lastK e l2 k2 = ll at *
            go_upto_region 9 with fail
            go_still_tail 5, (by kernel_rfl)
            change wpList _ _ _ _ _ wr.drew
            have HW3 := Lib.hid (show Below w4.heap.size w4 wr.drew from ⟨HW2.out.os, HW2.out.tape, HW2.out.output, HW2.out.size, HW2.out.block⟩)
            have hz6 : w4.heap.size ≤ wr.drew.heap.size := hz5
            clear e0 e1 e2 e3 e4 e5 x0 x1 x2 x3 x4 x5
            generalize wr.drew = w6 at *
            by_cases ho : o = 0
            · subst ho
              obtain ⟨y1, y2⟩ := YES.out rfl
              go_wp2_with (go_at_call 55; (with_reducible refine (ORD.out _).mono ?_); rintro ex w7 ⟨rfl, hbw7⟩)
              go_roundw
              case rel => exact ⟨k2 + 1, by omega, by go_num, by rw [y1]; go_num, by rw [y2], Lib.hid (HW3.out.trans (hbw7.mono hz6))⟩
              case measure => simp [intOf]; omega
            · have d0 : (o == 0) = false := by simpa using ho
              obtain ⟨y1, y2⟩ := NO.out ho
              go_wp2_with (go_at_call 55; (with_reducible refine (ORD.out _).mono ?_); rintro ex w7 ⟨rfl, hbw7⟩)
              go_roundw
              case rel => exact ⟨k2 + 1, by omega, by go_num, by rw [y1], by rw [y2], Lib.hid (HW3.out.trans (hbw7.mono hz6))⟩
              case measure => simp [intOf]; omega
          · obtain rfl : k2 = n + 1 := by omega
            have HOR := Lib.hid (own_below HO4.out HW2.out)
            have HGR := Lib.hid (HG0.out.trans (Grew.belowr _ HW2.out))
            have hPX : putX e l = if 2 < cntK e l2 (n + 1) then l2.eraseIdx (lastK e l2 (n + 1)) else l2 := by unfold putX; rw [HLL.out, ← HN.out]
            obtain ⟨g4, rfl, _, _, _, hcc4, _, _⟩ := own_parts HOR.out (by omega)
            have DEL := Lib.hid (x_delete g4 (n + 1) c4 (lastK e l2 (n + 1)) base l2 wr HOR.out (by omega) (by omega))
            have hlen2 : (l2.eraseIdx (lastK e l2 (n + 1))).length = n + 1 - 1 := by have := HN2.out; rw [List.length_eraseIdx_of_lt (by omega)]; omega
            have HLEN := Lib.hid hlen2
            have HPX := Lib.hid hPX
            clear hPX hlen2
            by_cases hcnt : 2 < cntK e l2 (n + 1)
            · rw [if_pos hcnt] at HPX
              have d2 : decide ((2 : Int) < ((cntK e l2 (n + 1) : Nat) : Int)) = true := decide_eq_true (by omega)
              generalize cntK e l2 (n + 1) = cc at *
              generalize lastK e l2 (n + 1) = ll at *
              go_wp2_with (go_at_call 57; (with_reducible refine DEL.out.mono ?_); rintro ex w8 ⟨rfl, ho8, hg8⟩; have HO8 := Lib.hid ho8; have HG8 := Lib.hid hg8; clear ho8 hg8)
              go_ret
              exact ⟨_, _, _, rfl, by rw [HPX.out, HLEN.out] <;> omega, by rw [HPX.out]; exact HO8.out, HGR.out.trans HG8.out⟩
            · rw [if_neg hcnt] at HPX
              have d2 : decide ((2 : Int) < ((cntK e l2 (n + 1) : Nat) : Int)) = false := decide_eq_false (by omega)
              generalize cntK e l2 (n + 1) = cc at *
              generalize lastK e l2 (n + 1) = ll at *
              go_wp2_with fail
              go_ret
              exact ⟨_, _, _, rfl, by rw [HPX.out, HN2.out], by rw [HPX.out]; exact HOR.out, HGR.out⟩

    · have hput0 := HP.out k hk HO.out (fun y hy => by rw [List.getElem?_eq_none (by have := HN.out; omega)] at hy; cases hy)
      have d1 : decide ((k : Int) < (n : Int)) = false := decide_eq_false (by omega)
      go_upto_region 2 with fail
      go_still_tail 10, (by kernel_rfl)
      change wpList _ _ _ _ _ wr.drew
      have HW3 := Lib.hid (show Below w0.heap.size w0 wr.drew from ⟨HW.out.os, HW.out.tape, HW.out.output, HW.out.size, HW.out.block⟩)
      have hz6 : w0.heap.size ≤ wr.drew.heap.size := hz1
      generalize wr.drew = w6 at *
      go_upto_region 4 with fail
      have HX := Lib.hid HW3.out
      clear HW3 HW hz1 HO d1 HP hz6 hlt
      generalize w6 = WX at *
      have hbx : WX.heap[B]? = some (.cells #[.string e.sv, .string e.op, .int .u64 e.hi, .int .u64 e.lo, .int .u64 e.id, .int .i64 e.bl] 38) := (HX.out.block B (by omega)).trans q0
      have e0 : WX.cell? ⟨B, 0, none⟩ = some (.string e.sv) := cell_of_row _ _ 0 _ _ (0, 0) hbx
      have e1 : WX.cell? ⟨B, 1, none⟩ = some (.string e.op) := cell_of_row _ _ 1 _ _ (0, 0) hbx
      have e2 : WX.cell? ⟨B, 2, none⟩ = some (.int .u64 e.hi) := cell_of_row _ _ 2 _ _ (0, 0) hbx
      have e3 : WX.cell? ⟨B, 3, none⟩ = some (.int .u64 e.lo) := cell_of_row _ _ 3 _ _ (0, 0) hbx
      have e4 : WX.cell? ⟨B, 4, none⟩ = some (.int .u64 e.id) := cell_of_row _ _ 4 _ _ (0, 0) hbx
      have e5 : WX.cell? ⟨B, 5, none⟩ = some (.int .i64 e.bl) := cell_of_row _ _ 5 _ _ (0, 0) hbx
      have hox := own_below own0 HX.out
      have hvB : (WX.alloc (.cells #[.string e.sv, .string e.op, .int .u64 e.hi, .int .u64 e.lo, .int .u64 e.id, .int .i64 e.bl] 38)).heap[WX.heap.size]? = some (.cells #[.string e.sv, .string e.op, .int .u64 e.hi, .int .u64 e.lo, .int .u64 e.id, .int .i64 e.bl] 38) := heap_alloc_new WX _
      have hoa := own_below hox ((Below.refl WX.heap.size WX).alloc (Nat.le_refl _) (.cells #[.string e.sv, .string e.op, .int .u64 e.hi, .int .u64 e.lo, .int .u64 e.id, .int .i64 e.bl] 38))
      have hzx := HX.out.size
      have INS := Lib.hid (x_insert A n c k WX.heap.size l e base (WX.alloc (.cells #[.string e.sv, .string e.op, .int .u64 e.hi, .int .u64 e.lo, .int .u64 e.id, .int .i64 e.bl] 38)) hoa HN.out hk (by omega) (by have := HBB.out; simp; omega) hvB (fun a ha => by
        have h1 := hlB a.block (by rw [ha]; rfl)
        omega))
      have hbB2 : (WX.alloc (.cells #[.string e.sv, .string e.op, .int .u64 e.hi, .int .u64 e.lo, .int .u64 e.id, .int .i64 e.bl] 38)).heap[B]? = some (.cells #[.string e.sv, .string e.op, .int .u64 e.hi, .int .u64 e.lo, .int .u64 e.id, .int .i64 e.bl] 38) := (Below.heap_alloc WX _ B (by omega)).trans hbx
      clear hoa hox hvB
      go_wp2_with (go_at_call 56; (with_reducible refine INS.out.mono ?_); rintro ex w4 ⟨A4, c4, rfl, ho4, hg4⟩; have HO4 := Lib.hid ho4; have HG4 := Lib.hid hg4; clear ho4 hg4)
      clear INS
      have hb4 : w4.heap[B]? = some (.cells #[.string e.sv, .string e.op, .int .u64 e.hi, .int .u64 e.lo, .int .u64 e.id, .int .i64 e.bl] 38) := (HG4.out.grown.block B (by simp; omega) (fun h => by
        have h1 := hlB B h.symm
        omega)).trans hbB2
      have HB4 := Lib.hid hb4
      have hz4 : B < w4.heap.size := by have h1 := HG4.out.grown.size; simp at h1; omega
      have hput := hput0
      have HL2 := Lib.hid (show l.take k ++ e :: l.drop k = insX e l from by unfold insX; rw [hput])
      rw [HL2.out] at HO4
      have HN2 := Lib.hid (show n + 1 = (insX e l).length from by rw [insX_len, ← HN.out])
      have HG0 := Lib.hid (show Grew w w4 (.slice A n c) (.slice A4 (n + 1) c4) from ((Grew.belowr _ HGW.out).trans (Grew.belowr _ HX.out)).trans ((Grew.belowr _ (Below.alloc (Below.refl _ _) (Nat.le_refl _) (.cells #[.string e.sv, .string e.op, .int .u64 e.hi, .int .u64 e.lo, .int .u64 e.id, .int .i64 e.bl] 38))).trans HG4.out))
      clear hb4 hbB2 hbx HG4 e0 e1 e2 e3 e4 e5 HL2
      generalize hl2 : insX e l = l2 at *
      have HLL := Lib.hid hl2
      clear hl2
      go_loopw [6, 7, 31] (fun cn la i wr => ∃ k2 : Nat, k2 ≤ n + 1 ∧ i = .int .i64 k2 ∧ cn = .int .i64 ((cntK e l2 k2 : Nat) : Int) ∧ la = .int .i64 ((lastK e l2 k2 : Nat) : Int) ∧ Hid (Below w4.heap.size w4 wr)) (fun _ _ i _ => n + 1 - (intOf i).toNat)
      case atStart => exact ⟨0, Nat.zero_le _, rfl, rfl, rfl, Lib.hid (Below.refl _ _)⟩
      case round =>
        obtain ⟨k2, hk2, rfl, rfl, rfl, HW2⟩ := hrel
        have hc1 := cntK_le e l2 k2
        have hc2 := lastK_lt e l2 k2
        have hz5 := HW2.out.size
        by_cases hlt : k2 < n + 1
        · obtain ⟨x, hx⟩ : ∃ x, l2[k2]? = some x := ⟨l2[k2]'(by rw [← HN2.out]; exact hlt), List.getElem?_eq_getElem _⟩
          have hr4 : Rd wr wr.heap.size A4 (l2.flatMap Ex.cells) := Rd.of_slice (own_below HO4.out HW2.out)
          obtain ⟨a, rfl, hab, hcc⟩ := ex_at hr4 hx
          have hbw : wr.heap[B]? = some (.cells #[.string e.sv, .string e.op, .int .u64 e.hi, .int .u64 e.lo, .int .u64 e.id, .int .i64 e.bl] 38) := (HW2.out.block B hz4).trans HB4.out
          have e0 : wr.cell? ⟨B, 0, none⟩ = some (.string e.sv) := cell_of_row _ _ 0 _ _ (0, 0) hbw
          have e1 : wr.cell? ⟨B, 1, none⟩ = some (.string e.op) := cell_of_row _ _ 1 _ _ (0, 0) hbw
          have e2 : wr.cell? ⟨B, 2, none⟩ = some (.int .u64 e.hi) := cell_of_row _ _ 2 _ _ (0, 0) hbw
          have e3 : wr.cell? ⟨B, 3, none⟩ = some (.int .u64 e.lo) := cell_of_row _ _ 3 _ _ (0, 0) hbw
          have e4 : wr.cell? ⟨B, 4, none⟩ = some (.int .u64 e.id) := cell_of_row _ _ 4 _ _ (0, 0) hbw
          have e5 : wr.cell? ⟨B, 5, none⟩ = some (.int .i64 e.bl) := cell_of_row _ _ 5 _ _ (0, 0) hbw
          have x0 : wr.cell? (a.add (k2 * 6)) = some (.string x.sv) := hcc 0 _ rfl
          have x1 : wr.cell? ⟨(a.add (k2 * 6)).block, (a.add (k2 * 6)).off + 1, none⟩ = some (.string x.op) := cell_far (hcc 1 _ rfl) (by decide)
          have x2 : wr.cell? ⟨(a.add (k2 * 6)).block, (a.add (k2 * 6)).off + 2, none⟩ = some (.int .u64 x.hi) := cell_far (hcc 2 _ rfl) (by decide)
          have x3 : wr.cell? ⟨(a.add (k2 * 6)).block, (a.add (k2 * 6)).off + 3, none⟩ = some (.int .u64 x.lo) := cell_far (hcc 3 _ rfl) (by decide)
          have x4 : wr.cell? ⟨(a.add (k2 * 6)).block, (a.add (k2 * 6)).off + 4, none⟩ = some (.int .u64 x.id) := cell_far (hcc 4 _ rfl) (by decide)
          have x5 : wr.cell? ⟨(a.add (k2 * 6)).block, (a.add (k2 * 6)).off + 5, none⟩ = some (.int .i64 x.bl) := cell_far (hcc 5 _ rfl) (by decide)
          have ORD := Lib.hid (show ∀ W, Calls Try.prog 55 #[.agg #[.string x.sv, .string x.op, .int .u64 x.hi, .int .u64 x.lo, .int .u64 x.id, .int .i64 x.bl], .agg #[.string e.sv, .string e.op, .int .u64 e.hi, .int .u64 e.lo, .int .u64 e.id, .int .i64 e.bl]] W fun ex w' => ex = .returned (.int .i64 (ordE x e)) ∧ Below W.heap.size W w' from fun W => order_calls x e W)
          have i1 : (k2 : Int) < ((n + 1 : Nat) : Int) := by omega
          have i1b : (k2 : Int) < (n : Int) + 1 := by omega
          have i0 : (0 : Int) ≤ (k2 : Int) := by omega
          have YES := Lib.hid (cntK_yes (e := e) hx)
          have NO := Lib.hid (cntK_no (e := e) hx)
          clear hr4 hcc hbw hx
          generalize ordE x e = o at *
          generalize cntK e l2 k2 = cc at *
          generalize lastK e l2 k2 = ll at *
          go_upto_region 9 with fail
          go_still_tail 5, (by kernel_rfl)
          change wpList _ _ _ _ _ wr.drew
          have HW3 := Lib.hid (show Below w4.heap.size w4 wr.drew from ⟨HW2.out.os, HW2.out.tape, HW2.out.output, HW2.out.size, HW2.out.block⟩)
          have hz6 : w4.heap.size ≤ wr.drew.heap.size := hz5
          clear e0 e1 e2 e3 e4 e5 x0 x1 x2 x3 x4 x5
          generalize wr.drew = w6 at *
          by_cases ho : o = 0
          · subst ho
            obtain ⟨y1, y2⟩ := YES.out rfl
            go_wp2_with (go_at_call 55; (with_reducible refine (ORD.out _).mono ?_); rintro ex w7 ⟨rfl, hbw7⟩)
            go_roundw
            case rel => exact ⟨k2 + 1, by omega, by go_num, by rw [y1]; go_num, by rw [y2], Lib.hid (HW3.out.trans (hbw7.mono hz6))⟩
            case measure => simp [intOf]; omega
          · have d0 : (o == 0) = false := by simpa using ho
            obtain ⟨y1, y2⟩ := NO.out ho
            go_wp2_with (go_at_call 55; (with_reducible refine (ORD.out _).mono ?_); rintro ex w7 ⟨rfl, hbw7⟩)
            go_roundw
            case rel => exact ⟨k2 + 1, by omega, by go_num, by rw [y1], by rw [y2], Lib.hid (HW3.out.trans (hbw7.mono hz6))⟩
            case measure => simp [intOf]; omega
        · obtain rfl : k2 = n + 1 := by omega
          have HOR := Lib.hid (own_below HO4.out HW2.out)
          have HGR := Lib.hid (HG0.out.trans (Grew.belowr _ HW2.out))
          have hPX : putX e l = if 2 < cntK e l2 (n + 1) then l2.eraseIdx (lastK e l2 (n + 1)) else l2 := by unfold putX; rw [HLL.out, ← HN.out]
          obtain ⟨g4, rfl, _, _, _, hcc4, _, _⟩ := own_parts HOR.out (by omega)
          have DEL := Lib.hid (x_delete g4 (n + 1) c4 (lastK e l2 (n + 1)) base l2 wr HOR.out (by omega) (by omega))
          have hlen2 : (l2.eraseIdx (lastK e l2 (n + 1))).length = n + 1 - 1 := by have := HN2.out; rw [List.length_eraseIdx_of_lt (by omega)]; omega
          have HLEN := Lib.hid hlen2
          have HPX := Lib.hid hPX
          clear hPX hlen2
          by_cases hcnt : 2 < cntK e l2 (n + 1)
          · rw [if_pos hcnt] at HPX
            have d2 : decide ((2 : Int) < ((cntK e l2 (n + 1) : Nat) : Int)) = true := decide_eq_true (by omega)
            generalize cntK e l2 (n + 1) = cc at *
            generalize lastK e l2 (n + 1) = ll at *
            go_wp2_with (go_at_call 57; (with_reducible refine DEL.out.mono ?_); rintro ex w8 ⟨rfl, ho8, hg8⟩; have HO8 := Lib.hid ho8; have HG8 := Lib.hid hg8; clear ho8 hg8)
            go_ret
            exact ⟨_, _, _, rfl, by rw [HPX.out, HLEN.out] <;> omega, by rw [HPX.out]; exact HO8.out, HGR.out.trans HG8.out⟩
          · rw [if_neg hcnt] at HPX
            have d2 : decide ((2 : Int) < ((cntK e l2 (n + 1) : Nat) : Int)) = false := decide_eq_false (by omega)
            generalize cntK e l2 (n + 1) = cc at *
            generalize lastK e l2 (n + 1) = ll at *
            go_wp2_with fail
            go_ret
            exact ⟨_, _, _, rfl, by rw [HPX.out, HN2.out], by rw [HPX.out]; exact HOR.out, HGR.out⟩

end Go.Proofs.Ytajpnimjkkmcmaa
