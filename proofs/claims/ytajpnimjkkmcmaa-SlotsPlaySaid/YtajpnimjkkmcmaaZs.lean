/- The document's PutSlots. -/
import Derived.Test.YtajpnimjkkmcmaaZr
import Derived.Test.YtajpnimjkkmcmaaZt
import Derived.Test.YtajpnimjkkmcmaaBs
namespace Go.Proofs.Ytajpnimjkkmcmaa
open Go.RowKit
set_option linter.unusedVariables false
set_option linter.unusedSimpArgs false
set_option maxRecDepth 100000

theorem dputsX_snoc (es : List Ex) (l : List Ex) {k : Nat} {x : Ex} (h : es[k]? = some x) : dputsX (es.take (k + 1)) l = dputX x (dputsX (es.take k) l) := by
  unfold dputsX
  rw [List.take_add_one, h, List.foldl_append]
  rfl
/-- append of the first j of a row to nil. -/
theorem appT {w : World} {ty : TypeId} (base : Nat) {B : Nat} {A : Option Addr} {L : List Ex} {n j c : Nat} (hr : Rd w B A (L.flatMap Ex.cells)) (hj : j ≤ n) (hn : n = L.length) (hs : j ≤ 1000000) (hbase : base ≤ w.heap.size) :
    ∃ v' w', (Builtin.append_ #[24, 24] ty #[.slice none 0 0, .slice A j c]).run Try.prog w = .ok v' w' ∧ w'.ownsRow base 38 6 v' j ((L.take j).flatMap Ex.cells) ∧ Grew w w' (.slice none 0 0) v' := by
  obtain ⟨i0, hi, hz0, hz1, hz2⟩ := info_parts x_info
  have hl : ((L.take j).flatMap Ex.cells).length = j * 6 := by rw [flatMap_len _ 6 xcells_len, List.length_take]; congr 1; omega
  have hr2 : Rd w B A ((L.take j).flatMap Ex.cells) := fun h0 => by
    obtain ⟨a, h1, h2, h3⟩ := hr (by rw [flatMap_len _ 6 xcells_len] at h0 ⊢; rw [List.length_take] at h0; omega)
    refine ⟨a, h1, h2, fun q u hu => h3 q u ?_⟩
    have hq := (List.getElem?_eq_some_iff.1 hu).1
    rw [← xflat_take, List.getElem?_take] at hu
    split at hu
    · exact hu
    · cases hu
  have h := run_append_rd (P := Try.prog) w base 24 ty 38 i0 _ 6 64 Try.underlying24 hi hz0 hz1 hz2 rfl (.slice none 0 0) 0 [] (World.ownsRow_nil _ _ _ _) B A j c _ hl hr2 (fun u hu => xcells_one _ u hu) (by unfold maxLen; omega) (by omega) hbase
  simpa using h
/-- append of a row of one that lies somewhere. -/
theorem appG {w : World} {base n g : Nat} {v : Value} {xs : List Value} {ty : TypeId} (h : w.ownsRow base 38 6 v n xs) (e : Ex) (hg : w.heap[g]? = some (.cells #[.string e.sv, .string e.op, .int .u64 e.hi, .int .u64 e.lo, .int .u64 e.id, .int .i64 e.bl] 38 (0, 0))) (hn : n ≤ 1000000) (hbase : base ≤ w.heap.size) :
    ∃ v' w', (Builtin.append_ #[24, 24] ty #[v, .slice (some ⟨g, 0, none⟩) 1 1]).run Try.prog w = .ok v' w' ∧ w'.ownsRow base 38 6 v' (n + 1) (xs ++ e.cells) ∧ Grew w w' v v' := by
  obtain ⟨i0, hi, hz0, hz1, hz2⟩ := info_parts x_info
  exact run_append_rd (P := Try.prog) w base 24 ty 38 i0 _ 6 64 Try.underlying24 hi hz0 hz1 hz2 rfl v n xs h w.heap.size (some ⟨g, 0, none⟩) 1 1 e.cells rfl
    (fun _ => ⟨_, rfl, (by
      rcases Nat.lt_or_ge g w.heap.size with h1 | h1
      · exact h1
      · rw [Array.getElem?_eq_none h1] at hg; cases hg), fun j u hu => by
      rw [Addr.add_lit, Nat.zero_add, cell_of_row _ g j _ _ (0, 0) hg]
      simpa [Ex.cells] using hu⟩) (xcells_one1 e) (by unfold maxLen; omega) (by omega) hbase
def DpF (A' : Option Addr) (n' c' j : Nat) (eA : Option Addr) (ne ec k : Nat) (b : Addr) (Bx : Nat) (L : List Ex) (e : Ex) : Nat → Value → World → Prop
  | 0, v, _ => v = .slice A' n' c'
  | 1, v, _ => v = .int .i64 (j : Int)
  | 2, v, _ => v = .slice A' j c'
  | 3, v, w => w.ownsRow Bx 38 6 v j ((L.take j).flatMap Ex.cells)
  | 4, v, _ => v = .slice eA ne ec
  | 5, v, _ => v = .int .i64 (k : Int)
  | 6, v, _ => v = .pointer (some (b.add (k * 6)))
  | 7, v, _ => v = .agg #[.string e.sv, .string e.op, .int .u64 e.hi, .int .u64 e.lo, .int .u64 e.id, .int .i64 e.bl]
  | 8, v, w => ∃ g, v = .slice (some ⟨g, 0, none⟩) 1 1 ∧ w.heap[g]? = some (.cells #[.string e.sv, .string e.op, .int .u64 e.hi, .int .u64 e.lo, .int .u64 e.id, .int .i64 e.bl] 38 (0, 0))
  | 9, v, w => w.ownsRow Bx 38 6 v (j + 1) ((L.take j ++ [e]).flatMap Ex.cells)
  | 10, v, w => w.ownsRow Bx 38 6 v (j + 1) ((L.take j ++ [e]).flatMap Ex.cells)
  | _, _, _ => True
theorem DpF.keep {A' : Option Addr} {n' c' j : Nat} {eA : Option Addr} {ne ec k : Nat} {b : Addr} {Bx : Nat} {L : List Ex} {e : Ex} {w w' : World} {i : Nat} {v : Value} (hb : Below w.heap.size w w') (h : DpF A' n' c' j eA ne ec k b Bx L e i v w) : DpF A' n' c' j eA ne ec k b Bx L e i v w' := by
  match i, h with
  | 0, h => exact h
  | 1, h => exact h
  | 2, h => exact h
  | 3, h => exact own_below h hb
  | 4, h => exact h
  | 5, h => exact h
  | 6, h => exact h
  | 7, h => exact h
  | 8, h =>
    obtain ⟨g, h1, h2⟩ := h
    exact ⟨g, h1, (hb.block g (by
      rcases Nat.lt_or_ge g w.heap.size with h3 | h3
      · exact h3
      · rw [Array.getElem?_eq_none h3] at h2; cases h2)).trans h2⟩
  | 9, h => exact own_below h hb
  | 10, h => exact own_below h hb
  | _ + 11, _ => trivial
set_option maxHeartbeats 64000000 in
theorem dputs_any (A eA : Option Addr) (n c ne ec : Nat) (l es : List Ex) (B : Nat) (w : World) (hn : n = l.length) (hne : ne = es.length) (hr : Rd w B A (l.flatMap Ex.cells)) (he : Rd w B eA (es.flatMap Ex.cells)) (hB : B ≤ w.heap.size) (hsm : n ≤ 40000) (hse : ne ≤ 40000) :
    Calls Try.prog 14 #[.slice A n c, .slice eA ne ec] w (RowX (dputsX es l) w) := by
  have APT := Lib.hid (fun ty => appT (ty := ty) (c := c) w.heap.size hr (Nat.le_refl n) hn (by omega) (Nat.le_refl _))
  rw [hn, List.take_length, ← hn] at APT
  have HE := Lib.hid he
  have HNE := Lib.hid hne
  have HN := Lib.hid hn
  clear hr he hn hne
  go_enter Try.func14, Try.ntmps14
  go_wp2_with (at_builtin; refine wpList_app rfl _ (.tmp 10) _ _ rfl rfl rfl (APT.out _) ?_; rintro v1 w1 ⟨ho1, hg1⟩; obtain ⟨A1, c1, rfl, _, _⟩ := own_rd ho1; have HO1 := Lib.hid ho1; have HB1 := Lib.hid hg1.new; clear ho1 hg1)
  go_loopw [0, 5] (fun o i wr => ∃ (k n' c' : Nat) (A' : Option Addr), k ≤ ne ∧ i = .int .i64 k ∧ o = .slice A' n' c' ∧ n' ≤ n + k ∧ Hid (n' = (dputsX (es.take k) l).length) ∧ Hid (wr.ownsRow w.heap.size 38 6 (.slice A' n' c') n' ((dputsX (es.take k) l).flatMap Ex.cells)) ∧ Hid (Below w.heap.size w wr)) (fun _ i _ => ne - (intOf i).toNat)
  case atStart => exact ⟨0, n, c1, A1, Nat.zero_le _, rfl, rfl, by omega, HN, HO1, HB1⟩
  case round =>
    obtain ⟨k, n', c', A', hk, rfl, rfl, hn'k, HNL, HO, HB⟩ := hrel
    have hws := HB.out.size
    by_cases hlt : k < ne
    · obtain ⟨e, he⟩ : ∃ e, es[k]? = some e := ⟨es[k]'(by rw [← HNE.out]; exact hlt), List.getElem?_eq_getElem _⟩
      obtain ⟨b, rfl, hbb, hee⟩ := ex_at (HE.out.keep (fun p hp => HB.out.cell (Nat.lt_of_lt_of_le hp hB))) he
      have HDS := Lib.hid (dputsX_snoc es l he)
      have HEE := Lib.hid hee
      have HNIL : Hid (A' = none → n' = 0 ∧ c' = 0) := Lib.hid (by
        rintro rfl
        rcases HO.out.2 with ⟨h0, h1⟩ | ⟨g, cap, cur, hv, _⟩
        · injection h0 with _ h2 h3; exact ⟨h2, h3⟩
        · injection hv with h1; cases h1)
      have hn8 : n' ≤ 80000 := by omega
      have hbw : b.block < wr.heap.size := by omega
      clear he hee
      generalize dputsX (es.take k) l = L at *
      have HP : Hid (∀ q, q ≤ n' → (∀ i x, i < q → L[i]? = some x → ordE x e < 0) → (∀ x, L[q]? = some x → ¬ ordE x e < 0) → putAt e L = q) := fun q h1 h2 h3 => putAt_at e L q h2 (by have := HNL.out; omega) h3
      have i1k : (k : Int) < (ne : Int) := by omega
      have i0k : (0 : Int) ≤ (k : Int) := by omega
      generalize wr = w0 at *
      go_wp2_with fail
      go_loopw [6] (fun i wr => ∃ j : Nat, j ≤ n' ∧ i = .int .i64 j ∧ Hid (∀ i x, i < j → L[i]? = some x → ordE x e < 0) ∧ Hid (Below w0.heap.size w0 wr)) (fun i _ => n' - (intOf i).toNat)
      case atStart => exact ⟨0, Nat.zero_le _, rfl, fun i x hi => absurd hi (Nat.not_lt_zero i), Lib.hid (Below.refl _ _)⟩
      case round =>
        obtain ⟨j, hj, rfl, HQ, HW⟩ := hrel
        have hz1 := HW.out.size
        by_cases hlt2 : j < n'
        · obtain ⟨x, hx⟩ : ∃ x, L[j]? = some x := ⟨L[j]'(by have := HNL.out; omega), List.getElem?_eq_getElem _⟩
          obtain ⟨a, ha, hab, hcc⟩ := ex_at (Rd.of_slice (own_below HO.out HW.out)) hx
          have hce : ∀ jj u, e.cells[jj]? = some u → wr.cell? (b.add (k * 6 + jj)) = some u := fun jj u hu => (HW.out.cell (by rw [block_add]; exact hbw)).trans (HEE.out jj u hu)
          subst ha
          have e0 : wr.cell? (b.add (k * 6)) = some (.string e.sv) := hce 0 _ rfl
          have e1 : wr.cell? ⟨(b.add (k * 6)).block, (b.add (k * 6)).off + 1, none⟩ = some (.string e.op) := cell_far (hce 1 _ rfl) (by decide)
          have e2 : wr.cell? ⟨(b.add (k * 6)).block, (b.add (k * 6)).off + 2, none⟩ = some (.int .u64 e.hi) := cell_far (hce 2 _ rfl) (by decide)
          have e3 : wr.cell? ⟨(b.add (k * 6)).block, (b.add (k * 6)).off + 3, none⟩ = some (.int .u64 e.lo) := cell_far (hce 3 _ rfl) (by decide)
          have e4 : wr.cell? ⟨(b.add (k * 6)).block, (b.add (k * 6)).off + 4, none⟩ = some (.int .u64 e.id) := cell_far (hce 4 _ rfl) (by decide)
          have e5 : wr.cell? ⟨(b.add (k * 6)).block, (b.add (k * 6)).off + 5, none⟩ = some (.int .i64 e.bl) := cell_far (hce 5 _ rfl) (by decide)
          have x0 : wr.cell? (a.add (j * 6)) = some (.string x.sv) := hcc 0 _ rfl
          have x1 : wr.cell? ⟨(a.add (j * 6)).block, (a.add (j * 6)).off + 1, none⟩ = some (.string x.op) := cell_far (hcc 1 _ rfl) (by decide)
          have x2 : wr.cell? ⟨(a.add (j * 6)).block, (a.add (j * 6)).off + 2, none⟩ = some (.int .u64 x.hi) := cell_far (hcc 2 _ rfl) (by decide)
          have x3 : wr.cell? ⟨(a.add (j * 6)).block, (a.add (j * 6)).off + 3, none⟩ = some (.int .u64 x.lo) := cell_far (hcc 3 _ rfl) (by decide)
          have x4 : wr.cell? ⟨(a.add (j * 6)).block, (a.add (j * 6)).off + 4, none⟩ = some (.int .u64 x.id) := cell_far (hcc 4 _ rfl) (by decide)
          have x5 : wr.cell? ⟨(a.add (j * 6)).block, (a.add (j * 6)).off + 5, none⟩ = some (.int .i64 x.bl) := cell_far (hcc 5 _ rfl) (by decide)
          have AHD := Lib.hid (fun W => ahead_calls x e W)
          have d1 : decide ((j : Int) < (n' : Int)) = true := decide_eq_true (by omega)
          have i1 : (j : Int) < (n' : Int) := by omega
          have i0 : (0 : Int) ≤ (j : Int) := by omega
          have HX0 := Lib.hid hx
          clear hcc hce hx
          go_upto_region 6 with fail
          go_still_tail 13, (by kernel_rfl)
          change wpList _ _ _ _ _ wr.drew
          have HW3 := Lib.hid (show Below w0.heap.size w0 wr.drew from ⟨HW.out.os, HW.out.tape, HW.out.output, HW.out.size, HW.out.block⟩)
          have hz6 : w0.heap.size ≤ wr.drew.heap.size := hz1
          clear e0 e1 e2 e3 e4 e5 x0 x1 x2 x3 x4 x5
          generalize wr.drew = w6 at *
          by_cases hneg : ordE x e < 0
          · have d0 : decide (ordE x e < 0) = true := decide_eq_true hneg
            rw [d0] at AHD
            go_wp2_with (go_at_call 40; (with_reducible refine (AHD.out _).mono ?_); rintro ex w7 ⟨rfl, hbw7⟩)
            go_roundw
            case rel => exact ⟨j + 1, by omega, by go_num, fun i y hi hy => by
              rcases Nat.lt_or_ge i j with h1 | h1
              · exact HQ.out i y h1 hy
              · obtain rfl : i = j := by omega
                rw [HX0.out] at hy
                injection hy with hy
                rw [← hy]; exact hneg, Lib.hid (HW3.out.trans (hbw7.mono hz6))⟩
            case measure => simp [intOf]; omega
          · have d0 : decide (ordE x e < 0) = false := decide_eq_false hneg
            rw [d0] at AHD
            have hput0 := HP.out j hj HQ.out (fun y hy => by rw [HX0.out] at hy; injection hy with hy; rw [← hy]; first | exact hneg | exact Int.not_lt.1 hneg)
            go_upto_region 8 with (go_at_call 40; (with_reducible refine (AHD.out _).mono ?_); rintro ex w7 ⟨rfl, hbw7⟩)
            have HX := Lib.hid (HW3.out.trans (hbw7.mono hz6))
            clear hbw7 hz6 HW3 HW hz1 HQ HX0 AHD d0 hneg d1 i1 i0 hlt2 hab HP
            generalize (some a) = A' at *
            generalize w7 = WX at *
            have HXO := Lib.hid (own_below HO.out HX.out)
            have HXE := Lib.hid (show ∀ jj u, e.cells[jj]? = some u → WX.cell? (b.add (k * 6 + jj)) = some u from fun jj u hu => (HX.out.cell (by rw [block_add]; exact hbw)).trans (HEE.out jj u hu))
            have HXB := Lib.hid (HB.out.trans (HX.out.mono hws))
            have hbX : b.block < WX.heap.size := Nat.lt_of_lt_of_le hbw HX.out.size
            obtain ⟨W, hW⟩ : ∃ W, W = WX.drew := ⟨_, rfl⟩
            have hWr : Below WX.heap.size WX W := by rw [hW]; exact ⟨rfl, rfl, rfl, Nat.le_refl _, fun _ _ => rfl⟩
            have hWz : W.heap.size = WX.heap.size := by rw [hW]; rfl
            obtain ⟨Bx, hBx⟩ : ∃ Bx, Bx = WX.heap.size := ⟨_, rfl⟩
            have HBX := Lib.hid hBx
            have HWZ := Lib.hid (show W.heap.size = Bx from hWz.trans hBx.symm)
            have HWO := Lib.hid (own_below HXO.out hWr)
            have HWE := Lib.hid (show ∀ jj u, e.cells[jj]? = some u → W.cell? (b.add (k * 6 + jj)) = some u from fun jj u hu => by rw [hW]; exact HXE.out jj u hu)
            have HWB := Lib.hid (HXB.out.trans (hWr.mono HXB.out.size))
            have hjn : j ≤ n' := hj
            have hnc' := own_capq HXO.out
            have hjc : (j : Int) ≤ (c' : Int) := by omega
            have hj0 : (0 : Int) ≤ (j : Int) := by omega
            have hkne : (k : Int) < (ne : Int) := by omega
            have hk0 : (0 : Int) ≤ (k : Int) := by omega
            have hbB : b.block < Bx := by rw [hBx]; exact hbX
            clear hWr hWz hBx
            refine PI.wp_region_persG (R := Below Bx) (G := fun _ _ => True) (I := fun _ _ _ => True) [(2, 0), (2, 1), (3, 2), (6, 4), (6, 5), (7, 6), (8, 7), (9, 3), (9, 8), (10, 9)] [10] (by kernel_rfl) (PI.formed_of (by kernel_rfl)) ⟨fun w => Below.refl _ w, fun _ _ _ h k => h.trans k⟩ (fun _ => trivial) (DpF A' n' c' j (some b) ne ec k b Bx L e) trivial ?_ ?_
            · rw [← hW]
              intro i o ho
              rcases i with _ | _ | _ | _ | _ | _ | _ | _ | _ | _ | _ | i
              · obtain rfl := Option.some.inj (show some _ = some o from ho)
                refine PI.shown_val rfl fun a w3 L0 hr T => ?_
                have h1 : a.eval (.tmp 0) = .slice A' n' c' := T.was 0 (by kernel_rfl)
                exact ⟨.slice A' n' c', w3, by simp only [execOp, h1]; simp [go_sem], PI.Post.pure ⟨fun w => Below.refl _ w, fun _ _ _ h k => h.trans k⟩ rfl trivial⟩
              · obtain rfl := Option.some.inj (show some _ = some o from ho)
                refine PI.shown_val rfl fun a w3 L0 hr T => ?_
                have h1 : a.eval (.tmp 6) = .int .i64 (j : Int) := T.was 6 (by kernel_rfl)
                exact ⟨.int .i64 (j : Int), w3, by simp only [execOp, h1]; simp [go_sem], PI.Post.pure ⟨fun w => Below.refl _ w, fun _ _ _ h k => h.trans k⟩ rfl trivial⟩
              · obtain rfl := Option.some.inj (show some _ = some o from ho)
                refine PI.shown_val rfl fun a w3 L0 hr T => ?_
                have h1 : a.eval (.tmp 35) = .slice A' n' c' := T.at_ 0 35 (by kernel_rfl) (by kernel_rfl) (by kernel_rfl)
                have h2 : a.eval (.tmp 36) = .int .i64 (j : Int) := T.at_ 1 36 (by kernel_rfl) (by kernel_rfl) (by kernel_rfl)
                have HN0 := HNIL.out
                have h2' : a.tmps[36]?.getD undef = .int .i64 (j : Int) := by simpa [Act.eval] using h2
                rcases A' with _ | a'
                · obtain ⟨rfl, rfl⟩ := HN0 rfl
                  obtain rfl : j = 0 := by omega
                  exact ⟨.slice none 0 0, w3, by simp only [execOp, h1]; simp [go_sem, h2'], PI.Post.pure ⟨fun w => Below.refl _ w, fun _ _ _ h k => h.trans k⟩ rfl trivial⟩
                · exact ⟨.slice (some a') j c', w3, by simp only [execOp, h1]; simp [go_sem, h2', hjc, hj0], PI.Post.pure ⟨fun w => Below.refl _ w, fun _ _ _ h k => h.trans k⟩ rfl trivial⟩
              · obtain rfl := Option.some.inj (show some _ = some o from ho)
                refine PI.shown_val rfl fun a w3 L0 hr T => ?_
                have h1 : a.eval (.tmp 37) = .slice A' j c' := T.at_ 2 37 (by kernel_rfl) (by kernel_rfl) (by kernel_rfl)
                have h0 : a.eval (.const (.slice none 0 0)) = .slice none 0 0 := rfl
                have hz3 : Bx ≤ w3.heap.size := by have := hr.size; have := HWZ.out; omega
                have hO3 := own_below HWO.out (hr.mono (by have := HWZ.out; omega))
                obtain ⟨v8, w8, r1, r2, r3⟩ := appT (ty := 24) (c := c') Bx (Rd.of_slice hO3) (show j ≤ n' from hj) HNL.out (by omega) hz3
                have hb4 : Below w3.heap.size w3 w8 := r3.new
                exact ⟨v8, w8, by simp only [execOp, resolve, invoke, builtin, Sem.run_bind, Sem.run_pure, Result.andThen_ok, List.map_toArray, List.map_cons, List.map_nil, h0, h1, r1], hb4.mono hz3, r2, fun _ _ h => h, fun jj v _ _ _ _ h => h.keep hb4, trivial⟩
              · obtain rfl := Option.some.inj (show some _ = some o from ho)
                refine PI.shown_val rfl fun a w3 L0 hr T => ?_
                have h1 : a.eval (.tmp 1) = .slice (some b) ne ec := T.was 1 (by kernel_rfl)
                exact ⟨.slice (some b) ne ec, w3, by simp only [execOp, h1]; simp [go_sem], PI.Post.pure ⟨fun w => Below.refl _ w, fun _ _ _ h k => h.trans k⟩ rfl trivial⟩
              · obtain rfl := Option.some.inj (show some _ = some o from ho)
                refine PI.shown_val rfl fun a w3 L0 hr T => ?_
                have h1 : a.eval (.tmp 5) = .int .i64 (k : Int) := T.was 5 (by kernel_rfl)
                exact ⟨.int .i64 (k : Int), w3, by simp only [execOp, h1]; simp [go_sem], PI.Post.pure ⟨fun w => Below.refl _ w, fun _ _ _ h k => h.trans k⟩ rfl trivial⟩
              · obtain rfl := Option.some.inj (show some _ = some o from ho)
                refine PI.shown_val rfl fun a w3 L0 hr T => ?_
                have h1 : a.eval (.tmp 39) = .slice (some b) ne ec := T.at_ 4 39 (by kernel_rfl) (by kernel_rfl) (by kernel_rfl)
                have h2 : a.eval (.tmp 40) = .int .i64 (k : Int) := T.at_ 5 40 (by kernel_rfl) (by kernel_rfl) (by kernel_rfl)
                exact ⟨.pointer (some (b.add (k * 6))), w3, by simp only [execOp, h1, h2]; simp [go_sem, hkne, hk0], PI.Post.pure ⟨fun w => Below.refl _ w, fun _ _ _ h k => h.trans k⟩ rfl trivial⟩
              · obtain rfl := Option.some.inj (show some _ = some o from ho)
                refine PI.shown_val rfl fun a w3 L0 hr T => ?_
                have h1 : a.eval (.tmp 41) = .pointer (some (b.add (k * 6))) := T.at_ 6 41 (by kernel_rfl) (by kernel_rfl) (by kernel_rfl)
                have hce : ∀ jj u, e.cells[jj]? = some u → w3.cell? (b.add (k * 6 + jj)) = some u := fun jj u hu => (hr.cell (by rw [block_add]; exact hbB)).trans (HWE.out jj u hu)
                have e0 : w3.cell? (b.add (k * 6)) = some (.string e.sv) := hce 0 _ rfl
                have e1 : w3.cell? ⟨(b.add (k * 6)).block, (b.add (k * 6)).off + 1, none⟩ = some (.string e.op) := cell_far (hce 1 _ rfl) (by decide)
                have e2 : w3.cell? ⟨(b.add (k * 6)).block, (b.add (k * 6)).off + 2, none⟩ = some (.int .u64 e.hi) := cell_far (hce 2 _ rfl) (by decide)
                have e3 : w3.cell? ⟨(b.add (k * 6)).block, (b.add (k * 6)).off + 3, none⟩ = some (.int .u64 e.lo) := cell_far (hce 3 _ rfl) (by decide)
                have e4 : w3.cell? ⟨(b.add (k * 6)).block, (b.add (k * 6)).off + 4, none⟩ = some (.int .u64 e.id) := cell_far (hce 4 _ rfl) (by decide)
                have e5 : w3.cell? ⟨(b.add (k * 6)).block, (b.add (k * 6)).off + 5, none⟩ = some (.int .i64 e.bl) := cell_far (hce 5 _ rfl) (by decide)
                exact ⟨.agg #[.string e.sv, .string e.op, .int .u64 e.hi, .int .u64 e.lo, .int .u64 e.id, .int .i64 e.bl], w3, by simp only [execOp, h1]; simp [go_sem, e0, e1, e2, e3, e4, e5], PI.Post.pure ⟨fun w => Below.refl _ w, fun _ _ _ h k => h.trans k⟩ rfl trivial⟩
              · obtain rfl := Option.some.inj (show some _ = some o from ho)
                refine PI.shown_val rfl fun a w3 L0 hr T => ?_
                have h1 : a.eval (.tmp 42) = .agg #[.string e.sv, .string e.op, .int .u64 e.hi, .int .u64 e.lo, .int .u64 e.id, .int .i64 e.bl] := T.at_ 7 42 (by kernel_rfl) (by kernel_rfl) (by kernel_rfl)
                have hb4 : Below w3.heap.size w3 (w3.alloc (.cells #[.string e.sv, .string e.op, .int .u64 e.hi, .int .u64 e.lo, .int .u64 e.id, .int .i64 e.bl] 38)) := (Below.refl _ _).alloc (Nat.le_refl _) _
                have hz3 : Bx ≤ w3.heap.size := by have := hr.size; have := HWZ.out; omega
                exact ⟨.slice (some ⟨w3.heap.size, 0, none⟩) 1 1, w3.alloc (.cells #[.string e.sv, .string e.op, .int .u64 e.hi, .int .u64 e.lo, .int .u64 e.id, .int .i64 e.bl] 38), by simp only [execOp, List.map_toArray, List.map_cons, List.map_nil, h1]; simp [go_sem], hb4.mono hz3, ⟨w3.heap.size, rfl, heap_alloc_new w3 _⟩, fun _ _ h => h, fun jj v _ _ _ _ h => h.keep hb4, trivial⟩
              · obtain rfl := Option.some.inj (show some _ = some o from ho)
                refine PI.shown_val rfl fun a w3 L0 hr T => ?_
                have ho3 : w3.ownsRow Bx 38 6 (a.eval (.tmp 38)) j ((L.take j).flatMap Ex.cells) := T.at_ 3 38 (by kernel_rfl) (by kernel_rfl) (by kernel_rfl)
                obtain ⟨g, h2, hg⟩ : ∃ g, a.eval (.tmp 43) = .slice (some ⟨g, 0, none⟩) 1 1 ∧ w3.heap[g]? = some (.cells #[.string e.sv, .string e.op, .int .u64 e.hi, .int .u64 e.lo, .int .u64 e.id, .int .i64 e.bl] 38 (0, 0)) := T.at_ 8 43 (by kernel_rfl) (by kernel_rfl) (by kernel_rfl)
                have hz3 : Bx ≤ w3.heap.size := by have := hr.size; have := HWZ.out; omega
                obtain ⟨v8, w8, r1, r2, r3⟩ := appG (ty := 24) ho3 e hg (by omega) hz3
                refine ⟨v8, w8, by simp only [execOp, resolve, invoke, builtin, Sem.run_bind, Sem.run_pure, Result.andThen_ok, List.map_toArray, List.map_cons, List.map_nil, h2, r1], r3.below (Below.refl _ _) hz3 (own_block_ge ho3), (show w8.ownsRow Bx 38 6 v8 (j + 1) ((L.take j ++ [e]).flatMap Ex.cells) from by rw [List.flatMap_append]; simpa using r2), fun _ _ h => h, fun jj v hj hlj hnd hvj h => ?_, trivial⟩
                match jj, h, hnd, hj, hlj with
                | 0, h, _, _, _ => exact h
                | 1, h, _, _, _ => exact h
                | 2, h, _, _, _ => exact h
                | 3, _, hnd, _, _ => simp [PI.needB] at hnd
                | 4, h, _, _, _ => exact h
                | 5, h, _, _, _ => exact h
                | 6, h, _, _, _ => exact h
                | 7, h, _, _, _ => exact h
                | 8, _, hnd, _, _ => simp [PI.needB] at hnd
                | 9, _, _, hj, _ => exact absurd rfl hj
                | 10, _, _, _, hlj =>
                  have h6 : L0 10 = false := T.wait 10 _ rfl ⟨_, Array.mem_of_getElem? (i := 0) rfl, rfl, rfl⟩
                  rw [h6] at hlj; cases hlj
                | _ + 11, _, _, _, _ => trivial
              · obtain rfl := Option.some.inj (show some _ = some o from ho)
                refine PI.shown_val rfl fun a w3 L0 hr T => ?_
                have h1 : w3.ownsRow Bx 38 6 (a.eval (.tmp 44)) (j + 1) ((L.take j ++ [e]).flatMap Ex.cells) := T.at_ 9 44 (by kernel_rfl) (by kernel_rfl) (by kernel_rfl)
                exact ⟨a.eval (.tmp 44), w3, by simp only [execOp]; simp [go_sem], PI.Post.pure ⟨fun w => Below.refl _ w, fun _ _ _ h k => h.trans k⟩ h1 trivial⟩
              · cases ho
            · rw [← hW]
              intro x w9 hr hf he _
              have ho10 : w9.ownsRow Bx 38 6 (x 10) (j + 1) ((L.take j ++ [e]).flatMap Ex.cells) := hf 10 _ 7 rfl rfl (by decide)
              have HB9 := Lib.hid (show Below Bx W w9 from hr)
              clear hf he hr
              simp only [PI.putAll, Act.put, List.setIfInBounds_toArray, List.set_cons_zero, List.set_cons_succ]
              simp only [Nat.zero_add, Nat.reduceAdd]
              generalize x 10 = v10 at *
              generalize x 0 = y0
              generalize x 1 = y1
              generalize x 2 = y2
              generalize x 3 = y3
              generalize x 4 = y4
              generalize x 5 = y5
              generalize x 6 = y6
              generalize x 7 = y7
              generalize x 8 = y8
              generalize x 9 = y9
              obtain ⟨A7, c7, rfl, _, _⟩ := own_rd ho10
              have HO7 := Lib.hid ho10
              clear ho10
              have HS0 : Hid (((L.drop j).take (j - j)).foldl (skF e) (L.take j ++ [e], 1) = (L.take j ++ [e], 1)) := Lib.hid (by rw [Nat.sub_self]; rfl)
              go_wp2_with fail
              go_loopw [7, 8, 9] (fun o cn q wr => ∃ (i m' c7 cc : Nat) (A7 : Option Addr), j ≤ i ∧ i ≤ n' ∧ q = .int .i64 i ∧ o = .slice A7 m' c7 ∧ cn = .int .i64 cc ∧ m' ≤ i + 1 ∧ cc ≤ i + 1 ∧ Hid (m' = (((L.drop j).take (i - j)).foldl (skF e) (L.take j ++ [e], 1)).1.length) ∧ Hid (cc = (((L.drop j).take (i - j)).foldl (skF e) (L.take j ++ [e], 1)).2) ∧ Hid (wr.ownsRow Bx 38 6 (.slice A7 m' c7) m' ((((L.drop j).take (i - j)).foldl (skF e) (L.take j ++ [e], 1)).1.flatMap Ex.cells)) ∧ Hid (Below Bx W wr)) (fun _ _ q _ => n' - (intOf q).toNat)
              case atStart => exact ⟨j, j + 1, c7, 1, A7, Nat.le_refl _, hj, rfl, rfl, rfl, by omega, by omega, by rw [HS0.out]; exact Lib.hid (by have := HNL.out; simp; omega), by rw [HS0.out]; exact Lib.hid rfl, by rw [HS0.out]; exact HO7, HB9⟩
              case round =>
                obtain ⟨i, m', c7, cc, A7, hji, hin, rfl, rfl, rfl, hmi, hci, HM, HC, HOi, HBi⟩ := hrel
                have hws : Bx ≤ wr.heap.size := by have := HBi.out.size; have := HWZ.out; omega
                by_cases hlt : i < n'
                · obtain ⟨x, hx⟩ : ∃ x, L[i]? = some x := ⟨L[i]'(by have := HNL.out; omega), List.getElem?_eq_getElem _⟩
                  have HOL := Lib.hid (own_below (HWO.out) (HBi.out.mono (by have := HWZ.out; omega)) : Hid (wr.ownsRow w.heap.size 38 6 (.slice A' n' c') n' (L.flatMap Ex.cells)))
                  obtain ⟨a, rfl, hab, hcc⟩ := ex_at (Rd.of_slice HOL.out) hx
                  have hce : ∀ jj u, e.cells[jj]? = some u → wr.cell? (b.add (k * 6 + jj)) = some u := fun jj u hu => (HBi.out.cell (by rw [block_add]; exact hbB)).trans (HWE.out jj u hu)
                  have e0 : wr.cell? (b.add (k * 6)) = some (.string e.sv) := hce 0 _ rfl
                  have e1 : wr.cell? ⟨(b.add (k * 6)).block, (b.add (k * 6)).off + 1, none⟩ = some (.string e.op) := cell_far (hce 1 _ rfl) (by decide)
                  have e2 : wr.cell? ⟨(b.add (k * 6)).block, (b.add (k * 6)).off + 2, none⟩ = some (.int .u64 e.hi) := cell_far (hce 2 _ rfl) (by decide)
                  have e3 : wr.cell? ⟨(b.add (k * 6)).block, (b.add (k * 6)).off + 3, none⟩ = some (.int .u64 e.lo) := cell_far (hce 3 _ rfl) (by decide)
                  have e4 : wr.cell? ⟨(b.add (k * 6)).block, (b.add (k * 6)).off + 4, none⟩ = some (.int .u64 e.id) := cell_far (hce 4 _ rfl) (by decide)
                  have e5 : wr.cell? ⟨(b.add (k * 6)).block, (b.add (k * 6)).off + 5, none⟩ = some (.int .i64 e.bl) := cell_far (hce 5 _ rfl) (by decide)
                  have x0 : wr.cell? (a.add (i * 6)) = some (.string x.sv) := hcc 0 _ rfl
                  have x1 : wr.cell? ⟨(a.add (i * 6)).block, (a.add (i * 6)).off + 1, none⟩ = some (.string x.op) := cell_far (hcc 1 _ rfl) (by decide)
                  have x2 : wr.cell? ⟨(a.add (i * 6)).block, (a.add (i * 6)).off + 2, none⟩ = some (.int .u64 x.hi) := cell_far (hcc 2 _ rfl) (by decide)
                  have x3 : wr.cell? ⟨(a.add (i * 6)).block, (a.add (i * 6)).off + 3, none⟩ = some (.int .u64 x.lo) := cell_far (hcc 3 _ rfl) (by decide)
                  have x4 : wr.cell? ⟨(a.add (i * 6)).block, (a.add (i * 6)).off + 4, none⟩ = some (.int .u64 x.id) := cell_far (hcc 4 _ rfl) (by decide)
                  have x5 : wr.cell? ⟨(a.add (i * 6)).block, (a.add (i * 6)).off + 5, none⟩ = some (.int .i64 x.bl) := cell_far (hcc 5 _ rfl) (by decide)
                  have HST : Hid (((L.drop j).take (i + 1 - j)).foldl (skF e) (L.take j ++ [e], 1) = skF e (((L.drop j).take (i - j)).foldl (skF e) (L.take j ++ [e], 1)) x) := Lib.hid (by
                    rw [show i + 1 - j = (i - j) + 1 by omega, List.take_add_one, List.getElem?_drop, show j + (i - j) = i by omega, hx, List.foldl_append]
                    rfl)
                  generalize ((L.drop j).take (i - j)).foldl (skF e) (L.take j ++ [e], 1) = S at *
                  have i1 : (i : Int) < (n' : Int) := by omega
                  have i0 : (0 : Int) ≤ (i : Int) := by omega
                  have hob := own_block_ge HOi.out
                  have HAPP := Lib.hid (fun (W5 : World) (ty : TypeId) (hb5 : Below wr.heap.size wr W5) => appX (ty := ty) (own_below HOi.out hb5) x (by omega) (Nat.le_trans hws hb5.size))
                  clear hcc hce hx
                  go_upto_region 13 with fail
                  by_cases k1 : x.sv = e.sv
                  · have d1 : (x.sv.toList == e.sv.toList) = true := by rw [k1]; simp
                    by_cases k2 : x.op = e.op
                    · have d2 : (x.op.toList == e.op.toList) = true := by rw [k2]; simp
                      have h0 : ordE x e = 0 := (ordE_zero _ _).2 ⟨k1, k2⟩
                      clear k1 k2
                      go_quiet (fail)
                      have HO6 := Lib.hid (show (wr.drewN nq).ownsRow Bx 38 6 (.slice A7 m' c7) m' (S.1.flatMap Ex.cells) from HOi.out)
                      have HB6 := Lib.hid (show Below Bx W (wr.drewN nq) from ⟨HBi.out.os, HBi.out.tape, HBi.out.output, HBi.out.size, HBi.out.block⟩)
                      by_cases h3 : 2 < cc + 1
                      · have d3 : decide ((2 : Int) < (cc : Int) + 1) = true := decide_eq_true (by omega)
                        have HS : Hid (skF e S x = (S.1, S.2 + 1)) := Lib.hid (by unfold skF; rw [if_pos h0, if_pos (by have := HC.out; omega)])
                        go_wp2_with fail
                        go_roundw
                        case rel => exact ⟨i + 1, m', c7, cc + 1, A7, by omega, by omega, by go_num, rfl, by go_num, by omega, by omega, by rw [HST.out, HS.out]; exact HM, by rw [HST.out, HS.out]; exact Lib.hid (by have := HC.out; simp only; omega), by rw [HST.out, HS.out]; exact HO6, HB6⟩
                        case measure => simp [intOf]; omega
                      · have d3 : decide ((2 : Int) < (cc : Int) + 1) = false := decide_eq_false (by omega)
                        have HS : Hid (skF e S x = (S.1 ++ [x], S.2 + 1)) := Lib.hid (by unfold skF; rw [if_pos h0, if_neg (by have := HC.out; omega)])
                        have APP := Lib.hid (fun ty => HAPP.out (wr.drewN nq) ty ⟨rfl, rfl, rfl, Nat.le_refl _, fun _ _ => rfl⟩)
                        go_wp2_with (at_builtin; refine wpList_app rfl (.tmp 80) (.tmp 85) _ _ rfl rfl rfl (APP.out _) ?_; rintro v8 w8 ⟨ho8, hg8⟩; obtain ⟨A8, c8, rfl, _, _⟩ := own_rd ho8; have HO8 := Lib.hid ho8; have HG8 := Lib.hid hg8; clear ho8 hg8)
                        go_roundw
                        case rel => exact ⟨i + 1, m' + 1, c8, cc + 1, A8, by omega, by omega, by go_num, rfl, by go_num, by omega, by omega, by rw [HST.out, HS.out]; exact Lib.hid (by have := HM.out; simp; omega), by rw [HST.out, HS.out]; exact Lib.hid (by have := HC.out; simp only; omega), by rw [HST.out, HS.out, List.flatMap_append, List.flatMap_singleton]; exact HO8, Lib.hid (HB6.out.grown HG8.out.grown hws (fun q hq => hob q hq))⟩
                        case measure => simp [intOf]; omega
                    · have d2 : (x.op.toList == e.op.toList) = false := beq_eq_false_iff_ne.2 (fun h => k2 (strx_inj h))
                      have h0 : ordE x e ≠ 0 := fun h => k2 ((ordE_zero _ _).1 h).2
                      have HS : Hid (skF e S x = (S.1 ++ [x], S.2)) := Lib.hid (by unfold skF; rw [if_neg h0])
                      clear k1 k2
                      go_quiet (fail)
                      have HO6 := Lib.hid (show (wr.drewN nq).ownsRow Bx 38 6 (.slice A7 m' c7) m' (S.1.flatMap Ex.cells) from HOi.out)
                      have HB6 := Lib.hid (show Below Bx W (wr.drewN nq) from ⟨HBi.out.os, HBi.out.tape, HBi.out.output, HBi.out.size, HBi.out.block⟩)
                      have APP := Lib.hid (fun ty => HAPP.out (wr.drewN nq) ty ⟨rfl, rfl, rfl, Nat.le_refl _, fun _ _ => rfl⟩)
                      go_wp2_with (at_builtin; refine wpList_app rfl (.tmp 80) (.tmp 85) _ _ rfl rfl rfl (APP.out _) ?_; rintro v8 w8 ⟨ho8, hg8⟩; obtain ⟨A8, c8, rfl, _, _⟩ := own_rd ho8; have HO8 := Lib.hid ho8; have HG8 := Lib.hid hg8; clear ho8 hg8)
                      go_roundw
                      case rel => exact ⟨i + 1, m' + 1, c8, cc, A8, by omega, by omega, by go_num, rfl, by rfl, by omega, by omega, by rw [HST.out, HS.out]; exact Lib.hid (by have := HM.out; simp; omega), by rw [HST.out, HS.out]; exact Lib.hid (by have := HC.out; simp only; omega), by rw [HST.out, HS.out, List.flatMap_append, List.flatMap_singleton]; exact HO8, Lib.hid (HB6.out.grown HG8.out.grown hws (fun q hq => hob q hq))⟩
                      case measure => simp [intOf]; omega
                  · have d1 : (x.sv.toList == e.sv.toList) = false := beq_eq_false_iff_ne.2 (fun h => k1 (strx_inj h))
                    have h0 : ordE x e ≠ 0 := fun h => k1 ((ordE_zero _ _).1 h).1
                    have HS : Hid (skF e S x = (S.1 ++ [x], S.2)) := Lib.hid (by unfold skF; rw [if_neg h0])
                    clear k1
                    go_quiet (fail)
                    have HO6 := Lib.hid (show (wr.drewN nq).ownsRow Bx 38 6 (.slice A7 m' c7) m' (S.1.flatMap Ex.cells) from HOi.out)
                    have HB6 := Lib.hid (show Below Bx W (wr.drewN nq) from ⟨HBi.out.os, HBi.out.tape, HBi.out.output, HBi.out.size, HBi.out.block⟩)
                    have APP := Lib.hid (fun ty => HAPP.out (wr.drewN nq) ty ⟨rfl, rfl, rfl, Nat.le_refl _, fun _ _ => rfl⟩)
                    go_wp2_with (at_builtin; refine wpList_app rfl (.tmp 80) (.tmp 85) _ _ rfl rfl rfl (APP.out _) ?_; rintro v8 w8 ⟨ho8, hg8⟩; obtain ⟨A8, c8, rfl, _, _⟩ := own_rd ho8; have HO8 := Lib.hid ho8; have HG8 := Lib.hid hg8; clear ho8 hg8)
                    go_roundw
                    case rel => exact ⟨i + 1, m' + 1, c8, cc, A8, by omega, by omega, by go_num, rfl, by rfl, by omega, by omega, by rw [HST.out, HS.out]; exact Lib.hid (by have := HM.out; simp; omega), by rw [HST.out, HS.out]; exact Lib.hid (by have := HC.out; simp only; omega), by rw [HST.out, HS.out, List.flatMap_append, List.flatMap_singleton]; exact HO8, Lib.hid (HB6.out.grown HG8.out.grown hws (fun q hq => hob q hq))⟩
                    case measure => simp [intOf]; omega
                · obtain rfl : i = n' := by omega
                  have HF : Hid ((L.drop j).take (i - j) = L.drop j) := Lib.hid (List.take_of_length_le (by have := HNL.out; rw [List.length_drop]; omega))
                  have HDP : Hid (((L.drop j).foldl (skF e) (L.take j ++ [e], 1)).1 = dputX e L) := Lib.hid (by unfold dputX; rw [hput0])
                  rw [HF.out, HDP.out] at HM HOi
                  go_wp2_with fail
                  go_roundw
                  case rel => exact ⟨k + 1, m', c7, A7, by omega, by go_num, rfl, by have h1 := HM.out; have h2 := dputX_len e L; have := HNL.out; omega, by rw [HDS.out]; exact HM, by rw [HDS.out]; exact Lib.hid (own_mono HOi.out (by have := HWB.out.size; have := HWZ.out; omega)), Lib.hid (HWB.out.trans (HBi.out.mono (by have := HWB.out.size; have := HWZ.out; omega)))⟩
                  case measure => simp [intOf]; omega

        · have hput0 := HP.out j hj HQ.out (fun y hy => by rw [List.getElem?_eq_none (by have := HNL.out; omega)] at hy; cases hy)
          have d1 : decide ((j : Int) < (n' : Int)) = false := decide_eq_false (by omega)
          go_upto_region 6 with fail
          go_quiet (fail)
          have HW3 := Lib.hid (show Below w0.heap.size w0 (wr.drewN nq) from ⟨HW.out.os, HW.out.tape, HW.out.output, HW.out.size, HW.out.block⟩)
          generalize wr.drewN nq = w6 at *
          clear nq
          go_upto_region 8 with fail
          have HX := Lib.hid HW3.out
          clear HW3 HW hz1 HQ d1 HP hlt2
          generalize w6 = WX at *
          have HXO := Lib.hid (own_below HO.out HX.out)
          have HXE := Lib.hid (show ∀ jj u, e.cells[jj]? = some u → WX.cell? (b.add (k * 6 + jj)) = some u from fun jj u hu => (HX.out.cell (by rw [block_add]; exact hbw)).trans (HEE.out jj u hu))
          have HXB := Lib.hid (HB.out.trans (HX.out.mono hws))
          have hbX : b.block < WX.heap.size := Nat.lt_of_lt_of_le hbw HX.out.size
          obtain ⟨W, hW⟩ : ∃ W, W = WX.drew := ⟨_, rfl⟩
          have hWr : Below WX.heap.size WX W := by rw [hW]; exact ⟨rfl, rfl, rfl, Nat.le_refl _, fun _ _ => rfl⟩
          have hWz : W.heap.size = WX.heap.size := by rw [hW]; rfl
          obtain ⟨Bx, hBx⟩ : ∃ Bx, Bx = WX.heap.size := ⟨_, rfl⟩
          have HBX := Lib.hid hBx
          have HWZ := Lib.hid (show W.heap.size = Bx from hWz.trans hBx.symm)
          have HWO := Lib.hid (own_below HXO.out hWr)
          have HWE := Lib.hid (show ∀ jj u, e.cells[jj]? = some u → W.cell? (b.add (k * 6 + jj)) = some u from fun jj u hu => by rw [hW]; exact HXE.out jj u hu)
          have HWB := Lib.hid (HXB.out.trans (hWr.mono HXB.out.size))
          have hjn : j ≤ n' := hj
          have hnc' := own_capq HXO.out
          have hjc : (j : Int) ≤ (c' : Int) := by omega
          have hj0 : (0 : Int) ≤ (j : Int) := by omega
          have hkne : (k : Int) < (ne : Int) := by omega
          have hk0 : (0 : Int) ≤ (k : Int) := by omega
          have hbB : b.block < Bx := by rw [hBx]; exact hbX
          clear hWr hWz hBx
          refine PI.wp_region_persG (R := Below Bx) (G := fun _ _ => True) (I := fun _ _ _ => True) [(2, 0), (2, 1), (3, 2), (6, 4), (6, 5), (7, 6), (8, 7), (9, 3), (9, 8), (10, 9)] [10] (by kernel_rfl) (PI.formed_of (by kernel_rfl)) ⟨fun w => Below.refl _ w, fun _ _ _ h k => h.trans k⟩ (fun _ => trivial) (DpF A' n' c' j (some b) ne ec k b Bx L e) trivial ?_ ?_
          · rw [← hW]
            intro i o ho
            rcases i with _ | _ | _ | _ | _ | _ | _ | _ | _ | _ | _ | i
            · obtain rfl := Option.some.inj (show some _ = some o from ho)
              refine PI.shown_val rfl fun a w3 L0 hr T => ?_
              have h1 : a.eval (.tmp 0) = .slice A' n' c' := T.was 0 (by kernel_rfl)
              exact ⟨.slice A' n' c', w3, by simp only [execOp, h1]; simp [go_sem], PI.Post.pure ⟨fun w => Below.refl _ w, fun _ _ _ h k => h.trans k⟩ rfl trivial⟩
            · obtain rfl := Option.some.inj (show some _ = some o from ho)
              refine PI.shown_val rfl fun a w3 L0 hr T => ?_
              have h1 : a.eval (.tmp 6) = .int .i64 (j : Int) := T.was 6 (by kernel_rfl)
              exact ⟨.int .i64 (j : Int), w3, by simp only [execOp, h1]; simp [go_sem], PI.Post.pure ⟨fun w => Below.refl _ w, fun _ _ _ h k => h.trans k⟩ rfl trivial⟩
            · obtain rfl := Option.some.inj (show some _ = some o from ho)
              refine PI.shown_val rfl fun a w3 L0 hr T => ?_
              have h1 : a.eval (.tmp 35) = .slice A' n' c' := T.at_ 0 35 (by kernel_rfl) (by kernel_rfl) (by kernel_rfl)
              have h2 : a.eval (.tmp 36) = .int .i64 (j : Int) := T.at_ 1 36 (by kernel_rfl) (by kernel_rfl) (by kernel_rfl)
              have HN0 := HNIL.out
              have h2' : a.tmps[36]?.getD undef = .int .i64 (j : Int) := by simpa [Act.eval] using h2
              rcases A' with _ | a'
              · obtain ⟨rfl, rfl⟩ := HN0 rfl
                obtain rfl : j = 0 := by omega
                exact ⟨.slice none 0 0, w3, by simp only [execOp, h1]; simp [go_sem, h2'], PI.Post.pure ⟨fun w => Below.refl _ w, fun _ _ _ h k => h.trans k⟩ rfl trivial⟩
              · exact ⟨.slice (some a') j c', w3, by simp only [execOp, h1]; simp [go_sem, h2', hjc, hj0], PI.Post.pure ⟨fun w => Below.refl _ w, fun _ _ _ h k => h.trans k⟩ rfl trivial⟩
            · obtain rfl := Option.some.inj (show some _ = some o from ho)
              refine PI.shown_val rfl fun a w3 L0 hr T => ?_
              have h1 : a.eval (.tmp 37) = .slice A' j c' := T.at_ 2 37 (by kernel_rfl) (by kernel_rfl) (by kernel_rfl)
              have h0 : a.eval (.const (.slice none 0 0)) = .slice none 0 0 := rfl
              have hz3 : Bx ≤ w3.heap.size := by have := hr.size; have := HWZ.out; omega
              have hO3 := own_below HWO.out (hr.mono (by have := HWZ.out; omega))
              obtain ⟨v8, w8, r1, r2, r3⟩ := appT (ty := 24) (c := c') Bx (Rd.of_slice hO3) (show j ≤ n' from hj) HNL.out (by omega) hz3
              have hb4 : Below w3.heap.size w3 w8 := r3.new
              exact ⟨v8, w8, by simp only [execOp, resolve, invoke, builtin, Sem.run_bind, Sem.run_pure, Result.andThen_ok, List.map_toArray, List.map_cons, List.map_nil, h0, h1, r1], hb4.mono hz3, r2, fun _ _ h => h, fun jj v _ _ _ _ h => h.keep hb4, trivial⟩
            · obtain rfl := Option.some.inj (show some _ = some o from ho)
              refine PI.shown_val rfl fun a w3 L0 hr T => ?_
              have h1 : a.eval (.tmp 1) = .slice (some b) ne ec := T.was 1 (by kernel_rfl)
              exact ⟨.slice (some b) ne ec, w3, by simp only [execOp, h1]; simp [go_sem], PI.Post.pure ⟨fun w => Below.refl _ w, fun _ _ _ h k => h.trans k⟩ rfl trivial⟩
            · obtain rfl := Option.some.inj (show some _ = some o from ho)
              refine PI.shown_val rfl fun a w3 L0 hr T => ?_
              have h1 : a.eval (.tmp 5) = .int .i64 (k : Int) := T.was 5 (by kernel_rfl)
              exact ⟨.int .i64 (k : Int), w3, by simp only [execOp, h1]; simp [go_sem], PI.Post.pure ⟨fun w => Below.refl _ w, fun _ _ _ h k => h.trans k⟩ rfl trivial⟩
            · obtain rfl := Option.some.inj (show some _ = some o from ho)
              refine PI.shown_val rfl fun a w3 L0 hr T => ?_
              have h1 : a.eval (.tmp 39) = .slice (some b) ne ec := T.at_ 4 39 (by kernel_rfl) (by kernel_rfl) (by kernel_rfl)
              have h2 : a.eval (.tmp 40) = .int .i64 (k : Int) := T.at_ 5 40 (by kernel_rfl) (by kernel_rfl) (by kernel_rfl)
              exact ⟨.pointer (some (b.add (k * 6))), w3, by simp only [execOp, h1, h2]; simp [go_sem, hkne, hk0], PI.Post.pure ⟨fun w => Below.refl _ w, fun _ _ _ h k => h.trans k⟩ rfl trivial⟩
            · obtain rfl := Option.some.inj (show some _ = some o from ho)
              refine PI.shown_val rfl fun a w3 L0 hr T => ?_
              have h1 : a.eval (.tmp 41) = .pointer (some (b.add (k * 6))) := T.at_ 6 41 (by kernel_rfl) (by kernel_rfl) (by kernel_rfl)
              have hce : ∀ jj u, e.cells[jj]? = some u → w3.cell? (b.add (k * 6 + jj)) = some u := fun jj u hu => (hr.cell (by rw [block_add]; exact hbB)).trans (HWE.out jj u hu)
              have e0 : w3.cell? (b.add (k * 6)) = some (.string e.sv) := hce 0 _ rfl
              have e1 : w3.cell? ⟨(b.add (k * 6)).block, (b.add (k * 6)).off + 1, none⟩ = some (.string e.op) := cell_far (hce 1 _ rfl) (by decide)
              have e2 : w3.cell? ⟨(b.add (k * 6)).block, (b.add (k * 6)).off + 2, none⟩ = some (.int .u64 e.hi) := cell_far (hce 2 _ rfl) (by decide)
              have e3 : w3.cell? ⟨(b.add (k * 6)).block, (b.add (k * 6)).off + 3, none⟩ = some (.int .u64 e.lo) := cell_far (hce 3 _ rfl) (by decide)
              have e4 : w3.cell? ⟨(b.add (k * 6)).block, (b.add (k * 6)).off + 4, none⟩ = some (.int .u64 e.id) := cell_far (hce 4 _ rfl) (by decide)
              have e5 : w3.cell? ⟨(b.add (k * 6)).block, (b.add (k * 6)).off + 5, none⟩ = some (.int .i64 e.bl) := cell_far (hce 5 _ rfl) (by decide)
              exact ⟨.agg #[.string e.sv, .string e.op, .int .u64 e.hi, .int .u64 e.lo, .int .u64 e.id, .int .i64 e.bl], w3, by simp only [execOp, h1]; simp [go_sem, e0, e1, e2, e3, e4, e5], PI.Post.pure ⟨fun w => Below.refl _ w, fun _ _ _ h k => h.trans k⟩ rfl trivial⟩
            · obtain rfl := Option.some.inj (show some _ = some o from ho)
              refine PI.shown_val rfl fun a w3 L0 hr T => ?_
              have h1 : a.eval (.tmp 42) = .agg #[.string e.sv, .string e.op, .int .u64 e.hi, .int .u64 e.lo, .int .u64 e.id, .int .i64 e.bl] := T.at_ 7 42 (by kernel_rfl) (by kernel_rfl) (by kernel_rfl)
              have hb4 : Below w3.heap.size w3 (w3.alloc (.cells #[.string e.sv, .string e.op, .int .u64 e.hi, .int .u64 e.lo, .int .u64 e.id, .int .i64 e.bl] 38)) := (Below.refl _ _).alloc (Nat.le_refl _) _
              have hz3 : Bx ≤ w3.heap.size := by have := hr.size; have := HWZ.out; omega
              exact ⟨.slice (some ⟨w3.heap.size, 0, none⟩) 1 1, w3.alloc (.cells #[.string e.sv, .string e.op, .int .u64 e.hi, .int .u64 e.lo, .int .u64 e.id, .int .i64 e.bl] 38), by simp only [execOp, List.map_toArray, List.map_cons, List.map_nil, h1]; simp [go_sem], hb4.mono hz3, ⟨w3.heap.size, rfl, heap_alloc_new w3 _⟩, fun _ _ h => h, fun jj v _ _ _ _ h => h.keep hb4, trivial⟩
            · obtain rfl := Option.some.inj (show some _ = some o from ho)
              refine PI.shown_val rfl fun a w3 L0 hr T => ?_
              have ho3 : w3.ownsRow Bx 38 6 (a.eval (.tmp 38)) j ((L.take j).flatMap Ex.cells) := T.at_ 3 38 (by kernel_rfl) (by kernel_rfl) (by kernel_rfl)
              obtain ⟨g, h2, hg⟩ : ∃ g, a.eval (.tmp 43) = .slice (some ⟨g, 0, none⟩) 1 1 ∧ w3.heap[g]? = some (.cells #[.string e.sv, .string e.op, .int .u64 e.hi, .int .u64 e.lo, .int .u64 e.id, .int .i64 e.bl] 38 (0, 0)) := T.at_ 8 43 (by kernel_rfl) (by kernel_rfl) (by kernel_rfl)
              have hz3 : Bx ≤ w3.heap.size := by have := hr.size; have := HWZ.out; omega
              obtain ⟨v8, w8, r1, r2, r3⟩ := appG (ty := 24) ho3 e hg (by omega) hz3
              refine ⟨v8, w8, by simp only [execOp, resolve, invoke, builtin, Sem.run_bind, Sem.run_pure, Result.andThen_ok, List.map_toArray, List.map_cons, List.map_nil, h2, r1], r3.below (Below.refl _ _) hz3 (own_block_ge ho3), (show w8.ownsRow Bx 38 6 v8 (j + 1) ((L.take j ++ [e]).flatMap Ex.cells) from by rw [List.flatMap_append]; simpa using r2), fun _ _ h => h, fun jj v hj hlj hnd hvj h => ?_, trivial⟩
              match jj, h, hnd, hj, hlj with
              | 0, h, _, _, _ => exact h
              | 1, h, _, _, _ => exact h
              | 2, h, _, _, _ => exact h
              | 3, _, hnd, _, _ => simp [PI.needB] at hnd
              | 4, h, _, _, _ => exact h
              | 5, h, _, _, _ => exact h
              | 6, h, _, _, _ => exact h
              | 7, h, _, _, _ => exact h
              | 8, _, hnd, _, _ => simp [PI.needB] at hnd
              | 9, _, _, hj, _ => exact absurd rfl hj
              | 10, _, _, _, hlj =>
                have h6 : L0 10 = false := T.wait 10 _ rfl ⟨_, Array.mem_of_getElem? (i := 0) rfl, rfl, rfl⟩
                rw [h6] at hlj; cases hlj
              | _ + 11, _, _, _, _ => trivial
            · obtain rfl := Option.some.inj (show some _ = some o from ho)
              refine PI.shown_val rfl fun a w3 L0 hr T => ?_
              have h1 : w3.ownsRow Bx 38 6 (a.eval (.tmp 44)) (j + 1) ((L.take j ++ [e]).flatMap Ex.cells) := T.at_ 9 44 (by kernel_rfl) (by kernel_rfl) (by kernel_rfl)
              exact ⟨a.eval (.tmp 44), w3, by simp only [execOp]; simp [go_sem], PI.Post.pure ⟨fun w => Below.refl _ w, fun _ _ _ h k => h.trans k⟩ h1 trivial⟩
            · cases ho
          · rw [← hW]
            intro x w9 hr hf he _
            have ho10 : w9.ownsRow Bx 38 6 (x 10) (j + 1) ((L.take j ++ [e]).flatMap Ex.cells) := hf 10 _ 7 rfl rfl (by decide)
            have HB9 := Lib.hid (show Below Bx W w9 from hr)
            clear hf he hr
            simp only [PI.putAll, Act.put, List.setIfInBounds_toArray, List.set_cons_zero, List.set_cons_succ]
            simp only [Nat.zero_add, Nat.reduceAdd]
            generalize x 10 = v10 at *
            generalize x 0 = y0
            generalize x 1 = y1
            generalize x 2 = y2
            generalize x 3 = y3
            generalize x 4 = y4
            generalize x 5 = y5
            generalize x 6 = y6
            generalize x 7 = y7
            generalize x 8 = y8
            generalize x 9 = y9
            obtain ⟨A7, c7, rfl, _, _⟩ := own_rd ho10
            have HO7 := Lib.hid ho10
            clear ho10
            have HS0 : Hid (((L.drop j).take (j - j)).foldl (skF e) (L.take j ++ [e], 1) = (L.take j ++ [e], 1)) := Lib.hid (by rw [Nat.sub_self]; rfl)
            go_wp2_with fail
            go_loopw [7, 8, 9] (fun o cn q wr => ∃ (i m' c7 cc : Nat) (A7 : Option Addr), j ≤ i ∧ i ≤ n' ∧ q = .int .i64 i ∧ o = .slice A7 m' c7 ∧ cn = .int .i64 cc ∧ m' ≤ i + 1 ∧ cc ≤ i + 1 ∧ Hid (m' = (((L.drop j).take (i - j)).foldl (skF e) (L.take j ++ [e], 1)).1.length) ∧ Hid (cc = (((L.drop j).take (i - j)).foldl (skF e) (L.take j ++ [e], 1)).2) ∧ Hid (wr.ownsRow Bx 38 6 (.slice A7 m' c7) m' ((((L.drop j).take (i - j)).foldl (skF e) (L.take j ++ [e], 1)).1.flatMap Ex.cells)) ∧ Hid (Below Bx W wr)) (fun _ _ q _ => n' - (intOf q).toNat)
            case atStart => exact ⟨j, j + 1, c7, 1, A7, Nat.le_refl _, hj, rfl, rfl, rfl, by omega, by omega, by rw [HS0.out]; exact Lib.hid (by have := HNL.out; simp; omega), by rw [HS0.out]; exact Lib.hid rfl, by rw [HS0.out]; exact HO7, HB9⟩
            case round =>
              obtain ⟨i, m', c7, cc, A7, hji, hin, rfl, rfl, rfl, hmi, hci, HM, HC, HOi, HBi⟩ := hrel
              have hws : Bx ≤ wr.heap.size := by have := HBi.out.size; have := HWZ.out; omega
              by_cases hlt : i < n'
              · obtain ⟨x, hx⟩ : ∃ x, L[i]? = some x := ⟨L[i]'(by have := HNL.out; omega), List.getElem?_eq_getElem _⟩
                have HOL := Lib.hid (own_below (HWO.out) (HBi.out.mono (by have := HWZ.out; omega)) : Hid (wr.ownsRow w.heap.size 38 6 (.slice A' n' c') n' (L.flatMap Ex.cells)))
                obtain ⟨a, rfl, hab, hcc⟩ := ex_at (Rd.of_slice HOL.out) hx
                have hce : ∀ jj u, e.cells[jj]? = some u → wr.cell? (b.add (k * 6 + jj)) = some u := fun jj u hu => (HBi.out.cell (by rw [block_add]; exact hbB)).trans (HWE.out jj u hu)
                have e0 : wr.cell? (b.add (k * 6)) = some (.string e.sv) := hce 0 _ rfl
                have e1 : wr.cell? ⟨(b.add (k * 6)).block, (b.add (k * 6)).off + 1, none⟩ = some (.string e.op) := cell_far (hce 1 _ rfl) (by decide)
                have e2 : wr.cell? ⟨(b.add (k * 6)).block, (b.add (k * 6)).off + 2, none⟩ = some (.int .u64 e.hi) := cell_far (hce 2 _ rfl) (by decide)
                have e3 : wr.cell? ⟨(b.add (k * 6)).block, (b.add (k * 6)).off + 3, none⟩ = some (.int .u64 e.lo) := cell_far (hce 3 _ rfl) (by decide)
                have e4 : wr.cell? ⟨(b.add (k * 6)).block, (b.add (k * 6)).off + 4, none⟩ = some (.int .u64 e.id) := cell_far (hce 4 _ rfl) (by decide)
                have e5 : wr.cell? ⟨(b.add (k * 6)).block, (b.add (k * 6)).off + 5, none⟩ = some (.int .i64 e.bl) := cell_far (hce 5 _ rfl) (by decide)
                have x0 : wr.cell? (a.add (i * 6)) = some (.string x.sv) := hcc 0 _ rfl
                have x1 : wr.cell? ⟨(a.add (i * 6)).block, (a.add (i * 6)).off + 1, none⟩ = some (.string x.op) := cell_far (hcc 1 _ rfl) (by decide)
                have x2 : wr.cell? ⟨(a.add (i * 6)).block, (a.add (i * 6)).off + 2, none⟩ = some (.int .u64 x.hi) := cell_far (hcc 2 _ rfl) (by decide)
                have x3 : wr.cell? ⟨(a.add (i * 6)).block, (a.add (i * 6)).off + 3, none⟩ = some (.int .u64 x.lo) := cell_far (hcc 3 _ rfl) (by decide)
                have x4 : wr.cell? ⟨(a.add (i * 6)).block, (a.add (i * 6)).off + 4, none⟩ = some (.int .u64 x.id) := cell_far (hcc 4 _ rfl) (by decide)
                have x5 : wr.cell? ⟨(a.add (i * 6)).block, (a.add (i * 6)).off + 5, none⟩ = some (.int .i64 x.bl) := cell_far (hcc 5 _ rfl) (by decide)
                have HST : Hid (((L.drop j).take (i + 1 - j)).foldl (skF e) (L.take j ++ [e], 1) = skF e (((L.drop j).take (i - j)).foldl (skF e) (L.take j ++ [e], 1)) x) := Lib.hid (by
                  rw [show i + 1 - j = (i - j) + 1 by omega, List.take_add_one, List.getElem?_drop, show j + (i - j) = i by omega, hx, List.foldl_append]
                  rfl)
                generalize ((L.drop j).take (i - j)).foldl (skF e) (L.take j ++ [e], 1) = S at *
                have i1 : (i : Int) < (n' : Int) := by omega
                have i0 : (0 : Int) ≤ (i : Int) := by omega
                have hob := own_block_ge HOi.out
                have HAPP := Lib.hid (fun (W5 : World) (ty : TypeId) (hb5 : Below wr.heap.size wr W5) => appX (ty := ty) (own_below HOi.out hb5) x (by omega) (Nat.le_trans hws hb5.size))
                clear hcc hce hx
                go_upto_region 13 with fail
                by_cases k1 : x.sv = e.sv
                · have d1 : (x.sv.toList == e.sv.toList) = true := by rw [k1]; simp
                  by_cases k2 : x.op = e.op
                  · have d2 : (x.op.toList == e.op.toList) = true := by rw [k2]; simp
                    have h0 : ordE x e = 0 := (ordE_zero _ _).2 ⟨k1, k2⟩
                    clear k1 k2
                    go_quiet (fail)
                    have HO6 := Lib.hid (show (wr.drewN nq).ownsRow Bx 38 6 (.slice A7 m' c7) m' (S.1.flatMap Ex.cells) from HOi.out)
                    have HB6 := Lib.hid (show Below Bx W (wr.drewN nq) from ⟨HBi.out.os, HBi.out.tape, HBi.out.output, HBi.out.size, HBi.out.block⟩)
                    by_cases h3 : 2 < cc + 1
                    · have d3 : decide ((2 : Int) < (cc : Int) + 1) = true := decide_eq_true (by omega)
                      have HS : Hid (skF e S x = (S.1, S.2 + 1)) := Lib.hid (by unfold skF; rw [if_pos h0, if_pos (by have := HC.out; omega)])
                      go_wp2_with fail
                      go_roundw
                      case rel => exact ⟨i + 1, m', c7, cc + 1, A7, by omega, by omega, by go_num, rfl, by go_num, by omega, by omega, by rw [HST.out, HS.out]; exact HM, by rw [HST.out, HS.out]; exact Lib.hid (by have := HC.out; simp only; omega), by rw [HST.out, HS.out]; exact HO6, HB6⟩
                      case measure => simp [intOf]; omega
                    · have d3 : decide ((2 : Int) < (cc : Int) + 1) = false := decide_eq_false (by omega)
                      have HS : Hid (skF e S x = (S.1 ++ [x], S.2 + 1)) := Lib.hid (by unfold skF; rw [if_pos h0, if_neg (by have := HC.out; omega)])
                      have APP := Lib.hid (fun ty => HAPP.out (wr.drewN nq) ty ⟨rfl, rfl, rfl, Nat.le_refl _, fun _ _ => rfl⟩)
                      go_wp2_with (at_builtin; refine wpList_app rfl (.tmp 80) (.tmp 85) _ _ rfl rfl rfl (APP.out _) ?_; rintro v8 w8 ⟨ho8, hg8⟩; obtain ⟨A8, c8, rfl, _, _⟩ := own_rd ho8; have HO8 := Lib.hid ho8; have HG8 := Lib.hid hg8; clear ho8 hg8)
                      go_roundw
                      case rel => exact ⟨i + 1, m' + 1, c8, cc + 1, A8, by omega, by omega, by go_num, rfl, by go_num, by omega, by omega, by rw [HST.out, HS.out]; exact Lib.hid (by have := HM.out; simp; omega), by rw [HST.out, HS.out]; exact Lib.hid (by have := HC.out; simp only; omega), by rw [HST.out, HS.out, List.flatMap_append, List.flatMap_singleton]; exact HO8, Lib.hid (HB6.out.grown HG8.out.grown hws (fun q hq => hob q hq))⟩
                      case measure => simp [intOf]; omega
                  · have d2 : (x.op.toList == e.op.toList) = false := beq_eq_false_iff_ne.2 (fun h => k2 (strx_inj h))
                    have h0 : ordE x e ≠ 0 := fun h => k2 ((ordE_zero _ _).1 h).2
                    have HS : Hid (skF e S x = (S.1 ++ [x], S.2)) := Lib.hid (by unfold skF; rw [if_neg h0])
                    clear k1 k2
                    go_quiet (fail)
                    have HO6 := Lib.hid (show (wr.drewN nq).ownsRow Bx 38 6 (.slice A7 m' c7) m' (S.1.flatMap Ex.cells) from HOi.out)
                    have HB6 := Lib.hid (show Below Bx W (wr.drewN nq) from ⟨HBi.out.os, HBi.out.tape, HBi.out.output, HBi.out.size, HBi.out.block⟩)
                    have APP := Lib.hid (fun ty => HAPP.out (wr.drewN nq) ty ⟨rfl, rfl, rfl, Nat.le_refl _, fun _ _ => rfl⟩)
                    go_wp2_with (at_builtin; refine wpList_app rfl (.tmp 80) (.tmp 85) _ _ rfl rfl rfl (APP.out _) ?_; rintro v8 w8 ⟨ho8, hg8⟩; obtain ⟨A8, c8, rfl, _, _⟩ := own_rd ho8; have HO8 := Lib.hid ho8; have HG8 := Lib.hid hg8; clear ho8 hg8)
                    go_roundw
                    case rel => exact ⟨i + 1, m' + 1, c8, cc, A8, by omega, by omega, by go_num, rfl, by rfl, by omega, by omega, by rw [HST.out, HS.out]; exact Lib.hid (by have := HM.out; simp; omega), by rw [HST.out, HS.out]; exact Lib.hid (by have := HC.out; simp only; omega), by rw [HST.out, HS.out, List.flatMap_append, List.flatMap_singleton]; exact HO8, Lib.hid (HB6.out.grown HG8.out.grown hws (fun q hq => hob q hq))⟩
                    case measure => simp [intOf]; omega
                · have d1 : (x.sv.toList == e.sv.toList) = false := beq_eq_false_iff_ne.2 (fun h => k1 (strx_inj h))
                  have h0 : ordE x e ≠ 0 := fun h => k1 ((ordE_zero _ _).1 h).1
                  have HS : Hid (skF e S x = (S.1 ++ [x], S.2)) := Lib.hid (by unfold skF; rw [if_neg h0])
                  clear k1
                  go_quiet (fail)
                  have HO6 := Lib.hid (show (wr.drewN nq).ownsRow Bx 38 6 (.slice A7 m' c7) m' (S.1.flatMap Ex.cells) from HOi.out)
                  have HB6 := Lib.hid (show Below Bx W (wr.drewN nq) from ⟨HBi.out.os, HBi.out.tape, HBi.out.output, HBi.out.size, HBi.out.block⟩)
                  have APP := Lib.hid (fun ty => HAPP.out (wr.drewN nq) ty ⟨rfl, rfl, rfl, Nat.le_refl _, fun _ _ => rfl⟩)
                  go_wp2_with (at_builtin; refine wpList_app rfl (.tmp 80) (.tmp 85) _ _ rfl rfl rfl (APP.out _) ?_; rintro v8 w8 ⟨ho8, hg8⟩; obtain ⟨A8, c8, rfl, _, _⟩ := own_rd ho8; have HO8 := Lib.hid ho8; have HG8 := Lib.hid hg8; clear ho8 hg8)
                  go_roundw
                  case rel => exact ⟨i + 1, m' + 1, c8, cc, A8, by omega, by omega, by go_num, rfl, by rfl, by omega, by omega, by rw [HST.out, HS.out]; exact Lib.hid (by have := HM.out; simp; omega), by rw [HST.out, HS.out]; exact Lib.hid (by have := HC.out; simp only; omega), by rw [HST.out, HS.out, List.flatMap_append, List.flatMap_singleton]; exact HO8, Lib.hid (HB6.out.grown HG8.out.grown hws (fun q hq => hob q hq))⟩
                  case measure => simp [intOf]; omega
              · obtain rfl : i = n' := by omega
                have HF : Hid ((L.drop j).take (i - j) = L.drop j) := Lib.hid (List.take_of_length_le (by have := HNL.out; rw [List.length_drop]; omega))
                have HDP : Hid (((L.drop j).foldl (skF e) (L.take j ++ [e], 1)).1 = dputX e L) := Lib.hid (by unfold dputX; rw [hput0])
                rw [HF.out, HDP.out] at HM HOi
                go_wp2_with fail
                go_roundw
                case rel => exact ⟨k + 1, m', c7, A7, by omega, by go_num, rfl, by have h1 := HM.out; have h2 := dputX_len e L; have := HNL.out; omega, by rw [HDS.out]; exact HM, by rw [HDS.out]; exact Lib.hid (own_mono HOi.out (by have := HWB.out.size; have := HWZ.out; omega)), Lib.hid (HWB.out.trans (HBi.out.mono (by have := HWB.out.size; have := HWZ.out; omega)))⟩
                case measure => simp [intOf]; omega

    · obtain rfl : k = ne := by omega
      have HF := Lib.hid (show es.take k = es from List.take_of_length_le (by have := HNE.out; omega))
      go_wp2_with fail
      go_ret
      rw [HF.out] at HNL HO
      exact ⟨A', n', c', rfl, HNL.out, HO.out, HB.out⟩
end Go.Proofs.Ytajpnimjkkmcmaa
