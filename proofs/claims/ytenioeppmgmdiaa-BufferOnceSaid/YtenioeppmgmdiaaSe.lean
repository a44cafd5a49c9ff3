/- The document's SameEpisodes, of two rows that say the same. -/
import Derived.Test.YtenioeppmgmdiaaSq
import Derived.Test.YtenioeppmgmdiaaCe
import Derived.Test.YtenioeppmgmdiaaBs
namespace Go.Proofs.Ytenioeppmgmdiaa
open Go.RowKit
set_option linter.unusedVariables false
set_option linter.unusedSimpArgs false
set_option maxRecDepth 100000

def SeF (b off n c d oof cc k q ec hc : Nat) (th tl f la : Int) (su : Bool) (eA hA : Option Addr) : Nat → Value → World → Prop
  | 0, v, _ => v = .slice (some ⟨b, off, none⟩) n c
  | 1, v, _ => v = .int .i64 (k : Int)
  | 2, v, _ => v = .pointer (some ⟨b, off + k * 6, none⟩)
  | 3, v, _ => v = .pointer (some ⟨b, off + k * 6, none⟩)
  | 4, v, _ => v = .agg #[.int .u64 th, .int .u64 tl]
  | 5, v, _ => v = .slice (some ⟨d, oof, none⟩) n cc
  | 6, v, _ => v = .int .i64 (k : Int)
  | 7, v, _ => v = .pointer (some ⟨d, oof + k * 6, none⟩)
  | 8, v, _ => v = .pointer (some ⟨d, oof + k * 6, none⟩)
  | 9, v, _ => v = .agg #[.int .u64 th, .int .u64 tl]
  | 10, v, _ => v = .bool false
  | 11, v, _ => v = .bool false
  | 12, v, _ => v = .slice (some ⟨b, off, none⟩) n c
  | 13, v, _ => v = .int .i64 (k : Int)
  | 14, v, _ => v = .pointer (some ⟨b, off + k * 6, none⟩)
  | 15, v, _ => v = .pointer (some ⟨b, off + k * 6 + 2, none⟩)
  | 16, v, _ => v = .int .i64 f
  | 17, v, _ => v = .slice (some ⟨d, oof, none⟩) n cc
  | 18, v, _ => v = .int .i64 (k : Int)
  | 19, v, _ => v = .pointer (some ⟨d, oof + k * 6, none⟩)
  | 20, v, _ => v = .pointer (some ⟨d, oof + k * 6 + 2, none⟩)
  | 21, v, _ => v = .int .i64 f
  | 22, v, _ => v = .bool false
  | 23, v, _ => v = .bool false
  | 24, v, _ => v = .bool false
  | 25, v, _ => v = .slice (some ⟨b, off, none⟩) n c
  | 26, v, _ => v = .int .i64 (k : Int)
  | 27, v, _ => v = .pointer (some ⟨b, off + k * 6, none⟩)
  | 28, v, _ => v = .pointer (some ⟨b, off + k * 6 + 3, none⟩)
  | 29, v, _ => v = .int .i64 la
  | 30, v, _ => v = .slice (some ⟨d, oof, none⟩) n cc
  | 31, v, _ => v = .int .i64 (k : Int)
  | 32, v, _ => v = .pointer (some ⟨d, oof + k * 6, none⟩)
  | 33, v, _ => v = .pointer (some ⟨d, oof + k * 6 + 3, none⟩)
  | 34, v, _ => v = .int .i64 la
  | 35, v, _ => v = .bool false
  | 36, v, _ => v = .bool false
  | 37, v, _ => v = .bool false
  | 38, v, _ => v = .slice (some ⟨b, off, none⟩) n c
  | 39, v, _ => v = .int .i64 (k : Int)
  | 40, v, _ => v = .pointer (some ⟨b, off + k * 6, none⟩)
  | 41, v, _ => v = .pointer (some ⟨b, off + k * 6 + 4, none⟩)
  | 42, v, _ => v = .bool su
  | 43, v, _ => v = .slice (some ⟨d, oof, none⟩) n cc
  | 44, v, _ => v = .int .i64 (k : Int)
  | 45, v, _ => v = .pointer (some ⟨d, oof + k * 6, none⟩)
  | 46, v, _ => v = .pointer (some ⟨d, oof + k * 6 + 4, none⟩)
  | 47, v, _ => v = .bool su
  | 48, v, _ => v = .bool false
  | 49, v, _ => v = .bool false
  | 50, v, _ => v = .bool false
  | 51, v, _ => v = .slice (some ⟨b, off, none⟩) n c
  | 52, v, _ => v = .int .i64 (k : Int)
  | 53, v, _ => v = .pointer (some ⟨b, off + k * 6, none⟩)
  | 54, v, _ => v = .pointer (some ⟨b, off + k * 6 + 5, none⟩)
  | 55, v, _ => v = .slice eA q ec
  | 56, v, _ => v = .slice (some ⟨d, oof, none⟩) n cc
  | 57, v, _ => v = .int .i64 (k : Int)
  | 58, v, _ => v = .pointer (some ⟨d, oof + k * 6, none⟩)
  | 59, v, _ => v = .pointer (some ⟨d, oof + k * 6 + 5, none⟩)
  | 60, v, _ => v = .slice hA q hc
  | 61, v, _ => v = .bool true
  | 62, v, _ => v = .bool false
  | 63, v, _ => v = .bool false
  | _, _, _ => True
theorem SeF.keep {b off n c d oof cc k q ec hc : Nat} {th tl f la : Int} {su : Bool} {eA hA : Option Addr} {w w' : World} {i : Nat} {v : Value} (h : SeF b off n c d oof cc k q ec hc th tl f la su eA hA i v w) : SeF b off n c d oof cc k q ec hc th tl f la su eA hA i v w' := by
  match i, h with
  | 0, h => exact h
  | 1, h => exact h
  | 2, h => exact h
  | 3, h => exact h
  | 4, h => exact h
  | 5, h => exact h
  | 6, h => exact h
  | 7, h => exact h
  | 8, h => exact h
  | 9, h => exact h
  | 10, h => exact h
  | 11, h => exact h
  | 12, h => exact h
  | 13, h => exact h
  | 14, h => exact h
  | 15, h => exact h
  | 16, h => exact h
  | 17, h => exact h
  | 18, h => exact h
  | 19, h => exact h
  | 20, h => exact h
  | 21, h => exact h
  | 22, h => exact h
  | 23, h => exact h
  | 24, h => exact h
  | 25, h => exact h
  | 26, h => exact h
  | 27, h => exact h
  | 28, h => exact h
  | 29, h => exact h
  | 30, h => exact h
  | 31, h => exact h
  | 32, h => exact h
  | 33, h => exact h
  | 34, h => exact h
  | 35, h => exact h
  | 36, h => exact h
  | 37, h => exact h
  | 38, h => exact h
  | 39, h => exact h
  | 40, h => exact h
  | 41, h => exact h
  | 42, h => exact h
  | 43, h => exact h
  | 44, h => exact h
  | 45, h => exact h
  | 46, h => exact h
  | 47, h => exact h
  | 48, h => exact h
  | 49, h => exact h
  | 50, h => exact h
  | 51, h => exact h
  | 52, h => exact h
  | 53, h => exact h
  | 54, h => exact h
  | 55, h => exact h
  | 56, h => exact h
  | 57, h => exact h
  | 58, h => exact h
  | 59, h => exact h
  | 60, h => exact h
  | 61, h => exact h
  | 62, h => exact h
  | 63, h => exact h
  | _ + 64, h => trivial
/-- Episodes as they lie, the row's own address laid open. -/
theorem eplain {w : World} {B : Nat} {A : Option Addr} {l : List Le} (h : RdEps w B A l) {k : Nat} {e : Le} (he : l[k]? = some e) : ∃ b off, A = some ⟨b, off, none⟩ ∧ b < B ∧ (∀ j u, e.cells[j]? = some u → w.cell? ⟨b, off + k * 6 + j, none⟩ = some u) ∧ RdSps w B e.A e.l := by
  obtain ⟨a, rfl, hab, hc, hr⟩ := h.at_ he
  have hpos : 0 < (l.flatMap Le.cells).length := by
    rw [flatMap_len _ 6 ecells_len]
    have : k < l.length := by
      rcases Nat.lt_or_ge k l.length with h | h
      · exact h
      · rw [List.getElem?_eq_none h] at he; cases he
    omega
  obtain ⟨a', ha', _, hc'⟩ := h.rd hpos
  injection ha' with ha'
  subst ha'
  have h00 := hc' 0 _ (List.getElem?_eq_getElem hpos)
  obtain ⟨b, off, spot⟩ := a
  have hs : spot = none := by
    rcases spot with _ | s
    · rfl
    · simp [Addr.add, World.cell?] at h00
      split at h00 <;> simp at h00
  subst hs
  refine ⟨b, off, rfl, hab, fun j u hu => ?_, hr⟩
  have h1 := hc j u hu
  have e1 : (⟨b, off, none⟩ : Addr).add (k * 6 + j) = ⟨b, off + k * 6 + j, none⟩ := by unfold Addr.add; split <;> simp_all [Nat.add_assoc]
  rw [e1] at h1
  exact h1
theorem addr_plain (b off i : Nat) : (⟨b, off, none⟩ : Addr).add i = ⟨b, off + i, none⟩ := by unfold Addr.add; split <;> simp_all
set_option maxHeartbeats 32000000 in
theorem sameeps_eq (A C : Option Addr) (l m : List Le) (n c cc B : Nat) (w : World) (hn : n = l.length) (hx : RdEps w B A l) (hy : RdEps w B C m) (h : l.map Le.ep = m.map Le.ep) (hB : B ≤ w.heap.size) (hl : n ≤ 1000000) (hsz : ∀ e ∈ l, e.l.length ≤ 1000000) :
    Calls Try.prog 26 #[.slice A n c, .slice C n cc] w fun e w' => e = .returned (.bool true) ∧ Below w.heap.size w w' := by
  have HN := Lib.hid hn
  have HX := Lib.hid hx
  have HY := Lib.hid hy
  have HM := Lib.hid h
  have HS := Lib.hid hsz
  clear hn hx hy h hsz
  go_enter Try.func26, Try.ntmps26
  go_wp2_with fail
  go_loopw [5] (fun i wr => ∃ k : Nat, i = .int .i64 k ∧ k ≤ n ∧ Hid (Below w.heap.size w wr)) (fun i _ => n - (intOf i).toNat)
  case atStart => exact ⟨0, rfl, by omega, Lib.hid (Below.refl _ _)⟩
  case round =>
    obtain ⟨k, rfl, hk, HB⟩ := hrel
    by_cases hlt : k < n
    · obtain ⟨x, hx⟩ : ∃ x, l[k]? = some x := ⟨_, List.getElem?_eq_getElem (by rw [← HN.out]; exact hlt)⟩
      have hml : m.length = n := by have := congrArg List.length HM.out; simp only [List.length_map] at this; rw [← this, HN.out]
      obtain ⟨y, hy⟩ : ∃ y, m[k]? = some y := ⟨_, List.getElem?_eq_getElem (by rw [hml]; exact hlt)⟩
      have hxy : x.ep = y.ep := by
        have h1 := congrArg (fun z => z[k]?) HM.out
        simp only [List.getElem?_map, hx, hy, Option.map_some, Option.some.injEq] at h1
        exact h1
      have hxs := HS.out x (List.mem_of_getElem? hx)
      obtain ⟨W, hW⟩ : ∃ W, W = wr.drew := ⟨_, rfl⟩
      have hWb : Below wr.heap.size wr W := by rw [hW]; exact ⟨rfl, rfl, rfl, Nat.le_refl _, fun _ _ => rfl⟩
      have HBW := Lib.hid (HB.out.trans (hWb.mono HB.out.size))
      have hBW : B ≤ W.heap.size := Nat.le_trans hB HBW.out.size
      obtain ⟨b, off, rfl, hbB, cx, rx⟩ := eplain (HX.out.below (HBW.out.mono hB)) hx
      obtain ⟨d, oof, rfl, hdB, cy, ry⟩ := eplain (HY.out.below (HBW.out.mono hB)) hy
      obtain ⟨th, tl, f, la, su, ls, eA, ec⟩ := x
      obtain ⟨th2, tl2, f2, la2, su2, ms, hA, hc⟩ := y
      simp only [Le.ep, Ep.mk.injEq] at hxy
      obtain ⟨rfl, rfl, rfl, rfl, rfl, hss⟩ := hxy
      simp only at hxs
      obtain ⟨q, hq⟩ : ∃ q, q = ls.length := ⟨_, rfl⟩
      have hq2 : q = ms.length := by have := congrArg List.length hss; simp only [List.length_map] at this; rw [hq, this]
      rw [← hq] at hxs
      have x0 := Lib.hid (cx 0 _ rfl)
      have y0 := Lib.hid (cy 0 _ rfl)
      simp only [Nat.add_zero] at x0 y0
      have x1 := Lib.hid (cx 1 _ rfl)
      have y1 := Lib.hid (cy 1 _ rfl)
      have x2 := Lib.hid (cx 2 _ rfl)
      have y2 := Lib.hid (cy 2 _ rfl)
      have x3 := Lib.hid (cx 3 _ rfl)
      have y3 := Lib.hid (cy 3 _ rfl)
      have x4 := Lib.hid (cx 4 _ rfl)
      have y4 := Lib.hid (cy 4 _ rfl)
      have x5 : Hid (W.cell? ⟨b, off + k * 6 + 5, none⟩ = some (.slice eA q ec)) := Lib.hid (by rw [hq]; exact cx 5 _ rfl)
      have y5 : Hid (W.cell? ⟨d, oof + k * 6 + 5, none⟩ = some (.slice hA q hc)) := Lib.hid (by rw [hq2]; exact cy 5 _ rfl)
      have hbW : b < W.heap.size := by omega
      have hdW : d < W.heap.size := by omega
      have i1 : (k : Int) < (n : Int) := by omega
      have i2 : (0 : Int) ≤ (k : Int) := by omega
      have i3 : k < n := hlt
      have i4 : decide ((k : Int) < (n : Int)) = true := decide_eq_true i1
      have ad0 := addr_plain b off (k * 6)
      have ad1 := addr_plain d oof (k * 6)
      have HSS : Hid (∀ W3, Below W.heap.size W W3 → Calls Try.prog 43 #[.slice eA q ec, .slice hA q hc] W3 fun e w' => e = .returned (.bool true) ∧ Below W3.heap.size W3 w') := Lib.hid (fun W3 h3 => samespans_eq eA hA ls ms q ec hc B W3 hq (rx.below (h3.mono hBW)) (ry.below (h3.mono hBW)) hss (Nat.le_trans hBW h3.size) (by unfold maxLen; omega))
      clear cx cy rx ry hss hq hq2 hx hy hWb hml
      go_wp2_with fail
      refine PI.wp_region_persG (R := Below W.heap.size) (G := fun _ _ => True) (I := fun _ _ _ => True) [(2, 0), (2, 1), (3, 2), (4, 3), (7, 5), (7, 6), (8, 7), (9, 8), (10, 4), (10, 9), (11, 10), (12, 11), (13, 11), (14, 11), (14, 12), (14, 13), (15, 11), (15, 14), (16, 11), (16, 15), (17, 11), (18, 11), (19, 11), (19, 17), (19, 18), (20, 11), (20, 19), (21, 11), (21, 20), (22, 11), (22, 16), (22, 21), (23, 11), (23, 22), (24, 23), (25, 24), (26, 24), (27, 24), (27, 25), (27, 26), (28, 24), (28, 27), (29, 24), (29, 28), (30, 24), (31, 24), (32, 24), (32, 30), (32, 31), (33, 24), (33, 32), (34, 24), (34, 33), (35, 24), (35, 29), (35, 34), (36, 24), (36, 35), (37, 36), (38, 37), (39, 37), (40, 37), (40, 38), (40, 39), (41, 37), (41, 40), (42, 37), (42, 41), (43, 37), (44, 37), (45, 37), (45, 43), (45, 44), (46, 37), (46, 45), (47, 37), (47, 46), (48, 37), (48, 42), (48, 47), (49, 37), (49, 48), (50, 49), (51, 50), (52, 50), (53, 50), (53, 51), (53, 52), (54, 50), (54, 53), (55, 50), (55, 54), (56, 50), (57, 50), (58, 50), (58, 56), (58, 57), (59, 50), (59, 58), (60, 50), (60, 59), (61, 50), (61, 55), (61, 60), (62, 50), (62, 61), (63, 50), (63, 62)] [63] (by kernel_rfl) (PI.formed_of (by kernel_rfl)) ⟨fun w => Below.refl _ w, fun _ _ _ h k => h.trans k⟩ (fun _ => trivial) (SeF b off n c d oof cc k q ec hc th tl f la su eA hA) trivial ?_ ?_
      · rw [← hW]
        intro i o ho
        rcases i with _ | _ | _ | _ | _ | _ | _ | _ | _ | _ | _ | _ | _ | _ | _ | _ | _ | _ | _ | _ | _ | _ | _ | _ | _ | _ | _ | _ | _ | _ | _ | _ | _ | _ | _ | _ | _ | _ | _ | _ | _ | _ | _ | _ | _ | _ | _ | _ | _ | _ | _ | _ | _ | _ | _ | _ | _ | _ | _ | _ | _ | _ | _ | _ | i
        · obtain rfl := Option.some.inj (show some _ = some o from ho)
          refine PI.shown_val rfl fun a w3 L0 hr T => ?_
          have h1 : a.eval (.tmp 0) = .slice (some ⟨b, off, none⟩) n c := T.was 0 (by kernel_rfl)
          exact ⟨.slice (some ⟨b, off, none⟩) n c, w3, by simp only [execOp, h1]; simp [go_sem], PI.Post.pure ⟨fun w => Below.refl _ w, fun _ _ _ h k => h.trans k⟩ rfl trivial⟩
        · obtain rfl := Option.some.inj (show some _ = some o from ho)
          refine PI.shown_val rfl fun a w3 L0 hr T => ?_
          have h1 : a.eval (.tmp 5) = .int .i64 (k : Int) := T.was 5 (by kernel_rfl)
          exact ⟨.int .i64 (k : Int), w3, by simp only [execOp, h1]; simp [go_sem], PI.Post.pure ⟨fun w => Below.refl _ w, fun _ _ _ h k => h.trans k⟩ rfl trivial⟩
        · obtain rfl := Option.some.inj (show some _ = some o from ho)
          refine PI.shown_val rfl fun a w3 L0 hr T => ?_
          have h1 : a.eval (.tmp 17) = .slice (some ⟨b, off, none⟩) n c := T.at_ 0 17 (by kernel_rfl) (by kernel_rfl) (by kernel_rfl)
          have h2 : a.eval (.tmp 18) = .int .i64 (k : Int) := T.at_ 1 18 (by kernel_rfl) (by kernel_rfl) (by kernel_rfl)
          exact ⟨.pointer (some ⟨b, off + k * 6, none⟩), w3, by simp only [execOp, h1, h2]; simp [go_sem, i1, i2, i3, i4, ad0], PI.Post.pure ⟨fun w => Below.refl _ w, fun _ _ _ h k => h.trans k⟩ rfl trivial⟩
        · obtain rfl := Option.some.inj (show some _ = some o from ho)
          refine PI.shown_val rfl fun a w3 L0 hr T => ?_
          have h1 : a.eval (.tmp 19) = .pointer (some ⟨b, off + k * 6, none⟩) := T.at_ 2 19 (by kernel_rfl) (by kernel_rfl) (by kernel_rfl)
          exact ⟨.pointer (some ⟨b, off + k * 6, none⟩), w3, by simp only [execOp, h1]; simp [go_sem], PI.Post.pure ⟨fun w => Below.refl _ w, fun _ _ _ h k => h.trans k⟩ rfl trivial⟩
        · obtain rfl := Option.some.inj (show some _ = some o from ho)
          refine PI.shown_val rfl fun a w3 L0 hr T => ?_
          have h1 : a.eval (.tmp 20) = .pointer (some ⟨b, off + k * 6, none⟩) := T.at_ 3 20 (by kernel_rfl) (by kernel_rfl) (by kernel_rfl)
          have v0 := (hr.cell (p := ⟨b, off + k * 6, none⟩) hbW).trans x0.out
          have v1 := (hr.cell (p := ⟨b, off + k * 6 + 1, none⟩) hbW).trans x1.out
          exact ⟨.agg #[.int .u64 th, .int .u64 tl], w3, by simp only [execOp, h1]; simp [go_sem, v0, v1], PI.Post.pure ⟨fun w => Below.refl _ w, fun _ _ _ h k => h.trans k⟩ rfl trivial⟩
        · obtain rfl := Option.some.inj (show some _ = some o from ho)
          refine PI.shown_val rfl fun a w3 L0 hr T => ?_
          have h1 : a.eval (.tmp 1) = .slice (some ⟨d, oof, none⟩) n cc := T.was 1 (by kernel_rfl)
          exact ⟨.slice (some ⟨d, oof, none⟩) n cc, w3, by simp only [execOp, h1]; simp [go_sem], PI.Post.pure ⟨fun w => Below.refl _ w, fun _ _ _ h k => h.trans k⟩ rfl trivial⟩
        · obtain rfl := Option.some.inj (show some _ = some o from ho)
          refine PI.shown_val rfl fun a w3 L0 hr T => ?_
          have h1 : a.eval (.tmp 5) = .int .i64 (k : Int) := T.was 5 (by kernel_rfl)
          exact ⟨.int .i64 (k : Int), w3, by simp only [execOp, h1]; simp [go_sem], PI.Post.pure ⟨fun w => Below.refl _ w, fun _ _ _ h k => h.trans k⟩ rfl trivial⟩
        · obtain rfl := Option.some.inj (show some _ = some o from ho)
          refine PI.shown_val rfl fun a w3 L0 hr T => ?_
          have h1 : a.eval (.tmp 22) = .slice (some ⟨d, oof, none⟩) n cc := T.at_ 5 22 (by kernel_rfl) (by kernel_rfl) (by kernel_rfl)
          have h2 : a.eval (.tmp 23) = .int .i64 (k : Int) := T.at_ 6 23 (by kernel_rfl) (by kernel_rfl) (by kernel_rfl)
          exact ⟨.pointer (some ⟨d, oof + k * 6, none⟩), w3, by simp only [execOp, h1, h2]; simp [go_sem, i1, i2, i3, i4, ad1], PI.Post.pure ⟨fun w => Below.refl _ w, fun _ _ _ h k => h.trans k⟩ rfl trivial⟩
        · obtain rfl := Option.some.inj (show some _ = some o from ho)
          refine PI.shown_val rfl fun a w3 L0 hr T => ?_
          have h1 : a.eval (.tmp 24) = .pointer (some ⟨d, oof + k * 6, none⟩) := T.at_ 7 24 (by kernel_rfl) (by kernel_rfl) (by kernel_rfl)
          exact ⟨.pointer (some ⟨d, oof + k * 6, none⟩), w3, by simp only [execOp, h1]; simp [go_sem], PI.Post.pure ⟨fun w => Below.refl _ w, fun _ _ _ h k => h.trans k⟩ rfl trivial⟩
        · obtain rfl := Option.some.inj (show some _ = some o from ho)
          refine PI.shown_val rfl fun a w3 L0 hr T => ?_
          have h1 : a.eval (.tmp 25) = .pointer (some ⟨d, oof + k * 6, none⟩) := T.at_ 8 25 (by kernel_rfl) (by kernel_rfl) (by kernel_rfl)
          have v0 := (hr.cell (p := ⟨d, oof + k * 6, none⟩) hdW).trans y0.out
          have v1 := (hr.cell (p := ⟨d, oof + k * 6 + 1, none⟩) hdW).trans y1.out
          exact ⟨.agg #[.int .u64 th, .int .u64 tl], w3, by simp only [execOp, h1]; simp [go_sem, v0, v1], PI.Post.pure ⟨fun w => Below.refl _ w, fun _ _ _ h k => h.trans k⟩ rfl trivial⟩
        · obtain rfl := Option.some.inj (show some _ = some o from ho)
          refine PI.shown_val rfl fun a w3 L0 hr T => ?_
          have h1 : a.eval (.tmp 21) = .agg #[.int .u64 th, .int .u64 tl] := T.at_ 4 21 (by kernel_rfl) (by kernel_rfl) (by kernel_rfl)
          have h2 : a.eval (.tmp 26) = .agg #[.int .u64 th, .int .u64 tl] := T.at_ 9 26 (by kernel_rfl) (by kernel_rfl) (by kernel_rfl)
          exact ⟨.bool false, w3, by simp only [execOp, h1, h2]; simp [go_sem], PI.Post.pure ⟨fun w => Below.refl _ w, fun _ _ _ h k => h.trans k⟩ rfl trivial⟩
        · obtain rfl := Option.some.inj (show some _ = some o from ho)
          refine PI.shown_val rfl fun a w3 L0 hr T => ?_
          have h1 : a.eval (.tmp 27) = .bool false := T.at_ 10 27 (by kernel_rfl) (by kernel_rfl) (by kernel_rfl)
          exact ⟨.bool false, w3, by simp only [execOp, h1]; simp [go_sem], PI.Post.pure ⟨fun w => Below.refl _ w, fun _ _ _ h k => h.trans k⟩ rfl trivial⟩
        · obtain rfl := Option.some.inj (show some _ = some o from ho)
          refine PI.shown_val_if 11 28 false rfl (by kernel_rfl) (by kernel_rfl) (by kernel_rfl) (fun v w h => h) fun a w3 L0 hr T => ?_
          have h1 : a.eval (.tmp 0) = .slice (some ⟨b, off, none⟩) n c := T.was 0 (by kernel_rfl)
          exact ⟨.slice (some ⟨b, off, none⟩) n c, w3, by simp only [execOp, h1]; simp [go_sem], PI.Post.pure ⟨fun w => Below.refl _ w, fun _ _ _ h k => h.trans k⟩ rfl trivial⟩
        · obtain rfl := Option.some.inj (show some _ = some o from ho)
          refine PI.shown_val_if 11 28 false rfl (by kernel_rfl) (by kernel_rfl) (by kernel_rfl) (fun v w h => h) fun a w3 L0 hr T => ?_
          have h1 : a.eval (.tmp 5) = .int .i64 (k : Int) := T.was 5 (by kernel_rfl)
          exact ⟨.int .i64 (k : Int), w3, by simp only [execOp, h1]; simp [go_sem], PI.Post.pure ⟨fun w => Below.refl _ w, fun _ _ _ h k => h.trans k⟩ rfl trivial⟩
        · obtain rfl := Option.some.inj (show some _ = some o from ho)
          refine PI.shown_val_if 11 28 false rfl (by kernel_rfl) (by kernel_rfl) (by kernel_rfl) (fun v w h => h) fun a w3 L0 hr T => ?_
          have h1 : a.eval (.tmp 29) = .slice (some ⟨b, off, none⟩) n c := T.at_ 12 29 (by kernel_rfl) (by kernel_rfl) (by kernel_rfl)
          have h2 : a.eval (.tmp 30) = .int .i64 (k : Int) := T.at_ 13 30 (by kernel_rfl) (by kernel_rfl) (by kernel_rfl)
          exact ⟨.pointer (some ⟨b, off + k * 6, none⟩), w3, by simp only [execOp, h1, h2]; simp [go_sem, i1, i2, i3, i4, ad0], PI.Post.pure ⟨fun w => Below.refl _ w, fun _ _ _ h k => h.trans k⟩ rfl trivial⟩
        · obtain rfl := Option.some.inj (show some _ = some o from ho)
          refine PI.shown_val_if 11 28 false rfl (by kernel_rfl) (by kernel_rfl) (by kernel_rfl) (fun v w h => h) fun a w3 L0 hr T => ?_
          have h1 : a.eval (.tmp 31) = .pointer (some ⟨b, off + k * 6, none⟩) := T.at_ 14 31 (by kernel_rfl) (by kernel_rfl) (by kernel_rfl)
          exact ⟨.pointer (some ⟨b, off + k * 6 + 2, none⟩), w3, by simp only [execOp, h1]; simp [go_sem], PI.Post.pure ⟨fun w => Below.refl _ w, fun _ _ _ h k => h.trans k⟩ rfl trivial⟩
        · obtain rfl := Option.some.inj (show some _ = some o from ho)
          refine PI.shown_val_if 11 28 false rfl (by kernel_rfl) (by kernel_rfl) (by kernel_rfl) (fun v w h => h) fun a w3 L0 hr T => ?_
          have h1 : a.eval (.tmp 32) = .pointer (some ⟨b, off + k * 6 + 2, none⟩) := T.at_ 15 32 (by kernel_rfl) (by kernel_rfl) (by kernel_rfl)
          have v2 := (hr.cell (p := ⟨b, off + k * 6 + 2, none⟩) hbW).trans x2.out
          exact ⟨.int .i64 f, w3, by simp only [execOp, h1]; simp [go_sem, v2], PI.Post.pure ⟨fun w => Below.refl _ w, fun _ _ _ h k => h.trans k⟩ rfl trivial⟩
        · obtain rfl := Option.some.inj (show some _ = some o from ho)
          refine PI.shown_val_if 11 28 false rfl (by kernel_rfl) (by kernel_rfl) (by kernel_rfl) (fun v w h => h) fun a w3 L0 hr T => ?_
          have h1 : a.eval (.tmp 1) = .slice (some ⟨d, oof, none⟩) n cc := T.was 1 (by kernel_rfl)
          exact ⟨.slice (some ⟨d, oof, none⟩) n cc, w3, by simp only [execOp, h1]; simp [go_sem], PI.Post.pure ⟨fun w => Below.refl _ w, fun _ _ _ h k => h.trans k⟩ rfl trivial⟩
        · obtain rfl := Option.some.inj (show some _ = some o from ho)
          refine PI.shown_val_if 11 28 false rfl (by kernel_rfl) (by kernel_rfl) (by kernel_rfl) (fun v w h => h) fun a w3 L0 hr T => ?_
          have h1 : a.eval (.tmp 5) = .int .i64 (k : Int) := T.was 5 (by kernel_rfl)
          exact ⟨.int .i64 (k : Int), w3, by simp only [execOp, h1]; simp [go_sem], PI.Post.pure ⟨fun w => Below.refl _ w, fun _ _ _ h k => h.trans k⟩ rfl trivial⟩
        · obtain rfl := Option.some.inj (show some _ = some o from ho)
          refine PI.shown_val_if 11 28 false rfl (by kernel_rfl) (by kernel_rfl) (by kernel_rfl) (fun v w h => h) fun a w3 L0 hr T => ?_
          have h1 : a.eval (.tmp 34) = .slice (some ⟨d, oof, none⟩) n cc := T.at_ 17 34 (by kernel_rfl) (by kernel_rfl) (by kernel_rfl)
          have h2 : a.eval (.tmp 35) = .int .i64 (k : Int) := T.at_ 18 35 (by kernel_rfl) (by kernel_rfl) (by kernel_rfl)
          exact ⟨.pointer (some ⟨d, oof + k * 6, none⟩), w3, by simp only [execOp, h1, h2]; simp [go_sem, i1, i2, i3, i4, ad1], PI.Post.pure ⟨fun w => Below.refl _ w, fun _ _ _ h k => h.trans k⟩ rfl trivial⟩
        · obtain rfl := Option.some.inj (show some _ = some o from ho)
          refine PI.shown_val_if 11 28 false rfl (by kernel_rfl) (by kernel_rfl) (by kernel_rfl) (fun v w h => h) fun a w3 L0 hr T => ?_
          have h1 : a.eval (.tmp 36) = .pointer (some ⟨d, oof + k * 6, none⟩) := T.at_ 19 36 (by kernel_rfl) (by kernel_rfl) (by kernel_rfl)
          exact ⟨.pointer (some ⟨d, oof + k * 6 + 2, none⟩), w3, by simp only [execOp, h1]; simp [go_sem], PI.Post.pure ⟨fun w => Below.refl _ w, fun _ _ _ h k => h.trans k⟩ rfl trivial⟩
        · obtain rfl := Option.some.inj (show some _ = some o from ho)
          refine PI.shown_val_if 11 28 false rfl (by kernel_rfl) (by kernel_rfl) (by kernel_rfl) (fun v w h => h) fun a w3 L0 hr T => ?_
          have h1 : a.eval (.tmp 37) = .pointer (some ⟨d, oof + k * 6 + 2, none⟩) := T.at_ 20 37 (by kernel_rfl) (by kernel_rfl) (by kernel_rfl)
          have v2 := (hr.cell (p := ⟨d, oof + k * 6 + 2, none⟩) hdW).trans y2.out
          exact ⟨.int .i64 f, w3, by simp only [execOp, h1]; simp [go_sem, v2], PI.Post.pure ⟨fun w => Below.refl _ w, fun _ _ _ h k => h.trans k⟩ rfl trivial⟩
        · obtain rfl := Option.some.inj (show some _ = some o from ho)
          refine PI.shown_val_if 11 28 false rfl (by kernel_rfl) (by kernel_rfl) (by kernel_rfl) (fun v w h => h) fun a w3 L0 hr T => ?_
          have h1 : a.eval (.tmp 33) = .int .i64 f := T.at_ 16 33 (by kernel_rfl) (by kernel_rfl) (by kernel_rfl)
          have h2 : a.eval (.tmp 38) = .int .i64 f := T.at_ 21 38 (by kernel_rfl) (by kernel_rfl) (by kernel_rfl)
          exact ⟨.bool false, w3, by simp only [execOp, h1, h2]; simp [go_sem], PI.Post.pure ⟨fun w => Below.refl _ w, fun _ _ _ h k => h.trans k⟩ rfl trivial⟩
        · obtain rfl := Option.some.inj (show some _ = some o from ho)
          refine PI.shown_val rfl fun a w3 L0 hr T => ?_
          have h1 : a.eval (.tmp 28) = .bool false := T.at_ 11 28 (by kernel_rfl) (by kernel_rfl) (by kernel_rfl)
          have h2 : a.eval (.tmp 39) = .bool false := T.at_ 22 39 (by kernel_rfl) (by kernel_rfl) (by kernel_rfl)
          exact ⟨.bool false, w3, by simp only [execOp, h1, h2]; simp [go_sem, Act.eval], PI.Post.pure ⟨fun w => Below.refl _ w, fun _ _ _ h k => h.trans k⟩ rfl trivial⟩
        · obtain rfl := Option.some.inj (show some _ = some o from ho)
          refine PI.shown_val rfl fun a w3 L0 hr T => ?_
          have h1 : a.eval (.tmp 40) = .bool false := T.at_ 23 40 (by kernel_rfl) (by kernel_rfl) (by kernel_rfl)
          exact ⟨.bool false, w3, by simp only [execOp, h1]; simp [go_sem], PI.Post.pure ⟨fun w => Below.refl _ w, fun _ _ _ h k => h.trans k⟩ rfl trivial⟩
        · obtain rfl := Option.some.inj (show some _ = some o from ho)
          refine PI.shown_val_if 24 41 false rfl (by kernel_rfl) (by kernel_rfl) (by kernel_rfl) (fun v w h => h) fun a w3 L0 hr T => ?_
          have h1 : a.eval (.tmp 0) = .slice (some ⟨b, off, none⟩) n c := T.was 0 (by kernel_rfl)
          exact ⟨.slice (some ⟨b, off, none⟩) n c, w3, by simp only [execOp, h1]; simp [go_sem], PI.Post.pure ⟨fun w => Below.refl _ w, fun _ _ _ h k => h.trans k⟩ rfl trivial⟩
        · obtain rfl := Option.some.inj (show some _ = some o from ho)
          refine PI.shown_val_if 24 41 false rfl (by kernel_rfl) (by kernel_rfl) (by kernel_rfl) (fun v w h => h) fun a w3 L0 hr T => ?_
          have h1 : a.eval (.tmp 5) = .int .i64 (k : Int) := T.was 5 (by kernel_rfl)
          exact ⟨.int .i64 (k : Int), w3, by simp only [execOp, h1]; simp [go_sem], PI.Post.pure ⟨fun w => Below.refl _ w, fun _ _ _ h k => h.trans k⟩ rfl trivial⟩
        · obtain rfl := Option.some.inj (show some _ = some o from ho)
          refine PI.shown_val_if 24 41 false rfl (by kernel_rfl) (by kernel_rfl) (by kernel_rfl) (fun v w h => h) fun a w3 L0 hr T => ?_
          have h1 : a.eval (.tmp 42) = .slice (some ⟨b, off, none⟩) n c := T.at_ 25 42 (by kernel_rfl) (by kernel_rfl) (by kernel_rfl)
          have h2 : a.eval (.tmp 43) = .int .i64 (k : Int) := T.at_ 26 43 (by kernel_rfl) (by kernel_rfl) (by kernel_rfl)
          exact ⟨.pointer (some ⟨b, off + k * 6, none⟩), w3, by simp only [execOp, h1, h2]; simp [go_sem, i1, i2, i3, i4, ad0], PI.Post.pure ⟨fun w => Below.refl _ w, fun _ _ _ h k => h.trans k⟩ rfl trivial⟩
        · obtain rfl := Option.some.inj (show some _ = some o from ho)
          refine PI.shown_val_if 24 41 false rfl (by kernel_rfl) (by kernel_rfl) (by kernel_rfl) (fun v w h => h) fun a w3 L0 hr T => ?_
          have h1 : a.eval (.tmp 44) = .pointer (some ⟨b, off + k * 6, none⟩) := T.at_ 27 44 (by kernel_rfl) (by kernel_rfl) (by kernel_rfl)
          exact ⟨.pointer (some ⟨b, off + k * 6 + 3, none⟩), w3, by simp only [execOp, h1]; simp [go_sem], PI.Post.pure ⟨fun w => Below.refl _ w, fun _ _ _ h k => h.trans k⟩ rfl trivial⟩
        · obtain rfl := Option.some.inj (show some _ = some o from ho)
          refine PI.shown_val_if 24 41 false rfl (by kernel_rfl) (by kernel_rfl) (by kernel_rfl) (fun v w h => h) fun a w3 L0 hr T => ?_
          have h1 : a.eval (.tmp 45) = .pointer (some ⟨b, off + k * 6 + 3, none⟩) := T.at_ 28 45 (by kernel_rfl) (by kernel_rfl) (by kernel_rfl)
          have v3 := (hr.cell (p := ⟨b, off + k * 6 + 3, none⟩) hbW).trans x3.out
          exact ⟨.int .i64 la, w3, by simp only [execOp, h1]; simp [go_sem, v3], PI.Post.pure ⟨fun w => Below.refl _ w, fun _ _ _ h k => h.trans k⟩ rfl trivial⟩
        · obtain rfl := Option.some.inj (show some _ = some o from ho)
          refine PI.shown_val_if 24 41 false rfl (by kernel_rfl) (by kernel_rfl) (by kernel_rfl) (fun v w h => h) fun a w3 L0 hr T => ?_
          have h1 : a.eval (.tmp 1) = .slice (some ⟨d, oof, none⟩) n cc := T.was 1 (by kernel_rfl)
          exact ⟨.slice (some ⟨d, oof, none⟩) n cc, w3, by simp only [execOp, h1]; simp [go_sem], PI.Post.pure ⟨fun w => Below.refl _ w, fun _ _ _ h k => h.trans k⟩ rfl trivial⟩
        · obtain rfl := Option.some.inj (show some _ = some o from ho)
          refine PI.shown_val_if 24 41 false rfl (by kernel_rfl) (by kernel_rfl) (by kernel_rfl) (fun v w h => h) fun a w3 L0 hr T => ?_
          have h1 : a.eval (.tmp 5) = .int .i64 (k : Int) := T.was 5 (by kernel_rfl)
          exact ⟨.int .i64 (k : Int), w3, by simp only [execOp, h1]; simp [go_sem], PI.Post.pure ⟨fun w => Below.refl _ w, fun _ _ _ h k => h.trans k⟩ rfl trivial⟩
        · obtain rfl := Option.some.inj (show some _ = some o from ho)
          refine PI.shown_val_if 24 41 false rfl (by kernel_rfl) (by kernel_rfl) (by kernel_rfl) (fun v w h => h) fun a w3 L0 hr T => ?_
          have h1 : a.eval (.tmp 47) = .slice (some ⟨d, oof, none⟩) n cc := T.at_ 30 47 (by kernel_rfl) (by kernel_rfl) (by kernel_rfl)
          have h2 : a.eval (.tmp 48) = .int .i64 (k : Int) := T.at_ 31 48 (by kernel_rfl) (by kernel_rfl) (by kernel_rfl)
          exact ⟨.pointer (some ⟨d, oof + k * 6, none⟩), w3, by simp only [execOp, h1, h2]; simp [go_sem, i1, i2, i3, i4, ad1], PI.Post.pure ⟨fun w => Below.refl _ w, fun _ _ _ h k => h.trans k⟩ rfl trivial⟩
        · obtain rfl := Option.some.inj (show some _ = some o from ho)
          refine PI.shown_val_if 24 41 false rfl (by kernel_rfl) (by kernel_rfl) (by kernel_rfl) (fun v w h => h) fun a w3 L0 hr T => ?_
          have h1 : a.eval (.tmp 49) = .pointer (some ⟨d, oof + k * 6, none⟩) := T.at_ 32 49 (by kernel_rfl) (by kernel_rfl) (by kernel_rfl)
          exact ⟨.pointer (some ⟨d, oof + k * 6 + 3, none⟩), w3, by simp only [execOp, h1]; simp [go_sem], PI.Post.pure ⟨fun w => Below.refl _ w, fun _ _ _ h k => h.trans k⟩ rfl trivial⟩
        · obtain rfl := Option.some.inj (show some _ = some o from ho)
          refine PI.shown_val_if 24 41 false rfl (by kernel_rfl) (by kernel_rfl) (by kernel_rfl) (fun v w h => h) fun a w3 L0 hr T => ?_
          have h1 : a.eval (.tmp 50) = .pointer (some ⟨d, oof + k * 6 + 3, none⟩) := T.at_ 33 50 (by kernel_rfl) (by kernel_rfl) (by kernel_rfl)
          have v3 := (hr.cell (p := ⟨d, oof + k * 6 + 3, none⟩) hdW).trans y3.out
          exact ⟨.int .i64 la, w3, by simp only [execOp, h1]; simp [go_sem, v3], PI.Post.pure ⟨fun w => Below.refl _ w, fun _ _ _ h k => h.trans k⟩ rfl trivial⟩
        · obtain rfl := Option.some.inj (show some _ = some o from ho)
          refine PI.shown_val_if 24 41 false rfl (by kernel_rfl) (by kernel_rfl) (by kernel_rfl) (fun v w h => h) fun a w3 L0 hr T => ?_
          have h1 : a.eval (.tmp 46) = .int .i64 la := T.at_ 29 46 (by kernel_rfl) (by kernel_rfl) (by kernel_rfl)
          have h2 : a.eval (.tmp 51) = .int .i64 la := T.at_ 34 51 (by kernel_rfl) (by kernel_rfl) (by kernel_rfl)
          exact ⟨.bool false, w3, by simp only [execOp, h1, h2]; simp [go_sem], PI.Post.pure ⟨fun w => Below.refl _ w, fun _ _ _ h k => h.trans k⟩ rfl trivial⟩
        · obtain rfl := Option.some.inj (show some _ = some o from ho)
          refine PI.shown_val rfl fun a w3 L0 hr T => ?_
          have h1 : a.eval (.tmp 41) = .bool false := T.at_ 24 41 (by kernel_rfl) (by kernel_rfl) (by kernel_rfl)
          have h2 : a.eval (.tmp 52) = .bool false := T.at_ 35 52 (by kernel_rfl) (by kernel_rfl) (by kernel_rfl)
          exact ⟨.bool false, w3, by simp only [execOp, h1, h2]; simp [go_sem, Act.eval], PI.Post.pure ⟨fun w => Below.refl _ w, fun _ _ _ h k => h.trans k⟩ rfl trivial⟩
        · obtain rfl := Option.some.inj (show some _ = some o from ho)
          refine PI.shown_val rfl fun a w3 L0 hr T => ?_
          have h1 : a.eval (.tmp 53) = .bool false := T.at_ 36 53 (by kernel_rfl) (by kernel_rfl) (by kernel_rfl)
          exact ⟨.bool false, w3, by simp only [execOp, h1]; simp [go_sem], PI.Post.pure ⟨fun w => Below.refl _ w, fun _ _ _ h k => h.trans k⟩ rfl trivial⟩
        · obtain rfl := Option.some.inj (show some _ = some o from ho)
          refine PI.shown_val_if 37 54 false rfl (by kernel_rfl) (by kernel_rfl) (by kernel_rfl) (fun v w h => h) fun a w3 L0 hr T => ?_
          have h1 : a.eval (.tmp 0) = .slice (some ⟨b, off, none⟩) n c := T.was 0 (by kernel_rfl)
          exact ⟨.slice (some ⟨b, off, none⟩) n c, w3, by simp only [execOp, h1]; simp [go_sem], PI.Post.pure ⟨fun w => Below.refl _ w, fun _ _ _ h k => h.trans k⟩ rfl trivial⟩
        · obtain rfl := Option.some.inj (show some _ = some o from ho)
          refine PI.shown_val_if 37 54 false rfl (by kernel_rfl) (by kernel_rfl) (by kernel_rfl) (fun v w h => h) fun a w3 L0 hr T => ?_
          have h1 : a.eval (.tmp 5) = .int .i64 (k : Int) := T.was 5 (by kernel_rfl)
          exact ⟨.int .i64 (k : Int), w3, by simp only [execOp, h1]; simp [go_sem], PI.Post.pure ⟨fun w => Below.refl _ w, fun _ _ _ h k => h.trans k⟩ rfl trivial⟩
        · obtain rfl := Option.some.inj (show some _ = some o from ho)
          refine PI.shown_val_if 37 54 false rfl (by kernel_rfl) (by kernel_rfl) (by kernel_rfl) (fun v w h => h) fun a w3 L0 hr T => ?_
          have h1 : a.eval (.tmp 55) = .slice (some ⟨b, off, none⟩) n c := T.at_ 38 55 (by kernel_rfl) (by kernel_rfl) (by kernel_rfl)
          have h2 : a.eval (.tmp 56) = .int .i64 (k : Int) := T.at_ 39 56 (by kernel_rfl) (by kernel_rfl) (by kernel_rfl)
          exact ⟨.pointer (some ⟨b, off + k * 6, none⟩), w3, by simp only [execOp, h1, h2]; simp [go_sem, i1, i2, i3, i4, ad0], PI.Post.pure ⟨fun w => Below.refl _ w, fun _ _ _ h k => h.trans k⟩ rfl trivial⟩
        · obtain rfl := Option.some.inj (show some _ = some o from ho)
          refine PI.shown_val_if 37 54 false rfl (by kernel_rfl) (by kernel_rfl) (by kernel_rfl) (fun v w h => h) fun a w3 L0 hr T => ?_
          have h1 : a.eval (.tmp 57) = .pointer (some ⟨b, off + k * 6, none⟩) := T.at_ 40 57 (by kernel_rfl) (by kernel_rfl) (by kernel_rfl)
          exact ⟨.pointer (some ⟨b, off + k * 6 + 4, none⟩), w3, by simp only [execOp, h1]; simp [go_sem], PI.Post.pure ⟨fun w => Below.refl _ w, fun _ _ _ h k => h.trans k⟩ rfl trivial⟩
        · obtain rfl := Option.some.inj (show some _ = some o from ho)
          refine PI.shown_val_if 37 54 false rfl (by kernel_rfl) (by kernel_rfl) (by kernel_rfl) (fun v w h => h) fun a w3 L0 hr T => ?_
          have h1 : a.eval (.tmp 58) = .pointer (some ⟨b, off + k * 6 + 4, none⟩) := T.at_ 41 58 (by kernel_rfl) (by kernel_rfl) (by kernel_rfl)
          have v4 := (hr.cell (p := ⟨b, off + k * 6 + 4, none⟩) hbW).trans x4.out
          exact ⟨.bool su, w3, by simp only [execOp, h1]; simp [go_sem, v4], PI.Post.pure ⟨fun w => Below.refl _ w, fun _ _ _ h k => h.trans k⟩ rfl trivial⟩
        · obtain rfl := Option.some.inj (show some _ = some o from ho)
          refine PI.shown_val_if 37 54 false rfl (by kernel_rfl) (by kernel_rfl) (by kernel_rfl) (fun v w h => h) fun a w3 L0 hr T => ?_
          have h1 : a.eval (.tmp 1) = .slice (some ⟨d, oof, none⟩) n cc := T.was 1 (by kernel_rfl)
          exact ⟨.slice (some ⟨d, oof, none⟩) n cc, w3, by simp only [execOp, h1]; simp [go_sem], PI.Post.pure ⟨fun w => Below.refl _ w, fun _ _ _ h k => h.trans k⟩ rfl trivial⟩
        · obtain rfl := Option.some.inj (show some _ = some o from ho)
          refine PI.shown_val_if 37 54 false rfl (by kernel_rfl) (by kernel_rfl) (by kernel_rfl) (fun v w h => h) fun a w3 L0 hr T => ?_
          have h1 : a.eval (.tmp 5) = .int .i64 (k : Int) := T.was 5 (by kernel_rfl)
          exact ⟨.int .i64 (k : Int), w3, by simp only [execOp, h1]; simp [go_sem], PI.Post.pure ⟨fun w => Below.refl _ w, fun _ _ _ h k => h.trans k⟩ rfl trivial⟩
        · obtain rfl := Option.some.inj (show some _ = some o from ho)
          refine PI.shown_val_if 37 54 false rfl (by kernel_rfl) (by kernel_rfl) (by kernel_rfl) (fun v w h => h) fun a w3 L0 hr T => ?_
          have h1 : a.eval (.tmp 60) = .slice (some ⟨d, oof, none⟩) n cc := T.at_ 43 60 (by kernel_rfl) (by kernel_rfl) (by kernel_rfl)
          have h2 : a.eval (.tmp 61) = .int .i64 (k : Int) := T.at_ 44 61 (by kernel_rfl) (by kernel_rfl) (by kernel_rfl)
          exact ⟨.pointer (some ⟨d, oof + k * 6, none⟩), w3, by simp only [execOp, h1, h2]; simp [go_sem, i1, i2, i3, i4, ad1], PI.Post.pure ⟨fun w => Below.refl _ w, fun _ _ _ h k => h.trans k⟩ rfl trivial⟩
        · obtain rfl := Option.some.inj (show some _ = some o from ho)
          refine PI.shown_val_if 37 54 false rfl (by kernel_rfl) (by kernel_rfl) (by kernel_rfl) (fun v w h => h) fun a w3 L0 hr T => ?_
          have h1 : a.eval (.tmp 62) = .pointer (some ⟨d, oof + k * 6, none⟩) := T.at_ 45 62 (by kernel_rfl) (by kernel_rfl) (by kernel_rfl)
          exact ⟨.pointer (some ⟨d, oof + k * 6 + 4, none⟩), w3, by simp only [execOp, h1]; simp [go_sem], PI.Post.pure ⟨fun w => Below.refl _ w, fun _ _ _ h k => h.trans k⟩ rfl trivial⟩
        · obtain rfl := Option.some.inj (show some _ = some o from ho)
          refine PI.shown_val_if 37 54 false rfl (by kernel_rfl) (by kernel_rfl) (by kernel_rfl) (fun v w h => h) fun a w3 L0 hr T => ?_
          have h1 : a.eval (.tmp 63) = .pointer (some ⟨d, oof + k * 6 + 4, none⟩) := T.at_ 46 63 (by kernel_rfl) (by kernel_rfl) (by kernel_rfl)
          have v4 := (hr.cell (p := ⟨d, oof + k * 6 + 4, none⟩) hdW).trans y4.out
          exact ⟨.bool su, w3, by simp only [execOp, h1]; simp [go_sem, v4], PI.Post.pure ⟨fun w => Below.refl _ w, fun _ _ _ h k => h.trans k⟩ rfl trivial⟩
        · obtain rfl := Option.some.inj (show some _ = some o from ho)
          refine PI.shown_val_if 37 54 false rfl (by kernel_rfl) (by kernel_rfl) (by kernel_rfl) (fun v w h => h) fun a w3 L0 hr T => ?_
          have h1 : a.eval (.tmp 59) = .bool su := T.at_ 42 59 (by kernel_rfl) (by kernel_rfl) (by kernel_rfl)
          have h2 : a.eval (.tmp 64) = .bool su := T.at_ 47 64 (by kernel_rfl) (by kernel_rfl) (by kernel_rfl)
          exact ⟨.bool false, w3, by simp only [execOp, h1, h2]; simp [go_sem], PI.Post.pure ⟨fun w => Below.refl _ w, fun _ _ _ h k => h.trans k⟩ rfl trivial⟩
        · obtain rfl := Option.some.inj (show some _ = some o from ho)
          refine PI.shown_val rfl fun a w3 L0 hr T => ?_
          have h1 : a.eval (.tmp 54) = .bool false := T.at_ 37 54 (by kernel_rfl) (by kernel_rfl) (by kernel_rfl)
          have h2 : a.eval (.tmp 65) = .bool false := T.at_ 48 65 (by kernel_rfl) (by kernel_rfl) (by kernel_rfl)
          exact ⟨.bool false, w3, by simp only [execOp, h1, h2]; simp [go_sem, Act.eval], PI.Post.pure ⟨fun w => Below.refl _ w, fun _ _ _ h k => h.trans k⟩ rfl trivial⟩
        · obtain rfl := Option.some.inj (show some _ = some o from ho)
          refine PI.shown_val rfl fun a w3 L0 hr T => ?_
          have h1 : a.eval (.tmp 66) = .bool false := T.at_ 49 66 (by kernel_rfl) (by kernel_rfl) (by kernel_rfl)
          exact ⟨.bool false, w3, by simp only [execOp, h1]; simp [go_sem], PI.Post.pure ⟨fun w => Below.refl _ w, fun _ _ _ h k => h.trans k⟩ rfl trivial⟩
        · obtain rfl := Option.some.inj (show some _ = some o from ho)
          refine PI.shown_val_if 50 67 false rfl (by kernel_rfl) (by kernel_rfl) (by kernel_rfl) (fun v w h => h) fun a w3 L0 hr T => ?_
          have h1 : a.eval (.tmp 0) = .slice (some ⟨b, off, none⟩) n c := T.was 0 (by kernel_rfl)
          exact ⟨.slice (some ⟨b, off, none⟩) n c, w3, by simp only [execOp, h1]; simp [go_sem], PI.Post.pure ⟨fun w => Below.refl _ w, fun _ _ _ h k => h.trans k⟩ rfl trivial⟩
        · obtain rfl := Option.some.inj (show some _ = some o from ho)
          refine PI.shown_val_if 50 67 false rfl (by kernel_rfl) (by kernel_rfl) (by kernel_rfl) (fun v w h => h) fun a w3 L0 hr T => ?_
          have h1 : a.eval (.tmp 5) = .int .i64 (k : Int) := T.was 5 (by kernel_rfl)
          exact ⟨.int .i64 (k : Int), w3, by simp only [execOp, h1]; simp [go_sem], PI.Post.pure ⟨fun w => Below.refl _ w, fun _ _ _ h k => h.trans k⟩ rfl trivial⟩
        · obtain rfl := Option.some.inj (show some _ = some o from ho)
          refine PI.shown_val_if 50 67 false rfl (by kernel_rfl) (by kernel_rfl) (by kernel_rfl) (fun v w h => h) fun a w3 L0 hr T => ?_
          have h1 : a.eval (.tmp 68) = .slice (some ⟨b, off, none⟩) n c := T.at_ 51 68 (by kernel_rfl) (by kernel_rfl) (by kernel_rfl)
          have h2 : a.eval (.tmp 69) = .int .i64 (k : Int) := T.at_ 52 69 (by kernel_rfl) (by kernel_rfl) (by kernel_rfl)
          exact ⟨.pointer (some ⟨b, off + k * 6, none⟩), w3, by simp only [execOp, h1, h2]; simp [go_sem, i1, i2, i3, i4, ad0], PI.Post.pure ⟨fun w => Below.refl _ w, fun _ _ _ h k => h.trans k⟩ rfl trivial⟩
        · obtain rfl := Option.some.inj (show some _ = some o from ho)
          refine PI.shown_val_if 50 67 false rfl (by kernel_rfl) (by kernel_rfl) (by kernel_rfl) (fun v w h => h) fun a w3 L0 hr T => ?_
          have h1 : a.eval (.tmp 70) = .pointer (some ⟨b, off + k * 6, none⟩) := T.at_ 53 70 (by kernel_rfl) (by kernel_rfl) (by kernel_rfl)
          exact ⟨.pointer (some ⟨b, off + k * 6 + 5, none⟩), w3, by simp only [execOp, h1]; simp [go_sem], PI.Post.pure ⟨fun w => Below.refl _ w, fun _ _ _ h k => h.trans k⟩ rfl trivial⟩
        · obtain rfl := Option.some.inj (show some _ = some o from ho)
          refine PI.shown_val_if 50 67 false rfl (by kernel_rfl) (by kernel_rfl) (by kernel_rfl) (fun v w h => h) fun a w3 L0 hr T => ?_
          have h1 : a.eval (.tmp 71) = .pointer (some ⟨b, off + k * 6 + 5, none⟩) := T.at_ 54 71 (by kernel_rfl) (by kernel_rfl) (by kernel_rfl)
          have v5 := (hr.cell (p := ⟨b, off + k * 6 + 5, none⟩) hbW).trans x5.out
          exact ⟨.slice eA q ec, w3, by simp only [execOp, h1]; simp [go_sem, v5], PI.Post.pure ⟨fun w => Below.refl _ w, fun _ _ _ h k => h.trans k⟩ rfl trivial⟩
        · obtain rfl := Option.some.inj (show some _ = some o from ho)
          refine PI.shown_val_if 50 67 false rfl (by kernel_rfl) (by kernel_rfl) (by kernel_rfl) (fun v w h => h) fun a w3 L0 hr T => ?_
          have h1 : a.eval (.tmp 1) = .slice (some ⟨d, oof, none⟩) n cc := T.was 1 (by kernel_rfl)
          exact ⟨.slice (some ⟨d, oof, none⟩) n cc, w3, by simp only [execOp, h1]; simp [go_sem], PI.Post.pure ⟨fun w => Below.refl _ w, fun _ _ _ h k => h.trans k⟩ rfl trivial⟩
        · obtain rfl := Option.some.inj (show some _ = some o from ho)
          refine PI.shown_val_if 50 67 false rfl (by kernel_rfl) (by kernel_rfl) (by kernel_rfl) (fun v w h => h) fun a w3 L0 hr T => ?_
          have h1 : a.eval (.tmp 5) = .int .i64 (k : Int) := T.was 5 (by kernel_rfl)
          exact ⟨.int .i64 (k : Int), w3, by simp only [execOp, h1]; simp [go_sem], PI.Post.pure ⟨fun w => Below.refl _ w, fun _ _ _ h k => h.trans k⟩ rfl trivial⟩
        · obtain rfl := Option.some.inj (show some _ = some o from ho)
          refine PI.shown_val_if 50 67 false rfl (by kernel_rfl) (by kernel_rfl) (by kernel_rfl) (fun v w h => h) fun a w3 L0 hr T => ?_
          have h1 : a.eval (.tmp 73) = .slice (some ⟨d, oof, none⟩) n cc := T.at_ 56 73 (by kernel_rfl) (by kernel_rfl) (by kernel_rfl)
          have h2 : a.eval (.tmp 74) = .int .i64 (k : Int) := T.at_ 57 74 (by kernel_rfl) (by kernel_rfl) (by kernel_rfl)
          exact ⟨.pointer (some ⟨d, oof + k * 6, none⟩), w3, by simp only [execOp, h1, h2]; simp [go_sem, i1, i2, i3, i4, ad1], PI.Post.pure ⟨fun w => Below.refl _ w, fun _ _ _ h k => h.trans k⟩ rfl trivial⟩
        · obtain rfl := Option.some.inj (show some _ = some o from ho)
          refine PI.shown_val_if 50 67 false rfl (by kernel_rfl) (by kernel_rfl) (by kernel_rfl) (fun v w h => h) fun a w3 L0 hr T => ?_
          have h1 : a.eval (.tmp 75) = .pointer (some ⟨d, oof + k * 6, none⟩) := T.at_ 58 75 (by kernel_rfl) (by kernel_rfl) (by kernel_rfl)
          exact ⟨.pointer (some ⟨d, oof + k * 6 + 5, none⟩), w3, by simp only [execOp, h1]; simp [go_sem], PI.Post.pure ⟨fun w => Below.refl _ w, fun _ _ _ h k => h.trans k⟩ rfl trivial⟩
        · obtain rfl := Option.some.inj (show some _ = some o from ho)
          refine PI.shown_val_if 50 67 false rfl (by kernel_rfl) (by kernel_rfl) (by kernel_rfl) (fun v w h => h) fun a w3 L0 hr T => ?_
          have h1 : a.eval (.tmp 76) = .pointer (some ⟨d, oof + k * 6 + 5, none⟩) := T.at_ 59 76 (by kernel_rfl) (by kernel_rfl) (by kernel_rfl)
          have v5 := (hr.cell (p := ⟨d, oof + k * 6 + 5, none⟩) hdW).trans y5.out
          exact ⟨.slice hA q hc, w3, by simp only [execOp, h1]; simp [go_sem, v5], PI.Post.pure ⟨fun w => Below.refl _ w, fun _ _ _ h k => h.trans k⟩ rfl trivial⟩
        · obtain rfl := Option.some.inj (show some _ = some o from ho)
          refine PI.shown_call_if 50 67 false rfl (by kernel_rfl) (by kernel_rfl) (by kernel_rfl) (fun v w h => h) 43 fun a w3 L0 hr T => ?_
          have h1 : a.eval (.tmp 72) = .slice eA q ec := T.at_ 55 72 (by kernel_rfl) (by kernel_rfl) (by kernel_rfl)
          have h2 : a.eval (.tmp 77) = .slice hA q hc := T.at_ 60 77 (by kernel_rfl) (by kernel_rfl) (by kernel_rfl)
          refine ⟨#[.slice eA q ec, .slice hA q hc], by simp only [execOp, resolve, List.map_toArray, List.map_cons, List.map_nil, h1, h2]; simp [go_sem, Act.eval], ?_⟩
          refine (HSS.out w3 hr).mono fun e w4 hh => ?_
          obtain ⟨rfl, hb4⟩ := hh
          exact ⟨_, rfl, hb4.mono hr.size, rfl, fun _ _ h => h, fun j v _ _ _ _ h => h.keep, trivial⟩
        · obtain rfl := Option.some.inj (show some _ = some o from ho)
          refine PI.shown_val_if 50 67 false rfl (by kernel_rfl) (by kernel_rfl) (by kernel_rfl) (fun v w h => h) fun a w3 L0 hr T => ?_
          have h1 : a.eval (.tmp 78) = .bool true := T.at_ 61 78 (by kernel_rfl) (by kernel_rfl) (by kernel_rfl)
          exact ⟨.bool false, w3, by simp only [execOp, h1]; simp [go_sem], PI.Post.pure ⟨fun w => Below.refl _ w, fun _ _ _ h k => h.trans k⟩ rfl trivial⟩
        · obtain rfl := Option.some.inj (show some _ = some o from ho)
          refine PI.shown_val rfl fun a w3 L0 hr T => ?_
          have h1 : a.eval (.tmp 67) = .bool false := T.at_ 50 67 (by kernel_rfl) (by kernel_rfl) (by kernel_rfl)
          have h2 : a.eval (.tmp 79) = .bool false := T.at_ 62 79 (by kernel_rfl) (by kernel_rfl) (by kernel_rfl)
          exact ⟨.bool false, w3, by simp only [execOp, h1, h2]; simp [go_sem, Act.eval], PI.Post.pure ⟨fun w => Below.refl _ w, fun _ _ _ h k => h.trans k⟩ rfl trivial⟩
        · cases ho
      · rw [← hW]
        intro x w9 hr hf he _
        have h63 := hf 63 _ 80 rfl rfl (by decide)
        have hx63 : x 63 = .bool false := h63
        have HB9 := Lib.hid (HBW.out.trans (hr.mono HBW.out.size))
        clear hf he hr h63
        simp only [PI.putAll, Act.put, List.setIfInBounds_toArray, List.set_cons_zero, List.set_cons_succ]
        rw [hx63]
        go_wp2_with fail
        go_roundw
        case rel => exact ⟨k + 1, by go_num, by omega, HB9⟩
        case measure => simp [intOf]; omega
    · obtain rfl : k = n := by omega
      go_wp2_with fail
      go_ret
      exact ⟨rfl, HB.out⟩
end Go.Proofs.Ytenioeppmgmdiaa
