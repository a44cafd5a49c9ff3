/- buffer.Put, Count; chapter 16's example. -/
import Derived.Test.YtenioeppmgmdiaaPw
import Derived.Test.YtenioeppmgmdiaaBs
namespace Go.Proofs.Ytenioeppmgmdiaa
open Go.RowKit
set_option linter.unusedVariables false
set_option linter.unusedSimpArgs false
set_option maxRecDepth 100000

def PbF (A : Option Addr) (n c : Nat) (x0 x1 x2 x3 : Int) (x4 x5 : ByteArray) (x6 x7 : Int) (x8 : Bool) (xA : Option Addr) (m xc : Nat) (now : Int) (sure : Bool) (L L2 : List Ep) (base : Nat) : Nat → Value → World → Prop
  | 0, v, _ => v = .slice A n c
  | 1, v, w => ∃ l', OwnEps w base v l' ∧ l'.map Le.ep = L
  | 2, v, _ => v = .agg #[.int .u64 x0, .int .u64 x1, .int .u64 x2, .int .u64 x3, .string x4, .string x5, .int .i64 x6, .int .i64 x7, .bool x8, .slice xA m xc]
  | 3, v, _ => v = .int .i64 now
  | 4, v, _ => v = .bool sure
  | 5, v, w => ∃ l', OwnEps w base v l' ∧ l'.map Le.ep = L2
  | 6, v, w => ∃ l', OwnEps w base v l' ∧ l'.map Le.ep = L2
  | _, _, _ => True
theorem PbF.keep {A : Option Addr} {n c : Nat} {x0 x1 x2 x3 : Int} {x4 x5 : ByteArray} {x6 x7 : Int} {x8 : Bool} {xA : Option Addr} {m xc : Nat} {now : Int} {sure : Bool} {L L2 : List Ep} {base : Nat} {w w' : World} {i : Nat} {v : Value} (h : PbF A n c x0 x1 x2 x3 x4 x5 x6 x7 x8 xA m xc now sure L L2 base i v w) (hb : Below w.heap.size w w') : PbF A n c x0 x1 x2 x3 x4 x5 x6 x7 x8 xA m xc now sure L L2 base i v w' := by
  match i, h with
  | 0, h => exact h
  | 1, h => obtain ⟨l', h1, h2⟩ := h; exact ⟨l', h1.below hb, h2⟩
  | 2, h => exact h
  | 3, h => exact h
  | 4, h => exact h
  | 5, h => obtain ⟨l', h1, h2⟩ := h; exact ⟨l', h1.below hb, h2⟩
  | 6, h => obtain ⟨l', h1, h2⟩ := h; exact ⟨l', h1.below hb, h2⟩
  | _ + 7, _ => trivial
theorem ModE.same {l m : List Le} (h : l.map Le.ep = m.map Le.ep) (hm : ModE m) : ModE l := by
  have hl := congrArg List.length h
  simp only [List.length_map] at hl
  refine ⟨by rw [hl]; exact hm.1, fun e he => ?_⟩
  obtain ⟨k, hk, hke⟩ := List.getElem_of_mem he
  have h2 : l[k]? = some e := by rw [List.getElem?_eq_getElem hk, hke]
  have h3 := congrArg (fun z => z[k]?) h
  simp only [List.getElem?_map, h2, Option.map_some] at h3
  obtain ⟨e2, he2⟩ : ∃ e2, m[k]? = some e2 := ⟨_, List.getElem?_eq_getElem (by omega)⟩
  rw [he2, Option.map_some, Option.some.injEq] at h3
  have h4 : e.l.map Ls.s = e2.l.map Ls.s := congrArg Ep.l h3
  obtain ⟨g1, g2⟩ := hm.2 e2 (List.mem_of_getElem? he2)
  have h5 := congrArg List.length h4
  simp only [List.length_map] at h5
  refine ⟨by omega, fun x hx => ?_⟩
  obtain ⟨j, hj, hjx⟩ := List.getElem_of_mem hx
  have h6 : e.l[j]? = some x := by rw [List.getElem?_eq_getElem hj, hjx]
  have h7 := congrArg (fun z => z[j]?) h4
  simp only [List.getElem?_map, h6, Option.map_some] at h7
  obtain ⟨y, hy⟩ : ∃ y, e2.l[j]? = some y := ⟨_, List.getElem?_eq_getElem (by omega)⟩
  rw [hy, Option.map_some, Option.some.injEq] at h7
  rw [h7]
  exact g2 y (List.mem_of_getElem? hy)
set_option maxHeartbeats 16000000 in
theorem put_any (A : Option Addr) (l : List Le) (n c : Nat) (x0 x1 x2 x3 : Int) (x4 x5 : ByteArray) (x6 x7 : Int) (x8 : Bool) (ats : List (ByteArray × ByteArray)) (xA : Option Addr) (m xc : Nat) (now : Int) (sure : Bool) (B : Nat) (w : World)
    (hn : n = l.length) (hy : RdEps w B A l) (hB : B ≤ w.heap.size) (hm : m = ats.length) (hx : RdL w B ⟨⟨x0, x1, x2, x3, x4, x5, x6, x7, x8, ats⟩, xA, xc⟩) (hg : ModE l) (hml : m ≤ 100000) :
    Calls Try.prog 27 #[.slice A n c, .agg #[.int .u64 x0, .int .u64 x1, .int .u64 x2, .int .u64 x3, .string x4, .string x5, .int .i64 x6, .int .i64 x7, .bool x8, .slice xA m xc], .int .i64 now, .bool sure] w (PutOf (putE (l.map Le.ep) ⟨x0, x1, x2, x3, x4, x5, x6, x7, x8, ats⟩ now sure) w.heap.size w) := by
  obtain ⟨W, hW⟩ : ∃ W, W = (w.alloc (.cells #[.int .u64 x0, .int .u64 x1, .int .u64 x2, .int .u64 x3, .string x4, .string x5, .int .i64 x6, .int .i64 x7, .bool x8, .slice xA m xc] 42)).drew := ⟨_, rfl⟩
  have hWz : W.heap.size = w.heap.size + 1 := by rw [hW]; show (w.alloc _).heap.size = _; simp
  have hWb : Below w.heap.size w W := by rw [hW]; exact ((Below.refl _ _).alloc (Nat.le_refl _) _).trans ⟨rfl, rfl, rfl, Nat.le_refl _, fun _ _ => rfl⟩
  have HBW := Lib.hid hWb
  have HZW := Lib.hid hWz
  have HXW : Hid (W.heap[w.heap.size]? = some (.cells #[.int .u64 x0, .int .u64 x1, .int .u64 x2, .int .u64 x3, .string x4, .string x5, .int .i64 x6, .int .i64 x7, .bool x8, .slice xA m xc] 42)) := Lib.hid (by rw [hW]; exact heap_alloc_new w _)
  have HCS : Hid (∀ W3, Below W.heap.size W W3 → Calls Try.prog 39 #[.slice A n c] W3 (CopiesE (l.map Le.ep) W3)) := Lib.hid (fun W3 h3 => ecopies_any A l n c B W3 hn ((hy.below (hWb.mono hB)).below (h3.mono (Nat.le_trans hB hWb.size))) (Nat.le_trans hB (Nat.le_trans hWb.size h3.size)) hg)
  have HXR : Hid (∀ W3, Below W.heap.size W W3 → RdL W3 W.heap.size ⟨⟨x0, x1, x2, x3, x4, x5, x6, x7, x8, ats⟩, xA, xc⟩) := Lib.hid (fun W3 h3 => (((hx.below (hWb.mono hB)).below (h3.mono (Nat.le_trans hB hWb.size))).more (Nat.le_trans hB hWb.size)))
  have HG := Lib.hid hg
  have HM := Lib.hid hm
  clear hn hy hx hm hg hWb hWz
  generalize hL : l.map Le.ep = L at *
  have HL := Lib.hid hL
  clear hL
  go_enter Try.func27, Try.ntmps27
  go_wp2_with fail
  refine PI.wp_region_persG (R := Below W.heap.size) (G := fun _ _ => True) (I := fun _ _ _ => True) [(1, 0), (5, 1), (5, 2), (5, 3), (5, 4), (6, 5)] [6] (by kernel_rfl) (PI.formed_of (by kernel_rfl)) ⟨fun w => Below.refl _ w, fun _ _ _ h k => h.trans k⟩ (fun _ => trivial) (PbF A n c x0 x1 x2 x3 x4 x5 x6 x7 x8 xA m xc now sure L (putE L ⟨x0, x1, x2, x3, x4, x5, x6, x7, x8, ats⟩ now sure) W.heap.size) trivial ?_ ?_
  · rw [← hW]
    intro i o ho
    rcases i with _ | _ | _ | _ | _ | _ | _ | i
    · obtain rfl := Option.some.inj (show some _ = some o from ho)
      refine PI.shown_val rfl fun a w3 L0 hr T => ?_
      have h1 : a.eval (.tmp 0) = .slice A n c := T.was 0 (by kernel_rfl)
      exact ⟨.slice A n c, w3, by simp only [execOp, h1]; simp [go_sem], PI.Post.pure ⟨fun w => Below.refl _ w, fun _ _ _ h k => h.trans k⟩ rfl trivial⟩
    · obtain rfl := Option.some.inj (show some _ = some o from ho)
      refine PI.shown_call rfl 39 fun a w3 L0 hr T => ?_
      have h1 : a.eval (.tmp 9) = .slice A n c := T.at_ 0 9 (by kernel_rfl) (by kernel_rfl) (by kernel_rfl)
      refine ⟨#[.slice A n c], by simp only [execOp, resolve, List.map_toArray, List.map_cons, List.map_nil, h1]; simp [go_sem, Act.eval], ?_⟩
      refine (HCS.out w3 hr).mono fun e w4 hh => ?_
      obtain ⟨v4, l4, rfl, ho4, hm4, hb4⟩ := hh
      exact ⟨_, rfl, hb4.mono hr.size, ⟨l4, ho4.mono hr.size, hm4⟩, fun _ _ h => h, fun j v _ _ _ _ h => h.keep hb4, trivial⟩
    · obtain rfl := Option.some.inj (show some _ = some o from ho)
      refine PI.shown_val rfl fun a w3 L0 hr T => ?_
      have h1 : a.eval (.tmp 5) = .pointer (some ⟨w.heap.size, 0, none⟩) := T.was 5 (by kernel_rfl)
      have hO := (hr.block _ (by rw [HZW.out]; omega)).trans HXW.out
      have v0 : w3.cell? ⟨w.heap.size, 0, none⟩ = some (.int .u64 x0) := cell_of_row _ _ 0 _ _ (0, 0) hO
      have v1 : w3.cell? ⟨w.heap.size, 1, none⟩ = some (.int .u64 x1) := cell_of_row _ _ 1 _ _ (0, 0) hO
      have v2 : w3.cell? ⟨w.heap.size, 2, none⟩ = some (.int .u64 x2) := cell_of_row _ _ 2 _ _ (0, 0) hO
      have v3 : w3.cell? ⟨w.heap.size, 3, none⟩ = some (.int .u64 x3) := cell_of_row _ _ 3 _ _ (0, 0) hO
      have v4 : w3.cell? ⟨w.heap.size, 4, none⟩ = some (.string x4) := cell_of_row _ _ 4 _ _ (0, 0) hO
      have v5 : w3.cell? ⟨w.heap.size, 5, none⟩ = some (.string x5) := cell_of_row _ _ 5 _ _ (0, 0) hO
      have v6 : w3.cell? ⟨w.heap.size, 6, none⟩ = some (.int .i64 x6) := cell_of_row _ _ 6 _ _ (0, 0) hO
      have v7 : w3.cell? ⟨w.heap.size, 7, none⟩ = some (.int .i64 x7) := cell_of_row _ _ 7 _ _ (0, 0) hO
      have v8 : w3.cell? ⟨w.heap.size, 8, none⟩ = some (.bool x8) := cell_of_row _ _ 8 _ _ (0, 0) hO
      have v9 : w3.cell? ⟨w.heap.size, 9, none⟩ = some (.slice xA m xc) := cell_of_row _ _ 9 _ _ (0, 0) hO
      exact ⟨.agg #[.int .u64 x0, .int .u64 x1, .int .u64 x2, .int .u64 x3, .string x4, .string x5, .int .i64 x6, .int .i64 x7, .bool x8, .slice xA m xc], w3, by simp only [execOp, h1]; simp [go_sem, v0, v1, v2, v3, v4, v5, v6, v7, v8, v9], PI.Post.pure ⟨fun w => Below.refl _ w, fun _ _ _ h k => h.trans k⟩ rfl trivial⟩
    · obtain rfl := Option.some.inj (show some _ = some o from ho)
      refine PI.shown_val rfl fun a w3 L0 hr T => ?_
      have h1 : a.eval (.tmp 2) = .int .i64 now := T.was 2 (by kernel_rfl)
      exact ⟨.int .i64 now, w3, by simp only [execOp, h1]; simp [go_sem], PI.Post.pure ⟨fun w => Below.refl _ w, fun _ _ _ h k => h.trans k⟩ rfl trivial⟩
    · obtain rfl := Option.some.inj (show some _ = some o from ho)
      refine PI.shown_val rfl fun a w3 L0 hr T => ?_
      have h1 : a.eval (.tmp 3) = .bool sure := T.was 3 (by kernel_rfl)
      exact ⟨.bool sure, w3, by simp only [execOp, h1]; simp [go_sem], PI.Post.pure ⟨fun w => Below.refl _ w, fun _ _ _ h k => h.trans k⟩ rfl trivial⟩
    · obtain rfl := Option.some.inj (show some _ = some o from ho)
      refine PI.shown_call rfl 44 fun a w3 L0 hr T => ?_
      obtain ⟨l4, ho4, hm4⟩ : ∃ l', OwnEps w3 W.heap.size (a.eval (.tmp 10)) l' ∧ l'.map Le.ep = L := T.at_ 1 10 (by kernel_rfl) (by kernel_rfl) (by kernel_rfl)
      have h2 : a.eval (.tmp 11) = .agg #[.int .u64 x0, .int .u64 x1, .int .u64 x2, .int .u64 x3, .string x4, .string x5, .int .i64 x6, .int .i64 x7, .bool x8, .slice xA m xc] := T.at_ 2 11 (by kernel_rfl) (by kernel_rfl) (by kernel_rfl)
      have h3 : a.eval (.tmp 12) = .int .i64 now := T.at_ 3 12 (by kernel_rfl) (by kernel_rfl) (by kernel_rfl)
      have h4 : a.eval (.tmp 13) = .bool sure := T.at_ 4 13 (by kernel_rfl) (by kernel_rfl) (by kernel_rfl)
      obtain ⟨A4, c4, h1, _, _⟩ := ho4.rd
      rw [h1] at ho4
      have hL1 : L0 1 = true := T.done _ (Array.mem_of_getElem? (i := 0) rfl) rfl
      refine ⟨#[.slice A4 l4.length c4, .agg #[.int .u64 x0, .int .u64 x1, .int .u64 x2, .int .u64 x3, .string x4, .string x5, .int .i64 x6, .int .i64 x7, .bool x8, .slice xA m xc], .int .i64 now, .bool sure], by simp only [execOp, resolve, List.map_toArray, List.map_cons, List.map_nil, h1, h2, h3, h4]; simp [go_sem, Act.eval], ?_⟩
      refine (putown_any A4 l4 l4.length c4 x0 x1 x2 x3 x4 x5 x6 x7 x8 ats xA m xc now sure W.heap.size w3 rfl ho4 hr.size HM.out (HXR.out w3 hr) (ModE.same (hm4.trans HL.out.symm) HG.out) hml).mono fun e w4 hh => ?_
      obtain ⟨v5, l5, rfl, ho5, hm5, hb5⟩ := hh
      rw [hm4] at hm5
      refine ⟨_, rfl, hb5, ⟨l5, ho5, hm5⟩, fun _ _ h => h, fun j v hj hlj hnd hvj h => ?_, trivial⟩
      match j, h, hnd, hj, hlj with
      | 0, h, _, _, _ => exact h
      | 1, _, hnd, _, _ => simp [PI.needB] at hnd
      | 2, h, _, _, _ => exact h
      | 3, h, _, _, _ => exact h
      | 4, h, _, _, _ => exact h
      | 5, _, _, hj, _ => exact absurd rfl hj
      | 6, _, _, _, hlj =>
        have h6 : L0 6 = false := T.wait 6 _ rfl ⟨_, Array.mem_of_getElem? (i := 0) rfl, rfl, rfl⟩
        rw [h6] at hlj; cases hlj
      | _ + 7, _, _, _, _ => trivial
    · obtain rfl := Option.some.inj (show some _ = some o from ho)
      refine PI.shown_val rfl fun a w3 L0 hr T => ?_
      have h1 : ∃ l', OwnEps w3 W.heap.size (a.eval (.tmp 14)) l' ∧ l'.map Le.ep = putE L ⟨x0, x1, x2, x3, x4, x5, x6, x7, x8, ats⟩ now sure := T.at_ 5 14 (by kernel_rfl) (by kernel_rfl) (by kernel_rfl)
      exact ⟨a.eval (.tmp 14), w3, by simp only [execOp]; simp [go_sem], PI.Post.pure ⟨fun w => Below.refl _ w, fun _ _ _ h k => h.trans k⟩ h1 trivial⟩
    · cases ho
  · rw [← hW]
    intro x w9 hr hf he _
    obtain ⟨l6, ho6, hm6⟩ : ∃ l', OwnEps w9 W.heap.size (x 6) l' ∧ l'.map Le.ep = putE L ⟨x0, x1, x2, x3, x4, x5, x6, x7, x8, ats⟩ now sure := hf 6 _ 8 rfl rfl (by decide)
    have HB9 := Lib.hid (HBW.out.trans (hr.mono HBW.out.size))
    have HO6 := Lib.hid (ho6.mono (show w.heap.size ≤ W.heap.size by rw [HZW.out]; omega))
    have HM6 := Lib.hid hm6
    clear hf he hr ho6 hm6
    simp only [PI.putAll, Act.put, List.setIfInBounds_toArray, List.set_cons_zero, List.set_cons_succ]
    generalize x 6 = v6 at *
    go_wp2_with fail
    go_ret
    exact ⟨v6, l6, rfl, HO6.out, HM6.out, HB9.out⟩
def cntE (l : List Le) : Nat := (l.map fun e => e.l.length).sum
theorem cntE_step (l : List Le) (k : Nat) (e : Le) (h : l[k]? = some e) : cntE (l.take (k + 1)) = cntE (l.take k) + e.l.length := by
  unfold cntE
  rw [List.take_add_one, h]
  simp
theorem cntE_le (l : List Le) (h : ∀ e ∈ l, e.l.length ≤ 90000) : cntE l ≤ 90000 * l.length := by
  induction l with
  | nil => simp [cntE]
  | cons e r ih =>
    have h1 := ih (fun x hx => h x (List.mem_cons_of_mem _ hx))
    have h2 := h e (List.mem_cons_self ..)
    simp only [cntE, List.map_cons, List.sum_cons, List.length_cons] at h1 ⊢
    omega
set_option maxHeartbeats 8000000 in
theorem count_any (A : Option Addr) (l : List Le) (n c B : Nat) (w : World) (hn : n = l.length) (hy : RdEps w B A l) (hB : B ≤ w.heap.size) (hg : ModE l) :
    Calls Try.prog 24 #[.slice A n c] w fun e w' => e = .returned (.int .i64 (cntE l : Int)) ∧ Below w.heap.size w w' := by
  have HN := Lib.hid hn
  have HY := Lib.hid hy
  obtain ⟨hgl, hge⟩ := hg
  have hn1 : n ≤ 100000 := by omega
  have HCL : Hid (∀ k, k ≤ n → cntE (l.take k) ≤ 90000 * n) := Lib.hid (fun k hk => by
    have h := cntE_le (l.take k) (fun e he => (hge e (List.mem_of_mem_take he)).1)
    rw [List.length_take] at h
    exact Nat.le_trans h (Nat.mul_le_mul_left _ (by omega)))
  have HGE : Hid (∀ e ∈ l, e.l.length ≤ 90000) := Lib.hid (fun e he => (hge e he).1)
  clear hn hy hgl hge
  go_enter Try.func24, Try.ntmps24
  go_wp2_with fail
  go_loopw [8, 3] (fun i v wr => ∃ k t : Nat, i = .int .i64 k ∧ v = .int .i64 t ∧ k ≤ n ∧ t ≤ 90000 * n ∧ Hid (t = cntE (l.take k)) ∧ Hid (Below w.heap.size w wr)) (fun i _ _ => n - (intOf i).toNat)
  case atStart => exact ⟨0, 0, rfl, rfl, by omega, by omega, Lib.hid (by simp [cntE]), Lib.hid (Below.refl _ _)⟩
  case round =>
    obtain ⟨k, t, rfl, rfl, hk, ht, HT, HB⟩ := hrel
    by_cases hlt : k < n
    · obtain ⟨e, he⟩ : ∃ e, l[k]? = some e := ⟨_, List.getElem?_eq_getElem (by rw [← HN.out]; exact hlt)⟩
      have hql := HGE.out e (List.mem_of_getElem? he)
      obtain ⟨th, tl, f, la, su, ls, eA, ec⟩ := e
      obtain ⟨q, hq⟩ : ∃ q, q = ls.length := ⟨_, rfl⟩
      simp only at hql
      rw [← hq] at hql
      obtain ⟨a, ha, hab, c0, c1, c2, c3, c4, c5, _⟩ := epcells (HY.out.below (HB.out.mono hB)) he q hq
      subst ha
      have hst := cntE_step l k _ he
      simp only at hst
      rw [← hq] at hst
      have hcl := HCL.out (k + 1) (by omega)
      rw [hst, ← HT.out] at hcl
      have HST : Hid (t + q = cntE (l.take (k + 1))) := Lib.hid (by rw [hst, HT.out])
      have HB1 := Lib.hid (HB.out.alloc HB.out.size (.cells #[.int .u64 th, .int .u64 tl, .int .i64 f, .int .i64 la, .bool su, .slice eA q ec] 30))
      clear he hq hst
      go_wp2_with fail
      go_roundw
      case rel => exact ⟨k + 1, t + q, by go_num, by go_num, by omega, hcl, HST, HB1⟩
      case measure => simp [intOf]; omega
    · obtain rfl : k = n := by omega
      have HF : Hid (t = cntE l) := Lib.hid (by have := HT.out; rwa [List.take_of_length_le (by rw [← HN.out]; exact Nat.le_refl _)] at this)
      go_wp2_with fail
      go_ret
      exact ⟨by rw [← HF.out] <;> rfl, HB.out⟩
end Go.Proofs.Ytenioeppmgmdiaa
