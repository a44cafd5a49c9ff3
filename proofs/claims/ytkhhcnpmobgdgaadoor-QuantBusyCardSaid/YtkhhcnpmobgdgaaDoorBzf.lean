/- The document's Busy: what stands ahead, and the sort by exchanges, plainly. -/
import Derived.Test.YtkhhcnpmobgdgaaDoorBzd
namespace Go.Proofs.YtkhhcnpmobgdgaaDoor
open Go.RowKit
set_option linter.unusedVariables false
set_option linter.unusedSimpArgs false
set_option maxRecDepth 100000

theorem less_cmpz : ∀ (a b : List UInt8), Op.bytesLess a b = decide (Lib.compareBytes a b < 0)
  | [], [] => rfl
  | [], _ :: _ => rfl
  | _ :: _, [] => rfl
  | x :: a, y :: b => by
    have ih := less_cmpz a b
    unfold Op.bytesLess Lib.compareBytes
    by_cases h1 : x < y
    · simp [h1]
    · by_cases h2 : y < x
      · have h3 : x ≠ y := fun h => by subst h; exact absurd h2 (UInt8.lt_irrefl _)
        simp [h1, h2, h3]
      · have h3 : x = y := UInt8.le_antisymm (UInt8.not_lt.1 h2) (UInt8.not_lt.1 h1)
        subst h3
        simp [h1, ih]
theorem toLz (s : ByteArray) : s.toList = s.data.toList := by
  obtain ⟨⟨l⟩⟩ := s
  exact ByteArray.toList_mk l
theorem less_Tz (a b : ByteArray) : Op.bytesLess a.toList b.toList = decide (cmpT a b < 0) := by rw [toLz, toLz]; exact less_cmpz _ _
theorem strz_inj {s t : ByteArray} (h : s.toList = t.toList) : s = t := by
  have e : ∀ s : ByteArray, s.toList = s.data.toList := fun s => by
    obtain ⟨⟨l⟩⟩ := s
    exact ByteArray.toList_mk l
  rw [e, e] at h
  exact ByteArray.ext (Array.toList_inj.mp h)
set_option maxHeartbeats 8000000 in
theorem busier_lit (asv aop : ByteArray) (act aer : Int) (bsv bop : ByteArray) (bct ber : Int) (w : World) : Calls Tryd.prog 49 #[.agg #[.string asv, .string aop, .int .i64 act, .int .i64 aer], .agg #[.string bsv, .string bop, .int .i64 bct, .int .i64 ber]] w fun e w' => e = .returned (.bool (decide (ordB ⟨asv, aop, act, aer⟩ ⟨bsv, bop, bct, ber⟩ < 0))) ∧ Below w.heap.size w w' := by
  have HB := Lib.hid (((Below.refl w.heap.size w).alloc (Nat.le_refl _) (.cells #[.string asv, .string aop, .int .i64 act, .int .i64 aer] 61)).alloc (by simp) (.cells #[.string bsv, .string bop, .int .i64 bct, .int .i64 ber] 61))
  have HO : Hid (ordB ⟨asv, aop, act, aer⟩ ⟨bsv, bop, bct, ber⟩ = or2 (cmpI bct act) (or2 (cmpT asv bsv) (cmpT aop bop))) := rfl
  generalize ordB ⟨asv, aop, act, aer⟩ ⟨bsv, bop, bct, ber⟩ = oo at *
  by_cases c1 : act = bct
  · have z1 := (cmpI_zero bct act).2 c1.symm
    subst c1
    by_cases c3 : asv = bsv
    · have z3 := (cmpT_zero asv bsv).2 c3
      subst c3
      have HD : Hid (decide (oo < 0) = Op.bytesLess aop.toList bop.toList) := by rw [HO.out, z1, z3, less_Tz]; rfl
      clear z1 z3 HO
      go_enter Tryd.func49, Tryd.ntmps49
      go_wp2_with fail
      go_ret
      exact ⟨by rw [HD.out]; rfl, HB.out⟩
    · have z3 : ¬ cmpT asv bsv = 0 := fun h => c3 ((cmpT_zero _ _).1 h)
      have e3 : (asv.toList == bsv.toList) = false := beq_eq_false_iff_ne.2 (fun h => c3 (strz_inj h))
      have HD : Hid (decide (oo < 0) = Op.bytesLess asv.toList bsv.toList) := by rw [HO.out, z1, less_Tz]; show decide ((if cmpT asv bsv = 0 then cmpT aop bop else cmpT asv bsv) < 0) = _; rw [if_neg z3]
      clear z1 z3 c3 HO
      go_enter Tryd.func49, Tryd.ntmps49
      go_wp2_with fail
      go_ret
      exact ⟨by rw [HD.out]; rfl, HB.out⟩
  · have z1 : ¬ cmpI bct act = 0 := fun h => c1 ((cmpI_zero _ _).1 h).symm
    have e1 : (act == bct) = false := beq_eq_false_iff_ne.2 c1
    have HD : Hid (decide (oo < 0) = decide (bct < act)) := by
      rw [HO.out]
      show decide ((if cmpI bct act = 0 then or2 (cmpT asv bsv) (cmpT aop bop) else cmpI bct act) < 0) = _
      rw [if_neg z1]
      exact decide_eq_decide.2 (cmpI_lt _ _)
    clear z1 c1 HO
    go_enter Tryd.func49, Tryd.ntmps49
    go_wp2_with fail
    go_ret
    exact ⟨by rw [HD.out]; rfl, HB.out⟩
theorem busier_calls (a b : Bz) (w : World) : Calls Tryd.prog 49 #[.agg a.cells.toArray, .agg b.cells.toArray] w fun e w' => e = .returned (.bool (decide (ordB a b < 0))) ∧ Below w.heap.size w w' := by
  obtain ⟨asv, aop, act, aer⟩ := a
  obtain ⟨bsv, bop, bct, ber⟩ := b
  exact busier_lit _ _ _ _ _ _ _ _ w
/-! The sort by exchanges: the part in front of place k is ahead, x stands at k, the rest behind. -/
theorem insB_at : ∀ {S : List Bz} {x : Bz} {k : Nat}, SortB S → k ≤ S.length → (∀ q b, k ≤ q → S[q]? = some b → ordB x b < 0) → (∀ b, 0 < k → S[k - 1]? = some b → ¬ ordB x b < 0) → insB x S = S.take k ++ x :: S.drop k
  | [], x, k, _, hk, _, _ => by
    have : k = 0 := by simpa using hk
    subst this; rfl
  | b :: t, x, k, hs, hk, h1, h2 => by
    obtain ⟨p1, p2⟩ := List.pairwise_cons.1 hs
    unfold insB
    by_cases hx : ordB x b < 0
    · rw [if_pos hx]
      rcases Nat.eq_zero_or_pos k with h0 | h0
      · subst h0; rfl
      · exfalso
        rcases Nat.lt_or_ge (k - 1) (b :: t).length with hl | hl
        · obtain ⟨c, hc⟩ : ∃ c, (b :: t)[k - 1]? = some c := ⟨_, List.getElem?_eq_getElem hl⟩
          refine h2 c h0 hc ?_
          rcases List.mem_cons.1 (List.mem_of_getElem? hc) with rfl | hm
          · exact hx
          · exact ordB_trans hx (p1 c hm)
        · omega
    · rw [if_neg hx]
      rcases Nat.eq_zero_or_pos k with h0 | h0
      · subst h0
        exact absurd (h1 0 b (Nat.le_refl _) rfl) hx
      · obtain ⟨m, rfl⟩ : ∃ m, k = m + 1 := ⟨k - 1, by omega⟩
        rw [List.take_succ_cons, List.drop_succ_cons, List.cons_append]
        congr 1
        refine insB_at p2 (by simpa using hk) (fun q c hq hc => h1 (q + 1) c (by omega) (by simpa using hc)) (fun c hm hc => ?_)
        refine h2 c (by omega) ?_
        obtain ⟨m', rfl⟩ : ∃ m', m = m' + 1 := ⟨m - 1, by omega⟩
        simpa using hc
theorem own_cells4 {w : World} {base ga nq cq i : Nat} {G : List Bz} {b : Bz} (h : w.ownsRow base 61 4 (.slice (some ⟨ga, 0, none⟩) nq cq) nq (G.flatMap Bz.cells)) (hb : G[i]? = some b) :
    (w.cell? ⟨ga, i * 4, none⟩ = some (.string b.sv) ∧ w.cell? ⟨ga, i * 4 + 1, none⟩ = some (.string b.op) ∧ w.cell? ⟨ga, i * 4 + 2, none⟩ = some (.int .i64 b.ct) ∧ w.cell? ⟨ga, i * 4 + 3, none⟩ = some (.int .i64 b.er)) ∧
      w.frozen? ⟨ga, i * 4, none⟩ = false ∧ w.frozen? ⟨ga, i * 4 + 1, none⟩ = false ∧ w.frozen? ⟨ga, i * 4 + 2, none⟩ = false ∧ w.frozen? ⟨ga, i * 4 + 3, none⟩ = false := by
  have hl : G.length * 4 = nq * 4 := by rw [← flatMap_len Bz.cells 4 bzcells_len G]; exact h.1
  have hi : i < G.length := (List.getElem?_eq_some_iff.1 hb).1
  have k : ∀ j, j < 4 → w.frozen? ⟨ga, i * 4 + j, none⟩ = false ∧ w.cell? ⟨ga, i * 4 + j, none⟩ = b.cells[j]? := fun j hj => by
    have s := own_setZ h (i := i * 4 + j) (by omega) (.bool true)
    refine ⟨s.1, ?_⟩
    rw [s.2.1, flatMap_at _ 4 bzcells_len _ i j hj, hb]
    rfl
  exact ⟨⟨(k 0 (by decide)).2, (k 1 (by decide)).2, (k 2 (by decide)).2, (k 3 (by decide)).2⟩, (k 0 (by decide)).1, (k 1 (by decide)).1, (k 2 (by decide)).1, (k 3 (by decide)).1⟩
theorem set_split {α : Type} : ∀ (l : List α) (i : Nat) (x : α), i < l.length → l.set i x = l.take i ++ x :: l.drop (i + 1)
  | [], i, x, h => by simp at h
  | a :: t, 0, x, h => rfl
  | a :: t, i + 1, x, h => by
    rw [List.set_cons_succ, set_split t i x (by simpa using h)]
    rfl
/-- One exchange. -/
theorem swap_at {α : Type} (P Q : List α) (a b : α) : ((P ++ a :: b :: Q).set (P.length + 1) a).set P.length b = P ++ b :: a :: Q := by
  induction P with
  | nil => rfl
  | cons p P ih =>
    show p :: _ = p :: _
    congr 1
theorem set_bz4 (l : List Bz) (i : Nat) (b : Bz) (hi : i < l.length) : ((((l.flatMap Bz.cells).set (i * 4) (.string b.sv)).set (i * 4 + 1) (.string b.op)).set (i * 4 + 2) (.int .i64 b.ct)).set (i * 4 + 3) (.int .i64 b.er) = (l.set i b).flatMap Bz.cells := by
  apply List.ext_getElem?
  intro t
  have hlen : (l.flatMap Bz.cells).length = l.length * 4 := flatMap_len _ 4 bzcells_len l
  obtain ⟨q, r, hr, rfl⟩ : ∃ q r, r < 4 ∧ t = q * 4 + r := ⟨t / 4, t % 4, Nat.mod_lt _ (by omega), by omega⟩
  rw [flatMap_at _ 4 bzcells_len (l.set i b) q r hr]
  simp only [List.getElem?_set, List.length_set, hlen]
  by_cases hq : i = q
  · subst hq
    rw [if_pos rfl, if_pos hi]
    rcases (show r = 0 ∨ r = 1 ∨ r = 2 ∨ r = 3 by omega) with rfl | rfl | rfl | rfl
    · rw [if_neg (by omega), if_neg (by omega), if_neg (by omega), if_pos (by omega), if_pos (by omega)]; rfl
    · rw [if_neg (by omega), if_neg (by omega), if_pos (by omega), if_pos (by omega)]; rfl
    · rw [if_neg (by omega), if_pos (by omega), if_pos (by omega)]; rfl
    · rw [if_pos (by omega), if_pos (by omega)]; rfl
  · rw [if_neg (by omega), if_neg (by omega), if_neg (by omega), if_neg (by omega), if_neg hq, flatMap_at _ 4 bzcells_len l q r hr]
theorem below_drewZ {B : Nat} {a w : World} (h : Below B a w) : Below B a w.drew := ⟨h.os, h.tape, h.output, h.size, h.block⟩
theorem own_set4 {w : World} {base ga nq cq i : Nat} {G : List Bz} {b : Bz} (h : w.ownsRow base 61 4 (.slice (some ⟨ga, 0, none⟩) nq cq) nq (G.flatMap Bz.cells)) (hi : i < nq) :
    ((((w.setCell ⟨ga, i * 4, none⟩ (.string b.sv)).setCell ⟨ga, i * 4 + 1, none⟩ (.string b.op)).setCell ⟨ga, i * 4 + 2, none⟩ (.int .i64 b.ct)).setCell ⟨ga, i * 4 + 3, none⟩ (.int .i64 b.er)).ownsRow base 61 4 (.slice (some ⟨ga, 0, none⟩) nq cq) nq ((G.set i b).flatMap Bz.cells) := by
  have hl : G.length * 4 = nq * 4 := by rw [← flatMap_len Bz.cells 4 bzcells_len G]; exact h.1
  have h0 := (own_setZ h (i := i * 4) (by omega) (.string b.sv)).2.2
  have h1 := (own_setZ h0 (i := i * 4 + 1) (by omega) (.string b.op)).2.2
  have h2 := (own_setZ h1 (i := i * 4 + 2) (by omega) (.int .i64 b.ct)).2.2
  have h3 := (own_setZ h2 (i := i * 4 + 3) (by omega) (.int .i64 b.er)).2.2
  rwa [set_bz4 G i b (by omega)] at h3
theorem below_set4 {w a : World} {base ga i : Nat} {c0 c1 c2 c3 : Value} (h : Below base a w) (hg : base ≤ ga) : Below base a ((((w.setCell ⟨ga, i * 4, none⟩ c0).setCell ⟨ga, i * 4 + 1, none⟩ c1).setCell ⟨ga, i * 4 + 2, none⟩ c2).setCell ⟨ga, i * 4 + 3, none⟩ c3) :=
  (((h.setCell (p := ⟨ga, i * 4, none⟩) hg c0).setCell (p := ⟨ga, i * 4 + 1, none⟩) hg c1).setCell (p := ⟨ga, i * 4 + 2, none⟩) hg c2).setCell (p := ⟨ga, i * 4 + 3, none⟩) hg c3
end Go.Proofs.YtkhhcnpmobgdgaaDoor
