/- What quant.Busy leans on: a map keyed by a name, a row of one's own of the busiest. -/
import Derived.Test.YtkhhcnpmobgdgaaDoorBzc
import Derived.Maps.Own
import Derived.Maps.OwnOps
import Derived.Maps.OwnSet
import Derived.Maps.Views
import Derived.DeepKeys4
namespace Go.Proofs.YtkhhcnpmobgdgaaDoor
open Go.RowKit Go.Maps
set_option linter.unusedVariables false
set_option linter.unusedSimpArgs false
set_option maxRecDepth 100000

theorem zeroI' (w : World) : (zeroValue 3).run Tryd.prog w = .ok (.int .i64 0) w := by kernel_rfl
theorem wfI {t : Int} (h : -9223372036854775808 ≤ t ∧ t ≤ 9223372036854775807) : (Lit.int .i64 t).wf = true := WalkArith.wf_i64 (by omega)
def Bk2.ok (k : Bk2) : Prop := k.1.size ≤ maxLen ∧ k.2.size ≤ maxLen
def bkV (k : Bk2) : Value := .agg #[.string k.1, .string k.2]
def bkL (k : Bk2) : Lit := .string (keyBytes [.string k.1.data.toList, .string k.2.data.toList])
theorem bk_row : (76 : TypeId) < Tryd.prog.types.size := of_decide_eq_true (by kernel_rfl)
theorem bk_laid : laidOutB Tryd.prog = true := by kernel_rfl
theorem bk_wide : (match Tryd.prog.underlying 76 with | some (.array _ _) | some (.struct _) => true | _ => false) = true := by rw [Tryd.underlying76]
theorem bk_keyed : Keyed Tryd.prog 76 := Keyed.of_law (deep_law_laid bk_laid (m := 3) (by omega) bk_row (by kernel_rfl) bk_wide)
theorem bk_cells : Tryd.prog.cellsOf 76 = 2 := by kernel_rfl
theorem bk_cellsS : Tryd.prog.cellsOf 9 = 1 := by kernel_rfl
theorem bk_lits (d : Nat) (x y : ByteArray) (h1 : x.size ≤ maxLen) (h2 : y.size ≤ maxLen) : Tryd.prog.keyLits (d + 3) 76 [.string x, .string y] = some [.string x.data.toList, .string y.data.toList] := by
  simp [Program.keyLits, Tryd.underlying76, Tryd.underlying9, bk_cells, bk_cellsS, h1, h2]
  try rw [if_pos (by intro i hi; rcases (show i = 0 ∨ i = 1 by omega) with rfl | rfl <;> simp)]
  try rfl
theorem bk_keyOf {k : Bk2} (h : Bk2.ok k) : keyOf Tryd.prog 76 (bkV k) = some (bkL k) := by
  obtain ⟨d, hd⟩ : ∃ d, Tryd.prog.types.size + 1 = d + 3 := ⟨Tryd.prog.types.size - 2, by have h : (76 : Nat) < Tryd.prog.types.size := bk_row; omega⟩
  have hk : Tryd.prog.keyType 76 = true := by kernel_rfl
  have hf : (bkV k).formed Tryd.prog 76 = true := by simp [bkV, Value.formed, Tryd.underlying76, bk_cells]
  unfold keyOf
  rw [Tryd.underlying76]
  simp only [hk, hf, Bool.and_self, if_true, hd]
  show (Tryd.prog.keyLits (d + 3) 76 [.string k.1, .string k.2]).map _ = _
  rw [bk_lits d _ _ h.1 h.2]
  rfl
theorem bkL_inj {k u : Bk2} (hk : Bk2.ok k) (hu : Bk2.ok u) (h : bkL k = bkL u) : k = u := by
  have h1 := bk_keyOf hk
  rw [h] at h1
  have h2 := bk_keyed.inj h1 (bk_keyOf hu)
  obtain ⟨a, b⟩ := k
  obtain ⟨a', b'⟩ := u
  simp [bkV] at h2
  obtain ⟨rfl, rfl⟩ := h2
  rfl
/-- The map of one's own at b, of n entries, holds f of every name. -/
def MapBz (w : World) (b n : Nat) (f : Bk2 → Option Nat) : Prop :=
  ∃ D : DataW Unit, w.ownsMap Tryd.prog 76 (plainElem Tryd.prog 3) b n D ∧ IsMap D ∧ ∀ t : Bk2, Bk2.ok t → has D (bkL t) = (f t).isSome ∧ ∀ p, f t = some p → D.atKey (bkL t) (.lit (.int .i64 0)) = .lit (.int .i64 (p : Int))
theorem MapBz.made (w : World) : MapBz (w.alloc (.map #[] 0)) w.heap.size 0 (fun _ => none) := ⟨.map [], World.ownsMap_made _ _ _ _, isMap_empty, fun t _ => ⟨rfl, fun p h => by cases h⟩⟩
theorem MapBz.block {w w' : World} {b n : Nat} {f : Bk2 → Option Nat} (h : MapBz w b n f) (he : w'.heap[b]? = w.heap[b]?) : MapBz w' b n f := by
  obtain ⟨D, ⟨es, clock, h1, h2⟩, h3⟩ := h
  exact ⟨D, ⟨es, clock, he.trans h1, h2⟩, h3⟩
theorem MapBz.lt {w : World} {b n : Nat} {f : Bk2 → Option Nat} (h : MapBz w b n f) : b < w.heap.size := by
  obtain ⟨D, ⟨es, clock, h1, h2⟩, h3⟩ := h
  rcases Nat.lt_or_ge b w.heap.size with h | h
  · exact h
  · rw [Array.getElem?_eq_none h] at h1; cases h1
theorem wpList_bz {w : World} {ops : Array Oper} {rest : List Oper} {o : Oper} {a : Act} {Q : Exit → Act → World → Prop} {b n : Nat} {f : Bk2 → Option Nat} {t : Bk2} (h : MapBz w b n f) (ht : Bk2.ok t)
    (hg : o.guard = none) (m x : Operand) (hop : o.op = Op.lookup 74 m x true) (hm : a.eval m = .map (some b)) (hx : a.eval x = bkV t)
    (hK : ∀ c : Int, (∀ p, f t = some p → c = (p : Int)) → wpList Tryd.prog ops Q rest (a.put o.dst (.tuple #[.int .i64 c, .bool (f t).isSome])) w) : wpList Tryd.prog ops Q (o :: rest) a w := by
  obtain ⟨D, h1, h2, h3⟩ := h
  refine wpList_lookup_own_ok_int w hg m x 74 hop 76 3 .i64 bk_keyed Tryd.underlying74 Tryd.underlying3 (zeroI' w) b n D hm h1 _ (bkL t) hx (bk_keyOf ht) fun c hat hwc => ?_
  rw [(h3 t ht).1]
  refine hK c fun p hp => ?_
  rw [(h3 t ht).2 p hp] at hat
  injection hat with hat
  injection hat with _ hat
  exact hat.symm
theorem wpList_bz_put {w : World} {ops : Array Oper} {rest : List Oper} {o : Oper} {a : Act} {Q : Exit → Act → World → Prop} {b n : Nat} {f : Bk2 → Option Nat} {t : Bk2} {p : Nat} (h : MapBz w b n f) (ht : Bk2.ok t) (hn : n ≤ 2000000) (hl : p ≤ 2000000)
    (hg : o.guard = none) (m x v : Operand) (hop : o.op = Op.mapUpdate 74 m x v) (hm : a.eval m = .map (some b)) (hx : a.eval x = bkV t) (hv : a.eval v = .int .i64 (p : Int))
    (hK : ∀ w', MapBz w' b (n + 1) (fun u => if u = t then some p else f u) → w.grownBy w' (some b) → wpList Tryd.prog ops Q rest (a.put o.dst undef) w') : wpList Tryd.prog ops Q (o :: rest) a w := by
  obtain ⟨D, h1, h2, h3⟩ := h
  have hk : Go.WideAt.IsKeyLit (bkL t) := by simp [Go.WideAt.IsKeyLit, bkL]
  refine wpList_mapUpdate_own w hg m x v 74 hop 76 3 bk_keyed Tryd.underlying74 _ b n D hm h1 (by unfold maxLen; omega) _ _ (bkL t) hx hv (bk_keyOf ht) (.lit (.int .i64 (p : Int))) [] (plainElem_int Tryd.underlying3 (wfI (by omega))) fun w' ho hgr => ?_
  refine hK w' ⟨_, ho, h2.put _ _, fun u hu => ?_⟩ hgr
  by_cases he : u = t
  · subst he
    refine ⟨by rw [has_put_same h2 hk]; simp, fun q hq => ?_⟩
    rw [atKey_put_same h2 hk]
    simp at hq
    rw [hq]
  · have hne : bkL u ≠ bkL t := fun h => he (bkL_inj hu ht h)
    simp only [if_neg he]
    refine ⟨by rw [has_put_other hne, (h3 u hu).1], fun q hq => ?_⟩
    rw [atKey_put_other hne, (h3 u hu).2 q hq]

theorem bz_info : (Tryd.prog.info? 61).map (fun i => (i.zero, i.size, i.bytes)) = some (some (.agg #[.string ⟨#[]⟩, .string ⟨#[]⟩, .int .i64 0, .int .i64 0]), 4, 48) := by kernel_rfl
theorem appZ {w : World} {ty : TypeId} {base B n m c : Nat} {v : Value} {A : Option Addr} {L K : List Bz} (h : w.ownsRow base 61 4 v n (L.flatMap Bz.cells)) (hr : Rd w B A (K.flatMap Bz.cells)) (hm : m = K.length) (hs : n + m ≤ 1000000) (hbase : base ≤ w.heap.size) :
    ∃ v' w', (Builtin.append_ #[57, 57] ty #[v, .slice A m c]).run Tryd.prog w = .ok v' w' ∧ w'.ownsRow base 61 4 v' (n + m) ((L ++ K).flatMap Bz.cells) ∧ Grew w w' v v' := by
  obtain ⟨i0, hi, hz0, hz1, hz2⟩ := info_parts bz_info
  obtain ⟨v', w', r1, r2, r3⟩ := run_append_rd (P := Tryd.prog) w base 57 ty 61 i0 _ 4 48 Tryd.underlying57 hi hz0 hz1 hz2 rfl v n (L.flatMap Bz.cells) h B A m c (K.flatMap Bz.cells) (by rw [flatMap_len _ 4 bzcells_len, hm]) hr (bzcells_one K) (by unfold maxLen; omega) (by omega) hbase
  exact ⟨v', w', r1, by rw [List.flatMap_append]; exact r2, r3⟩
set_option maxHeartbeats 1000000 in
theorem bz_clone (A : Option Addr) (l : List Bz) (n c B : Nat) (w : World) (hn : n = l.length) (hb : Rd w B A (l.flatMap Bz.cells)) (hB : B ≤ w.heap.size) (hl : n ≤ 1000000) :
    Calls Tryd.prog 47 #[.slice A n c] w fun e w' => ∃ v', e = .returned v' ∧ w'.ownsRow w.heap.size 61 4 v' n (l.flatMap Bz.cells) ∧ Below w.heap.size w w' := by
  obtain ⟨i0, hi, hz0, hz1, hz2⟩ := info_parts bz_info
  have heq := fun (W : World) (A' : Option Addr) (n' c' : Nat) => Lib.run_eql_slice_nil (P := Tryd.prog) W 57 61 A' n' c' 0 0 Tryd.underlying57
  have hfl : (l.flatMap Bz.cells).length = n * 4 := by rw [flatMap_len _ 4 bzcells_len, hn]
  rcases A with _ | a
  · have h0 : l = [] := by
      rcases l with _ | ⟨x, r⟩
      · rfl
      · obtain ⟨a, h, _⟩ := hb (by rw [hfl, hn]; simp); cases h
    subst h0
    obtain rfl : n = 0 := hn
    go_enter Tryd.func47, Tryd.ntmps47
    go_wp2
    go_ret
    exact ⟨_, rfl, World.ownsRow_nil _ _ _ _, Below.refl _ _⟩
  · have HB := Lib.hid hb
    have HL := Lib.hid hfl
    have H1 := Lib.hid (bzcells_one l)
    clear hb hfl hn
    generalize l.flatMap Bz.cells = xs at *
    go_enter Tryd.func47, Tryd.ntmps47
    go_wp2_with (at_builtin; refine wpList_app rfl (.tmp 5) (.tmp 6) _ _ rfl rfl rfl (run_append_rd _ w.heap.size _ _ 61 i0 _ 4 48 Tryd.underlying57 hi hz0 hz1 hz2 rfl (.slice (some ⟨w.heap.size, 0, none⟩) 0 0) 0 [] (World.ownsRow_made w #[] 0 (Nat.le_refl _) (Nat.zero_le _) rfl) B (some a) n c xs HL.out (HB.out.alloc hB _) H1.out (by unfold maxLen; omega) (by omega) (by simp)) ?_; rintro v1 w1 ⟨ho1, hg1⟩)
    go_ret
    have hg2 := hg1.alloc
    exact ⟨v1, rfl, by simpa using ho1, ⟨hg2.grown.os, hg2.grown.tape, hg2.grown.output, hg2.grown.size, fun i hi => hg2.grown.block i hi (by simp [Value.ownBlock]; omega)⟩⟩
theorem own_setZ {w : World} {base g cap n size : Nat} {e : TypeId} {xs : List Value} (h : w.ownsRow base e size (.slice (some ⟨g, 0, none⟩) n cap) n xs) {i : Nat} (hi : i < n * size) (u : Value) :
    w.frozen? ⟨g, i, none⟩ = false ∧ w.cell? ⟨g, i, none⟩ = xs[i]? ∧ (w.setCell ⟨g, i, none⟩ u).ownsRow base e size (.slice (some ⟨g, 0, none⟩) n cap) n (xs.set i u) := by
  rcases h.2 with ⟨h0, _⟩ | ⟨g', cap', cur, hv, hb, hg, hnc, hcm, hcs, htake⟩
  · cases h0
  · simp only [Value.slice.injEq, Option.some.injEq, Addr.mk.injEq] at hv
    obtain ⟨⟨rfl, _⟩, _, rfl⟩ := hv
    have hset := setCell_eq_setRow w g i cur e (0, 0) u hg
    have hi2 : i < cur.size := by rw [hcs]; exact Nat.lt_of_lt_of_le hi (Nat.mul_le_mul_right _ hnc)
    have hcell : w.cell? ⟨g, i, none⟩ = xs[i]? := by
      rw [cell_of_row w g i cur e (0, 0) hg, ← htake, List.getElem?_take, if_pos hi]
      simp
    refine ⟨by simp [World.frozen?, hg], hcell, ⟨by rw [List.length_set]; exact h.1, .inr ⟨g, cap, cur.setIfInBounds i u, rfl, hb, ?_, hnc, hcm, ?_, ?_⟩⟩⟩
    · rw [hset]; exact setRow_heap w g cur _ e _ hg
    · simpa using hcs
    · rw [← htake, Array.toList_setIfInBounds, List.take_set]
theorem set_bz (l : List Bz) (i j : Nat) (b b' : Bz) (u : Value) (hb : l[i]? = some b) (hj : j < 4) (h1 : ∀ q, q < 4 → q ≠ j → b'.cells[q]? = b.cells[q]?) (h2 : b'.cells[j]? = some u) : (l.flatMap Bz.cells).set (i * 4 + j) u = (l.set i b').flatMap Bz.cells := by
  have hil : i < l.length := (List.getElem?_eq_some_iff.1 hb).1
  apply List.ext_getElem?
  intro t
  have hlen : (l.flatMap Bz.cells).length = l.length * 4 := flatMap_len _ 4 bzcells_len l
  obtain ⟨q, r, hr, rfl⟩ : ∃ q r, r < 4 ∧ t = q * 4 + r := ⟨t / 4, t % 4, Nat.mod_lt _ (by omega), by omega⟩
  rw [flatMap_at _ 4 bzcells_len (l.set i b') q r hr]
  simp only [List.getElem?_set, hlen]
  by_cases hq : i = q
  · subst hq
    rw [if_pos rfl, if_pos hil]
    by_cases hrj : r = j
    · subst hrj
      rw [if_pos rfl, if_pos (by omega)]
      simp [h2]
    · rw [if_neg (by omega), flatMap_at _ 4 bzcells_len l i r hr, hb]
      simp [h1 r hr hrj]
  · rw [if_neg (by omega), if_neg hq, flatMap_at _ 4 bzcells_len l q r hr]
theorem own_kind {w : World} {base size n c D : Nat} {e t : TypeId} {A : Option Addr} {xs : List Value} {cs : Array Value} {fr : Nat × Nat} (h : w.ownsRow base e size (.slice A n c) n xs) (hD : w.heap[D]? = some (.cells cs t fr)) (hne : t ≠ e) : ∀ g, A = some g → g.block ≠ D := by
  rcases h.2 with ⟨h0, _⟩ | ⟨g, cap, cur, h0, _, hg, _⟩
  · injection h0 with h0; intro g hg; rw [h0] at hg; cases hg
  · injection h0 with h0
    intro g' hg' he
    rw [h0] at hg'; injection hg' with hg'
    subst hg'
    simp only at he
    rw [he, hD] at hg
    injection hg with hg
    injection hg with _ hg
    exact hne hg
theorem own_notmap {w : World} {base size n c D k nn : Nat} {e : TypeId} {f : Bk2 → Option Nat} {A : Option Addr} {xs : List Value} (h : w.ownsRow base e size (.slice A n c) n xs) (hD : MapBz w D nn f) : ∀ g, A = some g → g.block ≠ D := by
  obtain ⟨_, ⟨es, clock, h1, _⟩, _⟩ := hD
  rcases h.2 with ⟨h0, _⟩ | ⟨g, cap, cur, h0, _, hg, _⟩
  · injection h0 with h0; intro g hg; rw [h0] at hg; cases hg
  · injection h0 with h0
    intro g' hg' he
    rw [h0] at hg'; injection hg' with hg'
    subst hg'
    simp only at he
    rw [he, h1] at hg
    cases hg
theorem own_place {w : World} {base size n c : Nat} {e : TypeId} {A : Option Addr} {xs : List Value} (h : w.ownsRow base e size (.slice A n c) n xs) (hn : 0 < n) : ∃ g, A = some ⟨g, 0, none⟩ ∧ base ≤ g ∧ g < w.heap.size := by
  rcases h.2 with ⟨h0, h1⟩ | ⟨g, cap, cur, h0, hb, hg, _⟩
  · omega
  · injection h0 with h0
    exact ⟨g, h0, hb, (Array.getElem?_eq_some_iff.1 hg).1⟩
end Go.Proofs.YtkhhcnpmobgdgaaDoor
