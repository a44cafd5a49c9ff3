/- The document's Put, where an episode is of the span's trace. -/
import Derived.Test.YtenioeppmgmdiaaDz
namespace Go.Proofs.Ytenioeppmgmdiaa
open Go.RowKit
set_option linter.unusedVariables false
set_option linter.unusedSimpArgs false
set_option maxRecDepth 100000

theorem cell_heap {w w' : World} {p : Addr} (h : w'.heap[p.block]? = w.heap[p.block]?) : w'.cell? p = w.cell? p := by
  unfold World.cell?
  rw [h]
/-- Spans: their row is not a row of episodes, their attributes lie below B. -/
structure MixSps (w : World) (B : Nat) (A : Option Addr) (l : List Ls) : Prop where
  rd : Rd w w.heap.size A (l.flatMap Ls.cells)
  each : ∀ x ∈ l, RdL w B x
  far : ∀ a, A = some a → 0 < l.length → a.block < B ∨ ∃ cs, w.heap[a.block]? = some (.cells cs 42 (0, 0))
theorem MixSps.below {w w' : World} {B : Nat} {A : Option Addr} {l : List Ls} (h : MixSps w B A l) (hb : Below w.heap.size w w') (hB : B ≤ w.heap.size) : MixSps w' B A l :=
  ⟨(h.rd.below hb).more hb.size, fun x hx => (h.each x hx).below (hb.mono hB), fun a ha hl => (h.far a ha hl).imp id fun ⟨cs, hc⟩ => ⟨cs, (hb.block _ (in_heap hc)).trans hc⟩⟩
theorem MixSps.set {w : World} {B g j : Nat} {A : Option Addr} {l : List Ls} {C : Array Value} (h : MixSps w B A l) (hg : w.heap[g]? = some (.cells C 30 (0, 0))) (hB : B ≤ g) (u : Value) : MixSps (w.setCell ⟨g, j, none⟩ u) B A l := by
  have hne : ∀ a, A = some a → 0 < l.length → a.block ≠ g := fun a ha hl he => by
    rcases h.far a ha hl with h1 | ⟨cs, h1⟩
    · omega
    · rw [he, hg] at h1
      injection h1 with h1
      injection h1 with _ h1
      revert h1
      decide
  have hb : Below B w (w.setCell ⟨g, j, none⟩ u) := (Below.refl _ _).setCell hB u
  refine ⟨fun hn => ?_, fun x hx => (h.each x hx).below hb, fun a ha hl => (h.far a ha hl).imp id fun ⟨cs, hc⟩ => ⟨cs, ?_⟩⟩
  · have hl : 0 < l.length := by
      cases l with
      | nil => simp at hn
      | cons _ _ => simp
    obtain ⟨a, ha, hab, hc⟩ := h.rd hn
    refine ⟨a, ha, by simpa using hab, fun i v hv => ?_⟩
    rw [← hc i v hv]
    refine cell_heap ?_
    refine Below.heap_setCell w _ u _ ?_
    rw [block_add]
    exact hne a ha hl
  · rw [Below.heap_setCell w _ u _ (hne a ha hl)]
    exact hc
theorem MixSps.sps {w : World} {B : Nat} {A : Option Addr} {l : List Ls} (h : MixSps w B A l) (hB : B ≤ w.heap.size) : RdSps w w.heap.size A l := ⟨h.rd, fun x hx => (h.each x hx).more hB⟩
theorem row_ecell {w : World} {base B g n c : Nat} {l : List Le} (h : RowEps w base B (.slice (some ⟨g, 0, none⟩) n c) l) (hn : n = l.length) {k : Nat} {e : Le} (he : l[k]? = some e) (j : Nat) (hj : j < 6) : w.cell? ⟨g, k * 6 + j, none⟩ = e.cells[j]? := by
  have hk : k < l.length := by
    rcases Nat.lt_or_ge k l.length with h | h
    · exact h
    · rw [List.getElem?_eq_none h] at he; cases he
  subst hn
  obtain ⟨h1, h2, _, _⟩ := own_setk h.own (i := k * 6 + j) (by omega) (.bool true)
  refine h2.trans ?_
  rw [flatMap_at _ 6 ecells_len l k j hj, he]
  rfl
theorem row_frozen {w : World} {base B g n c : Nat} {l : List Le} (h : RowEps w base B (.slice (some ⟨g, 0, none⟩) n c) l) (hn : n = l.length) {k : Nat} (hk : k < n) (j : Nat) (hj : j < 6) : w.frozen? ⟨g, k * 6 + j, none⟩ = false := by
  subst hn
  exact (own_setk h.own (i := k * 6 + j) (by omega) (.bool true)).1
theorem row_block {w : World} {base B g n c : Nat} {l : List Le} (h : RowEps w base B (.slice (some ⟨g, 0, none⟩) n c) l) (hn : n = l.length) : base ≤ g ∧ g < w.heap.size ∧ ∃ cs, w.heap[g]? = some (.cells cs 30 (0, 0)) := by
  subst hn
  have h1 := own_block_ge h.own g rfl
  have h2 := own_block_lt h.own g rfl
  rcases h.own.2 with ⟨h0, _⟩ | ⟨g', cap', cur, hv, hb, hg, _⟩
  · cases h0
  · simp only [Value.slice.injEq, Option.some.injEq, Addr.mk.injEq] at hv
    obtain ⟨⟨rfl, _⟩, _, rfl⟩ := hv
    exact ⟨h1, h2, cur, hg⟩
theorem RowEps.put6 {w : World} {base B g n c : Nat} {l : List Le} (h : RowEps w base B (.slice (some ⟨g, 0, none⟩) n c) l) (hn : n = l.length) {k : Nat} (hk : k < n) (e : Le) (q : Nat) (hq : q = e.l.length) (hB : B ≤ base) (he : MixSps w B e.A e.l) :
    RdEps ((((((w.setCell ⟨g, k * 6, none⟩ (.int .u64 e.hi)).setCell ⟨g, k * 6 + 1, none⟩ (.int .u64 e.lo)).setCell ⟨g, k * 6 + 2, none⟩ (.int .i64 e.f)).setCell ⟨g, k * 6 + 3, none⟩ (.int .i64 e.la)).setCell ⟨g, k * 6 + 4, none⟩ (.bool e.su)).setCell ⟨g, k * 6 + 5, none⟩ (.slice e.A q e.c)) w.heap.size (some ⟨g, 0, none⟩) (l.set k e) ∧ Below base w ((((((w.setCell ⟨g, k * 6, none⟩ (.int .u64 e.hi)).setCell ⟨g, k * 6 + 1, none⟩ (.int .u64 e.lo)).setCell ⟨g, k * 6 + 2, none⟩ (.int .i64 e.f)).setCell ⟨g, k * 6 + 3, none⟩ (.int .i64 e.la)).setCell ⟨g, k * 6 + 4, none⟩ (.bool e.su)).setCell ⟨g, k * 6 + 5, none⟩ (.slice e.A q e.c)) ∧ ((((((w.setCell ⟨g, k * 6, none⟩ (.int .u64 e.hi)).setCell ⟨g, k * 6 + 1, none⟩ (.int .u64 e.lo)).setCell ⟨g, k * 6 + 2, none⟩ (.int .i64 e.f)).setCell ⟨g, k * 6 + 3, none⟩ (.int .i64 e.la)).setCell ⟨g, k * 6 + 4, none⟩ (.bool e.su)).setCell ⟨g, k * 6 + 5, none⟩ (.slice e.A q e.c)).heap.size = w.heap.size := by
  subst hq
  obtain ⟨hbg, hgl, cs, hcs⟩ := row_block h hn
  subst hn
  have hBg : B ≤ g := Nat.le_trans hB hbg
  have h0 := (own_setk h.own (i := k * 6) (by omega) (.int .u64 e.hi)).2.2.1
  have h1 := (own_setk h0 (i := k * 6 + 1) (by omega) (.int .u64 e.lo)).2.2.1
  have h2 := (own_setk h1 (i := k * 6 + 2) (by omega) (.int .i64 e.f)).2.2.1
  have h3 := (own_setk h2 (i := k * 6 + 3) (by omega) (.int .i64 e.la)).2.2.1
  have h4 := (own_setk h3 (i := k * 6 + 4) (by omega) (.bool e.su)).2.2.1
  have h5 := (own_setk h4 (i := k * 6 + 5) (by omega) (.slice e.A e.l.length e.c)).2.2.1
  rw [set6 l k e hk] at h5
  have b0 := heap_setCell_same w g (k * 6) _ _ (.int .u64 e.hi) hcs
  have b1 := heap_setCell_same _ g (k * 6 + 1) _ _ (.int .u64 e.lo) b0
  have b2 := heap_setCell_same _ g (k * 6 + 2) _ _ (.int .i64 e.f) b1
  have b3 := heap_setCell_same _ g (k * 6 + 3) _ _ (.int .i64 e.la) b2
  have b4 := heap_setCell_same _ g (k * 6 + 4) _ _ (.bool e.su) b3
  have b5 := heap_setCell_same _ g (k * 6 + 5) _ _ (.slice e.A e.l.length e.c) b4
  have hbl : Below base w ((((((w.setCell ⟨g, k * 6, none⟩ (.int .u64 e.hi)).setCell ⟨g, k * 6 + 1, none⟩ (.int .u64 e.lo)).setCell ⟨g, k * 6 + 2, none⟩ (.int .i64 e.f)).setCell ⟨g, k * 6 + 3, none⟩ (.int .i64 e.la)).setCell ⟨g, k * 6 + 4, none⟩ (.bool e.su)).setCell ⟨g, k * 6 + 5, none⟩ (.slice e.A e.l.length e.c)) := by
    repeat' (first | (with_reducible exact Below.refl _ _) | (refine Below.setCell ?_ hbg _))
  have hsz : ((((((w.setCell ⟨g, k * 6, none⟩ (.int .u64 e.hi)).setCell ⟨g, k * 6 + 1, none⟩ (.int .u64 e.lo)).setCell ⟨g, k * 6 + 2, none⟩ (.int .i64 e.f)).setCell ⟨g, k * 6 + 3, none⟩ (.int .i64 e.la)).setCell ⟨g, k * 6 + 4, none⟩ (.bool e.su)).setCell ⟨g, k * 6 + 5, none⟩ (.slice e.A e.l.length e.c)).heap.size = w.heap.size := by simp
  obtain ⟨A9, c9, hv9, _, hrd⟩ := own_rd h5
  injection hv9 with hv9 _ _
  subst hv9
  have hMX := ((((((he.set (j := k * 6) hcs hBg (.int .u64 e.hi)).set (j := k * 6 + 1) b0 hBg (.int .u64 e.lo)).set (j := k * 6 + 2) b1 hBg (.int .i64 e.f)).set (j := k * 6 + 3) b2 hBg (.int .i64 e.la)).set (j := k * 6 + 4) b3 hBg (.bool e.su)).set (j := k * 6 + 5) b4 hBg (.slice e.A e.l.length e.c))
  have hwB : B ≤ w.heap.size := Nat.le_trans hBg (Nat.le_of_lt hgl)
  refine ⟨⟨by rw [← hsz]; exact hrd, fun y hy => ?_⟩, hbl, hsz⟩
  rcases List.mem_or_eq_of_mem_set hy with hy | rfl
  · exact ((h.each y hy).below (hbl.mono hB)).more hwB
  · have h9 := hMX.sps (by rw [hsz]; exact hwB)
    rw [hsz] at h9
    exact h9
def DAddM (hi lo f la : Int) (su : Bool) (L : List Sp) (ok : Bool) (B : Nat) (w : World) (e : Ending) (w' : World) : Prop :=
  ∃ (A : Option Addr) (n c : Nat) (l' : List Ls), e = .returned (.tuple #[.agg #[.int .u64 hi, .int .u64 lo, .int .i64 f, .int .i64 la, .bool su, .slice A n c], .bool ok]) ∧ n = l'.length ∧ MixSps w' B A l' ∧ l'.map Ls.s = L ∧ Below w.heap.size w w'
theorem dadd_mix (x0 x1 f la : Int) (su : Bool) (eA : Option Addr) (ls : List Ls) (q ec : Nat) (x2 x3 : Int) (x4 x5 : ByteArray) (x6 x7 : Int) (x8 : Bool) (xA : Option Addr) (m xc : Nat) (ats : List (ByteArray × ByteArray)) (now : Int) (B : Nat) (w : World)
    (hn : q = ls.length) (hy : RdSps w B eA ls) (hm : m = ats.length) (hx : RdL w B ⟨⟨x0, x1, x2, x3, x4, x5, x6, x7, x8, ats⟩, xA, xc⟩) (hl : q ≤ 90000) :
    ∃ ok : Bool, ∀ W, Below B w W → B ≤ W.heap.size → Calls Try.prog 45 #[.agg #[.int .u64 x0, .int .u64 x1, .int .i64 f, .int .i64 la, .bool su, .slice eA q ec], .agg #[.int .u64 x0, .int .u64 x1, .int .u64 x2, .int .u64 x3, .string x4, .string x5, .int .i64 x6, .int .i64 x7, .bool x8, .slice xA m xc], .int .i64 now] W (DAddM x0 x1 f now su (if hasId (ls.map Ls.s) x2 then ls.map Ls.s else ls.map Ls.s ++ [⟨x0, x1, x2, x3, x4, x5, x6, x7, x8, ats⟩]) ok B W) := by
  cases hh : hasId (ls.map Ls.s) x2 with
  | true =>
    refine ⟨false, fun W hW hB => ?_⟩
    refine (dadd_had x0 x1 f la su eA ls q ec x2 x3 x4 x5 x6 x7 x8 xA m xc now B W hn (hy.below hW) hB (by omega) hh).mono ?_
    rintro e w9 ⟨h1, h2⟩
    have hy9 := (hy.below hW).below (h2.mono hB)
    refine ⟨eA, q, ec, ls, h1, hn, ⟨hy9.rd.more (Nat.le_trans hB h2.size), hy9.each, fun a ha hl => .inl ?_⟩, by simp, h2⟩
    obtain ⟨b, hb, hlt, _⟩ := hy.rd (by rw [flatMap_len _ 10 cells_len]; omega)
    rw [ha] at hb
    injection hb with hb
    rw [hb]
    exact hlt
  | false =>
    refine ⟨true, fun W hW hB => ?_⟩
    refine (dadd_new x0 x1 f la su eA ls q ec x2 x3 x4 x5 x6 x7 x8 xA m xc now B W hn (hy.below hW) hB (by omega) hh).mono ?_
    rintro e w9 ⟨g, c', h1, h2, h3⟩
    have hc : (ls ++ [Ls.mk ⟨x0, x1, x2, x3, x4, x5, x6, x7, x8, ats⟩ xA xc]).flatMap Ls.cells = ls.flatMap Ls.cells ++ [.int .u64 x0, .int .u64 x1, .int .u64 x2, .int .u64 x3, .string x4, .string x5, .int .i64 x6, .int .i64 x7, .bool x8, .slice xA m xc] := by rw [List.flatMap_append, hm]; rfl
    rw [← hc] at h2
    obtain ⟨A9, c9, hv, _, hrd⟩ := own_rd h2
    injection hv with hv _ _
    subst hv
    refine ⟨_, q + 1, c', ls ++ [⟨⟨x0, x1, x2, x3, x4, x5, x6, x7, x8, ats⟩, xA, xc⟩], h1, by simp [hn], ⟨hrd, fun z hz => ?_, fun a ha _ => .inr ?_⟩, by simp, h3⟩
    · rcases List.mem_append.1 hz with hz | hz
      · exact ((hy.below hW).each z hz).below (h3.mono hB)
      · rw [List.mem_singleton] at hz
        subst hz
        exact (hx.below hW).below (h3.mono hB)
    · rcases h2.2 with ⟨h0, _⟩ | ⟨g', cap', cur, hv, hb, hg, _⟩
      · cases h0
      · injection hv with hv _ _
        rw [hv] at ha
        injection ha with ha
        subst ha
        exact ⟨cur, hg⟩
def DpF (A1 : Option Addr) (n c1 k g1 base B : Nat) (C CS : Array Value) (x0 x1 f now : Int) (su ok : Bool) (L2 : List Sp) : Nat → Value → World → Prop
  | 0, v, _ => v = .slice A1 n c1
  | 1, v, _ => v = .int .i64 (k : Int)
  | 2, v, _ => v = .pointer (some ⟨g1, k * 6, none⟩)
  | 3, v, _ => v = .agg C
  | 4, v, _ => v = .agg CS
  | 5, v, _ => v = .int .i64 now
  | 6, v, w => ∃ (A : Option Addr) (q c : Nat) (l' : List Ls), v = .tuple #[.agg #[.int .u64 x0, .int .u64 x1, .int .i64 f, .int .i64 now, .bool su, .slice A q c], .bool ok] ∧ q = l'.length ∧ MixSps w B A l' ∧ l'.map Ls.s = L2
  | 7, v, w => ∃ (A : Option Addr) (q c : Nat) (l' : List Ls), v = .tuple #[.agg #[.int .u64 x0, .int .u64 x1, .int .i64 f, .int .i64 now, .bool su, .slice A q c], .bool ok] ∧ q = l'.length ∧ MixSps w B A l' ∧ l'.map Ls.s = L2
  | 8, v, w => ∃ (A : Option Addr) (q c : Nat) (l' : List Ls), v = .agg #[.int .u64 x0, .int .u64 x1, .int .i64 f, .int .i64 now, .bool su, .slice A q c] ∧ q = l'.length ∧ MixSps w B A l' ∧ l'.map Ls.s = L2
  | 9, v, _ => v = .bool ok
  | 10, v, w => ∃ g, v = .pointer (some ⟨g, 0, none⟩) ∧ base ≤ g ∧ w.heap[g]? = some (.cells #[.int .u64 0, .int .u64 0, .int .i64 0, .int .i64 0, .bool false, .slice none 0 0] 30 (0, 0))
  | 11, _, _ => True
  | 12, v, _ => v = .bool ok
  | _, _, _ => True
theorem DpF.keep {A1 : Option Addr} {n c1 k g1 base B : Nat} {C CS : Array Value} {x0 x1 f now : Int} {su ok : Bool} {L2 : List Sp} {w w' : World} {i : Nat} {v : Value} (hb : Below w.heap.size w w') (hB : B ≤ w.heap.size) (h : DpF A1 n c1 k g1 base B C CS x0 x1 f now su ok L2 i v w) : DpF A1 n c1 k g1 base B C CS x0 x1 f now su ok L2 i v w' := by
  match i, h with
  | 0, h => exact h
  | 1, h => exact h
  | 2, h => exact h
  | 3, h => exact h
  | 4, h => exact h
  | 5, h => exact h
  | 6, h => obtain ⟨A, q, c, l', h1, h2, h3, h4⟩ := h; exact ⟨A, q, c, l', h1, h2, h3.below hb hB, h4⟩
  | 7, h => obtain ⟨A, q, c, l', h1, h2, h3, h4⟩ := h; exact ⟨A, q, c, l', h1, h2, h3.below hb hB, h4⟩
  | 8, h => obtain ⟨A, q, c, l', h1, h2, h3, h4⟩ := h; exact ⟨A, q, c, l', h1, h2, h3.below hb hB, h4⟩
  | 9, h => exact h
  | 10, h => obtain ⟨g, h1, h2, h3⟩ := h; exact ⟨g, h1, h2, (hb.block g (in_heap h3)).trans h3⟩
  | 11, h => exact h
  | 12, h => exact h
  | _ + 13, h => trivial
theorem DpF.set {A1 : Option Addr} {n c1 k g1 base B : Nat} {C CS : Array Value} {x0 x1 f now : Int} {su ok : Bool} {L2 : List Sp} {w : World} {i g j : Nat} {v : Value} {D : Array Value} (hg : w.heap[g]? = some (.cells D 30 (0, 0))) (hB : B ≤ g) (hi : i ≠ 10) (u : Value) (h : DpF A1 n c1 k g1 base B C CS x0 x1 f now su ok L2 i v w) : DpF A1 n c1 k g1 base B C CS x0 x1 f now su ok L2 i v (w.setCell ⟨g, j, none⟩ u) := by
  match i, h, hi with
  | 0, h, _ => exact h
  | 1, h, _ => exact h
  | 2, h, _ => exact h
  | 3, h, _ => exact h
  | 4, h, _ => exact h
  | 5, h, _ => exact h
  | 6, h, _ => obtain ⟨A, q, c, l', h1, h2, h3, h4⟩ := h; exact ⟨A, q, c, l', h1, h2, h3.set hg hB u, h4⟩
  | 7, h, _ => obtain ⟨A, q, c, l', h1, h2, h3, h4⟩ := h; exact ⟨A, q, c, l', h1, h2, h3.set hg hB u, h4⟩
  | 8, h, _ => obtain ⟨A, q, c, l', h1, h2, h3, h4⟩ := h; exact ⟨A, q, c, l', h1, h2, h3.set hg hB u, h4⟩
  | 9, h, _ => exact h
  | 10, h, hi => exact absurd rfl hi
  | 11, h, _ => exact h
  | 12, h, _ => exact h
  | _ + 13, h, _ => trivial
/-- When the store was carried out, the new block holds what Add handed back. -/
def DpI (base B : Nat) (x0 x1 f now : Int) (su : Bool) (L2 : List Sp) (L : Nat → Bool) (a : Act) (w : World) : Prop :=
  L 11 = true → ∃ (g : Nat) (A : Option Addr) (q c : Nat) (l' : List Ls), a.tmps.getD 11 undef = .pointer (some ⟨g, 0, none⟩) ∧ base ≤ g ∧ w.heap[g]? = some (.cells #[.int .u64 x0, .int .u64 x1, .int .i64 f, .int .i64 now, .bool su, .slice A q c] 30 (0, 0)) ∧ q = l'.length ∧ MixSps w B A l' ∧ l'.map Ls.s = L2
theorem DpI.keep {base B : Nat} {x0 x1 f now : Int} {su : Bool} {L2 : List Sp} {L : Nat → Bool} {a : Act} {w w' : World} {v : Value} {i d : Nat} (h : DpI base B x0 x1 f now su L2 L a w) (hi : i ≠ 11) (hd : d ≠ 11) (hb : Below w.heap.size w w') (hB : B ≤ w.heap.size) : DpI base B x0 x1 f now su L2 (PI.upd L i) (a.put (some d) v) w' := fun hl => by
  obtain ⟨g, A, q, c, l', h1, h2, h3, h4, h5, h6⟩ := h (by unfold PI.upd at hl; rwa [if_neg (Ne.symm hi)] at hl)
  refine ⟨g, A, q, c, l', ?_, h2, (hb.block g (in_heap h3)).trans h3, h4, h5.below hb hB, h6⟩
  rw [PI.put_getD, if_neg (fun hh => hd hh.1)]
  exact h1
theorem DpI.none {base B : Nat} {x0 x1 f now : Int} {su : Bool} {L2 : List Sp} {L : Nat → Bool} {a : Act} {w' : World} {i : Nat} (h : L 11 = false) (hi : i ≠ 11) : DpI base B x0 x1 f now su L2 (PI.upd L i) a w' := fun hl => by
  unfold PI.upd at hl
  rw [if_neg (Ne.symm hi), h] at hl
  cases hl
set_option maxHeartbeats 16000000 in
theorem dput_some (A : Option Addr) (l : List Le) (n c : Nat) (x0 x1 x2 x3 : Int) (x4 x5 : ByteArray) (x6 x7 : Int) (x8 : Bool) (ats : List (ByteArray × ByteArray)) (xA : Option Addr) (m xc : Nat) (now : Int) (sure : Bool) (B k0 : Nat) (f la : Int) (su : Bool) (eA : Option Addr) (ec : Nat) (ls : List Ls) (w : World)
    (hn : n = l.length) (hy : RdEps w B A l) (hB : B ≤ w.heap.size) (hm : m = ats.length) (hx : RdL w B ⟨⟨x0, x1, x2, x3, x4, x5, x6, x7, x8, ats⟩, xA, xc⟩) (hl : n ≤ 100000) (hql : ls.length ≤ 90000) (he0 : l[k0]? = some ⟨x0, x1, f, la, su, ls, eA, ec⟩) (hno : ∀ e ∈ l.take k0, ¬ (e.hi = x0 ∧ e.lo = x1)) :
    Calls Try.prog 28 #[.slice A n c, .agg #[.int .u64 x0, .int .u64 x1, .int .u64 x2, .int .u64 x3, .string x4, .string x5, .int .i64 x6, .int .i64 x7, .bool x8, .slice xA m xc], .int .i64 now, .bool sure] w (DPutOf (putE (l.map Le.ep) ⟨x0, x1, x2, x3, x4, x5, x6, x7, x8, ats⟩ now sure) w) := by
  have hk0 : k0 < n := by
    rw [hn]
    rcases Nat.lt_or_ge k0 l.length with h | h
    · exact h
    · rw [List.getElem?_eq_none h] at he0; cases he0
  have HN := Lib.hid hn
  have HM := Lib.hid hm
  have HX := Lib.hid hx
  have HNO := Lib.hid hno
  have HE0 := Lib.hid he0
  have HPE : Hid (putE (l.map Le.ep) ⟨x0, x1, x2, x3, x4, x5, x6, x7, x8, ats⟩ now sure = (l.map Le.ep).set k0 ⟨x0, x1, f, now, su || sure, (if hasId (ls.map Ls.s) x2 then ls.map Ls.s else ls.map Ls.s ++ [⟨x0, x1, x2, x3, x4, x5, x6, x7, x8, ats⟩])⟩) := Lib.hid (putE_some _ _ now sure k0 ⟨x0, x1, f, la, su, ls.map Ls.s⟩ (by rw [List.getElem?_map, he0]; rfl) ⟨rfl, rfl⟩ (fun e he => by
    rw [← List.map_take] at he
    obtain ⟨y, hy, rfl⟩ := List.mem_map.1 he
    exact hno y hy))
  obtain ⟨q, hq⟩ : ∃ q, q = ls.length := ⟨_, rfl⟩
  rw [← hq] at hql
  have HQ := Lib.hid hq
  obtain ⟨ok, hadd⟩ := dadd_mix x0 x1 f la su eA ls q ec x2 x3 x4 x5 x6 x7 x8 xA m xc ats now B w hq (hy.each _ (List.mem_of_getElem? he0)) hm hx hql
  have HADW := Lib.hid hadd
  generalize (if hasId (ls.map Ls.s) x2 then ls.map Ls.s else ls.map Ls.s ++ [⟨x0, x1, x2, x3, x4, x5, x6, x7, x8, ats⟩]) = L2 at HPE HADW hadd
  have HB0 : Hid (Below w.heap.size w (w.alloc (.cells #[.int .u64 x0, .int .u64 x1, .int .u64 x2, .int .u64 x3, .string x4, .string x5, .int .i64 x6, .int .i64 x7, .bool x8, .slice xA m xc] 42))) := Lib.hid ((Below.refl _ _).alloc (Nat.le_refl _) _)
  have HZ0 : Hid ((w.alloc (.cells #[.int .u64 x0, .int .u64 x1, .int .u64 x2, .int .u64 x3, .string x4, .string x5, .int .i64 x6, .int .i64 x7, .bool x8, .slice xA m xc] 42)).heap.size = w.heap.size + 1) := Lib.hid (by simp)
  have HS0 : Hid ((w.alloc (.cells #[.int .u64 x0, .int .u64 x1, .int .u64 x2, .int .u64 x3, .string x4, .string x5, .int .i64 x6, .int .i64 x7, .bool x8, .slice xA m xc] 42)).heap[w.heap.size]? = some (.cells #[.int .u64 x0, .int .u64 x1, .int .u64 x2, .int .u64 x3, .string x4, .string x5, .int .i64 x6, .int .i64 x7, .bool x8, .slice xA m xc] 42 (0, 0))) := Lib.hid (heap_alloc_new w _)
  have HYW : RdEps (w.alloc (.cells #[.int .u64 x0, .int .u64 x1, .int .u64 x2, .int .u64 x3, .string x4, .string x5, .int .i64 x6, .int .i64 x7, .bool x8, .slice xA m xc] 42)) B A l := hy.below (HB0.out.mono hB)
  have AP0 := Lib.hid (fun ty => appRow (ty := ty) (w := (w.alloc (.cells #[.int .u64 x0, .int .u64 x1, .int .u64 x2, .int .u64 x3, .string x4, .string x5, .int .i64 x6, .int .i64 x7, .bool x8, .slice xA m xc] 42))) (base := (w.alloc (.cells #[.int .u64 x0, .int .u64 x1, .int .u64 x2, .int .u64 x3, .string x4, .string x5, .int .i64 x6, .int .i64 x7, .bool x8, .slice xA m xc] 42)).heap.size) (B := B) (v := .slice none 0 0) (l := []) (xs := l) n c hn (RowEps.nil _ _ _) HYW.each HYW.rd (by simp) (by omega) (Nat.le_refl _) (by rw [HZ0.out]; omega))
  clear hn hm hx hno hy HYW he0 hq hadd
  go_enter Try.func28, Try.ntmps28
  go_wp2_with (at_builtin; (refine wpList_app rfl (.const (.slice none 0 0)) (.tmp 13) _ _ rfl rfl rfl (AP0.out _) ?_); rintro v1 w1 ⟨ho1, hg1⟩; have HO1 := Lib.hid ho1; have HG1 := Lib.hid hg1; clear ho1 hg1)
  have HB1 : Hid (Below (w.alloc (.cells #[.int .u64 x0, .int .u64 x1, .int .u64 x2, .int .u64 x3, .string x4, .string x5, .int .i64 x6, .int .i64 x7, .bool x8, .slice xA m xc] 42)).heap.size (w.alloc (.cells #[.int .u64 x0, .int .u64 x1, .int .u64 x2, .int .u64 x3, .string x4, .string x5, .int .i64 x6, .int .i64 x7, .bool x8, .slice xA m xc] 42)) w1) := Lib.hid HG1.out.new
  have HO2 : Hid (RowEps w1 (w.alloc (.cells #[.int .u64 x0, .int .u64 x1, .int .u64 x2, .int .u64 x3, .string x4, .string x5, .int .i64 x6, .int .i64 x7, .bool x8, .slice xA m xc] 42)).heap.size B v1 l) := Lib.hid (by have := HO1.out; rwa [List.nil_append] at this)
  obtain ⟨g1, c1, hv1, _⟩ := HO2.out.own.form (by rw [← HN.out]; omega)
  rw [← HN.out] at hv1
  subst hv1
  clear HO1 AP0
  go_loopw [10] (fun i wr => ∃ k : Nat, i = .int .i64 k ∧ k ≤ k0 ∧ Hid (Below w1.heap.size w1 wr)) (fun i _ => n - (intOf i).toNat)
  case atStart => exact ⟨0, rfl, Nat.zero_le _, Lib.hid (Below.refl _ _)⟩
  case round =>
    obtain ⟨k, rfl, hk, HB⟩ := hrel
    have HBW : Hid (Below (w.alloc (.cells #[.int .u64 x0, .int .u64 x1, .int .u64 x2, .int .u64 x3, .string x4, .string x5, .int .i64 x6, .int .i64 x7, .bool x8, .slice xA m xc] 42)).heap.size (w.alloc (.cells #[.int .u64 x0, .int .u64 x1, .int .u64 x2, .int .u64 x3, .string x4, .string x5, .int .i64 x6, .int .i64 x7, .bool x8, .slice xA m xc] 42)) wr) := Lib.hid (HB1.out.trans (HB.out.mono HB1.out.size))
    have HBF : Hid (Below w.heap.size w wr) := Lib.hid (HB0.out.trans (HBW.out.mono (by rw [HZ0.out]; omega)))
    have hBr : B ≤ w1.heap.size := Nat.le_trans (by rw [HZ0.out]; omega) HB1.out.size
    have HOR := Lib.hid (HO2.out.below HB.out hBr)
    have HSR : Hid (wr.heap[w.heap.size]? = some (.cells #[.int .u64 x0, .int .u64 x1, .int .u64 x2, .int .u64 x3, .string x4, .string x5, .int .i64 x6, .int .i64 x7, .bool x8, .slice xA m xc] 42 (0, 0))) := Lib.hid ((HBW.out.block _ (by rw [HZ0.out]; omega)).trans HS0.out)
    have s0 : wr.cell? ⟨w.heap.size, 0, none⟩ = some (.int .u64 x0) := cell_of_row _ _ 0 _ _ (0, 0) HSR.out
    have s1 : wr.cell? ⟨w.heap.size, 1, none⟩ = some (.int .u64 x1) := cell_of_row _ _ 1 _ _ (0, 0) HSR.out
    have s2 : wr.cell? ⟨w.heap.size, 2, none⟩ = some (.int .u64 x2) := cell_of_row _ _ 2 _ _ (0, 0) HSR.out
    have s3 : wr.cell? ⟨w.heap.size, 3, none⟩ = some (.int .u64 x3) := cell_of_row _ _ 3 _ _ (0, 0) HSR.out
    have s4 : wr.cell? ⟨w.heap.size, 4, none⟩ = some (.string x4) := cell_of_row _ _ 4 _ _ (0, 0) HSR.out
    have s5 : wr.cell? ⟨w.heap.size, 5, none⟩ = some (.string x5) := cell_of_row _ _ 5 _ _ (0, 0) HSR.out
    have s6 : wr.cell? ⟨w.heap.size, 6, none⟩ = some (.int .i64 x6) := cell_of_row _ _ 6 _ _ (0, 0) HSR.out
    have s7 : wr.cell? ⟨w.heap.size, 7, none⟩ = some (.int .i64 x7) := cell_of_row _ _ 7 _ _ (0, 0) HSR.out
    have s8 : wr.cell? ⟨w.heap.size, 8, none⟩ = some (.bool x8) := cell_of_row _ _ 8 _ _ (0, 0) HSR.out
    have s9 : wr.cell? ⟨w.heap.size, 9, none⟩ = some (.slice xA m xc) := cell_of_row _ _ 9 _ _ (0, 0) HSR.out
    by_cases hlt : k < k0
    · have hkn : k < n := by omega
      obtain ⟨e, he⟩ : ∃ e, l[k]? = some e := ⟨_, List.getElem?_eq_getElem (by rw [← HN.out]; exact hkn)⟩
      have ht := HNO.out e (by
        refine List.mem_of_getElem? (i := k) ?_
        rw [List.getElem?_take, if_pos hlt]
        exact he)
      obtain ⟨th, tl, f', la', su', ls', eA', ec'⟩ := e
      have z0 : wr.cell? ⟨g1, k * 6, none⟩ = some (.int .u64 th) := row_ecell HOR.out HN.out he 0 (by omega)
      have z1 : wr.cell? ⟨g1, k * 6 + 1, none⟩ = some (.int .u64 tl) := row_ecell HOR.out HN.out he 1 (by omega)
      have hcc : ((th == x0) = false) ∨ ((th == x0) = true ∧ (tl == x1) = false) := by
        by_cases h1 : th = x0
        · right; subst h1; simp at ht ⊢; exact ht
        · left; simpa using h1
      clear ht he
      rcases hcc with h1 | ⟨h1, h2⟩
      all_goals
        go_wp2_with fail
        go_quiet (fail)
        go_wp2_with fail
        go_roundw
        case rel => exact ⟨k + 1, by go_num, by omega, Lib.hid (drewND HB.out _)⟩
        case measure => simp [intOf]; omega
    · obtain rfl : k = k0 := by omega
      have z0 : wr.cell? ⟨g1, k * 6, none⟩ = some (.int .u64 x0) := row_ecell HOR.out HN.out HE0.out 0 (by omega)
      have z1 : wr.cell? ⟨g1, k * 6 + 1, none⟩ = some (.int .u64 x1) := row_ecell HOR.out HN.out HE0.out 1 (by omega)
      have e0 : (x0 == x0) = true := by simp
      have e1 : (x1 == x1) = true := by simp
      go_wp2_with fail
      go_quiet (fail)
      go_wp2_with fail
      generalize hwq : wr.drewN _ = wq
      have HBQ : Hid (Below wr.heap.size wr wq) := Lib.hid (by rw [← hwq]; exact drewND (Below.refl _ _) _)
      clear hwq
      obtain ⟨W, hW⟩ : ∃ W, W = wq.drew := ⟨_, rfl⟩
      have HBD : Hid (Below wr.heap.size wr W) := Lib.hid (by rw [hW]; exact HBQ.out.trans ⟨rfl, rfl, rfl, Nat.le_refl _, fun _ _ => rfl⟩)
      have HFW : Hid (Below w.heap.size w W) := Lib.hid (HBF.out.trans (HBD.out.mono HBF.out.size))
      have hBW : B ≤ W.heap.size := Nat.le_trans hB HFW.out.size
      have HORW : Hid (RowEps W (w.alloc (.cells #[.int .u64 x0, .int .u64 x1, .int .u64 x2, .int .u64 x3, .string x4, .string x5, .int .i64 x6, .int .i64 x7, .bool x8, .slice xA m xc] 42)).heap.size B (.slice (some ⟨g1, 0, none⟩) n c1) l) := Lib.hid (HOR.out.below HBD.out (Nat.le_trans hBr HB.out.size))
      have HSW : Hid (W.heap[w.heap.size]? = some (.cells #[.int .u64 x0, .int .u64 x1, .int .u64 x2, .int .u64 x3, .string x4, .string x5, .int .i64 x6, .int .i64 x7, .bool x8, .slice xA m xc] 42 (0, 0))) := Lib.hid ((HBD.out.block _ (in_heap HSR.out)).trans HSR.out)
      have hS0W : w.heap.size < W.heap.size := in_heap HSW.out
      have hW01 : (w.alloc (.cells #[.int .u64 x0, .int .u64 x1, .int .u64 x2, .int .u64 x3, .string x4, .string x5, .int .i64 x6, .int .i64 x7, .bool x8, .slice xA m xc] 42)).heap.size ≤ W.heap.size := by rw [HZ0.out]; omega
      have HCE : Hid (∀ w3, Below W.heap.size W w3 → ∀ j v, ([.int .u64 x0, .int .u64 x1, .int .i64 f, .int .i64 la, .bool su, .slice eA q ec] : List Value)[j]? = some v → w3.cell? ⟨g1, k * 6 + j, none⟩ = some v) := Lib.hid (fun w3 h3 j v hv => by
        have hj : j < 6 := by
          rcases Nat.lt_or_ge j 6 with h | h
          · exact h
          · rw [List.getElem?_eq_none (by simpa using h)] at hv; cases hv
        rw [row_ecell (HORW.out.below h3 hBW) HN.out HE0.out j hj, Le.lit_cells _ _ _ _ _ _ _ _ q HQ.out]
        exact hv)
      have HADD : Hid (∀ W3, Below B W W3 → B ≤ W3.heap.size → Calls Try.prog 45 #[.agg #[.int .u64 x0, .int .u64 x1, .int .i64 f, .int .i64 la, .bool su, .slice eA q ec], .agg #[.int .u64 x0, .int .u64 x1, .int .u64 x2, .int .u64 x3, .string x4, .string x5, .int .i64 x6, .int .i64 x7, .bool x8, .slice xA m xc], .int .i64 now] W3 (DAddM x0 x1 f now su L2 ok B W3)) := Lib.hid (fun W3 h3 hB3 => HADW.out W3 ((HFW.out.mono hB).trans h3) hB3)
      have i1 : (k : Int) < (n : Int) := by omega
      have i2 : (0 : Int) ≤ (k : Int) := by omega
      have i3 : k < n := hk0
      have i4 : decide ((k : Int) < (n : Int)) = true := decide_eq_true i1
      obtain ⟨i0, hi9, hz0, hz1, hz2⟩ := info_parts infoEp
      have ad0 := addr_plain g1 0 (k * 6)
      rw [Nat.zero_add] at ad0
      clear s0 s1 s2 s3 s4 s5 s6 s7 s8 s9 z0 z1 HADW
      refine PI.wp_region_persG (R := Below W.heap.size) (G := fun _ _ => True) (I := (DpI W.heap.size B x0 x1 f now su L2)) [(2, 0), (2, 1), (3, 2), (6, 3), (6, 4), (6, 5), (7, 6), (8, 7), (9, 7), (11, 8), (11, 10), (12, 9)] [] (by kernel_rfl) (PI.formed_of (by kernel_rfl)) ⟨fun w => Below.refl _ w, fun _ _ _ h k => h.trans k⟩ (fun _ => trivial) (DpF (some ⟨g1, 0, none⟩) n c1 k g1 W.heap.size B #[.int .u64 x0, .int .u64 x1, .int .i64 f, .int .i64 la, .bool su, .slice eA q ec] #[.int .u64 x0, .int .u64 x1, .int .u64 x2, .int .u64 x3, .string x4, .string x5, .int .i64 x6, .int .i64 x7, .bool x8, .slice xA m xc] x0 x1 f now su ok L2) (fun h => by cases h) ?_ ?_
      · rw [← hW]
        intro i o ho
        rcases i with _ | _ | _ | _ | _ | _ | _ | _ | _ | _ | _ | _ | _ | i
        · obtain rfl := Option.some.inj (show some _ = some o from ho)
          refine PI.shown_val rfl fun a w3 L0 hr T => ?_
          have hB3 : B ≤ w3.heap.size := Nat.le_trans hBW hr.size
          have h1 : a.eval (.tmp 9) = .slice (some ⟨g1, 0, none⟩) n c1 := T.was 9 (by kernel_rfl)
          exact ⟨.slice (some ⟨g1, 0, none⟩) n c1, w3, by simp only [execOp, h1]; simp [go_sem], PI.Post.pure ⟨fun w => Below.refl _ w, fun _ _ _ h k => h.trans k⟩ rfl (DpI.keep (d := 30) T.inv (by decide) (by decide) (Below.refl _ _) hB3)⟩
        · obtain rfl := Option.some.inj (show some _ = some o from ho)
          refine PI.shown_val rfl fun a w3 L0 hr T => ?_
          have hB3 : B ≤ w3.heap.size := Nat.le_trans hBW hr.size
          have h1 : a.eval (.tmp 10) = .int .i64 (k : Int) := T.was 10 (by kernel_rfl)
          exact ⟨.int .i64 (k : Int), w3, by simp only [execOp, h1]; simp [go_sem], PI.Post.pure ⟨fun w => Below.refl _ w, fun _ _ _ h k => h.trans k⟩ rfl (DpI.keep (d := 31) T.inv (by decide) (by decide) (Below.refl _ _) hB3)⟩
        · obtain rfl := Option.some.inj (show some _ = some o from ho)
          refine PI.shown_val rfl fun a w3 L0 hr T => ?_
          have hB3 : B ≤ w3.heap.size := Nat.le_trans hBW hr.size
          have h0 : a.eval (.tmp 30) = .slice (some ⟨g1, 0, none⟩) n c1 := T.at_ 0 30 (by kernel_rfl) (by kernel_rfl) (by kernel_rfl)
          have h1 : a.eval (.tmp 31) = .int .i64 (k : Int) := T.at_ 1 31 (by kernel_rfl) (by kernel_rfl) (by kernel_rfl)
          exact ⟨.pointer (some ⟨g1, k * 6, none⟩), w3, by simp only [execOp, h0, h1]; simp [go_sem, i1, i2, i3, i4, ad0], PI.Post.pure ⟨fun w => Below.refl _ w, fun _ _ _ h k => h.trans k⟩ rfl (DpI.keep (d := 32) T.inv (by decide) (by decide) (Below.refl _ _) hB3)⟩
        · obtain rfl := Option.some.inj (show some _ = some o from ho)
          refine PI.shown_val rfl fun a w3 L0 hr T => ?_
          have hB3 : B ≤ w3.heap.size := Nat.le_trans hBW hr.size
          have h2 : a.eval (.tmp 32) = .pointer (some ⟨g1, k * 6, none⟩) := T.at_ 2 32 (by kernel_rfl) (by kernel_rfl) (by kernel_rfl)
          have v0 : w3.cell? ⟨g1, k * 6, none⟩ = some (.int .u64 x0) := HCE.out w3 hr 0 _ rfl
          have v1 : w3.cell? ⟨g1, k * 6 + 1, none⟩ = some (.int .u64 x1) := HCE.out w3 hr 1 _ rfl
          have v2 : w3.cell? ⟨g1, k * 6 + 2, none⟩ = some (.int .i64 f) := HCE.out w3 hr 2 _ rfl
          have v3 : w3.cell? ⟨g1, k * 6 + 3, none⟩ = some (.int .i64 la) := HCE.out w3 hr 3 _ rfl
          have v4 : w3.cell? ⟨g1, k * 6 + 4, none⟩ = some (.bool su) := HCE.out w3 hr 4 _ rfl
          have v5 : w3.cell? ⟨g1, k * 6 + 5, none⟩ = some (.slice eA q ec) := HCE.out w3 hr 5 _ rfl
          exact ⟨.agg #[.int .u64 x0, .int .u64 x1, .int .i64 f, .int .i64 la, .bool su, .slice eA q ec], w3, by simp only [execOp, h2]; simp [go_sem, v0, v1, v2, v3, v4, v5], PI.Post.pure ⟨fun w => Below.refl _ w, fun _ _ _ h k => h.trans k⟩ rfl (DpI.keep (d := 33) T.inv (by decide) (by decide) (Below.refl _ _) hB3)⟩
        · obtain rfl := Option.some.inj (show some _ = some o from ho)
          refine PI.shown_val rfl fun a w3 L0 hr T => ?_
          have hB3 : B ≤ w3.heap.size := Nat.le_trans hBW hr.size
          have h2 : a.eval (.tmp 5) = .pointer (some ⟨w.heap.size, 0, none⟩) := T.was 5 (by kernel_rfl)
          have hO := (hr.block _ hS0W).trans HSW.out
          have v0 : w3.cell? ⟨w.heap.size, 0, none⟩ = some (.int .u64 x0) := cell_of_row _ _ 0 _ _ (0, 0) hO
          have v1 : w3.cell? ⟨w.heap.size, 1, none⟩ = some (.int .u64 x1) := cell_of_row _ _ 1 _ _ (0, 0) hO
          have v2 : w3.cell? ⟨w.heap.size, 2, none⟩ = some (.int .u64 x2) := cell_of_row _ _ 2 _ _ (0, 0) hO
          have v3 : w3.cell? ⟨w.heap.size, 3, none⟩ = some (.int .u64 x3) := cell_of_row _ _ 3 _ _ (0, 0) hO
          have v4 : w3.cell? ⟨w.heap.size, 4, none⟩ = some (.string x4) := cell_of_row _ _ 4 _ _ (0, 0) hO
          have v5 : w3.cell? ⟨w.heap.size, 5, none⟩ = some (.string x5) := cell_of_row _ _ 5 _ _ (0, 0) hO
          have v6 : w3.cell? ⟨w.heap.size, 6, none⟩ = some (.int .i64 x6) := cell_of_row _ _ 6 _ _ (0, 0) hO
          have v7 : w3.cell? ⟨w.heap.size, 7, none⟩ = some (.int .i64 x7) := cell_of_row _ _ 7 _ _ (0, 0) hO
          have v8 : w3.cell? ⟨w.heap.size, 8, none⟩ = some (.bool x8) := cell_of_row _ _ 8 _ _ (0, 0) hO
          have v9 : w3.cell? ⟨w.heap.size, 9, none⟩ = some (.slice xA m xc) := cell_of_row _ _ 9 _ _ (0, 0) hO
          exact ⟨.agg #[.int .u64 x0, .int .u64 x1, .int .u64 x2, .int .u64 x3, .string x4, .string x5, .int .i64 x6, .int .i64 x7, .bool x8, .slice xA m xc], w3, by simp only [execOp, h2]; simp [go_sem, v0, v1, v2, v3, v4, v5, v6, v7, v8, v9], PI.Post.pure ⟨fun w => Below.refl _ w, fun _ _ _ h k => h.trans k⟩ rfl (DpI.keep (d := 34) T.inv (by decide) (by decide) (Below.refl _ _) hB3)⟩
        · obtain rfl := Option.some.inj (show some _ = some o from ho)
          refine PI.shown_val rfl fun a w3 L0 hr T => ?_
          have hB3 : B ≤ w3.heap.size := Nat.le_trans hBW hr.size
          have h1 : a.eval (.tmp 2) = .int .i64 now := T.was 2 (by kernel_rfl)
          exact ⟨.int .i64 now, w3, by simp only [execOp, h1]; simp [go_sem], PI.Post.pure ⟨fun w => Below.refl _ w, fun _ _ _ h k => h.trans k⟩ rfl (DpI.keep (d := 35) T.inv (by decide) (by decide) (Below.refl _ _) hB3)⟩
        · obtain rfl := Option.some.inj (show some _ = some o from ho)
          refine PI.shown_call rfl 45 fun a w3 L0 hr T => ?_
          have hB3 : B ≤ w3.heap.size := Nat.le_trans hBW hr.size
          have h3 : a.eval (.tmp 33) = .agg #[.int .u64 x0, .int .u64 x1, .int .i64 f, .int .i64 la, .bool su, .slice eA q ec] := T.at_ 3 33 (by kernel_rfl) (by kernel_rfl) (by kernel_rfl)
          have h4 : a.eval (.tmp 34) = .agg #[.int .u64 x0, .int .u64 x1, .int .u64 x2, .int .u64 x3, .string x4, .string x5, .int .i64 x6, .int .i64 x7, .bool x8, .slice xA m xc] := T.at_ 4 34 (by kernel_rfl) (by kernel_rfl) (by kernel_rfl)
          have h5 : a.eval (.tmp 35) = .int .i64 now := T.at_ 5 35 (by kernel_rfl) (by kernel_rfl) (by kernel_rfl)
          refine ⟨#[.agg #[.int .u64 x0, .int .u64 x1, .int .i64 f, .int .i64 la, .bool su, .slice eA q ec], .agg #[.int .u64 x0, .int .u64 x1, .int .u64 x2, .int .u64 x3, .string x4, .string x5, .int .i64 x6, .int .i64 x7, .bool x8, .slice xA m xc], .int .i64 now], by simp only [execOp, resolve, List.map_toArray, List.map_cons, List.map_nil, h3, h4, h5]; simp [go_sem, Act.eval], ?_⟩
          refine (HADD.out w3 (hr.mono hBW) hB3).mono fun e w4 hh => ?_
          obtain ⟨A4, n4, c4, l4, rfl, hn4, hm4, hs4, hb4⟩ := hh
          exact ⟨_, rfl, hb4.mono hr.size, ⟨A4, n4, c4, l4, rfl, hn4, hm4, hs4⟩, fun _ _ h => h, fun j v _ _ _ _ h => h.keep hb4 hB3, DpI.keep (d := 36) T.inv (by decide) (by decide) hb4 hB3⟩
        · obtain rfl := Option.some.inj (show some _ = some o from ho)
          refine PI.shown_val rfl fun a w3 L0 hr T => ?_
          have hB3 : B ≤ w3.heap.size := Nat.le_trans hBW hr.size
          have h6 : DpF (some ⟨g1, 0, none⟩) n c1 k g1 W.heap.size B #[.int .u64 x0, .int .u64 x1, .int .i64 f, .int .i64 la, .bool su, .slice eA q ec] #[.int .u64 x0, .int .u64 x1, .int .u64 x2, .int .u64 x3, .string x4, .string x5, .int .i64 x6, .int .i64 x7, .bool x8, .slice xA m xc] x0 x1 f now su ok L2 6 (a.eval (.tmp 36)) w3 := T.at_ 6 36 (by kernel_rfl) (by kernel_rfl) (by kernel_rfl)
          exact ⟨a.eval (.tmp 36), w3, by simp only [execOp]; simp [go_sem], PI.Post.pure ⟨fun w => Below.refl _ w, fun _ _ _ h k => h.trans k⟩ h6 (DpI.keep (d := 29) T.inv (by decide) (by decide) (Below.refl _ _) hB3)⟩
        · obtain rfl := Option.some.inj (show some _ = some o from ho)
          refine PI.shown_val rfl fun a w3 L0 hr T => ?_
          have hB3 : B ≤ w3.heap.size := Nat.le_trans hBW hr.size
          obtain ⟨A4, n4, c4, l4, h7, hn4, hm4, hs4⟩ : DpF (some ⟨g1, 0, none⟩) n c1 k g1 W.heap.size B #[.int .u64 x0, .int .u64 x1, .int .i64 f, .int .i64 la, .bool su, .slice eA q ec] #[.int .u64 x0, .int .u64 x1, .int .u64 x2, .int .u64 x3, .string x4, .string x5, .int .i64 x6, .int .i64 x7, .bool x8, .slice xA m xc] x0 x1 f now su ok L2 7 (a.eval (.tmp 29)) w3 := T.at_ 7 29 (by kernel_rfl) (by kernel_rfl) (by kernel_rfl)
          exact ⟨.agg #[.int .u64 x0, .int .u64 x1, .int .i64 f, .int .i64 now, .bool su, .slice A4 n4 c4], w3, by simp only [execOp, h7]; simp [go_sem], PI.Post.pure ⟨fun w => Below.refl _ w, fun _ _ _ h k => h.trans k⟩ ⟨A4, n4, c4, l4, rfl, hn4, hm4, hs4⟩ (DpI.keep (d := 37) T.inv (by decide) (by decide) (Below.refl _ _) hB3)⟩
        · obtain rfl := Option.some.inj (show some _ = some o from ho)
          refine PI.shown_val rfl fun a w3 L0 hr T => ?_
          have hB3 : B ≤ w3.heap.size := Nat.le_trans hBW hr.size
          obtain ⟨A4, n4, c4, l4, h7, hn4, hm4, hs4⟩ : DpF (some ⟨g1, 0, none⟩) n c1 k g1 W.heap.size B #[.int .u64 x0, .int .u64 x1, .int .i64 f, .int .i64 la, .bool su, .slice eA q ec] #[.int .u64 x0, .int .u64 x1, .int .u64 x2, .int .u64 x3, .string x4, .string x5, .int .i64 x6, .int .i64 x7, .bool x8, .slice xA m xc] x0 x1 f now su ok L2 7 (a.eval (.tmp 29)) w3 := T.at_ 7 29 (by kernel_rfl) (by kernel_rfl) (by kernel_rfl)
          exact ⟨.bool ok, w3, by simp only [execOp, h7]; simp [go_sem], PI.Post.pure ⟨fun w => Below.refl _ w, fun _ _ _ h k => h.trans k⟩ rfl (DpI.keep (d := 38) T.inv (by decide) (by decide) (Below.refl _ _) hB3)⟩
        · obtain rfl := Option.some.inj (show some _ = some o from ho)
          refine PI.shown_val rfl fun a w3 L0 hr T => ?_
          have hB3 : B ≤ w3.heap.size := Nat.le_trans hBW hr.size
          have hb4 : Below w3.heap.size w3 (w3.alloc (.cells #[.int .u64 0, .int .u64 0, .int .i64 0, .int .i64 0, .bool false, .slice none 0 0] 30)) := (Below.refl _ _).alloc (Nat.le_refl _) _
          have hL11 : L0 11 = false := by
            cases h11 : L0 11 with
            | false => rfl
            | true =>
              have h7 := T.shut_ 11 10 (by kernel_rfl) h11
              rw [T.yetNot] at h7
              cases h7
          exact ⟨.pointer (some ⟨w3.heap.size, 0, none⟩), w3.alloc (.cells #[.int .u64 0, .int .u64 0, .int .i64 0, .int .i64 0, .bool false, .slice none 0 0] 30), by simp only [execOp]; simp [go_sem, zeroValue, typeInfo, hi9, hz0], hb4.mono hr.size, ⟨w3.heap.size, rfl, hr.size, heap_alloc_new w3 _⟩, fun _ _ h => h, fun j v _ _ _ _ h => h.keep hb4 hB3, DpI.none hL11 (by decide)⟩
        · obtain rfl := Option.some.inj (show some _ = some o from ho)
          refine PI.shown_skip rfl fun a w3 L0 hr T => ?_
          have hB3 : B ≤ w3.heap.size := Nat.le_trans hBW hr.size
          obtain ⟨A4, n4, c4, l4, h8, hn4, hm4, hs4⟩ : DpF (some ⟨g1, 0, none⟩) n c1 k g1 W.heap.size B #[.int .u64 x0, .int .u64 x1, .int .i64 f, .int .i64 la, .bool su, .slice eA q ec] #[.int .u64 x0, .int .u64 x1, .int .u64 x2, .int .u64 x3, .string x4, .string x5, .int .i64 x6, .int .i64 x7, .bool x8, .slice xA m xc] x0 x1 f now su ok L2 8 (a.eval (.tmp 37)) w3 := T.at_ 8 37 (by kernel_rfl) (by kernel_rfl) (by kernel_rfl)
          obtain ⟨g, h10, hg, hO⟩ : DpF (some ⟨g1, 0, none⟩) n c1 k g1 W.heap.size B #[.int .u64 x0, .int .u64 x1, .int .i64 f, .int .i64 la, .bool su, .slice eA q ec] #[.int .u64 x0, .int .u64 x1, .int .u64 x2, .int .u64 x3, .string x4, .string x5, .int .i64 x6, .int .i64 x7, .bool x8, .slice xA m xc] x0 x1 f now su ok L2 10 (a.eval (.tmp 11)) w3 := T.at_ 10 11 (by kernel_rfl) (by kernel_rfl) (by kernel_rfl)
          have k0 : w3.cell? ⟨g, 0, none⟩ = some (.int .u64 0) := cell_of_row _ _ 0 _ _ (0, 0) hO
          have f0 : w3.frozen? ⟨g, 0, none⟩ = false := by simp [World.frozen?, hO]
          have k1 : w3.cell? ⟨g, 1, none⟩ = some (.int .u64 0) := cell_of_row _ _ 1 _ _ (0, 0) hO
          have f1 : w3.frozen? ⟨g, 1, none⟩ = false := by simp [World.frozen?, hO]
          have k2 : w3.cell? ⟨g, 2, none⟩ = some (.int .i64 0) := cell_of_row _ _ 2 _ _ (0, 0) hO
          have f2 : w3.frozen? ⟨g, 2, none⟩ = false := by simp [World.frozen?, hO]
          have k3 : w3.cell? ⟨g, 3, none⟩ = some (.int .i64 0) := cell_of_row _ _ 3 _ _ (0, 0) hO
          have f3 : w3.frozen? ⟨g, 3, none⟩ = false := by simp [World.frozen?, hO]
          have k4 : w3.cell? ⟨g, 4, none⟩ = some (.bool false) := cell_of_row _ _ 4 _ _ (0, 0) hO
          have f4 : w3.frozen? ⟨g, 4, none⟩ = false := by simp [World.frozen?, hO]
          have k5 : w3.cell? ⟨g, 5, none⟩ = some (.slice none 0 0) := cell_of_row _ _ 5 _ _ (0, 0) hO
          have f5 : w3.frozen? ⟨g, 5, none⟩ = false := by simp [World.frozen?, hO]
          have o0 := heap_setCell_same w3 g 0 _ _ (.int .u64 x0) hO
          have o1 := heap_setCell_same (w3.setCell ⟨g, 0, none⟩ (.int .u64 x0)) g 1 _ _ (.int .u64 x1) o0
          have o2 := heap_setCell_same ((w3.setCell ⟨g, 0, none⟩ (.int .u64 x0)).setCell ⟨g, 1, none⟩ (.int .u64 x1)) g 2 _ _ (.int .i64 f) o1
          have o3 := heap_setCell_same (((w3.setCell ⟨g, 0, none⟩ (.int .u64 x0)).setCell ⟨g, 1, none⟩ (.int .u64 x1)).setCell ⟨g, 2, none⟩ (.int .i64 f)) g 3 _ _ (.int .i64 now) o2
          have o4 := heap_setCell_same ((((w3.setCell ⟨g, 0, none⟩ (.int .u64 x0)).setCell ⟨g, 1, none⟩ (.int .u64 x1)).setCell ⟨g, 2, none⟩ (.int .i64 f)).setCell ⟨g, 3, none⟩ (.int .i64 now)) g 4 _ _ (.bool su) o3
          have o5 := heap_setCell_same (((((w3.setCell ⟨g, 0, none⟩ (.int .u64 x0)).setCell ⟨g, 1, none⟩ (.int .u64 x1)).setCell ⟨g, 2, none⟩ (.int .i64 f)).setCell ⟨g, 3, none⟩ (.int .i64 now)).setCell ⟨g, 4, none⟩ (.bool su)) g 5 _ _ (.slice A4 n4 c4) o4
          have hBg : B ≤ g := Nat.le_trans hBW hg
          refine ⟨((((((w3.setCell ⟨g, 0, none⟩ (.int .u64 x0)).setCell ⟨g, 1, none⟩ (.int .u64 x1)).setCell ⟨g, 2, none⟩ (.int .i64 f)).setCell ⟨g, 3, none⟩ (.int .i64 now)).setCell ⟨g, 4, none⟩ (.bool su)).setCell ⟨g, 5, none⟩ (.slice A4 n4 c4)), by simp only [execOp, h8, h10]; simp [go_sem, k0, k1, k2, k3, k4, k5, f0, f1, f2, f3, f4, f5], ?_, trivial, fun _ _ h => h, fun j v hj hLj hnd hvj h => ?_, fun _ => ⟨g, A4, n4, c4, l4, ?_, hg, six_store6 hO, hn4, ((((((hm4.set hO hBg _).set o0 hBg _).set o1 hBg _).set o2 hBg _).set o3 hBg _).set o4 hBg _), hs4⟩⟩
          · repeat' (first | (with_reducible exact Below.refl _ _) | (refine Below.setCell ?_ hg _))
          · have hj10 : j ≠ 10 := fun e => by subst e; simp [PI.needB] at hnd
            exact ((((((h.set hO hBg hj10 _).set o0 hBg hj10 _).set o1 hBg hj10 _).set o2 hBg hj10 _).set o3 hBg hj10 _).set o4 hBg hj10 _)
          · have h11 := h10
            simpa [Act.eval, Act.put] using h11
        · obtain rfl := Option.some.inj (show some _ = some o from ho)
          refine PI.shown_val rfl fun a w3 L0 hr T => ?_
          have hB3 : B ≤ w3.heap.size := Nat.le_trans hBW hr.size
          have h9 : a.eval (.tmp 38) = .bool ok := T.at_ 9 38 (by kernel_rfl) (by kernel_rfl) (by kernel_rfl)
          exact ⟨.bool ok, w3, by simp only [execOp, h9]; simp [go_sem], PI.Post.pure ⟨fun w => Below.refl _ w, fun _ _ _ h k => h.trans k⟩ rfl (DpI.keep (d := 12) T.inv (by decide) (by decide) (Below.refl _ _) hB3)⟩
        · cases ho
      · rw [← hW]
        intro x w9 hr hf he hI
        obtain ⟨g, A2, q2, c2, l2, hp, hg, hO, hq2, hm2, hs2⟩ := hI rfl
        simp only [PI.putAll, Act.put, List.setIfInBounds_toArray, List.set_cons_zero, List.set_cons_succ] at hp ⊢
        have hx10 : x 10 = .pointer (some ⟨g, 0, none⟩) := hp
        rw [hx10]
        have HR9 : Hid (RowEps w9 (w.alloc (.cells #[.int .u64 x0, .int .u64 x1, .int .u64 x2, .int .u64 x3, .string x4, .string x5, .int .i64 x6, .int .i64 x7, .bool x8, .slice xA m xc] 42)).heap.size B (.slice (some ⟨g1, 0, none⟩) n c1) l) := Lib.hid (HORW.out.below hr hBW)
        have hg1W : g1 < W.heap.size := (row_block HORW.out HN.out).2.1
        have hne : ¬ (g = g1) := by omega
        have hne2 : ¬ (g1 = g) := by omega
        have HO := Lib.hid hO
        have HM2 := Lib.hid hm2
        have HS2 := Lib.hid hs2
        have HQ2 := Lib.hid hq2
        have HG := Lib.hid hg
        have HR := Lib.hid hr
        have HG1 := Lib.hid hg1W
        clear hO hm2 hs2 hq2 hf he hI hp hx10 hr
        have o0 : w9.cell? ⟨g, 0, none⟩ = some (.int .u64 x0) := cell_of_row _ _ 0 _ _ (0, 0) HO.out
        have p0 : w9.frozen? ⟨g, 0, none⟩ = false := by simp [World.frozen?, HO.out]
        have o1 : w9.cell? ⟨g, 1, none⟩ = some (.int .u64 x1) := cell_of_row _ _ 1 _ _ (0, 0) HO.out
        have p1 : w9.frozen? ⟨g, 1, none⟩ = false := by simp [World.frozen?, HO.out]
        have o2 : w9.cell? ⟨g, 2, none⟩ = some (.int .i64 f) := cell_of_row _ _ 2 _ _ (0, 0) HO.out
        have p2 : w9.frozen? ⟨g, 2, none⟩ = false := by simp [World.frozen?, HO.out]
        have o3 : w9.cell? ⟨g, 3, none⟩ = some (.int .i64 now) := cell_of_row _ _ 3 _ _ (0, 0) HO.out
        have p3 : w9.frozen? ⟨g, 3, none⟩ = false := by simp [World.frozen?, HO.out]
        have o4 : w9.cell? ⟨g, 4, none⟩ = some (.bool su) := cell_of_row _ _ 4 _ _ (0, 0) HO.out
        have p4 : w9.frozen? ⟨g, 4, none⟩ = false := by simp [World.frozen?, HO.out]
        have o5 : w9.cell? ⟨g, 5, none⟩ = some (.slice A2 q2 c2) := cell_of_row _ _ 5 _ _ (0, 0) HO.out
        have p5 : w9.frozen? ⟨g, 5, none⟩ = false := by simp [World.frozen?, HO.out]
        have d0 : w9.cell? ⟨g1, k * 6, none⟩ = some (.int .u64 x0) := (by exact row_ecell HR9.out HN.out HE0.out 0 (by omega))
        have f0 : w9.frozen? ⟨g1, k * 6, none⟩ = false := row_frozen HR9.out HN.out i3 0 (by omega)
        have d1 : w9.cell? ⟨g1, k * 6 + 1, none⟩ = some (.int .u64 x1) := (by exact row_ecell HR9.out HN.out HE0.out 1 (by omega))
        have f1 : w9.frozen? ⟨g1, k * 6 + 1, none⟩ = false := row_frozen HR9.out HN.out i3 1 (by omega)
        have d2 : w9.cell? ⟨g1, k * 6 + 2, none⟩ = some (.int .i64 f) := (by exact row_ecell HR9.out HN.out HE0.out 2 (by omega))
        have f2 : w9.frozen? ⟨g1, k * 6 + 2, none⟩ = false := row_frozen HR9.out HN.out i3 2 (by omega)
        have d3 : w9.cell? ⟨g1, k * 6 + 3, none⟩ = some (.int .i64 la) := (by exact row_ecell HR9.out HN.out HE0.out 3 (by omega))
        have f3 : w9.frozen? ⟨g1, k * 6 + 3, none⟩ = false := row_frozen HR9.out HN.out i3 3 (by omega)
        have d4 : w9.cell? ⟨g1, k * 6 + 4, none⟩ = some (.bool su) := (by exact row_ecell HR9.out HN.out HE0.out 4 (by omega))
        have f4 : w9.frozen? ⟨g1, k * 6 + 4, none⟩ = false := row_frozen HR9.out HN.out i3 4 (by omega)
        have d5 : w9.cell? ⟨g1, k * 6 + 5, none⟩ = some (.slice eA q ec) := (by rw [HQ.out]; exact row_ecell HR9.out HN.out HE0.out 5 (by omega))
        have f5 : w9.frozen? ⟨g1, k * 6 + 5, none⟩ = false := row_frozen HR9.out HN.out i3 5 (by omega)
        obtain ⟨sn, hsn⟩ : ∃ sn, sn = (su || sure) := ⟨_, rfl⟩
        rw [← hsn] at HPE
        have hss : (su = true ∧ sn = true) ∨ (su = false ∧ sn = sure) := by cases su <;> simp [hsn]
        clear hsn
        have FIN : Hid (∀ w10, w10 = w9.setCell ⟨g, 4, none⟩ (.bool sn) → RowEps w10 (w.alloc (.cells #[.int .u64 x0, .int .u64 x1, .int .u64 x2, .int .u64 x3, .string x4, .string x5, .int .i64 x6, .int .i64 x7, .bool x8, .slice xA m xc] 42)).heap.size B (.slice (some ⟨g1, 0, none⟩) n c1) l ∧ MixSps w10 B A2 l2 ∧ Below w.heap.size w w10) := Lib.hid (by
          rintro w10 rfl
          have hb := HR.out.setCell (p := ⟨g, 4, none⟩) HG.out (.bool sn)
          exact ⟨HORW.out.below hb hBW, HM2.out.set HO.out (Nat.le_trans hBW HG.out) _, HFW.out.trans (hb.mono HFW.out.size)⟩)
        rcases hss with ⟨rfl, rfl⟩ | ⟨rfl, rfl⟩
        · go_wp2_with fail
          go_ret
          obtain ⟨hR10, hM10, hB10⟩ := FIN.out _ rfl
          obtain ⟨r1, r2, r3⟩ := RowEps.put6 hR10 HN.out i3 ⟨x0, x1, f, now, true, l2, A2, c2⟩ q2 HQ2.out (by rw [HZ0.out]; omega) hM10
          rw [← r3] at r1
          have hBB := hB10.trans (r2.mono (by rw [HZ0.out]; omega))
          have hEQ : (l.set k ⟨x0, x1, f, now, true, l2, A2, c2⟩).map Le.ep = putE (l.map Le.ep) ⟨x0, x1, x2, x3, x4, x5, x6, x7, x8, ats⟩ now sure := by
            have h7 : (Le.mk x0 x1 f now true l2 A2 c2).ep = ⟨x0, x1, f, now, true, L2⟩ := by rw [← HS2.out]; rfl
            rw [HPE.out, List.map_set, h7]
          have hLN : n = (l.set k ⟨x0, x1, f, now, true, l2, A2, c2⟩).length := by rw [List.length_set, ← HN.out]
          exact ⟨some ⟨g1, 0, none⟩, c1, _, congrArg (fun z => Ending.returned (.slice (some ⟨g1, 0, none⟩) z c1)) hLN, r1, hEQ, hBB⟩
        · go_wp2_with fail
          go_ret
          obtain ⟨hR10, hM10, hB10⟩ := FIN.out _ rfl
          obtain ⟨r1, r2, r3⟩ := RowEps.put6 hR10 HN.out i3 ⟨x0, x1, f, now, sn, l2, A2, c2⟩ q2 HQ2.out (by rw [HZ0.out]; omega) hM10
          rw [← r3] at r1
          have hBB := hB10.trans (r2.mono (by rw [HZ0.out]; omega))
          have hEQ : (l.set k ⟨x0, x1, f, now, sn, l2, A2, c2⟩).map Le.ep = putE (l.map Le.ep) ⟨x0, x1, x2, x3, x4, x5, x6, x7, x8, ats⟩ now sn := by
            have h7 : (Le.mk x0 x1 f now sn l2 A2 c2).ep = ⟨x0, x1, f, now, sn, L2⟩ := by rw [← HS2.out]; rfl
            rw [HPE.out, List.map_set, h7]
          have hLN : n = (l.set k ⟨x0, x1, f, now, sn, l2, A2, c2⟩).length := by rw [List.length_set, ← HN.out]
          exact ⟨some ⟨g1, 0, none⟩, c1, _, congrArg (fun z => Ending.returned (.slice (some ⟨g1, 0, none⟩) z c1)) hLN, r1, hEQ, hBB⟩
end Go.Proofs.Ytenioeppmgmdiaa
