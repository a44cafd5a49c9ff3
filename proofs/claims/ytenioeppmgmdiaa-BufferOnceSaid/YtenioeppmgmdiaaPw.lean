/- buffer.PutOwn: a span put into the first episode of its trace, in memory of one's own. -/
import Derived.Test.YtenioeppmgmdiaaOk
namespace Go.Proofs.Ytenioeppmgmdiaa
open Go.RowKit
set_option linter.unusedVariables false
set_option linter.unusedSimpArgs false
set_option maxRecDepth 100000

def PutOf (L : List Ep) (base : Nat) (w : World) (e : Ending) (w' : World) : Prop := ∃ (v' : Value) (l' : List Le), e = .returned v' ∧ OwnEps w' base v' l' ∧ l'.map Le.ep = L ∧ Below base w w'
theorem own_ecell {w : World} {base g n c : Nat} {l : List Le} (h : OwnEps w base (.slice (some ⟨g, 0, none⟩) n c) l) (hn : n = l.length) {k : Nat} {e : Le} (he : l[k]? = some e) (j : Nat) (hj : j < 6) : w.frozen? ⟨g, k * 6 + j, none⟩ = false ∧ w.cell? ⟨g, k * 6 + j, none⟩ = e.cells[j]? := by
  have hk : k < l.length := by
    rcases Nat.lt_or_ge k l.length with h | h
    · exact h
    · rw [List.getElem?_eq_none h] at he; cases he
  subst hn
  obtain ⟨h1, h2, _, _⟩ := own_setk h.own (i := k * 6 + j) (by omega) (.bool true)
  refine ⟨h1, h2.trans ?_⟩
  rw [flatMap_at _ 6 ecells_len l k j hj, he]
  rfl
theorem own_row_block {w : World} {base g n c : Nat} {l : List Le} (h : OwnEps w base (.slice (some ⟨g, 0, none⟩) n c) l) (hn : n = l.length) : base ≤ g ∧ g < w.heap.size ∧ ∃ cs, w.heap[g]? = some (.cells cs 30) := by
  subst hn
  have h1 := own_block_ge h.own g rfl
  have h2 := own_block_lt h.own g rfl
  rcases h.own.2 with ⟨h0, _⟩ | ⟨g', cap', cur, hv, hb, hg, _⟩
  · cases h0
  · simp only [Value.slice.injEq, Option.some.injEq, Addr.mk.injEq] at hv
    obtain ⟨⟨rfl, _⟩, _, rfl⟩ := hv
    exact ⟨h1, h2, cur, hg⟩
theorem own_form {w : World} {base n : Nat} {v : Value} {l : List Le} (h : OwnEps w base v l) (hn : 0 < l.length) : ∃ g cap, v = .slice (some ⟨g, 0, none⟩) l.length cap := by
  obtain ⟨g, cap, hv, _⟩ := h.own.form hn
  exact ⟨g, cap, hv⟩
/-- One of them replaced, cell by cell; and its Sure once more. -/
theorem OwnEps.put {w : World} {base g n c : Nat} {l : List Le} (h : OwnEps w base (.slice (some ⟨g, 0, none⟩) n c) l) (hn : n = l.length) {k : Nat} (hk : k < n) (e : Le) (he : OwnE w base e) (q : Nat) (hq : q = e.l.length) (sn : Bool) :
    OwnEps (((((((w.setCell ⟨g, k * 6, none⟩ (.int .u64 e.hi)).setCell ⟨g, k * 6 + 1, none⟩ (.int .u64 e.lo)).setCell ⟨g, k * 6 + 2, none⟩ (.int .i64 e.f)).setCell ⟨g, k * 6 + 3, none⟩ (.int .i64 e.la)).setCell ⟨g, k * 6 + 4, none⟩ (.bool e.su)).setCell ⟨g, k * 6 + 5, none⟩ (.slice e.A q e.c)).setCell ⟨g, k * 6 + 4, none⟩ (.bool sn)) base (.slice (some ⟨g, 0, none⟩) n c) (l.set k { e with su := sn }) := by
  subst hq
  obtain ⟨hbg, hgl, cs, hcs⟩ := own_row_block h hn
  subst hn
  have h0 := (own_setk h.own (i := k * 6) (by omega) (.int .u64 e.hi)).2.2.1
  have h1 := (own_setk h0 (i := k * 6 + 1) (by omega) (.int .u64 e.lo)).2.2.1
  have h2 := (own_setk h1 (i := k * 6 + 2) (by omega) (.int .i64 e.f)).2.2.1
  have h3 := (own_setk h2 (i := k * 6 + 3) (by omega) (.int .i64 e.la)).2.2.1
  have h4 := (own_setk h3 (i := k * 6 + 4) (by omega) (.bool e.su)).2.2.1
  have h5 := (own_setk h4 (i := k * 6 + 5) (by omega) (.slice e.A e.l.length e.c)).2.2.1
  rw [set6 l k e hk] at h5
  have hk5 : (l.set k e)[k]? = some e := by simp [hk]
  have h6 := (own_setk h5 (i := k * 6 + 4) (by omega) (.bool sn)).2.2.1
  rw [set_su _ k e sn hk5, List.set_set] at h6
  have keepS : ∀ (v : Value) (ls : List Ls), OwnSps w base v ls → OwnSps (((((((w.setCell ⟨g, k * 6, none⟩ (.int .u64 e.hi)).setCell ⟨g, k * 6 + 1, none⟩ (.int .u64 e.lo)).setCell ⟨g, k * 6 + 2, none⟩ (.int .i64 e.f)).setCell ⟨g, k * 6 + 3, none⟩ (.int .i64 e.la)).setCell ⟨g, k * 6 + 4, none⟩ (.bool e.su)).setCell ⟨g, k * 6 + 5, none⟩ (.slice e.A e.l.length e.c)).setCell ⟨g, k * 6 + 4, none⟩ (.bool sn)) base v ls := fun v ls hs => by
    have a0 := OwnSps.else (p := ⟨g, k * 6, none⟩) hs hcs (by decide) (by decide) (.int .u64 e.hi)
    have b0 := heap_setCell_same w g (k * 6) _ _ (.int .u64 e.hi) hcs
    have a1 := OwnSps.else (p := ⟨g, k * 6 + 1, none⟩) a0 b0 (by decide) (by decide) (.int .u64 e.lo)
    have b1 := heap_setCell_same _ g (k * 6 + 1) _ _ (.int .u64 e.lo) b0
    have a2 := OwnSps.else (p := ⟨g, k * 6 + 2, none⟩) a1 b1 (by decide) (by decide) (.int .i64 e.f)
    have b2 := heap_setCell_same _ g (k * 6 + 2) _ _ (.int .i64 e.f) b1
    have a3 := OwnSps.else (p := ⟨g, k * 6 + 3, none⟩) a2 b2 (by decide) (by decide) (.int .i64 e.la)
    have b3 := heap_setCell_same _ g (k * 6 + 3) _ _ (.int .i64 e.la) b2
    have a4 := OwnSps.else (p := ⟨g, k * 6 + 4, none⟩) a3 b3 (by decide) (by decide) (.bool e.su)
    have b4 := heap_setCell_same _ g (k * 6 + 4) _ _ (.bool e.su) b3
    have a5 := OwnSps.else (p := ⟨g, k * 6 + 5, none⟩) a4 b4 (by decide) (by decide) (.slice e.A e.l.length e.c)
    have b5 := heap_setCell_same _ g (k * 6 + 5) _ _ (.slice e.A e.l.length e.c) b4
    exact OwnSps.else (p := ⟨g, k * 6 + 4, none⟩) a5 b5 (by decide) (by decide) (.bool sn)
  refine ⟨by rw [List.length_set]; exact h6, fun y hy => ?_⟩
  rcases List.mem_or_eq_of_mem_set hy with hy | rfl
  · exact keepS _ _ (h.each y hy)
  · exact keepS _ _ he
theorem add_any (th tl f la : Int) (su : Bool) (eA : Option Addr) (ls : List Ls) (q ec : Nat) (x2 x3 : Int) (x4 x5 : ByteArray) (x6 x7 : Int) (x8 : Bool) (xA : Option Addr) (m xc : Nat) (ats : List (ByteArray × ByteArray)) (now : Int) (B : Nat) (w : World)
    (hn : q = ls.length) (hy : RdSps w B eA ls) (hm : m = ats.length) (hx : RdL w B ⟨⟨th, tl, x2, x3, x4, x5, x6, x7, x8, ats⟩, xA, xc⟩) (hB : B ≤ w.heap.size) (hl : q ≤ 90000) (ha : ∀ x ∈ ls, x.s.ats.length ≤ 100000) (hml : m ≤ 100000) :
    ∃ ok, Calls Try.prog 56 #[.agg #[.int .u64 th, .int .u64 tl, .int .i64 f, .int .i64 la, .bool su, .slice eA q ec], .agg #[.int .u64 th, .int .u64 tl, .int .u64 x2, .int .u64 x3, .string x4, .string x5, .int .i64 x6, .int .i64 x7, .bool x8, .slice xA m xc], .int .i64 now] w (AddEp th tl f now su (if hasId (ls.map Ls.s) x2 then ls.map Ls.s else ls.map Ls.s ++ [⟨th, tl, x2, x3, x4, x5, x6, x7, x8, ats⟩]) ok w) := by
  cases hh : hasId (ls.map Ls.s) x2 with
  | true => exact ⟨false, add_had th tl f la su eA ls q ec x2 x3 x4 x5 x6 x7 x8 xA m xc ats now B w hn hy hm hx hB hl ha hml hh⟩
  | false => exact ⟨true, add_new th tl f la su eA ls q ec x2 x3 x4 x5 x6 x7 x8 xA m xc ats now B w hn hy hm hx hB hl ha hml hh⟩
/-- A row of one span of one's own, as a literal lays it. -/
theorem oneSps (w : World) (A : Option Addr) (c m : Nat) {x0 x1 x2 x3 : Int} {x4 x5 : ByteArray} {x6 x7 : Int} {x8 : Bool} {ats : List (ByteArray × ByteArray)} {base : Nat} (hm : m = ats.length) (h : OwnL w base ⟨⟨x0, x1, x2, x3, x4, x5, x6, x7, x8, ats⟩, A, c⟩) (hb : base ≤ w.heap.size) :
    OwnSps (w.alloc (.cells #[.int .u64 x0, .int .u64 x1, .int .u64 x2, .int .u64 x3, .string x4, .string x5, .int .i64 x6, .int .i64 x7, .bool x8, .slice A m c] 42)) base (.slice (some ⟨w.heap.size, 0, none⟩) 1 1) [⟨⟨x0, x1, x2, x3, x4, x5, x6, x7, x8, ats⟩, A, c⟩] := by
  refine ⟨?_, fun x hx => ?_⟩
  · have h1 := World.ownsRow_lit (e := 42) (size := 10) w #[.int .u64 x0, .int .u64 x1, .int .u64 x2, .int .u64 x3, .string x4, .string x5, .int .i64 x6, .int .i64 x7, .bool x8, .slice A m c] 1 hb (by unfold maxLen; omega) rfl
    rw [hm] at h1 ⊢
    simpa [Ls.cells] using h1
  · rw [List.mem_singleton] at hx
    subst hx
    exact h.below ((Below.refl _ _).alloc (Nat.le_refl _) _)
structure PutBelow (base : Nat) (w w' : World) : Prop where
  below : Below base w w'
  size2 : base ≤ w'.heap.size
set_option maxHeartbeats 16000000 in
theorem putown_any (A : Option Addr) (l : List Le) (n c : Nat) (x0 x1 x2 x3 : Int) (x4 x5 : ByteArray) (x6 x7 : Int) (x8 : Bool) (ats : List (ByteArray × ByteArray)) (xA : Option Addr) (m xc : Nat) (now : Int) (sure : Bool) (base : Nat) (w : World)
    (hn : n = l.length) (ho : OwnEps w base (.slice A n c) l) (hbase : base ≤ w.heap.size) (hm : m = ats.length) (hx : RdL w base ⟨⟨x0, x1, x2, x3, x4, x5, x6, x7, x8, ats⟩, xA, xc⟩) (hg : ModE l) (hml : m ≤ 100000) :
    Calls Try.prog 44 #[.slice A n c, .agg #[.int .u64 x0, .int .u64 x1, .int .u64 x2, .int .u64 x3, .string x4, .string x5, .int .i64 x6, .int .i64 x7, .bool x8, .slice xA m xc], .int .i64 now, .bool sure] w (PutOf (putE (l.map Le.ep) ⟨x0, x1, x2, x3, x4, x5, x6, x7, x8, ats⟩ now sure) base w) := by
  have HN := Lib.hid hn
  have HM := Lib.hid hm
  have HX := Lib.hid hx
  have HO := Lib.hid ho
  obtain ⟨hgl, hge⟩ := hg
  have HGE := Lib.hid hge
  have hn1 : n ≤ 100000 := by omega
  have HX0 := Lib.hid (heap_alloc_new w (.cells #[.int .u64 x0, .int .u64 x1, .int .u64 x2, .int .u64 x3, .string x4, .string x5, .int .i64 x6, .int .i64 x7, .bool x8, .slice xA m xc] 42))
  have HZ0 : Hid ((w.alloc (.cells #[.int .u64 x0, .int .u64 x1, .int .u64 x2, .int .u64 x3, .string x4, .string x5, .int .i64 x6, .int .i64 x7, .bool x8, .slice xA m xc] 42)).heap.size = w.heap.size + 1) := Lib.hid (by simp)
  have HBB : Hid (∀ W, Below (w.heap.size + 1) (w.alloc (.cells #[.int .u64 x0, .int .u64 x1, .int .u64 x2, .int .u64 x3, .string x4, .string x5, .int .i64 x6, .int .i64 x7, .bool x8, .slice xA m xc] 42)) W → Below w.heap.size w W ∧ w.heap.size + 1 ≤ W.heap.size ∧ W.heap[w.heap.size]? = some (.cells #[.int .u64 x0, .int .u64 x1, .int .u64 x2, .int .u64 x3, .string x4, .string x5, .int .i64 x6, .int .i64 x7, .bool x8, .slice xA m xc] 42)) := Lib.hid (fun W hW => ⟨((Below.refl _ _).alloc (Nat.le_refl _) _).trans (hW.mono (Nat.le_succ _)), by have h := hW.size; simpa using h, (hW.block _ (by omega)).trans HX0.out⟩)
  have HBS : Hid (Below (w.heap.size + 1) (w.alloc (.cells #[.int .u64 x0, .int .u64 x1, .int .u64 x2, .int .u64 x3, .string x4, .string x5, .int .i64 x6, .int .i64 x7, .bool x8, .slice xA m xc] 42)) (w.alloc (.cells #[.int .u64 x0, .int .u64 x1, .int .u64 x2, .int .u64 x3, .string x4, .string x5, .int .i64 x6, .int .i64 x7, .bool x8, .slice xA m xc] 42))) := Lib.hid (Below.refl _ _)
  clear hn ho hm hx hge hgl
  go_enter Try.func44, Try.ntmps44
  go_wp2_with fail
  generalize w.alloc (.cells #[.int .u64 x0, .int .u64 x1, .int .u64 x2, .int .u64 x3, .string x4, .string x5, .int .i64 x6, .int .i64 x7, .bool x8, .slice xA m xc] 42) = W0 at *
  go_loopw [14] (fun i wr => ∃ k : Nat, i = .int .i64 k ∧ k ≤ n ∧ Hid (∀ e ∈ (l.map Le.ep).take k, ¬ (e.hi = x0 ∧ e.lo = x1)) ∧ Hid (Below (w.heap.size + 1) W0 wr)) (fun i _ => n - (intOf i).toNat)
  case atStart => exact ⟨0, rfl, Nat.zero_le _, Lib.hid (by simp), HBS⟩
  case round =>
    obtain ⟨k, rfl, hk, HK, HB⟩ := hrel
    obtain ⟨hbw, hsz, hbx⟩ := HBB.out wr HB.out
    have HBW := Lib.hid hbw
    have HSZ := Lib.hid hsz
    have HBX := Lib.hid hbx
    have HOR := Lib.hid (HO.out.below hbw)
    clear hbw hsz hbx
    by_cases hlt : k < n
    · obtain ⟨e, he⟩ : ∃ e, l[k]? = some e := ⟨_, List.getElem?_eq_getElem (by rw [← HN.out]; exact hlt)⟩
      obtain ⟨hql, hqa⟩ := HGE.out e (List.mem_of_getElem? he)
      obtain ⟨g, c', hv⟩ := own_form (n := 0) HOR.out (by rw [← HN.out]; omega)
      rw [← HN.out] at hv
      simp only [Value.slice.injEq, true_and] at hv
      obtain ⟨rfl, rfl⟩ := hv
      obtain ⟨th, tl, f, la, su, ls, eA, ec⟩ := e
      obtain ⟨q, hq⟩ : ∃ q, q = ls.length := ⟨_, rfl⟩
      simp only at hql hqa
      rw [← hq] at hql
      have c0 : wr.cell? ⟨g, k * 6, none⟩ = some (.int .u64 th) := by exact (own_ecell HOR.out HN.out he 0 (by omega)).2
      have c1 : wr.cell? ⟨g, k * 6 + 1, none⟩ = some (.int .u64 tl) := by exact (own_ecell HOR.out HN.out he 1 (by omega)).2
      have c2 : wr.cell? ⟨g, k * 6 + 2, none⟩ = some (.int .i64 f) := by exact (own_ecell HOR.out HN.out he 2 (by omega)).2
      have c3 : wr.cell? ⟨g, k * 6 + 3, none⟩ = some (.int .i64 la) := by exact (own_ecell HOR.out HN.out he 3 (by omega)).2
      have c4 : wr.cell? ⟨g, k * 6 + 4, none⟩ = some (.bool su) := by exact (own_ecell HOR.out HN.out he 4 (by omega)).2
      have c5 : wr.cell? ⟨g, k * 6 + 5, none⟩ = some (.slice eA q ec) := by rw [hq]; exact (own_ecell HOR.out HN.out he 5 (by omega)).2
      have hEP : (l.map Le.ep)[k]? = some ⟨th, tl, f, la, su, ls.map Ls.s⟩ := by rw [List.getElem?_map, he]; rfl
      have HEP := Lib.hid hEP
      have HE := Lib.hid he
      have HQ := Lib.hid hq
      have HQA := Lib.hid hqa
      have HBA := Lib.hid (HB.out.alloc HSZ.out (.cells #[.int .u64 th, .int .u64 tl, .int .i64 f, .int .i64 la, .bool su, .slice eA q ec] 30))
      have HBA2 : Hid (Below wr.heap.size wr (wr.alloc (.cells #[.int .u64 th, .int .u64 tl, .int .i64 f, .int .i64 la, .bool su, .slice eA q ec] 30))) := Lib.hid ((Below.refl _ _).alloc (Nat.le_refl _) _)
      have hsw : w.heap.size < wr.heap.size := HSZ.out
      have hgw : g < wr.heap.size := (own_row_block HOR.out HN.out).2.1
      have s0 : wr.cell? ⟨w.heap.size, 0, none⟩ = some (.int .u64 x0) := cell_of_row _ _ 0 _ _ (0, 0) HBX.out
      have s1 : wr.cell? ⟨w.heap.size, 1, none⟩ = some (.int .u64 x1) := cell_of_row _ _ 1 _ _ (0, 0) HBX.out
      have s2 : wr.cell? ⟨w.heap.size, 2, none⟩ = some (.int .u64 x2) := cell_of_row _ _ 2 _ _ (0, 0) HBX.out
      have s3 : wr.cell? ⟨w.heap.size, 3, none⟩ = some (.int .u64 x3) := cell_of_row _ _ 3 _ _ (0, 0) HBX.out
      have s4 : wr.cell? ⟨w.heap.size, 4, none⟩ = some (.string x4) := cell_of_row _ _ 4 _ _ (0, 0) HBX.out
      have s5 : wr.cell? ⟨w.heap.size, 5, none⟩ = some (.string x5) := cell_of_row _ _ 5 _ _ (0, 0) HBX.out
      have s6 : wr.cell? ⟨w.heap.size, 6, none⟩ = some (.int .i64 x6) := cell_of_row _ _ 6 _ _ (0, 0) HBX.out
      have s7 : wr.cell? ⟨w.heap.size, 7, none⟩ = some (.int .i64 x7) := cell_of_row _ _ 7 _ _ (0, 0) HBX.out
      have s8 : wr.cell? ⟨w.heap.size, 8, none⟩ = some (.bool x8) := cell_of_row _ _ 8 _ _ (0, 0) HBX.out
      have s9 : wr.cell? ⟨w.heap.size, 9, none⟩ = some (.slice xA m xc) := cell_of_row _ _ 9 _ _ (0, 0) HBX.out
      clear he hq hqa hEP
      by_cases ht : th = x0 ∧ tl = x1
      · obtain ⟨rfl, rfl⟩ := ht
        have HPE : Hid (putE (l.map Le.ep) ⟨th, tl, x2, x3, x4, x5, x6, x7, x8, ats⟩ now sure = (l.map Le.ep).set k ⟨th, tl, f, now, su || sure, if hasId (ls.map Ls.s) x2 then ls.map Ls.s else ls.map Ls.s ++ [⟨th, tl, x2, x3, x4, x5, x6, x7, x8, ats⟩]⟩) := Lib.hid (putE_some _ _ now sure k _ HEP.out ⟨rfl, rfl⟩ HK.out)
        have HRE : Hid (RdSps wr wr.heap.size eA ls) := Lib.hid (OwnE.rd (HOR.out.each _ (List.mem_of_getElem? HE.out)))
        have HXR : Hid (RdL wr wr.heap.size ⟨⟨th, tl, x2, x3, x4, x5, x6, x7, x8, ats⟩, xA, xc⟩) := Lib.hid ((HX.out.below (HBW.out.mono hbase)).more (Nat.le_trans hbase HBW.out.size))
        obtain ⟨ok, hadd⟩ := add_any th tl f la su eA ls q ec x2 x3 x4 x5 x6 x7 x8 xA m xc ats now wr.heap.size (wr.alloc (.cells #[.int .u64 th, .int .u64 tl, .int .i64 f, .int .i64 la, .bool su, .slice eA q ec] 30)) HQ.out (HRE.out.below HBA2.out) HM.out (HXR.out.below HBA2.out) (by simp) hql HQA.out hml
        have HADD := Lib.hid hadd
        clear hadd
        generalize (if hasId (ls.map Ls.s) x2 then ls.map Ls.s else ls.map Ls.s ++ [⟨th, tl, x2, x3, x4, x5, x6, x7, x8, ats⟩]) = L2 at *
        obtain ⟨sn, hsn⟩ : ∃ sn, sn = (su || sure) := ⟨_, rfl⟩
        rw [← hsn] at HPE
        have hss : (su = true ∧ sn = true) ∨ (su = false ∧ sn = sure) := by cases su <;> simp [hsn]
        clear hsn
        rcases hss with ⟨rfl, rfl⟩ | ⟨rfl, rfl⟩
        · go_wp2_with (go_at_call 56; (with_reducible refine (HADD.out).mono ?_); rintro e w2 ⟨A2, q2, c2, l2, rfl, hq2, ho2, hm2, hb2⟩; have HB2 := Lib.hid (HBA2.out.trans (hb2.mono (by simp))); have HOR2 := Lib.hid (HOR.out.below HB2.out); have HO2 := Lib.hid (ho2.mono (show base ≤ (wr.alloc (.cells #[.int .u64 th, .int .u64 tl, .int .i64 f, .int .i64 la, .bool true, .slice eA q ec] 30)).heap.size by have := HBW.out.size; simp; omega)); have HQ2 := Lib.hid (show q2 = l2.length by rw [hq2, ← hm2, List.length_map]); have HM2 := Lib.hid hm2; have hOO : w2.heap[wr.heap.size]? = some (.cells #[.int .u64 th, .int .u64 tl, .int .i64 f, .int .i64 la, .bool true, .slice eA q ec] 30) := (hb2.block _ (by simp)).trans (heap_alloc_new wr _); have o0 : w2.cell? ⟨wr.heap.size, 0, none⟩ = some (.int .u64 th) := cell_of_row _ _ 0 _ _ (0, 0) hOO; have o1 : w2.cell? ⟨wr.heap.size, 1, none⟩ = some (.int .u64 tl) := cell_of_row _ _ 1 _ _ (0, 0) hOO; have o2 : w2.cell? ⟨wr.heap.size, 2, none⟩ = some (.int .i64 f) := cell_of_row _ _ 2 _ _ (0, 0) hOO; have o3 : w2.cell? ⟨wr.heap.size, 3, none⟩ = some (.int .i64 la) := cell_of_row _ _ 3 _ _ (0, 0) hOO; have o4 : w2.cell? ⟨wr.heap.size, 4, none⟩ = some (.bool true) := cell_of_row _ _ 4 _ _ (0, 0) hOO; have o5 : w2.cell? ⟨wr.heap.size, 5, none⟩ = some (.slice eA q ec) := cell_of_row _ _ 5 _ _ (0, 0) hOO; have d0 : w2.cell? ⟨g, k * 6, none⟩ = some (.int .u64 th) := (by exact (own_ecell HOR2.out HN.out HE.out 0 (by omega)).2); have f0 : w2.frozen? ⟨g, k * 6, none⟩ = false := (own_ecell HOR2.out HN.out HE.out 0 (by omega)).1; have d1 : w2.cell? ⟨g, k * 6 + 1, none⟩ = some (.int .u64 tl) := (by exact (own_ecell HOR2.out HN.out HE.out 1 (by omega)).2); have f1 : w2.frozen? ⟨g, k * 6 + 1, none⟩ = false := (own_ecell HOR2.out HN.out HE.out 1 (by omega)).1; have d2 : w2.cell? ⟨g, k * 6 + 2, none⟩ = some (.int .i64 f) := (by exact (own_ecell HOR2.out HN.out HE.out 2 (by omega)).2); have f2 : w2.frozen? ⟨g, k * 6 + 2, none⟩ = false := (own_ecell HOR2.out HN.out HE.out 2 (by omega)).1; have d3 : w2.cell? ⟨g, k * 6 + 3, none⟩ = some (.int .i64 la) := (by exact (own_ecell HOR2.out HN.out HE.out 3 (by omega)).2); have f3 : w2.frozen? ⟨g, k * 6 + 3, none⟩ = false := (own_ecell HOR2.out HN.out HE.out 3 (by omega)).1; have d4 : w2.cell? ⟨g, k * 6 + 4, none⟩ = some (.bool true) := (by exact (own_ecell HOR2.out HN.out HE.out 4 (by omega)).2); have f4 : w2.frozen? ⟨g, k * 6 + 4, none⟩ = false := (own_ecell HOR2.out HN.out HE.out 4 (by omega)).1; have d5 : w2.cell? ⟨g, k * 6 + 5, none⟩ = some (.slice eA q ec) := (by rw [HQ.out]; exact (own_ecell HOR2.out HN.out HE.out 5 (by omega)).2); have f5 : w2.frozen? ⟨g, k * 6 + 5, none⟩ = false := (own_ecell HOR2.out HN.out HE.out 5 (by omega)).1; clear ho2 hb2 hq2 hm2)
          go_ret
          refine ⟨_, l.set k ⟨th, tl, f, now, true, l2, A2, c2⟩, rfl, OwnEps.put HOR2.out HN.out hlt ⟨th, tl, f, now, true, l2, A2, c2⟩ (by show OwnSps w2 base (.slice A2 l2.length c2) l2; rw [← HQ2.out]; exact HO2.out) q2 HQ2.out true, ?_, ?_⟩
          · rw [HPE.out, List.map_set]
            congr 1
            show Ep.mk _ _ _ _ _ _ = _
            rw [HM2.out]
          · have hg0 := (own_row_block HOR2.out HN.out).1
            have hB0 : Below base w w2 := (HBW.out.trans (HB2.out.mono HBW.out.size)).mono hbase
            repeat' (first | (with_reducible exact hB0) | (refine Below.setCell ?_ (by simp; omega) _))
        · go_wp2_with (go_at_call 56; (with_reducible refine (HADD.out).mono ?_); rintro e w2 ⟨A2, q2, c2, l2, rfl, hq2, ho2, hm2, hb2⟩; have HB2 := Lib.hid (HBA2.out.trans (hb2.mono (by simp))); have HOR2 := Lib.hid (HOR.out.below HB2.out); have HO2 := Lib.hid (ho2.mono (show base ≤ (wr.alloc (.cells #[.int .u64 th, .int .u64 tl, .int .i64 f, .int .i64 la, .bool false, .slice eA q ec] 30)).heap.size by have := HBW.out.size; simp; omega)); have HQ2 := Lib.hid (show q2 = l2.length by rw [hq2, ← hm2, List.length_map]); have HM2 := Lib.hid hm2; have hOO : w2.heap[wr.heap.size]? = some (.cells #[.int .u64 th, .int .u64 tl, .int .i64 f, .int .i64 la, .bool false, .slice eA q ec] 30) := (hb2.block _ (by simp)).trans (heap_alloc_new wr _); have o0 : w2.cell? ⟨wr.heap.size, 0, none⟩ = some (.int .u64 th) := cell_of_row _ _ 0 _ _ (0, 0) hOO; have o1 : w2.cell? ⟨wr.heap.size, 1, none⟩ = some (.int .u64 tl) := cell_of_row _ _ 1 _ _ (0, 0) hOO; have o2 : w2.cell? ⟨wr.heap.size, 2, none⟩ = some (.int .i64 f) := cell_of_row _ _ 2 _ _ (0, 0) hOO; have o3 : w2.cell? ⟨wr.heap.size, 3, none⟩ = some (.int .i64 la) := cell_of_row _ _ 3 _ _ (0, 0) hOO; have o4 : w2.cell? ⟨wr.heap.size, 4, none⟩ = some (.bool false) := cell_of_row _ _ 4 _ _ (0, 0) hOO; have o5 : w2.cell? ⟨wr.heap.size, 5, none⟩ = some (.slice eA q ec) := cell_of_row _ _ 5 _ _ (0, 0) hOO; have d0 : w2.cell? ⟨g, k * 6, none⟩ = some (.int .u64 th) := (by exact (own_ecell HOR2.out HN.out HE.out 0 (by omega)).2); have f0 : w2.frozen? ⟨g, k * 6, none⟩ = false := (own_ecell HOR2.out HN.out HE.out 0 (by omega)).1; have d1 : w2.cell? ⟨g, k * 6 + 1, none⟩ = some (.int .u64 tl) := (by exact (own_ecell HOR2.out HN.out HE.out 1 (by omega)).2); have f1 : w2.frozen? ⟨g, k * 6 + 1, none⟩ = false := (own_ecell HOR2.out HN.out HE.out 1 (by omega)).1; have d2 : w2.cell? ⟨g, k * 6 + 2, none⟩ = some (.int .i64 f) := (by exact (own_ecell HOR2.out HN.out HE.out 2 (by omega)).2); have f2 : w2.frozen? ⟨g, k * 6 + 2, none⟩ = false := (own_ecell HOR2.out HN.out HE.out 2 (by omega)).1; have d3 : w2.cell? ⟨g, k * 6 + 3, none⟩ = some (.int .i64 la) := (by exact (own_ecell HOR2.out HN.out HE.out 3 (by omega)).2); have f3 : w2.frozen? ⟨g, k * 6 + 3, none⟩ = false := (own_ecell HOR2.out HN.out HE.out 3 (by omega)).1; have d4 : w2.cell? ⟨g, k * 6 + 4, none⟩ = some (.bool false) := (by exact (own_ecell HOR2.out HN.out HE.out 4 (by omega)).2); have f4 : w2.frozen? ⟨g, k * 6 + 4, none⟩ = false := (own_ecell HOR2.out HN.out HE.out 4 (by omega)).1; have d5 : w2.cell? ⟨g, k * 6 + 5, none⟩ = some (.slice eA q ec) := (by rw [HQ.out]; exact (own_ecell HOR2.out HN.out HE.out 5 (by omega)).2); have f5 : w2.frozen? ⟨g, k * 6 + 5, none⟩ = false := (own_ecell HOR2.out HN.out HE.out 5 (by omega)).1; clear ho2 hb2 hq2 hm2)
          go_ret
          refine ⟨_, l.set k ⟨th, tl, f, now, sn, l2, A2, c2⟩, rfl, OwnEps.put HOR2.out HN.out hlt ⟨th, tl, f, now, false, l2, A2, c2⟩ (by show OwnSps w2 base (.slice A2 l2.length c2) l2; rw [← HQ2.out]; exact HO2.out) q2 HQ2.out sn, ?_, ?_⟩
          · rw [HPE.out, List.map_set]
            congr 1
            show Ep.mk _ _ _ _ _ _ = _
            rw [HM2.out]
          · have hg0 := (own_row_block HOR2.out HN.out).1
            have hB0 : Below base w w2 := (HBW.out.trans (HB2.out.mono HBW.out.size)).mono hbase
            repeat' (first | (with_reducible exact hB0) | (refine Below.setCell ?_ (by simp; omega) _))

      · have HK2 : Hid (∀ e ∈ (l.map Le.ep).take (k + 1), ¬ (e.hi = x0 ∧ e.lo = x1)) := Lib.hid (fun e he => by
          rw [List.take_add_one, HEP.out] at he
          rcases List.mem_append.1 he with he | he
          · exact HK.out e he
          · simp only [Option.toList_some, List.mem_singleton] at he
            subst he
            exact ht)
        have hcc : ((th == x0) = false) ∨ ((th == x0) = true ∧ (tl == x1) = false) := by
          by_cases h1 : th = x0
          · right; subst h1; simp at ht ⊢; exact ht
          · left; simpa using h1
        clear ht HK HEP
        rcases hcc with h1 | ⟨h1, h2⟩
        all_goals
          go_wp2_with fail
          go_roundw
          case rel => exact ⟨k + 1, by go_num, by omega, HK2, HBA⟩
          case measure => simp [intOf]; omega
    · obtain rfl : k = n := by omega
      have HPE : Hid (putE (l.map Le.ep) ⟨x0, x1, x2, x3, x4, x5, x6, x7, x8, ats⟩ now sure = l.map Le.ep ++ [⟨x0, x1, now, now, sure, [⟨x0, x1, x2, x3, x4, x5, x6, x7, x8, ats⟩]⟩]) := Lib.hid (putE_none _ _ now sure (fun e he => HK.out e (by rw [List.take_of_length_le (by rw [List.length_map, ← HN.out]; exact Nat.le_refl _)]; exact he)))
      have HXR : Hid (RdL wr wr.heap.size ⟨⟨x0, x1, x2, x3, x4, x5, x6, x7, x8, ats⟩, xA, xc⟩) := Lib.hid ((HX.out.below (HBW.out.mono hbase)).more (Nat.le_trans hbase HBW.out.size))
      have hsw : w.heap.size < wr.heap.size := HSZ.out
      have s0 : wr.cell? ⟨w.heap.size, 0, none⟩ = some (.int .u64 x0) := cell_of_row _ _ 0 _ _ (0, 0) HBX.out
      have s1 : wr.cell? ⟨w.heap.size, 1, none⟩ = some (.int .u64 x1) := cell_of_row _ _ 1 _ _ (0, 0) HBX.out
      have s2 : wr.cell? ⟨w.heap.size, 2, none⟩ = some (.int .u64 x2) := cell_of_row _ _ 2 _ _ (0, 0) HBX.out
      have s3 : wr.cell? ⟨w.heap.size, 3, none⟩ = some (.int .u64 x3) := cell_of_row _ _ 3 _ _ (0, 0) HBX.out
      have s4 : wr.cell? ⟨w.heap.size, 4, none⟩ = some (.string x4) := cell_of_row _ _ 4 _ _ (0, 0) HBX.out
      have s5 : wr.cell? ⟨w.heap.size, 5, none⟩ = some (.string x5) := cell_of_row _ _ 5 _ _ (0, 0) HBX.out
      have s6 : wr.cell? ⟨w.heap.size, 6, none⟩ = some (.int .i64 x6) := cell_of_row _ _ 6 _ _ (0, 0) HBX.out
      have s7 : wr.cell? ⟨w.heap.size, 7, none⟩ = some (.int .i64 x7) := cell_of_row _ _ 7 _ _ (0, 0) HBX.out
      have s8 : wr.cell? ⟨w.heap.size, 8, none⟩ = some (.bool x8) := cell_of_row _ _ 8 _ _ (0, 0) HBX.out
      have s9 : wr.cell? ⟨w.heap.size, 9, none⟩ = some (.slice xA m xc) := cell_of_row _ _ 9 _ _ (0, 0) HBX.out
      have HBA : Hid (Below wr.heap.size wr (wr.alloc (.cells #[.int .u64 x0, .int .u64 x1, .int .i64 now, .int .i64 now, .bool sure, .slice none 0 0] 30))) := Lib.hid ((Below.refl _ _).alloc (Nat.le_refl _) _)
      have HNW := Lib.hid (heap_alloc_new wr (.cells #[.int .u64 x0, .int .u64 x1, .int .i64 now, .int .i64 now, .bool sure, .slice none 0 0] 30))
      have HXA := Lib.hid ((heap_alloc_old wr (.cells #[.int .u64 x0, .int .u64 x1, .int .i64 now, .int .i64 now, .bool sure, .slice none 0 0] 30) hsw).trans HBX.out)
      have HSA : Hid ((wr.alloc (.cells #[.int .u64 x0, .int .u64 x1, .int .i64 now, .int .i64 now, .bool sure, .slice none 0 0] 30)).heap.size = wr.heap.size + 1) := Lib.hid (by simp)
      have CPY := Lib.hid (copy_lit x0 x1 x2 x3 x4 x5 x6 x7 x8 ats xA xc m wr.heap.size (wr.alloc (.cells #[.int .u64 x0, .int .u64 x1, .int .i64 now, .int .i64 now, .bool sure, .slice none 0 0] 30)) HM.out (HXR.out.below HBA.out) (by simp) hml)
      have t0 : (wr.alloc (.cells #[.int .u64 x0, .int .u64 x1, .int .i64 now, .int .i64 now, .bool sure, .slice none 0 0] 30)).cell? ⟨w.heap.size, 0, none⟩ = some (.int .u64 x0) := cell_of_row _ _ 0 _ _ (0, 0) HXA.out
      have t1 : (wr.alloc (.cells #[.int .u64 x0, .int .u64 x1, .int .i64 now, .int .i64 now, .bool sure, .slice none 0 0] 30)).cell? ⟨w.heap.size, 1, none⟩ = some (.int .u64 x1) := cell_of_row _ _ 1 _ _ (0, 0) HXA.out
      have t2 : (wr.alloc (.cells #[.int .u64 x0, .int .u64 x1, .int .i64 now, .int .i64 now, .bool sure, .slice none 0 0] 30)).cell? ⟨w.heap.size, 2, none⟩ = some (.int .u64 x2) := cell_of_row _ _ 2 _ _ (0, 0) HXA.out
      have t3 : (wr.alloc (.cells #[.int .u64 x0, .int .u64 x1, .int .i64 now, .int .i64 now, .bool sure, .slice none 0 0] 30)).cell? ⟨w.heap.size, 3, none⟩ = some (.int .u64 x3) := cell_of_row _ _ 3 _ _ (0, 0) HXA.out
      have t4 : (wr.alloc (.cells #[.int .u64 x0, .int .u64 x1, .int .i64 now, .int .i64 now, .bool sure, .slice none 0 0] 30)).cell? ⟨w.heap.size, 4, none⟩ = some (.string x4) := cell_of_row _ _ 4 _ _ (0, 0) HXA.out
      have t5 : (wr.alloc (.cells #[.int .u64 x0, .int .u64 x1, .int .i64 now, .int .i64 now, .bool sure, .slice none 0 0] 30)).cell? ⟨w.heap.size, 5, none⟩ = some (.string x5) := cell_of_row _ _ 5 _ _ (0, 0) HXA.out
      have t6 : (wr.alloc (.cells #[.int .u64 x0, .int .u64 x1, .int .i64 now, .int .i64 now, .bool sure, .slice none 0 0] 30)).cell? ⟨w.heap.size, 6, none⟩ = some (.int .i64 x6) := cell_of_row _ _ 6 _ _ (0, 0) HXA.out
      have t7 : (wr.alloc (.cells #[.int .u64 x0, .int .u64 x1, .int .i64 now, .int .i64 now, .bool sure, .slice none 0 0] 30)).cell? ⟨w.heap.size, 7, none⟩ = some (.int .i64 x7) := cell_of_row _ _ 7 _ _ (0, 0) HXA.out
      have t8 : (wr.alloc (.cells #[.int .u64 x0, .int .u64 x1, .int .i64 now, .int .i64 now, .bool sure, .slice none 0 0] 30)).cell? ⟨w.heap.size, 8, none⟩ = some (.bool x8) := cell_of_row _ _ 8 _ _ (0, 0) HXA.out
      have t9 : (wr.alloc (.cells #[.int .u64 x0, .int .u64 x1, .int .i64 now, .int .i64 now, .bool sure, .slice none 0 0] 30)).cell? ⟨w.heap.size, 9, none⟩ = some (.slice xA m xc) := cell_of_row _ _ 9 _ _ (0, 0) HXA.out
      clear HK s2 s3 s4 s5 s6 s7 s8 s9
      go_wp2_with (first
        | (have hd := done1; clear done1; at_builtin; (refine wpList_app rfl (.tmp 55) (.tmp 57) _ _ rfl rfl rfl (AP.out _) ?_); rintro v5 w5 ⟨ho5, hg5⟩; have HO5 := Lib.hid ho5; have HG5 := Lib.hid hg5; clear ho5 hg5)
        | (go_at_call 57; (with_reducible refine (CPY.out).mono ?_); rintro e w2 ⟨A2, c2, rfl, ho2, hb2⟩; have hw2 : wr.heap.size < w2.heap.size := (by have h := hb2.size; rw [HSA.out] at h; omega); have hNN : w2.heap[wr.heap.size]? = some (.cells #[.int .u64 x0, .int .u64 x1, .int .i64 now, .int .i64 now, .bool sure, .slice none 0 0] 30) := (hb2.block _ (by rw [HSA.out]; omega)).trans HNW.out; have p0 : w2.cell? ⟨wr.heap.size, 0, none⟩ = some (.int .u64 x0) := cell_of_row _ _ 0 _ _ (0, 0) hNN; have z0 : w2.frozen? ⟨wr.heap.size, 0, none⟩ = false := (by simp [World.frozen?, hNN]); have p1 : w2.cell? ⟨wr.heap.size, 1, none⟩ = some (.int .u64 x1) := cell_of_row _ _ 1 _ _ (0, 0) hNN; have z1 : w2.frozen? ⟨wr.heap.size, 1, none⟩ = false := (by simp [World.frozen?, hNN]); have p2 : w2.cell? ⟨wr.heap.size, 2, none⟩ = some (.int .i64 now) := cell_of_row _ _ 2 _ _ (0, 0) hNN; have z2 : w2.frozen? ⟨wr.heap.size, 2, none⟩ = false := (by simp [World.frozen?, hNN]); have p3 : w2.cell? ⟨wr.heap.size, 3, none⟩ = some (.int .i64 now) := cell_of_row _ _ 3 _ _ (0, 0) hNN; have z3 : w2.frozen? ⟨wr.heap.size, 3, none⟩ = false := (by simp [World.frozen?, hNN]); have p4 : w2.cell? ⟨wr.heap.size, 4, none⟩ = some (.bool sure) := cell_of_row _ _ 4 _ _ (0, 0) hNN; have z4 : w2.frozen? ⟨wr.heap.size, 4, none⟩ = false := (by simp [World.frozen?, hNN]); have p5 : w2.cell? ⟨wr.heap.size, 5, none⟩ = some (.slice none 0 0) := cell_of_row _ _ 5 _ _ (0, 0) hNN; have z5 : w2.frozen? ⟨wr.heap.size, 5, none⟩ = false := (by simp [World.frozen?, hNN]); have hb21 := (HBA.out.trans (hb2.mono (by rw [HSA.out]; omega))); have hbU1 : Below wr.heap.size wr (w2.setCell ⟨wr.heap.size, 5, none⟩ (.slice (some ⟨w2.heap.size, 0, none⟩) 1 1)) := hb21.setCell (Nat.le_refl _) _; have hbU2 : Below wr.heap.size wr ((w2.setCell ⟨wr.heap.size, 5, none⟩ (.slice (some ⟨w2.heap.size, 0, none⟩) 1 1)).alloc (.cells #[.int .u64 x0, .int .u64 x1, .int .u64 x2, .int .u64 x3, .string x4, .string x5, .int .i64 x6, .int .i64 x7, .bool x8, .slice A2 m c2] 42)) := hbU1.alloc hbU1.size _; have hbU3 : Below wr.heap.size wr (((w2.setCell ⟨wr.heap.size, 5, none⟩ (.slice (some ⟨w2.heap.size, 0, none⟩) 1 1)).alloc (.cells #[.int .u64 x0, .int .u64 x1, .int .u64 x2, .int .u64 x3, .string x4, .string x5, .int .i64 x6, .int .i64 x7, .bool x8, .slice A2 m c2] 42)).alloc (.cells #[.int .u64 x0, .int .u64 x1, .int .i64 now, .int .i64 now, .bool sure, .slice (some ⟨w2.heap.size, 0, none⟩) 1 1] 30)) := hbU2.alloc hbU2.size _; have HBZ := Lib.hid (PutBelow.mk ((HBW.out.mono hbase).trans (hbU3.mono (Nat.le_trans hbase HBW.out.size))) (Nat.le_trans (Nat.le_trans hbase HBW.out.size) hbU3.size)); have HOZ := Lib.hid (HOR.out.below hbU3); have hsU1 : (w2.setCell ⟨wr.heap.size, 5, none⟩ (.slice (some ⟨w2.heap.size, 0, none⟩) 1 1)).heap.size = w2.heap.size := (by simp); have hb2b : base ≤ (wr.alloc (.cells #[.int .u64 x0, .int .u64 x1, .int .i64 now, .int .i64 now, .bool sure, .slice none 0 0] 30)).heap.size := (by rw [HSA.out]; have := HBW.out.size; omega); have hoE := oneSps (w2.setCell ⟨wr.heap.size, 5, none⟩ (.slice (some ⟨w2.heap.size, 0, none⟩) 1 1)) A2 c2 m HM.out ⟨own_else (p := ⟨wr.heap.size, 5, none⟩) (ho2.mono hb2b).own hNN (by decide) (.slice (some ⟨w2.heap.size, 0, none⟩) 1 1), ho2.ok⟩ (by rw [hsU1]; have := HBW.out.size; omega); rw [hsU1] at hoE; have hoE3 : OwnSps (((w2.setCell ⟨wr.heap.size, 5, none⟩ (.slice (some ⟨w2.heap.size, 0, none⟩) 1 1)).alloc (.cells #[.int .u64 x0, .int .u64 x1, .int .u64 x2, .int .u64 x3, .string x4, .string x5, .int .i64 x6, .int .i64 x7, .bool x8, .slice A2 m c2] 42)).alloc (.cells #[.int .u64 x0, .int .u64 x1, .int .i64 now, .int .i64 now, .bool sure, .slice (some ⟨w2.heap.size, 0, none⟩) 1 1] 30)) base (.slice (some ⟨w2.heap.size, 0, none⟩) 1 1) [⟨⟨x0, x1, x2, x3, x4, x5, x6, x7, x8, ats⟩, A2, c2⟩] := hoE.below ((Below.refl _ _).alloc (Nat.le_refl _) _); have hsU2 : ((w2.setCell ⟨wr.heap.size, 5, none⟩ (.slice (some ⟨w2.heap.size, 0, none⟩) 1 1)).alloc (.cells #[.int .u64 x0, .int .u64 x1, .int .u64 x2, .int .u64 x3, .string x4, .string x5, .int .i64 x6, .int .i64 x7, .bool x8, .slice A2 m c2] 42)).heap.size = w2.heap.size + 1 := (by simp); have hrd := Rd.lit ((w2.setCell ⟨wr.heap.size, 5, none⟩ (.slice (some ⟨w2.heap.size, 0, none⟩) 1 1)).alloc (.cells #[.int .u64 x0, .int .u64 x1, .int .u64 x2, .int .u64 x3, .string x4, .string x5, .int .i64 x6, .int .i64 x7, .bool x8, .slice A2 m c2] 42)) #[.int .u64 x0, .int .u64 x1, .int .i64 now, .int .i64 now, .bool sure, .slice (some ⟨w2.heap.size, 0, none⟩) 1 1] 30; rw [hsU2] at hrd; have AP := Lib.hid (fun ty => appEp (ty := ty) (xs := [⟨x0, x1, now, now, sure, [⟨⟨x0, x1, x2, x3, x4, x5, x6, x7, x8, ats⟩, A2, c2⟩], some ⟨w2.heap.size, 0, none⟩, 1⟩]) 1 1 rfl HOZ.out (fun e he => by rw [List.mem_singleton] at he; subst he; exact hoE3) (by simpa [Le.cells] using hrd) (by have := HN.out; omega) (by omega) HBZ.out.size2); clear hrd hoE hoE3 hbU1 hbU2 hbU3 hb21 hNN ho2 hb2; have done1 := trivial))
      go_ret
      refine ⟨v5, _, rfl, HO5.out, ?_, ?_⟩
      · rw [HPE.out, List.map_append]
        rfl
      · exact HG5.out.below HBZ.out.below HBZ.out.size2 (own_block_ge HOZ.out.own)
end Go.Proofs.Ytenioeppmgmdiaa
