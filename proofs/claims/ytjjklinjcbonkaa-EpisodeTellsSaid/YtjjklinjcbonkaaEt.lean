/- EpisodeTells: Add and Spans answer as the document does. -/
import Derived.Test.YtjjklinjcbonkaaDp
import Derived.Test.YtjjklinjcbonkaaSe
import Derived.Test.YtjjklinjcbonkaaFe
import Derived.Test.YtjjklinjcbonkaaAl15
namespace Go.Proofs.Ytjjklinjcbonkaa
open Go.RowKit
set_option linter.unusedVariables false
set_option linter.unusedSimpArgs false
set_option maxRecDepth 100000

def DAddEp (hi lo f la : Int) (su : Bool) (l : List Sp) (ok : Bool) (w : World) (e : Ending) (w' : World) : Prop :=
  ∃ (A : Option Addr) (n c : Nat) (l' : List Ls), e = .returned (.tuple #[.agg #[.int .u64 hi, .int .u64 lo, .int .i64 f, .int .i64 la, .bool su, .slice A n c], .bool ok]) ∧ n = l'.length ∧ RdSps w' w'.heap.size A l' ∧ l'.map Ls.s = l ∧ Below w.heap.size w w'
theorem adds_any (th tl f la : Int) (su : Bool) (eA : Option Addr) (ls : List Ls) (q ec : Nat) (x0 x1 x2 x3 : Int) (x4 x5 : ByteArray) (x6 x7 : Int) (x8 : Bool) (xA : Option Addr) (m xc : Nat) (ats : List (ByteArray × ByteArray)) (now : Int) (B : Nat) (w : World)
    (hn : q = ls.length) (hy : RdSps w B eA ls) (hm : m = ats.length) (hx : RdL w B ⟨⟨x0, x1, x2, x3, x4, x5, x6, x7, x8, ats⟩, xA, xc⟩) (hl : q ≤ 1000) (ha : ∀ x ∈ ls, x.s.ats.length ≤ 100000) (hml : m ≤ 100000) :
    ∃ (laN : Int) (LN : List Sp) (ok : Bool), LN.length ≤ q + 1 ∧ ∀ W, Below B w W → B ≤ W.heap.size →
      Calls Try.prog 10 #[.agg #[.int .u64 th, .int .u64 tl, .int .i64 f, .int .i64 la, .bool su, .slice eA q ec], .agg #[.int .u64 x0, .int .u64 x1, .int .u64 x2, .int .u64 x3, .string x4, .string x5, .int .i64 x6, .int .i64 x7, .bool x8, .slice xA m xc], .int .i64 now] W (AddEp th tl f laN su LN ok W) ∧
      Calls Try.prog 11 #[.agg #[.int .u64 th, .int .u64 tl, .int .i64 f, .int .i64 la, .bool su, .slice eA q ec], .agg #[.int .u64 x0, .int .u64 x1, .int .u64 x2, .int .u64 x3, .string x4, .string x5, .int .i64 x6, .int .i64 x7, .bool x8, .slice xA m xc], .int .i64 now] W (DAddEp th tl f laN su LN ok W) := by
  by_cases ht : x0 = th ∧ x1 = tl
  · obtain ⟨rfl, rfl⟩ := ht
    cases hh : hasId (ls.map Ls.s) x2 with
    | true =>
      refine ⟨now, ls.map Ls.s, false, by rw [List.length_map]; omega, fun W hW hB => ⟨add_had x0 x1 f la su eA ls q ec x2 x3 x4 x5 x6 x7 x8 xA m xc ats now B W hn (hy.below hW) hm (hx.below hW) hB (by omega) ha hml hh, ?_⟩⟩
      refine (dadd_had x0 x1 f la su eA ls q ec x2 x3 x4 x5 x6 x7 x8 xA m xc now B W hn (hy.below hW) hB (by omega) hh).mono ?_
      rintro e w9 ⟨h1, h2⟩
      exact ⟨eA, q, ec, ls, h1, hn, ((hy.below hW).more hB |>.below h2).more h2.size, rfl, h2⟩
    | false =>
      refine ⟨now, ls.map Ls.s ++ [⟨x0, x1, x2, x3, x4, x5, x6, x7, x8, ats⟩], true, by simp; omega, fun W hW hB => ⟨add_new x0 x1 f la su eA ls q ec x2 x3 x4 x5 x6 x7 x8 xA m xc ats now B W hn (hy.below hW) hm (hx.below hW) hB (by omega) ha hml hh, ?_⟩⟩
      refine (dadd_new x0 x1 f la su eA ls q ec x2 x3 x4 x5 x6 x7 x8 xA m xc now B W hn (hy.below hW) hB (by omega) hh).mono ?_
      rintro e w9 ⟨g, c', h1, h2, h3⟩
      have hc : (ls ++ [Ls.mk ⟨x0, x1, x2, x3, x4, x5, x6, x7, x8, ats⟩ xA xc]).flatMap Ls.cells = ls.flatMap Ls.cells ++ [.int .u64 x0, .int .u64 x1, .int .u64 x2, .int .u64 x3, .string x4, .string x5, .int .i64 x6, .int .i64 x7, .bool x8, .slice xA m xc] := by rw [List.flatMap_append, hm]; rfl
      rw [← hc] at h2
      obtain ⟨A9, c9, hv, _, hrd⟩ := own_rd h2
      injection hv with hv _ _
      subst hv
      refine ⟨_, q + 1, c', ls ++ [⟨⟨x0, x1, x2, x3, x4, x5, x6, x7, x8, ats⟩, xA, xc⟩], h1, by simp [hn], ⟨hrd, fun z hz => ?_⟩, by simp, h3⟩
      rcases List.mem_append.1 hz with hz | hz
      · exact ((((hy.below hW).each z hz).more hB).below h3).more h3.size
      · rw [List.mem_singleton] at hz
        subst hz
        exact (((hx.below hW).more hB).below h3).more h3.size
  · refine ⟨la, ls.map Ls.s, false, by rw [List.length_map]; omega, fun W hW hB => ⟨add_other th tl f la su eA ls q ec x0 x1 x2 x3 x4 x5 x6 x7 x8 xA m xc ats now B W hn (hy.below hW) hm (hx.below hW) hB (by omega) ha hml ht, ?_⟩⟩
    refine (dadd_other th tl f la su eA ls q ec x0 x1 x2 x3 x4 x5 x6 x7 x8 xA m xc now W ht).mono ?_
    rintro e w9 ⟨h1, h2⟩
    exact ⟨eA, q, ec, ls, h1, hn, ((hy.below hW).more hB |>.below h2).more h2.size, rfl, h2⟩
def EtF (ok : Bool) (A : Option Addr) (n c o1 : Nat) (x0 x1 : Int) (C1 C2 : Array Value) (y1 y2 : Le) (S : List Sp) : Nat → Value → World → Prop
  | 0, v, _ => v = .bool ok
  | 1, v, _ => v = .bool ok
  | 2, v, _ => v = .bool true
  | 3, v, _ => v = .bool true
  | 4, v, _ => v = .agg C1
  | 5, v, w => ∃ (a : Addr) (B : Nat), v = .slice (some a) 1 1 ∧ B ≤ w.heap.size ∧ RdEps w B (some a) [y1]
  | 6, v, _ => v = .agg C2
  | 7, v, w => ∃ (a : Addr) (B : Nat), v = .slice (some a) 1 1 ∧ B ≤ w.heap.size ∧ RdEps w B (some a) [y2]
  | 8, v, _ => v = .bool true
  | 9, v, _ => v = .bool true
  | 10, v, _ => v = .bool true
  | 11, v, _ => v = .slice A n c
  | 12, v, _ => v = .pointer (some ⟨o1, 0, none⟩)
  | 13, v, _ => v = .agg #[.int .u64 x0, .int .u64 x1]
  | 14, v, w => ∃ (a : Option Addr) (k B : Nat) (l : List Ls), v = .slice a l.length k ∧ B ≤ w.heap.size ∧ RdSps w B a l ∧ l.map Ls.s = S
  | 15, v, _ => v = .slice A n c
  | 16, v, _ => v = .pointer (some ⟨o1, 0, none⟩)
  | 17, v, _ => v = .agg #[.int .u64 x0, .int .u64 x1]
  | 18, v, w => ∃ (a : Option Addr) (k B : Nat) (l : List Ls), v = .slice a l.length k ∧ B ≤ w.heap.size ∧ RdSps w B a l ∧ l.map Ls.s = S
  | 19, v, _ => v = .bool true
  | 20, v, _ => v = .bool true
  | 21, v, _ => v = .bool true
  | _, _, _ => True
theorem EtF.keep {ok : Bool} {A : Option Addr} {n c o1 : Nat} {x0 x1 : Int} {C1 C2 : Array Value} {y1 y2 : Le} {S : List Sp} {w w' : World} {i : Nat} {v : Value} (hb : Below w.heap.size w w') (h : EtF ok A n c o1 x0 x1 C1 C2 y1 y2 S i v w) : EtF ok A n c o1 x0 x1 C1 C2 y1 y2 S i v w' := by
  match i, h with
  | 0, h => exact h
  | 1, h => exact h
  | 2, h => exact h
  | 3, h => exact h
  | 4, h => exact h
  | 5, h => obtain ⟨a, B, h1, h2, h3⟩ := h; exact ⟨a, B, h1, Nat.le_trans h2 hb.size, h3.below (hb.mono h2)⟩
  | 6, h => exact h
  | 7, h => obtain ⟨a, B, h1, h2, h3⟩ := h; exact ⟨a, B, h1, Nat.le_trans h2 hb.size, h3.below (hb.mono h2)⟩
  | 8, h => exact h
  | 9, h => exact h
  | 10, h => exact h
  | 11, h => exact h
  | 12, h => exact h
  | 13, h => exact h
  | 14, h => obtain ⟨a, k, B, l, h1, h2, h3, h4⟩ := h; exact ⟨a, k, B, l, h1, Nat.le_trans h2 hb.size, h3.below (hb.mono h2), h4⟩
  | 15, h => exact h
  | 16, h => exact h
  | 17, h => exact h
  | 18, h => obtain ⟨a, k, B, l, h1, h2, h3, h4⟩ := h; exact ⟨a, k, B, l, h1, Nat.le_trans h2 hb.size, h3.below (hb.mono h2), h4⟩
  | 19, h => exact h
  | 20, h => exact h
  | 21, h => exact h
  | _ + 22, h => trivial
set_option maxHeartbeats 64000000 in
theorem tells15 (A : Option Addr) (l : List Le) (n c : Nat) (th tl f la : Int) (su : Bool) (ls : List Ls) (eA : Option Addr) (q ec : Nat) (x0 x1 x2 x3 : Int) (x4 x5 : ByteArray) (x6 x7 : Int) (x8 : Bool) (ats : List (ByteArray × ByteArray)) (xA : Option Addr) (m xc : Nat) (now : Int) (w : World)
    (hn : n = l.length) (hy : RdEps w w.heap.size A l) (ho : ∀ e ∈ l, e.ok) (hl : n ≤ maxLen) (hq : q = ls.length) (he : RdSps w w.heap.size eA ls) (hok : Le.ok ⟨th, tl, f, la, su, ls, eA, ec⟩) (hm : m = ats.length) (hx : RdL w w.heap.size ⟨⟨x0, x1, x2, x3, x4, x5, x6, x7, x8, ats⟩, xA, xc⟩) :
    Calls Try.prog 3 #[.slice A n c, .agg #[.int .u64 th, .int .u64 tl, .int .i64 f, .int .i64 la, .bool su, .slice eA q ec], .agg #[.int .u64 x0, .int .u64 x1, .int .u64 x2, .int .u64 x3, .string x4, .string x5, .int .i64 x6, .int .i64 x7, .bool x8, .slice xA m xc], .int .i64 now] w fun e w' => e = .returned (.bool true) ∧ Below w.heap.size w w' := by
  have HB0 : Hid (Below w.heap.size w ((w.alloc (.cells #[.int .u64 th, .int .u64 tl, .int .i64 f, .int .i64 la, .bool su, .slice eA q ec] 28)).alloc (.cells #[.int .u64 x0, .int .u64 x1, .int .u64 x2, .int .u64 x3, .string x4, .string x5, .int .i64 x6, .int .i64 x7, .bool x8, .slice xA m xc] 31))) := Lib.hid (((Below.refl _ _).alloc (Nat.le_refl _) _).alloc (by simp) _)
  have HZ0 : Hid (((w.alloc (.cells #[.int .u64 th, .int .u64 tl, .int .i64 f, .int .i64 la, .bool su, .slice eA q ec] 28)).alloc (.cells #[.int .u64 x0, .int .u64 x1, .int .u64 x2, .int .u64 x3, .string x4, .string x5, .int .i64 x6, .int .i64 x7, .bool x8, .slice xA m xc] 31)).heap.size = w.heap.size + 1 + 1) := Lib.hid (by simp)
  have HBXS : Hid (∀ W, Below ((w.alloc (.cells #[.int .u64 th, .int .u64 tl, .int .i64 f, .int .i64 la, .bool su, .slice eA q ec] 28)).alloc (.cells #[.int .u64 x0, .int .u64 x1, .int .u64 x2, .int .u64 x3, .string x4, .string x5, .int .i64 x6, .int .i64 x7, .bool x8, .slice xA m xc] 31)).heap.size ((w.alloc (.cells #[.int .u64 th, .int .u64 tl, .int .i64 f, .int .i64 la, .bool su, .slice eA q ec] 28)).alloc (.cells #[.int .u64 x0, .int .u64 x1, .int .u64 x2, .int .u64 x3, .string x4, .string x5, .int .i64 x6, .int .i64 x7, .bool x8, .slice xA m xc] 31)) W → W.heap[w.heap.size]? = some (.cells #[.int .u64 th, .int .u64 tl, .int .i64 f, .int .i64 la, .bool su, .slice eA q ec] 28 (0, 0)) ∧ W.heap[w.heap.size + 1]? = some (.cells #[.int .u64 x0, .int .u64 x1, .int .u64 x2, .int .u64 x3, .string x4, .string x5, .int .i64 x6, .int .i64 x7, .bool x8, .slice xA m xc] 31 (0, 0))) := Lib.hid (fun W h => ⟨(h.block _ (by rw [HZ0.out]; omega)).trans (two0 w _ _), (h.block _ (by rw [HZ0.out]; omega)).trans (two1 w _ _)⟩)
  have HWB : Hid (∀ W, Below ((w.alloc (.cells #[.int .u64 th, .int .u64 tl, .int .i64 f, .int .i64 la, .bool su, .slice eA q ec] 28)).alloc (.cells #[.int .u64 x0, .int .u64 x1, .int .u64 x2, .int .u64 x3, .string x4, .string x5, .int .i64 x6, .int .i64 x7, .bool x8, .slice xA m xc] 31)).heap.size ((w.alloc (.cells #[.int .u64 th, .int .u64 tl, .int .i64 f, .int .i64 la, .bool su, .slice eA q ec] 28)).alloc (.cells #[.int .u64 x0, .int .u64 x1, .int .u64 x2, .int .u64 x3, .string x4, .string x5, .int .i64 x6, .int .i64 x7, .bool x8, .slice xA m xc] 31)) W → Below w.heap.size w W ∧ w.heap.size ≤ W.heap.size) := Lib.hid (fun W h => ⟨HB0.out.trans (h.mono (by rw [HZ0.out]; omega)), Nat.le_trans (by rw [HZ0.out]; omega) h.size⟩)
  have HFW : Hid (∀ W, Below ((w.alloc (.cells #[.int .u64 th, .int .u64 tl, .int .i64 f, .int .i64 la, .bool su, .slice eA q ec] 28)).alloc (.cells #[.int .u64 x0, .int .u64 x1, .int .u64 x2, .int .u64 x3, .string x4, .string x5, .int .i64 x6, .int .i64 x7, .bool x8, .slice xA m xc] 31)).heap.size ((w.alloc (.cells #[.int .u64 th, .int .u64 tl, .int .i64 f, .int .i64 la, .bool su, .slice eA q ec] 28)).alloc (.cells #[.int .u64 x0, .int .u64 x1, .int .u64 x2, .int .u64 x3, .string x4, .string x5, .int .i64 x6, .int .i64 x7, .bool x8, .slice xA m xc] 31)) W → Calls Try.prog 8 #[.slice A n c] W (FewEp l W)) := Lib.hid (fun W hW => few15_any A l n c w.heap.size W hn (hy.below (HWB.out W hW).1) ho (HWB.out W hW).2 hl)
  have HFE : Hid (∀ w2, Below ((w.alloc (.cells #[.int .u64 th, .int .u64 tl, .int .i64 f, .int .i64 la, .bool su, .slice eA q ec] 28)).alloc (.cells #[.int .u64 x0, .int .u64 x1, .int .u64 x2, .int .u64 x3, .string x4, .string x5, .int .i64 x6, .int .i64 x7, .bool x8, .slice xA m xc] 31)).heap.size ((w.alloc (.cells #[.int .u64 th, .int .u64 tl, .int .i64 f, .int .i64 la, .bool su, .slice eA q ec] 28)).alloc (.cells #[.int .u64 x0, .int .u64 x1, .int .u64 x2, .int .u64 x3, .string x4, .string x5, .int .i64 x6, .int .i64 x7, .bool x8, .slice xA m xc] 31)) w2 → Calls Try.prog 8 #[.slice (some ⟨w2.heap.size, 0, none⟩) 1 1] (w2.alloc (.cells #[.int .u64 th, .int .u64 tl, .int .i64 f, .int .i64 la, .bool su, .slice eA q ec] 28)) (FewEp [⟨th, tl, f, la, su, ls, eA, ec⟩] (w2.alloc (.cells #[.int .u64 th, .int .u64 tl, .int .i64 f, .int .i64 la, .bool su, .slice eA q ec] 28)))) := Lib.hid (fun w2 h2 => by
    have hb6 : Below w2.heap.size w2 (w2.alloc (.cells #[.int .u64 th, .int .u64 tl, .int .i64 f, .int .i64 la, .bool su, .slice eA q ec] 28)) := (Below.refl _ _).alloc (Nat.le_refl _) _
    refine few15_any _ [⟨th, tl, f, la, su, ls, eA, ec⟩] 1 1 (w2.heap.size + 1) (w2.alloc (.cells #[.int .u64 th, .int .u64 tl, .int .i64 f, .int .i64 la, .bool su, .slice eA q ec] 28)) rfl ⟨?_, fun e he9 => ?_⟩ (fun e he9 => ?_) (by simp) (by unfold maxLen; omega)
    · have := Rd.lit w2 #[.int .u64 th, .int .u64 tl, .int .i64 f, .int .i64 la, .bool su, .slice eA q ec] 28
      rw [hq] at this ⊢
      simpa [Le.cells] using this
    · rw [List.mem_singleton] at he9
      subst he9
      exact (((he.below (HWB.out w2 h2).1).below (hb6.mono (HWB.out w2 h2).2))).more (Nat.le_trans (HWB.out w2 h2).2 (Nat.le_succ _))
    · rw [List.mem_singleton] at he9
      subst he9
      exact hok)
  have HF3 : Hid (∀ W, Below ((w.alloc (.cells #[.int .u64 th, .int .u64 tl, .int .i64 f, .int .i64 la, .bool su, .slice eA q ec] 28)).alloc (.cells #[.int .u64 x0, .int .u64 x1, .int .u64 x2, .int .u64 x3, .string x4, .string x5, .int .i64 x6, .int .i64 x7, .bool x8, .slice xA m xc] 31)).heap.size ((w.alloc (.cells #[.int .u64 th, .int .u64 tl, .int .i64 f, .int .i64 la, .bool su, .slice eA q ec] 28)).alloc (.cells #[.int .u64 x0, .int .u64 x1, .int .u64 x2, .int .u64 x3, .string x4, .string x5, .int .i64 x6, .int .i64 x7, .bool x8, .slice xA m xc] 31)) W → Calls Try.prog 9 #[.agg #[.int .u64 x0, .int .u64 x1, .int .u64 x2, .int .u64 x3, .string x4, .string x5, .int .i64 x6, .int .i64 x7, .bool x8, .slice xA m xc]] W fun e w' => e = .returned (.bool (few ⟨x0, x1, x2, x3, x4, x5, x6, x7, x8, ats⟩)) ∧ Below W.heap.size W w') := Lib.hid (fun W hW => by
    have h := few_any ⟨⟨x0, x1, x2, x3, x4, x5, x6, x7, x8, ats⟩, xA, xc⟩ w.heap.size W (hx.below (HWB.out W hW).1) (HWB.out W hW).2
    rw [hm]
    exact h)
  have HN := Lib.hid hn
  have HY := Lib.hid hy
  have HQ := Lib.hid hq
  have HE := Lib.hid he
  have HM := Lib.hid hm
  have HX := Lib.hid hx
  clear hn hy ho hl hq he hok hm hx
  go_enter Try.func3, Try.ntmps3
  go_wp2_with fail
  refine (alive15_calls _).mono ?_
  rintro e w1 ⟨rfl, hb1⟩
  have HB1 := Lib.hid hb1
  clear hb1
  go_wp2_with fail
  refine (HFW.out w1 HB1.out).mono ?_
  rintro e w2 ⟨fb, rfl, hfb, hb2⟩
  have HB2 := Lib.hid (HB1.out.trans (hb2.mono HB1.out.size))
  have HGO := Lib.hid hfb
  clear hb2 hfb HB1 HFW
  cases fb
  · go_wp2_with fail
    go_ret
    exact ⟨rfl, (HWB.out _ HB2.out).1⟩
  have HGD := Lib.hid (HGO.out rfl)
  have w2e0 : w2.cell? ⟨w.heap.size, 0, none⟩ = some (.int .u64 th) := cell_of_row _ _ 0 _ _ (0, 0) (HBXS.out w2 HB2.out).1
  have w2e1 : w2.cell? ⟨w.heap.size, 1, none⟩ = some (.int .u64 tl) := cell_of_row _ _ 1 _ _ (0, 0) (HBXS.out w2 HB2.out).1
  have w2e2 : w2.cell? ⟨w.heap.size, 2, none⟩ = some (.int .i64 f) := cell_of_row _ _ 2 _ _ (0, 0) (HBXS.out w2 HB2.out).1
  have w2e3 : w2.cell? ⟨w.heap.size, 3, none⟩ = some (.int .i64 la) := cell_of_row _ _ 3 _ _ (0, 0) (HBXS.out w2 HB2.out).1
  have w2e4 : w2.cell? ⟨w.heap.size, 4, none⟩ = some (.bool su) := cell_of_row _ _ 4 _ _ (0, 0) (HBXS.out w2 HB2.out).1
  have w2e5 : w2.cell? ⟨w.heap.size, 5, none⟩ = some (.slice eA q ec) := cell_of_row _ _ 5 _ _ (0, 0) (HBXS.out w2 HB2.out).1
  have w2s0 : w2.cell? ⟨w.heap.size + 1, 0, none⟩ = some (.int .u64 x0) := cell_of_row _ _ 0 _ _ (0, 0) (HBXS.out w2 HB2.out).2
  have w2s1 : w2.cell? ⟨w.heap.size + 1, 1, none⟩ = some (.int .u64 x1) := cell_of_row _ _ 1 _ _ (0, 0) (HBXS.out w2 HB2.out).2
  have w2s2 : w2.cell? ⟨w.heap.size + 1, 2, none⟩ = some (.int .u64 x2) := cell_of_row _ _ 2 _ _ (0, 0) (HBXS.out w2 HB2.out).2
  have w2s3 : w2.cell? ⟨w.heap.size + 1, 3, none⟩ = some (.int .u64 x3) := cell_of_row _ _ 3 _ _ (0, 0) (HBXS.out w2 HB2.out).2
  have w2s4 : w2.cell? ⟨w.heap.size + 1, 4, none⟩ = some (.string x4) := cell_of_row _ _ 4 _ _ (0, 0) (HBXS.out w2 HB2.out).2
  have w2s5 : w2.cell? ⟨w.heap.size + 1, 5, none⟩ = some (.string x5) := cell_of_row _ _ 5 _ _ (0, 0) (HBXS.out w2 HB2.out).2
  have w2s6 : w2.cell? ⟨w.heap.size + 1, 6, none⟩ = some (.int .i64 x6) := cell_of_row _ _ 6 _ _ (0, 0) (HBXS.out w2 HB2.out).2
  have w2s7 : w2.cell? ⟨w.heap.size + 1, 7, none⟩ = some (.int .i64 x7) := cell_of_row _ _ 7 _ _ (0, 0) (HBXS.out w2 HB2.out).2
  have w2s8 : w2.cell? ⟨w.heap.size + 1, 8, none⟩ = some (.bool x8) := cell_of_row _ _ 8 _ _ (0, 0) (HBXS.out w2 HB2.out).2
  have w2s9 : w2.cell? ⟨w.heap.size + 1, 9, none⟩ = some (.slice xA m xc) := cell_of_row _ _ 9 _ _ (0, 0) (HBXS.out w2 HB2.out).2
  go_wp2_with fail
  refine (HFE.out w2 HB2.out).mono ?_
  rintro e w3 ⟨fe, rfl, hfe, hb3⟩
  have HB3 : Hid (Below ((w.alloc (.cells #[.int .u64 th, .int .u64 tl, .int .i64 f, .int .i64 la, .bool su, .slice eA q ec] 28)).alloc (.cells #[.int .u64 x0, .int .u64 x1, .int .u64 x2, .int .u64 x3, .string x4, .string x5, .int .i64 x6, .int .i64 x7, .bool x8, .slice xA m xc] 31)).heap.size ((w.alloc (.cells #[.int .u64 th, .int .u64 tl, .int .i64 f, .int .i64 la, .bool su, .slice eA q ec] 28)).alloc (.cells #[.int .u64 x0, .int .u64 x1, .int .u64 x2, .int .u64 x3, .string x4, .string x5, .int .i64 x6, .int .i64 x7, .bool x8, .slice xA m xc] 31)) w3) := Lib.hid (HB2.out.trans (((Below.refl w2.heap.size w2).alloc (Nat.le_refl _) _ |>.trans (hb3.mono (by simp))).mono HB2.out.size))
  have HGE := Lib.hid hfe
  clear hb3 hfe HFE HGO
  cases fe
  · go_wp2_with fail
    go_ret
    exact ⟨rfl, (HWB.out _ HB3.out).1⟩
  have HGF := Lib.hid (HGE.out rfl)
  have w3e0 : w3.cell? ⟨w.heap.size, 0, none⟩ = some (.int .u64 th) := cell_of_row _ _ 0 _ _ (0, 0) (HBXS.out w3 HB3.out).1
  have w3e1 : w3.cell? ⟨w.heap.size, 1, none⟩ = some (.int .u64 tl) := cell_of_row _ _ 1 _ _ (0, 0) (HBXS.out w3 HB3.out).1
  have w3e2 : w3.cell? ⟨w.heap.size, 2, none⟩ = some (.int .i64 f) := cell_of_row _ _ 2 _ _ (0, 0) (HBXS.out w3 HB3.out).1
  have w3e3 : w3.cell? ⟨w.heap.size, 3, none⟩ = some (.int .i64 la) := cell_of_row _ _ 3 _ _ (0, 0) (HBXS.out w3 HB3.out).1
  have w3e4 : w3.cell? ⟨w.heap.size, 4, none⟩ = some (.bool su) := cell_of_row _ _ 4 _ _ (0, 0) (HBXS.out w3 HB3.out).1
  have w3e5 : w3.cell? ⟨w.heap.size, 5, none⟩ = some (.slice eA q ec) := cell_of_row _ _ 5 _ _ (0, 0) (HBXS.out w3 HB3.out).1
  have w3s0 : w3.cell? ⟨w.heap.size + 1, 0, none⟩ = some (.int .u64 x0) := cell_of_row _ _ 0 _ _ (0, 0) (HBXS.out w3 HB3.out).2
  have w3s1 : w3.cell? ⟨w.heap.size + 1, 1, none⟩ = some (.int .u64 x1) := cell_of_row _ _ 1 _ _ (0, 0) (HBXS.out w3 HB3.out).2
  have w3s2 : w3.cell? ⟨w.heap.size + 1, 2, none⟩ = some (.int .u64 x2) := cell_of_row _ _ 2 _ _ (0, 0) (HBXS.out w3 HB3.out).2
  have w3s3 : w3.cell? ⟨w.heap.size + 1, 3, none⟩ = some (.int .u64 x3) := cell_of_row _ _ 3 _ _ (0, 0) (HBXS.out w3 HB3.out).2
  have w3s4 : w3.cell? ⟨w.heap.size + 1, 4, none⟩ = some (.string x4) := cell_of_row _ _ 4 _ _ (0, 0) (HBXS.out w3 HB3.out).2
  have w3s5 : w3.cell? ⟨w.heap.size + 1, 5, none⟩ = some (.string x5) := cell_of_row _ _ 5 _ _ (0, 0) (HBXS.out w3 HB3.out).2
  have w3s6 : w3.cell? ⟨w.heap.size + 1, 6, none⟩ = some (.int .i64 x6) := cell_of_row _ _ 6 _ _ (0, 0) (HBXS.out w3 HB3.out).2
  have w3s7 : w3.cell? ⟨w.heap.size + 1, 7, none⟩ = some (.int .i64 x7) := cell_of_row _ _ 7 _ _ (0, 0) (HBXS.out w3 HB3.out).2
  have w3s8 : w3.cell? ⟨w.heap.size + 1, 8, none⟩ = some (.bool x8) := cell_of_row _ _ 8 _ _ (0, 0) (HBXS.out w3 HB3.out).2
  have w3s9 : w3.cell? ⟨w.heap.size + 1, 9, none⟩ = some (.slice xA m xc) := cell_of_row _ _ 9 _ _ (0, 0) (HBXS.out w3 HB3.out).2
  go_wp2_with fail
  refine (HF3.out w3 HB3.out).mono ?_
  rintro e w4 ⟨rfl, hb4⟩
  have HB4 := Lib.hid (HB3.out.trans (hb4.mono HB3.out.size))
  clear hb4 HGE
  cases hfw : few ⟨x0, x1, x2, x3, x4, x5, x6, x7, x8, ats⟩
  · go_wp2_with fail
    go_ret
    exact ⟨rfl, (HWB.out _ HB4.out).1⟩
  have hq60 : q ≤ 60 := by
    have := fewAll_len (HGF.out.2 _ (List.mem_singleton.2 rfl))
    rw [HQ.out]
    exact this
  have hm20 : m ≤ 100000 := by
    have h : fewAll [(⟨⟨x0, x1, x2, x3, x4, x5, x6, x7, x8, ats⟩, xA, xc⟩ : Ls)] = true := by unfold fewAll; simp [hfw]
    have := fewAll_ats h _ (List.mem_singleton.2 rfl)
    rw [HM.out]
    exact Nat.le_trans this (by omega)
  obtain ⟨laN, LN, ok, hLN, hADD⟩ := adds_any th tl f la su eA ls q ec x0 x1 x2 x3 x4 x5 x6 x7 x8 xA m xc ats now w.heap.size w HQ.out HE.out HM.out HX.out (by omega) (fun x hx => Nat.le_trans (fewAll_ats (HGF.out.2 _ (List.mem_singleton.2 rfl)) x hx) (by omega)) hm20
  have HADD := Lib.hid hADD
  have HLN := Lib.hid hLN
  clear hADD hLN hfw
  have w4e0 : w4.cell? ⟨w.heap.size, 0, none⟩ = some (.int .u64 th) := cell_of_row _ _ 0 _ _ (0, 0) (HBXS.out w4 HB4.out).1
  have w4e1 : w4.cell? ⟨w.heap.size, 1, none⟩ = some (.int .u64 tl) := cell_of_row _ _ 1 _ _ (0, 0) (HBXS.out w4 HB4.out).1
  have w4e2 : w4.cell? ⟨w.heap.size, 2, none⟩ = some (.int .i64 f) := cell_of_row _ _ 2 _ _ (0, 0) (HBXS.out w4 HB4.out).1
  have w4e3 : w4.cell? ⟨w.heap.size, 3, none⟩ = some (.int .i64 la) := cell_of_row _ _ 3 _ _ (0, 0) (HBXS.out w4 HB4.out).1
  have w4e4 : w4.cell? ⟨w.heap.size, 4, none⟩ = some (.bool su) := cell_of_row _ _ 4 _ _ (0, 0) (HBXS.out w4 HB4.out).1
  have w4e5 : w4.cell? ⟨w.heap.size, 5, none⟩ = some (.slice eA q ec) := cell_of_row _ _ 5 _ _ (0, 0) (HBXS.out w4 HB4.out).1
  have w4s0 : w4.cell? ⟨w.heap.size + 1, 0, none⟩ = some (.int .u64 x0) := cell_of_row _ _ 0 _ _ (0, 0) (HBXS.out w4 HB4.out).2
  have w4s1 : w4.cell? ⟨w.heap.size + 1, 1, none⟩ = some (.int .u64 x1) := cell_of_row _ _ 1 _ _ (0, 0) (HBXS.out w4 HB4.out).2
  have w4s2 : w4.cell? ⟨w.heap.size + 1, 2, none⟩ = some (.int .u64 x2) := cell_of_row _ _ 2 _ _ (0, 0) (HBXS.out w4 HB4.out).2
  have w4s3 : w4.cell? ⟨w.heap.size + 1, 3, none⟩ = some (.int .u64 x3) := cell_of_row _ _ 3 _ _ (0, 0) (HBXS.out w4 HB4.out).2
  have w4s4 : w4.cell? ⟨w.heap.size + 1, 4, none⟩ = some (.string x4) := cell_of_row _ _ 4 _ _ (0, 0) (HBXS.out w4 HB4.out).2
  have w4s5 : w4.cell? ⟨w.heap.size + 1, 5, none⟩ = some (.string x5) := cell_of_row _ _ 5 _ _ (0, 0) (HBXS.out w4 HB4.out).2
  have w4s6 : w4.cell? ⟨w.heap.size + 1, 6, none⟩ = some (.int .i64 x6) := cell_of_row _ _ 6 _ _ (0, 0) (HBXS.out w4 HB4.out).2
  have w4s7 : w4.cell? ⟨w.heap.size + 1, 7, none⟩ = some (.int .i64 x7) := cell_of_row _ _ 7 _ _ (0, 0) (HBXS.out w4 HB4.out).2
  have w4s8 : w4.cell? ⟨w.heap.size + 1, 8, none⟩ = some (.bool x8) := cell_of_row _ _ 8 _ _ (0, 0) (HBXS.out w4 HB4.out).2
  have w4s9 : w4.cell? ⟨w.heap.size + 1, 9, none⟩ = some (.slice xA m xc) := cell_of_row _ _ 9 _ _ (0, 0) (HBXS.out w4 HB4.out).2
  go_wp2_with fail
  refine (HADD.out w4 (HWB.out _ HB4.out).1 (HWB.out _ HB4.out).2).1.mono ?_
  rintro e w6 ⟨A1, n1, c1, l1, rfl, hn1, ho1, hm1, hb6⟩
  obtain ⟨X6, hX6⟩ : ∃ X6, X6 = w6.alloc (.cells #[.int .u64 th, .int .u64 tl, .int .i64 f, .int .i64 laN, .bool su, .slice A1 n1 c1] 28) := ⟨_, rfl⟩
  have HX6 := Lib.hid hX6
  have HB6 : Hid (Below ((w.alloc (.cells #[.int .u64 th, .int .u64 tl, .int .i64 f, .int .i64 la, .bool su, .slice eA q ec] 28)).alloc (.cells #[.int .u64 x0, .int .u64 x1, .int .u64 x2, .int .u64 x3, .string x4, .string x5, .int .i64 x6, .int .i64 x7, .bool x8, .slice xA m xc] 31)).heap.size ((w.alloc (.cells #[.int .u64 th, .int .u64 tl, .int .i64 f, .int .i64 la, .bool su, .slice eA q ec] 28)).alloc (.cells #[.int .u64 x0, .int .u64 x1, .int .u64 x2, .int .u64 x3, .string x4, .string x5, .int .i64 x6, .int .i64 x7, .bool x8, .slice xA m xc] 31)) w6) := Lib.hid (HB4.out.trans (hb6.mono HB4.out.size))
  have hbx : Below w6.heap.size w6 X6 := by rw [hX6]; exact (Below.refl _ _).alloc (Nat.le_refl _) _
  have HBX6 : Hid (Below ((w.alloc (.cells #[.int .u64 th, .int .u64 tl, .int .i64 f, .int .i64 la, .bool su, .slice eA q ec] 28)).alloc (.cells #[.int .u64 x0, .int .u64 x1, .int .u64 x2, .int .u64 x3, .string x4, .string x5, .int .i64 x6, .int .i64 x7, .bool x8, .slice xA m xc] 31)).heap.size ((w.alloc (.cells #[.int .u64 th, .int .u64 tl, .int .i64 f, .int .i64 la, .bool su, .slice eA q ec] 28)).alloc (.cells #[.int .u64 x0, .int .u64 x1, .int .u64 x2, .int .u64 x3, .string x4, .string x5, .int .i64 x6, .int .i64 x7, .bool x8, .slice xA m xc] 31)) X6) := Lib.hid (HB6.out.trans (hbx.mono HB6.out.size))
  have hE1 : X6.heap[w6.heap.size]? = some (.cells #[.int .u64 th, .int .u64 tl, .int .i64 f, .int .i64 laN, .bool su, .slice A1 n1 c1] 28 (0, 0)) := by rw [hX6]; exact heap_alloc_new w6 _
  have hn1l : n1 = l1.length := by rw [hn1, ← hm1, List.length_map]
  have hr1 : RdSps X6 X6.heap.size A1 l1 := by
    rw [hn1l] at ho1
    obtain ⟨A9, c9, hv, _, hrd⟩ := (ho1.below hbx).rd
    injection hv with hv _ _
    subst hv
    exact hrd
  have HR1 := Lib.hid hr1
  have HE1X := Lib.hid hE1
  have HN1 := Lib.hid (And.intro hn1l hm1)
  clear hb6 hbx hE1 hn1l hr1 ho1 hn1 hm1 hX6
  have X6e0 : X6.cell? ⟨w.heap.size, 0, none⟩ = some (.int .u64 th) := cell_of_row _ _ 0 _ _ (0, 0) (HBXS.out X6 HBX6.out).1
  have X6e1 : X6.cell? ⟨w.heap.size, 1, none⟩ = some (.int .u64 tl) := cell_of_row _ _ 1 _ _ (0, 0) (HBXS.out X6 HBX6.out).1
  have X6e2 : X6.cell? ⟨w.heap.size, 2, none⟩ = some (.int .i64 f) := cell_of_row _ _ 2 _ _ (0, 0) (HBXS.out X6 HBX6.out).1
  have X6e3 : X6.cell? ⟨w.heap.size, 3, none⟩ = some (.int .i64 la) := cell_of_row _ _ 3 _ _ (0, 0) (HBXS.out X6 HBX6.out).1
  have X6e4 : X6.cell? ⟨w.heap.size, 4, none⟩ = some (.bool su) := cell_of_row _ _ 4 _ _ (0, 0) (HBXS.out X6 HBX6.out).1
  have X6e5 : X6.cell? ⟨w.heap.size, 5, none⟩ = some (.slice eA q ec) := cell_of_row _ _ 5 _ _ (0, 0) (HBXS.out X6 HBX6.out).1
  have X6s0 : X6.cell? ⟨w.heap.size + 1, 0, none⟩ = some (.int .u64 x0) := cell_of_row _ _ 0 _ _ (0, 0) (HBXS.out X6 HBX6.out).2
  have X6s1 : X6.cell? ⟨w.heap.size + 1, 1, none⟩ = some (.int .u64 x1) := cell_of_row _ _ 1 _ _ (0, 0) (HBXS.out X6 HBX6.out).2
  have X6s2 : X6.cell? ⟨w.heap.size + 1, 2, none⟩ = some (.int .u64 x2) := cell_of_row _ _ 2 _ _ (0, 0) (HBXS.out X6 HBX6.out).2
  have X6s3 : X6.cell? ⟨w.heap.size + 1, 3, none⟩ = some (.int .u64 x3) := cell_of_row _ _ 3 _ _ (0, 0) (HBXS.out X6 HBX6.out).2
  have X6s4 : X6.cell? ⟨w.heap.size + 1, 4, none⟩ = some (.string x4) := cell_of_row _ _ 4 _ _ (0, 0) (HBXS.out X6 HBX6.out).2
  have X6s5 : X6.cell? ⟨w.heap.size + 1, 5, none⟩ = some (.string x5) := cell_of_row _ _ 5 _ _ (0, 0) (HBXS.out X6 HBX6.out).2
  have X6s6 : X6.cell? ⟨w.heap.size + 1, 6, none⟩ = some (.int .i64 x6) := cell_of_row _ _ 6 _ _ (0, 0) (HBXS.out X6 HBX6.out).2
  have X6s7 : X6.cell? ⟨w.heap.size + 1, 7, none⟩ = some (.int .i64 x7) := cell_of_row _ _ 7 _ _ (0, 0) (HBXS.out X6 HBX6.out).2
  have X6s8 : X6.cell? ⟨w.heap.size + 1, 8, none⟩ = some (.bool x8) := cell_of_row _ _ 8 _ _ (0, 0) (HBXS.out X6 HBX6.out).2
  have X6s9 : X6.cell? ⟨w.heap.size + 1, 9, none⟩ = some (.slice xA m xc) := cell_of_row _ _ 9 _ _ (0, 0) (HBXS.out X6 HBX6.out).2
  have Y6e0 : (w6.alloc (.cells #[.int .u64 th, .int .u64 tl, .int .i64 f, .int .i64 laN, .bool su, .slice A1 n1 c1] 28)).cell? ⟨w.heap.size, 0, none⟩ = some (.int .u64 th) := by rw [← HX6.out]; exact cell_of_row _ _ 0 _ _ (0, 0) (HBXS.out X6 HBX6.out).1
  have Y6e1 : (w6.alloc (.cells #[.int .u64 th, .int .u64 tl, .int .i64 f, .int .i64 laN, .bool su, .slice A1 n1 c1] 28)).cell? ⟨w.heap.size, 1, none⟩ = some (.int .u64 tl) := by rw [← HX6.out]; exact cell_of_row _ _ 1 _ _ (0, 0) (HBXS.out X6 HBX6.out).1
  have Y6e2 : (w6.alloc (.cells #[.int .u64 th, .int .u64 tl, .int .i64 f, .int .i64 laN, .bool su, .slice A1 n1 c1] 28)).cell? ⟨w.heap.size, 2, none⟩ = some (.int .i64 f) := by rw [← HX6.out]; exact cell_of_row _ _ 2 _ _ (0, 0) (HBXS.out X6 HBX6.out).1
  have Y6e3 : (w6.alloc (.cells #[.int .u64 th, .int .u64 tl, .int .i64 f, .int .i64 laN, .bool su, .slice A1 n1 c1] 28)).cell? ⟨w.heap.size, 3, none⟩ = some (.int .i64 la) := by rw [← HX6.out]; exact cell_of_row _ _ 3 _ _ (0, 0) (HBXS.out X6 HBX6.out).1
  have Y6e4 : (w6.alloc (.cells #[.int .u64 th, .int .u64 tl, .int .i64 f, .int .i64 laN, .bool su, .slice A1 n1 c1] 28)).cell? ⟨w.heap.size, 4, none⟩ = some (.bool su) := by rw [← HX6.out]; exact cell_of_row _ _ 4 _ _ (0, 0) (HBXS.out X6 HBX6.out).1
  have Y6e5 : (w6.alloc (.cells #[.int .u64 th, .int .u64 tl, .int .i64 f, .int .i64 laN, .bool su, .slice A1 n1 c1] 28)).cell? ⟨w.heap.size, 5, none⟩ = some (.slice eA q ec) := by rw [← HX6.out]; exact cell_of_row _ _ 5 _ _ (0, 0) (HBXS.out X6 HBX6.out).1
  have Y6s0 : (w6.alloc (.cells #[.int .u64 th, .int .u64 tl, .int .i64 f, .int .i64 laN, .bool su, .slice A1 n1 c1] 28)).cell? ⟨w.heap.size + 1, 0, none⟩ = some (.int .u64 x0) := by rw [← HX6.out]; exact cell_of_row _ _ 0 _ _ (0, 0) (HBXS.out X6 HBX6.out).2
  have Y6s1 : (w6.alloc (.cells #[.int .u64 th, .int .u64 tl, .int .i64 f, .int .i64 laN, .bool su, .slice A1 n1 c1] 28)).cell? ⟨w.heap.size + 1, 1, none⟩ = some (.int .u64 x1) := by rw [← HX6.out]; exact cell_of_row _ _ 1 _ _ (0, 0) (HBXS.out X6 HBX6.out).2
  have Y6s2 : (w6.alloc (.cells #[.int .u64 th, .int .u64 tl, .int .i64 f, .int .i64 laN, .bool su, .slice A1 n1 c1] 28)).cell? ⟨w.heap.size + 1, 2, none⟩ = some (.int .u64 x2) := by rw [← HX6.out]; exact cell_of_row _ _ 2 _ _ (0, 0) (HBXS.out X6 HBX6.out).2
  have Y6s3 : (w6.alloc (.cells #[.int .u64 th, .int .u64 tl, .int .i64 f, .int .i64 laN, .bool su, .slice A1 n1 c1] 28)).cell? ⟨w.heap.size + 1, 3, none⟩ = some (.int .u64 x3) := by rw [← HX6.out]; exact cell_of_row _ _ 3 _ _ (0, 0) (HBXS.out X6 HBX6.out).2
  have Y6s4 : (w6.alloc (.cells #[.int .u64 th, .int .u64 tl, .int .i64 f, .int .i64 laN, .bool su, .slice A1 n1 c1] 28)).cell? ⟨w.heap.size + 1, 4, none⟩ = some (.string x4) := by rw [← HX6.out]; exact cell_of_row _ _ 4 _ _ (0, 0) (HBXS.out X6 HBX6.out).2
  have Y6s5 : (w6.alloc (.cells #[.int .u64 th, .int .u64 tl, .int .i64 f, .int .i64 laN, .bool su, .slice A1 n1 c1] 28)).cell? ⟨w.heap.size + 1, 5, none⟩ = some (.string x5) := by rw [← HX6.out]; exact cell_of_row _ _ 5 _ _ (0, 0) (HBXS.out X6 HBX6.out).2
  have Y6s6 : (w6.alloc (.cells #[.int .u64 th, .int .u64 tl, .int .i64 f, .int .i64 laN, .bool su, .slice A1 n1 c1] 28)).cell? ⟨w.heap.size + 1, 6, none⟩ = some (.int .i64 x6) := by rw [← HX6.out]; exact cell_of_row _ _ 6 _ _ (0, 0) (HBXS.out X6 HBX6.out).2
  have Y6s7 : (w6.alloc (.cells #[.int .u64 th, .int .u64 tl, .int .i64 f, .int .i64 laN, .bool su, .slice A1 n1 c1] 28)).cell? ⟨w.heap.size + 1, 7, none⟩ = some (.int .i64 x7) := by rw [← HX6.out]; exact cell_of_row _ _ 7 _ _ (0, 0) (HBXS.out X6 HBX6.out).2
  have Y6s8 : (w6.alloc (.cells #[.int .u64 th, .int .u64 tl, .int .i64 f, .int .i64 laN, .bool su, .slice A1 n1 c1] 28)).cell? ⟨w.heap.size + 1, 8, none⟩ = some (.bool x8) := by rw [← HX6.out]; exact cell_of_row _ _ 8 _ _ (0, 0) (HBXS.out X6 HBX6.out).2
  have Y6s9 : (w6.alloc (.cells #[.int .u64 th, .int .u64 tl, .int .i64 f, .int .i64 laN, .bool su, .slice A1 n1 c1] 28)).cell? ⟨w.heap.size + 1, 9, none⟩ = some (.slice xA m xc) := by rw [← HX6.out]; exact cell_of_row _ _ 9 _ _ (0, 0) (HBXS.out X6 HBX6.out).2
  go_wp2_with fail
  rw [← HX6.out]
  refine (HADD.out X6 (HWB.out _ HBX6.out).1 (HWB.out _ HBX6.out).2).2.mono ?_
  rintro e w7 ⟨A2, n2, c2, l2, rfl, hn2, hr2, hm2, hb7⟩
  obtain ⟨w8, hw8⟩ : ∃ w8, w8 = w7.alloc (.cells #[.int .u64 th, .int .u64 tl, .int .i64 f, .int .i64 laN, .bool su, .slice A2 n2 c2] 28) := ⟨_, rfl⟩
  have HW8 := Lib.hid hw8
  have hb8 : Below w7.heap.size w7 w8 := by rw [hw8]; exact (Below.refl _ _).alloc (Nat.le_refl _) _
  obtain ⟨W, hW⟩ : ∃ W, W = w8.drew := ⟨_, rfl⟩
  have hb9 : Below w7.heap.size w7 W := by rw [hW]; exact hb8.trans ⟨rfl, rfl, rfl, Nat.le_refl _, fun _ _ => rfl⟩
  have hb69 : Below X6.heap.size X6 W := hb7.trans (hb9.mono hb7.size)
  have HBW : Hid (Below ((w.alloc (.cells #[.int .u64 th, .int .u64 tl, .int .i64 f, .int .i64 la, .bool su, .slice eA q ec] 28)).alloc (.cells #[.int .u64 x0, .int .u64 x1, .int .u64 x2, .int .u64 x3, .string x4, .string x5, .int .i64 x6, .int .i64 x7, .bool x8, .slice xA m xc] 31)).heap.size ((w.alloc (.cells #[.int .u64 th, .int .u64 tl, .int .i64 f, .int .i64 la, .bool su, .slice eA q ec] 28)).alloc (.cells #[.int .u64 x0, .int .u64 x1, .int .u64 x2, .int .u64 x3, .string x4, .string x5, .int .i64 x6, .int .i64 x7, .bool x8, .slice xA m xc] 31)) W) := Lib.hid (HBX6.out.trans (hb69.mono HBX6.out.size))
  have HSW : Hid (W.heap[w.heap.size + 1]? = some (.cells #[.int .u64 x0, .int .u64 x1, .int .u64 x2, .int .u64 x3, .string x4, .string x5, .int .i64 x6, .int .i64 x7, .bool x8, .slice xA m xc] 31 (0, 0))) := Lib.hid (HBXS.out _ HBW.out).2
  have HE1 : Hid (W.heap[w6.heap.size]? = some (.cells #[.int .u64 th, .int .u64 tl, .int .i64 f, .int .i64 laN, .bool su, .slice A1 n1 c1] 28 (0, 0))) := Lib.hid ((hb69.block _ (in_heap HE1X.out)).trans HE1X.out)
  have HE2 : Hid (W.heap[w7.heap.size]? = some (.cells #[.int .u64 th, .int .u64 tl, .int .i64 f, .int .i64 laN, .bool su, .slice A2 n2 c2] 28 (0, 0))) := Lib.hid (by rw [hW, hw8]; exact heap_alloc_new w7 _)
  obtain ⟨y1, hy1⟩ : ∃ y : Le, y = ⟨th, tl, f, laN, su, l1, A1, c1⟩ := ⟨_, rfl⟩
  obtain ⟨y2, hy2⟩ : ∃ y : Le, y = ⟨th, tl, f, laN, su, l2, A2, c2⟩ := ⟨_, rfl⟩
  have HY1 : Hid (n1 = y1.l.length ∧ RdSps W W.heap.size y1.A y1.l) := Lib.hid (by rw [hy1]; exact ⟨HN1.out.1, (HR1.out.below hb69).more hb69.size⟩)
  have HY2 : Hid (n2 = y2.l.length ∧ RdSps W W.heap.size y2.A y2.l) := Lib.hid (by rw [hy2]; exact ⟨hn2, (hr2.below hb9).more hb9.size⟩)
  have HC1 : Hid (y1.cells = [.int .u64 th, .int .u64 tl, .int .i64 f, .int .i64 laN, .bool su, .slice A1 n1 c1]) := Lib.hid (by rw [hy1]; exact Le.lit_cells _ _ _ _ _ _ _ _ n1 HN1.out.1)
  have HC2 : Hid (y2.cells = [.int .u64 th, .int .u64 tl, .int .i64 f, .int .i64 laN, .bool su, .slice A2 n2 c2]) := Lib.hid (by rw [hy2]; exact Le.lit_cells _ _ _ _ _ _ _ _ n2 hn2)
  have HYY : Hid (y1.ep = y2.ep ∧ y1.l.length ≤ 1000000) := Lib.hid (by
    rw [hy1, hy2]
    refine ⟨?_, ?_⟩
    · show Ep.mk _ _ _ _ _ _ = Ep.mk _ _ _ _ _ _
      rw [HN1.out.2, hm2]
    · show l1.length ≤ 1000000
      have h1 := congrArg List.length HN1.out.2
      have h2 := HLN.out
      simp only [List.length_map] at h1
      omega)
  have hwW : w.heap.size ≤ W.heap.size := (HWB.out _ HBW.out).2
  have HYW : Hid (RdEps W w.heap.size A l) := Lib.hid (HY.out.below (HWB.out _ HBW.out).1)
  have HEL : Hid (∀ e ∈ l, e.l.length ≤ 300) := Lib.hid (fun e he => Nat.le_trans (fewAll_len (HGD.out.2 e he)) (by omega))
  have hn120 : n ≤ 120 := by rw [HN.out]; exact HGD.out.1
  have HSPL : Hid ((spAll x0 x1 l).1.length ≤ 36000) := Lib.hid (by
    have h := spAll_len x0 x1 l HEL.out
    have h2 : l.length * 300 ≤ 120 * 300 := Nat.mul_le_mul_right _ HGD.out.1
    omega)
  clear hb7 hb8 hb9 hb69 hn2 hr2 hm2 hw8
  go_wp2_with fail
  rw [← HW8.out]
  refine PI.wp_region_persG (R := (fun w w' => Below w.heap.size w w')) (G := fun _ _ => True) (I := fun _ _ _ => True) [(2, 0), (2, 1), (3, 2), (4, 3), (5, 3), (5, 4), (6, 3), (7, 3), (7, 6), (8, 3), (8, 5), (8, 7), (9, 3), (9, 8), (10, 9), (11, 10), (12, 10), (13, 10), (13, 12), (14, 10), (14, 11), (14, 13), (15, 10), (16, 10), (17, 10), (17, 16), (18, 10), (18, 15), (18, 17), (19, 10), (19, 14), (19, 18), (20, 10), (20, 19), (21, 20)] [21] (by kernel_rfl) (PI.formed_of (by kernel_rfl)) ⟨fun w => Below.refl _ w, fun _ _ _ h k => h.trans (k.mono h.size)⟩ (fun _ => trivial) (EtF ok A n c (w.heap.size + 1) x0 x1 #[.int .u64 th, .int .u64 tl, .int .i64 f, .int .i64 laN, .bool su, .slice A1 n1 c1] #[.int .u64 th, .int .u64 tl, .int .i64 f, .int .i64 laN, .bool su, .slice A2 n2 c2] y1 y2 (spAll x0 x1 l).1) trivial ?_ ?_
  · rw [← hW]
    intro i o ho
    rcases i with _ | _ | _ | _ | _ | _ | _ | _ | _ | _ | _ | _ | _ | _ | _ | _ | _ | _ | _ | _ | _ | _ | i
    · obtain rfl := Option.some.inj (show some _ = some o from ho)
      refine PI.shown_val rfl fun a w5 L0 hr T => ?_
      have h1 : a.eval (.tmp 11) = .bool ok := T.was 11 (by kernel_rfl)
      exact ⟨.bool ok, w5, by simp only [execOp, h1]; simp [go_sem], PI.Post.pure ⟨fun w => Below.refl _ w, fun _ _ _ h k => h.trans (k.mono h.size)⟩ rfl trivial⟩
    · obtain rfl := Option.some.inj (show some _ = some o from ho)
      refine PI.shown_val rfl fun a w5 L0 hr T => ?_
      have h1 : a.eval (.tmp 13) = .bool ok := T.was 13 (by kernel_rfl)
      exact ⟨.bool ok, w5, by simp only [execOp, h1]; simp [go_sem], PI.Post.pure ⟨fun w => Below.refl _ w, fun _ _ _ h k => h.trans (k.mono h.size)⟩ rfl trivial⟩
    · obtain rfl := Option.some.inj (show some _ = some o from ho)
      refine PI.shown_val rfl fun a w5 L0 hr T => ?_
      have h1 : a.eval (.tmp 48) = .bool ok := T.at_ 0 48 (by kernel_rfl) (by kernel_rfl) (by kernel_rfl)
      have h2 : a.eval (.tmp 49) = .bool ok := T.at_ 1 49 (by kernel_rfl) (by kernel_rfl) (by kernel_rfl)
      exact ⟨.bool true, w5, by simp only [execOp, h1, h2]; simp [go_sem], PI.Post.pure ⟨fun w => Below.refl _ w, fun _ _ _ h k => h.trans (k.mono h.size)⟩ rfl trivial⟩
    · obtain rfl := Option.some.inj (show some _ = some o from ho)
      refine PI.shown_val rfl fun a w5 L0 hr T => ?_
      have h1 : a.eval (.tmp 50) = .bool true := T.at_ 2 50 (by kernel_rfl) (by kernel_rfl) (by kernel_rfl)
      exact ⟨.bool true, w5, by simp only [execOp, h1]; simp [go_sem], PI.Post.pure ⟨fun w => Below.refl _ w, fun _ _ _ h k => h.trans (k.mono h.size)⟩ rfl trivial⟩
    · obtain rfl := Option.some.inj (show some _ = some o from ho)
      refine PI.shown_val_if 3 51 true rfl (by kernel_rfl) (by kernel_rfl) (by kernel_rfl) (fun v w h => h) fun a w5 L0 hr T => ?_
      have h1 : a.eval (.tmp 10) = .pointer (some ⟨w6.heap.size, 0, none⟩) := T.was 10 (by kernel_rfl)
      have hO : w5.heap[w6.heap.size]? = some (.cells #[.int .u64 th, .int .u64 tl, .int .i64 f, .int .i64 laN, .bool su, .slice A1 n1 c1] 28 (0, 0)) := (hr.block _ (in_heap HE1.out)).trans HE1.out
      have v0 : w5.cell? ⟨w6.heap.size, 0, none⟩ = some (.int .u64 th) := cell_of_row _ _ 0 _ _ (0, 0) hO
      have v1 : w5.cell? ⟨w6.heap.size, 1, none⟩ = some (.int .u64 tl) := cell_of_row _ _ 1 _ _ (0, 0) hO
      have v2 : w5.cell? ⟨w6.heap.size, 2, none⟩ = some (.int .i64 f) := cell_of_row _ _ 2 _ _ (0, 0) hO
      have v3 : w5.cell? ⟨w6.heap.size, 3, none⟩ = some (.int .i64 laN) := cell_of_row _ _ 3 _ _ (0, 0) hO
      have v4 : w5.cell? ⟨w6.heap.size, 4, none⟩ = some (.bool su) := cell_of_row _ _ 4 _ _ (0, 0) hO
      have v5 : w5.cell? ⟨w6.heap.size, 5, none⟩ = some (.slice A1 n1 c1) := cell_of_row _ _ 5 _ _ (0, 0) hO
      exact ⟨.agg #[.int .u64 th, .int .u64 tl, .int .i64 f, .int .i64 laN, .bool su, .slice A1 n1 c1], w5, by simp only [execOp, h1]; simp [go_sem, v0, v1, v2, v3, v4, v5], PI.Post.pure ⟨fun w => Below.refl _ w, fun _ _ _ h k => h.trans (k.mono h.size)⟩ rfl trivial⟩
    · obtain rfl := Option.some.inj (show some _ = some o from ho)
      refine PI.shown_val_if 3 51 true rfl (by kernel_rfl) (by kernel_rfl) (by kernel_rfl) (fun v w h => h) fun a w5 L0 hr T => ?_
      have h1 : a.eval (.tmp 52) = .agg #[.int .u64 th, .int .u64 tl, .int .i64 f, .int .i64 laN, .bool su, .slice A1 n1 c1] := T.at_ 4 52 (by kernel_rfl) (by kernel_rfl) (by kernel_rfl)
      have hb6 : Below w5.heap.size w5 (w5.alloc (.cells #[.int .u64 th, .int .u64 tl, .int .i64 f, .int .i64 laN, .bool su, .slice A1 n1 c1] 28)) := (Below.refl _ _).alloc (Nat.le_refl _) _
      refine ⟨.slice (some ⟨w5.heap.size, 0, none⟩) 1 1, w5.alloc (.cells #[.int .u64 th, .int .u64 tl, .int .i64 f, .int .i64 laN, .bool su, .slice A1 n1 c1] 28), by simp only [execOp, List.map_toArray, List.map_cons, List.map_nil, h1]; simp [go_sem], hb6, ⟨⟨w5.heap.size, 0, none⟩, w5.heap.size + 1, rfl, by simp, ?_, fun e he => ?_⟩, fun _ _ h => h, fun j v _ _ _ _ h => h.keep hb6, trivial⟩
      · rw [List.flatMap_cons, List.flatMap_nil, List.append_nil, HC1.out]
        exact Rd.lit w5 _ _
      · rw [List.mem_singleton] at he
        subst he
        exact (((HY1.out.2.below hr).below (hb6.mono hr.size))).more (Nat.le_trans hr.size (Nat.le_succ _))
    · obtain rfl := Option.some.inj (show some _ = some o from ho)
      refine PI.shown_val_if 3 51 true rfl (by kernel_rfl) (by kernel_rfl) (by kernel_rfl) (fun v w h => h) fun a w5 L0 hr T => ?_
      have h1 : a.eval (.tmp 12) = .pointer (some ⟨w7.heap.size, 0, none⟩) := T.was 12 (by kernel_rfl)
      have hO : w5.heap[w7.heap.size]? = some (.cells #[.int .u64 th, .int .u64 tl, .int .i64 f, .int .i64 laN, .bool su, .slice A2 n2 c2] 28 (0, 0)) := (hr.block _ (in_heap HE2.out)).trans HE2.out
      have v0 : w5.cell? ⟨w7.heap.size, 0, none⟩ = some (.int .u64 th) := cell_of_row _ _ 0 _ _ (0, 0) hO
      have v1 : w5.cell? ⟨w7.heap.size, 1, none⟩ = some (.int .u64 tl) := cell_of_row _ _ 1 _ _ (0, 0) hO
      have v2 : w5.cell? ⟨w7.heap.size, 2, none⟩ = some (.int .i64 f) := cell_of_row _ _ 2 _ _ (0, 0) hO
      have v3 : w5.cell? ⟨w7.heap.size, 3, none⟩ = some (.int .i64 laN) := cell_of_row _ _ 3 _ _ (0, 0) hO
      have v4 : w5.cell? ⟨w7.heap.size, 4, none⟩ = some (.bool su) := cell_of_row _ _ 4 _ _ (0, 0) hO
      have v5 : w5.cell? ⟨w7.heap.size, 5, none⟩ = some (.slice A2 n2 c2) := cell_of_row _ _ 5 _ _ (0, 0) hO
      exact ⟨.agg #[.int .u64 th, .int .u64 tl, .int .i64 f, .int .i64 laN, .bool su, .slice A2 n2 c2], w5, by simp only [execOp, h1]; simp [go_sem, v0, v1, v2, v3, v4, v5], PI.Post.pure ⟨fun w => Below.refl _ w, fun _ _ _ h k => h.trans (k.mono h.size)⟩ rfl trivial⟩
    · obtain rfl := Option.some.inj (show some _ = some o from ho)
      refine PI.shown_val_if 3 51 true rfl (by kernel_rfl) (by kernel_rfl) (by kernel_rfl) (fun v w h => h) fun a w5 L0 hr T => ?_
      have h1 : a.eval (.tmp 54) = .agg #[.int .u64 th, .int .u64 tl, .int .i64 f, .int .i64 laN, .bool su, .slice A2 n2 c2] := T.at_ 6 54 (by kernel_rfl) (by kernel_rfl) (by kernel_rfl)
      have hb6 : Below w5.heap.size w5 (w5.alloc (.cells #[.int .u64 th, .int .u64 tl, .int .i64 f, .int .i64 laN, .bool su, .slice A2 n2 c2] 28)) := (Below.refl _ _).alloc (Nat.le_refl _) _
      refine ⟨.slice (some ⟨w5.heap.size, 0, none⟩) 1 1, w5.alloc (.cells #[.int .u64 th, .int .u64 tl, .int .i64 f, .int .i64 laN, .bool su, .slice A2 n2 c2] 28), by simp only [execOp, List.map_toArray, List.map_cons, List.map_nil, h1]; simp [go_sem], hb6, ⟨⟨w5.heap.size, 0, none⟩, w5.heap.size + 1, rfl, by simp, ?_, fun e he => ?_⟩, fun _ _ h => h, fun j v _ _ _ _ h => h.keep hb6, trivial⟩
      · rw [List.flatMap_cons, List.flatMap_nil, List.append_nil, HC2.out]
        exact Rd.lit w5 _ _
      · rw [List.mem_singleton] at he
        subst he
        exact (((HY2.out.2.below hr).below (hb6.mono hr.size))).more (Nat.le_trans hr.size (Nat.le_succ _))
    · obtain rfl := Option.some.inj (show some _ = some o from ho)
      refine PI.shown_call_if 3 51 true rfl (by kernel_rfl) (by kernel_rfl) (by kernel_rfl) (fun v w h => h) 12 fun a w5 L0 hr T => ?_
      obtain ⟨aS, B5, h1, h2, h3⟩ : ∃ (aS : Addr) (B : Nat), a.eval (.tmp 53) = .slice (some aS) 1 1 ∧ B ≤ w5.heap.size ∧ RdEps w5 B (some aS) [y1] := T.at_ 5 53 (by kernel_rfl) (by kernel_rfl) (by kernel_rfl)
      obtain ⟨aT, B6, k1, k2, k3⟩ : ∃ (aS : Addr) (B : Nat), a.eval (.tmp 55) = .slice (some aS) 1 1 ∧ B ≤ w5.heap.size ∧ RdEps w5 B (some aS) [y2] := T.at_ 7 55 (by kernel_rfl) (by kernel_rfl) (by kernel_rfl)
      refine ⟨#[.slice (some aS) 1 1, .slice (some aT) 1 1], by simp only [execOp, resolve, List.map_toArray, List.map_cons, List.map_nil, h1, k1]; simp [go_sem, Act.eval], ?_⟩
      refine (sameeps_eq (some aS) (some aT) [y1] [y2] 1 1 1 w5.heap.size w5 rfl (h3.more h2) (k3.more k2) (by simpa using HYY.out.1) (Nat.le_refl _) (by omega) (fun e he => by rw [List.mem_singleton] at he; subst he; exact HYY.out.2)).mono fun e w6 hh => ?_
      obtain ⟨rfl, hb6⟩ := hh
      exact ⟨_, rfl, hb6, rfl, fun _ _ h => h, fun j v _ _ _ _ h => h.keep hb6, trivial⟩
    · obtain rfl := Option.some.inj (show some _ = some o from ho)
      refine PI.shown_val rfl fun a w5 L0 hr T => ?_
      have h1 : a.eval (.tmp 51) = .bool true := T.at_ 3 51 (by kernel_rfl) (by kernel_rfl) (by kernel_rfl)
      have h2 : a.eval (.tmp 56) = .bool true := T.at_ 8 56 (by kernel_rfl) (by kernel_rfl) (by kernel_rfl)
      exact ⟨.bool true, w5, by simp only [execOp, h1, h2]; simp [go_sem, Act.eval], PI.Post.pure ⟨fun w => Below.refl _ w, fun _ _ _ h k => h.trans (k.mono h.size)⟩ rfl trivial⟩
    · obtain rfl := Option.some.inj (show some _ = some o from ho)
      refine PI.shown_val rfl fun a w5 L0 hr T => ?_
      have h1 : a.eval (.tmp 57) = .bool true := T.at_ 9 57 (by kernel_rfl) (by kernel_rfl) (by kernel_rfl)
      exact ⟨.bool true, w5, by simp only [execOp, h1]; simp [go_sem], PI.Post.pure ⟨fun w => Below.refl _ w, fun _ _ _ h k => h.trans (k.mono h.size)⟩ rfl trivial⟩
    · obtain rfl := Option.some.inj (show some _ = some o from ho)
      refine PI.shown_val_if 10 58 true rfl (by kernel_rfl) (by kernel_rfl) (by kernel_rfl) (fun v w h => h) fun a w5 L0 hr T => ?_
      have h1 : a.eval (.tmp 0) = .slice A n c := T.was 0 (by kernel_rfl)
      exact ⟨.slice A n c, w5, by simp only [execOp, h1]; simp [go_sem], PI.Post.pure ⟨fun w => Below.refl _ w, fun _ _ _ h k => h.trans (k.mono h.size)⟩ rfl trivial⟩
    · obtain rfl := Option.some.inj (show some _ = some o from ho)
      refine PI.shown_val_if 10 58 true rfl (by kernel_rfl) (by kernel_rfl) (by kernel_rfl) (fun v w h => h) fun a w5 L0 hr T => ?_
      have h1 : a.eval (.tmp 6) = .pointer (some ⟨w.heap.size + 1, 0, none⟩) := T.was 6 (by kernel_rfl)
      exact ⟨.pointer (some ⟨w.heap.size + 1, 0, none⟩), w5, by simp only [execOp, h1]; simp [go_sem], PI.Post.pure ⟨fun w => Below.refl _ w, fun _ _ _ h k => h.trans (k.mono h.size)⟩ rfl trivial⟩
    · obtain rfl := Option.some.inj (show some _ = some o from ho)
      refine PI.shown_val_if 10 58 true rfl (by kernel_rfl) (by kernel_rfl) (by kernel_rfl) (fun v w h => h) fun a w5 L0 hr T => ?_
      have h1 : a.eval (.tmp 60) = .pointer (some ⟨w.heap.size + 1, 0, none⟩) := T.at_ 12 60 (by kernel_rfl) (by kernel_rfl) (by kernel_rfl)
      have hO : w5.heap[w.heap.size + 1]? = some (.cells #[.int .u64 x0, .int .u64 x1, .int .u64 x2, .int .u64 x3, .string x4, .string x5, .int .i64 x6, .int .i64 x7, .bool x8, .slice xA m xc] 31 (0, 0)) := (hr.block _ (in_heap HSW.out)).trans HSW.out
      have v0 : w5.cell? ⟨w.heap.size + 1, 0, none⟩ = some (.int .u64 x0) := cell_of_row _ _ 0 _ _ (0, 0) hO
      have v1 : w5.cell? ⟨w.heap.size + 1, 1, none⟩ = some (.int .u64 x1) := cell_of_row _ _ 1 _ _ (0, 0) hO
      exact ⟨.agg #[.int .u64 x0, .int .u64 x1], w5, by simp only [execOp, h1]; simp [go_sem, v0, v1], PI.Post.pure ⟨fun w => Below.refl _ w, fun _ _ _ h k => h.trans (k.mono h.size)⟩ rfl trivial⟩
    · obtain rfl := Option.some.inj (show some _ = some o from ho)
      refine PI.shown_call_if 10 58 true rfl (by kernel_rfl) (by kernel_rfl) (by kernel_rfl) (fun v w h => h) 14 fun a w5 L0 hr T => ?_
      have h1 : a.eval (.tmp 59) = .slice A n c := T.at_ 11 59 (by kernel_rfl) (by kernel_rfl) (by kernel_rfl)
      have h2 : a.eval (.tmp 61) = .agg #[.int .u64 x0, .int .u64 x1] := T.at_ 13 61 (by kernel_rfl) (by kernel_rfl) (by kernel_rfl)
      refine ⟨#[.slice A n c, .agg #[.int .u64 x0, .int .u64 x1]], by simp only [execOp, resolve, List.map_toArray, List.map_cons, List.map_nil, h1, h2]; simp [go_sem, Act.eval], ?_⟩
      refine (spans_any A l n c w.heap.size x0 x1 w5 HN.out (HYW.out.below (hr.mono hwW)) (Nat.le_trans hwW hr.size) (by omega) (fun e he => Nat.le_trans (fewAll_len (HGD.out.2 e he)) (by omega)) (fun e he x hx => Nat.le_trans (fewAll_ats (HGD.out.2 e he) x hx) (by omega))).mono fun e w6 hh => ?_
      obtain ⟨v9, l9, rfl, ho9, hm9, hb6⟩ := hh
      obtain ⟨A9, c9, rfl, _, hr9⟩ := ho9.rd
      exact ⟨_, rfl, hb6, ⟨A9, c9, _, l9, rfl, Nat.le_refl _, hr9, hm9⟩, fun _ _ h => h, fun j v _ _ _ _ h => h.keep hb6, trivial⟩
    · obtain rfl := Option.some.inj (show some _ = some o from ho)
      refine PI.shown_val_if 10 58 true rfl (by kernel_rfl) (by kernel_rfl) (by kernel_rfl) (fun v w h => h) fun a w5 L0 hr T => ?_
      have h1 : a.eval (.tmp 0) = .slice A n c := T.was 0 (by kernel_rfl)
      exact ⟨.slice A n c, w5, by simp only [execOp, h1]; simp [go_sem], PI.Post.pure ⟨fun w => Below.refl _ w, fun _ _ _ h k => h.trans (k.mono h.size)⟩ rfl trivial⟩
    · obtain rfl := Option.some.inj (show some _ = some o from ho)
      refine PI.shown_val_if 10 58 true rfl (by kernel_rfl) (by kernel_rfl) (by kernel_rfl) (fun v w h => h) fun a w5 L0 hr T => ?_
      have h1 : a.eval (.tmp 6) = .pointer (some ⟨w.heap.size + 1, 0, none⟩) := T.was 6 (by kernel_rfl)
      exact ⟨.pointer (some ⟨w.heap.size + 1, 0, none⟩), w5, by simp only [execOp, h1]; simp [go_sem], PI.Post.pure ⟨fun w => Below.refl _ w, fun _ _ _ h k => h.trans (k.mono h.size)⟩ rfl trivial⟩
    · obtain rfl := Option.some.inj (show some _ = some o from ho)
      refine PI.shown_val_if 10 58 true rfl (by kernel_rfl) (by kernel_rfl) (by kernel_rfl) (fun v w h => h) fun a w5 L0 hr T => ?_
      have h1 : a.eval (.tmp 64) = .pointer (some ⟨w.heap.size + 1, 0, none⟩) := T.at_ 16 64 (by kernel_rfl) (by kernel_rfl) (by kernel_rfl)
      have hO : w5.heap[w.heap.size + 1]? = some (.cells #[.int .u64 x0, .int .u64 x1, .int .u64 x2, .int .u64 x3, .string x4, .string x5, .int .i64 x6, .int .i64 x7, .bool x8, .slice xA m xc] 31 (0, 0)) := (hr.block _ (in_heap HSW.out)).trans HSW.out
      have v0 : w5.cell? ⟨w.heap.size + 1, 0, none⟩ = some (.int .u64 x0) := cell_of_row _ _ 0 _ _ (0, 0) hO
      have v1 : w5.cell? ⟨w.heap.size + 1, 1, none⟩ = some (.int .u64 x1) := cell_of_row _ _ 1 _ _ (0, 0) hO
      exact ⟨.agg #[.int .u64 x0, .int .u64 x1], w5, by simp only [execOp, h1]; simp [go_sem, v0, v1], PI.Post.pure ⟨fun w => Below.refl _ w, fun _ _ _ h k => h.trans (k.mono h.size)⟩ rfl trivial⟩
    · obtain rfl := Option.some.inj (show some _ = some o from ho)
      refine PI.shown_call_if 10 58 true rfl (by kernel_rfl) (by kernel_rfl) (by kernel_rfl) (fun v w h => h) 15 fun a w5 L0 hr T => ?_
      have h1 : a.eval (.tmp 63) = .slice A n c := T.at_ 15 63 (by kernel_rfl) (by kernel_rfl) (by kernel_rfl)
      have h2 : a.eval (.tmp 65) = .agg #[.int .u64 x0, .int .u64 x1] := T.at_ 17 65 (by kernel_rfl) (by kernel_rfl) (by kernel_rfl)
      refine ⟨#[.slice A n c, .agg #[.int .u64 x0, .int .u64 x1]], by simp only [execOp, resolve, List.map_toArray, List.map_cons, List.map_nil, h1, h2]; simp [go_sem, Act.eval], ?_⟩
      refine (dspans_any A l n c w.heap.size x0 x1 w5 HN.out (HYW.out.below (hr.mono hwW)) (Nat.le_trans hwW hr.size) (by omega) HEL.out).mono fun e w6 hh => ?_
      obtain ⟨A9, c9, l9, rfl, hr9, hm9, hb6⟩ := hh
      exact ⟨_, rfl, hb6, ⟨A9, c9, _, l9, rfl, Nat.le_refl _, hr9, hm9⟩, fun _ _ h => h, fun j v _ _ _ _ h => h.keep hb6, trivial⟩
    · obtain rfl := Option.some.inj (show some _ = some o from ho)
      refine PI.shown_call_if 10 58 true rfl (by kernel_rfl) (by kernel_rfl) (by kernel_rfl) (fun v w h => h) 13 fun a w5 L0 hr T => ?_
      obtain ⟨aS, kS, B5, l5, h1, h2, h3, h4⟩ : ∃ (a9 : Option Addr) (k B : Nat) (l9 : List Ls), a.eval (.tmp 62) = .slice a9 l9.length k ∧ B ≤ w5.heap.size ∧ RdSps w5 B a9 l9 ∧ l9.map Ls.s = (spAll x0 x1 l).1 := T.at_ 14 62 (by kernel_rfl) (by kernel_rfl) (by kernel_rfl)
      obtain ⟨aT, kT, B6, l6, k1, k2, k3, k4⟩ : ∃ (a9 : Option Addr) (k B : Nat) (l9 : List Ls), a.eval (.tmp 66) = .slice a9 l9.length k ∧ B ≤ w5.heap.size ∧ RdSps w5 B a9 l9 ∧ l9.map Ls.s = (spAll x0 x1 l).1 := T.at_ 18 66 (by kernel_rfl) (by kernel_rfl) (by kernel_rfl)
      have hll : l6.length = l5.length := by
        have e1 := congrArg List.length h4
        have e2 := congrArg List.length k4
        simp only [List.length_map] at e1 e2
        omega
      have hl5 : l5.length ≤ maxLen := by
        have e1 := congrArg List.length h4
        have e2 := HSPL.out
        simp only [List.length_map] at e1
        unfold maxLen
        omega
      rw [hll] at k1
      refine ⟨#[.slice aS l5.length kS, .slice aT l5.length kT], by simp only [execOp, resolve, List.map_toArray, List.map_cons, List.map_nil, h1, k1]; simp [go_sem, Act.eval], ?_⟩
      refine (samespans_eq aS aT l5 l6 l5.length kS kT w5.heap.size w5 rfl (h3.more h2) (k3.more k2) (h4.trans k4.symm) (Nat.le_refl _) hl5).mono fun e w6 hh => ?_
      obtain ⟨rfl, hb6⟩ := hh
      exact ⟨_, rfl, hb6, rfl, fun _ _ h => h, fun j v _ _ _ _ h => h.keep hb6, trivial⟩
    · obtain rfl := Option.some.inj (show some _ = some o from ho)
      refine PI.shown_val rfl fun a w5 L0 hr T => ?_
      have h1 : a.eval (.tmp 58) = .bool true := T.at_ 10 58 (by kernel_rfl) (by kernel_rfl) (by kernel_rfl)
      have h2 : a.eval (.tmp 67) = .bool true := T.at_ 19 67 (by kernel_rfl) (by kernel_rfl) (by kernel_rfl)
      exact ⟨.bool true, w5, by simp only [execOp, h1, h2]; simp [go_sem, Act.eval], PI.Post.pure ⟨fun w => Below.refl _ w, fun _ _ _ h k => h.trans (k.mono h.size)⟩ rfl trivial⟩
    · obtain rfl := Option.some.inj (show some _ = some o from ho)
      refine PI.shown_val rfl fun a w5 L0 hr T => ?_
      have h1 : a.eval (.tmp 68) = .bool true := T.at_ 20 68 (by kernel_rfl) (by kernel_rfl) (by kernel_rfl)
      exact ⟨.bool true, w5, by simp only [execOp, h1]; simp [go_sem], PI.Post.pure ⟨fun w => Below.refl _ w, fun _ _ _ h k => h.trans (k.mono h.size)⟩ rfl trivial⟩
    · cases ho
  · rw [← hW]
    intro x w9 hr hf he _
    have h21 := hf 21 _ 8 rfl rfl (by decide)
    have hx21 : x 21 = .bool true := h21
    have HB9 := Lib.hid ((HWB.out _ HBW.out).1.trans (hr.mono hwW))
    clear hf he hr h21
    simp only [PI.putAll, Act.put, List.setIfInBounds_toArray, List.set_cons_zero, List.set_cons_succ]
    rw [hx21]
    go_wp2_with fail
    go_ret
    exact ⟨rfl, HB9.out⟩
end Go.Proofs.Ytjjklinjcbonkaa
