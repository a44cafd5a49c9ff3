/- The document's reader: Span. -/
import Derived.Test.YthkclgkbidhmbaaDn
import Derived.Test.YthkclgkbidhmbaaRg
import Derived.Test.YthkclgkbidhmbaaRr
import Derived.Test.YthkclgkbidhmbaaBs
namespace Go.Proofs.Ythkclgkbidhmbaa
open Go.RowKit
set_option linter.unusedVariables false
set_option linter.unusedSimpArgs false
set_option maxRecDepth 100000

theorem DSt.put {w : World} {B g : Nat} {r : Rm.R} (h : DSt w B g r) (b : Bool) : DSt (w.setCell ⟨g, 1, none⟩ (.bool b)) B g (r.1, b) := by
  obtain ⟨⟨A, n, c, hx, hn, hr, hc⟩, hB⟩ := h
  have hgl := in_heap hx
  exact ⟨⟨A, n, c, heap_setCell_same _ g 1 _ _ _ hx, hn, hr.keep (fun p hp => World.cell?_of_block ((grown_set w g 1 (.bool b)).block p.block (by omega) (fun e => by injection e with e; omega))), hc⟩, hB⟩
theorem DSt.far {w : World} {B g : Nat} {r : Rm.R} (h : DSt w B g r) {p : Addr} (hp : g < p.block) (v : Value) : DSt (w.setCell p v) B g r :=
  h.keep (row := some p.block) ⟨rfl, rfl, rfl, by simp, fun k _ hk => Below.heap_setCell w p v k (fun e => hk (by rw [e]))⟩ (fun e => by injection e with e; omega) (fun j e => by injection e with e; have := h.lt; omega)
/-- Before the span's own variable is there. -/
structure DPt (w0 w : World) (B g : Nat) (r : Rm.R) : Prop where
  rd : DSt w B g r
  res : w.heap[w0.heap.size]? = some (.cells #[.int .u64 0, .int .u64 0, .int .u64 0, .int .u64 0, .string ⟨#[]⟩, .string ⟨#[]⟩, .int .i64 0, .int .i64 0, .bool false, .slice none 0 0] 36)
  grown : w0.grownBy w (some g)
  lt : g < w0.heap.size
  sz : w0.heap.size < w.heap.size
structure DFt (w0 w : World) (B g b : Nat) (r : Rm.R) (cs : Array Value) : Prop where
  rd : DSt w B g r
  res : w.heap[w0.heap.size]? = some (.cells #[.int .u64 0, .int .u64 0, .int .u64 0, .int .u64 0, .string ⟨#[]⟩, .string ⟨#[]⟩, .int .i64 0, .int .i64 0, .bool false, .slice none 0 0] 36)
  box : w.heap[b]? = some (.cells cs 36)
  grown : w0.grownBy w (some g)
  lt : g < w0.heap.size
  bb : w0.heap.size < b
  sz : b < w.heap.size
section
variable {w0 w w' : World} {B g b : Nat} {r r' : Rm.R} {cs : Array Value}
theorem DPt.start (h : DSt w B g r) : DPt w (w.alloc (.cells #[.int .u64 0, .int .u64 0, .int .u64 0, .int .u64 0, .string ⟨#[]⟩, .string ⟨#[]⟩, .int .i64 0, .int .i64 0, .bool false, .slice none 0 0] 36)) B g r := by
  have hlt : g < w.heap.size := by obtain ⟨⟨A, n, c, hx, _⟩, _⟩ := h; exact in_heap hx
  have hg : w.grownBy (w.alloc (.cells #[.int .u64 0, .int .u64 0, .int .u64 0, .int .u64 0, .string ⟨#[]⟩, .string ⟨#[]⟩, .int .i64 0, .int .i64 0, .bool false, .slice none 0 0] 36)) none := ⟨rfl, rfl, rfl, by simp, fun k hk _ => heap_alloc_old _ _ hk⟩
  exact ⟨h.keep hg (by simp) (fun j e => by cases e), heap_alloc_new w _, ⟨hg.os, hg.tape, hg.output, hg.size, fun k hk _ => hg.block k hk (by simp)⟩, hlt, by simp⟩
theorem DPt.call (h : DPt w0 w B g r) (hr : DSt w' B g r') (hg : w.grownBy w' (some g)) : DPt w0 w' B g r' :=
  ⟨hr, (hg.block _ h.sz (fun e => by injection e with e; have := h.lt; omega)).trans h.res, grown_trans h.grown hg, h.lt, Nat.lt_of_lt_of_le h.sz hg.size⟩
theorem DPt.box (h : DPt w0 w B g r) (cs : Array Value) : DFt w0 (w.alloc (.cells cs 36)) B g w.heap.size r cs := by
  have hg : w.grownBy (w.alloc (.cells cs 36)) none := ⟨rfl, rfl, rfl, by simp, fun k hk _ => heap_alloc_old _ _ hk⟩
  exact ⟨h.rd.keep hg (by simp) (fun j e => by cases e), (heap_alloc_old w _ h.sz).trans h.res, heap_alloc_new w _, grown_trans h.grown ⟨hg.os, hg.tape, hg.output, hg.size, fun k hk _ => hg.block k hk (by simp)⟩, h.lt, h.sz, by simp⟩
theorem DFt.call (h : DFt w0 w B g b r cs) (hr : DSt w' B g r') (hg : w.grownBy w' (some g)) : DFt w0 w' B g b r' cs :=
  have hgl := h.lt; have hbb := h.bb; have hsz := h.sz
  ⟨hr, (hg.block _ (by omega) (fun e => by injection e with e; omega)).trans h.res, (hg.block _ (by omega) (fun e => by injection e with e; omega)).trans h.box, grown_trans h.grown hg, h.lt, h.bb, Nat.lt_of_lt_of_le h.sz hg.size⟩
theorem DFt.set (h : DFt w0 w B g b r cs) (i : Nat) (v : Value) : DFt w0 (w.setCell ⟨b, i, none⟩ v) B g b r (cs.setIfInBounds i v) :=
  have hgl := h.lt; have hbb := h.bb; have hsz := h.sz
  ⟨h.rd.far (by simp; omega) v, (Below.heap_setCell w _ v _ (by simp; omega)).trans h.res, heap_setCell_same _ _ i _ _ v h.box, ⟨h.grown.os, h.grown.tape, h.grown.output, by simpa using h.grown.size, fun k hk hne => (Below.heap_setCell w _ v k (by simp; omega)).trans (h.grown.block k hk hne)⟩, h.lt, h.bb, by simpa using h.sz⟩
theorem DFt.grew {v v' : Value} {base size n : Nat} {e : TypeId} {xs : List Value} (h : DFt w0 w B g b r cs) (hg : Grew w w' v v') (ho : w.ownsRow base e size v n xs) (hb : b + 1 ≤ base) : DFt w0 w' B g b r cs :=
  have hgl := h.lt; have hbb := h.bb; have hsz := h.sz; have hrl := h.rd.lt
  have hne : ∀ k, k < base → some k ≠ v.ownBlock := fun k hk he => by have := own_block_ge ho k he.symm; omega
  ⟨h.rd.keep hg.grown (fun e => by have := own_block_ge ho g e; omega) (fun j e => by have := own_block_ge ho j e; omega),
    (hg.grown.block _ (by omega) (hne _ (by omega))).trans h.res, (hg.grown.block _ (by omega) (hne _ (by omega))).trans h.box,
    ⟨hg.grown.os.trans h.grown.os, hg.grown.tape.trans h.grown.tape, hg.grown.output.trans h.grown.output, Nat.le_trans h.grown.size hg.grown.size, fun k hk hkn => (hg.grown.block k (by omega) (hne _ (by omega))).trans (h.grown.block k hk hkn)⟩, h.lt, h.bb, Nat.lt_of_lt_of_le h.sz hg.grown.size⟩
theorem DFt.new (h : DFt w0 w B g b r cs) (hb : Below w.heap.size w w') : DFt w0 w' B g b r cs :=
  DFt.grew (v := .slice none 0 0) (v' := .slice none 0 0) (n := 0) (xs := []) (base := b + 1) (size := 1) (e := 0) h ⟨⟨hb.os, hb.tape, hb.output, hb.size, fun k hk _ => hb.block k hk⟩, .inl rfl⟩ (World.ownsRow_nil _ _ _ _) (Nat.le_refl _)
theorem DFt.drew (h : DFt w0 w B g b r cs) : DFt w0 w.drew B g b r cs := h.new ⟨rfl, rfl, rfl, Nat.le_refl _, fun _ _ => rfl⟩
end
def DSpanOf (s : Sp) (r : Rm.R) (B g : Nat) (w : World) (e : Ending) (w' : World) : Prop := ∃ (A : Option Addr) (c : Nat), e = .returned (.agg (Ls.mk s A c).cells.toArray) ∧ OwnL w' w.heap.size ⟨s, A, c⟩ ∧ DSt w' B g r ∧ w.grownBy w' (some g)
theorem dspanOf_mk (s : Sp) (A : Option Addr) (c n : Nat) (hn : n = s.ats.length) {r : Rm.R} {B g : Nat} {w w' : World} (ho : w'.ownsRow w.heap.size 49 2 (.slice A n c) n (s.ats.flatMap atC)) (hok : s.ok) (hr : DSt w' B g r) (hg : w.grownBy w' (some g)) :
    DSpanOf s r B g w (.returned (.agg #[.int .u64 s.hi, .int .u64 s.lo, .int .u64 s.id, .int .u64 s.pa, .string s.sv, .string s.op, .int .i64 s.st, .int .i64 s.du, .bool s.er, .slice A n c])) w' := by
  subst hn
  exact ⟨A, c, rfl, ⟨ho, hok⟩, hr, hg⟩
theorem dint_le (most : Nat) (r : Rm.R) : (Dm.int most r).1 ≤ most := by
  unfold Dm.int; split
  · exact Nat.zero_le _
  · omega
theorem dintL (g B most : Nat) (mi : Int) (hmi : mi = (most : Int)) (r : Rm.R) (w : World) (h : DSt w B g r) (hm : most ≤ 4611686018427387904) :
    Calls Try.prog 80 #[.pointer (some ⟨g, 0, none⟩), .int .i64 mi] w fun e w' => e = .returned (.int .i64 ((Dm.int most r).1 : Int)) ∧ DSt w' B g (Dm.int most r).2 ∧ w.grownBy w' (some g) := by
  subst hmi; exact dint_any g B most r w h hm
theorem dnum_bd (r : Rm.R) : (Dm.num r).2.1.length ≤ r.1.length := by
  unfold Dm.num
  split <;> simp
theorem dtext_bd (r : Rm.R) : (Dm.text r).1.length ≤ r.1.length ∧ (Dm.text r).2.1.length ≤ r.1.length := by
  by_cases h : (Dm.text r).2.2 = false
  · rw [(text_tie r).2 h]; exact text_bd r
  · unfold Dm.text at h ⊢
    split
    · rename_i hh; rw [if_pos hh] at h; exact absurd rfl h
    · exact ⟨Nat.zero_le _, Nat.le_refl _⟩
theorem dint_bd (most : Nat) (r : Rm.R) : (Dm.int most r).2.1.length ≤ r.1.length := by
  unfold Dm.int
  split <;> exact dnum_bd r
theorem datl_bd (M : Nat) : ∀ (f n : Nat) (r : Rm.R) (acc : List (ByteArray × ByteArray)), r.1.length ≤ M → (∀ a ∈ acc, a.1.size ≤ M ∧ a.2.size ≤ M) → (∀ a ∈ (Dm.atl f n r acc).2, a.1.size ≤ M ∧ a.2.size ≤ M) ∧ (Dm.atl f n r acc).2.length ≤ acc.length + f
  | 0, n, r, acc, hr, ha => ⟨ha, Nat.le_refl _⟩
  | f + 1, n, r, acc, hr, ha => by
    unfold Dm.atl
    have h1 := dtext_bd r
    have h2 := dtext_bd (Dm.text r).2
    split
    · have h := datl_bd M f (n - 1) (Dm.text (Dm.text r).2).2 (acc ++ [(S8 (Dm.text r).1, S8 (Dm.text (Dm.text r).2).1)]) (by omega) (fun a haa => by
        rcases List.mem_append.1 haa with haa | haa
        · exact ha a haa
        · rw [List.mem_singleton] at haa
          subst haa
          simp only [S8_size]
          omega)
      refine ⟨h.1, ?_⟩
      have := h.2
      simp only [List.length_append, List.length_singleton] at this
      omega
    · exact ⟨ha, show acc.length ≤ _ by omega⟩
/-- What lies where within the round's great statement, by what was carried out. -/
def DsI (W : World) (B g b q : Nat) (r r1 r2 : Rm.R) (sl : Value) (acc acc2 : List (ByteArray × ByteArray)) (cs : Value → Array Value) (L : Nat → Bool) (w : World) : Prop :=
  if L 10 = true then ∃ (A3 : Option Addr) (c3 : Nat), DFt W w B g b r2 (cs (.slice A3 (q + 1) c3)) ∧ w.ownsRow (b + 1) 49 2 (.slice A3 (q + 1) c3) (q + 1) (acc2.flatMap atC)
  else DFt W w B g b (if L 5 = true then r2 else if L 3 = true then r1 else r) (cs sl) ∧ (L 8 = false → w.ownsRow (b + 1) 49 2 sl q (acc.flatMap atC))
theorem DsI.same {W : World} {B g b q : Nat} {r r1 r2 : Rm.R} {sl : Value} {acc acc2 : List (ByteArray × ByteArray)} {cs : Value → Array Value} {L : Nat → Bool} {w : World} (i : Nat) (hi : i ≠ 3 ∧ i ≠ 5 ∧ i ≠ 8 ∧ i ≠ 10) (h : DsI W B g b q r r1 r2 sl acc acc2 cs L w) : DsI W B g b q r r1 r2 sl acc acc2 cs (PI.upd L i) w := by
  obtain ⟨h3, h5, h8, h10⟩ := hi
  unfold DsI PI.upd at *
  simp only [Ne.symm h3, Ne.symm h5, Ne.symm h8, Ne.symm h10, if_false] at *
  exact h
def DsF (g b q : Nat) (sl : Value) (k1 k2 : ByteArray) (acc2 : List (ByteArray × ByteArray)) : Nat → Value → World → Prop
  | 0, v, _ => v = .pointer (some ⟨b, 9, none⟩)
  | 1, v, _ => v = sl
  | 2, v, _ => v = .pointer (some ⟨g, 0, none⟩)
  | 3, v, _ => v = .string k1
  | 4, v, _ => v = .pointer (some ⟨g, 0, none⟩)
  | 5, v, _ => v = .string k2
  | 6, v, _ => v = .agg #[.string k1, .string k2]
  | 7, v, w => ∃ a, v = .slice (some a) 1 1 ∧ Rd w w.heap.size (some a) [.string k1, .string k2]
  | 8, v, w => w.ownsRow (b + 1) 49 2 v (q + 1) (acc2.flatMap atC)
  | 9, v, _ => v = .pointer (some ⟨b, 9, none⟩)
  | _, _, _ => True
theorem DsF.other {g b q : Nat} {sl : Value} {k1 k2 : ByteArray} {acc2 : List (ByteArray × ByteArray)} {i : Nat} {v : Value} {w w' : World} (h : DsF g b q sl k1 k2 acc2 i v w) (hi : i ≠ 7 ∧ i ≠ 8) : DsF g b q sl k1 k2 acc2 i v w' := by
  match i, h, hi with
  | 0, h, _ => exact h
  | 1, h, _ => exact h
  | 2, h, _ => exact h
  | 3, h, _ => exact h
  | 4, h, _ => exact h
  | 5, h, _ => exact h
  | 6, h, _ => exact h
  | 7, _, hi => exact absurd rfl hi.1
  | 8, _, hi => exact absurd rfl hi.2
  | 9, h, _ => exact h
  | _ + 10, _, _ => trivial

theorem DFt.bad {w0 w : World} {B g b : Nat} {r : Rm.R} {cs : Array Value} (h : DFt w0 w B g b r cs) (v : Bool) : DFt w0 (w.setCell ⟨g, 1, none⟩ (.bool v)) B g b (r.1, v) cs :=
  h.call (h.rd.put v) (grown_set w g 1 _)

set_option maxHeartbeats 16000000 in
theorem dreadspan_any (g B : Nat) (r : Rm.R) (w : World) (h : DSt w B g r) :
    Calls Try.prog 58 #[.pointer (some ⟨g, 0, none⟩)] w (DSpanOf (Dm.span r).1 (Dm.span r).2 B g w) := by
  have hlen : r.1.length ≤ 140737488351232 := by obtain ⟨⟨A, n, c, _, hn, _, h1, h2, _⟩, _⟩ := h; omega
  rcases hp0 : Dm.q0 r with ⟨v0, r0⟩
  rcases hp1 : Dm.q1 r with ⟨v1, r1⟩
  rcases hp2 : Dm.q2 r with ⟨v2, r2⟩
  rcases hp3 : Dm.q3 r with ⟨v3, r3⟩
  rcases hp4 : Dm.q4 r with ⟨v4, r4⟩
  rcases hp5 : Dm.q5 r with ⟨v5, r5⟩
  rcases hp6 : Dm.q6 r with ⟨v6, r6⟩
  rcases hp7 : Dm.q7 r with ⟨v7, r7⟩
  rcases hp8 : Dm.q8 r with ⟨v8, r8⟩
  rcases hp9 : Dm.q9 r with ⟨v9, r9⟩
  rcases hpa : Dm.qa r with ⟨rE, aE⟩
  have HW0 : Hid (Dm.num r = (v0, r0)) := Lib.hid (by have h' := hp0; unfold Dm.q0 at h'; exact h')
  have HW1 : Hid (Dm.num r0 = (v1, r1)) := Lib.hid (by have h' := hp1; unfold Dm.q1 at h'; rw [hp0] at h'; exact h')
  have HW2 : Hid (Dm.num r1 = (v2, r2)) := Lib.hid (by have h' := hp2; unfold Dm.q2 at h'; rw [hp1] at h'; exact h')
  have HW3 : Hid (Dm.num r2 = (v3, r3)) := Lib.hid (by have h' := hp3; unfold Dm.q3 at h'; rw [hp2] at h'; exact h')
  have HW4 : Hid (Dm.text r3 = (v4, r4)) := Lib.hid (by have h' := hp4; unfold Dm.q4 at h'; rw [hp3] at h'; exact h')
  have HW5 : Hid (Dm.text r4 = (v5, r5)) := Lib.hid (by have h' := hp5; unfold Dm.q5 at h'; rw [hp4] at h'; exact h')
  have HW6 : Hid (Dm.int 1099511627776 r5 = (v6, r6)) := Lib.hid (by have h' := hp6; unfold Dm.q6 at h'; rw [hp5] at h'; exact h')
  have HW7 : Hid (Dm.int 1073741824 r6 = (v7, r7)) := Lib.hid (by have h' := hp7; unfold Dm.q7 at h'; rw [hp6] at h'; exact h')
  have HW8 : Hid (Dm.int 1 r7 = (v8, r8)) := Lib.hid (by have h' := hp8; unfold Dm.q8 at h'; rw [hp7] at h'; exact h')
  have HW9 : Hid (Dm.int 4 r8 = (v9, r9)) := Lib.hid (by have h' := hp9; unfold Dm.q9 at h'; rw [hp8] at h'; exact h')
  have HAT : Hid (Dm.atl 4 v9 r9 [] = (rE, aE)) := Lib.hid (by have h' := hpa; unfold Dm.qa at h'; rw [hp9] at h'; exact h')
  obtain ⟨b8, hb8⟩ : ∃ b8, b8 = decide (v8 = 1) := ⟨_, rfl⟩
  have HSP : Hid (Dm.span r = (⟨v0, v1, v2, v3, S8 v4, S8 v5, v6, v7, b8, aE⟩, (rE.1, rE.2 || !right ⟨v0, v1, v2, v3, S8 v4, S8 v5, v6, v7, b8, aE⟩))) := Lib.hid (by rw [hb8]; unfold Dm.span Dm.raw; rw [hp0, hp1, hp2, hp3, hp4, hp5, hp6, hp7, hp8, hpa])
  clear hp0 hp1 hp2 hp3 hp4 hp5 hp6 hp7 hp8 hp9 hpa
  have HOK : Hid (Sp.ok ⟨v0, v1, v2, v3, S8 v4, S8 v5, v6, v7, b8, aE⟩) := Lib.hid (by
    have a0 := dnum_bd r
    rw [HW0.out] at a0
    simp only at a0
    have a1 := dnum_bd r0
    rw [HW1.out] at a1
    simp only at a1
    have a2 := dnum_bd r1
    rw [HW2.out] at a2
    simp only at a2
    have a3 := dnum_bd r2
    rw [HW3.out] at a3
    simp only at a3
    have a4 := dtext_bd r3
    rw [HW4.out] at a4
    simp only at a4
    have a5 := dtext_bd r4
    rw [HW5.out] at a5
    simp only at a5
    have a6 := dint_bd 1099511627776 r5
    rw [HW6.out] at a6
    simp only at a6
    have a7 := dint_bd 1073741824 r6
    rw [HW7.out] at a7
    simp only at a7
    have a8 := dint_bd 1 r7
    rw [HW8.out] at a8
    simp only at a8
    have a9 := dint_bd 4 r8
    rw [HW9.out] at a9
    simp only at a9
    have aa := datl_bd maxLen 4 v9 r9 [] (by unfold maxLen; omega) (fun a h => by cases h)
    rw [HAT.out] at aa
    simp only [List.length_nil] at aa
    have c0 := dnum_lt r
    rw [HW0.out] at c0
    simp only at c0
    have c1 := dnum_lt r0
    rw [HW1.out] at c1
    simp only at c1
    have c2 := dnum_lt r1
    rw [HW2.out] at c2
    simp only at c2
    have c3 := dnum_lt r2
    rw [HW3.out] at c3
    simp only at c3
    have c6 := dint_le 1099511627776 r5
    rw [HW6.out] at c6
    simp only at c6
    have c7 := dint_le 1073741824 r6
    rw [HW7.out] at c7
    simp only at c7
    exact ok_mk v0 v1 v2 v3 (S8 v4) (S8 v5) v6 v7 b8 aE c0 c1 c2 c3 (by rw [S8_size]; unfold maxLen; omega) (by rw [S8_size]; unfold maxLen; omega) (by omega) (by omega) (Nat.le_trans aa.2 (by unfold maxLen; omega)) aa.1)
  have b9 : v9 ≤ 4 := by have h' := dint_le 4 r8; rw [HW9.out] at h'; exact h'
  have b8' : v8 ≤ 1 := by have h' := dint_le 1 r7; rw [HW8.out] at h'; exact h'
  have e8 : ((v8 : Int) == 1) = b8 := by rw [hb8]; rcases (show v8 = 0 ∨ v8 = 1 by omega) with e | e <;> subst e <;> rfl
  have e8' : decide ((v8 : Int) = 1) = b8 := by rw [hb8]; rcases (show v8 = 0 ∨ v8 = 1 by omega) with e | e <;> subst e <;> rfl
  clear hb8 b8' hlen
  have HA0 : Hid (DPt w (w.alloc (.cells #[.int .u64 0, .int .u64 0, .int .u64 0, .int .u64 0, .string ⟨#[]⟩, .string ⟨#[]⟩, .int .i64 0, .int .i64 0, .bool false, .slice none 0 0] 36)) B g r) := Lib.hid (DPt.start h)
  clear h
  go_enter Try.func58, Try.ntmps58
  go_wp2_with fail
  generalize w.alloc (.cells #[.int .u64 0, .int .u64 0, .int .u64 0, .int .u64 0, .string ⟨#[]⟩, .string ⟨#[]⟩, .int .i64 0, .int .i64 0, .bool false, .slice none 0 0] 36) = w_ at *
  have C0 := Lib.hid (dnum_any g B r w_ HA0.out.rd)
  rw [HW0.out] at C0
  refine C0.out.mono ?_
  rintro e w0 ⟨rfl, hr, hg⟩
  have HA1 := Lib.hid (HA0.out.call hr hg)
  clear hr hg C0 HA0 HW0
  go_wp2_with fail
  have C1 := Lib.hid (dnum_any g B r0 w0 HA1.out.rd)
  rw [HW1.out] at C1
  refine C1.out.mono ?_
  rintro e w1 ⟨rfl, hr, hg⟩
  have HA2 := Lib.hid (HA1.out.call hr hg)
  clear hr hg C1 HA1 HW1
  go_wp2_with fail
  have C2 := Lib.hid (dnum_any g B r1 w1 HA2.out.rd)
  rw [HW2.out] at C2
  refine C2.out.mono ?_
  rintro e w2 ⟨rfl, hr, hg⟩
  have HA3 := Lib.hid (HA2.out.call hr hg)
  clear hr hg C2 HA2 HW2
  go_wp2_with fail
  have C3 := Lib.hid (dnum_any g B r2 w2 HA3.out.rd)
  rw [HW3.out] at C3
  refine C3.out.mono ?_
  rintro e w3 ⟨rfl, hr, hg⟩
  have HA4 := Lib.hid (HA3.out.call hr hg)
  clear hr hg C3 HA3 HW3
  go_wp2_with fail
  have C4 := Lib.hid (dtext_any g B r3 w3 HA4.out.rd)
  rw [HW4.out] at C4
  refine C4.out.mono ?_
  rintro e w4 ⟨rfl, hr, hg⟩
  have HA5 := Lib.hid (HA4.out.call hr hg)
  clear hr hg C4 HA4 HW4
  go_wp2_with fail
  have C5 := Lib.hid (dtext_any g B r4 w4 HA5.out.rd)
  rw [HW5.out] at C5
  refine C5.out.mono ?_
  rintro e w5 ⟨rfl, hr, hg⟩
  have HA6 := Lib.hid (HA5.out.call hr hg)
  clear hr hg C5 HA5 HW5
  go_wp2_with fail
  have C6 := Lib.hid (dintL g B 1099511627776 1099511627776 rfl r5 w5 HA6.out.rd (by omega))
  rw [HW6.out] at C6
  refine C6.out.mono ?_
  rintro e w6 ⟨rfl, hr, hg⟩
  have HA7 := Lib.hid (HA6.out.call hr hg)
  clear hr hg C6 HA6 HW6
  go_wp2_with fail
  have C7 := Lib.hid (dintL g B 1073741824 1073741824 rfl r6 w6 HA7.out.rd (by omega))
  rw [HW7.out] at C7
  refine C7.out.mono ?_
  rintro e w7 ⟨rfl, hr, hg⟩
  have HA8 := Lib.hid (HA7.out.call hr hg)
  clear hr hg C7 HA7 HW7
  have HB8 := Lib.hid (HA8.out.box #[.int .u64 (v0 : Int), .int .u64 (v1 : Int), .int .u64 (v2 : Int), .int .u64 (v3 : Int), .string (S8 v4), .string (S8 v5), .int .i64 (v6 : Int), .int .i64 (v7 : Int), .bool false, .slice none 0 0])
  clear HA8
  go_wp2_with fail
  generalize w7.alloc (.cells #[.int .u64 (v0 : Int), .int .u64 (v1 : Int), .int .u64 (v2 : Int), .int .u64 (v3 : Int), .string (S8 v4), .string (S8 v5), .int .i64 (v6 : Int), .int .i64 (v7 : Int), .bool false, .slice none 0 0] 36) = u8 at *
  generalize w7.heap.size = b at *
  have C8 := Lib.hid (dintL g B 1 1 rfl r7 u8 HB8.out.rd (by omega))
  rw [HW8.out] at C8
  refine C8.out.mono ?_
  rintro e x8 ⟨rfl, hr, hg⟩
  have HC8 := Lib.hid (HB8.out.call hr hg)
  have ck : x8.cell? ⟨b, 8, none⟩ = some (.bool false) := cell_of_row _ _ 8 _ _ (0, 0) HC8.out.box
  have fk : x8.frozen? ⟨b, 8, none⟩ = false := by simp [World.frozen?, HC8.out.box]
  have HA9 : Hid (DFt w (x8.setCell ⟨b, 8, none⟩ (.bool b8)) B g b r8 #[.int .u64 (v0 : Int), .int .u64 (v1 : Int), .int .u64 (v2 : Int), .int .u64 (v3 : Int), .string (S8 v4), .string (S8 v5), .int .i64 (v6 : Int), .int .i64 (v7 : Int), .bool b8, .slice none 0 0]) := Lib.hid (HC8.out.set 8 (.bool b8))
  clear hr hg C8 HB8 HW8
  go_wp2_with fail
  generalize x8.setCell ⟨b, 8, none⟩ (.bool b8) = u9 at *
  clear ck fk HC8 e8 e8'
  have C9 := Lib.hid (dintL g B 4 4 rfl r8 u9 HA9.out.rd (by omega))
  rw [HW9.out] at C9
  refine C9.out.mono ?_
  rintro e x9 ⟨rfl, hr, hg⟩
  have HB9 := Lib.hid (HA9.out.call hr hg)
  clear hr hg C9 HA9 HW9
  go_wp2_with fail
  go_loopw [5] (fun n wr => ∃ (q f c : Nat) (r' : Rm.R) (acc : List (ByteArray × ByteArray)) (A : Option Addr), n = .int .i64 q ∧ q ≤ v9 ∧ q + f = 4 ∧ Hid (q = acc.length) ∧ Hid (Dm.atl f (v9 - q) r' acc = (rE, aE)) ∧ Hid (DFt w wr B g b r' #[.int .u64 (v0 : Int), .int .u64 (v1 : Int), .int .u64 (v2 : Int), .int .u64 (v3 : Int), .string (S8 v4), .string (S8 v5), .int .i64 (v6 : Int), .int .i64 (v7 : Int), .bool b8, .slice A q c]) ∧ Hid (wr.ownsRow (b + 1) 49 2 (.slice A q c) q (acc.flatMap atC))) (fun n _ => v9 - (intOf n).toNat)
  case atStart => exact ⟨0, 4, 0, r9, [], none, rfl, Nat.zero_le _, rfl, Lib.hid rfl, HAT, HB9, Lib.hid (World.ownsRow_nil _ _ _ _)⟩
  case round =>
    obtain ⟨q, f, c, r', acc, A, rfl, hq, hqf, HQL, HAT2, HF, HO⟩ := hrel
    clear HAT HB9
    obtain ⟨rest, bad⟩ := r'
    have hgb : g < w.heap.size := HF.out.lt
    have c1 : wr.cell? ⟨g, 1, none⟩ = some (.bool bad) := by obtain ⟨rA, rn, rc, hx, _⟩ := HF.out.rd.cell; exact cell_of_row _ _ 1 _ _ (0, 0) hx
    by_cases hgo : q < v9 ∧ bad = false
    · obtain ⟨hm0, rfl⟩ := hgo
      obtain ⟨f, rfl⟩ : ∃ f', f = f' + 1 := ⟨f - 1, by omega⟩
      rcases ht1 : Dm.text (rest, false) with ⟨k1, s1⟩
      rcases ht2 : Dm.text s1 with ⟨k2, s2⟩
      have HAT3 : Hid (Dm.atl f (v9 - (q + 1)) s2 (acc ++ [(S8 k1, S8 k2)]) = (rE, aE)) := Lib.hid (by have h' := HAT2.out; unfold Dm.atl at h'; rw [if_pos ⟨by omega, rfl⟩, ht1] at h'; simp only at h'; rw [ht2] at h'; rw [Nat.sub_sub] at h'; exact h')
      have hd1 : decide ((q : Int) < (v9 : Int)) = true := decide_eq_true (by omega)
      have hd1n : decide (q < v9) = true := decide_eq_true (by omega)
      have HT1 := Lib.hid ht1
      have HT2 := Lib.hid ht2
      have HE := Lib.hid (And.intro hq (And.intro hqf (And.intro hm0 (And.intro b9 hgb))))
      clear ht1 ht2 HAT2 hq hqf hm0 b9
      go_wp2_with fail
      clear hd1 hd1n
      have HF0 := Lib.hid HF.out.drew
      have HO0 := Lib.hid (own_drew HO.out)
      clear HF HO c1
      obtain ⟨W, hW⟩ : ∃ W, W = wr.drew := ⟨_, rfl⟩
      rw [← hW] at HF0 HO0
      refine PI.wp_region_persG (R := fun _ _ => True) (G := fun _ _ => True) (I := fun L _ w1 => DsI w B g b q (rest, false) s1 s2 (.slice A q c) acc (acc ++ [(S8 k1, S8 k2)]) (fun v => #[.int .u64 (v0 : Int), .int .u64 (v1 : Int), .int .u64 (v2 : Int), .int .u64 (v3 : Int), .string (S8 v4), .string (S8 v5), .int .i64 (v6 : Int), .int .i64 (v7 : Int), .bool b8, v]) L w1) [(1, 0), (3, 2), (5, 4), (6, 3), (6, 5), (7, 6), (8, 1), (8, 7), (10, 9), (10, 8)] [] (by kernel_rfl) (PI.formed_of (by kernel_rfl)) ⟨fun _ => trivial, fun _ _ _ _ _ => trivial⟩ (fun _ => trivial) (DsF g b q (.slice A q c) (S8 k1) (S8 k2) (acc ++ [(S8 k1, S8 k2)])) (by rw [← hW]; exact ⟨HF0.out, fun _ => HO0.out⟩) ?_ ?_
      · intro i o ho
        rcases i with _ | _ | _ | _ | _ | _ | _ | _ | _ | _ | _ | i
        · obtain rfl := Option.some.inj (show some _ = some o from ho)
          refine PI.shown_val rfl fun a w3 L hr T => ?_
          have h3 : a.eval (.tmp 3) = .pointer (some ⟨b, 0, none⟩) := T.was 3 (by kernel_rfl)
          exact ⟨.pointer (some ⟨b, 9, none⟩), w3, by simp only [execOp, h3]; simp [go_sem], PI.Post.pure ⟨fun _ => trivial, fun _ _ _ _ _ => trivial⟩ rfl (DsI.same 0 (by decide) T.inv)⟩
        · obtain rfl := Option.some.inj (show some _ = some o from ho)
          refine PI.shown_val rfl fun a w3 L hr T => ?_
          have h42 : a.eval (.tmp 42) = .pointer (some ⟨b, 9, none⟩) := T.at_ 0 42 (by kernel_rfl) (by kernel_rfl) (by kernel_rfl)
          have hL10 : L 10 = false := T.wait 10 _ rfl ⟨_, Array.mem_of_getElem? (i := 4) rfl, rfl, rfl⟩
          have HI : DsI w B g b q (rest, false) s1 s2 (.slice A q c) acc (acc ++ [(S8 k1, S8 k2)]) (fun v => #[.int .u64 (v0 : Int), .int .u64 (v1 : Int), .int .u64 (v2 : Int), .int .u64 (v3 : Int), .string (S8 v4), .string (S8 v5), .int .i64 (v6 : Int), .int .i64 (v7 : Int), .bool b8, v]) L w3 := T.inv
          have HI2 := HI
          unfold DsI at HI2
          rw [if_neg (by rw [hL10]; simp)] at HI2
          have c9 : w3.cell? ⟨b, 9, none⟩ = some (.slice A q c) := cell_of_row _ _ 9 _ _ (0, 0) HI2.1.box
          exact ⟨.slice A q c, w3, by simp only [execOp, h42]; simp [go_sem, c9], PI.Post.pure ⟨fun _ => trivial, fun _ _ _ _ _ => trivial⟩ rfl (DsI.same 1 (by decide) T.inv)⟩
        · obtain rfl := Option.some.inj (show some _ = some o from ho)
          refine PI.shown_val rfl fun a w3 L hr T => ?_
          have h0 : a.eval (.tmp 0) = .pointer (some ⟨g, 0, none⟩) := T.was 0 (by kernel_rfl)
          exact ⟨.pointer (some ⟨g, 0, none⟩), w3, by simp only [execOp, h0]; simp [go_sem], PI.Post.pure ⟨fun _ => trivial, fun _ _ _ _ _ => trivial⟩ rfl (DsI.same 2 (by decide) T.inv)⟩
        · obtain rfl := Option.some.inj (show some _ = some o from ho)
          refine PI.shown_call rfl 88 fun a w3 L hr T => ?_
          have h44 : a.eval (.tmp 44) = .pointer (some ⟨g, 0, none⟩) := T.at_ 2 44 (by kernel_rfl) (by kernel_rfl) (by kernel_rfl)
          have hL10 : L 10 = false := T.wait 10 _ rfl ⟨_, Array.mem_of_getElem? (i := 6) rfl, rfl, rfl⟩
          have hL5 : L 5 = false := T.wait 5 _ rfl ⟨_, Array.mem_of_getElem? (i := 1) rfl, rfl, rfl⟩
          have hL3 : L 3 = false := T.yetNot
          have hL6 : L 6 = false := Bool.eq_false_iff.2 fun hl => by have := T.shut_ 6 5 (by kernel_rfl) hl; rw [hL5] at this; cases this
          have hL7 : L 7 = false := Bool.eq_false_iff.2 fun hl => by have := T.shut_ 7 6 (by kernel_rfl) hl; rw [hL6] at this; cases this
          have hL8 : L 8 = false := Bool.eq_false_iff.2 fun hl => by have := T.shut_ 8 7 (by kernel_rfl) hl; rw [hL7] at this; cases this
          have HI : DsI w B g b q (rest, false) s1 s2 (.slice A q c) acc (acc ++ [(S8 k1, S8 k2)]) (fun v => #[.int .u64 (v0 : Int), .int .u64 (v1 : Int), .int .u64 (v2 : Int), .int .u64 (v3 : Int), .string (S8 v4), .string (S8 v5), .int .i64 (v6 : Int), .int .i64 (v7 : Int), .bool b8, v]) L w3 := T.inv
          unfold DsI at HI
          rw [if_neg (by rw [hL10]; simp), if_neg (by rw [hL5]; simp), if_neg (by rw [hL3]; simp)] at HI
          obtain ⟨hF, hO⟩ := HI
          refine ⟨#[.pointer (some ⟨g, 0, none⟩)], by simp only [execOp, resolve, List.map_toArray, List.map_cons, List.map_nil, h44]; simp [go_sem, Act.eval], ?_⟩
          have C1 := dtext_any g B (rest, false) w3 hF.rd
          rw [HT1.out] at C1
          refine C1.mono fun e w4 hh => ?_
          obtain ⟨rfl, hr4, hg4⟩ := hh
          refine ⟨_, rfl, trivial, rfl, fun _ _ h => h, fun j v hj hlj hnd hvj h => ?_, ?_⟩
          · refine h.other ⟨fun e => ?_, fun e => ?_⟩
            · rw [e, hL7] at hlj; cases hlj
            · rw [e, hL8] at hlj; cases hlj
          · show DsI w B g b q (rest, false) s1 s2 (.slice A q c) acc (acc ++ [(S8 k1, S8 k2)]) (fun v => #[.int .u64 (v0 : Int), .int .u64 (v1 : Int), .int .u64 (v2 : Int), .int .u64 (v3 : Int), .string (S8 v4), .string (S8 v5), .int .i64 (v6 : Int), .int .i64 (v7 : Int), .bool b8, v]) (PI.upd L 3) w4
            unfold DsI
            rw [if_neg (by unfold PI.upd; simp [hL10]), if_neg (by unfold PI.upd; simp [hL5]), if_pos (by unfold PI.upd; simp)]
            exact ⟨hF.call hr4 hg4, fun _ => own_grown (hO hL8) hg4 (by have := hF.lt; have := hF.bb; omega)⟩
        · obtain rfl := Option.some.inj (show some _ = some o from ho)
          refine PI.shown_val rfl fun a w3 L hr T => ?_
          have h0 : a.eval (.tmp 0) = .pointer (some ⟨g, 0, none⟩) := T.was 0 (by kernel_rfl)
          exact ⟨.pointer (some ⟨g, 0, none⟩), w3, by simp only [execOp, h0]; simp [go_sem], PI.Post.pure ⟨fun _ => trivial, fun _ _ _ _ _ => trivial⟩ rfl (DsI.same 4 (by decide) T.inv)⟩
        · obtain rfl := Option.some.inj (show some _ = some o from ho)
          refine PI.shown_call rfl 88 fun a w3 L hr T => ?_
          have h46 : a.eval (.tmp 46) = .pointer (some ⟨g, 0, none⟩) := T.at_ 4 46 (by kernel_rfl) (by kernel_rfl) (by kernel_rfl)
          have hL10 : L 10 = false := T.wait 10 _ rfl ⟨_, Array.mem_of_getElem? (i := 8) rfl, rfl, rfl⟩
          have hL5 : L 5 = false := T.yetNot
          have hL3 : L 3 = true := T.done _ (Array.mem_of_getElem? (i := 1) rfl) rfl
          have hL6 : L 6 = false := T.wait 6 _ rfl ⟨_, Array.mem_of_getElem? (i := 1) rfl, rfl, rfl⟩
          have hL7 : L 7 = false := Bool.eq_false_iff.2 fun hl => by have := T.shut_ 7 6 (by kernel_rfl) hl; rw [hL6] at this; cases this
          have hL8 : L 8 = false := Bool.eq_false_iff.2 fun hl => by have := T.shut_ 8 7 (by kernel_rfl) hl; rw [hL7] at this; cases this
          have HI : DsI w B g b q (rest, false) s1 s2 (.slice A q c) acc (acc ++ [(S8 k1, S8 k2)]) (fun v => #[.int .u64 (v0 : Int), .int .u64 (v1 : Int), .int .u64 (v2 : Int), .int .u64 (v3 : Int), .string (S8 v4), .string (S8 v5), .int .i64 (v6 : Int), .int .i64 (v7 : Int), .bool b8, v]) L w3 := T.inv
          unfold DsI at HI
          rw [if_neg (by rw [hL10]; simp), if_neg (by rw [hL5]; simp), if_pos hL3] at HI
          obtain ⟨hF, hO⟩ := HI
          refine ⟨#[.pointer (some ⟨g, 0, none⟩)], by simp only [execOp, resolve, List.map_toArray, List.map_cons, List.map_nil, h46]; simp [go_sem, Act.eval], ?_⟩
          have C1 := dtext_any g B s1 w3 hF.rd
          rw [HT2.out] at C1
          refine C1.mono fun e w4 hh => ?_
          obtain ⟨rfl, hr4, hg4⟩ := hh
          refine ⟨_, rfl, trivial, rfl, fun _ _ h => h, fun j v hj hlj hnd hvj h => ?_, ?_⟩
          · refine h.other ⟨fun e => ?_, fun e => ?_⟩
            · rw [e, hL7] at hlj; cases hlj
            · rw [e, hL8] at hlj; cases hlj
          · show DsI w B g b q (rest, false) s1 s2 (.slice A q c) acc (acc ++ [(S8 k1, S8 k2)]) (fun v => #[.int .u64 (v0 : Int), .int .u64 (v1 : Int), .int .u64 (v2 : Int), .int .u64 (v3 : Int), .string (S8 v4), .string (S8 v5), .int .i64 (v6 : Int), .int .i64 (v7 : Int), .bool b8, v]) (PI.upd L 5) w4
            unfold DsI
            rw [if_neg (by unfold PI.upd; simp [hL10]), if_pos (by unfold PI.upd; simp)]
            exact ⟨hF.call hr4 hg4, fun _ => own_grown (hO hL8) hg4 (by have := hF.lt; have := hF.bb; omega)⟩
        · obtain rfl := Option.some.inj (show some _ = some o from ho)
          refine PI.shown_val rfl fun a w3 L hr T => ?_
          have h45 : a.eval (.tmp 45) = .string (S8 k1) := T.at_ 3 45 (by kernel_rfl) (by kernel_rfl) (by kernel_rfl)
          have h47 : a.eval (.tmp 47) = .string (S8 k2) := T.at_ 5 47 (by kernel_rfl) (by kernel_rfl) (by kernel_rfl)
          exact ⟨.agg #[.string (S8 k1), .string (S8 k2)], w3, by simp only [execOp, List.map_toArray, List.map_cons, List.map_nil, h45, h47]; simp [go_sem], PI.Post.pure ⟨fun _ => trivial, fun _ _ _ _ _ => trivial⟩ rfl (DsI.same 6 (by decide) T.inv)⟩
        · obtain rfl := Option.some.inj (show some _ = some o from ho)
          refine PI.shown_val rfl fun a w3 L hr T => ?_
          have h48 : a.eval (.tmp 48) = .agg #[.string (S8 k1), .string (S8 k2)] := T.at_ 6 48 (by kernel_rfl) (by kernel_rfl) (by kernel_rfl)
          have hL10 : L 10 = false := T.wait 10 _ rfl ⟨_, Array.mem_of_getElem? (i := 10) rfl, rfl, rfl⟩
          have hL8 : L 8 = false := T.wait 8 _ rfl ⟨_, Array.mem_of_getElem? (i := 1) rfl, rfl, rfl⟩
          have HI : DsI w B g b q (rest, false) s1 s2 (.slice A q c) acc (acc ++ [(S8 k1, S8 k2)]) (fun v => #[.int .u64 (v0 : Int), .int .u64 (v1 : Int), .int .u64 (v2 : Int), .int .u64 (v3 : Int), .string (S8 v4), .string (S8 v5), .int .i64 (v6 : Int), .int .i64 (v7 : Int), .bool b8, v]) L w3 := T.inv
          unfold DsI at HI
          rw [if_neg (by rw [hL10]; simp)] at HI
          obtain ⟨hF, hO⟩ := HI
          refine ⟨.slice (some ⟨w3.heap.size, 0, none⟩) 1 1, w3.alloc (.cells #[.string (S8 k1), .string (S8 k2)] 49), by simp only [execOp, List.map_toArray, List.map_cons, List.map_nil, h48]; simp [go_sem], trivial, ⟨_, rfl, by have := Rd.lit w3 #[.string (S8 k1), .string (S8 k2)] 49; simpa using this⟩, fun _ _ h => h, fun j v hj hlj hnd hvj h => ?_, ?_⟩
          · refine h.other ⟨fun e => hj e, fun e => ?_⟩
            rw [e, hL8] at hlj; cases hlj
          · show DsI w B g b q (rest, false) s1 s2 (.slice A q c) acc (acc ++ [(S8 k1, S8 k2)]) (fun v => #[.int .u64 (v0 : Int), .int .u64 (v1 : Int), .int .u64 (v2 : Int), .int .u64 (v3 : Int), .string (S8 v4), .string (S8 v5), .int .i64 (v6 : Int), .int .i64 (v7 : Int), .bool b8, v]) (PI.upd L 7) (w3.alloc (.cells #[.string (S8 k1), .string (S8 k2)] 49))
            unfold DsI PI.upd
            simp only [show ¬ (10 = 7) by decide, show ¬ (5 = 7) by decide, show ¬ (3 = 7) by decide, show ¬ (8 = 7) by decide, if_false]
            rw [if_neg (by rw [hL10]; simp)]
            exact ⟨hF.new ((Below.refl _ _).alloc (Nat.le_refl _) _), fun h8 => own_below (hO h8) ((Below.refl _ _).alloc (Nat.le_refl _) _)⟩
        · obtain rfl := Option.some.inj (show some _ = some o from ho)
          refine PI.shown_val rfl fun a w3 L hr T => ?_
          have h43 : a.eval (.tmp 43) = .slice A q c := T.at_ 1 43 (by kernel_rfl) (by kernel_rfl) (by kernel_rfl)
          obtain ⟨aS, h49, hrd⟩ : ∃ aS, a.eval (.tmp 49) = .slice (some aS) 1 1 ∧ Rd w3 w3.heap.size (some aS) [.string (S8 k1), .string (S8 k2)] := T.at_ 7 49 (by kernel_rfl) (by kernel_rfl) (by kernel_rfl)
          have hL10 : L 10 = false := T.wait 10 _ rfl ⟨_, Array.mem_of_getElem? (i := 1) rfl, rfl, rfl⟩
          have hL8 : L 8 = false := T.yetNot
          have HI : DsI w B g b q (rest, false) s1 s2 (.slice A q c) acc (acc ++ [(S8 k1, S8 k2)]) (fun v => #[.int .u64 (v0 : Int), .int .u64 (v1 : Int), .int .u64 (v2 : Int), .int .u64 (v3 : Int), .string (S8 v4), .string (S8 v5), .int .i64 (v6 : Int), .int .i64 (v7 : Int), .bool b8, v]) L w3 := T.inv
          unfold DsI at HI
          rw [if_neg (by rw [hL10]; simp)] at HI
          obtain ⟨hF, hO⟩ := HI
          have hb3 := hF.sz
          obtain ⟨v', w', r1, r2, r3⟩ := appAt (ty := 34) (hO hL8) HQL.out hrd (by have := HE.out; omega) (by omega)
          refine ⟨v', w', by simp only [execOp, resolve, invoke, builtin, Sem.run_bind, Sem.run_pure, Result.andThen_ok, List.map_toArray, List.map_cons, List.map_nil, h43, h49, r1], trivial, r2, fun _ _ h => h, fun j v hj hlj hnd hvj h => ?_, ?_⟩
          · refine h.other ⟨fun e => ?_, fun e => hj e⟩
            subst e
            simp [PI.needB] at hnd
          · show DsI w B g b q (rest, false) s1 s2 (.slice A q c) acc (acc ++ [(S8 k1, S8 k2)]) (fun v => #[.int .u64 (v0 : Int), .int .u64 (v1 : Int), .int .u64 (v2 : Int), .int .u64 (v3 : Int), .string (S8 v4), .string (S8 v5), .int .i64 (v6 : Int), .int .i64 (v7 : Int), .bool b8, v]) (PI.upd L 8) w'
            unfold DsI PI.upd
            simp only [show ¬ (10 = 8) by decide, show ¬ (5 = 8) by decide, show ¬ (3 = 8) by decide, if_false, if_true]
            rw [if_neg (by rw [hL10]; simp)]
            exact ⟨hF.grew r3 (hO hL8) (Nat.le_refl _), fun h8 => by cases h8⟩
        · obtain rfl := Option.some.inj (show some _ = some o from ho)
          refine PI.shown_val rfl fun a w3 L hr T => ?_
          have h3 : a.eval (.tmp 3) = .pointer (some ⟨b, 0, none⟩) := T.was 3 (by kernel_rfl)
          exact ⟨.pointer (some ⟨b, 9, none⟩), w3, by simp only [execOp, h3]; simp [go_sem], PI.Post.pure ⟨fun _ => trivial, fun _ _ _ _ _ => trivial⟩ rfl (DsI.same 9 (by decide) T.inv)⟩
        · obtain rfl := Option.some.inj (show some _ = some o from ho)
          refine PI.shown_skip rfl fun a w3 L hr T => ?_
          have h51 : a.eval (.tmp 51) = .pointer (some ⟨b, 9, none⟩) := T.at_ 9 51 (by kernel_rfl) (by kernel_rfl) (by kernel_rfl)
          have h50 : w3.ownsRow (b + 1) 49 2 (a.eval (.tmp 50)) (q + 1) ((acc ++ [(S8 k1, S8 k2)]).flatMap atC) := T.at_ 8 50 (by kernel_rfl) (by kernel_rfl) (by kernel_rfl)
          obtain ⟨A3, c3, hv, _, _⟩ := own_rd h50
          rw [hv] at h50
          have hL10 : L 10 = false := T.yetNot
          have hL8 : L 8 = true := T.done _ (Array.mem_of_getElem? (i := 1) rfl) rfl
          have hL5 : L 5 = true := T.done _ (Array.mem_of_getElem? (i := 8) rfl) rfl
          have HI : DsI w B g b q (rest, false) s1 s2 (.slice A q c) acc (acc ++ [(S8 k1, S8 k2)]) (fun v => #[.int .u64 (v0 : Int), .int .u64 (v1 : Int), .int .u64 (v2 : Int), .int .u64 (v3 : Int), .string (S8 v4), .string (S8 v5), .int .i64 (v6 : Int), .int .i64 (v7 : Int), .bool b8, v]) L w3 := T.inv
          unfold DsI at HI
          rw [if_neg (by rw [hL10]; simp), if_pos hL5] at HI
          obtain ⟨hF, hO⟩ := HI
          have k9 : w3.cell? ⟨b, 9, none⟩ = some (.slice A q c) := cell_of_row _ _ 9 _ _ (0, 0) hF.box
          have f9 : w3.frozen? ⟨b, 9, none⟩ = false := by simp [World.frozen?, hF.box]
          refine ⟨w3.setCell ⟨b, 9, none⟩ (.slice A3 (q + 1) c3), by simp only [execOp, h51, hv]; simp [go_sem, k9, f9], trivial, trivial, fun _ _ h => h, fun j v hj hlj hnd hvj h => ?_, ?_⟩
          · refine h.other ⟨fun e => ?_, fun e => ?_⟩
            · subst e
              simp [PI.needB, hL8] at hnd
            · subst e
              simp [PI.needB] at hnd
          · show DsI w B g b q (rest, false) s1 s2 (.slice A q c) acc (acc ++ [(S8 k1, S8 k2)]) (fun v => #[.int .u64 (v0 : Int), .int .u64 (v1 : Int), .int .u64 (v2 : Int), .int .u64 (v3 : Int), .string (S8 v4), .string (S8 v5), .int .i64 (v6 : Int), .int .i64 (v7 : Int), .bool b8, v]) (PI.upd L 10) (w3.setCell ⟨b, 9, none⟩ (.slice A3 (q + 1) c3))
            unfold DsI
            rw [if_pos (by unfold PI.upd; simp)]
            exact ⟨A3, c3, hF.set 9 _, own_far h50 (by simp) _⟩
        · cases ho
      · intro x w5 hr hf he hI
        have hI2 : DsI w B g b q (rest, false) s1 s2 (.slice A q c) acc (acc ++ [(S8 k1, S8 k2)]) (fun v => #[.int .u64 (v0 : Int), .int .u64 (v1 : Int), .int .u64 (v2 : Int), .int .u64 (v3 : Int), .string (S8 v4), .string (S8 v5), .int .i64 (v6 : Int), .int .i64 (v7 : Int), .bool b8, v]) (fun k => decide (k < 11)) w5 := hI
        unfold DsI at hI2
        rw [if_pos (by decide)] at hI2
        obtain ⟨A3, c3, hF5, hO5⟩ := hI2
        have HF5 := Lib.hid hF5
        have HO5 := Lib.hid hO5
        clear hf he hr hI hF5 hO5 hW HF0 HO0
        simp only [PI.putAll, Act.put, List.setIfInBounds_toArray, List.set_cons_zero, List.set_cons_succ]
        have eq1 : IntKind.i64.wrap ((q : Int) + 1) = ((q + 1 : Nat) : Int) := by have := HE.out; rw [IntKind.wrap_i64] <;> omega
        obtain ⟨hq, hqf, hm0, b9, _⟩ := HE.out
        go_wp2_with fail
        go_roundw
        case rel => exact ⟨q + 1, f, c3, s2, acc ++ [(S8 k1, S8 k2)], A3, by (try rfl), by omega, by omega, Lib.hid (by rw [List.length_append, HQL.out]; rfl), HAT3, HF5, HO5⟩
        case measure => simp [intOf]; omega
    · have hst : Dm.atl f (v9 - q) (rest, bad) acc = ((rest, bad), acc) := by
        cases f with
        | zero => rfl
        | succ f => unfold Dm.atl; rw [if_neg (fun hh => hgo ⟨by omega, hh.2⟩)]
      have hes := HAT2.out
      rw [hst] at hes
      injection hes with he1 he2
      subst he1
      subst he2
      have hcc : (q = v9 ∧ bad = false) ∨ (bad = true ∧ q = v9) ∨ (bad = true ∧ q < v9) := by
        cases bad <;> simp at hgo ⊢ <;> omega
      clear hgo hst HAT2
      have hbb : w.heap.size < b := HF.out.bb
      have HYO0 := HO
      rcases hcc with ⟨rfl, rfl⟩ | ⟨rfl, rfl⟩ | ⟨rfl, hm0⟩
      · have hd1 : decide ((q : Int) < (q : Int)) = false := decide_eq_false (by omega)
        have t0 : wr.cell? ⟨b, 0, none⟩ = some (.int .u64 (v0 : Int)) := cell_of_row _ _ 0 _ _ (0, 0) HF.out.box
        have t1 : wr.cell? ⟨b, 1, none⟩ = some (.int .u64 (v1 : Int)) := cell_of_row _ _ 1 _ _ (0, 0) HF.out.box
        have t2 : wr.cell? ⟨b, 2, none⟩ = some (.int .u64 (v2 : Int)) := cell_of_row _ _ 2 _ _ (0, 0) HF.out.box
        have t3 : wr.cell? ⟨b, 3, none⟩ = some (.int .u64 (v3 : Int)) := cell_of_row _ _ 3 _ _ (0, 0) HF.out.box
        have t4 : wr.cell? ⟨b, 4, none⟩ = some (.string (S8 v4)) := cell_of_row _ _ 4 _ _ (0, 0) HF.out.box
        have t5 : wr.cell? ⟨b, 5, none⟩ = some (.string (S8 v5)) := cell_of_row _ _ 5 _ _ (0, 0) HF.out.box
        have t6 : wr.cell? ⟨b, 6, none⟩ = some (.int .i64 (v6 : Int)) := cell_of_row _ _ 6 _ _ (0, 0) HF.out.box
        have t7 : wr.cell? ⟨b, 7, none⟩ = some (.int .i64 (v7 : Int)) := cell_of_row _ _ 7 _ _ (0, 0) HF.out.box
        have t8 : wr.cell? ⟨b, 8, none⟩ = some (.bool b8) := cell_of_row _ _ 8 _ _ (0, 0) HF.out.box
        have t9 : wr.cell? ⟨b, 9, none⟩ = some (.slice A q c) := cell_of_row _ _ 9 _ _ (0, 0) HF.out.box
        have RL : RdL wr wr.heap.size ⟨⟨v0, v1, v2, v3, S8 v4, S8 v5, v6, v7, b8, acc⟩, A, c⟩ := ⟨Rd.of_own HO.out, by have := own_cap HO.out; rw [← HQL.out]; exact this, HOK.out⟩
        have RC := Lib.hid (rightspan_lit v0 v1 v2 v3 (S8 v4) (S8 v5) v6 v7 b8 acc A c q wr.heap.size wr HQL.out RL (Nat.le_refl _))
        clear RL
        rcases hri : right ⟨v0, v1, v2, v3, S8 v4, S8 v5, v6, v7, b8, acc⟩ with _ | _
        · rw [hri] at RC HSP
          clear hri
          clear hq hqf b9
          go_wp2_with (go_at_call 29; (with_reducible refine (RC.out).mono ?_); rintro e x1 ⟨rfl, hb⟩; have HF1 := Lib.hid (HF.out.new hb); have HO1 := Lib.hid (own_below HO.out hb); obtain ⟨rA, rn, rc, hx, _⟩ := HF1.out.rd.cell; have g1 : x1.cell? ⟨g, 1, none⟩ = some (.bool false) := cell_of_row _ _ 1 _ _ (0, 0) hx; have f1 : x1.frozen? ⟨g, 1, none⟩ = false := (by simp [World.frozen?, hx]); have HY : Hid (DFt w (x1.setCell ⟨g, 1, none⟩ (.bool true)) B g b (rest, true) #[.int .u64 (v0 : Int), .int .u64 (v1 : Int), .int .u64 (v2 : Int), .int .u64 (v3 : Int), .string (S8 v4), .string (S8 v5), .int .i64 (v6 : Int), .int .i64 (v7 : Int), .bool b8, .slice A q c]) := Lib.hid (HF1.out.bad true); have HYO := Lib.hid (own_far HO1.out (p := ⟨g, 1, none⟩) (show g < b + 1 by omega) (.bool true)); clear hb hx; have p0 : (x1.setCell ⟨g, 1, none⟩ (.bool true)).cell? ⟨w.heap.size, 0, none⟩ = some (.int .u64 0) := cell_of_row _ _ 0 _ _ (0, 0) HY.out.res; have q0 : (x1.setCell ⟨g, 1, none⟩ (.bool true)).frozen? ⟨w.heap.size, 0, none⟩ = false := (by simp [World.frozen?, HY.out.res]); have p1 : (x1.setCell ⟨g, 1, none⟩ (.bool true)).cell? ⟨w.heap.size, 1, none⟩ = some (.int .u64 0) := cell_of_row _ _ 1 _ _ (0, 0) HY.out.res; have q1 : (x1.setCell ⟨g, 1, none⟩ (.bool true)).frozen? ⟨w.heap.size, 1, none⟩ = false := (by simp [World.frozen?, HY.out.res]); have p2 : (x1.setCell ⟨g, 1, none⟩ (.bool true)).cell? ⟨w.heap.size, 2, none⟩ = some (.int .u64 0) := cell_of_row _ _ 2 _ _ (0, 0) HY.out.res; have q2 : (x1.setCell ⟨g, 1, none⟩ (.bool true)).frozen? ⟨w.heap.size, 2, none⟩ = false := (by simp [World.frozen?, HY.out.res]); have p3 : (x1.setCell ⟨g, 1, none⟩ (.bool true)).cell? ⟨w.heap.size, 3, none⟩ = some (.int .u64 0) := cell_of_row _ _ 3 _ _ (0, 0) HY.out.res; have q3 : (x1.setCell ⟨g, 1, none⟩ (.bool true)).frozen? ⟨w.heap.size, 3, none⟩ = false := (by simp [World.frozen?, HY.out.res]); have p4 : (x1.setCell ⟨g, 1, none⟩ (.bool true)).cell? ⟨w.heap.size, 4, none⟩ = some (.string ⟨#[]⟩) := cell_of_row _ _ 4 _ _ (0, 0) HY.out.res; have q4 : (x1.setCell ⟨g, 1, none⟩ (.bool true)).frozen? ⟨w.heap.size, 4, none⟩ = false := (by simp [World.frozen?, HY.out.res]); have p5 : (x1.setCell ⟨g, 1, none⟩ (.bool true)).cell? ⟨w.heap.size, 5, none⟩ = some (.string ⟨#[]⟩) := cell_of_row _ _ 5 _ _ (0, 0) HY.out.res; have q5 : (x1.setCell ⟨g, 1, none⟩ (.bool true)).frozen? ⟨w.heap.size, 5, none⟩ = false := (by simp [World.frozen?, HY.out.res]); have p6 : (x1.setCell ⟨g, 1, none⟩ (.bool true)).cell? ⟨w.heap.size, 6, none⟩ = some (.int .i64 0) := cell_of_row _ _ 6 _ _ (0, 0) HY.out.res; have q6 : (x1.setCell ⟨g, 1, none⟩ (.bool true)).frozen? ⟨w.heap.size, 6, none⟩ = false := (by simp [World.frozen?, HY.out.res]); have p7 : (x1.setCell ⟨g, 1, none⟩ (.bool true)).cell? ⟨w.heap.size, 7, none⟩ = some (.int .i64 0) := cell_of_row _ _ 7 _ _ (0, 0) HY.out.res; have q7 : (x1.setCell ⟨g, 1, none⟩ (.bool true)).frozen? ⟨w.heap.size, 7, none⟩ = false := (by simp [World.frozen?, HY.out.res]); have p8 : (x1.setCell ⟨g, 1, none⟩ (.bool true)).cell? ⟨w.heap.size, 8, none⟩ = some (.bool false) := cell_of_row _ _ 8 _ _ (0, 0) HY.out.res; have q8 : (x1.setCell ⟨g, 1, none⟩ (.bool true)).frozen? ⟨w.heap.size, 8, none⟩ = false := (by simp [World.frozen?, HY.out.res]); have p9 : (x1.setCell ⟨g, 1, none⟩ (.bool true)).cell? ⟨w.heap.size, 9, none⟩ = some (.slice none 0 0) := cell_of_row _ _ 9 _ _ (0, 0) HY.out.res; have q9 : (x1.setCell ⟨g, 1, none⟩ (.bool true)).frozen? ⟨w.heap.size, 9, none⟩ = false := (by simp [World.frozen?, HY.out.res]); have d0 : (x1.setCell ⟨g, 1, none⟩ (.bool true)).cell? ⟨b, 0, none⟩ = some (.int .u64 (v0 : Int)) := cell_of_row _ _ 0 _ _ (0, 0) HY.out.box; have d1 : (x1.setCell ⟨g, 1, none⟩ (.bool true)).cell? ⟨b, 1, none⟩ = some (.int .u64 (v1 : Int)) := cell_of_row _ _ 1 _ _ (0, 0) HY.out.box; have d2 : (x1.setCell ⟨g, 1, none⟩ (.bool true)).cell? ⟨b, 2, none⟩ = some (.int .u64 (v2 : Int)) := cell_of_row _ _ 2 _ _ (0, 0) HY.out.box; have d3 : (x1.setCell ⟨g, 1, none⟩ (.bool true)).cell? ⟨b, 3, none⟩ = some (.int .u64 (v3 : Int)) := cell_of_row _ _ 3 _ _ (0, 0) HY.out.box; have d4 : (x1.setCell ⟨g, 1, none⟩ (.bool true)).cell? ⟨b, 4, none⟩ = some (.string (S8 v4)) := cell_of_row _ _ 4 _ _ (0, 0) HY.out.box; have d5 : (x1.setCell ⟨g, 1, none⟩ (.bool true)).cell? ⟨b, 5, none⟩ = some (.string (S8 v5)) := cell_of_row _ _ 5 _ _ (0, 0) HY.out.box; have d6 : (x1.setCell ⟨g, 1, none⟩ (.bool true)).cell? ⟨b, 6, none⟩ = some (.int .i64 (v6 : Int)) := cell_of_row _ _ 6 _ _ (0, 0) HY.out.box; have d7 : (x1.setCell ⟨g, 1, none⟩ (.bool true)).cell? ⟨b, 7, none⟩ = some (.int .i64 (v7 : Int)) := cell_of_row _ _ 7 _ _ (0, 0) HY.out.box; have d8 : (x1.setCell ⟨g, 1, none⟩ (.bool true)).cell? ⟨b, 8, none⟩ = some (.bool b8) := cell_of_row _ _ 8 _ _ (0, 0) HY.out.box; have d9 : (x1.setCell ⟨g, 1, none⟩ (.bool true)).cell? ⟨b, 9, none⟩ = some (.slice A q c) := cell_of_row _ _ 9 _ _ (0, 0) HY.out.box)
          have LR : DSt (((((((((((x1.setCell ⟨g, 1, none⟩ (.bool true)).setCell ⟨w.heap.size, 0, none⟩ (.int .u64 (v0 : Int))).setCell ⟨w.heap.size, 1, none⟩ (.int .u64 (v1 : Int))).setCell ⟨w.heap.size, 2, none⟩ (.int .u64 (v2 : Int))).setCell ⟨w.heap.size, 3, none⟩ (.int .u64 (v3 : Int))).setCell ⟨w.heap.size, 4, none⟩ (.string (S8 v4))).setCell ⟨w.heap.size, 5, none⟩ (.string (S8 v5))).setCell ⟨w.heap.size, 6, none⟩ (.int .i64 (v6 : Int))).setCell ⟨w.heap.size, 7, none⟩ (.int .i64 (v7 : Int))).setCell ⟨w.heap.size, 8, none⟩ (.bool b8)).setCell ⟨w.heap.size, 9, none⟩ (.slice A q c)) B g (rest, true) := by repeat' (first | (with_reducible exact HY.out.rd) | (refine DSt.far ?_ (by simp; omega) _))
          have LG : w.grownBy (((((((((((x1.setCell ⟨g, 1, none⟩ (.bool true)).setCell ⟨w.heap.size, 0, none⟩ (.int .u64 (v0 : Int))).setCell ⟨w.heap.size, 1, none⟩ (.int .u64 (v1 : Int))).setCell ⟨w.heap.size, 2, none⟩ (.int .u64 (v2 : Int))).setCell ⟨w.heap.size, 3, none⟩ (.int .u64 (v3 : Int))).setCell ⟨w.heap.size, 4, none⟩ (.string (S8 v4))).setCell ⟨w.heap.size, 5, none⟩ (.string (S8 v5))).setCell ⟨w.heap.size, 6, none⟩ (.int .i64 (v6 : Int))).setCell ⟨w.heap.size, 7, none⟩ (.int .i64 (v7 : Int))).setCell ⟨w.heap.size, 8, none⟩ (.bool b8)).setCell ⟨w.heap.size, 9, none⟩ (.slice A q c)) (some g) := by repeat' (first | (with_reducible exact HY.out.grown) | (refine grown_old ?_ (by simp) _))
          have LO : (((((((((((x1.setCell ⟨g, 1, none⟩ (.bool true)).setCell ⟨w.heap.size, 0, none⟩ (.int .u64 (v0 : Int))).setCell ⟨w.heap.size, 1, none⟩ (.int .u64 (v1 : Int))).setCell ⟨w.heap.size, 2, none⟩ (.int .u64 (v2 : Int))).setCell ⟨w.heap.size, 3, none⟩ (.int .u64 (v3 : Int))).setCell ⟨w.heap.size, 4, none⟩ (.string (S8 v4))).setCell ⟨w.heap.size, 5, none⟩ (.string (S8 v5))).setCell ⟨w.heap.size, 6, none⟩ (.int .i64 (v6 : Int))).setCell ⟨w.heap.size, 7, none⟩ (.int .i64 (v7 : Int))).setCell ⟨w.heap.size, 8, none⟩ (.bool b8)).setCell ⟨w.heap.size, 9, none⟩ (.slice A q c)).ownsRow (b + 1) 49 2 (.slice A q c) q (acc.flatMap atC) := by repeat' (first | (with_reducible exact HYO.out) | (refine own_far ?_ (by simp; omega) _))
          refine bodyPost_ret (v := .agg #[.int .u64 (v0 : Int), .int .u64 (v1 : Int), .int .u64 (v2 : Int), .int .u64 (v3 : Int), .string (S8 v4), .string (S8 v5), .int .i64 (v6 : Int), .int .i64 (v7 : Int), .bool b8, .slice A q c]) (by simp [results, Try.results58, go_sem, p0, p1, p2, p3, p4, p5, p6, p7, p8, p9]) rfl ?_
          rw [HSP.out]
          exact dspanOf_mk ⟨v0, v1, v2, v3, S8 v4, S8 v5, v6, v7, b8, acc⟩ A c q HQL.out (own_mono LO (by omega)) HOK.out LR LG
        · rw [hri] at RC HSP
          clear hri
          clear hq hqf b9
          go_wp2_with (go_at_call 29; (with_reducible refine (RC.out).mono ?_); rintro e x1 ⟨rfl, hb⟩; have HF1 := Lib.hid (HF.out.new hb); have HO1 := Lib.hid (own_below HO.out hb); obtain ⟨rA, rn, rc, hx, _⟩ := HF1.out.rd.cell; have g1 : x1.cell? ⟨g, 1, none⟩ = some (.bool false) := cell_of_row _ _ 1 _ _ (0, 0) hx; have f1 : x1.frozen? ⟨g, 1, none⟩ = false := (by simp [World.frozen?, hx]); have HY : Hid (DFt w (x1.setCell ⟨g, 1, none⟩ (.bool false)) B g b (rest, false) #[.int .u64 (v0 : Int), .int .u64 (v1 : Int), .int .u64 (v2 : Int), .int .u64 (v3 : Int), .string (S8 v4), .string (S8 v5), .int .i64 (v6 : Int), .int .i64 (v7 : Int), .bool b8, .slice A q c]) := Lib.hid (HF1.out.bad false); have HYO := Lib.hid (own_far HO1.out (p := ⟨g, 1, none⟩) (show g < b + 1 by omega) (.bool false)); clear hb hx; have p0 : (x1.setCell ⟨g, 1, none⟩ (.bool false)).cell? ⟨w.heap.size, 0, none⟩ = some (.int .u64 0) := cell_of_row _ _ 0 _ _ (0, 0) HY.out.res; have q0 : (x1.setCell ⟨g, 1, none⟩ (.bool false)).frozen? ⟨w.heap.size, 0, none⟩ = false := (by simp [World.frozen?, HY.out.res]); have p1 : (x1.setCell ⟨g, 1, none⟩ (.bool false)).cell? ⟨w.heap.size, 1, none⟩ = some (.int .u64 0) := cell_of_row _ _ 1 _ _ (0, 0) HY.out.res; have q1 : (x1.setCell ⟨g, 1, none⟩ (.bool false)).frozen? ⟨w.heap.size, 1, none⟩ = false := (by simp [World.frozen?, HY.out.res]); have p2 : (x1.setCell ⟨g, 1, none⟩ (.bool false)).cell? ⟨w.heap.size, 2, none⟩ = some (.int .u64 0) := cell_of_row _ _ 2 _ _ (0, 0) HY.out.res; have q2 : (x1.setCell ⟨g, 1, none⟩ (.bool false)).frozen? ⟨w.heap.size, 2, none⟩ = false := (by simp [World.frozen?, HY.out.res]); have p3 : (x1.setCell ⟨g, 1, none⟩ (.bool false)).cell? ⟨w.heap.size, 3, none⟩ = some (.int .u64 0) := cell_of_row _ _ 3 _ _ (0, 0) HY.out.res; have q3 : (x1.setCell ⟨g, 1, none⟩ (.bool false)).frozen? ⟨w.heap.size, 3, none⟩ = false := (by simp [World.frozen?, HY.out.res]); have p4 : (x1.setCell ⟨g, 1, none⟩ (.bool false)).cell? ⟨w.heap.size, 4, none⟩ = some (.string ⟨#[]⟩) := cell_of_row _ _ 4 _ _ (0, 0) HY.out.res; have q4 : (x1.setCell ⟨g, 1, none⟩ (.bool false)).frozen? ⟨w.heap.size, 4, none⟩ = false := (by simp [World.frozen?, HY.out.res]); have p5 : (x1.setCell ⟨g, 1, none⟩ (.bool false)).cell? ⟨w.heap.size, 5, none⟩ = some (.string ⟨#[]⟩) := cell_of_row _ _ 5 _ _ (0, 0) HY.out.res; have q5 : (x1.setCell ⟨g, 1, none⟩ (.bool false)).frozen? ⟨w.heap.size, 5, none⟩ = false := (by simp [World.frozen?, HY.out.res]); have p6 : (x1.setCell ⟨g, 1, none⟩ (.bool false)).cell? ⟨w.heap.size, 6, none⟩ = some (.int .i64 0) := cell_of_row _ _ 6 _ _ (0, 0) HY.out.res; have q6 : (x1.setCell ⟨g, 1, none⟩ (.bool false)).frozen? ⟨w.heap.size, 6, none⟩ = false := (by simp [World.frozen?, HY.out.res]); have p7 : (x1.setCell ⟨g, 1, none⟩ (.bool false)).cell? ⟨w.heap.size, 7, none⟩ = some (.int .i64 0) := cell_of_row _ _ 7 _ _ (0, 0) HY.out.res; have q7 : (x1.setCell ⟨g, 1, none⟩ (.bool false)).frozen? ⟨w.heap.size, 7, none⟩ = false := (by simp [World.frozen?, HY.out.res]); have p8 : (x1.setCell ⟨g, 1, none⟩ (.bool false)).cell? ⟨w.heap.size, 8, none⟩ = some (.bool false) := cell_of_row _ _ 8 _ _ (0, 0) HY.out.res; have q8 : (x1.setCell ⟨g, 1, none⟩ (.bool false)).frozen? ⟨w.heap.size, 8, none⟩ = false := (by simp [World.frozen?, HY.out.res]); have p9 : (x1.setCell ⟨g, 1, none⟩ (.bool false)).cell? ⟨w.heap.size, 9, none⟩ = some (.slice none 0 0) := cell_of_row _ _ 9 _ _ (0, 0) HY.out.res; have q9 : (x1.setCell ⟨g, 1, none⟩ (.bool false)).frozen? ⟨w.heap.size, 9, none⟩ = false := (by simp [World.frozen?, HY.out.res]); have d0 : (x1.setCell ⟨g, 1, none⟩ (.bool false)).cell? ⟨b, 0, none⟩ = some (.int .u64 (v0 : Int)) := cell_of_row _ _ 0 _ _ (0, 0) HY.out.box; have d1 : (x1.setCell ⟨g, 1, none⟩ (.bool false)).cell? ⟨b, 1, none⟩ = some (.int .u64 (v1 : Int)) := cell_of_row _ _ 1 _ _ (0, 0) HY.out.box; have d2 : (x1.setCell ⟨g, 1, none⟩ (.bool false)).cell? ⟨b, 2, none⟩ = some (.int .u64 (v2 : Int)) := cell_of_row _ _ 2 _ _ (0, 0) HY.out.box; have d3 : (x1.setCell ⟨g, 1, none⟩ (.bool false)).cell? ⟨b, 3, none⟩ = some (.int .u64 (v3 : Int)) := cell_of_row _ _ 3 _ _ (0, 0) HY.out.box; have d4 : (x1.setCell ⟨g, 1, none⟩ (.bool false)).cell? ⟨b, 4, none⟩ = some (.string (S8 v4)) := cell_of_row _ _ 4 _ _ (0, 0) HY.out.box; have d5 : (x1.setCell ⟨g, 1, none⟩ (.bool false)).cell? ⟨b, 5, none⟩ = some (.string (S8 v5)) := cell_of_row _ _ 5 _ _ (0, 0) HY.out.box; have d6 : (x1.setCell ⟨g, 1, none⟩ (.bool false)).cell? ⟨b, 6, none⟩ = some (.int .i64 (v6 : Int)) := cell_of_row _ _ 6 _ _ (0, 0) HY.out.box; have d7 : (x1.setCell ⟨g, 1, none⟩ (.bool false)).cell? ⟨b, 7, none⟩ = some (.int .i64 (v7 : Int)) := cell_of_row _ _ 7 _ _ (0, 0) HY.out.box; have d8 : (x1.setCell ⟨g, 1, none⟩ (.bool false)).cell? ⟨b, 8, none⟩ = some (.bool b8) := cell_of_row _ _ 8 _ _ (0, 0) HY.out.box; have d9 : (x1.setCell ⟨g, 1, none⟩ (.bool false)).cell? ⟨b, 9, none⟩ = some (.slice A q c) := cell_of_row _ _ 9 _ _ (0, 0) HY.out.box)
          have LR : DSt (((((((((((x1.setCell ⟨g, 1, none⟩ (.bool false)).setCell ⟨w.heap.size, 0, none⟩ (.int .u64 (v0 : Int))).setCell ⟨w.heap.size, 1, none⟩ (.int .u64 (v1 : Int))).setCell ⟨w.heap.size, 2, none⟩ (.int .u64 (v2 : Int))).setCell ⟨w.heap.size, 3, none⟩ (.int .u64 (v3 : Int))).setCell ⟨w.heap.size, 4, none⟩ (.string (S8 v4))).setCell ⟨w.heap.size, 5, none⟩ (.string (S8 v5))).setCell ⟨w.heap.size, 6, none⟩ (.int .i64 (v6 : Int))).setCell ⟨w.heap.size, 7, none⟩ (.int .i64 (v7 : Int))).setCell ⟨w.heap.size, 8, none⟩ (.bool b8)).setCell ⟨w.heap.size, 9, none⟩ (.slice A q c)) B g (rest, false) := by repeat' (first | (with_reducible exact HY.out.rd) | (refine DSt.far ?_ (by simp; omega) _))
          have LG : w.grownBy (((((((((((x1.setCell ⟨g, 1, none⟩ (.bool false)).setCell ⟨w.heap.size, 0, none⟩ (.int .u64 (v0 : Int))).setCell ⟨w.heap.size, 1, none⟩ (.int .u64 (v1 : Int))).setCell ⟨w.heap.size, 2, none⟩ (.int .u64 (v2 : Int))).setCell ⟨w.heap.size, 3, none⟩ (.int .u64 (v3 : Int))).setCell ⟨w.heap.size, 4, none⟩ (.string (S8 v4))).setCell ⟨w.heap.size, 5, none⟩ (.string (S8 v5))).setCell ⟨w.heap.size, 6, none⟩ (.int .i64 (v6 : Int))).setCell ⟨w.heap.size, 7, none⟩ (.int .i64 (v7 : Int))).setCell ⟨w.heap.size, 8, none⟩ (.bool b8)).setCell ⟨w.heap.size, 9, none⟩ (.slice A q c)) (some g) := by repeat' (first | (with_reducible exact HY.out.grown) | (refine grown_old ?_ (by simp) _))
          have LO : (((((((((((x1.setCell ⟨g, 1, none⟩ (.bool false)).setCell ⟨w.heap.size, 0, none⟩ (.int .u64 (v0 : Int))).setCell ⟨w.heap.size, 1, none⟩ (.int .u64 (v1 : Int))).setCell ⟨w.heap.size, 2, none⟩ (.int .u64 (v2 : Int))).setCell ⟨w.heap.size, 3, none⟩ (.int .u64 (v3 : Int))).setCell ⟨w.heap.size, 4, none⟩ (.string (S8 v4))).setCell ⟨w.heap.size, 5, none⟩ (.string (S8 v5))).setCell ⟨w.heap.size, 6, none⟩ (.int .i64 (v6 : Int))).setCell ⟨w.heap.size, 7, none⟩ (.int .i64 (v7 : Int))).setCell ⟨w.heap.size, 8, none⟩ (.bool b8)).setCell ⟨w.heap.size, 9, none⟩ (.slice A q c)).ownsRow (b + 1) 49 2 (.slice A q c) q (acc.flatMap atC) := by repeat' (first | (with_reducible exact HYO.out) | (refine own_far ?_ (by simp; omega) _))
          refine bodyPost_ret (v := .agg #[.int .u64 (v0 : Int), .int .u64 (v1 : Int), .int .u64 (v2 : Int), .int .u64 (v3 : Int), .string (S8 v4), .string (S8 v5), .int .i64 (v6 : Int), .int .i64 (v7 : Int), .bool b8, .slice A q c]) (by simp [results, Try.results58, go_sem, p0, p1, p2, p3, p4, p5, p6, p7, p8, p9]) rfl ?_
          rw [HSP.out]
          exact dspanOf_mk ⟨v0, v1, v2, v3, S8 v4, S8 v5, v6, v7, b8, acc⟩ A c q HQL.out (own_mono LO (by omega)) HOK.out LR LG
      · have hd1 : decide ((q : Int) < (q : Int)) = false := decide_eq_false (by omega)
        clear hq hqf b9
        obtain ⟨rA, rn, rc, hx, _⟩ := HF.out.rd.cell
        have f1 : wr.frozen? ⟨g, 1, none⟩ = false := by simp [World.frozen?, hx]
        have HY : Hid (DFt w (wr.setCell ⟨g, 1, none⟩ (.bool true)) B g b (rest, true) #[.int .u64 (v0 : Int), .int .u64 (v1 : Int), .int .u64 (v2 : Int), .int .u64 (v3 : Int), .string (S8 v4), .string (S8 v5), .int .i64 (v6 : Int), .int .i64 (v7 : Int), .bool b8, .slice A q c]) := Lib.hid (HF.out.bad true)
        have HYO := Lib.hid (own_far HO.out (p := ⟨g, 1, none⟩) (show g < b + 1 by omega) (.bool true))
        clear hx
        have p0 : (wr.setCell ⟨g, 1, none⟩ (.bool true)).cell? ⟨w.heap.size, 0, none⟩ = some (.int .u64 0) := cell_of_row _ _ 0 _ _ (0, 0) HY.out.res
        have q0 : (wr.setCell ⟨g, 1, none⟩ (.bool true)).frozen? ⟨w.heap.size, 0, none⟩ = false := (by simp [World.frozen?, HY.out.res])
        have p1 : (wr.setCell ⟨g, 1, none⟩ (.bool true)).cell? ⟨w.heap.size, 1, none⟩ = some (.int .u64 0) := cell_of_row _ _ 1 _ _ (0, 0) HY.out.res
        have q1 : (wr.setCell ⟨g, 1, none⟩ (.bool true)).frozen? ⟨w.heap.size, 1, none⟩ = false := (by simp [World.frozen?, HY.out.res])
        have p2 : (wr.setCell ⟨g, 1, none⟩ (.bool true)).cell? ⟨w.heap.size, 2, none⟩ = some (.int .u64 0) := cell_of_row _ _ 2 _ _ (0, 0) HY.out.res
        have q2 : (wr.setCell ⟨g, 1, none⟩ (.bool true)).frozen? ⟨w.heap.size, 2, none⟩ = false := (by simp [World.frozen?, HY.out.res])
        have p3 : (wr.setCell ⟨g, 1, none⟩ (.bool true)).cell? ⟨w.heap.size, 3, none⟩ = some (.int .u64 0) := cell_of_row _ _ 3 _ _ (0, 0) HY.out.res
        have q3 : (wr.setCell ⟨g, 1, none⟩ (.bool true)).frozen? ⟨w.heap.size, 3, none⟩ = false := (by simp [World.frozen?, HY.out.res])
        have p4 : (wr.setCell ⟨g, 1, none⟩ (.bool true)).cell? ⟨w.heap.size, 4, none⟩ = some (.string ⟨#[]⟩) := cell_of_row _ _ 4 _ _ (0, 0) HY.out.res
        have q4 : (wr.setCell ⟨g, 1, none⟩ (.bool true)).frozen? ⟨w.heap.size, 4, none⟩ = false := (by simp [World.frozen?, HY.out.res])
        have p5 : (wr.setCell ⟨g, 1, none⟩ (.bool true)).cell? ⟨w.heap.size, 5, none⟩ = some (.string ⟨#[]⟩) := cell_of_row _ _ 5 _ _ (0, 0) HY.out.res
        have q5 : (wr.setCell ⟨g, 1, none⟩ (.bool true)).frozen? ⟨w.heap.size, 5, none⟩ = false := (by simp [World.frozen?, HY.out.res])
        have p6 : (wr.setCell ⟨g, 1, none⟩ (.bool true)).cell? ⟨w.heap.size, 6, none⟩ = some (.int .i64 0) := cell_of_row _ _ 6 _ _ (0, 0) HY.out.res
        have q6 : (wr.setCell ⟨g, 1, none⟩ (.bool true)).frozen? ⟨w.heap.size, 6, none⟩ = false := (by simp [World.frozen?, HY.out.res])
        have p7 : (wr.setCell ⟨g, 1, none⟩ (.bool true)).cell? ⟨w.heap.size, 7, none⟩ = some (.int .i64 0) := cell_of_row _ _ 7 _ _ (0, 0) HY.out.res
        have q7 : (wr.setCell ⟨g, 1, none⟩ (.bool true)).frozen? ⟨w.heap.size, 7, none⟩ = false := (by simp [World.frozen?, HY.out.res])
        have p8 : (wr.setCell ⟨g, 1, none⟩ (.bool true)).cell? ⟨w.heap.size, 8, none⟩ = some (.bool false) := cell_of_row _ _ 8 _ _ (0, 0) HY.out.res
        have q8 : (wr.setCell ⟨g, 1, none⟩ (.bool true)).frozen? ⟨w.heap.size, 8, none⟩ = false := (by simp [World.frozen?, HY.out.res])
        have p9 : (wr.setCell ⟨g, 1, none⟩ (.bool true)).cell? ⟨w.heap.size, 9, none⟩ = some (.slice none 0 0) := cell_of_row _ _ 9 _ _ (0, 0) HY.out.res
        have q9 : (wr.setCell ⟨g, 1, none⟩ (.bool true)).frozen? ⟨w.heap.size, 9, none⟩ = false := (by simp [World.frozen?, HY.out.res])
        have d0 : (wr.setCell ⟨g, 1, none⟩ (.bool true)).cell? ⟨b, 0, none⟩ = some (.int .u64 (v0 : Int)) := cell_of_row _ _ 0 _ _ (0, 0) HY.out.box
        have d1 : (wr.setCell ⟨g, 1, none⟩ (.bool true)).cell? ⟨b, 1, none⟩ = some (.int .u64 (v1 : Int)) := cell_of_row _ _ 1 _ _ (0, 0) HY.out.box
        have d2 : (wr.setCell ⟨g, 1, none⟩ (.bool true)).cell? ⟨b, 2, none⟩ = some (.int .u64 (v2 : Int)) := cell_of_row _ _ 2 _ _ (0, 0) HY.out.box
        have d3 : (wr.setCell ⟨g, 1, none⟩ (.bool true)).cell? ⟨b, 3, none⟩ = some (.int .u64 (v3 : Int)) := cell_of_row _ _ 3 _ _ (0, 0) HY.out.box
        have d4 : (wr.setCell ⟨g, 1, none⟩ (.bool true)).cell? ⟨b, 4, none⟩ = some (.string (S8 v4)) := cell_of_row _ _ 4 _ _ (0, 0) HY.out.box
        have d5 : (wr.setCell ⟨g, 1, none⟩ (.bool true)).cell? ⟨b, 5, none⟩ = some (.string (S8 v5)) := cell_of_row _ _ 5 _ _ (0, 0) HY.out.box
        have d6 : (wr.setCell ⟨g, 1, none⟩ (.bool true)).cell? ⟨b, 6, none⟩ = some (.int .i64 (v6 : Int)) := cell_of_row _ _ 6 _ _ (0, 0) HY.out.box
        have d7 : (wr.setCell ⟨g, 1, none⟩ (.bool true)).cell? ⟨b, 7, none⟩ = some (.int .i64 (v7 : Int)) := cell_of_row _ _ 7 _ _ (0, 0) HY.out.box
        have d8 : (wr.setCell ⟨g, 1, none⟩ (.bool true)).cell? ⟨b, 8, none⟩ = some (.bool b8) := cell_of_row _ _ 8 _ _ (0, 0) HY.out.box
        have d9 : (wr.setCell ⟨g, 1, none⟩ (.bool true)).cell? ⟨b, 9, none⟩ = some (.slice A q c) := cell_of_row _ _ 9 _ _ (0, 0) HY.out.box
        have t0 : wr.cell? ⟨b, 0, none⟩ = some (.int .u64 (v0 : Int)) := cell_of_row _ _ 0 _ _ (0, 0) HF.out.box
        have t1 : wr.cell? ⟨b, 1, none⟩ = some (.int .u64 (v1 : Int)) := cell_of_row _ _ 1 _ _ (0, 0) HF.out.box
        have t2 : wr.cell? ⟨b, 2, none⟩ = some (.int .u64 (v2 : Int)) := cell_of_row _ _ 2 _ _ (0, 0) HF.out.box
        have t3 : wr.cell? ⟨b, 3, none⟩ = some (.int .u64 (v3 : Int)) := cell_of_row _ _ 3 _ _ (0, 0) HF.out.box
        have t4 : wr.cell? ⟨b, 4, none⟩ = some (.string (S8 v4)) := cell_of_row _ _ 4 _ _ (0, 0) HF.out.box
        have t5 : wr.cell? ⟨b, 5, none⟩ = some (.string (S8 v5)) := cell_of_row _ _ 5 _ _ (0, 0) HF.out.box
        have t6 : wr.cell? ⟨b, 6, none⟩ = some (.int .i64 (v6 : Int)) := cell_of_row _ _ 6 _ _ (0, 0) HF.out.box
        have t7 : wr.cell? ⟨b, 7, none⟩ = some (.int .i64 (v7 : Int)) := cell_of_row _ _ 7 _ _ (0, 0) HF.out.box
        have t8 : wr.cell? ⟨b, 8, none⟩ = some (.bool b8) := cell_of_row _ _ 8 _ _ (0, 0) HF.out.box
        have t9 : wr.cell? ⟨b, 9, none⟩ = some (.slice A q c) := cell_of_row _ _ 9 _ _ (0, 0) HF.out.box
        go_wp2_with fail
        have LR : DSt (((((((((((wr.setCell ⟨g, 1, none⟩ (.bool true)).setCell ⟨w.heap.size, 0, none⟩ (.int .u64 (v0 : Int))).setCell ⟨w.heap.size, 1, none⟩ (.int .u64 (v1 : Int))).setCell ⟨w.heap.size, 2, none⟩ (.int .u64 (v2 : Int))).setCell ⟨w.heap.size, 3, none⟩ (.int .u64 (v3 : Int))).setCell ⟨w.heap.size, 4, none⟩ (.string (S8 v4))).setCell ⟨w.heap.size, 5, none⟩ (.string (S8 v5))).setCell ⟨w.heap.size, 6, none⟩ (.int .i64 (v6 : Int))).setCell ⟨w.heap.size, 7, none⟩ (.int .i64 (v7 : Int))).setCell ⟨w.heap.size, 8, none⟩ (.bool b8)).setCell ⟨w.heap.size, 9, none⟩ (.slice A q c)) B g (rest, true) := by repeat' (first | (with_reducible exact HY.out.rd) | (refine DSt.far ?_ (by simp; omega) _))
        have LG : w.grownBy (((((((((((wr.setCell ⟨g, 1, none⟩ (.bool true)).setCell ⟨w.heap.size, 0, none⟩ (.int .u64 (v0 : Int))).setCell ⟨w.heap.size, 1, none⟩ (.int .u64 (v1 : Int))).setCell ⟨w.heap.size, 2, none⟩ (.int .u64 (v2 : Int))).setCell ⟨w.heap.size, 3, none⟩ (.int .u64 (v3 : Int))).setCell ⟨w.heap.size, 4, none⟩ (.string (S8 v4))).setCell ⟨w.heap.size, 5, none⟩ (.string (S8 v5))).setCell ⟨w.heap.size, 6, none⟩ (.int .i64 (v6 : Int))).setCell ⟨w.heap.size, 7, none⟩ (.int .i64 (v7 : Int))).setCell ⟨w.heap.size, 8, none⟩ (.bool b8)).setCell ⟨w.heap.size, 9, none⟩ (.slice A q c)) (some g) := by repeat' (first | (with_reducible exact HY.out.grown) | (refine grown_old ?_ (by simp) _))
        have LO : (((((((((((wr.setCell ⟨g, 1, none⟩ (.bool true)).setCell ⟨w.heap.size, 0, none⟩ (.int .u64 (v0 : Int))).setCell ⟨w.heap.size, 1, none⟩ (.int .u64 (v1 : Int))).setCell ⟨w.heap.size, 2, none⟩ (.int .u64 (v2 : Int))).setCell ⟨w.heap.size, 3, none⟩ (.int .u64 (v3 : Int))).setCell ⟨w.heap.size, 4, none⟩ (.string (S8 v4))).setCell ⟨w.heap.size, 5, none⟩ (.string (S8 v5))).setCell ⟨w.heap.size, 6, none⟩ (.int .i64 (v6 : Int))).setCell ⟨w.heap.size, 7, none⟩ (.int .i64 (v7 : Int))).setCell ⟨w.heap.size, 8, none⟩ (.bool b8)).setCell ⟨w.heap.size, 9, none⟩ (.slice A q c)).ownsRow (b + 1) 49 2 (.slice A q c) q (acc.flatMap atC) := by repeat' (first | (with_reducible exact HYO.out) | (refine own_far ?_ (by simp; omega) _))
        refine bodyPost_ret (v := .agg #[.int .u64 (v0 : Int), .int .u64 (v1 : Int), .int .u64 (v2 : Int), .int .u64 (v3 : Int), .string (S8 v4), .string (S8 v5), .int .i64 (v6 : Int), .int .i64 (v7 : Int), .bool b8, .slice A q c]) (by simp [results, Try.results58, go_sem, p0, p1, p2, p3, p4, p5, p6, p7, p8, p9]) rfl ?_
        rw [HSP.out]
        exact dspanOf_mk ⟨v0, v1, v2, v3, S8 v4, S8 v5, v6, v7, b8, acc⟩ A c q HQL.out (own_mono LO (by omega)) HOK.out LR LG
      · have hd1 : decide ((q : Int) < (v9 : Int)) = true := decide_eq_true (by omega)
        have hd1n : decide (q < v9) = true := decide_eq_true (by omega)
        clear hq hqf b9 hm0
        obtain ⟨rA, rn, rc, hx, _⟩ := HF.out.rd.cell
        have f1 : wr.frozen? ⟨g, 1, none⟩ = false := by simp [World.frozen?, hx]
        have HY : Hid (DFt w (wr.setCell ⟨g, 1, none⟩ (.bool true)) B g b (rest, true) #[.int .u64 (v0 : Int), .int .u64 (v1 : Int), .int .u64 (v2 : Int), .int .u64 (v3 : Int), .string (S8 v4), .string (S8 v5), .int .i64 (v6 : Int), .int .i64 (v7 : Int), .bool b8, .slice A q c]) := Lib.hid (HF.out.bad true)
        have HYO := Lib.hid (own_far HO.out (p := ⟨g, 1, none⟩) (show g < b + 1 by omega) (.bool true))
        clear hx
        have p0 : (wr.setCell ⟨g, 1, none⟩ (.bool true)).cell? ⟨w.heap.size, 0, none⟩ = some (.int .u64 0) := cell_of_row _ _ 0 _ _ (0, 0) HY.out.res
        have q0 : (wr.setCell ⟨g, 1, none⟩ (.bool true)).frozen? ⟨w.heap.size, 0, none⟩ = false := (by simp [World.frozen?, HY.out.res])
        have p1 : (wr.setCell ⟨g, 1, none⟩ (.bool true)).cell? ⟨w.heap.size, 1, none⟩ = some (.int .u64 0) := cell_of_row _ _ 1 _ _ (0, 0) HY.out.res
        have q1 : (wr.setCell ⟨g, 1, none⟩ (.bool true)).frozen? ⟨w.heap.size, 1, none⟩ = false := (by simp [World.frozen?, HY.out.res])
        have p2 : (wr.setCell ⟨g, 1, none⟩ (.bool true)).cell? ⟨w.heap.size, 2, none⟩ = some (.int .u64 0) := cell_of_row _ _ 2 _ _ (0, 0) HY.out.res
        have q2 : (wr.setCell ⟨g, 1, none⟩ (.bool true)).frozen? ⟨w.heap.size, 2, none⟩ = false := (by simp [World.frozen?, HY.out.res])
        have p3 : (wr.setCell ⟨g, 1, none⟩ (.bool true)).cell? ⟨w.heap.size, 3, none⟩ = some (.int .u64 0) := cell_of_row _ _ 3 _ _ (0, 0) HY.out.res
        have q3 : (wr.setCell ⟨g, 1, none⟩ (.bool true)).frozen? ⟨w.heap.size, 3, none⟩ = false := (by simp [World.frozen?, HY.out.res])
        have p4 : (wr.setCell ⟨g, 1, none⟩ (.bool true)).cell? ⟨w.heap.size, 4, none⟩ = some (.string ⟨#[]⟩) := cell_of_row _ _ 4 _ _ (0, 0) HY.out.res
        have q4 : (wr.setCell ⟨g, 1, none⟩ (.bool true)).frozen? ⟨w.heap.size, 4, none⟩ = false := (by simp [World.frozen?, HY.out.res])
        have p5 : (wr.setCell ⟨g, 1, none⟩ (.bool true)).cell? ⟨w.heap.size, 5, none⟩ = some (.string ⟨#[]⟩) := cell_of_row _ _ 5 _ _ (0, 0) HY.out.res
        have q5 : (wr.setCell ⟨g, 1, none⟩ (.bool true)).frozen? ⟨w.heap.size, 5, none⟩ = false := (by simp [World.frozen?, HY.out.res])
        have p6 : (wr.setCell ⟨g, 1, none⟩ (.bool true)).cell? ⟨w.heap.size, 6, none⟩ = some (.int .i64 0) := cell_of_row _ _ 6 _ _ (0, 0) HY.out.res
        have q6 : (wr.setCell ⟨g, 1, none⟩ (.bool true)).frozen? ⟨w.heap.size, 6, none⟩ = false := (by simp [World.frozen?, HY.out.res])
        have p7 : (wr.setCell ⟨g, 1, none⟩ (.bool true)).cell? ⟨w.heap.size, 7, none⟩ = some (.int .i64 0) := cell_of_row _ _ 7 _ _ (0, 0) HY.out.res
        have q7 : (wr.setCell ⟨g, 1, none⟩ (.bool true)).frozen? ⟨w.heap.size, 7, none⟩ = false := (by simp [World.frozen?, HY.out.res])
        have p8 : (wr.setCell ⟨g, 1, none⟩ (.bool true)).cell? ⟨w.heap.size, 8, none⟩ = some (.bool false) := cell_of_row _ _ 8 _ _ (0, 0) HY.out.res
        have q8 : (wr.setCell ⟨g, 1, none⟩ (.bool true)).frozen? ⟨w.heap.size, 8, none⟩ = false := (by simp [World.frozen?, HY.out.res])
        have p9 : (wr.setCell ⟨g, 1, none⟩ (.bool true)).cell? ⟨w.heap.size, 9, none⟩ = some (.slice none 0 0) := cell_of_row _ _ 9 _ _ (0, 0) HY.out.res
        have q9 : (wr.setCell ⟨g, 1, none⟩ (.bool true)).frozen? ⟨w.heap.size, 9, none⟩ = false := (by simp [World.frozen?, HY.out.res])
        have d0 : (wr.setCell ⟨g, 1, none⟩ (.bool true)).cell? ⟨b, 0, none⟩ = some (.int .u64 (v0 : Int)) := cell_of_row _ _ 0 _ _ (0, 0) HY.out.box
        have d1 : (wr.setCell ⟨g, 1, none⟩ (.bool true)).cell? ⟨b, 1, none⟩ = some (.int .u64 (v1 : Int)) := cell_of_row _ _ 1 _ _ (0, 0) HY.out.box
        have d2 : (wr.setCell ⟨g, 1, none⟩ (.bool true)).cell? ⟨b, 2, none⟩ = some (.int .u64 (v2 : Int)) := cell_of_row _ _ 2 _ _ (0, 0) HY.out.box
        have d3 : (wr.setCell ⟨g, 1, none⟩ (.bool true)).cell? ⟨b, 3, none⟩ = some (.int .u64 (v3 : Int)) := cell_of_row _ _ 3 _ _ (0, 0) HY.out.box
        have d4 : (wr.setCell ⟨g, 1, none⟩ (.bool true)).cell? ⟨b, 4, none⟩ = some (.string (S8 v4)) := cell_of_row _ _ 4 _ _ (0, 0) HY.out.box
        have d5 : (wr.setCell ⟨g, 1, none⟩ (.bool true)).cell? ⟨b, 5, none⟩ = some (.string (S8 v5)) := cell_of_row _ _ 5 _ _ (0, 0) HY.out.box
        have d6 : (wr.setCell ⟨g, 1, none⟩ (.bool true)).cell? ⟨b, 6, none⟩ = some (.int .i64 (v6 : Int)) := cell_of_row _ _ 6 _ _ (0, 0) HY.out.box
        have d7 : (wr.setCell ⟨g, 1, none⟩ (.bool true)).cell? ⟨b, 7, none⟩ = some (.int .i64 (v7 : Int)) := cell_of_row _ _ 7 _ _ (0, 0) HY.out.box
        have d8 : (wr.setCell ⟨g, 1, none⟩ (.bool true)).cell? ⟨b, 8, none⟩ = some (.bool b8) := cell_of_row _ _ 8 _ _ (0, 0) HY.out.box
        have d9 : (wr.setCell ⟨g, 1, none⟩ (.bool true)).cell? ⟨b, 9, none⟩ = some (.slice A q c) := cell_of_row _ _ 9 _ _ (0, 0) HY.out.box
        have t0 : wr.cell? ⟨b, 0, none⟩ = some (.int .u64 (v0 : Int)) := cell_of_row _ _ 0 _ _ (0, 0) HF.out.box
        have t1 : wr.cell? ⟨b, 1, none⟩ = some (.int .u64 (v1 : Int)) := cell_of_row _ _ 1 _ _ (0, 0) HF.out.box
        have t2 : wr.cell? ⟨b, 2, none⟩ = some (.int .u64 (v2 : Int)) := cell_of_row _ _ 2 _ _ (0, 0) HF.out.box
        have t3 : wr.cell? ⟨b, 3, none⟩ = some (.int .u64 (v3 : Int)) := cell_of_row _ _ 3 _ _ (0, 0) HF.out.box
        have t4 : wr.cell? ⟨b, 4, none⟩ = some (.string (S8 v4)) := cell_of_row _ _ 4 _ _ (0, 0) HF.out.box
        have t5 : wr.cell? ⟨b, 5, none⟩ = some (.string (S8 v5)) := cell_of_row _ _ 5 _ _ (0, 0) HF.out.box
        have t6 : wr.cell? ⟨b, 6, none⟩ = some (.int .i64 (v6 : Int)) := cell_of_row _ _ 6 _ _ (0, 0) HF.out.box
        have t7 : wr.cell? ⟨b, 7, none⟩ = some (.int .i64 (v7 : Int)) := cell_of_row _ _ 7 _ _ (0, 0) HF.out.box
        have t8 : wr.cell? ⟨b, 8, none⟩ = some (.bool b8) := cell_of_row _ _ 8 _ _ (0, 0) HF.out.box
        have t9 : wr.cell? ⟨b, 9, none⟩ = some (.slice A q c) := cell_of_row _ _ 9 _ _ (0, 0) HF.out.box
        go_wp2_with fail
        have LR : DSt (((((((((((wr.setCell ⟨g, 1, none⟩ (.bool true)).setCell ⟨w.heap.size, 0, none⟩ (.int .u64 (v0 : Int))).setCell ⟨w.heap.size, 1, none⟩ (.int .u64 (v1 : Int))).setCell ⟨w.heap.size, 2, none⟩ (.int .u64 (v2 : Int))).setCell ⟨w.heap.size, 3, none⟩ (.int .u64 (v3 : Int))).setCell ⟨w.heap.size, 4, none⟩ (.string (S8 v4))).setCell ⟨w.heap.size, 5, none⟩ (.string (S8 v5))).setCell ⟨w.heap.size, 6, none⟩ (.int .i64 (v6 : Int))).setCell ⟨w.heap.size, 7, none⟩ (.int .i64 (v7 : Int))).setCell ⟨w.heap.size, 8, none⟩ (.bool b8)).setCell ⟨w.heap.size, 9, none⟩ (.slice A q c)) B g (rest, true) := by repeat' (first | (with_reducible exact HY.out.rd) | (refine DSt.far ?_ (by simp; omega) _))
        have LG : w.grownBy (((((((((((wr.setCell ⟨g, 1, none⟩ (.bool true)).setCell ⟨w.heap.size, 0, none⟩ (.int .u64 (v0 : Int))).setCell ⟨w.heap.size, 1, none⟩ (.int .u64 (v1 : Int))).setCell ⟨w.heap.size, 2, none⟩ (.int .u64 (v2 : Int))).setCell ⟨w.heap.size, 3, none⟩ (.int .u64 (v3 : Int))).setCell ⟨w.heap.size, 4, none⟩ (.string (S8 v4))).setCell ⟨w.heap.size, 5, none⟩ (.string (S8 v5))).setCell ⟨w.heap.size, 6, none⟩ (.int .i64 (v6 : Int))).setCell ⟨w.heap.size, 7, none⟩ (.int .i64 (v7 : Int))).setCell ⟨w.heap.size, 8, none⟩ (.bool b8)).setCell ⟨w.heap.size, 9, none⟩ (.slice A q c)) (some g) := by repeat' (first | (with_reducible exact HY.out.grown) | (refine grown_old ?_ (by simp) _))
        have LO : (((((((((((wr.setCell ⟨g, 1, none⟩ (.bool true)).setCell ⟨w.heap.size, 0, none⟩ (.int .u64 (v0 : Int))).setCell ⟨w.heap.size, 1, none⟩ (.int .u64 (v1 : Int))).setCell ⟨w.heap.size, 2, none⟩ (.int .u64 (v2 : Int))).setCell ⟨w.heap.size, 3, none⟩ (.int .u64 (v3 : Int))).setCell ⟨w.heap.size, 4, none⟩ (.string (S8 v4))).setCell ⟨w.heap.size, 5, none⟩ (.string (S8 v5))).setCell ⟨w.heap.size, 6, none⟩ (.int .i64 (v6 : Int))).setCell ⟨w.heap.size, 7, none⟩ (.int .i64 (v7 : Int))).setCell ⟨w.heap.size, 8, none⟩ (.bool b8)).setCell ⟨w.heap.size, 9, none⟩ (.slice A q c)).ownsRow (b + 1) 49 2 (.slice A q c) q (acc.flatMap atC) := by repeat' (first | (with_reducible exact HYO.out) | (refine own_far ?_ (by simp; omega) _))
        refine bodyPost_ret (v := .agg #[.int .u64 (v0 : Int), .int .u64 (v1 : Int), .int .u64 (v2 : Int), .int .u64 (v3 : Int), .string (S8 v4), .string (S8 v5), .int .i64 (v6 : Int), .int .i64 (v7 : Int), .bool b8, .slice A q c]) (by simp [results, Try.results58, go_sem, p0, p1, p2, p3, p4, p5, p6, p7, p8, p9]) rfl ?_
        rw [HSP.out]
        exact dspanOf_mk ⟨v0, v1, v2, v3, S8 v4, S8 v5, v6, v7, b8, acc⟩ A c q HQL.out (own_mono LO (by omega)) HOK.out LR LG
end Go.Proofs.Ythkclgkbidhmbaa
