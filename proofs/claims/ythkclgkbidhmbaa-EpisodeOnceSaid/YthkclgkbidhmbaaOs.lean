/- Chapter 15's first law: the state of its loop, and how its steps turn it. -/
import Derived.Test.YthkclgkbidhmbaaOl
import Derived.Laws.BitsLemmas
namespace Go.Proofs.Ythkclgkbidhmbaa
open Go.RowKit Go.Maps
set_option linter.unusedVariables false
set_option maxRecDepth 100000

theorem i64_and15 (n : Int) : bits .and .i64 n 15 = n % 16 := by
  have h15 : (BitVec.ofInt 64 15).toNat = 2 ^ 4 - 1 := by decide
  have key : (BitVec.ofInt 64 n &&& BitVec.ofInt 64 15).toNat = (n % ((2 ^ 64 : Nat) : Int)).toNat % 2 ^ 4 := by
    rw [BitVec.toNat_and, BitVec.toNat_ofInt, h15, Nat.and_two_pow_sub_one_eq_mod]
  show IntKind.i64.wrap ((BitVec.ofInt 64 n &&& BitVec.ofInt 64 15).toNat : Nat) = n % 16
  rw [key, IntKind.wrap_i64]
  omega

/-- Six cells of a block, stored one by one. -/
def put6 (w : World) (b : Nat) (v0 v1 v2 v3 v4 v5 : Value) : World := (((((w.setCell ⟨b, 0, none⟩ v0).setCell ⟨b, 1, none⟩ v1).setCell ⟨b, 2, none⟩ v2).setCell ⟨b, 3, none⟩ v3).setCell ⟨b, 4, none⟩ v4).setCell ⟨b, 5, none⟩ v5
theorem put6_heap {w : World} {b : Nat} {a0 a1 a2 a3 a4 a5 v0 v1 v2 v3 v4 v5 : Value} {t : TypeId} (h : w.heap[b]? = some (.cells #[a0, a1, a2, a3, a4, a5] t)) : (put6 w b v0 v1 v2 v3 v4 v5).heap[b]? = some (.cells #[v0, v1, v2, v3, v4, v5] t) := by
  unfold put6
  have h0 := heap_setCell_same w b 0 _ t v0 h
  have h1 := heap_setCell_same _ b 1 _ t v1 h0
  have h2 := heap_setCell_same _ b 2 _ t v2 h1
  have h3 := heap_setCell_same _ b 3 _ t v3 h2
  have h4 := heap_setCell_same _ b 4 _ t v4 h3
  exact heap_setCell_same _ b 5 _ t v5 h4
theorem put6_other {w : World} {b k : Nat} (v0 v1 v2 v3 v4 v5 : Value) (hk : k ≠ b) : (put6 w b v0 v1 v2 v3 v4 v5).heap[k]? = w.heap[k]? := by
  unfold put6
  simp only [Below.heap_setCell _ (⟨b, _, none⟩ : Addr) _ k hk]
theorem put6_below {w w' : World} {B b : Nat} (h : Below B w w') (hb : B ≤ b) (v0 v1 v2 v3 v4 v5 : Value) : Below B w (put6 w' b v0 v1 v2 v3 v4 v5) := by
  unfold put6
  exact (((((h.setCell hb _).setCell hb _).setCell hb _).setCell hb _).setCell hb _).setCell hb _
theorem put6_size (w : World) (b : Nat) (v0 v1 v2 v3 v4 v5 : Value) : (put6 w b v0 v1 v2 v3 v4 v5).heap.size = w.heap.size := by unfold put6; simp
theorem put6_far {w : World} {base e size n b : Nat} {v : Value} {xs : List Value} (h : w.ownsRow base e size v n xs) (hb : b < base) (v0 v1 v2 v3 v4 v5 : Value) : (put6 w b v0 v1 v2 v3 v4 v5).ownsRow base e size v n xs := by
  unfold put6
  exact own_far (p := ⟨b, 5, none⟩) (own_far (p := ⟨b, 4, none⟩) (own_far (p := ⟨b, 3, none⟩) (own_far (p := ⟨b, 2, none⟩) (own_far (p := ⟨b, 1, none⟩) (own_far (p := ⟨b, 0, none⟩) h hb _) hb _) hb _) hb _) hb _) hb _
theorem OwnSps.put6 {w : World} {base b : Nat} {v : Value} {l : List Ls} (h : OwnSps w base v l) (hb : b < base) (v0 v1 v2 v3 v4 v5 : Value) : OwnSps (put6 w b v0 v1 v2 v3 v4 v5) base v l :=
  ⟨put6_far h.own hb _ _ _ _ _ _, fun x hx => ⟨put6_far (h.each x hx).own hb _ _ _ _ _ _, (h.each x hx).ok⟩⟩
theorem OwnEps.put6 {w : World} {base b : Nat} {v : Value} {l : List Le} (h : OwnEps w base v l) (hb : b < base) (v0 v1 v2 v3 v4 v5 : Value) : OwnEps (put6 w b v0 v1 v2 v3 v4 v5) base v l :=
  ⟨put6_far h.own hb _ _ _ _ _ _, fun x hx => OwnSps.put6 (h.each x hx) hb _ _ _ _ _ _⟩

/-- The state of the loop: the trace's block T, the episode's block E, the rows. -/
structure OSt (w0 w : World) (E : Nat) (th tl f la : Int) (su : Bool) (v8 v10 eV : Value) (le : List Le) (ls : List Ls) (want : List Int) : Prop where
  lo : w0.heap.size < E
  lt : E < w.heap.size
  t : w.heap[w0.heap.size]? = some (.cells #[.int .u64 th, .int .u64 tl] 33)
  e : w.heap[E]? = some (.cells #[.int .u64 th, .int .u64 tl, .int .i64 f, .int .i64 la, .bool su, eV] 59)
  eps : OwnEps w (E + 1) v8 le
  sps : OwnSps w (E + 1) eV ls
  row : w.ownsRow (E + 1) 23 1 v10 want.length (want.map (Value.int .u64))
  below : Below w0.heap.size w0 w
section
variable {w0 w w2 : World} {E : Nat} {th tl f la : Int} {su : Bool} {v8 v10 eV : Value} {le : List Le} {ls : List Ls} {want : List Int}
theorem OSt.keep (h : OSt w0 w E th tl f la su v8 v10 eV le ls want) (hb : Below w.heap.size w w2) : OSt w0 w2 E th tl f la su v8 v10 eV le ls want :=
  ⟨h.lo, Nat.lt_of_lt_of_le h.lt hb.size, (hb.block _ (Nat.lt_trans h.lo h.lt)).trans h.t, (hb.block _ h.lt).trans h.e, h.eps.below hb, h.sps.below hb, own_below h.row hb, h.below.trans (hb.mono (Nat.le_of_lt (Nat.lt_trans h.lo h.lt)))⟩
/-- The episode is stored anew. -/
theorem OSt.put (h : OSt w0 w E th tl f la su v8 v10 eV le ls want) {l2 : List Ls} {eW : Value} (ho : OwnSps w (E + 1) eW l2) (f2 la2 : Int) (su2 : Bool) : OSt w0 (put6 w E (.int .u64 th) (.int .u64 tl) (.int .i64 f2) (.int .i64 la2) (.bool su2) eW) E th tl f2 la2 su2 v8 v10 eW le l2 want :=
  ⟨h.lo, by rw [put6_size]; exact h.lt, (put6_other _ _ _ _ _ _ (Nat.ne_of_lt h.lo)).trans h.t, put6_heap h.e, h.eps.put6 (Nat.lt_succ_self _) _ _ _ _ _ _, ho.put6 (Nat.lt_succ_self _) _ _ _ _ _ _, put6_far h.row (Nat.lt_succ_self _) _ _ _ _ _ _, put6_below h.below (Nat.le_of_lt h.lo) _ _ _ _ _ _⟩
/-- A number is appended. -/
theorem OSt.num (h : OSt w0 w E th tl f la su v8 v10 eV le ls want) {v' : Value} {y : Int} (hg : Grew w w2 v10 v') (ho : w2.ownsRow (E + 1) 23 1 v' (want ++ [y]).length ((want ++ [y]).map (Value.int .u64))) : OSt w0 w2 E th tl f la su v8 v' eV le ls (want ++ [y]) :=
  have hne : ∀ k, k ≤ E → some k ≠ v10.ownBlock := fun k hk he => by have := own_block_ge h.row k he.symm; omega
  ⟨h.lo, Nat.lt_of_lt_of_le h.lt hg.grown.size, (hg.grown.block _ (Nat.lt_trans h.lo h.lt) (hne _ (Nat.le_of_lt h.lo))).trans h.t, (hg.grown.block _ h.lt (hne _ (Nat.le_refl _))).trans h.e,
    ⟨own_grew h.eps.own hg (own_apart h.eps.own h.row (by decide)), fun x hx => OwnSps.grew (h.eps.each x hx) h.row hg (by decide) (by decide)⟩, OwnSps.grew h.sps h.row hg (by decide) (by decide), ho,
    hg.below h.below (Nat.le_of_lt (Nat.lt_trans h.lo h.lt)) (fun j hj => by have := own_block_ge h.row j hj; have := h.lo; omega)⟩
/-- Episodes are appended. -/
theorem OSt.more (h : OSt w0 w E th tl f la su v8 v10 eV le ls want) {v' : Value} {xs : List Le} (hg : Grew w w2 v8 v') (ho : OwnEps w2 (E + 1) v' (le ++ xs)) : OSt w0 w2 E th tl f la su v' v10 eV (le ++ xs) ls want :=
  have hne : ∀ k, k ≤ E → some k ≠ v8.ownBlock := fun k hk he => by have := own_block_ge h.eps.own k he.symm; omega
  ⟨h.lo, Nat.lt_of_lt_of_le h.lt hg.grown.size, (hg.grown.block _ (Nat.lt_trans h.lo h.lt) (hne _ (Nat.le_of_lt h.lo))).trans h.t, (hg.grown.block _ h.lt (hne _ (Nat.le_refl _))).trans h.e, ho,
    OwnSps.grew h.sps h.eps.own hg (by decide) (by decide), own_grew h.row hg (own_apart h.row h.eps.own (by decide)),
    hg.below h.below (Nat.le_of_lt (Nat.lt_trans h.lo h.lt)) (fun j hj => by have := own_block_ge h.eps.own j hj; have := h.lo; omega)⟩
end
theorem infoU : (Try.prog.info? 23).map (fun i => (i.zero, i.size, i.bytes)) = some (some (.int .u64 0), 1, 8) := by kernel_rfl
/-- One number more. -/
theorem appU {w : World} {ty : TypeId} {base : Nat} {v : Value} {l : List Int} {y : Int} (h : w.ownsRow base 23 1 v l.length (l.map (Value.int .u64))) {B : Nat} {a : Addr} (hr : Rd w B (some a) [.int .u64 y]) (hl : l.length ≤ 1000000) (hbase : base ≤ w.heap.size) :
    ∃ v' w', (Builtin.append_ #[63, 63] ty #[v, .slice (some a) 1 1]).run Try.prog w = .ok v' w' ∧ (w'.ownsRow base 23 1 v' (l ++ [y]).length ((l ++ [y]).map (Value.int .u64)) ∧ Grew w w' v v') := by
  obtain ⟨i0, hi, hz0, hz1, hz2⟩ := info_parts infoU
  obtain ⟨v', w', r1, r2, r3⟩ := run_append_rd (P := Try.prog) w base 63 ty 23 i0 _ 1 8 Try.underlying63 hi hz0 hz1 hz2 rfl v l.length (l.map (Value.int .u64)) h B (some a) 1 1 [.int .u64 y] rfl hr (by simp [Value.oneCell']) (by unfold maxLen; omega) (by omega) hbase
  exact ⟨v', w', r1, ⟨by rw [List.length_append, List.map_append]; exact r2, r3⟩⟩
/-- The spans say no attributes. -/
def Bare (l : List Sp) : Prop := ∀ s ∈ l, s.ats = []
theorem Bare.nil : Bare [] := fun _ h => by cases h
theorem Bare.len {l : List Ls} (h : Bare (l.map Ls.s)) : ∀ x ∈ l, x.s.ats.length ≤ 100000 := fun x hx => by rw [h x.s (List.mem_map_of_mem hx)]; exact Nat.zero_le _
theorem Bare.more {l : List Sp} (h : Bare l) (c : Bool) {s : Sp} (hs : s.ats = []) : Bare (if c then l else l ++ [s]) := by
  cases c
  · intro x hx
    rcases List.mem_append.1 hx with hx | hx
    · exact h x hx
    · rw [List.mem_singleton] at hx; subst hx; exact hs
  · exact h
theorem len_more (l : List Sp) (c : Bool) (s : Sp) : (if c then l else l ++ [s]).length ≤ l.length + 1 := by
  cases c <;> simp
end Go.Proofs.Ythkclgkbidhmbaa
