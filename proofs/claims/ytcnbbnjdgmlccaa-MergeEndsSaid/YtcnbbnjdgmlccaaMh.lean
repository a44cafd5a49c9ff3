/- Chapter 19's example; rows of blocks. -/
import Derived.Test.YtcnbbnjdgmlccaaJx
import Derived.Test.YtcnbbnjdgmlccaaMg
import Derived.Test.YtcnbbnjdgmlccaaIg
import Derived.Test.YtcnbbnjdgmlccaaBs
namespace Go.Proofs.Ytcnbbnjdgmlccaa
open Go.RowKit
set_option linter.unusedVariables false
set_option linter.unusedSimpArgs false
set_option maxRecDepth 100000

theorem pick3 (p q : Nat) (f : Bool) (h1 : f = false ↔ (([⟨0, 0, 1, none, 0, 0⟩, ⟨0, 0, 0, none, 0, 0⟩, ⟨0, 0, 1, none, 0, 0⟩] : List Bk).map Bk.ti).Nodup) (h2 : f = true → Pair [⟨0, 0, 1, none, 0, 0⟩, ⟨0, 0, 0, none, 0, 0⟩, ⟨0, 0, 1, none, 0, 0⟩] 3 p q) : f = true ∧ p = 0 ∧ q = 2 := by
  have hf : f = true := by
    cases f
    · exact absurd (h1.1 rfl) (by decide)
    · rfl
  refine ⟨hf, ?_⟩
  obtain ⟨a, b, x, y, hx, hy, e⟩ := h2 hf
  rcases (show (p = 0 ∧ q = 1) ∨ (p = 0 ∧ q = 2) ∨ (p = 1 ∧ q = 2) by omega) with ⟨rfl, rfl⟩ | ⟨rfl, rfl⟩ | ⟨rfl, rfl⟩
  · simp at hx hy; subst hx; subst hy; simp at e
  · exact ⟨rfl, rfl⟩
  · simp at hx hy; subst hx; subst hy; simp at e
set_option maxHeartbeats 4000000 in
theorem alive19_calls (w : World) : Calls Try.prog 12 #[] w fun e w' => e = .returned (.bool true) ∧ Below w.heap.size w w' := by
  have P1 := Lib.hid (fun W : World => pick_any none 0 0 [] W.heap.size W rfl Rd.nil (Nat.le_refl _) (by omega) (fun _ h => by cases h))
  have P2 := Lib.hid (fun W : World => pick_any (some ⟨W.heap.size, 0, none⟩) 3 3 [⟨0, 0, 1, none, 0, 0⟩, ⟨0, 0, 0, none, 0, 0⟩, ⟨0, 0, 1, none, 0, 0⟩] (W.heap.size + 1) (W.alloc (.cells #[.int .i64 0, .int .i64 0, .int .i64 1, .slice none 0 0, .int .i64 0, .int .i64 0, .int .i64 0, .slice none 0 0, .int .i64 0, .int .i64 0, .int .i64 1, .slice none 0 0] 47)) rfl (Rd.lit W #[.int .i64 0, .int .i64 0, .int .i64 1, .slice none 0 0, .int .i64 0, .int .i64 0, .int .i64 0, .slice none 0 0, .int .i64 0, .int .i64 0, .int .i64 1, .slice none 0 0] 47) (by simp) (by omega) (by simp))
  go_enter Try.func12, Try.ntmps12
  go_wp2_with (first
    | (have hd := done1; go_at_call 13; (with_reducible refine (P2.out _).mono ?_); rintro e w2 ⟨p2, q2, f2, rfl, hb2, hn2, hp2⟩; obtain ⟨rfl, rfl, rfl⟩ := pick3 p2 q2 f2 hn2 hp2; have HB2 := Lib.hid (HB1.out.trans (((Below.refl w1.heap.size w1).alloc (Nat.le_refl _) (.cells #[.int .i64 0, .int .i64 0, .int .i64 1, .slice none 0 0, .int .i64 0, .int .i64 0, .int .i64 0, .slice none 0 0, .int .i64 0, .int .i64 0, .int .i64 1, .slice none 0 0] 47)).trans (hb2.mono (by simp)) |>.mono HB1.out.size)); clear hb2 hn2 hp2 hd done1)
    | (go_at_call 13; (with_reducible refine (P1.out _).mono ?_); rintro e w1 ⟨p1, q1, f1, rfl, hb1, hn1, _⟩; have hf1 : f1 = false := hn1.2 (by simp); subst hf1; have HB1 := Lib.hid hb1; clear hb1 hn1; have done1 := trivial))
  go_ret
  exact ⟨rfl, HB2.out⟩
theorem b_info : (Try.prog.info? 47).map (fun i => (i.zero, i.size, i.bytes)) = some (some (.agg #[.int .i64 0, .int .i64 0, .int .i64 0, .slice none 0 0]), 4, 48) := by kernel_rfl
theorem bflat_drop (l : List Bk) : ∀ k, (l.flatMap Bk.cells).drop (k * 4) = (l.drop k).flatMap Bk.cells := by
  induction l with
  | nil => intro k; simp
  | cons x r ih =>
    intro k
    cases k with
    | zero => simp
    | succ k =>
      rw [List.flatMap_cons, List.drop_succ_cons, ← ih k, List.drop_append]
      have h6 : x.cells.length = 4 := rfl
      rw [h6, List.drop_of_length_le (by rw [h6]; omega), List.nil_append, show (k + 1) * 4 - 4 = k * 4 by omega]
theorem bflat_take (l : List Bk) : ∀ k, (l.flatMap Bk.cells).take (k * 4) = (l.take k).flatMap Bk.cells := by
  induction l with
  | nil => intro k; simp
  | cons x r ih =>
    intro k
    cases k with
    | zero => simp
    | succ k =>
      rw [List.flatMap_cons, List.take_succ_cons, List.flatMap_cons, ← ih k, List.take_append]
      have h6 : x.cells.length = 4 := rfl
      rw [h6, List.take_of_length_le (by rw [h6]; omega), show (k + 1) * 4 - 4 = k * 4 by omega]
theorem b_set (M : List Bk) (p : Nat) (z : Bk) (hp : p < M.length) : (M.flatMap Bk.cells).take (p * 4) ++ z.cells ++ (M.flatMap Bk.cells).drop (p * 4 + z.cells.length) = (M.set p z).flatMap Bk.cells := by
  have h4 : p * 4 + z.cells.length = (p + 1) * 4 := by show p * 4 + 4 = _; omega
  rw [h4, bflat_take, bflat_drop, List.set_eq_take_append_cons_drop, if_pos hp, List.flatMap_append, List.flatMap_cons, List.append_assoc]
/-- Rows that read, onto rows of one's own. -/
theorem appB {w : World} {ty : TypeId} {base B n m c : Nat} {v : Value} {A : Option Addr} {L K : List Bk} (h : w.ownsRow base 47 4 v n (L.flatMap Bk.cells)) (hr : Rd w B A (K.flatMap Bk.cells)) (hm : m = K.length) (hs : n + m ≤ 1000000) (hbase : base ≤ w.heap.size) :
    ∃ v' w', (Builtin.append_ #[44, 44] ty #[v, .slice A m c]).run Try.prog w = .ok v' w' ∧ w'.ownsRow base 47 4 v' (n + m) ((L ++ K).flatMap Bk.cells) ∧ Grew w w' v v' := by
  obtain ⟨i0, hi, hz0, hz1, hz2⟩ := info_parts b_info
  obtain ⟨v', w', r1, r2, r3⟩ := run_append_rd (P := Try.prog) w base 44 ty 47 i0 _ 4 48 Try.underlying44 hi hz0 hz1 hz2 rfl v n (L.flatMap Bk.cells) h B A m c (K.flatMap Bk.cells) (by rw [flatMap_len _ 4 bcells_len, hm]) hr (bcells_one K) (by unfold maxLen; omega) (by omega) hbase
  exact ⟨v', w', r1, by rw [List.flatMap_append]; exact r2, r3⟩
theorem rdB_take {w : World} {B : Nat} {A : Option Addr} {L : List Bk} {j : Nat} (hr : Rd w B A (L.flatMap Bk.cells)) : Rd w B A ((L.take j).flatMap Bk.cells) := fun h0 => by
  obtain ⟨a, h1, h2, h3⟩ := hr (by rw [flatMap_len _ 4 bcells_len] at h0 ⊢; rw [List.length_take] at h0; omega)
  refine ⟨a, h1, h2, fun q u hu => h3 q u ?_⟩
  rw [← bflat_take, List.getElem?_take] at hu
  split at hu
  · exact hu
  · cases hu
theorem rdB_drop {w : World} {B : Nat} {a : Addr} {L : List Bk} {j c : Nat} (hr : Rd w B (some a) (L.flatMap Bk.cells)) (hc : L.length ≤ c) : Rd w B (if c = j then some a else some (a.add (j * 4))) ((L.drop j).flatMap Bk.cells) := fun h0 => by
  have hj : j < L.length := by rw [flatMap_len _ 4 bcells_len, List.length_drop] at h0; omega
  obtain ⟨a', h1, h2, h3⟩ := hr (by rw [flatMap_len _ 4 bcells_len]; omega)
  injection h1 with h1
  subst h1
  refine ⟨a.add (j * 4), by rw [if_neg (by omega)], by rw [block_add]; exact h2, fun q u hu => ?_⟩
  rw [← bflat_drop, List.getElem?_drop] at hu
  rw [Go.Proofs.Ytcnbbnjdgmlccaa.add_add]
  exact h3 _ u hu
theorem i64_and1 (n : Int) : bits .and .i64 n 1 = n % 2 := by
  have h31 : (BitVec.ofInt 64 1).toNat = 2 ^ 1 - 1 := by decide
  have key : (BitVec.ofInt 64 n &&& BitVec.ofInt 64 1).toNat = (n % ((2 ^ 64 : Nat) : Int)).toNat % 2 ^ 1 := by
    rw [BitVec.toNat_and, BitVec.toNat_ofInt, h31, Nat.and_two_pow_sub_one_eq_mod]
  show IntKind.i64.wrap ((BitVec.ofInt 64 n &&& BitVec.ofInt 64 1).toNat : Nat) = n % 2
  rw [key, IntKind.wrap_i64]
  omega
def MeF (A : Option Addr) (q c r : Nat) (A7 : Option Addr) (Bx : Nat) (L : List Bk) : Nat → Value → World → Prop
  | 0, v, _ => v = .slice A q c
  | 1, v, _ => v = .int .i64 (r : Int)
  | 2, v, _ => v = .slice A r c
  | 3, v, w => w.ownsRow Bx 47 4 v r ((L.take r).flatMap Bk.cells)
  | 4, v, _ => v = .slice A q c
  | 5, v, _ => v = .int .i64 (r : Int)
  | 6, v, _ => v = .int .i64 ((r : Int) + 1)
  | 7, v, _ => v = .slice A7 (q - (r + 1)) (c - (r + 1))
  | 8, v, w => w.ownsRow Bx 47 4 v (r + (q - (r + 1))) ((L.take r ++ L.drop (r + 1)).flatMap Bk.cells)
  | 9, v, w => w.ownsRow Bx 47 4 v (r + (q - (r + 1))) ((L.take r ++ L.drop (r + 1)).flatMap Bk.cells)
  | _, _, _ => True
theorem MeF.keep {A : Option Addr} {q c r : Nat} {A7 : Option Addr} {Bx : Nat} {L : List Bk} {w w' : World} {i : Nat} {v : Value} (hb : Below w.heap.size w w') (h : MeF A q c r A7 Bx L i v w) : MeF A q c r A7 Bx L i v w' := by
  match i, h with
  | 0, h => exact h
  | 1, h => exact h
  | 2, h => exact h
  | 3, h => exact own_below h hb
  | 4, h => exact h
  | 5, h => exact h
  | 6, h => exact h
  | 7, h => exact h
  | 8, h => exact own_below h hb
  | 9, h => exact own_below h hb
  | _ + 10, _ => trivial
theorem worth_rep : ∀ k : Nat, worth (List.replicate k 0) = k
  | 0 => rfl
  | k + 1 => by rw [List.replicate_succ, worth, worth_rep k]; omega
def JeF (A : Option Addr) (q c p r : Nat) (a : Addr) (xv yv : Value) (k nu t : Int) (Bx : Nat) : Nat → Value → World → Prop
  | 0, v, _ => v = .slice A q c
  | 1, v, _ => v = .int .i64 (p : Int)
  | 2, v, _ => v = .pointer (some (a.add (p * 4)))
  | 3, v, _ => v = xv
  | 4, v, _ => v = .slice A q c
  | 5, v, _ => v = .int .i64 (r : Int)
  | 6, v, _ => v = .pointer (some (a.add (r * 4)))
  | 7, v, _ => v = yv
  | 8, v, _ => v = .int .i64 k
  | 9, v, _ => v = .int .i64 nu
  | 10, v, _ => ∃ (bo : Int) (jA : Option Addr) (jc : Nat), v = .agg #[.int .i64 nu, .int .i64 bo, .int .i64 (t + 1), .slice jA 0 jc]
  | 11, v, w => ∃ g, v = .pointer (some ⟨g, 0, none⟩) ∧ Bx ≤ g ∧ w.heap[g]? = some (.cells #[.int .i64 0, .int .i64 0, .int .i64 0, .slice none 0 0] 47 (0, 0))
  | _, _, _ => True
theorem JeF.keep {A : Option Addr} {q c p r : Nat} {a : Addr} {xv yv : Value} {k nu t : Int} {Bx : Nat} {w w' : World} {i : Nat} {v : Value} (hb : Below w.heap.size w w') (h : JeF A q c p r a xv yv k nu t Bx i v w) : JeF A q c p r a xv yv k nu t Bx i v w' := by
  match i, h with
  | 0, h => exact h
  | 1, h => exact h
  | 2, h => exact h
  | 3, h => exact h
  | 4, h => exact h
  | 5, h => exact h
  | 6, h => exact h
  | 7, h => exact h
  | 8, h => exact h
  | 9, h => exact h
  | 10, h => exact h
  | 11, h =>
    obtain ⟨g, h1, h2, h3⟩ := h
    exact ⟨g, h1, h2, (hb.block g (by
      rcases Nat.lt_or_ge g w.heap.size with h4 | h4
      · exact h4
      · rw [Array.getElem?_eq_none h4] at h3; cases h3)).trans h3⟩
  | _ + 12, _ => trivial
/-- Behind the store the block holds what was joined. -/
def JeI (nu t : Int) (Bx : Nat) (L : Nat → Bool) (ac : Act) (w : World) : Prop := L 12 = true → ∃ (g : Nat) (bo : Int) (jA : Option Addr) (jc : Nat), ac.tmps.getD 11 undef = .pointer (some ⟨g, 0, none⟩) ∧ Bx ≤ g ∧ g < w.heap.size ∧ w.heap[g]? = some (.cells #[.int .i64 nu, .int .i64 bo, .int .i64 (t + 1), .slice jA 0 jc] 47 (0, 0))
theorem JeI.not {nu t : Int} {Bx : Nat} {L : Nat → Bool} {ac : Act} {w : World} {i : Nat} (hi : i ≠ 12) (h : L 12 = false) : JeI nu t Bx (PI.upd L i) ac w := fun h2 => by
  unfold PI.upd at h2
  rw [if_neg (Ne.symm hi), h] at h2
  cases h2
/-- What the loop holds. -/
structure Ends (n : Nat) (L : List Bk) (T : List Nat) : Prop where
  ti : L.map Bk.ti = T.map fun t : Nat => (t : Int)
  worth : worth T = n
  emp : ∀ x ∈ L, x.m = 0
theorem Ends.len {n : Nat} {L : List Bk} {T : List Nat} (h : Ends n L T) : L.length = T.length := by
  have := congrArg List.length h.ti
  simpa using this
theorem Ends.at_ {n : Nat} {L : List Bk} {T : List Nat} (h : Ends n L T) (hn : n ≤ 20) {p : Nat} {x : Bk} (hx : L[p]? = some x) : ∃ t : Nat, x.ti = (t : Int) ∧ T[p]? = some t ∧ t ≤ 20 ∧ x.m = 0 := by
  have h1 : (L.map Bk.ti)[p]? = some x.ti := by rw [List.getElem?_map, hx]; rfl
  rw [h.ti, List.getElem?_map] at h1
  obtain ⟨t, ht, he⟩ := Option.map_eq_some_iff.1 h1
  have h2 := worth_mem (List.mem_of_getElem? ht)
  have h3 := lt_two t
  rw [h.worth] at h2
  exact ⟨t, he.symm, ht, by omega, h.emp x (List.mem_of_getElem? hx)⟩
theorem Ends.done {n : Nat} {L : List Bk} {T : List Nat} (h : Ends n L T) (hn : (L.map Bk.ti).Nodup) : L.length = pc n := by
  rw [h.len, ← h.worth]
  refine nodup_len' T ?_
  rw [h.ti] at hn
  exact (List.pairwise_map.1 hn).imp (fun h e => h (by rw [e]))
theorem Ends.next {n : Nat} {L : List Bk} {T : List Nat} (h : Ends n L T) {p r t : Nat} (hpr : p < r) (hp : T[p]? = some t) (hr : T[r]? = some t) (z : Bk) (hz : z.ti = (t : Int) + 1) (hm : z.m = 0) :
    Ends n ((L.take r ++ L.drop (r + 1)).set p z) ((T.take r ++ T.drop (r + 1)).set p (t + 1)) := by
  refine ⟨?_, ?_, fun x hx => ?_⟩
  · rw [List.map_set, List.map_append, List.map_take, List.map_drop, h.ti, List.map_set, List.map_append, List.map_take, List.map_drop, hz]
    rfl
  · obtain ⟨X, Y, Z, e1, e2, e3⟩ := split_two T p r t t hpr hp hr
    rw [e1, ← e3, ← e2, merged, worth_merged, ← e1]
    exact h.worth
  · rcases List.mem_or_eq_of_mem_set hx with h1 | h1
    · rcases List.mem_append.1 h1 with h2 | h2
      · exact h.emp x (List.mem_of_mem_take h2)
      · exact h.emp x (List.mem_of_mem_drop h2)
    · rw [h1]; exact hm
end Go.Proofs.Ytcnbbnjdgmlccaa
