/- An order drawn from numbers: which one is free next; rows of truths, of spans. -/
import Derived.Test.YtgldjjmpjaegfaaSp
import Derived.Test.YtgldjjmpjaegfaaIg
import Derived.Test.YtgldjjmpjaegfaaOt
import Derived.Laws.MakeOwn
namespace Go.Proofs.Ytgldjjmpjaegfaa
open Go.RowKit
set_option linter.unusedVariables false
set_option linter.unusedSimpArgs false
set_option maxRecDepth 100000

/-- Those that are not had. -/
def rest {α : Type} : List α → List Bool → List α
  | s :: S, b :: H => if b = true then rest S H else s :: rest S H
  | [], _ => []
  | _ :: _, [] => []
theorem rest_all {α : Type} : ∀ S : List α, rest S (List.replicate S.length false) = S
  | [] => rfl
  | s :: S => by
    show (if false = true then _ else s :: rest S (List.replicate S.length false)) = _
    rw [if_neg (by decide), rest_all S]
theorem rest_set {α : Type} : ∀ (S : List α) (H : List Bool) (k : Nat) (s : α), S[k]? = some s → H[k]? = some false → (rest S H).Perm (s :: rest S (H.set k true))
  | [], _, k, s, h, _ => by simp at h
  | _ :: _, [], k, s, _, h => by simp at h
  | x :: S, b :: H, 0, s, h1, h2 => by
    simp at h1 h2
    subst h1; subst h2
    exact List.Perm.refl _
  | x :: S, b :: H, k + 1, s, h1, h2 => by
    have ih := rest_set S H k s (by simpa using h1) (by simpa using h2)
    show (if b = true then rest S H else x :: rest S H).Perm (s :: (if b = true then rest S (H.set k true) else x :: rest S (H.set k true)))
    split
    · exact ih
    · exact (ih.cons x).trans (List.Perm.swap _ _ _)
theorem rest_free {α : Type} : ∀ (S : List α) (H : List Bool), rest S H ≠ [] → ∃ k : Nat, H[k]? = some false
  | [], _, h => absurd rfl h
  | _ :: _, [], h => absurd rfl h
  | x :: S, b :: H, h => by
    cases b
    · exact ⟨0, rfl⟩
    · obtain ⟨k, hk⟩ := rest_free S H h
      exact ⟨k + 1, by simpa using hk⟩
def dst (H : List Bool) (n : Nat) : Nat → Nat → Nat
  | 0, _ => 0
  | f + 1, k => if H.getD k true = false then 0 else dst H n f ((k + 1) % n) + 1
theorem dst_eq {H : List Bool} {n : Nat} : ∀ (d f g k : Nat), k < n → d < f → d < g → H.getD ((k + d) % n) true = false → dst H n f k = dst H n g k
  | d, 0, g, k, _, hf, _, _ => absurd hf (Nat.not_lt_zero d)
  | d, f + 1, 0, k, _, _, hg, _ => absurd hg (Nat.not_lt_zero d)
  | 0, f + 1, g + 1, k, hk, _, _, h => by
    rw [Nat.add_zero, Nat.mod_eq_of_lt hk] at h
    unfold dst
    rw [if_pos h, if_pos h]
  | d + 1, f + 1, g + 1, k, hk, hf, hg, h => by
    have hn : 0 < n := by omega
    have ih := dst_eq d f g ((k + 1) % n) (Nat.mod_lt _ hn) (by omega) (by omega) (by
      rw [Nat.mod_add_mod, Nat.add_assoc, Nat.add_comm 1 d]; exact h)
    unfold dst
    rw [ih]
theorem dst_lt {H : List Bool} {n k j : Nat} (hk : k < n) (hj : j < n) (h : H.getD k true = true) (hf : H.getD j true = false) : dst H n n ((k + 1) % n) < dst H n n k := by
  obtain ⟨d, hd⟩ : ∃ d, d = (j + n - k) % n := ⟨_, rfl⟩
  have hn : 0 < n := by omega
  have hdn : d < n := by rw [hd]; exact Nat.mod_lt _ hn
  have hkd : (k + d) % n = j := by
    rw [hd, Nat.add_mod_mod, show k + (j + n - k) = j + n by omega, Nat.add_mod_right, Nat.mod_eq_of_lt hj]
  have hd0 : d ≠ 0 := by
    intro e
    rw [e, Nat.add_zero, Nat.mod_eq_of_lt hk] at hkd
    rw [← hkd, h] at hf
    cases hf
  obtain ⟨m, hm⟩ : ∃ m, n = m + 1 := ⟨n - 1, by omega⟩
  have e1 : dst H n n k = dst H n m ((k + 1) % n) + 1 := by
    conv => lhs; rw [hm]
    show dst H (m + 1) (m + 1) k = _
    rw [← hm]
    conv => lhs; arg 3; rw [hm]
    show (if H.getD k true = false then 0 else dst H n m ((k + 1) % n) + 1) = _
    rw [if_neg (by rw [h]; decide)]
  rw [e1, dst_eq (d - 1) n m ((k + 1) % n) (Nat.mod_lt _ hn) (by omega) (by omega) (by rw [Nat.mod_add_mod, show k + 1 + (d - 1) = k + d by omega, hkd]; exact hf)]
  omega
theorem i64_and1023 (n : Int) : bits .and .i64 n 1023 = n % 1024 := by
  have h15 : (BitVec.ofInt 64 1023).toNat = 2 ^ 10 - 1 := by decide
  have key : (BitVec.ofInt 64 n &&& BitVec.ofInt 64 1023).toNat = (n % ((2 ^ 64 : Nat) : Int)).toNat % 2 ^ 10 := by
    rw [BitVec.toNat_and, BitVec.toNat_ofInt, h15, Nat.and_two_pow_sub_one_eq_mod]
  show IntKind.i64.wrap ((BitVec.ofInt 64 n &&& BitVec.ofInt 64 1023).toNat : Nat) = n % 1024
  rw [key, IntKind.wrap_i64]
  omega
theorem made_rep (z : Value) (hz : z.cells = #[z]) (n : Nat) : (madeCells z.cells n).toList = List.replicate n z := by
  rw [hz]
  unfold madeCells
  apply List.ext_getElem
  · simp
  · intro i h1 h2
    simp [Nat.mod_one]
/-- make([]T, n), T one cell: a row of one's own. -/
theorem make_rep (T e : TypeId) (i : TypeInfo) (z : Value) (bytes : Nat) (ht : Try.prog.underlying T = some (.slice e)) (hi : Try.prog.info? e = some i) (hz : i.zero = some z) (hs : i.size = 1) (hb : i.bytes = bytes) (h8 : bytes ≤ 16) (hc : z.cells = #[z]) (n : Nat) (hn : n ≤ 100000) (W : World) :
    ∃ W', (Instr.makeSlice T (.int .i64 (n : Int)) (.int .i64 (n : Int))).run Try.prog W = .ok (.slice (some ⟨W.heap.size, 0, none⟩) n n) W' ∧ W'.ownsRow W.heap.size e 1 (.slice (some ⟨W.heap.size, 0, none⟩) n n) n (List.replicate n z) ∧ Below W.heap.size W W' ∧ W'.heap.size = W.heap.size + 1 := by
  have h := run_makeSlice (P := Try.prog) (w := W) T e i z ht hi hz .i64 .i64 (n : Int) (n : Int) (by omega) (Int.le_refl _) (by rw [hs]; simp only [Int.toNat_natCast]; omega) (by
    rw [hb]
    have : (bytes : Int) * (n : Int) ≤ 16 * 100000 := Int.mul_le_mul (by omega) (by omega) (by omega) (by omega)
    omega) (by omega)
  rw [hs] at h
  simp only [Int.toNat_natCast, Nat.mul_one] at h
  refine ⟨_, h, ⟨by simp, .inr ⟨W.heap.size, n, madeCells z.cells n, rfl, Nat.le_refl _, heap_alloc_new W _, Nat.le_refl _, by unfold maxLen; omega, ?_, ?_⟩⟩, (Below.refl W.heap.size W).alloc (Nat.le_refl _) _, by simp⟩
  · have := congrArg List.length (made_rep z hc n); simpa using this
  · rw [made_rep z hc n]; exact List.take_of_length_le (by simp)
theorem info_bool : (Try.prog.info? 4).map (fun i => (i.zero, i.size, i.bytes)) = some (some (.bool false), 1, 1) := by kernel_rfl
theorem make_bools (n : Nat) (hn : n ≤ 100000) (W : World) :
    ∃ W', (Instr.makeSlice 28 (.int .i64 (n : Int)) (.int .i64 (n : Int))).run Try.prog W = .ok (.slice (some ⟨W.heap.size, 0, none⟩) n n) W' ∧ W'.ownsRow W.heap.size 4 1 (.slice (some ⟨W.heap.size, 0, none⟩) n n) n ((List.replicate n false).map Value.bool) ∧ Below W.heap.size W W' ∧ W'.heap.size = W.heap.size + 1 := by
  obtain ⟨i0, hi, hz0, hz1, hz2⟩ := info_parts info_bool
  obtain ⟨W', h1, h2, h3, h4⟩ := make_rep 28 4 i0 _ 1 Try.underlying28 hi hz0 hz1 hz2 (by decide) rfl n hn W
  exact ⟨W', h1, by rw [List.map_replicate]; exact h2, h3, h4⟩
/-- Two rows of one's own of unlike types are never one block: what turns the one leaves the other. -/
theorem own_keepT2 {w w' : World} {b1 b2 e1 e2 z1 z2 n1 n2 : Nat} {u u' v : Value} {xs ys : List Value} (h : w.ownsRow b1 e1 z1 v n1 xs) (hu : w.ownsRow b2 e2 z2 u n2 ys) (hne : e2 ≠ e1) (hg : Grew w w' u u') : w'.ownsRow b1 e1 z1 v n1 xs := by
  refine own_grew h hg ?_
  rcases hu.2 with ⟨rfl, _⟩ | ⟨g, cap, cur, rfl, _, hgg, _⟩
  · exact .inl rfl
  · exact .inr (own_not h hgg hne)
theorem info_sp : (Try.prog.info? 34).map (fun i => (i.zero, i.size, i.bytes)) = some (some (.agg #[.int .u64 0, .int .u64 0, .int .u64 0, .int .u64 0, .string ⟨#[]⟩, .string ⟨#[]⟩, .int .i64 0, .int .i64 0, .bool false, .slice none 0 0]), 10, 112) := by kernel_rfl
theorem sp_one (y : Ls) : ∀ u ∈ y.cells, u.oneCell' = true := by
  intro u hu
  simp only [Ls.cells, List.mem_cons, List.not_mem_nil, or_false] at hu
  rcases hu with rfl | rfl | rfl | rfl | rfl | rfl | rfl | rfl | rfl | rfl <;> rfl
/-- A span more, behind a row of one's own. -/
theorem appS1 {w : World} {base n : Nat} {v : Value} {xs : List Value} {ty : TypeId} (h : w.ownsRow base 34 10 v n xs) (y : Ls) (cs : Array Value) (hcs : cs = y.cells.toArray) (hn : n ≤ 100000) (hbase : base ≤ w.heap.size) :
    ∃ v' w', (Builtin.append_ #[22, 22] ty #[v, .slice (some ⟨w.heap.size, 0, none⟩) 1 1]).run Try.prog (w.alloc (.cells cs 34)) = .ok v' w' ∧ (w'.ownsRow base 34 10 v' (n + 1) (xs ++ y.cells) ∧ Grew w w' v v') := by
  subst hcs
  obtain ⟨i0, hi, hz0, hz1, hz2⟩ := info_parts info_sp
  have hq := heap_alloc_new w (.cells y.cells.toArray 34)
  obtain ⟨v', w', r1, r2, r3⟩ := run_append_rd (P := Try.prog) (w.alloc (.cells y.cells.toArray 34)) base 22 ty 34 i0 _ 10 112 Try.underlying22 hi hz0 hz1 hz2 rfl v n xs (own_below h ((Below.refl w.heap.size w).alloc (Nat.le_refl _) _)) (w.heap.size + 1) (some ⟨w.heap.size, 0, none⟩) 1 1 y.cells rfl
    (fun _ => ⟨_, rfl, Nat.lt_succ_self _, fun j u hu => by
      rw [Addr.add_lit, Nat.zero_add, cell_of_row _ w.heap.size j _ _ (0, 0) hq]
      simpa using hu⟩) (sp_one y) (by unfold maxLen; omega) (by omega) (by simp; omega)
  exact ⟨v', w', r1, r2, r3.alloc⟩
end Go.Proofs.Ytgldjjmpjaegfaa
