/- tree.byStart: all places, those of spans that are before others ahead of them. -/
import Derived.Test.YtgldjjmpjaegfaaSyg
import Derived.Test.YtgldjjmpjaegfaaYr
namespace Go.Proofs.Ytgldjjmpjaegfaa
open Go.RowKit
set_option linter.unusedVariables false
set_option linter.unusedSimpArgs false
set_option maxRecDepth 100000

def cmpZ (x y : Int) : Int := if x < y then -1 else if y < x then 1 else 0
set_option maxHeartbeats 1000000 in
theorem cmpz_calls (x y : Int) (w : World) : Calls Try.prog 48 #[.int .i64 x, .int .i64 y] w fun e w' => e = .returned (.int .i64 (cmpZ x y)) ∧ w' = w := by
  go_enter Try.func48, Try.ntmps48
  go_wp2
  all_goals (go_ret; refine ⟨?_, rfl⟩; unfold cmpZ; (repeat' split) <;> first | rfl | (exfalso; omega))
/-- The Start of the span at a place. -/
def stS (l : List Ls) (i : Nat) : Int := (l[i]?.map fun x => x.s.st).getD 0
theorem stS_at {l : List Ls} {i : Nat} {x : Ls} (h : l[i]? = some x) : stS l i = x.s.st := by unfold stS; rw [h]; rfl
/-- Places: by a number, then by place. -/
def ordSt (s : Nat → Int) : Sy.Ord Nat where
  lt i j := s i < s j ∨ (s i = s j ∧ i < j)
  tag i := i
  cf i j := cmpZ (s i) (s j)
  trans := fun {x y z} h k => by omega
  irr := fun x h => by omega
  low := fun {x y} h k => by
    unfold cmpZ at k
    by_cases h1 : s y < s x
    · exact .inl h1
    · rw [if_neg h1] at k; split at k <;> omega
  not := fun {x y} h k => by
    unfold cmpZ at k
    by_cases h1 : s y < s x
    · rw [if_pos h1] at k; omega
    · have h : x < y := h
      omega
/-- All places in their order. -/
def Bys (l : List Ls) (M : List Nat) : Prop := M.Pairwise (ordSt (stS l)).lt ∧ (∀ x, x ∈ M ↔ x < l.length) ∧ M.length = l.length
theorem info_int : (Try.prog.info? 3).map (fun i => (i.zero, i.size, i.bytes)) = some (some (.int .i64 0), 1, 8) := by kernel_rfl
theorem appI1 {w : World} {base n : Nat} {v : Value} {xs : List Value} {ty : TypeId} (h : w.ownsRow base 3 1 v n xs) (y : Int) (cs : Array Value) (hcs : cs = #[.int .i64 y]) (hn : n ≤ 1000000) (hbase : base ≤ w.heap.size) :
    ∃ v' w', (Builtin.append_ #[26, 26] ty #[v, .slice (some ⟨w.heap.size, 0, none⟩) 1 1]).run Try.prog (w.alloc (.cells cs 3)) = .ok v' w' ∧ (w'.ownsRow base 3 1 v' (n + 1) (xs ++ [.int .i64 y]) ∧ Grew w w' v v') := by
  subst hcs
  obtain ⟨i0, hi, hz0, hz1, hz2⟩ := info_parts info_int
  have hq := heap_alloc_new w (.cells #[.int .i64 y] 3)
  obtain ⟨v', w', r1, r2, r3⟩ := run_append_rd (P := Try.prog) (w.alloc (.cells #[.int .i64 y] 3)) base 26 ty 3 i0 _ 1 8 Try.underlying26 hi hz0 hz1 hz2 rfl v n xs (own_below h ((Below.refl w.heap.size w).alloc (Nat.le_refl _) _)) (w.heap.size + 1) (some ⟨w.heap.size, 0, none⟩) 1 1 [.int .i64 y] rfl
    (fun _ => ⟨_, rfl, Nat.lt_succ_self _, fun j u hu => by
      rw [Addr.add_lit, Nat.zero_add, cell_of_row _ w.heap.size j _ _ (0, 0) hq]
      simpa using hu⟩) (by intro u hu; simp only [List.mem_cons, List.not_mem_nil, or_false] at hu; subst hu; rfl) (by unfold maxLen; omega) (by omega) (by simp; omega)
  exact ⟨v', w', r1, r2, r3.alloc⟩
theorem make_int0 (n : Nat) (hn : n ≤ 1000000) (W : World) (base : Nat) (hb : base ≤ W.heap.size) :
    ∃ W', (Instr.makeSlice 26 (.int .i64 0) (.int .i64 (n : Int))).run Try.prog W = .ok (.slice (some ⟨W.heap.size, 0, none⟩) 0 n) W' ∧ W'.ownsRow base 3 1 (.slice (some ⟨W.heap.size, 0, none⟩) 0 n) 0 [] ∧ Below W.heap.size W W' := by
  obtain ⟨i0, hi, hz0, hz1, hz2⟩ := info_parts info_int
  obtain ⟨W', h1, h2, h3⟩ := run_make_own (P := Try.prog) (w := W) base 26 3 i0 _ 1 Try.underlying26 hi hz0 hz1 .i64 .i64 n (by rw [hz2]; omega) (by unfold maxLen; omega) hb
  exact ⟨W', h1, h2, ⟨h3.os, h3.tape, h3.output, h3.size, fun i hi => h3.block i hi (by simp)⟩⟩
set_option maxHeartbeats 4000000 in
theorem byst_cmp (p : Nat) (a : Addr) (n c B : Nat) (l : List Ls) (W : World) (hbox : W.cell? ⟨p, 0, none⟩ = some (.slice (some a) n c)) (hS : RdSps W B (some a) l) (hn : n = l.length) (hsm : n ≤ 1000000) (x y : Nat) (hx : x < n) (hy : y < n) :
    Calls Try.prog 47 #[.int .i64 (x : Int), .int .i64 (y : Int), .pointer (some ⟨p, 0, none⟩)] W fun e w' => e = .returned (.int .i64 ((ordSt (stS l)).cf x y)) ∧ Below W.heap.size W w' := by
  obtain ⟨X, hX⟩ : ∃ X, l[x]? = some X := ⟨_, List.getElem?_eq_getElem (by omega)⟩
  obtain ⟨Y, hY⟩ : ∃ Y, l[y]? = some Y := ⟨_, List.getElem?_eq_getElem (by omega)⟩
  have e : (ordSt (stS l)).cf x y = cmpZ X.s.st Y.s.st := by show cmpZ (stS l x) (stS l y) = _; rw [stS_at hX, stS_at hY]
  rw [e]
  obtain ⟨a1, ha1, hab, hcx, _⟩ := hS.at_ hX
  obtain ⟨a2, ha2, _, hcy, _⟩ := hS.at_ hY
  cases ha1
  cases ha2
  have cx := cell_far (hcx 6 (.int .i64 X.s.st) rfl) (by omega)
  have cy := cell_far (hcy 6 (.int .i64 Y.s.st) rfl) (by omega)
  have x0 : (0 : Int) ≤ (x : Int) := by omega
  have x1 : (x : Int) < (n : Int) := by omega
  have y0 : (0 : Int) ≤ (y : Int) := by omega
  have y1 : (y : Int) < (n : Int) := by omega
  have CZ := fun V : World => Lib.hid (cmpz_calls X.s.st Y.s.st V)
  generalize X.s.st = sx at *
  generalize Y.s.st = sy at *
  clear hcx hcy hX hY e hS hn
  go_enter Try.func47, Try.ntmps47
  go_wp2_with fail
  have n0 := fun p : NowB W => p.cell hbox
  have n1 := fun p : NowB W => p.cell cx
  have n2 := fun p : NowB W => p.cell cy
  clear hbox cx cy
  refine wp_region_quiet_below (by kernel_rfl) (by kernel_rfl) ?_
  repeat (go_big_quiet_step ((go_at_call 48; with_reducible exact Calls.now_same (CZ _).out)))
  refine wpQuiet_nil ?_
  intro _ hw'
  obtain ⟨pp, hw''⟩ := hw'
  subst hw''
  have HP9 := Lib.hid pp.h
  generalize pp.W = w9 at *
  go_wp2_with fail
  go_ret
  exact ⟨rfl, HP9.out⟩
end Go.Proofs.Ytgldjjmpjaegfaa
