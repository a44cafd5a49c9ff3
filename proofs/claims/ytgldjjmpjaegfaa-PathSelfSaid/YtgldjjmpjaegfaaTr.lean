/- Several texts of tools, one behind the other. -/
import Derived.Test.YtgldjjmpjaegfaaSyg
import Derived.Test.YtgldjjmpjaegfaaYr
import Derived.Test.YtgldjjmpjaegfaaSp
import Derived.Test.YtgldjjmpjaegfaaBs
import Derived.Maps.Own
import Derived.Maps.OwnOps
import Derived.Maps.OwnSet
import Derived.Maps.Views
import Derived.Deep.DeepCutAuto
import Derived.Deep.Cut
/- tree.byStart: all places, those of spans that are before others ahead of them. -/
namespace Go.Proofs.Ytgldjjmpjaegfaa
open Go.RowKit
set_option linter.unusedVariables false
set_option linter.unusedSimpArgs false
set_option maxRecDepth 100000

def cmpZ (x y : Int) : Int := if x < y then -1 else if y < x then 1 else 0
set_option maxHeartbeats 1000000 in
theorem cmpz_calls (x y : Int) (w : World) : Calls Try.prog 48 #[.int .i64 x, .int .i64 y] w fun e w' => e = .returned (.int .i64 (cmpZ x y)) ∧ w' = w := by
  go_enter Try.func48, Try.ntmps48
  go_wp2
  all_goals (go_ret; refine ⟨?_, rfl⟩; unfold cmpZ; (repeat' split) <;> first | rfl | (exfalso; omega))
/-- The Start of the span at a place. -/
def stS (l : List Ls) (i : Nat) : Int := (l[i]?.map fun x => x.s.st).getD 0
theorem stS_at {l : List Ls} {i : Nat} {x : Ls} (h : l[i]? = some x) : stS l i = x.s.st := by unfold stS; rw [h]; rfl
/-- Places: by a number, then by place. -/
def ordSt (s : Nat → Int) : Sy.Ord Nat where
  lt i j := s i < s j ∨ (s i = s j ∧ i < j)
  tag i := i
  cf i j := cmpZ (s i) (s j)
  trans := fun {x y z} h k => by omega
  irr := fun x h => by omega
  low := fun {x y} h k => by
    unfold cmpZ at k
    by_cases h1 : s y < s x
    · exact .inl h1
    · rw [if_neg h1] at k; split at k <;> omega
  not := fun {x y} h k => by
    unfold cmpZ at k
    by_cases h1 : s y < s x
    · rw [if_pos h1] at k; omega
    · have h : x < y := h
      omega
/-- All places in their order. -/
def Bys (l : List Ls) (M : List Nat) : Prop := M.Pairwise (ordSt (stS l)).lt ∧ (∀ x, x ∈ M ↔ x < l.length) ∧ M.length = l.length
theorem info_int : (Try.prog.info? 3).map (fun i => (i.zero, i.size, i.bytes)) = some (some (.int .i64 0), 1, 8) := by kernel_rfl
theorem appI1 {w : World} {base n : Nat} {v : Value} {xs : List Value} {ty : TypeId} (h : w.ownsRow base 3 1 v n xs) (y : Int) (cs : Array Value) (hcs : cs = #[.int .i64 y]) (hn : n ≤ 1000000) (hbase : base ≤ w.heap.size) :
    ∃ v' w', (Builtin.append_ #[26, 26] ty #[v, .slice (some ⟨w.heap.size, 0, none⟩) 1 1]).run Try.prog (w.alloc (.cells cs 3)) = .ok v' w' ∧ (w'.ownsRow base 3 1 v' (n + 1) (xs ++ [.int .i64 y]) ∧ Grew w w' v v') := by
  subst hcs
  obtain ⟨i0, hi, hz0, hz1, hz2⟩ := info_parts info_int
  have hq := heap_alloc_new w (.cells #[.int .i64 y] 3)
  obtain ⟨v', w', r1, r2, r3⟩ := run_append_rd (P := Try.prog) (w.alloc (.cells #[.int .i64 y] 3)) base 26 ty 3 i0 _ 1 8 Try.underlying26 hi hz0 hz1 hz2 rfl v n xs (own_below h ((Below.refl w.heap.size w).alloc (Nat.le_refl _) _)) (w.heap.size + 1) (some ⟨w.heap.size, 0, none⟩) 1 1 [.int .i64 y] rfl
    (fun _ => ⟨_, rfl, Nat.lt_succ_self _, fun j u hu => by
      rw [Addr.add_lit, Nat.zero_add, cell_of_row _ w.heap.size j _ _ (0, 0) hq]
      simpa using hu⟩) (by intro u hu; simp only [List.mem_cons, List.not_mem_nil, or_false] at hu; subst hu; rfl) (by unfold maxLen; omega) (by omega) (by simp; omega)
  exact ⟨v', w', r1, r2, r3.alloc⟩
theorem make_int0 (n : Nat) (hn : n ≤ 1000000) (W : World) (base : Nat) (hb : base ≤ W.heap.size) :
    ∃ W', (Instr.makeSlice 26 (.int .i64 0) (.int .i64 (n : Int))).run Try.prog W = .ok (.slice (some ⟨W.heap.size, 0, none⟩) 0 n) W' ∧ W'.ownsRow base 3 1 (.slice (some ⟨W.heap.size, 0, none⟩) 0 n) 0 [] ∧ Below W.heap.size W W' := by
  obtain ⟨i0, hi, hz0, hz1, hz2⟩ := info_parts info_int
  obtain ⟨W', h1, h2, h3⟩ := run_make_own (P := Try.prog) (w := W) base 26 3 i0 _ 1 Try.underlying26 hi hz0 hz1 .i64 .i64 n (by rw [hz2]; omega) (by unfold maxLen; omega) hb
  exact ⟨W', h1, h2, ⟨h3.os, h3.tape, h3.output, h3.size, fun i hi => h3.block i hi (by simp)⟩⟩
set_option maxHeartbeats 4000000 in
theorem byst_cmp (p : Nat) (a : Addr) (n c B : Nat) (l : List Ls) (W : World) (hbox : W.cell? ⟨p, 0, none⟩ = some (.slice (some a) n c)) (hS : RdSps W B (some a) l) (hn : n = l.length) (hsm : n ≤ 1000000) (x y : Nat) (hx : x < n) (hy : y < n) :
    Calls Try.prog 47 #[.int .i64 (x : Int), .int .i64 (y : Int), .pointer (some ⟨p, 0, none⟩)] W fun e w' => e = .returned (.int .i64 ((ordSt (stS l)).cf x y)) ∧ Below W.heap.size W w' := by
  obtain ⟨X, hX⟩ : ∃ X, l[x]? = some X := ⟨_, List.getElem?_eq_getElem (by omega)⟩
  obtain ⟨Y, hY⟩ : ∃ Y, l[y]? = some Y := ⟨_, List.getElem?_eq_getElem (by omega)⟩
  have e : (ordSt (stS l)).cf x y = cmpZ X.s.st Y.s.st := by show cmpZ (stS l x) (stS l y) = _; rw [stS_at hX, stS_at hY]
  rw [e]
  obtain ⟨a1, ha1, hab, hcx, _⟩ := hS.at_ hX
  obtain ⟨a2, ha2, _, hcy, _⟩ := hS.at_ hY
  cases ha1
  cases ha2
  have cx := cell_far (hcx 6 (.int .i64 X.s.st) rfl) (by omega)
  have cy := cell_far (hcy 6 (.int .i64 Y.s.st) rfl) (by omega)
  have x0 : (0 : Int) ≤ (x : Int) := by omega
  have x1 : (x : Int) < (n : Int) := by omega
  have y0 : (0 : Int) ≤ (y : Int) := by omega
  have y1 : (y : Int) < (n : Int) := by omega
  have CZ := fun V : World => Lib.hid (cmpz_calls X.s.st Y.s.st V)
  generalize X.s.st = sx at *
  generalize Y.s.st = sy at *
  clear hcx hcy hX hY e hS hn
  go_enter Try.func47, Try.ntmps47
  go_wp2_with fail
  have n0 := fun p : NowB W => p.cell hbox
  have n1 := fun p : NowB W => p.cell cx
  have n2 := fun p : NowB W => p.cell cy
  clear hbox cx cy
  refine wp_region_quiet_below (by kernel_rfl) (by kernel_rfl) ?_
  repeat (go_big_quiet_step ((go_at_call 48; with_reducible exact Calls.now_same (CZ _).out)))
  refine wpQuiet_nil ?_
  intro _ hw'
  obtain ⟨pp, hw''⟩ := hw'
  subst hw''
  have HP9 := Lib.hid pp.h
  generalize pp.W = w9 at *
  go_wp2_with fail
  go_ret
  exact ⟨rfl, HP9.out⟩
end Go.Proofs.Ytgldjjmpjaegfaa

/- tree.byStart: all places, those of spans that are before others ahead of them. -/
namespace Go.Proofs.Ytgldjjmpjaegfaa
open Go.RowKit
set_option linter.unusedVariables false
set_option linter.unusedSimpArgs false
set_option maxRecDepth 100000

set_option maxHeartbeats 8000000 in
theorem bystart_any (l : List Ls) (A : Option Addr) (n c B : Nat) (w : World) (hS : RdSps w B A l) (hB : B ≤ w.heap.size) (hn : n = l.length) (hsm : n ≤ 1000000) :
    Calls Try.prog 40 #[.slice A n c] w fun e w' => ∃ g cap M, e = .returned (.slice (some ⟨g, 0, none⟩) n cap) ∧ Bys l M ∧ w'.ownsRow w.heap.size 3 1 (.slice (some ⟨g, 0, none⟩) n cap) n ((M).map encN) ∧ Below w.heap.size w w' := by
  obtain ⟨base, hbase⟩ : ∃ base, base = w.heap.size := ⟨_, rfl⟩
  have HSs := Lib.hid hS
  have HB := Lib.hid hB
  have HN := Lib.hid hn
  have hbp := heap_alloc_new w (.cells #[.slice A n c] 22)
  obtain ⟨w1, hw1⟩ : ∃ w1, w1 = w.alloc (.cells #[.slice A n c] 22) := ⟨_, rfl⟩
  have hB1 : Below w.heap.size w w1 := by rw [hw1]; exact (Below.refl _ _).alloc (Nat.le_refl _) _
  have hs1 : w1.heap.size = w.heap.size + 1 := by rw [hw1]; simp
  rw [← hw1] at hbp
  have hcb : w1.cell? ⟨w.heap.size, 0, none⟩ = some (.slice A n c) := by rw [cell_of_row w1 w.heap.size 0 _ _ (0, 0) hbp]; rfl
  obtain ⟨W5, hrun, hown, hb5⟩ := make_int0 n hsm w1 (w.heap.size + 1) (by omega)
  have hc5 : W5.cell? ⟨w.heap.size, 0, none⟩ = some (.slice A n c) := by rw [(bcell hb5).1 _ _ (by omega)]; exact hcb
  have HCB := Lib.hid hc5
  have hw15 := hb5.size
  have HW5 := Lib.hid (show Below w.heap.size w W5 from hB1.trans (hb5.mono (by omega)))
  obtain ⟨bb, hbb⟩ : ∃ bb, bb = w.heap.size + 1 := ⟨_, rfl⟩
  have HBB := Lib.hid hbb
  have HOW := Lib.hid hown
  have HS5 := Lib.hid (show bb ≤ W5.heap.size from by omega)
  rw [← hbb] at HOW
  rw [hs1] at HOW
  have hrun' : (Instr.makeSlice 26 (.int .i64 0) (.int .i64 (n : Int))).run Try.prog w1 = .ok (.slice (some ⟨bb, 0, none⟩) 0 n) W5 := by rw [hrun, hs1, hbb]
  rw [← hbb] at HOW
  have CK : Hid (CmpOkN (ordSt (stS l)) (.pointer (some ⟨w.heap.size, 0, none⟩)) bb n W5) := Lib.hid (fun W hW x y hx hy => by
    have hn := HN.out
    have hcell : W.cell? ⟨w.heap.size, 0, none⟩ = some (.slice A n c) := by rw [(bcell hW).1 _ _ (by have := HBB.out; omega)]; exact HCB.out
    have hRS : RdSps W B A l := (HSs.out.below (HW5.out.mono HB.out)).below (hW.mono (by have := HBB.out; have := HB.out; omega))
    obtain ⟨X, hX⟩ : ∃ X, l[x]? = some X := ⟨_, List.getElem?_eq_getElem (by omega)⟩
    obtain ⟨a, ha, _⟩ := hRS.at_ hX
    subst ha
    exact byst_cmp w.heap.size a n c B l W hcell hRS hn hsm x y hx hy)
  clear hrun hown hb5 hw15 hS hB hn hbb hcb hB1 hs1 hbp
  rw [hw1] at hrun'
  clear hw1
  go_enter Try.func40, Try.ntmps40
  go_upto_region 3 with fail
  clear hrun' hc5
  go_loopw [3, 10] (fun v i wq => ∃ (k g c' : Nat), i = .int .i64 (k : Int) ∧ k ≤ n ∧ v = .slice (some ⟨g, 0, none⟩) k c' ∧ Hid (wq.ownsRow bb 3 1 (.slice (some ⟨g, 0, none⟩) k c') k ((List.range k).map encN)) ∧ Hid (Below bb W5 wq)) (fun _ i _ => n - (intOf i).toNat)
  case atStart => exact ⟨0, bb, n, rfl, Nat.zero_le _, rfl, HOW, Lib.hid (Below.refl _ _)⟩
  case round =>
    obtain ⟨k, g, c', rfl, hk, rfl, HO, HBW⟩ := hrel
    by_cases hlt : k < n
    · have d0 : decide ((k : Int) < (n : Int)) = true := decide_eq_true (by omega)
      have d1 : decide (k < n) = true := decide_eq_true hlt
      have APP := Lib.hid (fun ty => appI1 (ty := ty) HO.out (k : Int) #[.int .i64 (k : Int)] rfl (by omega) (Nat.le_trans HS5.out HBW.out.size))
      have HLT := Lib.hid hlt
      have hk6 : (k : Int) < 1000000 := by omega
      clear hlt
      go_wp2_with (at_builtin; (refine wpList_app rfl (.tmp 13) (.tmp 15) _ _ rfl rfl rfl (APP.out _) ?_); rintro v5 w5 ⟨ho5, hg5⟩; have HB5 := Lib.hid (hg5.below HBW.out (Nat.le_trans HS5.out HBW.out.size) (own_block_ge HO.out)); obtain ⟨A5, c5, rfl, _, _⟩ := own_rd ho5; have HO5 := Lib.hid ho5; clear ho5 hg5)
      obtain ⟨g5, rfl, _, _⟩ := own_placeY HO5.out (Nat.succ_pos k)
      go_roundw
      case rel => exact ⟨k + 1, g5, c5, by go_num, HLT.out, rfl, Lib.hid (by rw [List.range_succ, List.map_append]; exact HO5.out), HB5⟩
      case measure => have := HLT.out; simp [intOf]; omega
    · obtain rfl : k = n := by omega
      have d0 : decide ((k : Int) < (k : Int)) = false := decide_eq_false (by omega)
      have d1 : decide (k < k) = false := decide_eq_false (by omega)
      have SC := Lib.hid (sortstable_any (ordSt (stS l)) (.pointer (some ⟨w.heap.size, 0, none⟩)) bb k W5 CK.out (List.range k) bb g k c' wr HO.out (fun x hx => List.mem_range.1 hx) HBW.out (Nat.le_refl _) (Nat.le_trans HS5.out HBW.out.size) hsm (fun q x _ hq => by
        obtain ⟨h1, h2⟩ := List.getElem?_eq_some_iff.1 hq
        rw [List.getElem_range] at h2
        exact h2.symm))
      clear hlt
      go_wp2_with (go_at_call 46; (with_reducible refine SC.out.mono ?_); rintro ex w6 ⟨rfl, M, hs6, hd6, ho6, hb6⟩; have HH6 := Lib.hid (And.intro hs6 (And.intro hd6 (And.intro ho6 hb6))); clear hs6 hd6 ho6 hb6)
      go_ret
      obtain ⟨hs6, hd6, ho6, hb6⟩ := HH6.out
      have hkl := HN.out
      have hll : (List.range k).length = k := List.length_range
      exact ⟨g, c', M, rfl, ⟨Sy.pair_of (O := ordSt (stS l)) (hs6.1.trans hll) hd6, fun x => by rw [Sy.mem_of hll hs6 x, List.mem_range, hkl], by rw [hs6.1, hll, hkl]⟩, own_mono ho6 (by have := HBB.out; omega), HW5.out.trans ((HBW.out.trans hb6).mono (by have := HBB.out; omega))⟩
end Go.Proofs.Ytgldjjmpjaegfaa

/- tree.named, plainly; a map of places, keyed by numbers, in memory of one's own. -/
namespace Go.Proofs.Ytgldjjmpjaegfaa
open Go.RowKit Go.Maps
set_option linter.unusedVariables false
set_option linter.unusedSimpArgs false
set_option maxRecDepth 100000

theorem keyU' : Keyed Try.prog 29 := int_keyed Try.underlying29
theorem zeroU' (w : World) : (zeroValue 3).run Try.prog w = .ok (.int .i64 0) w := by kernel_rfl
/-- The map in block b holds of each number the place that f tells. -/
def MapU (w : World) (b n : Nat) (f : Int → Option Nat) : Prop :=
  ∃ D : DataW Unit, w.ownsMap Try.prog 29 (plainElem Try.prog 3) b n D ∧ IsMap D ∧ ∀ t : Int, has D (.int .u64 t) = (f t).isSome ∧ D.atKey (.int .u64 t) (.lit (.int .i64 0)) = .lit (.int .i64 (((f t).getD 0 : Nat) : Int))
theorem MapU.made (w : World) : MapU (w.alloc (.map #[] 0)) w.heap.size 0 (fun _ => none) := ⟨.map [], World.ownsMap_made _ _ _ _, isMap_empty, fun t => ⟨rfl, rfl⟩⟩
theorem MapU.block {w w' : World} {b n : Nat} {f : Int → Option Nat} (h : MapU w b n f) (he : w'.heap[b]? = w.heap[b]?) : MapU w' b n f := by
  obtain ⟨D, ⟨es, clock, h1, h2⟩, h3⟩ := h
  exact ⟨D, ⟨es, clock, he.trans h1, h2⟩, h3⟩
theorem MapU.lt {w : World} {b n : Nat} {f : Int → Option Nat} (h : MapU w b n f) : b < w.heap.size := by
  obtain ⟨D, ⟨es, clock, h1, h2⟩, h3⟩ := h
  rcases Nat.lt_or_ge b w.heap.size with h | h
  · exact h
  · rw [Array.getElem?_eq_none h] at h1; cases h1
theorem MapU.congr {w : World} {b n : Nat} {f f' : Int → Option Nat} (h : MapU w b n f) (e : ∀ t, f t = f' t) : MapU w b n f' := by
  have : f = f' := funext e
  rw [← this]; exact h
theorem MapU.not_own {w : World} {b n : Nat} {f : Int → Option Nat} (h : MapU w b n f) {base e size m : Nat} {v : Value} {xs : List Value} (ho : w.ownsRow base e size v m xs) : v.ownBlock ≠ some b := by
  obtain ⟨D, ⟨es, clock, h1, h2⟩, h3⟩ := h
  rcases ho.2 with ⟨rfl, _⟩ | ⟨g, cap, cur, rfl, _, hg, _⟩
  · simp [Value.ownBlock]
  · simp only [Value.ownBlock]
    intro he
    injection he with he
    subst he
    rw [hg] at h1
    cases h1
theorem wfU' {t : Int} (h : 0 ≤ t ∧ t ≤ 18446744073709551615) : (Lit.int .u64 t).wf = true := WalkArith.wf_u64 (by omega)
theorem wpList_mapu {w : World} {ops : Array Oper} {rest : List Oper} {o : Oper} {a : Act} {Q : Exit → Act → World → Prop} {b n : Nat} {f : Int → Option Nat} {t : Int} (h : MapU w b n f) (ht : 0 ≤ t ∧ t ≤ 18446744073709551615) {ok : Bool} {at_ : Int} (hok : (f t).isSome = ok) (hat : (((f t).getD 0 : Nat) : Int) = at_)
    (hg : o.guard = none) (m x : Operand) (hop : o.op = Op.lookup 55 m x true) (hm : a.eval m = .map (some b)) (hx : a.eval x = .int .u64 t)
    (hK : wpList Try.prog ops Q rest (a.put o.dst (.tuple #[.int .i64 at_, .bool ok])) w) : wpList Try.prog ops Q (o :: rest) a w := by
  obtain ⟨D, h1, h2, h3⟩ := h
  refine wpList_lookup_own_ok_int w hg m x 55 hop 29 3 .i64 keyU' Try.underlying55 Try.underlying3 (zeroU' w) b n D hm h1 _ (.int .u64 t) hx (keyOf_int_mk Try.underlying29 (wfU' ht)) fun c hat2 hwc => ?_
  rw [(h3 t).1, hok]
  rw [(h3 t).2, hat] at hat2
  injection hat2 with hat2
  injection hat2 with _ hat2
  rw [← hat2]
  exact hK
theorem wpList_mapu_put {w : World} {ops : Array Oper} {rest : List Oper} {o : Oper} {a : Act} {Q : Exit → Act → World → Prop} {b n : Nat} {f : Int → Option Nat} {t : Int} {k : Nat} (h : MapU w b n f) (ht : 0 ≤ t ∧ t ≤ 18446744073709551615) (hn : n ≤ 2000000) (hk : k ≤ 2000000)
    (hg : o.guard = none) (m x v : Operand) (hop : o.op = Op.mapUpdate 55 m x v) (hm : a.eval m = .map (some b)) (hx : a.eval x = .int .u64 t) (hv : a.eval v = .int .i64 (k : Int))
    (hK : ∀ w', MapU w' b (n + 1) (fun u => if u = t then some k else f u) → w.grownBy w' (some b) → wpList Try.prog ops Q rest (a.put o.dst undef) w') : wpList Try.prog ops Q (o :: rest) a w := by
  obtain ⟨D, h1, h2, h3⟩ := h
  have hkl : Go.WideAt.IsKeyLit (.int .u64 t) := by simp [Go.WideAt.IsKeyLit]
  refine wpList_mapUpdate_own w hg m x v 55 hop 29 3 keyU' Try.underlying55 _ b n D hm h1 (by unfold maxLen; omega) _ _ (.int .u64 t) hx hv (keyOf_int_mk Try.underlying29 (wfU' ht)) (.lit (.int .i64 (k : Int))) [] (plainElem_int Try.underlying3 (WalkArith.wf_i64 (by omega))) fun w' ho hgr => ?_
  refine hK w' ⟨_, ho, h2.put _ _, fun u => ?_⟩ hgr
  by_cases he : u = t
  · subst he
    simp only [if_pos]
    exact ⟨by rw [has_put_same h2 hkl]; rfl, by rw [atKey_put_same h2 hkl]; rfl⟩
  · have hne : (Lit.int .u64 u) ≠ .int .u64 t := by simpa using he
    simp only [if_neg he]
    exact ⟨by rw [has_put_other hne, (h3 u).1], by rw [atKey_put_other hne, (h3 u).2]⟩

/-- The places of a number in a list. -/
def plc (I : List Int) (u : Int) : List Nat := (List.range I.length).filter fun j => I[j]? == some u
theorem plc_append (I : List Int) (t u : Int) : plc (I ++ [t]) u = plc I u ++ (if u = t then [I.length] else []) := by
  unfold plc
  rw [List.length_append, List.length_singleton, List.range_succ, List.filter_append]
  congr 1
  · apply List.filter_congr
    intro j hj
    rw [List.getElem?_append_left (List.mem_range.1 hj)]
  · by_cases h : u = t
    · subst h; simp
    · have h2 : ¬ t = u := fun e => h e.symm
      simp [h, h2]
theorem plc_mem {I : List Int} {u : Int} {j : Nat} : j ∈ plc I u ↔ I[j]? = some u := by
  unfold plc
  rw [List.mem_filter, List.mem_range]
  constructor
  · rintro ⟨_, h⟩; exact eq_of_beq h
  · intro h
    exact ⟨(List.getElem?_eq_some_iff.1 h).1, by rw [h]; exact beq_self_eq_true _⟩
theorem plc_sorted (I : List Int) (u : Int) : (plc I u).Pairwise (· < ·) := List.Pairwise.filter _ List.pairwise_lt_range
theorem plc_lt {I : List Int} {u : Int} {j k : Nat} (h : (plc I u)[j]? = some k) : k < I.length := (List.getElem?_eq_some_iff.1 (plc_mem.1 (List.mem_of_getElem? h))).1
/-- Whom a span names: the first other one of the number. -/
def namedO (I : List Int) (p : Int) (i : Nat) : Option Nat := if (plc I p)[0]? = some i then (plc I p)[1]? else (plc I p)[0]?
def plO : Option Nat → Int
  | none => -1
  | some j => j
theorem namedO_lt {I : List Int} {p : Int} {i j : Nat} (h : namedO I p i = some j) : j < I.length ∧ j ≠ i ∧ I[j]? = some p := by
  unfold namedO at h
  split at h
  · rename_i h0
    have hm := plc_mem.1 (List.mem_of_getElem? h)
    refine ⟨plc_lt h, ?_, hm⟩
    have hs := plc_sorted I p
    obtain ⟨g0, g0'⟩ := List.getElem?_eq_some_iff.1 h0
    obtain ⟨g1, g1'⟩ := List.getElem?_eq_some_iff.1 h
    have := (List.pairwise_iff_getElem.1 hs) 0 1 g0 g1 (by omega)
    omega
  · rename_i h0
    exact ⟨plc_lt h, fun e => h0 (by rw [h, e]), plc_mem.1 (List.mem_of_getElem? h)⟩
def namedM (l : List Ls) : List Int := (List.range l.length).map fun i => plO (namedO (l.map fun x => x.s.id) (((l[i]?).map fun x => x.s.pa).getD 0) i)
theorem namedM_len (l : List Ls) : (namedM l).length = l.length := by unfold namedM; rw [List.length_map, List.length_range]
theorem namedM_at {l : List Ls} {i : Nat} {x : Ls} (h : l[i]? = some x) : (namedM l)[i]? = some (plO (namedO (l.map fun x => x.s.id) x.s.pa i)) := by
  unfold namedM
  rw [List.getElem?_map, List.getElem?_range (List.getElem?_eq_some_iff.1 h).1, Option.map_some, h]
  rfl
end Go.Proofs.Ytgldjjmpjaegfaa

/- tree.named: of each span the place of the first other one that it names. -/
namespace Go.Proofs.Ytgldjjmpjaegfaa
open Go.RowKit Go.Maps
set_option linter.unusedVariables false
set_option linter.unusedSimpArgs false
set_option maxRecDepth 100000

def encZ (z : Int) : Value := .int .i64 z
def idT (l : List Ls) (k : Nat) : List Int := (l.take k).map fun x => x.s.id
theorem idT_len (l : List Ls) (k : Nat) (h : k ≤ l.length) : (idT l k).length = k := by unfold idT; rw [List.length_map, List.length_take]; omega
theorem idT_step {l : List Ls} {k : Nat} {x : Ls} (hx : l[k]? = some x) : idT l (k + 1) = idT l k ++ [x.s.id] := by unfold idT; rw [List.take_add_one, hx, List.map_append]; rfl
theorem idT_all (l : List Ls) : idT l l.length = l.map fun x => x.s.id := by unfold idT; rw [List.take_length]
def fmap (l : List Ls) (j k : Nat) : Int → Option Nat := fun u => (plc (idT l k) u)[j]?
theorem fmap_step0 {l : List Ls} {k : Nat} {x : Ls} (hx : l[k]? = some x) (h : (fmap l 0 k x.s.id).isSome = false) : (∀ u, (if u = x.s.id then some k else fmap l 0 k u) = fmap l 0 (k + 1) u) ∧ ∀ u, fmap l 1 k u = fmap l 1 (k + 1) u := by
  have hk := (List.getElem?_eq_some_iff.1 hx).1
  have hl := idT_len l k (by omega)
  have e : plc (idT l k) x.s.id = [] := by
    unfold fmap at h
    cases hp : plc (idT l k) x.s.id with
    | nil => rfl
    | cons a r => rw [hp] at h; simp at h
  unfold fmap
  rw [idT_step hx]
  refine ⟨fun u => ?_, fun u => ?_⟩ <;> rw [plc_append, hl]
  · by_cases hu : u = x.s.id
    · subst hu; rw [if_pos rfl, if_pos rfl, e]; rfl
    · rw [if_neg hu, if_neg hu, List.append_nil]
  · by_cases hu : u = x.s.id
    · subst hu; rw [if_pos rfl, e]; rfl
    · rw [if_neg hu, List.append_nil]
theorem fmap_step1 {l : List Ls} {k : Nat} {x : Ls} (hx : l[k]? = some x) (h : (fmap l 0 k x.s.id).isSome = true) (h1 : (fmap l 1 k x.s.id).isSome = false) : (∀ u, fmap l 0 k u = fmap l 0 (k + 1) u) ∧ ∀ u, (if u = x.s.id then some k else fmap l 1 k u) = fmap l 1 (k + 1) u := by
  have hk := (List.getElem?_eq_some_iff.1 hx).1
  have hl := idT_len l k (by omega)
  obtain ⟨y, e⟩ : ∃ y, plc (idT l k) x.s.id = [y] := by
    unfold fmap at h h1
    cases hp : plc (idT l k) x.s.id with
    | nil => rw [hp] at h; simp at h
    | cons a r => cases r with
      | nil => exact ⟨a, rfl⟩
      | cons b r => rw [hp] at h1; simp at h1
  unfold fmap
  rw [idT_step hx]
  refine ⟨fun u => ?_, fun u => ?_⟩ <;> rw [plc_append, hl]
  · by_cases hu : u = x.s.id
    · subst hu; rw [if_pos rfl, e]; rfl
    · rw [if_neg hu, List.append_nil]
  · by_cases hu : u = x.s.id
    · subst hu; rw [if_pos rfl, if_pos rfl, e]; rfl
    · rw [if_neg hu, if_neg hu, List.append_nil]
theorem fmap_step2 {l : List Ls} {k : Nat} {x : Ls} (hx : l[k]? = some x) (h1 : (fmap l 1 k x.s.id).isSome = true) : (∀ u, fmap l 0 k u = fmap l 0 (k + 1) u) ∧ ∀ u, fmap l 1 k u = fmap l 1 (k + 1) u := by
  have hk := (List.getElem?_eq_some_iff.1 hx).1
  have hl := idT_len l k (by omega)
  obtain ⟨y, z, r, e⟩ : ∃ y z r, plc (idT l k) x.s.id = y :: z :: r := by
    unfold fmap at h1
    cases hp : plc (idT l k) x.s.id with
    | nil => rw [hp] at h1; simp at h1
    | cons a r => cases r with
      | nil => rw [hp] at h1; simp at h1
      | cons b r => exact ⟨a, b, r, rfl⟩
  unfold fmap
  rw [idT_step hx]
  refine ⟨fun u => ?_, fun u => ?_⟩ <;> rw [plc_append, hl]
  · by_cases hu : u = x.s.id
    · subst hu; rw [if_pos rfl, e]; rfl
    · rw [if_neg hu, List.append_nil]
  · by_cases hu : u = x.s.id
    · subst hu; rw [if_pos rfl, e]; rfl
    · rw [if_neg hu, List.append_nil]
theorem make_intN (n : Nat) (hn : n ≤ 100000) (W : World) :
    ∃ W', (Instr.makeSlice 26 (.int .i64 (n : Int)) (.int .i64 (n : Int))).run Try.prog W = .ok (.slice (some ⟨W.heap.size, 0, none⟩) n n) W' ∧ W'.ownsRow W.heap.size 3 1 (.slice (some ⟨W.heap.size, 0, none⟩) n n) n ((List.replicate n (0 : Int)).map encZ) ∧ Below W.heap.size W W' ∧ W'.heap.size = W.heap.size + 1 := by
  obtain ⟨i0, hi, hz0, hz1, hz2⟩ := info_parts info_int
  obtain ⟨W', h1, h2, h3, h4⟩ := make_rep 26 3 i0 _ 8 Try.underlying26 hi hz0 hz1 hz2 (by decide) rfl n hn W
  exact ⟨W', h1, by rw [List.map_replicate]; exact h2, h3, h4⟩
set_option maxHeartbeats 16000000 in
theorem named_any (l : List Ls) (A : Option Addr) (n c B : Nat) (w : World) (hS : RdSps w B A l) (hB : B ≤ w.heap.size) (hn : n = l.length) (hsm : n ≤ 100000) :
    Calls Try.prog 30 #[.slice A n c] w fun e w' => ∃ g, e = .returned (.slice (some ⟨g, 0, none⟩) n n) ∧ w'.ownsRow w.heap.size 3 1 (.slice (some ⟨g, 0, none⟩) n n) n ((namedM l).map encZ) ∧ Below w.heap.size w w' := by
  have HSs := Lib.hid hS
  have HBB := Lib.hid hB
  have HN := Lib.hid hn
  clear hS hB hn
  have hmm := @run_makeMap Try.prog
  have hM1 : MapU ((w.alloc (.map #[] 0)).alloc (.map #[] 0)) w.heap.size 0 (fmap l 0 0) := ((MapU.made w).block (Below.heap_alloc _ _ _ (by simp))).congr (fun _ => rfl)
  have hM2 : MapU ((w.alloc (.map #[] 0)).alloc (.map #[] 0)) (w.heap.size + 1) 0 (fmap l 1 0) := by
    have h := MapU.made (w.alloc (.map #[] 0))
    have e : (w.alloc (.map #[] 0)).heap.size = w.heap.size + 1 := by simp
    rw [e] at h
    exact h.congr (fun _ => rfl)
  have hB0 : Below w.heap.size w ((w.alloc (.map #[] 0)).alloc (.map #[] 0)) := ((Below.refl w.heap.size w).alloc (Nat.le_refl _) (.map #[] 0)).alloc (by simp) (.map #[] 0)
  go_enter Try.func30, Try.ntmps30
  go_upto_region 4 with fail
  obtain ⟨g1, hg1⟩ : ∃ g1, g1 = w.heap.size := ⟨_, rfl⟩
  obtain ⟨g2, hg2⟩ : ∃ g2, g2 = w.heap.size + 1 := ⟨_, rfl⟩
  rw [← hg2] at hM2 ⊢
  rw [← hg1] at hM1 hB0 ⊢
  have HG := Lib.hid (And.intro hg1 hg2)
  have HM1 := Lib.hid hM1
  have HM2 := Lib.hid hM2
  have HB0 := Lib.hid hB0
  rw [← hg1] at HBB
  clear hM1 hM2 hB0 hg1 hg2 hmm
  generalize (w.alloc (.map #[] 0)).alloc (.map #[] 0) = wm at *
  go_loopw [20] (fun i wq => ∃ (k n1 n2 : Nat), i = .int .i64 (k : Int) ∧ k ≤ n ∧ n1 ≤ k ∧ n2 ≤ k ∧ Hid (MapU wq g1 n1 (fmap l 0 k)) ∧ Hid (MapU wq g2 n2 (fmap l 1 k)) ∧ Hid (Below g1 w wq)) (fun i _ => n - (intOf i).toNat)
  case atStart => exact ⟨0, 0, 0, rfl, Nat.zero_le _, Nat.le_refl _, Nat.le_refl _, HM1, HM2, HB0⟩
  clear HM1 HM2 HB0
  case round =>
    obtain ⟨k, n1, n2, rfl, hk, hn1, hn2, HM1, HM2, HB⟩ := hrel
    have hws := HB.out.size
    rw [← HG.out.1] at hws
    by_cases hlt : k < n
    · have HLT := Lib.hid hlt
      have i1 : (k : Int) < (n : Int) := by omega
      have i0 : (0 : Int) ≤ (k : Int) := by omega
      obtain ⟨x, hx⟩ : ∃ x, l[k]? = some x := ⟨_, List.getElem?_eq_getElem (by rw [← HN.out]; exact hlt)⟩
      have HX := Lib.hid hx
      obtain ⟨a, ha, hab, hc, hRL⟩ := (HSs.out.below (HB.out.mono HBB.out)).at_ hx
      subst ha
      have hok := hRL.ok
      obtain ⟨⟨xh, xlo, xi, xp, xs, xo, xt, xd, xe, xa⟩, xA, xc⟩ := x
      obtain ⟨mm, hmm2⟩ : ∃ mm, mm = xa.length := ⟨_, rfl⟩
      have c0 : wr.cell? (a.add (k * 10)) = some (.int .u64 xh) := hc 0 _ rfl
      have c1 : wr.cell? (⟨(a.add (k * 10)).block, (a.add (k * 10)).off + 1, none⟩) = some (.int .u64 xlo) := cell_far (hc 1 _ rfl) (by omega)
      have c2 : wr.cell? (⟨(a.add (k * 10)).block, (a.add (k * 10)).off + 2, none⟩) = some (.int .u64 xi) := cell_far (hc 2 _ rfl) (by omega)
      have c3 : wr.cell? (⟨(a.add (k * 10)).block, (a.add (k * 10)).off + 3, none⟩) = some (.int .u64 xp) := cell_far (hc 3 _ rfl) (by omega)
      have c4 : wr.cell? (⟨(a.add (k * 10)).block, (a.add (k * 10)).off + 4, none⟩) = some (.string xs) := cell_far (hc 4 _ rfl) (by omega)
      have c5 : wr.cell? (⟨(a.add (k * 10)).block, (a.add (k * 10)).off + 5, none⟩) = some (.string xo) := cell_far (hc 5 _ rfl) (by omega)
      have c6 : wr.cell? (⟨(a.add (k * 10)).block, (a.add (k * 10)).off + 6, none⟩) = some (.int .i64 xt) := cell_far (hc 6 _ rfl) (by omega)
      have c7 : wr.cell? (⟨(a.add (k * 10)).block, (a.add (k * 10)).off + 7, none⟩) = some (.int .i64 xd) := cell_far (hc 7 _ rfl) (by omega)
      have c8 : wr.cell? (⟨(a.add (k * 10)).block, (a.add (k * 10)).off + 8, none⟩) = some (.bool xe) := cell_far (hc 8 _ rfl) (by omega)
      have c9 : wr.cell? (⟨(a.add (k * 10)).block, (a.add (k * 10)).off + 9, none⟩) = some (.slice xA mm xc) := by rw [hmm2]; exact cell_far (hc 9 _ rfl) (by omega)
      have hid := hok.id
      simp only at hid
      clear hc hx hok hRL hab hmm2 hlt
      go_upto_region 6 with fail
      have hq5 := heap_alloc_new wr (.cells #[.int .u64 xh, .int .u64 xlo, .int .u64 xi, .int .u64 xp, .string xs, .string xo, .int .i64 xt, .int .i64 xd, .bool xe, .slice xA mm xc] 34)
      have HB5 := Lib.hid (HB.out.alloc hws (.cells #[.int .u64 xh, .int .u64 xlo, .int .u64 xi, .int .u64 xp, .string xs, .string xo, .int .i64 xt, .int .i64 xd, .bool xe, .slice xA mm xc] 34))
      have HM15 := Lib.hid (HM1.out.block (Below.heap_alloc wr (.cells #[.int .u64 xh, .int .u64 xlo, .int .u64 xi, .int .u64 xp, .string xs, .string xo, .int .i64 xt, .int .i64 xd, .bool xe, .slice xA mm xc] 34) _ HM1.out.lt))
      have HM25 := Lib.hid (HM2.out.block (Below.heap_alloc wr (.cells #[.int .u64 xh, .int .u64 xlo, .int .u64 xi, .int .u64 xp, .string xs, .string xo, .int .i64 xt, .int .i64 xd, .bool xe, .slice xA mm xc] 34) _ HM2.out.lt))
      have hs5 : (wr.alloc (.cells #[.int .u64 xh, .int .u64 xlo, .int .u64 xi, .int .u64 xp, .string xs, .string xo, .int .i64 xt, .int .i64 xd, .bool xe, .slice xA mm xc] 34)).heap.size = wr.heap.size + 1 := by simp
      clear c0 c1 c2 c3 c4 c5 c6 c7 c8 c9
      have d1 : (wr.alloc (.cells #[.int .u64 xh, .int .u64 xlo, .int .u64 xi, .int .u64 xp, .string xs, .string xo, .int .i64 xt, .int .i64 xd, .bool xe, .slice xA mm xc] 34)).cell? ⟨wr.heap.size, 2, none⟩ = some (.int .u64 xi) := cell_of_row _ _ 2 _ _ (0, 0) hq5
      have d2 : (wr.alloc (.cells #[.int .u64 xh, .int .u64 xlo, .int .u64 xi, .int .u64 xp, .string xs, .string xo, .int .i64 xt, .int .i64 xd, .bool xe, .slice xA mm xc] 34)).cell? ⟨wr.heap.size, 3, none⟩ = some (.int .u64 xp) := cell_of_row _ _ 3 _ _ (0, 0) hq5
      have hgx : g1 < wr.heap.size := HM1.out.lt
      have hgy : g2 < wr.heap.size := HM2.out.lt
      generalize wr.alloc (.cells #[.int .u64 xh, .int .u64 xlo, .int .u64 xi, .int .u64 xp, .string xs, .string xo, .int .i64 xt, .int .i64 xd, .bool xe, .slice xA mm xc] 34) = w5 at *
      generalize wr.heap.size = gx at *
      clear hq5 HB HM1 HM2
      have hk6 : (k : Int) < 1000000 := by omega
      have HGG := Lib.hid (And.intro hgx hgy)
      obtain ⟨t0, ht0⟩ : ∃ t0 : Nat, (fmap l 0 k xi).getD 0 = t0 := ⟨_, rfl⟩
      obtain ⟨t1, ht1⟩ : ∃ t1 : Nat, (fmap l 1 k xi).getD 0 = t1 := ⟨_, rfl⟩
      have HT0 := Lib.hid (show (((fmap l 0 k xi).getD 0 : Nat) : Int) = (t0 : Int) from by rw [ht0])
      have HT1 := Lib.hid (show (((fmap l 1 k xi).getD 0 : Nat) : Int) = (t1 : Int) from by rw [ht1])
      clear ht0 ht1
      cases h0 : (fmap l 0 k xi).isSome
      · have HF := Lib.hid (fmap_step0 HX.out h0)
        have H0 := Lib.hid h0
        clear h0
        have P6 : ∀ w6, MapU w6 g1 (n1 + 1) (fun u => if u = xi then some k else fmap l 0 k u) → w5.grownBy w6 (some g1) → Hid (MapU w6 g1 (n1 + 1) (fmap l 0 (k + 1))) ∧ Hid (MapU w6 g2 n2 (fmap l 1 (k + 1))) ∧ Hid (Below g1 w w6) := fun w6 hm6 hgr6 =>
          ⟨Lib.hid (hm6.congr HF.out.1), Lib.hid ((HM25.out.block (hgr6.block g2 (by have := HGG.out; omega) (fun e => by injection e with e; have := HG.out; omega))).congr HF.out.2), Lib.hid (HB5.out.grown hgr6 (by omega) (fun r hr => by injection hr with hr; omega))⟩
        go_wp2_with (first
          | (at_lookup; (refine wpList_mapu HM15.out hid H0.out HT0.out rfl (.tmp 26) (.tmp 28) rfl rfl rfl ?_))
          | (at_mapUpdate; (refine wpList_mapu_put HM15.out hid (by omega) (show k ≤ 2000000 by omega) rfl (.tmp 34) (.tmp 36) (.tmp 37) (by rfl) (by rfl) (by rfl) (by rfl) ?_); intro w6 hm6 hgr6; obtain ⟨HM6, HM26, HB6⟩ := P6 w6 hm6 hgr6; clear hm6 hgr6))
        go_roundw
        case rel => exact ⟨k + 1, n1 + 1, n2, by go_num, HLT.out, by omega, by omega, HM6, HM26, HB6⟩
        case measure => have := HLT.out; simp [intOf]; omega
      · cases h1 : (fmap l 1 k xi).isSome
        · have HF := Lib.hid (fmap_step1 HX.out h0 h1)
          have H0 := Lib.hid h0
          have H1 := Lib.hid h1
          clear h0 h1
          have P6 : ∀ w6, MapU w6 g2 (n2 + 1) (fun u => if u = xi then some k else fmap l 1 k u) → w5.grownBy w6 (some g2) → Hid (MapU w6 g2 (n2 + 1) (fmap l 1 (k + 1))) ∧ Hid (MapU w6 g1 n1 (fmap l 0 (k + 1))) ∧ Hid (Below g1 w w6) := fun w6 hm6 hgr6 =>
            ⟨Lib.hid (hm6.congr HF.out.2), Lib.hid ((HM15.out.block (hgr6.block g1 (by have := HGG.out; omega) (fun e => by injection e with e; have := HG.out; omega))).congr HF.out.1), Lib.hid (HB5.out.grown hgr6 (by omega) (fun r hr => by injection hr with hr; have := HG.out; omega))⟩
          go_wp2_with (first
            | (at_lookup; (refine wpList_mapu HM15.out hid H0.out HT0.out rfl (.tmp 26) (.tmp 28) rfl rfl rfl ?_))
            | (at_lookup; (refine wpList_mapu HM25.out hid H1.out HT1.out rfl (.tmp 39) (.tmp 41) rfl rfl rfl ?_))
            | (at_mapUpdate; (refine wpList_mapu_put HM25.out hid (by omega) (show k ≤ 2000000 by omega) rfl (.tmp 47) (.tmp 49) (.tmp 50) (by rfl) (by rfl) (by rfl) (by rfl) ?_); intro w6 hm6 hgr6; obtain ⟨HM6, HM16, HB6⟩ := P6 w6 hm6 hgr6; clear hm6 hgr6))
          go_roundw
          case rel => exact ⟨k + 1, n1, n2 + 1, by go_num, HLT.out, by omega, by omega, HM16, HM6, HB6⟩
          case measure => have := HLT.out; simp [intOf]; omega
        · have HF := Lib.hid (fmap_step2 HX.out h1)
          have H0 := Lib.hid h0
          have H1 := Lib.hid h1
          clear h0 h1
          go_wp2_with (first
            | (at_lookup; (refine wpList_mapu HM15.out hid H0.out HT0.out rfl (.tmp 26) (.tmp 28) rfl rfl rfl ?_))
            | (at_lookup; (refine wpList_mapu HM25.out hid H1.out HT1.out rfl (.tmp 39) (.tmp 41) rfl rfl rfl ?_)))
          go_roundw
          case rel => exact ⟨k + 1, n1, n2, by go_num, HLT.out, by omega, by omega, Lib.hid (HM15.out.congr HF.out.1), Lib.hid (HM25.out.congr HF.out.2), HB5⟩
          case measure => have := HLT.out; simp [intOf]; omega
    · obtain rfl : k = n := by omega
      obtain ⟨W5, hrun, hown, hbl, hsz⟩ := make_intN k hsm wr
      have hg1 := HM1.out.lt
      have hg2 := HM2.out.lt
      have HOW := Lib.hid (own_mono hown (base' := g1) (by omega))
      have HB5 := Lib.hid (HB.out.trans (hbl.mono hws))
      have HM15 := Lib.hid (HM1.out.block (hbl.block _ hg1))
      have HM25 := Lib.hid (HM2.out.block (hbl.block _ hg2))
      clear hown hbl hsz hlt hk hg1 hg2 hws
      go_upto_region 15 with fail
      generalize hgh : wr.heap.size = gh at *
      clear hrun hgh HM1 HM2 HB
      go_loopw [57] (fun i wq => ∃ (q : Nat) (R : List Int), i = .int .i64 (q : Int) ∧ q ≤ k ∧ Hid (∀ r, r < q → R[r]? = (namedM l)[r]?) ∧ Hid (wq.ownsRow g1 3 1 (.slice (some ⟨gh, 0, none⟩) k k) k (R.map encZ)) ∧ Hid (MapU wq g1 n1 (fmap l 0 k)) ∧ Hid (MapU wq g2 n2 (fmap l 1 k)) ∧ Hid (Below g1 w wq)) (fun i _ => k - (intOf i).toNat)
      case atStart => exact ⟨0, _, rfl, Nat.zero_le _, Lib.hid (fun r hr => by omega), HOW, HM15, HM25, HB5⟩
      clear HOW HM15 HM25 HB5
      case round =>
        obtain ⟨q, R, rfl, hq, HRQ, HRO, HM1, HM2, HB⟩ := hrel
        have hws := HB.out.size
        rw [← HG.out.1] at hws
        by_cases hlt : q < k
        · have HLT := Lib.hid hlt
          have i1 : (q : Int) < (k : Int) := by omega
          have i0 : (0 : Int) ≤ (q : Int) := by omega
          obtain ⟨x, hx⟩ : ∃ x, l[q]? = some x := ⟨_, List.getElem?_eq_getElem (by rw [← HN.out]; exact hlt)⟩
          have HX := Lib.hid hx
          obtain ⟨a, ha, hab, hc, hRL⟩ := (HSs.out.below (HB.out.mono HBB.out)).at_ hx
          subst ha
          have hok := hRL.ok
          obtain ⟨⟨xh, xlo, xi, xp, xs, xo, xt, xd, xe, xa⟩, xA, xc⟩ := x
          obtain ⟨mm, hmm2⟩ : ∃ mm, mm = xa.length := ⟨_, rfl⟩
          have c0 : wr.cell? (a.add (q * 10)) = some (.int .u64 xh) := hc 0 _ rfl
          have c1 : wr.cell? (⟨(a.add (q * 10)).block, (a.add (q * 10)).off + 1, none⟩) = some (.int .u64 xlo) := cell_far (hc 1 _ rfl) (by omega)
          have c2 : wr.cell? (⟨(a.add (q * 10)).block, (a.add (q * 10)).off + 2, none⟩) = some (.int .u64 xi) := cell_far (hc 2 _ rfl) (by omega)
          have c3 : wr.cell? (⟨(a.add (q * 10)).block, (a.add (q * 10)).off + 3, none⟩) = some (.int .u64 xp) := cell_far (hc 3 _ rfl) (by omega)
          have c4 : wr.cell? (⟨(a.add (q * 10)).block, (a.add (q * 10)).off + 4, none⟩) = some (.string xs) := cell_far (hc 4 _ rfl) (by omega)
          have c5 : wr.cell? (⟨(a.add (q * 10)).block, (a.add (q * 10)).off + 5, none⟩) = some (.string xo) := cell_far (hc 5 _ rfl) (by omega)
          have c6 : wr.cell? (⟨(a.add (q * 10)).block, (a.add (q * 10)).off + 6, none⟩) = some (.int .i64 xt) := cell_far (hc 6 _ rfl) (by omega)
          have c7 : wr.cell? (⟨(a.add (q * 10)).block, (a.add (q * 10)).off + 7, none⟩) = some (.int .i64 xd) := cell_far (hc 7 _ rfl) (by omega)
          have c8 : wr.cell? (⟨(a.add (q * 10)).block, (a.add (q * 10)).off + 8, none⟩) = some (.bool xe) := cell_far (hc 8 _ rfl) (by omega)
          have c9 : wr.cell? (⟨(a.add (q * 10)).block, (a.add (q * 10)).off + 9, none⟩) = some (.slice xA mm xc) := by rw [hmm2]; exact cell_far (hc 9 _ rfl) (by omega)
          have hid := hok.pa
          simp only at hid
          clear hc hok hRL hab hmm2 hlt
          obtain ⟨z, hz⟩ : ∃ z, R[q]? = some z := ⟨_, List.getElem?_eq_getElem (by have := HRO.out.1; rw [List.length_map] at this; omega)⟩
          have HZ := Lib.hid hz
          have hNM : (namedM l)[q]? = some (plO (if fmap l 0 k xp = some q then fmap l 1 k xp else fmap l 0 k xp)) := by
            rw [namedM_at hx]
            unfold namedO fmap
            rw [HN.out, idT_all]
          have HNM := Lib.hid hNM
          clear hx hz hNM
          go_upto_region 17 with fail
          have hq5 := heap_alloc_new wr (.cells #[.int .u64 xh, .int .u64 xlo, .int .u64 xi, .int .u64 xp, .string xs, .string xo, .int .i64 xt, .int .i64 xd, .bool xe, .slice xA mm xc] 34)
          have HB5 := Lib.hid (HB.out.alloc hws (.cells #[.int .u64 xh, .int .u64 xlo, .int .u64 xi, .int .u64 xp, .string xs, .string xo, .int .i64 xt, .int .i64 xd, .bool xe, .slice xA mm xc] 34))
          have HM15 := Lib.hid (HM1.out.block (Below.heap_alloc wr (.cells #[.int .u64 xh, .int .u64 xlo, .int .u64 xi, .int .u64 xp, .string xs, .string xo, .int .i64 xt, .int .i64 xd, .bool xe, .slice xA mm xc] 34) _ HM1.out.lt))
          have HM25 := Lib.hid (HM2.out.block (Below.heap_alloc wr (.cells #[.int .u64 xh, .int .u64 xlo, .int .u64 xi, .int .u64 xp, .string xs, .string xo, .int .i64 xt, .int .i64 xd, .bool xe, .slice xA mm xc] 34) _ HM2.out.lt))
          have hs5 : (wr.alloc (.cells #[.int .u64 xh, .int .u64 xlo, .int .u64 xi, .int .u64 xp, .string xs, .string xo, .int .i64 xt, .int .i64 xd, .bool xe, .slice xA mm xc] 34)).heap.size = wr.heap.size + 1 := by simp
          clear c0 c1 c2 c3 c4 c5 c6 c7 c8 c9
          have d1 : (wr.alloc (.cells #[.int .u64 xh, .int .u64 xlo, .int .u64 xi, .int .u64 xp, .string xs, .string xo, .int .i64 xt, .int .i64 xd, .bool xe, .slice xA mm xc] 34)).cell? ⟨wr.heap.size, 2, none⟩ = some (.int .u64 xi) := cell_of_row _ _ 2 _ _ (0, 0) hq5
          have d2 : (wr.alloc (.cells #[.int .u64 xh, .int .u64 xlo, .int .u64 xi, .int .u64 xp, .string xs, .string xo, .int .i64 xt, .int .i64 xd, .bool xe, .slice xA mm xc] 34)).cell? ⟨wr.heap.size, 3, none⟩ = some (.int .u64 xp) := cell_of_row _ _ 3 _ _ (0, 0) hq5
          have hRO5 := own_below HRO.out ((Below.refl wr.heap.size wr).alloc (Nat.le_refl _) (.cells #[.int .u64 xh, .int .u64 xlo, .int .u64 xi, .int .u64 xp, .string xs, .string xo, .int .i64 xt, .int .i64 xd, .bool xe, .slice xA mm xc] 34))
          have hgx : g1 < wr.heap.size := HM1.out.lt
          have hgy : g2 < wr.heap.size := HM2.out.lt
          generalize wr.alloc (.cells #[.int .u64 xh, .int .u64 xlo, .int .u64 xi, .int .u64 xp, .string xs, .string xo, .int .i64 xt, .int .i64 xd, .bool xe, .slice xA mm xc] 34) = w5 at *
          generalize wr.heap.size = gx at *
          clear hq5 HB HM1 HM2 HRO
          have hk6 : (k : Int) < 1000000 := by omega
          have HRO5 := Lib.hid hRO5
          have HGG := Lib.hid (And.intro hgx hgy)
          have PS : ∀ v : Int, w5.frozen? ⟨gh, q, none⟩ = false ∧ w5.cell? ⟨gh, q, none⟩ = some (.int .i64 z) ∧ Hid ((w5.setCell ⟨gh, q, none⟩ (.int .i64 v)).ownsRow g1 3 1 (.slice (some ⟨gh, 0, none⟩) k k) k ((R.set q v).map encZ)) ∧ Hid (MapU (w5.setCell ⟨gh, q, none⟩ (.int .i64 v)) g1 n1 (fmap l 0 k)) ∧ Hid (MapU (w5.setCell ⟨gh, q, none⟩ (.int .i64 v)) g2 n2 (fmap l 1 k)) ∧ Hid (Below g1 w (w5.setCell ⟨gh, q, none⟩ (.int .i64 v))) := fun v => by
            obtain ⟨h1, h2, h3, h4⟩ := own_set HRO5.out HLT.out (.int .i64 v)
            refine ⟨h1, by rw [h2, List.getElem?_map, HZ.out]; rfl, Lib.hid (by rw [List.map_set]; exact h3), Lib.hid (HM15.out.block (h4.grown.block g1 (by omega) (fun e => (HM15.out.not_own HRO5.out) e.symm))), Lib.hid (HM25.out.block (h4.grown.block g2 (by omega) (fun e => (HM25.out.not_own HRO5.out) e.symm))), Lib.hid (h4.below HB5.out (by omega) (own_block_ge HRO5.out))⟩
          have PN : ∀ v : Int, (namedM l)[q]? = some v → ∀ r, r < q + 1 → (R.set q v)[r]? = (namedM l)[r]? := fun v hv r hr => by
            by_cases e : r = q
            · subst e; rw [List.getElem?_set_self (by exact (List.getElem?_eq_some_iff.1 HZ.out).1), hv]
            · rw [List.getElem?_set_ne (fun h => e h.symm)]; exact HRQ.out r (by omega)
          have HPN := Lib.hid PN
          clear PN hRO5
          cases hm0 : fmap l 0 k xp with
          | none =>
            have HV := Lib.hid (HPN.out (-1) (by rw [HNM.out]; rw [hm0, if_neg (by simp)]; rfl))
            have H0 := Lib.hid (show (fmap l 0 k xp).isSome = false from by rw [hm0]; rfl)
            have HT0 := Lib.hid (show (((fmap l 0 k xp).getD 0 : Nat) : Int) = ((0 : Nat) : Int) from by rw [hm0]; rfl)
            obtain ⟨s1, s2, HS3, HS4, HS5, HS6⟩ := PS (-1)
            clear PS
            clear hm0
            go_wp2_with (at_lookup; (refine wpList_mapu HM15.out hid H0.out HT0.out rfl (.tmp 63) (.tmp 65) (by rfl) (by rfl) (by rfl) ?_))
            go_roundw
            case rel => exact ⟨q + 1, R.set q (-1), by go_num, HLT.out, HV, HS3, HS4, HS5, HS6⟩
            case measure => have := HLT.out; simp [intOf]; omega
          | some j =>
            by_cases hjq : j = q
            · subst hjq
              cases hm1 : fmap l 1 k xp with
              | none =>
                have HV := Lib.hid (HPN.out (-1) (by rw [HNM.out]; rw [hm0, if_pos rfl, hm1]; rfl))
                have H0 := Lib.hid (show (fmap l 0 k xp).isSome = true from by rw [hm0]; rfl)
                have HT0 := Lib.hid (show (((fmap l 0 k xp).getD 0 : Nat) : Int) = ((j : Nat) : Int) from by rw [hm0]; rfl)
                obtain ⟨s1, s2, HS3, HS4, HS5, HS6⟩ := PS (-1)
                clear PS
                have H1 := Lib.hid (show (fmap l 1 k xp).isSome = false from by rw [hm1]; rfl)
                have HT1 := Lib.hid (show (((fmap l 1 k xp).getD 0 : Nat) : Int) = ((0 : Nat) : Int) from by rw [hm1]; rfl)
                clear hm1
                clear hm0
                go_wp2_with (first | (at_lookup; (refine wpList_mapu HM15.out hid H0.out HT0.out rfl (.tmp 63) (.tmp 65) (by rfl) (by rfl) (by rfl) ?_)) | (at_lookup; (refine wpList_mapu HM25.out hid H1.out HT1.out rfl (.tmp 76) (.tmp 78) (by rfl) (by rfl) (by rfl) ?_)))
                go_roundw
                case rel => exact ⟨j + 1, R.set j (-1), by go_num, HLT.out, HV, HS3, HS4, HS5, HS6⟩
                case measure => have := HLT.out; simp [intOf]; omega
              | some j2 =>
                have HV := Lib.hid (HPN.out ((j2 : Int)) (by rw [HNM.out]; rw [hm0, if_pos rfl, hm1]; rfl))
                have H0 := Lib.hid (show (fmap l 0 k xp).isSome = true from by rw [hm0]; rfl)
                have HT0 := Lib.hid (show (((fmap l 0 k xp).getD 0 : Nat) : Int) = ((j : Nat) : Int) from by rw [hm0]; rfl)
                obtain ⟨s1, s2, HS3, HS4, HS5, HS6⟩ := PS ((j2 : Int))
                clear PS
                have H1 := Lib.hid (show (fmap l 1 k xp).isSome = true from by rw [hm1]; rfl)
                have HT1 := Lib.hid (show (((fmap l 1 k xp).getD 0 : Nat) : Int) = ((j2 : Nat) : Int) from by rw [hm1]; rfl)
                clear hm1
                clear hm0
                go_wp2_with (first | (at_lookup; (refine wpList_mapu HM15.out hid H0.out HT0.out rfl (.tmp 63) (.tmp 65) (by rfl) (by rfl) (by rfl) ?_)) | (at_lookup; (refine wpList_mapu HM25.out hid H1.out HT1.out rfl (.tmp 76) (.tmp 78) (by rfl) (by rfl) (by rfl) ?_)))
                go_roundw
                case rel => exact ⟨j + 1, R.set j ((j2 : Int)), by go_num, HLT.out, HV, HS3, HS4, HS5, HS6⟩
                case measure => have := HLT.out; simp [intOf]; omega
            · have b1 : ((j : Int) == (q : Int)) = false := beq_eq_false_iff_ne.2 (by omega)
              have b2 : (j == q) = false := beq_eq_false_iff_ne.2 hjq
              have HV := Lib.hid (HPN.out ((j : Int)) (by rw [HNM.out]; rw [hm0, if_neg (by simpa using hjq)]; rfl))
              have H0 := Lib.hid (show (fmap l 0 k xp).isSome = true from by rw [hm0]; rfl)
              have HT0 := Lib.hid (show (((fmap l 0 k xp).getD 0 : Nat) : Int) = ((j : Nat) : Int) from by rw [hm0]; rfl)
              obtain ⟨s1, s2, HS3, HS4, HS5, HS6⟩ := PS ((j : Int))
              clear PS
              clear hm0
              go_wp2_with (at_lookup; (refine wpList_mapu HM15.out hid H0.out HT0.out rfl (.tmp 63) (.tmp 65) (by rfl) (by rfl) (by rfl) ?_))
              go_roundw
              case rel => exact ⟨q + 1, R.set q ((j : Int)), by go_num, HLT.out, HV, HS3, HS4, HS5, HS6⟩
              case measure => have := HLT.out; simp [intOf]; omega
        · obtain rfl : q = k := by omega
          go_wp2_with fail
          go_ret
          have hR : R = namedM l := by
            apply List.ext_getElem?
            intro r
            by_cases hr : r < q
            · exact HRQ.out r hr
            · have h1 := HRO.out.1
              rw [List.length_map] at h1
              have h2 := namedM_len l
              have h3 := HN.out
              rw [List.getElem?_eq_none (by omega), List.getElem?_eq_none (by omega)]
          exact ⟨gh, rfl, by rw [← hR, ← HG.out.1]; exact HRO.out, by rw [← HG.out.1]; exact HB.out⟩
end Go.Proofs.Ytgldjjmpjaegfaa

/- tree.Parents, plainly: rings, and what the walks hold. -/
namespace Go.Proofs.Ytgldjjmpjaegfaa.Sy
set_option linter.unusedVariables false
set_option linter.unusedSimpArgs false

/-- k steps on. -/
def it (f : Nat → Option Nat) : Nat → Nat → Option Nat
  | 0, v => some v
  | k + 1, v => (it f k v).bind f
theorem it_add (f : Nat → Option Nat) (a b v : Nat) : it f (a + b) v = (it f a v).bind (it f b) := by
  induction b with
  | zero => cases h : it f a v with
    | none => rfl
    | some u => rfl
  | succ b ih =>
    rw [← Nat.add_assoc]
    show (it f (a + b) v).bind f = _
    rw [ih]
    cases it f a v with
    | none => rfl
    | some u => rfl
theorem it_less {f : Nat → Option Nat} {a b v u : Nat} (h : it f b v = some u) (hab : a ≤ b) : ∃ x, it f a v = some x := by
  cases hx : it f a v with
  | some x => exact ⟨x, rfl⟩
  | none =>
    rw [show b = a + (b - a) by omega, it_add, hx] at h
    cases h
/-- Who comes to itself again. -/
def OnRing (f : Nat → Option Nat) (v : Nat) : Prop := ∃ m, 0 < m ∧ it f m v = some v
/-- The least of a ring. -/
def LR (f : Nat → Option Nat) (v : Nat) : Prop := OnRing f v ∧ ∀ k u, it f k v = some u → v ≤ u
theorem ring_mul {f : Nat → Option Nat} {v m : Nat} (h : it f m v = some v) (q : Nat) : it f (m * q) v = some v := by
  induction q with
  | zero => rfl
  | succ q ih => rw [Nat.mul_succ, it_add, ih]; exact h
/-- On a ring one never comes to an end. -/
theorem ring_some {f : Nat → Option Nat} {v : Nat} (h : OnRing f v) (k : Nat) : ∃ u, it f k v = some u := by
  obtain ⟨m, hm, h1⟩ := h
  refine it_less (ring_mul h1 k) ?_
  exact Nat.le_mul_of_pos_left k hm
/-- Whom one comes to on a ring comes back. -/
theorem ring_back {f : Nat → Option Nat} {v u k : Nat} (h : OnRing f v) (hk : it f k v = some u) : (∃ j, it f j u = some v) ∧ OnRing f u := by
  obtain ⟨m, hm, h1⟩ := h
  have hle : k ≤ m * (k + 1) := by rw [Nat.mul_succ]; have := Nat.le_mul_of_pos_left k hm; omega
  have h2 := ring_mul h1 (k + 1)
  rw [show m * (k + 1) = k + (m * (k + 1) - k) by omega, it_add, hk] at h2
  have h3 : it f (m * (k + 1) - k) u = some v := h2
  refine ⟨⟨_, h3⟩, m * (k + 1) - k + k, ?_, by rw [it_add, h3]; exact hk⟩
  rw [Nat.mul_succ] at hle ⊢
  have := Nat.le_mul_of_pos_left k hm
  omega

/-- The next by a list: -1 is none. -/
def pf (P : List Int) (v : Nat) : Option Nat := match P[v]? with
  | some z => if z = -1 then none else some z.toNat
  | none => none
theorem pf_lt {P : List Int} {v u : Nat} (h : pf P v = some u) : v < P.length := by
  unfold pf at h
  split at h
  · rename_i z hz; exact (List.getElem?_eq_some_iff.1 hz).1
  · cases h
/-- What lies there is what the next one is. -/
def Plain (P : List Int) (n : Nat) : Prop := ∀ (v : Nat) (z : Int), P[v]? = some z → -1 ≤ z ∧ z < (n : Int)
theorem pf_at {P : List Int} {n v : Nat} {z : Int} (hp : Plain P n) (h : P[v]? = some z) : z = plO (pf P v) := by
  unfold pf
  rw [h]
  have := hp v z h
  by_cases e : z = -1
  · simp [e, plO]
  · simp only [e, if_false, plO]; omega
theorem pf_congr {P N : List Int} {v : Nat} (h : P[v]? = N[v]?) : pf P v = pf N v := by unfold pf; rw [h]
structure Inv (N P : List Int) (W : List Nat) (n i : Nat) : Prop where
  lp : P.length = n
  lw : W.length = n
  same : ∀ v : Nat, W[v]? = some 0 → P[v]? = N[v]?
  or : ∀ v : Nat, P[v]? = N[v]? ∨ (P[v]? = some (-1) ∧ LR (pf N) v)
  cl : ∀ v u x : Nat, W[v]? = some x → x ≠ 0 → pf N v = some u → ∃ y, W[u]? = some y ∧ y ≠ 0
  did : ∀ v x : Nat, W[v]? = some x → x ≠ 0 → LR (pf N) v → P[v]? = some (-1)
  le : ∀ v x : Nat, W[v]? = some x → x ≤ i
  all : ∀ v : Nat, v < i → ∃ x, W[v]? = some x ∧ x ≠ 0
theorem Inv.start {N : List Int} {n : Nat} (hN : N.length = n) : Inv N N (List.replicate n 0) n 0 := by
  have h0 : ∀ v x : Nat, (List.replicate n 0)[v]? = some x → x = 0 := fun v x h => by
    obtain ⟨h1, h2⟩ := List.getElem?_eq_some_iff.1 h
    rw [List.getElem_replicate] at h2; exact h2.symm
  exact ⟨hN, List.length_replicate, fun _ _ => rfl, fun _ => .inl rfl, fun v u x h hx => absurd (h0 v x h) hx, fun v x h hx => absurd (h0 v x h) hx, fun v x h => by rw [h0 v x h]; exact Nat.le_refl _, fun v hv => by omega⟩
/-- k steps of the walk from i. -/
structure Wk (N : List Int) (W0 W : List Nat) (n i k : Nat) : Prop where
  lw : W.length = n
  mark : ∀ j, j < k → ∃ v, it (pf N) j i = some v ∧ W0[v]? = some 0 ∧ W[v]? = some (i + 1)
  rest : ∀ v, (∀ j, j < k → it (pf N) j i ≠ some v) → W[v]? = W0[v]?
theorem Wk.start {N : List Int} {W0 : List Nat} {n i : Nat} (h : W0.length = n) : Wk N W0 W0 n i 0 := ⟨h, fun j hj => by omega, fun _ _ => rfl⟩
/-- Whom the walk hasn't marked stands as before it. -/
theorem Wk.fresh {N : List Int} {W0 W : List Nat} {n i k v x : Nat} (h : Wk N W0 W n i k) (hv : W[v]? = some x) (hx : x ≠ i + 1) : (∀ j, j < k → it (pf N) j i ≠ some v) ∧ W0[v]? = some x := by
  have h1 : ∀ j, j < k → it (pf N) j i ≠ some v := fun j hj he => by
    obtain ⟨u, hu, _, h3⟩ := h.mark j hj
    rw [he] at hu
    injection hu with hu
    subst hu
    rw [hv] at h3
    injection h3 with h3
    exact hx h3
  exact ⟨h1, by rw [← h.rest v h1]; exact hv⟩
theorem Wk.next {N : List Int} {W0 W : List Nat} {n i k v : Nat} (h : Wk N W0 W n i k) (hv : it (pf N) k i = some v) (h0 : W[v]? = some 0) : Wk N W0 (W.set v (i + 1)) n i (k + 1) := by
  obtain ⟨f1, f2⟩ := h.fresh h0 (by omega)
  have hlt := (List.getElem?_eq_some_iff.1 h0).1
  refine ⟨by rw [List.length_set]; exact h.lw, fun j hj => ?_, fun u hu => ?_⟩
  · by_cases e : j = k
    · subst e; exact ⟨v, hv, f2, by rw [List.getElem?_set_self hlt]⟩
    · obtain ⟨u, h1, h2, h3⟩ := h.mark j (by omega)
      have hne : v ≠ u := fun e => f1 j (by omega) (by rw [e]; exact h1)
      exact ⟨u, h1, h2, by rw [List.getElem?_set_ne hne]; exact h3⟩
  · have hne : v ≠ u := fun e => hu k (by omega) (by rw [← e]; exact hv)
    rw [List.getElem?_set_ne hne]
    exact h.rest u fun j hj => hu j (by omega)
/-- In what the walk marked, or in what was marked ahead of it. -/
theorem Wk.cases {N : List Int} {W0 W : List Nat} {n i k v x : Nat} (h : Wk N W0 W n i k) (hv : W[v]? = some x) (hx : x ≠ 0) : (∃ j, j < k ∧ it (pf N) j i = some v ∧ W0[v]? = some 0) ∨ W0[v]? = some x := by
  by_cases he : ∃ j, j < k ∧ it (pf N) j i = some v
  · obtain ⟨j, hj, hji⟩ := he
    obtain ⟨u, h1, h2, h3⟩ := h.mark j hj
    rw [hji] at h1
    injection h1 with h1
    subst h1
    exact .inl ⟨j, hj, hji, h2⟩
  · exact .inr (by rw [← h.rest v fun j hj e => he ⟨j, hj, e⟩]; exact hv)
theorem Wk.old {N P : List Int} {W0 W : List Nat} {n i k v x : Nat} (I : Inv N P W0 n i) (h : Wk N W0 W n i k) (hv : W0[v]? = some x) (hx : x ≠ 0) : W[v]? = some x := by
  rw [h.rest v fun j hj e => ?_]
  · exact hv
  · obtain ⟨u, h1, h2, h3⟩ := h.mark j hj
    rw [e] at h1
    injection h1 with h1
    subst h1
    rw [hv] at h2
    injection h2 with h2
    exact hx h2
/-- From what is marked one comes only to what is marked. -/
theorem Inv.closed {N P : List Int} {W : List Nat} {n i v x : Nat} (I : Inv N P W n i) (hv : W[v]? = some x) (hx : x ≠ 0) : ∀ k u, it (pf N) k v = some u → ∃ y, W[u]? = some y ∧ y ≠ 0
  | 0, u, h => by injection h with h; subst h; exact ⟨x, hv, hx⟩
  | k + 1, u, h => by
    change (it (pf N) k v).bind (pf N) = some u at h
    cases hk : it (pf N) k v with
    | none => rw [hk] at h; cases h
    | some t =>
      rw [hk] at h
      obtain ⟨y, h1, h2⟩ := I.closed hv hx k t hk
      exact I.cl t u y h1 h2 h
/-- What the walk marked, and what was: behind the walk all that holds but what speaks of rings. -/
theorem Wk.inv {N P P' : List Int} {W0 W : List Nat} {n i k : Nat} (I : Inv N P W0 n i) (h : Wk N W0 W n i k) (hk : 0 < k ∨ ∃ x, W0[i]? = some x ∧ x ≠ 0)
    (hend : ∀ u, it (pf N) k i = some u → ∃ y, W[u]? = some y ∧ y ≠ 0) (hp : P'.length = n) (hsame : ∀ v : Nat, W[v]? = some 0 → P'[v]? = N[v]?) (hor : ∀ v : Nat, P'[v]? = N[v]? ∨ (P'[v]? = some (-1) ∧ LR (pf N) v))
    (hdid : ∀ j v : Nat, j < k → it (pf N) j i = some v → LR (pf N) v → P'[v]? = some (-1)) (hkeep : ∀ v : Nat, P[v]? = some (-1) → P'[v]? = some (-1)) : Inv N P' W n (i + 1) := by
  refine ⟨hp, h.lw, hsame, hor, fun v u x hv hx hu => ?_, fun v x hv hx hl => ?_, fun v x hv => ?_, fun v hv => ?_⟩
  · rcases h.cases hv hx with ⟨j, hj, hji, _⟩ | h0
    · have hu2 : it (pf N) (j + 1) i = some u := by show (it (pf N) j i).bind _ = _; rw [hji]; exact hu
      rcases Nat.lt_or_ge (j + 1) k with h1 | h1
      · obtain ⟨t, t1, _, t3⟩ := h.mark (j + 1) h1
        rw [hu2] at t1
        injection t1 with t1
        subst t1
        exact ⟨_, t3, by omega⟩
      · exact hend u (by rw [show k = j + 1 by omega]; exact hu2)
    · obtain ⟨y, y1, y2⟩ := I.cl v u x h0 hx hu
      exact ⟨y, h.old I y1 y2, y2⟩
  · rcases h.cases hv hx with ⟨j, hj, hji, _⟩ | h0
    · exact hdid j v hj hji hl
    · exact hkeep v (I.did v x h0 hx hl)
  · by_cases hx : x = i + 1
    · omega
    · have := I.le v x (h.fresh hv hx).2; omega
  · rcases Nat.lt_or_ge v i with h1 | h1
    · obtain ⟨x, x1, x2⟩ := I.all v h1
      exact ⟨x, h.old I x1 x2, x2⟩
    · obtain rfl : v = i := by omega
      rcases hk with hk | ⟨x, x1, x2⟩
      · obtain ⟨t, t1, _, t3⟩ := h.mark 0 hk
        injection t1 with t1
        subst t1
        exact ⟨_, t3, by omega⟩
      · exact ⟨x, h.old I x1 x2, x2⟩
theorem Wk.same {N P : List Int} {W0 W : List Nat} {n i k : Nat} (I : Inv N P W0 n i) (h : Wk N W0 W n i k) (v : Nat) (hv : W[v]? = some 0) : P[v]? = N[v]? := I.same v (h.fresh hv (by omega)).2
/-- The walk came to an end. -/
theorem Wk.inv_none {N P : List Int} {W0 W : List Nat} {n i k : Nat} (I : Inv N P W0 n i) (h : Wk N W0 W n i k) (he : it (pf N) k i = none) : Inv N P W n (i + 1) := by
  have hk : 0 < k := by
    rcases Nat.eq_zero_or_pos k with e | e
    · rw [e] at he; cases he
    · exact e
  refine h.inv I (.inl hk) (fun u hu => by rw [he] at hu; cases hu) I.lp (h.same I) I.or (fun j v hj hji hl => ?_) fun v hv => hv
  obtain ⟨u, hu⟩ := ring_some hl.1 (k - j)
  rw [show k = j + (k - j) by omega, it_add, hji] at he
  have : it (pf N) (k - j) v = none := he
  rw [hu] at this; cases this
/-- The walk came to what was marked ahead of it. -/
theorem Wk.inv_old {N P : List Int} {W0 W : List Nat} {n i k v x : Nat} (I : Inv N P W0 n i) (h : Wk N W0 W n i k) (he : it (pf N) k i = some v) (hv : W[v]? = some x) (h0 : x ≠ 0) (hx : x ≠ i + 1) : Inv N P W n (i + 1) := by
  have hv0 := (h.fresh hv hx).2
  refine h.inv I ?_ (fun u hu => by rw [he] at hu; injection hu with hu; subst hu; exact ⟨x, hv, h0⟩) I.lp (h.same I) I.or (fun j u hj hji hl => ?_) fun v hv => hv
  · rcases Nat.eq_zero_or_pos k with e | e
    · rw [e] at he; injection he with he; subst he; exact .inr ⟨x, hv0, h0⟩
    · exact .inl e
  · exfalso
    have h1 : it (pf N) (k - j) u = some v := by
      rw [show k = j + (k - j) by omega, it_add, hji] at he; exact he
    obtain ⟨⟨q, hq⟩, _⟩ := ring_back hl.1 h1
    obtain ⟨y, y1, y2⟩ := I.closed hv0 h0 q u hq
    obtain ⟨t, t1, t2, _⟩ := h.mark j hj
    rw [hji] at t1
    injection t1 with t1
    subst t1
    rw [y1] at t2
    injection t2 with t2
    exact y2 t2
/-- The walk came to its own step: a ring. -/
theorem Wk.ring {N P : List Int} {W0 W : List Nat} {n i k v : Nat} (I : Inv N P W0 n i) (h : Wk N W0 W n i k) (he : it (pf N) k i = some v) (hv : W[v]? = some (i + 1)) : ∃ j, j < k ∧ it (pf N) j i = some v ∧ it (pf N) (k - j) v = some v := by
  rcases h.cases hv (by omega) with ⟨j, hj, hji, _⟩ | h0
  · refine ⟨j, hj, hji, ?_⟩
    rw [show k = j + (k - j) by omega, it_add, hji] at he; exact he
  · have := I.le v _ h0; omega
/-- On the ring of the walk the list stands as it was named. -/
theorem Wk.ring_same {N P : List Int} {W0 W : List Nat} {n i k v : Nat} (I : Inv N P W0 n i) (h : Wk N W0 W n i k) (he : it (pf N) k i = some v) (hv : W[v]? = some (i + 1)) : ∀ q u, it (pf N) q v = some u → (∃ j, j < k ∧ it (pf N) j i = some u) ∧ P[u]? = N[u]? := by
  obtain ⟨j, hj, hji, hr⟩ := h.ring I he hv
  have key : ∀ q u, it (pf N) q v = some u → ∃ j, j < k ∧ it (pf N) j i = some u := by
    intro q
    induction q with
    | zero => intro u hu; injection hu with hu; subst hu; exact ⟨j, hj, hji⟩
    | succ q ih =>
      intro u hu
      change (it (pf N) q v).bind (pf N) = some u at hu
      cases ht : it (pf N) q v with
      | none => rw [ht] at hu; cases hu
      | some t =>
        rw [ht] at hu
        obtain ⟨a, ha, hai⟩ := ih t ht
        have h2 : it (pf N) (a + 1) i = some u := by show (it (pf N) a i).bind _ = _; rw [hai]; exact hu
        rcases Nat.lt_or_ge (a + 1) k with h1 | h1
        · exact ⟨a + 1, h1, h2⟩
        · rw [show a + 1 = k by omega, he] at h2
          injection h2 with h2
          subst h2
          exact ⟨j, hj, hji⟩
  intro q u hu
  obtain ⟨a, ha, hai⟩ := key q u hu
  obtain ⟨t, t1, t2, _⟩ := h.mark a ha
  rw [hai] at t1
  injection t1 with t1
  subst t1
  exact ⟨⟨a, ha, hai⟩, I.same _ t2⟩
theorem Wk.inv_ring {N P : List Int} {W0 W : List Nat} {n i k v r q : Nat} (I : Inv N P W0 n i) (h : Wk N W0 W n i k) (he : it (pf N) k i = some v) (hv : W[v]? = some (i + 1)) (hr : it (pf N) q v = some r) (hle : ∀ a u, it (pf N) a v = some u → r ≤ u) : Inv N (P.set r (-1)) W n (i + 1) := by
  obtain ⟨j, hj, hji, hring⟩ := h.ring I he hv
  have hvR : OnRing (pf N) v := ⟨k - j, by omega, hring⟩
  obtain ⟨⟨b, hb⟩, hrR⟩ := ring_back hvR hr
  have hLR : LR (pf N) r := ⟨hrR, fun a u hu => hle (q + a) u (by rw [it_add, hr]; exact hu)⟩
  obtain ⟨⟨a, ha, hai⟩, hPr⟩ := h.ring_same I he hv q r hr
  obtain ⟨t, t1, t2, t3⟩ := h.mark a ha
  rw [hai] at t1
  injection t1 with t1
  subst t1
  have hrlt : r < P.length := by rw [I.lp, ← I.lw]; exact (List.getElem?_eq_some_iff.1 t2).1
  refine h.inv I (.inl (by omega)) (fun u hu => by rw [he] at hu; injection hu with hu; subst hu; exact ⟨_, hv, by omega⟩) (by rw [List.length_set]; exact I.lp) (fun u hu => ?_) (fun u => ?_) (fun a u ha2 hau hl => ?_) fun u hu => ?_
  · have hne : r ≠ u := fun e => by rw [← e, t3] at hu; injection hu with hu; omega
    rw [List.getElem?_set_ne hne]; exact h.same I u hu
  · by_cases e : r = u
    · subst e; exact .inr ⟨List.getElem?_set_self hrlt, hLR⟩
    · rw [List.getElem?_set_ne e]; exact I.or u
  · have h1 : it (pf N) (k - a) u = some v := by
      have he2 := he
      rw [show k = a + (k - a) by omega, it_add, hau] at he2; exact he2
    have h2 : u ≤ r := hl.2 (k - a + q) r (by rw [it_add, h1]; exact hr)
    obtain ⟨⟨c, hc⟩, _⟩ := ring_back hl.1 h1
    have h3 := hle c u hc
    obtain rfl : u = r := by omega
    exact List.getElem?_set_self hrlt
  · by_cases e : r = u
    · subst e; exact List.getElem?_set_self hrlt
    · rw [List.getElem?_set_ne e]; exact hu
/-- Of each ring the least has no parent. -/
def ParOf (N P : List Int) : Prop := P.length = N.length ∧ ∀ v : Nat, (LR (pf N) v → P[v]? = some (-1)) ∧ (¬ LR (pf N) v → P[v]? = N[v]?)
theorem Inv.fin {N P : List Int} {W : List Nat} {n : Nat} (hN : N.length = n) (I : Inv N P W n n) : ParOf N P := by
  refine ⟨by rw [I.lp, hN], fun v => ⟨fun hl => ?_, fun hl => ?_⟩⟩
  · obtain ⟨m, hm, h1⟩ := hl.1
    have hv : v < n := by
      obtain ⟨u, hu⟩ := it_less (a := 1) h1 hm
      have : pf N v = some u := hu
      rw [← hN]; exact pf_lt this
    obtain ⟨x, x1, x2⟩ := I.all v hv
    exact I.did v x x1 x2 hl
  · rcases I.or v with h | ⟨_, h⟩
    · exact h
    · exact absurd h hl
/-- Who is on a ring comes to itself a first time. -/
theorem first_back {f : Nat → Option Nat} {v : Nat} (h : OnRing f v) : ∃ m, 0 < m ∧ it f m v = some v ∧ ∀ k, 0 < k → k < m → it f k v ≠ some v := by
  obtain ⟨m, hm, h1⟩ := h
  induction m using Nat.strongRecOn with
  | _ m ih =>
    by_cases he : ∃ k, 0 < k ∧ k < m ∧ it f k v = some v
    · obtain ⟨k, k1, k2, k3⟩ := he
      exact ih k k2 k1 k3
    · exact ⟨m, hm, h1, fun k k1 k2 k3 => he ⟨k, k1, k2, k3⟩⟩
/-- The least of the first k + 1 ones. -/
def lst (f : Nat → Option Nat) (v : Nat) : Nat → Nat
  | 0 => v
  | k + 1 => min (lst f v k) ((it f (k + 1) v).getD v)
theorem lst_is {f : Nat → Option Nat} {v : Nat} (h : OnRing f v) : ∀ k, (∃ q, it f q v = some (lst f v k)) ∧ ∀ j u, j ≤ k → it f j v = some u → lst f v k ≤ u
  | 0 => ⟨⟨0, rfl⟩, fun j u hj hu => by
      obtain rfl : j = 0 := (by omega)
      injection hu with hu
      subst hu
      exact Nat.le_refl _⟩
  | k + 1 => by
    obtain ⟨⟨q, hq⟩, h2⟩ := lst_is h k
    obtain ⟨y, hy⟩ := ring_some h (k + 1)
    have e : lst f v (k + 1) = min (lst f v k) y := by show min _ _ = _; rw [hy]; rfl
    rw [e]
    refine ⟨?_, fun j u hj hu => ?_⟩
    · rcases Nat.le_total (lst f v k) y with h3 | h3
      · rw [Nat.min_eq_left h3]; exact ⟨q, hq⟩
      · rw [Nat.min_eq_right h3]; exact ⟨k + 1, hy⟩
    · rcases Nat.lt_or_ge j (k + 1) with h3 | h3
      · exact Nat.le_trans (Nat.min_le_left _ _) (h2 j u (by omega) hu)
      · obtain rfl : j = k + 1 := by omega
        rw [hy] at hu
        injection hu with hu
        subst hu
        exact Nat.min_le_right _ _
theorem lst_all {f : Nat → Option Nat} {v m : Nat} (hm : 0 < m) (h : it f m v = some v) : (∃ q, it f q v = some (lst f v (m - 1))) ∧ ∀ j u, it f j v = some u → lst f v (m - 1) ≤ u := by
  have hR : OnRing f v := ⟨m, hm, h⟩
  refine ⟨(lst_is hR (m - 1)).1, fun j u hu => ?_⟩
  have h1 : it f (j % m) v = some u := by
    rw [← Nat.div_add_mod j m, it_add, ring_mul h] at hu
    exact hu
  exact (lst_is hR (m - 1)).2 _ u (by have := Nat.mod_lt j hm; omega) h1
end Go.Proofs.Ytgldjjmpjaegfaa.Sy

/- tree.leastOfRing, tree.Parents. -/
namespace Go.Proofs.Ytgldjjmpjaegfaa
open Go.RowKit Go.Maps
set_option linter.unusedVariables false
set_option linter.unusedSimpArgs false
set_option maxRecDepth 100000

theorem own_atZ {w : World} {base g cap n i : Nat} {P : List Int} {z : Int} (h : w.ownsRow base 3 1 (.slice (some ⟨g, 0, none⟩) n cap) n ((P).map encZ)) (hx : P[i]? = some z) : w.cell? ⟨g, i, none⟩ = some (.int .i64 z) ∧ w.frozen? ⟨g, i, none⟩ = false := by
  have hl := h.1
  rw [List.length_map] at hl
  have hi := (List.getElem?_eq_some_iff.1 hx).1
  have s := own_setY h (i := i) (by omega) (.bool true)
  exact ⟨by rw [s.2.1, List.getElem?_map, hx]; rfl, s.1⟩
theorem pf_cell {P : List Int} {n u x : Nat} (hp : Sy.Plain P n) (h : Sy.pf P u = some x) : P[u]? = some (x : Int) ∧ x < n := by
  unfold Sy.pf at h
  split at h
  · rename_i z hz
    have := hp u z hz
    split at h
    · cases h
    · injection h with h
      have e : z = (x : Int) := by omega
      exact ⟨by rw [hz, e], by omega⟩
  · cases h
theorem it_lt {P : List Int} {n i v : Nat} (hp : Sy.Plain P n) (hi : i < n) : ∀ k, Sy.it (Sy.pf P) k i = some v → v < n
  | 0, h => by injection h with h; omega
  | k + 1, h => by
    change (Sy.it (Sy.pf P) k i).bind (Sy.pf P) = some v at h
    cases ht : Sy.it (Sy.pf P) k i with
    | none => rw [ht] at h; cases h
    | some t => rw [ht] at h; exact (pf_cell hp h).2
theorem it_congr {P N : List Int} {v : Nat} (h : ∀ q u, Sy.it (Sy.pf N) q v = some u → P[u]? = N[u]?) : ∀ q, Sy.it (Sy.pf P) q v = Sy.it (Sy.pf N) q v
  | 0 => rfl
  | q + 1 => by
    show (Sy.it (Sy.pf P) q v).bind _ = (Sy.it (Sy.pf N) q v).bind _
    rw [it_congr h q]
    cases ht : Sy.it (Sy.pf N) q v with
    | none => rfl
    | some t => exact Sy.pf_congr (h q t ht)
/-- What a set of one cell leaves. -/
theorem own_elseZ {w : World} {base base' g g' n n' cap cap' i : Nat} {e e' : TypeId} {xs ys : List Value} (h : w.ownsRow base e 1 (.slice (some ⟨g, 0, none⟩) n cap) n xs) (h' : w.ownsRow base' e' 1 (.slice (some ⟨g', 0, none⟩) n' cap') n' ys) (hne : g ≠ g') (hi : i < n') (u : Value) : (w.setCell ⟨g', i, none⟩ u).ownsRow base e 1 (.slice (some ⟨g, 0, none⟩) n cap) n xs :=
  own_grew h (own_set h' hi u).2.2.2 (.inr (by simp [Value.ownBlock]; omega))
def zcell : Option Value → Bool
  | some (.int _ z) => z == 0
  | _ => false
/-- How many of a row's cells are zero. -/
def zc (w : World) (g n : Nat) : Nat := ((List.range n).filter fun v => zcell (w.cell? ⟨g, v, none⟩)).length
theorem flt_lt {p q : Nat → Bool} : ∀ l : List Nat, (∀ x ∈ l, q x = true → p x = true) → (l.filter q).length ≤ (l.filter p).length ∧ ((∃ x ∈ l, p x = true ∧ q x = false) → (l.filter q).length < (l.filter p).length)
  | [], _ => ⟨Nat.le_refl _, fun ⟨x, hx, _⟩ => by cases hx⟩
  | y :: l, h => by
    obtain ⟨h1, h2⟩ := flt_lt l (fun x hx => h x (List.mem_cons_of_mem _ hx))
    have hy := h y (List.mem_cons_self)
    refine ⟨?_, fun ⟨x, hx, hp, hq⟩ => ?_⟩
    · cases hqy : q y
      · cases hpy : p y <;> simp [List.filter_cons, hqy, hpy] <;> omega
      · simp [List.filter_cons, hqy, hy hqy]; omega
    · rcases List.mem_cons.1 hx with rfl | hx
      · simp [List.filter_cons, hp, hq]; omega
      · have h3 := h2 ⟨x, hx, hp, hq⟩
        cases hqy : q y
        · cases hpy : p y <;> simp [List.filter_cons, hqy, hpy] <;> omega
        · simp [List.filter_cons, hqy, hy hqy]; omega
theorem zc_less {w w' : World} {b1 b2 g n cap i v : Nat} {W W' : List Nat} (h : w.ownsRow b1 3 1 (.slice (some ⟨g, 0, none⟩) n cap) n ((W).map encN)) (h' : w'.ownsRow b2 3 1 (.slice (some ⟨g, 0, none⟩) n cap) n ((W').map encN)) (e : W' = W.set v (i + 1)) (h0 : W[v]? = some 0) : zc w' g n < zc w g n := by
  subst e
  have hl := own_lenN h
  have hv := (List.getElem?_eq_some_iff.1 h0).1
  refine (flt_lt (List.range n) (fun x hxr hx => ?_)).2 ⟨v, List.mem_range.2 (by omega), ?_, ?_⟩
  · have hxn := List.mem_range.1 hxr
    obtain ⟨y, hy⟩ : ∃ y, W[x]? = some y := ⟨_, List.getElem?_eq_getElem (by omega)⟩
    by_cases e : v = x
    · subst e
      rw [(own_atN h' (List.getElem?_set_self hv)).1] at hx
      simp [zcell] at hx
      omega
    · rw [(own_atN h' (x := y) (by rw [List.getElem?_set_ne e]; exact hy)).1] at hx
      rw [(own_atN h hy).1]; exact hx
  · rw [(own_atN h h0).1]; rfl
  · rw [(own_atN h' (List.getElem?_set_self hv)).1]
    simp [zcell]; omega
/-- How far it is to v. -/
def dstR (f : Nat → Option Nat) (v m u : Nat) : Nat := ((List.range (m + 1)).find? fun q => Sy.it f q u == some v).getD 0
theorem dstR_is {f : Nat → Option Nat} {v m k u : Nat} (h : Sy.it f m v = some v) (hmin : ∀ k, 0 < k → k < m → Sy.it f k v ≠ some v) (hk : k + 1 ≤ m) (hu : Sy.it f (k + 1) v = some u) : dstR f v m u = m - (k + 1) := by
  have key : ∀ q, Sy.it f q u = Sy.it f (k + 1 + q) v := fun q => by rw [Sy.it_add, hu]; rfl
  have : (List.range (m + 1)).find? (fun q => Sy.it f q u == some v) = some (m - (k + 1)) := by
    rw [List.find?_range_eq_some]
    refine ⟨?_, List.mem_range.2 (by omega), fun j hj => ?_⟩
    · rw [key, show k + 1 + (m - (k + 1)) = m by omega, h]; exact beq_self_eq_true _
    · rw [key]
      have := hmin (k + 1 + j) (by omega) (by omega)
      simpa using this
  unfold dstR
  rw [this]; rfl
set_option maxHeartbeats 4000000 in
theorem leastring_any (P : List Int) (base g n cap v m : Nat) (w : World) (hO : w.ownsRow base 3 1 (.slice (some ⟨g, 0, none⟩) n cap) n ((P).map encZ)) (hP : Sy.Plain P n) (hm : 0 < m) (h : Sy.it (Sy.pf P) m v = some v) (hmin : ∀ k, 0 < k → k < m → Sy.it (Sy.pf P) k v ≠ some v) (hsm : n ≤ 100000) :
    Calls Try.prog 31 #[.slice (some ⟨g, 0, none⟩) n cap, .int .i64 (v : Int)] w fun e w' => e = .returned (.int .i64 ((Sy.lst (Sy.pf P) v (m - 1) : Nat) : Int)) ∧ w' = w := by
  have HO := Lib.hid hO
  have HP := Lib.hid hP
  have HM := Lib.hid hm
  have HIT := Lib.hid h
  have HMIN := Lib.hid hmin
  obtain ⟨u1, hu1⟩ := Sy.it_less h (a := 1) hm
  have hp1 : Sy.pf P v = some u1 := hu1
  obtain ⟨c1, hl1⟩ := pf_cell hP hp1
  have hvn : v < n := by have := Sy.pf_lt hp1; have := hO.1; rw [List.length_map] at this; omega
  obtain ⟨k0, _⟩ := own_atZ hO c1
  have i0 : (0 : Int) ≤ (v : Int) := by omega
  have i1 : (v : Int) < (n : Int) := by omega
  have HU1 := Lib.hid hu1
  clear hO hP hm h hmin hu1 hp1 c1
  go_enter Try.func31, Try.ntmps31
  go_wp2_with fail
  clear k0
  go_loopw [5, 6] (fun vl vn wq => ∃ (k u a : Nat), vl = .int .i64 (a : Int) ∧ vn = .int .i64 (u : Int) ∧ w = wq ∧ Hid (k + 1 ≤ m) ∧ Hid (Sy.it (Sy.pf P) (k + 1) v = some u) ∧ Hid (a = Sy.lst (Sy.pf P) v k)) (fun vl vn _ => dstR (Sy.pf P) v m (intOf vn).toNat)
  case atStart => exact ⟨0, u1, v, rfl, rfl, rfl, Lib.hid HM.out, HU1, Lib.hid rfl⟩
  case round =>
    obtain ⟨k, u, a, rfl, rfl, hw, HK, HU, HA⟩ := hrel
    subst hw
    by_cases e : u = v
    · subst e
      have b1 : ((u : Int) == (u : Int)) = true := beq_self_eq_true _
      have b2 : (u == u) = true := beq_self_eq_true _
      go_wp2_with fail
      go_ret
      have hk := HK.out
      have e : k = m - 1 := by
        rcases Nat.lt_or_ge (k + 1) m with h | h
        · exact absurd HU.out (HMIN.out (k + 1) (by omega) h)
        · omega
      exact ⟨by rw [HA.out, e]; rfl, rfl⟩
    · have b1 : ((u : Int) == (v : Int)) = false := beq_eq_false_iff_ne.2 (by omega)
      have b2 : (u == v) = false := beq_eq_false_iff_ne.2 e
      have hk2 : k + 2 ≤ m := by
        have := HK.out
        rcases Nat.lt_or_ge (k + 1) m with h | h
        · omega
        · exfalso
          have e2 : k + 1 = m := by omega
          have h1 := HU.out
          rw [e2, HIT.out] at h1
          injection h1 with h1
          exact e h1.symm
      obtain ⟨u2, hu2⟩ := Sy.it_less HIT.out hk2
      have hp2 : Sy.pf P u = some u2 := by
        have h1 : (Sy.it (Sy.pf P) (k + 1) v).bind (Sy.pf P) = some u2 := hu2
        rw [HU.out] at h1; exact h1
      obtain ⟨c2, hl2⟩ := pf_cell HP.out hp2
      obtain ⟨j, hj⟩ : ∃ j, j = min a u := ⟨_, rfl⟩
      have HJ := Lib.hid (show j = Sy.lst (Sy.pf P) v (k + 1) from by
        show j = min (Sy.lst (Sy.pf P) v k) ((Sy.it (Sy.pf P) (k + 1) v).getD v)
        rw [HU.out, ← HA.out, hj]; rfl)
      have HJ0 := Lib.hid hj
      have ej : min (a : Int) (u : Int) = (j : Int) := by omega
      obtain ⟨k1, _⟩ := own_atZ HO.out c2
      have hun : u < n := by have := Sy.pf_lt hp2; have := HO.out.1; rw [List.length_map] at this; omega
      have j0 : (0 : Int) ≤ (u : Int) := by omega
      have j1 : (u : Int) < (n : Int) := by omega
      have HU2 := Lib.hid hu2
      have HK2 := Lib.hid hk2
      have HD := Lib.hid (dstR_is HIT.out HMIN.out HK.out HU.out)
      have HD2 := Lib.hid (dstR_is HIT.out HMIN.out (k := k + 1) hk2 hu2)
      clear hu2 hp2 c2 hj e hk2
      go_wp2_with fail
      go_roundw
      case rel => exact ⟨k + 1, u2, j, (by have := HJ0.out; congr 1; split <;> omega), rfl, trivial, HK2, HU2, HJ⟩
      case measure => have h1 := HD.out; have h2 := HD2.out; have := HK2.out; simp only [intOf, Int.toNat_natCast]; omega
end Go.Proofs.Ytgldjjmpjaegfaa

/- tree.Parents: of each ring the least has no parent, of the others whom they name. -/
namespace Go.Proofs.Ytgldjjmpjaegfaa
open Go.RowKit Go.Maps
set_option linter.unusedVariables false
set_option linter.unusedSimpArgs false
set_option maxRecDepth 100000

theorem namedM_plain (l : List Ls) : Sy.Plain (namedM l) l.length := fun v z h => by
  have hv := (List.getElem?_eq_some_iff.1 h).1
  rw [namedM_len] at hv
  rw [namedM_at (List.getElem?_eq_getElem hv)] at h
  injection h with h
  cases ho : namedO (l.map fun x => x.s.id) (l[v]).s.pa v with
  | none => rw [ho] at h; simp only [plO] at h; omega
  | some j => have := (namedO_lt ho).1; rw [ho] at h; simp only [plO] at h; rw [List.length_map] at this; omega
theorem Inv_plain {N P : List Int} {W : List Nat} {n i : Nat} (I : Sy.Inv N P W n i) (hN : Sy.Plain N n) : Sy.Plain P n := fun v z h => by
  rcases I.or v with h1 | ⟨h1, _⟩
  · exact hN v z (by rw [← h1]; exact h)
  · rw [h] at h1; injection h1 with h1; omega
set_option maxHeartbeats 16000000 in
theorem parents_any (l : List Ls) (A : Option Addr) (n c B : Nat) (w : World) (hS : RdSps w B A l) (hB : B ≤ w.heap.size) (hn : n = l.length) (hsm : n ≤ 100000) :
    Calls Try.prog 13 #[.slice A n c] w fun e w' => ∃ g P, e = .returned (.slice (some ⟨g, 0, none⟩) n n) ∧ Sy.ParOf (namedM l) P ∧ w'.ownsRow w.heap.size 3 1 (.slice (some ⟨g, 0, none⟩) n n) n (P.map encZ) ∧ Below w.heap.size w w' := by
  have NA := Lib.hid (named_any l A n c B w hS hB hn hsm)
  have hNL := namedM_len l
  have hNP := namedM_plain l
  rw [← hn] at hNL hNP
  generalize namedM l = N at *
  have HNL := Lib.hid hNL
  have HNP := Lib.hid hNP
  clear hS hB hn hNL hNP
  go_enter Try.func13, Try.ntmps13
  go_upto_region 2 with (go_at_call 30; (with_reducible refine NA.out.mono ?_); rintro ex w1 ⟨gp, rfl, ho1, hb1⟩; have HO1 := Lib.hid ho1; have HB1 := Lib.hid hb1; clear ho1 hb1)
  clear NA
  obtain ⟨W5, hrun, hown, hbl, hsz⟩ := make_intN n hsm w1
  obtain ⟨b0, hb0⟩ : ∃ b0, b0 = w.heap.size := ⟨_, rfl⟩
  have HB0 := Lib.hid hb0
  have hz1 := HB1.out.size
  have hgp := own_baseY HO1.out
  rw [← hb0] at HO1 HB1
  have hwz : ((List.replicate n (0 : Int)).map encZ) = (List.replicate n 0).map encN := by rw [List.map_replicate, List.map_replicate]; rfl
  rw [hwz] at hown
  have HOW0 := Lib.hid (own_mono hown (base' := b0) (by omega))
  have HOP0 := Lib.hid (own_below HO1.out hbl)
  have HB5 := Lib.hid (HB1.out.trans (hbl.mono (by omega)))
  have HG := Lib.hid (show gp ≠ w1.heap.size ∧ b0 ≤ gp ∧ b0 ≤ w1.heap.size from ⟨by omega, by omega, by omega⟩)
  clear hown hbl hsz hb0 hz1 hgp HO1 HB1 hwz
  go_upto_region 4 with fail
  generalize hgw : w1.heap.size = gw at *
  clear hgw hrun
  go_loopw [15] (fun vi wq => ∃ (i : Nat) (P : List Int) (W : List Nat), vi = .int .i64 (i : Int) ∧ i ≤ n ∧ Hid (Sy.Inv N P W n i) ∧ Hid (wq.ownsRow b0 3 1 (.slice (some ⟨gp, 0, none⟩) n n) n ((P).map encZ)) ∧ Hid (wq.ownsRow b0 3 1 (.slice (some ⟨gw, 0, none⟩) n n) n ((W).map encN)) ∧ Hid (Below b0 w wq)) (fun vi _ => n - (intOf vi).toNat)
  case atStart => exact ⟨0, N, List.replicate n 0, rfl, Nat.zero_le _, Lib.hid (Sy.Inv.start HNL.out), HOP0, HOW0, HB5⟩
  clear HOP0 HOW0 HB5
  case round =>
    obtain ⟨i, P, W, rfl, hi, HI, HOP, HOW, HB⟩ := hrel
    by_cases hlt : i < n
    · have d0 : decide ((i : Int) < (n : Int)) = true := decide_eq_true (by omega)
      have d1 : decide (i < n) = true := decide_eq_true hlt
      have HLT := Lib.hid hlt
      clear hlt hi
      go_wp2_with fail
      clear d0 d1
      generalize wr = wz at *
      go_loopw [6] (fun va wq => ∃ (k : Nat) (W' : List Nat) (z : Int), va = .int .i64 z ∧ Hid (z = plO (Sy.it (Sy.pf N) k i)) ∧ Hid (Sy.Wk N W W' n i k) ∧ Hid (wq.ownsRow b0 3 1 (.slice (some ⟨gp, 0, none⟩) n n) n ((P).map encZ)) ∧ Hid (wq.ownsRow b0 3 1 (.slice (some ⟨gw, 0, none⟩) n n) n ((W').map encN)) ∧ Hid (Below b0 w wq)) (fun _ wq => zc wq gw n)
      case atStart => exact ⟨0, W, (i : Int), rfl, Lib.hid rfl, Lib.hid (Sy.Wk.start HI.out.lw), HOP, HOW, HB⟩
      clear HOP HOW HB
      case round =>
        obtain ⟨k, W', z, rfl, HZ, HWK, HOP, HOW, HB⟩ := hrel
        obtain ⟨i1, hi1⟩ : ∃ i1, i1 = i + 1 := ⟨_, rfl⟩
        have e1 : IntKind.i64.wrap ((i : Int) + 1) = (i1 : Int) := by rw [IntKind.wrap_i64] <;> (have := HLT.out; omega)
        have HI1 := Lib.hid hi1
        clear hi1
        cases hk : Sy.it (Sy.pf N) k i with
        | none =>
          obtain rfl : z = -1 := by rw [HZ.out, hk]; rfl
          have HIN := Lib.hid (Sy.Wk.inv_none HI.out HWK.out hk)
          clear hk
          go_wp2_with fail
          go_roundw
          case rel => exact ⟨i1, P, W', rfl, (by have := HLT.out; have := HI1.out; omega), (by rw [HI1.out]; exact HIN), HOP, HOW, HB⟩
          case measure => have := HLT.out; have := HI1.out; simp [intOf]; omega
        | some v =>
          obtain rfl : z = (v : Int) := by rw [HZ.out, hk]; rfl
          have hv := it_lt HNP.out HLT.out k hk
          obtain ⟨x, hx⟩ : ∃ x, W'[v]? = some x := ⟨_, List.getElem?_eq_getElem (by rw [HWK.out.lw]; exact hv)⟩
          have b1 : ((v : Int) == -1) = false := beq_eq_false_iff_ne.2 (by omega)
          have v0 : (0 : Int) ≤ (v : Int) := by omega
          have v1 : (v : Int) < (n : Int) := by omega
          obtain ⟨x0, x1⟩ := own_atN HOW.out hx
          by_cases hx0 : x = 0
          · have b2 : ((x : Int) == 0) = true := beq_iff_eq.2 (by omega)
            have b3 : (x == 0) = true := beq_iff_eq.2 hx0
            rw [hx0] at hx
            have hPN := Sy.Wk.same HI.out HWK.out v hx
            obtain ⟨z2, hz2⟩ : ∃ z2, N[v]? = some z2 := ⟨_, List.getElem?_eq_getElem (by rw [HNL.out]; exact hv)⟩
            rw [hz2] at hPN
            obtain ⟨p0, _⟩ := own_atZ HOP.out hPN
            have HZ2 := Lib.hid (show z2 = plO (Sy.it (Sy.pf N) (k + 1) i) from by
              show z2 = plO ((Sy.it (Sy.pf N) k i).bind _)
              rw [hk]; exact Sy.pf_at HNP.out hz2)
            have HWK2 := Lib.hid (show Sy.Wk N W (W'.set v i1) n i (k + 1) from by rw [HI1.out]; exact HWK.out.next hk hx)
            have hne : gp ≠ gw := HG.out.1
            have HOP2 := Lib.hid (own_elseZ HOP.out HOW.out hne hv (.int .i64 (i1 : Int)))
            have HOW2 := Lib.hid (own_setN HOW.out hv i1)
            have HB2 := Lib.hid (HB.out.setCell (p := ⟨gw, v, none⟩) HG.out.2.2 (.int .i64 (i1 : Int)))
            have HZC := Lib.hid (zc_less HOW.out HOW2.out (by rw [HI1.out]) hx)
            clear hk hv hx hPN hz2 hx0
            go_wp2_with fail
            go_roundw
            case rel => exact ⟨k + 1, W'.set v i1, z2, rfl, HZ2, HWK2, HOP2, HOW2, HB2⟩
            case measure => exact HZC.out
          · have b2 : ((x : Int) == 0) = false := beq_eq_false_iff_ne.2 (by omega)
            have b3 : (x == 0) = false := beq_eq_false_iff_ne.2 hx0
            by_cases hxi : x = i1
            · have hxv : W'[v]? = some (i + 1) := by rw [hx, hxi, HI1.out]
              have hsame := Sy.Wk.ring_same HI.out HWK.out hk hxv
              have hcon := it_congr (P := P) (N := N) (v := v) (fun q u h => (hsame q u h).2)
              obtain ⟨j, hj, hji, hring⟩ := Sy.Wk.ring HI.out HWK.out hk hxv
              obtain ⟨m, hm, hmv, hmin⟩ := Sy.first_back (f := Sy.pf P) (v := v) ⟨k - j, by omega, by rw [hcon]; exact hring⟩
              have LC := Lib.hid ((leastring_any P b0 gp n n v m wr HOP.out (Inv_plain HI.out HNP.out) hm hmv hmin hsm).mono (fun e w' h => And.intro h.1 h.2.symm))
              obtain ⟨⟨q, hq⟩, hle⟩ := Sy.lst_all hm hmv
              obtain ⟨r, hr⟩ : ∃ r, r = Sy.lst (Sy.pf P) v (m - 1) := ⟨_, rfl⟩
              rw [← hr] at LC hq hle
              rw [hcon] at hq
              have HIN := Lib.hid (Sy.Wk.inv_ring HI.out HWK.out hk hxv hq (fun a u hu => hle a u (by rw [hcon]; exact hu)))
              have hrn : r < n := it_lt HNP.out hv q hq
              have b4 : ((x : Int) == (i1 : Int)) = true := beq_iff_eq.2 (by omega)
              have b5 : (x == i1) = true := beq_iff_eq.2 hxi
              have r0 : (0 : Int) ≤ (r : Int) := by omega
              have r1 : (r : Int) < (n : Int) := by omega
              obtain ⟨z3, hz3⟩ : ∃ z3, P[r]? = some z3 := ⟨_, List.getElem?_eq_getElem (by rw [HI.out.lp]; exact hrn)⟩
              obtain ⟨y0, y1⟩ := own_atZ HOP.out hz3
              have HOP2 := Lib.hid (show (wr.setCell ⟨gp, r, none⟩ (.int .i64 (-1))).ownsRow b0 3 1 (.slice (some ⟨gp, 0, none⟩) n n) n ((P.set r (-1)).map encZ) from by
                have h := (own_set HOP.out hrn (.int .i64 (-1))).2.2.1
                rw [List.map_set]; exact h)
              have HOW2 := Lib.hid (own_elseZ HOW.out HOP.out (fun e => HG.out.1 e.symm) hrn (.int .i64 (-1)))
              have HB2 := Lib.hid (HB.out.setCell (p := ⟨gp, r, none⟩) HG.out.2.1 (.int .i64 (-1)))
              clear hk hv hx hxv hsame hcon hj hji hring hm hmv hmin hq hle hr hrn hz3 hx0 hxi
              go_wp2_with (go_at_call 31; (with_reducible refine LC.out.mono ?_); rintro ex w7 ⟨rfl, hw7⟩; subst hw7)
              go_roundw
              case rel => exact ⟨i1, P.set r (-1), W', rfl, (by have := HLT.out; have := HI1.out; omega), (by rw [HI1.out]; exact HIN), HOP2, HOW2, HB2⟩
              case measure => have := HLT.out; have := HI1.out; simp [intOf]; omega
            · have HIN := Lib.hid (Sy.Wk.inv_old HI.out HWK.out hk hx hx0 (by rw [← HI1.out]; exact hxi))
              have b4 : ((x : Int) == (i1 : Int)) = false := beq_eq_false_iff_ne.2 (by omega)
              have b5 : (x == i1) = false := beq_eq_false_iff_ne.2 hxi
              clear hk hv hx hxi hx0
              go_wp2_with fail
              go_roundw
              case rel => exact ⟨i1, P, W', rfl, (by have := HLT.out; have := HI1.out; omega), (by rw [HI1.out]; exact HIN), HOP, HOW, HB⟩
              case measure => have := HLT.out; have := HI1.out; simp [intOf]; omega
    · obtain rfl : i = n := by omega
      have d0 : decide ((i : Int) < (i : Int)) = false := decide_eq_false (by omega)
      have d1 : decide (i < i) = false := decide_eq_false (by omega)
      clear hlt hi
      go_wp2_with fail
      go_ret
      exact ⟨gp, P, rfl, HI.out.fin HNL.out, by rw [← HB0.out]; exact HOP.out, by rw [← HB0.out]; exact HB.out⟩
end Go.Proofs.Ytgldjjmpjaegfaa

/- tree.Kids: of each span its kids, in their order; at the end those without parent. -/
namespace Go.Proofs.Ytgldjjmpjaegfaa
open Go.RowKit Go.Maps
set_option linter.unusedVariables false
set_option linter.unusedSimpArgs false
set_option maxRecDepth 100000

/-- Rows of one's own of places, side by side. -/
structure KO (w : World) (bK : Nat) (C : List Value) (K : List (List Nat)) : Prop where
  len : C.length = K.length
  own : ∀ (j : Nat) (v : Value) (L : List Nat), C[j]? = some v → K[j]? = some L → (∃ A c, v = .slice A L.length c) ∧ w.ownsRow bK 3 1 v L.length (L.map encN)
  far : ∀ (j j' : Nat) (v v' : Value), j ≠ j' → C[j]? = some v → C[j']? = some v' → v.ownBlock = none ∨ v.ownBlock ≠ v'.ownBlock
theorem own_blk_lt {w : World} {base e size n g : Nat} {v : Value} {xs : List Value} (h : w.ownsRow base e size v n xs) (hg : v.ownBlock = some g) : g < w.heap.size := by
  rcases h.2 with ⟨rfl, _⟩ | ⟨k, cap, cur, rfl, _, hk, _⟩
  · simp [Value.ownBlock] at hg
  · simp only [Value.ownBlock] at hg
    injection hg with hg
    subst hg
    exact (Array.getElem?_eq_some_iff.1 hk).1
theorem KO.other {w : World} {bK : Nat} {C : List Value} {K : List (List Nat)} (h : KO w bK C K) {j j' : Nat} {v v' x : Value} {L' : List Nat} (hne : j ≠ j') (hv : C[j]? = some v) (hx : C[j']? = some x) (hL : K[j']? = some L') {w' : World} (hg : Grew w w' v v') : (x.ownBlock = none ∨ x.ownBlock ≠ v'.ownBlock) ∧ (v'.ownBlock = none ∨ v'.ownBlock ≠ x.ownBlock) := by
  have f1 := h.far j j' v x hne hv hx
  have f2 := h.far j' j x v hne.symm hx hv
  rcases hg.blk with e | ⟨g, e, hgg⟩
  · rw [e]; exact ⟨f2, f1⟩
  · have ho := (h.own j' x L' hx hL).2
    have hne2 : x.ownBlock ≠ some g := fun he => by have := own_blk_lt ho he; omega
    rw [e]
    exact ⟨.inr hne2, .inr hne2.symm⟩
theorem KO.put {w w' : World} {bK j m : Nat} {C : List Value} {K : List (List Nat)} {v v' : Value} {L : List Nat} (h : KO w bK C K) (hv : C[j]? = some v) (hL : K[j]? = some L) (hg : Grew w w' v v') {L2 : List Nat} (hm : m = L2.length) (ho : w'.ownsRow bK 3 1 v' m (L2.map encN)) : KO w' bK (C.set j v') (K.set j L2) := by
  subst hm
  have hjC := (List.getElem?_eq_some_iff.1 hv).1
  have hjK := (List.getElem?_eq_some_iff.1 hL).1
  have kat : ∀ j' : Nat, j ≠ j' → ∀ x, C[j']? = some x → ∃ L', K[j']? = some L' := fun j' _ x hx => by
    have := (List.getElem?_eq_some_iff.1 hx).1
    exact ⟨_, List.getElem?_eq_getElem (by have := h.len; omega)⟩
  refine ⟨by rw [List.length_set, List.length_set]; exact h.len, fun j' x L' hx hL' => ?_, fun a b x y hab hx hy => ?_⟩
  · by_cases e : j = j'
    · subst e
      rw [List.getElem?_set_self hjC] at hx
      rw [List.getElem?_set_self hjK] at hL'
      injection hx with hx
      injection hL' with hL'
      subst hx hL'
      obtain ⟨A, c, e, _⟩ := own_rd ho
      exact ⟨⟨A, c, e⟩, ho⟩
    · rw [List.getElem?_set_ne e] at hx hL'
      obtain ⟨h1, h2⟩ := h.own j' x L' hx hL'
      refine ⟨h1, own_grew h2 hg ?_⟩
      rcases h.far j j' v x e hv hx with f | f
      · exact .inl f
      · exact .inr f.symm
  · by_cases ea : j = a
    · subst ea
      rw [List.getElem?_set_self hjC] at hx
      rw [List.getElem?_set_ne hab] at hy
      injection hx with hx
      subst hx
      obtain ⟨L', hL'⟩ := kat b hab y hy
      exact (h.other hab hv hy hL' hg).2
    · rw [List.getElem?_set_ne ea] at hx
      by_cases eb : j = b
      · subst eb
        rw [List.getElem?_set_self hjC] at hy
        injection hy with hy
        subst hy
        obtain ⟨L', hL'⟩ := kat a ea x hx
        exact (h.other ea hv hx hL' hg).1
      · rw [List.getElem?_set_ne eb] at hy
        exact h.far a b x y hab hx hy
theorem KO.step {w w' : World} {bK j i : Nat} {C : List Value} {K : List (List Nat)} {v v' : Value} {L : List Nat} (h : KO w bK C K) (hv : C[j]? = some v) (hL : K[j]? = some L) (hg : Grew w w' v v') (ho : w'.ownsRow bK 3 1 v' (L.length + 1) (L.map encN ++ [encN i])) : KO w' bK (C.set j v') (K.set j (L ++ [i])) :=
  h.put hv hL hg (by rw [List.length_append, List.length_singleton]) (by rw [List.map_append]; exact ho)
theorem KO.below {w w' : World} {bK : Nat} {C : List Value} {K : List (List Nat)} (h : KO w bK C K) (hb : Below w.heap.size w w') : KO w' bK C K :=
  ⟨h.len, fun j v L hv hL => ⟨(h.own j v L hv hL).1, own_below (h.own j v L hv hL).2 hb⟩, h.far⟩
/-- A store into a row of another type. -/
theorem KO.set {w : World} {bK b gk n cap i : Nat} {C ys : List Value} {K : List (List Nat)} (h : KO w bK C K) (ho : w.ownsRow b 26 1 (.slice (some ⟨gk, 0, none⟩) n cap) n ys) (hi : i < n) (u : Value) : KO (w.setCell ⟨gk, i, none⟩ u) bK C K := by
  refine ⟨h.len, fun j v L hv hL => ⟨(h.own j v L hv hL).1, own_grew (h.own j v L hv hL).2 (own_set ho hi u).2.2.2 ?_⟩, h.far⟩
  rcases ho.2 with ⟨h0, _⟩ | ⟨g, cap', cur, hv', _, hgg, _⟩
  · cases h0
  · simp only [Value.slice.injEq, Option.some.injEq, Addr.mk.injEq] at hv'
    obtain ⟨⟨rfl, _⟩, _, rfl⟩ := hv'
    exact .inr (own_not (h.own j v L hv hL).2 hgg (by decide))
theorem KO.start (w : World) (bK n : Nat) : KO w bK (List.replicate n (.slice none 0 0)) (List.replicate n []) := by
  have h0 : ∀ (j : Nat) (v : Value), (List.replicate n (Value.slice none 0 0))[j]? = some v → v = .slice none 0 0 := fun j v h => by
    obtain ⟨_, h2⟩ := List.getElem?_eq_some_iff.1 h
    rw [List.getElem_replicate] at h2; exact h2.symm
  have h1 : ∀ (j : Nat) (L : List Nat), (List.replicate n ([] : List Nat))[j]? = some L → L = [] := fun j v h => by
    obtain ⟨_, h2⟩ := List.getElem?_eq_some_iff.1 h
    rw [List.getElem_replicate] at h2; exact h2.symm
  refine ⟨by rw [List.length_replicate, List.length_replicate], fun j v L hv hL => ?_, fun j j' v v' _ hv _ => ?_⟩
  · rw [h0 j v hv, h1 j L hL]
    exact ⟨⟨none, 0, rfl⟩, World.ownsRow_nil _ _ _ _⟩
  · rw [h0 j v hv]; exact .inl rfl
/-- Of whom a span is a kid: at the end n. -/
def parN (P : List Int) (n i : Nat) : Nat := match P[i]? with
  | some z => if z = -1 then n else z.toNat
  | none => n
def kidsL (P : List Int) (n : Nat) (M : List Nat) : List (List Nat) := (List.range (n + 1)).map fun j => M.filter fun i => parN P n i == j
theorem kidsL_len (P : List Int) (n : Nat) (M : List Nat) : (kidsL P n M).length = n + 1 := by unfold kidsL; rw [List.length_map, List.length_range]
theorem kidsL_at {P : List Int} {n j : Nat} (M : List Nat) (hj : j ≤ n) : (kidsL P n M)[j]? = some (M.filter fun i => parN P n i == j) := by
  unfold kidsL
  rw [List.getElem?_map, List.getElem?_range (by omega)]; rfl
theorem kidsL_step {P : List Int} {n i : Nat} (M : List Nat) (hi : parN P n i ≤ n) : kidsL P n (M ++ [i]) = (kidsL P n M).set (parN P n i) ((M.filter fun q => parN P n q == parN P n i) ++ [i]) := by
  apply List.ext_getElem?
  intro j
  rcases Nat.lt_or_ge n j with hj | hj
  · rw [List.getElem?_eq_none (by rw [kidsL_len]; omega), List.getElem?_eq_none (by rw [List.length_set, kidsL_len]; omega)]
  · rw [kidsL_at _ hj]
    by_cases e : parN P n i = j
    · subst e
      rw [List.getElem?_set_self (by rw [kidsL_len]; omega), List.filter_append]
      simp
    · rw [List.getElem?_set_ne e, kidsL_at _ hj, List.filter_append]
      simp [e]
theorem kidsL_nil (P : List Int) (n : Nat) : kidsL P n [] = List.replicate (n + 1) [] := by
  unfold kidsL
  apply List.ext_getElem?
  intro j
  rcases Nat.lt_or_ge j (n + 1) with h | h
  · rw [List.getElem?_map, List.getElem?_range h, List.getElem?_replicate, if_pos h]; rfl
  · rw [List.getElem?_eq_none (by simp; omega), List.getElem?_eq_none (by simp; omega)]
theorem parN_le {P : List Int} {n i : Nat} (hp : Sy.Plain P n) : parN P n i ≤ n := by
  unfold parN
  split
  · rename_i z hz
    have := hp i z hz
    split <;> omega
  · exact Nat.le_refl _
theorem info_ints : (Try.prog.info? 26).map (fun i => (i.zero, i.size, i.bytes)) = some (some (.slice none 0 0), 1, 24) := by kernel_rfl
theorem make_rowsN (n : Nat) (hn : n ≤ 100001) (W : World) :
    ∃ W', (Instr.makeSlice 44 (.int .i64 (n : Int)) (.int .i64 (n : Int))).run Try.prog W = .ok (.slice (some ⟨W.heap.size, 0, none⟩) n n) W' ∧ W'.ownsRow W.heap.size 26 1 (.slice (some ⟨W.heap.size, 0, none⟩) n n) n (List.replicate n (.slice none 0 0)) ∧ Below W.heap.size W W' ∧ W'.heap.size = W.heap.size + 1 := by
  obtain ⟨i0, hi, hz0, hs, hb⟩ := info_parts info_ints
  have h := run_makeSlice (P := Try.prog) (w := W) 44 26 i0 _ Try.underlying44 hi hz0 .i64 .i64 (n : Int) (n : Int) (by omega) (Int.le_refl _) (by rw [hs]; simp only [Int.toNat_natCast]; omega) (by rw [hb]; omega) (by omega)
  rw [hs] at h
  simp only [Int.toNat_natCast, Nat.mul_one] at h
  have hc : (Value.slice none 0 0).cells = #[Value.slice none 0 0] := rfl
  refine ⟨_, h, ⟨by simp, .inr ⟨W.heap.size, n, madeCells (Value.slice none 0 0).cells n, rfl, Nat.le_refl _, heap_alloc_new W _, Nat.le_refl _, by unfold maxLen; omega, ?_, ?_⟩⟩, (Below.refl W.heap.size W).alloc (Nat.le_refl _) _, by simp⟩
  · have := congrArg List.length (made_rep _ hc n); simpa using this
  · rw [made_rep _ hc n]; exact List.take_of_length_le (by simp)
set_option maxHeartbeats 16000000 in
theorem kids_any (l : List Ls) (A : Option Addr) (n c B : Nat) (w : World) (hS : RdSps w B A l) (hB : B ≤ w.heap.size) (hn : n = l.length) (hsm : n ≤ 100000) :
    Calls Try.prog 32 #[.slice A n c] w fun e w' => ∃ g C P M bK, e = .returned (.slice (some ⟨g, 0, none⟩) (n + 1 : Nat) (n + 1 : Nat)) ∧ Sy.ParOf (namedM l) P ∧ Bys l M ∧ w.heap.size ≤ bK ∧ KO w' bK C (kidsL P n M) ∧ w'.ownsRow w.heap.size 26 1 (.slice (some ⟨g, 0, none⟩) (n + 1) (n + 1)) (n + 1) C ∧ Below w.heap.size w w' := by
  have PA := Lib.hid (parents_any l A n c B w hS hB hn hsm)
  have HSs := Lib.hid hS
  have HBB := Lib.hid hB
  have HN := Lib.hid hn
  have hNP := namedM_plain l
  rw [← hn] at hNP
  have HNP := Lib.hid hNP
  clear hS hB hn hNP
  obtain ⟨n1, hn1⟩ : ∃ n1, n1 = n + 1 := ⟨_, rfl⟩
  have HN1 := Lib.hid hn1
  have e0 : IntKind.i64.wrap ((n : Int) + 1) = (n1 : Int) := by rw [IntKind.wrap_i64] <;> omega
  go_enter Try.func32, Try.ntmps32
  go_upto_region 2 with (go_at_call 13; (with_reducible refine PA.out.mono ?_); rintro ex w1 ⟨gp, P, rfl, hp1, ho1, hb1⟩; have HP1 := Lib.hid hp1; have HO1 := Lib.hid ho1; have HB1 := Lib.hid hb1; clear hp1 ho1 hb1)
  clear PA
  obtain ⟨W5, hrun, hown, hbl, hsz⟩ := make_rowsN n1 (by omega) w1
  have hz1 := HB1.out.size
  have BS := Lib.hid (bystart_any l A n c B W5 ((HSs.out.below (HB1.out.mono HBB.out)).below (hbl.mono (Nat.le_trans HBB.out hz1))) (by have := HBB.out; omega) HN.out (by omega))
  have HOG := Lib.hid hown
  have HBL := Lib.hid hbl
  have HSZ := Lib.hid (And.intro hz1 hsz)
  clear hown hbl hsz hn1 hz1
  go_upto_region 4 with (go_at_call 40; (with_reducible refine BS.out.mono ?_); rintro ex w2 ⟨gm, cm, M, rfl, hby, ho2, hb2⟩; have HBY := Lib.hid hby; have HO2 := Lib.hid ho2; have HB2 := Lib.hid hb2; clear hby ho2 hb2)
  obtain ⟨b0, hb0⟩ : ∃ b0, b0 = w.heap.size := ⟨_, rfl⟩
  have HB0 := Lib.hid hb0
  obtain ⟨gk, hgk⟩ : ∃ gk, gk = w1.heap.size := ⟨_, rfl⟩
  have hz := HSZ.out
  have hgp := own_baseY HO1.out
  have hgm := own_baseY HO2.out
  have hs2 := HB2.out.size
  obtain ⟨bK, hbK⟩ : ∃ bK, bK = w2.heap.size := ⟨_, rfl⟩
  have HG := Lib.hid (show gp ≠ gk ∧ gm ≠ gk ∧ b0 ≤ gk ∧ gp < bK ∧ gm < bK ∧ b0 ≤ bK from by omega)
  have HOP2 := Lib.hid (own_mono (own_below (own_below HO1.out HBL.out) HB2.out) (base' := b0) (by omega))
  have HOM2 := Lib.hid (own_mono HO2.out (base' := b0) (by omega))
  have HOC2 := Lib.hid (own_mono (own_below HOG.out HB2.out) (base' := b0) (by omega))
  have HBW2 := Lib.hid (show Below b0 w w2 from by rw [hb0]; exact (HB1.out.trans (HBL.out.mono (by omega))).trans (HB2.out.mono (by omega)))
  have HKO2 := Lib.hid (show KO w2 bK (List.replicate n1 (.slice none 0 0)) (kidsL P n (M.take 0)) from by rw [List.take_zero, kidsL_nil, ← HN1.out]; exact KO.start w2 bK n1)
  have HSK := Lib.hid (show bK ≤ w2.heap.size from by omega)
  have HML := Lib.hid (show M.length = n from by rw [HBY.out.2.2, ← HN.out])
  have HMM := Lib.hid (show ∀ x ∈ M, x < n from fun x hx => by rw [HN.out]; exact (HBY.out.2.1 x).1 hx)
  have HPP := Lib.hid (show Sy.Plain P n from fun v z h => by
    by_cases hl : Sy.LR (Sy.pf (namedM l)) v
    · rw [(HP1.out.2 v).1 hl] at h; injection h with h; omega
    · rw [(HP1.out.2 v).2 hl] at h; exact HNP.out v z h)
  have HPL := Lib.hid (show P.length = n from by rw [HP1.out.1, namedM_len, ← HN.out])
  rw [← hgk] at HOC2
  clear HO1 HO2 HOG HBL HB1 HB2 HSZ hz hgp hgm hs2 hbK BS hb0
  rw [← hgk]
  clear hgk hrun
  go_loopw [17] (fun vi wq => ∃ (k : Nat) (C : List Value), vi = .int .i64 (k : Int) ∧ k ≤ n ∧ Hid (KO wq bK C (kidsL P n (M.take k))) ∧ Hid (wq.ownsRow b0 26 1 (.slice (some ⟨gk, 0, none⟩) n1 n1) n1 C) ∧ Hid (wq.ownsRow b0 3 1 (.slice (some ⟨gp, 0, none⟩) n n) n (P.map encZ)) ∧ Hid (wq.ownsRow b0 3 1 (.slice (some ⟨gm, 0, none⟩) n cm) n (M.map encN)) ∧ Hid (Below b0 w wq) ∧ Hid (bK ≤ wq.heap.size)) (fun vi _ => n - (intOf vi).toNat)
  case atStart => exact ⟨0, _, rfl, Nat.zero_le _, HKO2, HOC2, HOP2, HOM2, HBW2, HSK⟩
  clear HKO2 HOC2 HOP2 HOM2 HBW2 HSK
  case round =>
    obtain ⟨k, C, rfl, hk, HKO, HOC, HOP, HOM, HB, HSK⟩ := hrel
    by_cases hlt : k < n
    · obtain ⟨i, hi⟩ : ∃ i, M[k]? = some i := ⟨_, List.getElem?_eq_getElem (by rw [HML.out]; exact hlt)⟩
      have hin := HMM.out i (List.mem_of_getElem? hi)
      obtain ⟨z, hz⟩ : ∃ z, P[i]? = some z := ⟨_, List.getElem?_eq_getElem (by rw [HPL.out]; exact hin)⟩
      obtain ⟨m0, _⟩ := own_atN HOM.out hi
      obtain ⟨p0, _⟩ := own_atZ HOP.out hz
      obtain ⟨j, hj⟩ : ∃ j, j = parN P n i := ⟨_, rfl⟩
      have hjn : j ≤ n := by rw [hj]; exact parN_le HPP.out
      have hcl : C.length = n1 := by have := HOC.out.1; omega
      obtain ⟨v, hv⟩ : ∃ v, C[j]? = some v := ⟨_, List.getElem?_eq_getElem (by have := HN1.out; omega)⟩
      have hL := kidsL_at (P := P) (M.take k) hjn
      obtain ⟨L, hLe⟩ : ∃ L, L = (M.take k).filter fun i => parN P n i == j := ⟨_, rfl⟩
      rw [← hLe] at hL
      obtain ⟨⟨A', c', rfl⟩, hov⟩ := HKO.out.own j v L hv hL
      have hLl : L.length ≤ k := by rw [hLe]; exact Nat.le_trans (List.length_filter_le _ _) (by rw [List.length_take]; omega)
      have hjn1 : j < n1 := by have := HN1.out; omega
      obtain ⟨s1, s2, _⟩ := own_setY HOC.out (i := j) (by omega) (.bool true)
      rw [hv] at s2
      have HNX := Lib.hid (show kidsL P n (M.take (k + 1)) = (kidsL P n (M.take k)).set j (L ++ [i]) from by
        rw [List.take_add_one, hi, hLe, hj]
        exact kidsL_step (M.take k) (parN_le HPP.out))
      have HPS := Lib.hid (show ∀ (v5 : Value) (w5 : World), w5.ownsRow bK 3 1 v5 (L.length + 1) (L.map encN ++ [encN i]) → Grew wr w5 (.slice A' L.length c') v5 → w5.frozen? ⟨gk, j, none⟩ = false ∧ w5.cell? ⟨gk, j, none⟩ = some (.slice A' L.length c') ∧ Hid (KO (w5.setCell ⟨gk, j, none⟩ v5) bK (C.set j v5) (kidsL P n (M.take (k + 1)))) ∧ Hid ((w5.setCell ⟨gk, j, none⟩ v5).ownsRow b0 26 1 (.slice (some ⟨gk, 0, none⟩) n1 n1) n1 (C.set j v5)) ∧ Hid ((w5.setCell ⟨gk, j, none⟩ v5).ownsRow b0 3 1 (.slice (some ⟨gp, 0, none⟩) n n) n (P.map encZ)) ∧ Hid ((w5.setCell ⟨gk, j, none⟩ v5).ownsRow b0 3 1 (.slice (some ⟨gm, 0, none⟩) n cm) n (M.map encN)) ∧ Hid (Below b0 w (w5.setCell ⟨gk, j, none⟩ v5)) ∧ Hid (bK ≤ (w5.setCell ⟨gk, j, none⟩ v5).heap.size) from fun v5 w5 ho5 hg5 => by
        have hge := own_block_ge hov
        have hG := HG.out
        have nb : ∀ (g n' cap' : Nat) (e : TypeId) (ys : List Value), g < bK → wr.ownsRow b0 e 1 (.slice (some ⟨g, 0, none⟩) n' cap') n' ys → w5.ownsRow b0 e 1 (.slice (some ⟨g, 0, none⟩) n' cap') n' ys := fun g n' cap' e ys hgb h => own_grew h hg5 (by
          cases hb : (Value.slice A' L.length c').ownBlock with
          | none => exact .inl rfl
          | some q => have := hge q hb; exact .inr (by simp [Value.ownBlock]; omega))
        have hgkb : gk < bK ∨ bK ≤ gk := Nat.lt_or_ge _ _
        have hOC5 : w5.ownsRow b0 26 1 (.slice (some ⟨gk, 0, none⟩) n1 n1) n1 C := own_grew HOC.out hg5 (.inr (by
          rcases HOC.out.2 with ⟨h0, _⟩ | ⟨g, cap', cur, hv', _, hgg, _⟩
          · cases h0
          · simp only [Value.slice.injEq, Option.some.injEq, Addr.mk.injEq] at hv'
            obtain ⟨⟨rfl, _⟩, _, rfl⟩ := hv'
            exact (own_not hov hgg (by decide)).symm))
        obtain ⟨h1, h2, h3, h4⟩ := own_set hOC5 hjn1 v5
        refine ⟨h1, by rw [h2, hv], Lib.hid ?_, Lib.hid h3, Lib.hid (own_elseZ (nb gp n n _ _ hG.2.2.2.1 HOP.out) hOC5 hG.1 hjn1 v5), Lib.hid (own_elseZ (nb gm n cm _ _ hG.2.2.2.2.1 HOM.out) hOC5 hG.2.1 hjn1 v5), Lib.hid ?_, Lib.hid ?_⟩
        · rw [HNX.out]; exact (HKO.out.step hv hL hg5 ho5).set hOC5 hjn1 v5
        · exact (hg5.below HB.out (by have := HSK.out; omega) (fun q hq => by have := hge q hq; omega)).setCell (p := ⟨gk, j, none⟩) hG.2.2.1 v5
        · have := hg5.grown.size; have := HSK.out; simp; omega)
      have APP := Lib.hid (fun ty => appI1 (ty := ty) hov (i : Int) #[.int .i64 (i : Int)] rfl (by omega) HSK.out)
      have HLT := Lib.hid hlt
      have i0 : (0 : Int) ≤ (i : Int) := by omega
      have i1 : (i : Int) < (n : Int) := by omega
      have k0 : (0 : Int) ≤ (k : Int) := by omega
      have k1 : (k : Int) < (n : Int) := by omega
      have j0 : (0 : Int) ≤ (j : Int) := by omega
      have j1 : (j : Int) < (n1 : Int) := by omega
      have HJ := Lib.hid hj
      have HZ := Lib.hid hz
      obtain ⟨q, hq⟩ : ∃ q, q = L.length := ⟨_, rfl⟩
      rw [← hq] at APP s2 HPS
      clear hi hin hj hjn hcl hv hL hLe hov hLl hjn1 hlt hk hz hq
      by_cases hzm : z = -1
      · subst hzm
        obtain rfl : j = n := by rw [HJ.out]; unfold parN; rw [HZ.out]; rfl
        go_wp2_with (at_builtin; (refine wpList_app rfl (.tmp 34) (.tmp 36) _ _ rfl rfl rfl (APP.out _) ?_); rintro v5 w5 ⟨ho5, hg5⟩; obtain ⟨A5, c5, rfl, _, _⟩ := own_rd ho5; obtain ⟨t1, t2, HKO5, HOC5, HOP5, HOM5, HB5, HSK5⟩ := HPS.out _ w5 ho5 hg5; clear ho5 hg5 s1 s2 m0 p0)
        go_roundw
        case rel => exact ⟨k + 1, C.set j _, by go_num, HLT.out, HKO5, HOC5, HOP5, HOM5, HB5, HSK5⟩
        case measure => have := HLT.out; simp [intOf]; omega
      · have hzj : z = (j : Int) := by
          have h1 := HPP.out i z HZ.out
          rw [HJ.out]; unfold parN; rw [HZ.out]
          simp only [hzm, if_false]; omega
        subst hzj
        have b1 : ((j : Int) == -1) = false := beq_eq_false_iff_ne.2 hzm
        clear hzm
        go_wp2_with (at_builtin; (refine wpList_app rfl (.tmp 34) (.tmp 36) _ _ rfl rfl rfl (APP.out _) ?_); rintro v5 w5 ⟨ho5, hg5⟩; obtain ⟨A5, c5, rfl, _, _⟩ := own_rd ho5; obtain ⟨t1, t2, HKO5, HOC5, HOP5, HOM5, HB5, HSK5⟩ := HPS.out _ w5 ho5 hg5; clear ho5 hg5 s1 s2 m0 p0)
        go_roundw
        case rel => exact ⟨k + 1, C.set j _, by go_num, HLT.out, HKO5, HOC5, HOP5, HOM5, HB5, HSK5⟩
        case measure => have := HLT.out; simp [intOf]; omega
    · obtain rfl : k = n := by omega
      go_wp2_with fail
      go_ret
      exact ⟨gk, C, P, M, bK, by rw [HN1.out] <;> rfl, HP1.out, HBY.out, by rw [← HB0.out]; exact HG.out.2.2.2.2.2, by have h := HKO.out; rwa [List.take_of_length_le (by rw [HML.out]; exact Nat.le_refl _)] at h, by rw [← HB0.out, ← HN1.out]; exact HOC.out, by rw [← HB0.out]; exact HB.out⟩
end Go.Proofs.Ytgldjjmpjaegfaa

/- tree.reversed: a list from its end on. -/
namespace Go.Proofs.Ytgldjjmpjaegfaa
open Go.RowKit
set_option linter.unusedVariables false
set_option linter.unusedSimpArgs false
set_option maxRecDepth 100000

theorem encN_one (L : List Nat) : ∀ u ∈ L.map encN, u.oneCell' = true := by
  intro u hu
  obtain ⟨x, _, rfl⟩ := List.mem_map.1 hu
  rfl
set_option maxHeartbeats 1000000 in
theorem clone_ints (A : Option Addr) (L : List Nat) (n c B : Nat) (w : World) (hn : n = L.length) (hb : Rd w B A (L.map encN)) (hB : B ≤ w.heap.size) (hl : n ≤ 1000000) :
    Calls Try.prog 41 #[.slice A n c] w fun e w' => ∃ v', e = .returned v' ∧ w'.ownsRow w.heap.size 3 1 v' n (L.map encN) ∧ Below w.heap.size w w' := by
  obtain ⟨i0, hi, hz0, hz1, hz2⟩ := info_parts info_int
  have heq := fun (W : World) (A' : Option Addr) (n' c' : Nat) => Lib.run_eql_slice_nil (P := Try.prog) W 26 3 A' n' c' 0 0 Try.underlying26
  have hfl : (L.map encN).length = n * 1 := by rw [List.length_map, hn]; omega
  rcases A with _ | a
  · have h0 : L = [] := by
      rcases L with _ | ⟨x, r⟩
      · rfl
      · obtain ⟨a, h, _⟩ := hb (by rw [hfl, hn]; simp); cases h
    subst h0
    obtain rfl : n = 0 := hn
    go_enter Try.func41, Try.ntmps41
    go_wp2
    go_ret
    exact ⟨_, rfl, World.ownsRow_nil _ _ _ _, Below.refl _ _⟩
  · have HB := Lib.hid hb
    have HL := Lib.hid hfl
    have H1 := Lib.hid (encN_one L)
    clear hb hfl hn
    generalize L.map encN = xs at *
    go_enter Try.func41, Try.ntmps41
    go_wp2_with (at_builtin; refine wpList_app rfl (.tmp 5) (.tmp 6) _ _ rfl rfl rfl (run_append_rd _ w.heap.size _ _ 3 i0 _ 1 8 Try.underlying26 hi hz0 hz1 hz2 rfl (.slice (some ⟨w.heap.size, 0, none⟩) 0 0) 0 [] (World.ownsRow_made w #[] 0 (Nat.le_refl _) (Nat.zero_le _) rfl) B (some a) n c xs HL.out (HB.out.alloc hB _) H1.out (by unfold maxLen; omega) (by omega) (by simp)) ?_; rintro v1 w1 ⟨ho1, hg1⟩)
    go_ret
    have hg2 := hg1.alloc
    exact ⟨v1, rfl, by simpa using ho1, ⟨hg2.grown.os, hg2.grown.tape, hg2.grown.output, hg2.grown.size, fun i hi => hg2.grown.block i hi (by simp [Value.ownBlock]; omega)⟩⟩
/-- The first i and the last i exchanged. -/
def revF (n i q : Nat) : Nat := if q < i then n - 1 - q else if n ≤ q + i ∧ q < n then n - 1 - q else q
theorem rev_step {L M : List Nat} {n i j x y : Nat} (h : Sy.ByF (revF n i) L M) (hij : i < j) (hn : i + j + 1 = n) (hx : M[i]? = some x) (hy : M[j]? = some y) : Sy.ByF (revF n (i + 1)) L ((M.set i y).set j x) := by
  have hl1 := (List.getElem?_eq_some_iff.1 hx).1
  have hl2 := (List.getElem?_eq_some_iff.1 hy).1
  refine ⟨by rw [List.length_set, List.length_set]; exact h.1, fun q => ?_⟩
  rw [h.2] at hx hy
  rw [List.getElem?_set, List.getElem?_set, List.length_set]
  by_cases h1 : j = q
  · subst h1
    rw [if_pos rfl, if_pos hl2, ← hx]
    congr 1
    unfold revF
    repeat' split
    all_goals omega
  · rw [if_neg h1]
    by_cases h2 : i = q
    · subst h2
      rw [if_pos rfl, if_pos hl1, ← hy]
      congr 1
      unfold revF
      repeat' split
      all_goals omega
    · rw [if_neg h2, h.2]
      congr 1
      unfold revF
      repeat' split
      all_goals omega
theorem rev_fin {L M : List Nat} {n i : Nat} (h : Sy.ByF (revF n i) L M) (hn : L.length = n) (hi : n ≤ 2 * i + 1) (hin : i ≤ n) : M = L.reverse := by
  apply List.ext_getElem?
  intro q
  rw [h.2]
  rcases Nat.lt_or_ge q n with hq | hq
  · rw [List.getElem?_reverse (by omega)]
    congr 1
    unfold revF
    repeat' split
    all_goals omega
  · rw [List.getElem?_eq_none (l := L.reverse) (by simp; omega), List.getElem?_eq_none]
    unfold revF
    repeat' split
    all_goals omega
theorem rev_start (L : List Nat) (n : Nat) : Sy.ByF (revF n 0) L L := (Sy.ByF.refl L).congr fun q => by
  unfold revF
  repeat' split
  all_goals omega
set_option maxHeartbeats 1000000 in
theorem reverse_none (A : Option Addr) (c : Nat) (w : World) : Calls Try.prog 42 #[.slice A (0 : Nat) c] w fun e w' => e = .returned (.tuple #[]) ∧ w' = w := by
  go_enter Try.func42, Try.ntmps42
  go_wp2_with fail
  go_loopw [2, 3] (fun vi vj wq => vi = .int .i64 0 ∧ vj = .int .i64 (-1) ∧ w = wq) (fun _ _ _ => 0)
  case atStart => exact ⟨rfl, rfl, rfl⟩
  case round =>
    obtain ⟨rfl, rfl, hw⟩ := hrel
    subst hw
    go_wp2_with fail
    go_end0
    exact ⟨rfl, rfl⟩
set_option maxHeartbeats 8000000 in
theorem reverse_any (L : List Nat) (base g n cap : Nat) (w : World) (hO : w.ownsRow base 3 1 (.slice (some ⟨g, 0, none⟩) n cap) n ((L).map encN)) (hn : 0 < n) (hsm : n ≤ 1000000) :
    Calls Try.prog 42 #[.slice (some ⟨g, 0, none⟩) n cap] w fun e w' => e = .returned (.tuple #[]) ∧ w'.ownsRow base 3 1 (.slice (some ⟨g, 0, none⟩) n cap) n ((L.reverse).map encN) ∧ Below base w w' := by
  have HO := Lib.hid hO
  have HL := Lib.hid (own_lenN hO)
  obtain ⟨n1, hn1⟩ : ∃ n1, n = n1 + 1 := ⟨n - 1, by omega⟩
  have HN1 := Lib.hid hn1
  have e0 : IntKind.i64.wrap ((n : Int) - 1) = (n1 : Int) := by rw [IntKind.wrap_i64] <;> omega
  clear hO hn1 hn
  go_enter Try.func42, Try.ntmps42
  go_wp2_with fail
  clear e0
  go_loopw [2, 3] (fun vi vj wr => ∃ (i j : Nat) (M : List Nat), vi = .int .i64 (i : Int) ∧ vj = .int .i64 (j : Int) ∧ Hid (i + j + 1 = n) ∧ Hid (Sy.ByF (revF n i) L M) ∧ Hid (wr.ownsRow base 3 1 (.slice (some ⟨g, 0, none⟩) n cap) n ((M).map encN)) ∧ Hid (Below base w wr)) (fun _ vj _ => (intOf vj).toNat)
  case atStart => exact ⟨0, n1, L, rfl, rfl, Lib.hid (by have := HN1.out; omega), Lib.hid (rev_start L n), HO, Lib.hid (Below.refl _ _)⟩
  case round =>
    obtain ⟨i, j, M, rfl, rfl, HIJ, HM, HR, HB⟩ := hrel
    by_cases hlt : i < j
    · have hij := HIJ.out
      have hML := own_lenN HR.out
      obtain ⟨x, hx⟩ : ∃ x, M[i]? = some x := ⟨_, List.getElem?_eq_getElem (by omega)⟩
      obtain ⟨y, hy⟩ : ∃ y, M[j]? = some y := ⟨_, List.getElem?_eq_getElem (by omega)⟩
      have HST := Lib.hid (rev_step HM.out hlt hij hx hy)
      obtain ⟨x0, x1⟩ := own_atN HR.out hx
      obtain ⟨y0, y1⟩ := own_atN HR.out hy
      obtain ⟨i1, hi1⟩ : ∃ i1, i1 = i + 1 := ⟨_, rfl⟩
      obtain ⟨j1, hj1⟩ : ∃ j1, j = j1 + 1 := ⟨j - 1, by omega⟩
      have e1 : IntKind.i64.wrap ((i : Int) + 1) = (i1 : Int) := by rw [IntKind.wrap_i64] <;> omega
      have e2 : IntKind.i64.wrap ((j : Int) - 1) = (j1 : Int) := by rw [IntKind.wrap_i64] <;> omega
      have d0 : decide ((i : Int) < (j : Int)) = true := decide_eq_true (by omega)
      have d1 : decide (i < j) = true := decide_eq_true hlt
      have p0 : (0 : Int) ≤ (i : Int) := by omega
      have p1 : (i : Int) < (n : Int) := by omega
      have q0 : (0 : Int) ≤ (j : Int) := by omega
      have q1 : (j : Int) < (n : Int) := by omega
      have hne : i ≠ j := by omega
      have HPQ := Lib.hid (show i < n ∧ j < n from by omega)
      have HI1 := Lib.hid hi1
      have HJ1 := Lib.hid hj1
      clear hx hy hML hlt hij hi1 hj1
      go_wp2_with fail
      go_region
      obtain ⟨w9, hw9⟩ : ∃ w9, w9 = ((wr.setCell ⟨g, i, none⟩ (.int .i64 (y : Int))).setCell ⟨g, j, none⟩ (.int .i64 (x : Int))).drew := ⟨_, rfl⟩
      rw [← hw9]
      have HR9 := Lib.hid (show w9.ownsRow base 3 1 (.slice (some ⟨g, 0, none⟩) n cap) n (((M.set i y).set j x).map encN) from by
        rw [hw9]
        have h1 := own_setN HR.out HPQ.out.1 y
        have h2 := own_setN h1 HPQ.out.2 x
        with_reducible exact own_drewY h2)
      have HB9 := Lib.hid (show Below base w w9 from by
        rw [hw9]
        have hg := (own_baseY HR.out).1
        have h := (HB.out.setCell (p := ⟨g, i, none⟩) hg (.int .i64 (y : Int))).setCell (p := ⟨g, j, none⟩) hg (.int .i64 (x : Int))
        with_reducible exact Below.drewY h)
      clear hw9 x0 x1 y0 y1 HR HB
      go_wp2_with fail
      go_roundw
      case rel => exact ⟨i1, j1, (M.set i y).set j x, rfl, rfl, Lib.hid (by have := HIJ.out; have := HI1.out; have := HJ1.out; omega), by rw [HI1.out]; exact HST, HR9, HB9⟩
      case measure => have := HJ1.out; simp [intOf]; omega
    · have d0 : decide ((i : Int) < (j : Int)) = false := decide_eq_false (by omega)
      have d1 : decide (i < j) = false := decide_eq_false hlt
      have HNL := Lib.hid hlt
      clear hlt
      go_wp2_with fail
      go_end0
      have e := rev_fin HM.out HL.out (by have := HNL.out; have := HIJ.out; omega) (by have := HIJ.out; omega)
      exact ⟨rfl, by rw [← e]; exact HR.out, HB.out⟩
set_option maxHeartbeats 2000000 in
theorem reversed_any (A : Option Addr) (L : List Nat) (n c B : Nat) (w : World) (hn : n = L.length) (hb : Rd w B A (L.map encN)) (hB : B ≤ w.heap.size) (hl : n ≤ 1000000) :
    Calls Try.prog 33 #[.slice A n c] w fun e w' => ∃ A' c', e = .returned (.slice A' n c') ∧ w'.ownsRow w.heap.size 3 1 (.slice A' n c') n (L.reverse.map encN) ∧ Below w.heap.size w w' := by
  have CC := Lib.hid (clone_ints A L n c B w hn hb hB hl)
  have HN := Lib.hid hn
  clear hn hb hB
  obtain ⟨b0, hb0⟩ : ∃ b0, b0 = w.heap.size := ⟨_, rfl⟩
  have HB0 := Lib.hid hb0
  rw [← hb0] at CC ⊢
  clear hb0
  have RV : ∀ (v1 : Value) (w1 : World), w1.ownsRow b0 3 1 v1 n (L.map encN) → ∃ A1 c1, v1 = .slice A1 n c1 ∧ Hid (Calls Try.prog 42 #[.slice A1 n c1] w1 fun e w' => e = .returned (.tuple #[]) ∧ w'.ownsRow b0 3 1 (.slice A1 n c1) n (L.reverse.map encN) ∧ Below b0 w1 w') := fun v1 w1 ho => by
    obtain ⟨A1, c1, rfl, _, _⟩ := own_rd ho
    refine ⟨A1, c1, rfl, ?_⟩
    rcases Nat.eq_zero_or_pos n with h0 | h0
    · subst h0
      have hL : L = [] := List.eq_nil_of_length_eq_zero HN.out.symm
      subst hL
      exact Lib.hid ((reverse_none A1 c1 w1).mono (fun e w' h => ⟨h.1, by rw [h.2]; exact ho, by rw [h.2]; exact Below.refl _ _⟩))
    · obtain ⟨g, rfl, _⟩ := own_placeY ho h0
      exact Lib.hid (reverse_any L b0 g n c1 w1 ho h0 hl)
  have HRV := Lib.hid RV
  clear RV
  go_enter Try.func33, Try.ntmps33
  go_wp2_with (first
    | (go_at_call 42; (with_reducible refine RW.out.mono ?_); rintro ex w2 ⟨rfl, ho2, hb2⟩; have HO2 := Lib.hid ho2; have HB2 := Lib.hid hb2; clear ho2 hb2)
    | (go_at_call 41; (with_reducible refine CC.out.mono ?_); rintro ex w1 ⟨v1, rfl, ho1, hb1⟩; have HB1 := Lib.hid hb1; obtain ⟨A1, c1, rfl, RW⟩ := HRV.out v1 w1 ho1; clear ho1 hb1))
  go_ret
  exact ⟨A1, c1, rfl, HO2.out, by have h := HB1.out.trans HB2.out; rw [HB0.out] at h ⊢; exact h⟩
end Go.Proofs.Ytgldjjmpjaegfaa
