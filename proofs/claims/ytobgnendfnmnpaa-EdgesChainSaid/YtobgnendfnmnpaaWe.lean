/- EdgesTogether. -/
import Derived.Test.YtobgnendfnmnpaaWt
import Derived.Test.YtobgnendfnmnpaaFew
import Derived.Test.YtobgnendfnmnpaaBs
import Derived.BigQuiet
import Derived.Laws.StructEq
namespace Go.Proofs.Ytobgnendfnmnpaa
open Go.RowKit
set_option linter.unusedVariables false
set_option linter.unusedSimpArgs false
set_option maxRecDepth 100000

theorem infoSpan : (Try.prog.info? 33).map (fun i => (i.zero, i.size, i.bytes)) = some (some (.agg #[.int .u64 0, .int .u64 0, .int .u64 0, .int .u64 0, .string ⟨#[]⟩, .string ⟨#[]⟩, .int .i64 0, .int .i64 0, .bool false, .slice none 0 0]), 10, 112) := by kernel_rfl
theorem spcells_one (l : List Ls) : ∀ u ∈ l.flatMap Ls.cells, u.oneCell' = true := by
  intro u hu
  obtain ⟨x, _, hx⟩ := List.mem_flatMap.1 hu
  simp only [Ls.cells, List.mem_cons, List.not_mem_nil, or_false] at hx
  rcases hx with rfl | rfl | rfl | rfl | rfl | rfl | rfl | rfl | rfl | rfl <;> rfl
/-- Spans in a row of one's own, their attributes somebody else's. -/
structure RowS (w : World) (base B : Nat) (v : Value) (l : List Ls) : Prop where
  own : w.ownsRow base 33 10 v l.length (l.flatMap Ls.cells)
  each : ∀ x ∈ l, RdL w B x
section
variable {w w' : World} {base B : Nat} {v : Value} {l : List Ls}
theorem RowS.below (h : RowS w base B v l) (hb : Below w.heap.size w w') (hB : B ≤ w.heap.size) : RowS w' base B v l := ⟨own_below h.own hb, fun x hx => (h.each x hx).below (hb.mono hB)⟩
theorem RowS.nil (w : World) (base B : Nat) : RowS w base B (.slice none 0 0) [] := ⟨World.ownsRow_nil _ _ _ _, fun _ h => by cases h⟩
theorem RowS.rd (h : RowS w base B v l) (hB : B ≤ w.heap.size) : ∃ A c, v = .slice A l.length c ∧ l.length ≤ c ∧ RdSps w w.heap.size A l := by
  obtain ⟨A, c, hv, hc, hr⟩ := own_rd h.own
  exact ⟨A, c, hv, hc, hr, fun x hx => (h.each x hx).more hB⟩
theorem appRowS {ty : TypeId} {xs : List Ls} (k c : Nat) (hm : k = xs.length) (h : RowS w base B v l) (hx : ∀ e ∈ xs, RdL w B e) {B' : Nat} {A : Option Addr} (hr : Rd w B' A (xs.flatMap Ls.cells)) (hl : l.length ≤ 1000000) (hxl : k ≤ 1000000) (hbase : base ≤ w.heap.size) (hB : B ≤ base) :
    ∃ v' w', (Builtin.append_ #[25, 25] ty #[v, .slice A k c]).run Try.prog w = .ok v' w' ∧ (RowS w' base B v' (l ++ xs) ∧ Grew w w' v v') := by
  obtain ⟨i0, hi, hz0, hz1, hz2⟩ := info_parts infoSpan
  obtain ⟨v', w', r1, r2, r3⟩ := run_append_rd (P := Try.prog) w base 25 ty 33 i0 _ 10 112 Try.underlying25 hi hz0 hz1 hz2 rfl v l.length (l.flatMap Ls.cells) h.own B' A k c (xs.flatMap Ls.cells) (by rw [flatMap_len _ 10 cells_len, hm]) hr (spcells_one xs) (by unfold maxLen; omega) (by omega) hbase
  have hb := (r3.below (Below.refl base w) hbase (own_block_ge h.own)).mono hB
  refine ⟨v', w', r1, ⟨by rw [List.length_append, List.flatMap_append, ← hm]; exact r2, fun y hy => ?_⟩, r3⟩
  rcases List.mem_append.1 hy with hy | hy
  · exact (h.each y hy).below hb
  · exact (hx y hy).below hb
end
/-- The world behind w, with a trace in its first new block. -/
structure TG (w : World) (th tl : Int) (W : World) : Prop where
  b : Below w.heap.size w W
  lt : w.heap.size < W.heap.size
  row : W.heap[w.heap.size]? = some (.cells #[.int .u64 th, .int .u64 tl] 30)
theorem TG.step {w : World} {th tl : Int} {W W' : World} (h : TG w th tl W) (hb : Below W.heap.size W W') : TG w th tl W' :=
  ⟨h.b.trans (hb.mono h.b.size), Nat.lt_of_lt_of_le h.lt hb.size, (hb.block _ h.lt).trans h.row⟩
theorem TG.start (w : World) (th tl : Int) : TG w th tl (w.alloc (.cells #[.int .u64 th, .int .u64 tl] 30)) := ⟨(Below.refl _ _).alloc (Nat.le_refl _) _, by simp, heap_alloc_new w _⟩
theorem TG.stepB {w : World} {th tl : Int} {W W' : World} {B : Nat} (h : TG w th tl W) (hb : Below B W W') (hB : w.heap.size < B) : TG w th tl W' :=
  ⟨h.b.trans (hb.mono (Nat.le_of_lt hB)), Nat.lt_of_lt_of_le h.lt hb.size, (hb.block _ hB).trans h.row⟩
theorem RowS.rdn {w : World} {base B : Nat} {v : Value} {l : List Ls} (h : RowS w base B v l) (n : Nat) (hn : n = l.length) (hB : B ≤ w.heap.size) : ∃ A c, v = .slice A n c ∧ n ≤ c ∧ RdSps w w.heap.size A l := by
  subst hn; exact h.rd hB
theorem take_ne {x : Ls} {y : Ls} {l : List Ls} {k : Nat} (h : ∀ z ∈ l.take k, trOf x.s ≠ trOf z.s) (hy : l[k]? = some y) (hn : ¬ trOf x.s = trOf y.s) : ∀ z ∈ l.take (k + 1), trOf x.s ≠ trOf z.s := by
  intro z hz
  rw [List.take_add_one, hy] at hz
  rcases List.mem_append.1 hz with hz | hz
  · exact h z hz
  · simp at hz; subst hz; exact hn
theorem take_ne2 {x : Ls} {l m : List Ls} {k : Nat} (h : ∀ z ∈ l.take k, ∀ y ∈ m, trOf z.s ≠ trOf y.s) (hx : l[k]? = some x) (hn : ∀ y ∈ m.take m.length, trOf x.s ≠ trOf y.s) : ∀ z ∈ l.take (k + 1), ∀ y ∈ m, trOf z.s ≠ trOf y.s := by
  intro z hz
  rw [List.take_add_one, hx] at hz
  rcases List.mem_append.1 hz with hz | hz
  · exact h z hz
  · simp at hz; subst hz; rw [List.take_length] at hn; exact hn
theorem take_all {l m : List Ls} {k : Nat} (hk : k = l.length) (h : ∀ z ∈ l.take k, ∀ y ∈ m, trOf z.s ≠ trOf y.s) : ∀ z ∈ l, ∀ y ∈ m, trOf z.s ≠ trOf y.s := by
  rw [hk, List.take_length] at h; exact h
def spP (th tl : Int) : Ls := ⟨⟨th, tl, 1, 0, ⟨#[120]⟩, ⟨#[111]⟩, 0, 0, false, []⟩, none, 0⟩
def spQ (th tl : Int) : Ls := ⟨⟨th, tl, 2, 1, ⟨#[121]⟩, ⟨#[111]⟩, 0, 0, false, []⟩, none, 0⟩
theorem spP_ok {th tl : Int} (h : 0 ≤ th ∧ th ≤ 18446744073709551615) (h2 : 0 ≤ tl ∧ tl ≤ 18446744073709551615) : (spP th tl).s.ok := ⟨h, h2, (show (0 : Int) ≤ 1 ∧ (1 : Int) ≤ 18446744073709551615 by decide), (show (0 : Int) ≤ 0 ∧ (0 : Int) ≤ 18446744073709551615 by decide), (show (1 : Nat) ≤ maxLen by decide), (show (1 : Nat) ≤ maxLen by decide), (show (-9223372036854775808 : Int) ≤ 0 ∧ (0 : Int) ≤ 9223372036854775807 by decide), (show (-9223372036854775808 : Int) ≤ 0 ∧ (0 : Int) ≤ 9223372036854775807 by decide), Nat.zero_le _, fun a h => by cases h⟩
theorem spQ_ok {th tl : Int} (h : 0 ≤ th ∧ th ≤ 18446744073709551615) (h2 : 0 ≤ tl ∧ tl ≤ 18446744073709551615) : (spQ th tl).s.ok := ⟨h, h2, (show (0 : Int) ≤ 2 ∧ (2 : Int) ≤ 18446744073709551615 by decide), (show (0 : Int) ≤ 1 ∧ (1 : Int) ≤ 18446744073709551615 by decide), (show (1 : Nat) ≤ maxLen by decide), (show (1 : Nat) ≤ maxLen by decide), (show (-9223372036854775808 : Int) ≤ 0 ∧ (0 : Int) ≤ 9223372036854775807 by decide), (show (-9223372036854775808 : Int) ≤ 0 ∧ (0 : Int) ≤ 9223372036854775807 by decide), Nat.zero_le _, fun a h => by cases h⟩
theorem rightP (th tl : Int) : right (spP th tl).s = true := by
  unfold right spP
  rfl
theorem rightQ (th tl : Int) : right (spQ th tl).s = true := by
  unfold right spQ
  rfl
theorem callsP (th tl : Int) : callsK [spP th tl] 1 = [] := by
  have h : fstN [(spP th tl).s] (th, tl, 0) = none := by
    unfold fstN; simp [List.findIdx?_cons, nmOf, spP]
  unfold callsK
  simp only [List.take_succ_cons, List.take_zero, List.map_cons, List.map_nil, List.filterMap_cons, List.filterMap_nil]
  have h2 : callOf [(spP th tl).s] (spP th tl).s = none := by
    unfold callOf
    rw [show ((spP th tl).s.hi, (spP th tl).s.lo, (spP th tl).s.pa) = (th, tl, (0 : Int)) from rfl, h]; rfl
  rw [h2]
theorem callsQ (th tl : Int) : callsK [spQ th tl] 1 = [] := by
  have h : fstN [(spQ th tl).s] (th, tl, 1) = none := by
    unfold fstN; simp [List.findIdx?_cons, nmOf, spQ]
  unfold callsK
  simp only [List.take_succ_cons, List.take_zero, List.map_cons, List.map_nil, List.filterMap_cons, List.filterMap_nil]
  have h2 : callOf [(spQ th tl).s] (spQ th tl).s = none := by
    unfold callOf
    rw [show ((spQ th tl).s.hi, (spQ th tl).s.lo, (spQ th tl).s.pa) = (th, tl, (1 : Int)) from rfl, h]; rfl
  rw [h2]
theorem callsPQ (th tl : Int) : callsK [spP th tl, spQ th tl] 2 = [(⟨#[120]⟩, ⟨#[121]⟩, false)] := by
  have h0 : fstN [(spP th tl).s, (spQ th tl).s] (th, tl, 0) = none := by
    unfold fstN; simp [List.findIdx?_cons, nmOf, spP, spQ]
  have h1 : fstN [(spP th tl).s, (spQ th tl).s] (th, tl, 1) = some 0 := by
    unfold fstN
    rw [List.findIdx?_cons, rightP]
    simp [nmOf, spP]
  unfold callsK
  simp only [List.take_succ_cons, List.take_zero, List.map_cons, List.map_nil, List.filterMap_cons, List.filterMap_nil]
  have h2 : callOf [(spP th tl).s, (spQ th tl).s] (spP th tl).s = none := by
    unfold callOf
    rw [show ((spP th tl).s.hi, (spP th tl).s.lo, (spP th tl).s.pa) = (th, tl, (0 : Int)) from rfl, h0]; rfl
  have h3 : callOf [(spP th tl).s, (spQ th tl).s] (spQ th tl).s = some (⟨#[120]⟩, ⟨#[121]⟩, false) := by
    unfold callOf
    rw [show ((spQ th tl).s.hi, (spQ th tl).s.lo, (spQ th tl).s.pa) = (th, tl, (1 : Int)) from rfl, h1, rightQ]
    simp only [Option.bind_some, List.getElem?_cons_zero]
    rw [if_pos ⟨trivial, (show (⟨#[120]⟩ : ByteArray) ≠ ⟨#[121]⟩ by decide)⟩]; rfl
  rw [h2, h3]
theorem exPQ_one {M : List Eg} (h : CA 9 [] [(⟨#[120]⟩, ⟨#[121]⟩, false)] M) : M = [⟨⟨#[120]⟩, ⟨#[121]⟩, 1, 0⟩] := by
  have h1 := Tally.steps (most := 9) (by decide) (Tally.nil 9) (by simp) h
  have hc : Counted [] ⟨#[120]⟩ ⟨#[121]⟩ 9 false [⟨⟨#[120]⟩, ⟨#[121]⟩, 1, 0⟩] := ⟨0, false, ⟨⟨#[120]⟩, ⟨#[121]⟩, 0, 0⟩, Nat.le_refl _, ⟨fun h => (by cases h), fun _ => ⟨Nat.le_refl _, (fun x h => (by cases h)), (fun j x hj => absurd hj (Nat.not_lt_zero j)), (fun x h => (by cases h))⟩⟩, rfl, rfl⟩
  have h2 := Tally.step (most := 9) (Tally.nil 9) (by decide) (by simp) hc
  exact Tally.same h1 h2 (fun _ _ => rfl) (fun _ _ => rfl)
theorem drewT {w : World} {th tl : Int} {W : World} (h : TG w th tl W) (q : Nat) : TG w th tl (W.drewN q) := h.step ⟨rfl, rfl, rfl, Nat.le_refl _, fun _ _ => rfl⟩
set_option maxHeartbeats 16000000 in
theorem together11 (aA bA : Option Addr) (na nb ca cb : Nat) (la lb : List Ls) (th tl : Int) (most : Int) (w : World) (hna : na = la.length) (hnb : nb = lb.length) (hya : RdSps w w.heap.size aA la) (hyb : RdSps w w.heap.size bA lb) (hma : na ≤ maxLen) (hmb : nb ≤ maxLen) (hth : 0 ≤ th ∧ th ≤ 18446744073709551615) (htl : 0 ≤ tl ∧ tl ≤ 18446744073709551615) (hmr : -9223372036854775808 ≤ most ∧ most ≤ 9223372036854775807) :
    Calls Try.prog 4 #[.slice aA na ca, .slice bA nb cb, .agg #[.int .u64 th, .int .u64 tl], .int .i64 most] w fun e w' => e = .returned (.bool true) ∧ Below w.heap.size w w' := by
  have Fa := Lib.hid (fun W (hW : Below w.heap.size w W) => fewall_any aA la na ca w.heap.size W hna (hya.below hW) hW.size hma)
  have Fb := Lib.hid (fun W (hW : Below w.heap.size w W) => fewall_any bA lb nb cb w.heap.size W hnb (hyb.below hW) hW.size hmb)
  have HNa := Lib.hid hna
  have HNb := Lib.hid hnb
  have HYa := Lib.hid hya
  have HYb := Lib.hid hyb
  have HTH := Lib.hid hth
  have HTL := Lib.hid htl
  obtain ⟨mo, hmo⟩ : ∃ mo, mo = max most 0 := ⟨_, rfl⟩
  have HMO := Lib.hid hmo
  have hm0 : 0 ≤ mo := by omega
  have H0 := Lib.hid (TG.start w th tl)
  have H6a : Hid (fewAll la = true → na ≤ 60) := Lib.hid (fun h => by unfold fewAll at h; simp at h; omega)
  have H6b : Hid (fewAll lb = true → nb ≤ 60) := Lib.hid (fun h => by unfold fewAll at h; simp at h; omega)
  clear hna hnb hya hyb hmo hma hmb hth htl
  go_enter Try.func4, Try.ntmps4
  generalize fewAll la = fa at *
  generalize fewAll lb = fb at *
  cases fa
  · go_wp2_with (first
        | (go_at_call 8; (with_reducible refine (Fa.out _ HB1.out.b).mono ?_); rintro ex w2 ⟨rfl, hb2⟩; have HB2 := Lib.hid (TG.step HB1.out hb2); clear hb2)
        | (go_at_call 5; (with_reducible refine (alive11_calls _).mono ?_); rintro ex w1 ⟨rfl, hb1⟩; have HB1 := Lib.hid (TG.step H0.out hb1); clear hb1))
    go_ret
    exact ⟨rfl, HB2.out.b⟩
  cases fb
  · go_wp2_with (first
        | (go_at_call 8; (with_reducible refine (Fb.out _ HB2.out.b).mono ?_); rintro ex w3 ⟨rfl, hb3⟩; have HB3 := Lib.hid (TG.step HB2.out hb3); clear hb3)
        | (go_at_call 8; (with_reducible refine (Fa.out _ HB1.out.b).mono ?_); rintro ex w2 ⟨rfl, hb2⟩; have HB2 := Lib.hid (TG.step HB1.out hb2); clear hb2)
        | (go_at_call 5; (with_reducible refine (alive11_calls _).mono ?_); rintro ex w1 ⟨rfl, hb1⟩; have HB1 := Lib.hid (TG.step H0.out hb1); clear hb1))
    go_ret
    exact ⟨rfl, HB3.out.b⟩
  obtain ⟨n9, hn9⟩ : ∃ n9, n9 = na + nb := ⟨_, rfl⟩
  have i9 : (na : Int) + (nb : Int) = (n9 : Int) := by omega
  have HN9 := Lib.hid hn9
  have h60a := H6a.out rfl
  have h60b := H6b.out rfl
  have hM9 : n9 ≤ 120 := by omega
  clear hn9
  by_cases h60 : n9 ≤ 60
  case neg =>
    have d1 : decide ((60 : Int) < (n9 : Int)) = true := decide_eq_true (by omega)
    go_wp2_with (first
        | (go_at_call 8; (with_reducible refine (Fb.out _ HB2.out.b).mono ?_); rintro ex w3 ⟨rfl, hb3⟩; have HB3 := Lib.hid (TG.step HB2.out hb3); clear hb3)
        | (go_at_call 8; (with_reducible refine (Fa.out _ HB1.out.b).mono ?_); rintro ex w2 ⟨rfl, hb2⟩; have HB2 := Lib.hid (TG.step HB1.out hb2); clear hb2)
        | (go_at_call 5; (with_reducible refine (alive11_calls _).mono ?_); rintro ex w1 ⟨rfl, hb1⟩; have HB1 := Lib.hid (TG.step H0.out hb1); clear hb1))
    go_ret
    exact ⟨rfl, HB3.out.b⟩
  have d1 : decide ((60 : Int) < (n9 : Int)) = false := decide_eq_false (by omega)
  go_wp2_with (first
    | (go_at_call 8; (with_reducible refine (Fb.out _ HB2.out.b).mono ?_); rintro ex w3 ⟨rfl, hb3⟩; have HB3 := Lib.hid (TG.step HB2.out hb3); clear hb3)
    | (go_at_call 8; (with_reducible refine (Fa.out _ HB1.out.b).mono ?_); rintro ex w2 ⟨rfl, hb2⟩; have HB2 := Lib.hid (TG.step HB1.out hb2); clear hb2)
    | (go_at_call 5; (with_reducible refine (alive11_calls _).mono ?_); rintro ex w1 ⟨rfl, hb1⟩; have HB1 := Lib.hid (TG.step H0.out hb1); clear hb1))
  clear d1 i9 hM9
  go_loopw [10] (fun v wr => ∃ i : Nat, v = .int .i64 i ∧ i ≤ na ∧ Hid (TG w th tl wr) ∧ Hid (∀ x ∈ la.take i, ∀ y ∈ lb, trOf x.s ≠ trOf y.s)) (fun v _ => na - (intOf v).toNat)
  case atStart => exact ⟨0, rfl, Nat.zero_le _, HB3, Lib.hid (fun x hx => by simp at hx)⟩
  case round =>
    obtain ⟨i, rfl, hi, HT, HD⟩ := hrel
    by_cases hlt : i < na
    · obtain ⟨x, hx⟩ : ∃ x, la[i]? = some x := ⟨_, List.getElem?_eq_getElem (by rw [← HNa.out]; exact hlt)⟩
      have HX := Lib.hid hx
      clear hx
      go_wp2_with fail
      go_loopw [11] (fun v wr => ∃ k : Nat, v = .int .i64 k ∧ k ≤ nb ∧ Hid (TG w th tl wr) ∧ Hid (∀ y ∈ lb.take k, trOf x.s ≠ trOf y.s)) (fun v _ => nb - (intOf v).toNat)
      case atStart => exact ⟨0, rfl, Nat.zero_le _, HT, Lib.hid (fun y hy => by simp at hy)⟩
      case round =>
        clear HT
        obtain ⟨k, rfl, hk, HT, HE⟩ := hrel
        by_cases hkp : k < nb
        · obtain ⟨y, hy⟩ : ∃ y, lb[k]? = some y := ⟨_, List.getElem?_eq_getElem (by rw [← HNb.out]; exact hkp)⟩
          have HY := Lib.hid hy
          obtain ⟨a, ha, _, hca, _⟩ := (HYa.out.below HT.out.b).at_ HX.out
          obtain ⟨b, hb, _, hcb, _⟩ := (HYb.out.below HT.out.b).at_ hy
          subst ha
          subst hb
          have x0 : wr.cell? (a.add (i * 10)) = some (.int .u64 x.s.hi) := hca 0 _ rfl
          have x1 : wr.cell? ⟨(a.add (i * 10)).block, (a.add (i * 10)).off + 1, none⟩ = some (.int .u64 x.s.lo) := cell_far (hca 1 _ rfl) (by decide)
          have y0 : wr.cell? (b.add (k * 10)) = some (.int .u64 y.s.hi) := hcb 0 _ rfl
          have y1 : wr.cell? ⟨(b.add (k * 10)).block, (b.add (k * 10)).off + 1, none⟩ = some (.int .u64 y.s.lo) := cell_far (hcb 1 _ rfl) (by decide)
          clear hca hcb hy
          by_cases ht : trOf x.s = trOf y.s
          · have e1 : (x.s.hi == y.s.hi) = true := by have h9 := congrArg Prod.fst ht; simpa [trOf] using h9
            have e2 : (x.s.lo == y.s.lo) = true := by have h9 := congrArg Prod.snd ht; simpa [trOf] using h9
            clear ht
            generalize x.s.hi = xh at *
            generalize x.s.lo = xl at *
            generalize y.s.hi = yh at *
            generalize y.s.lo = yl at *
            go_wp2_with fail
            go_quiet (fail)
            go_wp2_with fail
            go_ret
            exact ⟨rfl, (drewT HT.out _).b⟩
          · have hcc : ((x.s.hi == y.s.hi) = false) ∨ ((x.s.hi == y.s.hi) = true ∧ (x.s.lo == y.s.lo) = false) := by
              by_cases h1 : x.s.hi = y.s.hi
              · right
                refine ⟨by simpa using h1, ?_⟩
                by_cases h2 : x.s.lo = y.s.lo
                · exact absurd (by unfold trOf; rw [h1, h2]) ht
                · simpa using h2
              · left; simpa using h1
            have HN2 := Lib.hid (take_ne HE.out HY.out ht)
            clear ht
            generalize x.s.hi = xh at *
            generalize x.s.lo = xl at *
            generalize y.s.hi = yh at *
            generalize y.s.lo = yl at *
            rcases hcc with h1 | ⟨h1, h2⟩
            all_goals
              go_wp2_with fail
              go_quiet (fail)
              go_wp2_with fail
              go_roundw
              case rel => exact ⟨k + 1, by go_num, by omega, Lib.hid (drewT HT.out _), HN2⟩
              case measure => simp [intOf]; omega
        · obtain rfl : k = nb := by omega
          have HN2 := Lib.hid (take_ne2 HD.out HX.out (HNb.out ▸ HE.out : ∀ y ∈ lb.take lb.length, _))
          go_wp2_with fail
          go_roundw
          case rel => exact ⟨i + 1, by go_num, by omega, HT, HN2⟩
          case measure => simp [intOf]; omega
    · obtain rfl : i = na := by omega
      have HDD := Lib.hid (take_all HNa.out HD.out)
      clear HD hlt hi HB1 HB2 HB3 Fa Fb H0 H6a H6b
      have h9 : n9 ≤ 60 := h60
      have HLL : Hid (n9 = (la ++ lb).length) := Lib.hid (by rw [List.length_append, ← HNa.out, ← HNb.out]; exact HN9.out)
      clear h60
      have HT4 := HT
      obtain ⟨B, hB⟩ : ∃ B, B = wr.heap.size := ⟨_, rfl⟩
      have HBE := Lib.hid hB
      have HBL : Hid (w.heap.size < B) := Lib.hid (by rw [hB]; exact HT.out.lt)
      have APP1 := Lib.hid (fun ty => appRowS (ty := ty) (base := B) (B := w.heap.size) (l := []) (xs := la) i ca HNa.out (RowS.nil wr _ _) (fun e he => ((HYa.out.below HT.out.b).each e he)) (HYa.out.below HT.out.b).rd (by simp) (by omega) (Nat.le_of_eq hB) (Nat.le_of_lt HBL.out))
      clear hB
      go_upto_region 13 with (first
        | (go_at_call 7; (with_reducible refine (add_nil w6 w6 (Below.refl _ _) A9 n9 c9 (la ++ lb) HLL.out HY9.out h9 most mo HMO.out hmr).mono ?_); rintro ex w7 ⟨A1, n1, c1, M1, rfl, hn1, hl1, hc1, he1, hr1, hb1, hx1⟩; have HN1 := Lib.hid hn1; have HC1 := Lib.hid hc1; have HR1 := Lib.hid hr1; have HT7 := Lib.hid (TG.step HT6.out hx1); clear hn1 hc1 he1 hr1 hb1 hx1)
        | (at_builtin; (refine wpList_app rfl (.tmp 64) (.tmp 65) _ _ rfl rfl rfl (APP2.out _) ?_); rintro v2 w6 ⟨ho2, hg2⟩; have HT6 := Lib.hid (TG.stepB HT5.out (hg2.below (Below.refl B w5) HB5.out (own_block_ge HO1.out.own)) HBL.out); obtain ⟨A9, c9, rfl, _, hy9⟩ := ho2.rdn n9 HLL.out (Nat.le_of_lt HT6.out.lt); have HY9 := Lib.hid hy9; clear ho2 hg2 hy9)
        | (at_builtin; (refine wpList_app rfl (.const (.slice none 0 0)) (.tmp 63) _ _ rfl rfl rfl (APP1.out _) ?_); rintro v1 w5 ⟨ho1, hg1⟩; rw [List.nil_append] at ho1; have HO1 := Lib.hid ho1; have HT5 := Lib.hid (TG.step HT4.out hg1.new); have HB5 : Hid (B ≤ w5.heap.size) := Lib.hid (by rw [HBE.out]; exact hg1.new.size); clear ho1 hg1; have APP2 := Lib.hid (fun ty => appRowS (ty := ty) (xs := lb) nb cb HNb.out HO1.out (fun e he => ((HYb.out.below HT5.out.b).each e he)) (HYb.out.below HT5.out.b).rd (by rw [← HNa.out]; omega) (by omega) HB5.out (Nat.le_of_lt HBL.out))))
      go_upto_region 14 with (first
    | (go_at_call 7; (with_reducible refine (add_at w _ HT8.out.b A2 n2 c2 M2 HN2.out HR2.out hs2 HE2.out bA nb cb lb HNb.out HYb.out h60b most mo HMO.out hmr).mono ?_); rintro ex w9 ⟨A3, n3, c3, M3, rfl, hn3, hl3, hc3, he3, hr3, hb3, hx3⟩; have hs3 : n3 ≤ 1000 := (by omega); have HN3 := Lib.hid hn3; have HC3 := Lib.hid hc3; have HE3 := Lib.hid he3; have HR3 := Lib.hid hr3; have HX3 := Lib.hid hx3; have HT9 := Lib.hid (TG.step HT8.out hx3); clear hn3 hc3 he3 hr3 hb3 hx3)
    | (go_at_call 7; (with_reducible refine (add_nil w _ HT7.out.b aA i ca la HNa.out HYa.out h60a most mo HMO.out hmr).mono ?_); rintro ex w8 ⟨A2, n2, c2, M2, rfl, hn2, hl2, hc2, he2, hr2, hb2, hx2⟩; have hs2 : n2 ≤ 1000 := (by omega); have HN2 := Lib.hid hn2; have HC2 := Lib.hid hc2; have HE2 := Lib.hid he2; have HR2 := Lib.hid hr2; have HX2 := Lib.hid hx2; have HT8 := Lib.hid (TG.step HT7.out hx2); clear hn2 hc2 he2 hr2 hb2 hx2))
      have hM := both_same hm0 HNa.out HNb.out HN9.out h9 HDD.out HC1.out HC2.out HC3.out
      subst hM
      have hn13 : n3 = n1 := by rw [HN3.out, HN1.out]
      subst hn13
      have HX13 := Lib.hid ((HX2.out.trans (HX3.out.mono HX2.out.size)))
      have HR1' := Lib.hid ((HR1.out.below HX13.out).more HX13.out.size)
      have hlt9 : w.heap.size < w9.heap.size := HT9.out.lt
      have t0 : w9.cell? ⟨w.heap.size, 0, none⟩ = some (.int .u64 th) := cell_of_row _ _ 0 _ _ (0, 0) HT9.out.row
      have t1 : w9.cell? ⟨w.heap.size, 1, none⟩ = some (.int .u64 tl) := cell_of_row _ _ 1 _ _ (0, 0) HT9.out.row
      go_upto_region 16 with fail
      clear t0 t1 hlt9
      obtain ⟨W, hW⟩ : ∃ W, W = (w9.alloc (.cells #[.int .u64 th, .int .u64 tl, .int .u64 1, .int .u64 0, .string ⟨#[120]⟩, .string ⟨#[111]⟩, .int .i64 0, .int .i64 0, .bool false, .slice none 0 0] 33)).alloc (.cells #[.int .u64 th, .int .u64 tl, .int .u64 2, .int .u64 1, .string ⟨#[121]⟩, .string ⟨#[111]⟩, .int .i64 0, .int .i64 0, .bool false, .slice none 0 0] 33) := ⟨_, rfl⟩
      obtain ⟨g, hg⟩ : ∃ g, g = w9.heap.size := ⟨_, rfl⟩
      obtain ⟨g2, hg2⟩ : ∃ g2, g2 = g + 1 := ⟨_, rfl⟩
      have hbW : Below w9.heap.size w9 W := by rw [hW]; exact ((Below.refl _ _).alloc (Nat.le_refl _) _).alloc (by simp) _
      have HSW : Hid (W.heap.size = g + 2) := Lib.hid (by rw [hW, hg]; simp)
      have HOP : Hid (RowS W g 0 (.slice (some ⟨g, 0, none⟩) 1 1) [spP th tl]) := Lib.hid ⟨by
        have h1 := World.ownsRow_lit (base := w9.heap.size) (e := 33) (size := 10) w9 #[.int .u64 th, .int .u64 tl, .int .u64 1, .int .u64 0, .string ⟨#[120]⟩, .string ⟨#[111]⟩, .int .i64 0, .int .i64 0, .bool false, .slice none 0 0] 1 (Nat.le_refl _) (by unfold maxLen; omega) rfl
        rw [hW, hg]
        exact own_below h1 ((Below.refl _ _).alloc (Nat.le_refl _) _), fun x hx => by
        simp only [List.mem_cons, List.not_mem_nil, or_false] at hx
        subst hx
        exact ⟨Rd.nil, ⟨Nat.le_refl _, Nat.zero_le _⟩, spP_ok HTH.out HTL.out⟩⟩
      have HYQ : Hid (RdSps W W.heap.size (some ⟨g2, 0, none⟩) [spQ th tl]) := Lib.hid ⟨by
        have h1 := Rd.lit (w9.alloc (.cells #[.int .u64 th, .int .u64 tl, .int .u64 1, .int .u64 0, .string ⟨#[120]⟩, .string ⟨#[111]⟩, .int .i64 0, .int .i64 0, .bool false, .slice none 0 0] 33)) #[.int .u64 th, .int .u64 tl, .int .u64 2, .int .u64 1, .string ⟨#[121]⟩, .string ⟨#[111]⟩, .int .i64 0, .int .i64 0, .bool false, .slice none 0 0] 33
        rw [hW, hg2, hg]
        simpa [spQ, Ls.cells] using h1, fun x hx => by
        simp only [List.mem_cons, List.not_mem_nil, or_false] at hx
        subst hx
        exact ⟨Rd.nil, ⟨Nat.le_refl _, Nat.zero_le _⟩, spQ_ok HTH.out HTL.out⟩⟩
      have HYP : Hid (RdSps W W.heap.size (some ⟨g, 0, none⟩) [spP th tl]) := Lib.hid (by
        obtain ⟨A, c, hv, _, hy⟩ := HOP.out.rd (Nat.zero_le _)
        injection hv with h1 _ _
        rw [h1]; exact hy)
      have HT11 := Lib.hid (HT9.out.step hbW)
      have HBW := Lib.hid hbW
      have HGW : Hid (g ≤ W.heap.size) := Lib.hid (by rw [HSW.out]; omega)
      have HG9 : Hid (w9.heap.size ≤ g) := Lib.hid (Nat.le_of_eq hg.symm)
      have HR1w := Lib.hid ((HR1'.out.below hbW).more hbW.size)
      have HR3w := Lib.hid ((HR3.out.below hbW).more hbW.size)
      have AP4 := Lib.hid (add_nil W W (Below.refl _ _) (some ⟨g, 0, none⟩) 1 1 [spP th tl] rfl HYP.out (by decide) 9 9 (by decide) ⟨by decide, by decide⟩)
      have AP5 := Lib.hid (fun W' (hW' : Below W.heap.size W W') (A : Option Addr) (c : Nat) (hr : Rd W' W'.heap.size A (([] : List Eg).flatMap Eg.cells)) => add_at W W' hW' A 0 c [] rfl hr (by decide) (fun y h => by cases h) (some ⟨g2, 0, none⟩) 1 1 [spQ th tl] rfl HYQ.out (by decide) 9 9 (by decide) ⟨by decide, by decide⟩)
      have AP7 := Lib.hid (fun W' (A : Option Addr) (c : Nat) (hy : RdSps W' W'.heap.size A ([spP th tl] ++ [spQ th tl])) => add_any none 0 0 [] A 2 c ([spP th tl] ++ [spQ th tl]) 9 9 W'.heap.size W' rfl Rd.nil (by decide) (fun y h => by cases h) rfl hy (Nat.le_refl _) (by decide) (by decide) ⟨by decide, by decide⟩)
      rw [← hW, ← hg, ← hg2]
      clear hW hg hg2 hbW
      go_upto_region 17 with (first
        | (go_at_call 7; (with_reducible refine (AP5.out w12 HX4.out A4 c4 HR4.out).mono ?_); rintro ex w13 ⟨A5, n5, c5, M5, rfl, hn5, hl5, hc5, he5, hr5, hb5, hx5⟩; rw [callsQ] at hc5; have hM5 : M5 = [] := hc5; subst hM5; have hn50 : n5 = 0 := hn5; subst hn50; have HX5 := Lib.hid hb5; have HT13 := Lib.hid (TG.step HT12.out hx5); clear hn5 hc5 he5 hr5 hb5 hx5)
        | (go_at_call 7; (with_reducible refine AP4.out.mono ?_); rintro ex w12 ⟨A4, n4, c4, M4, rfl, hn4, hl4, hc4, he4, hr4, hb4, hx4⟩; rw [callsP] at hc4; have hM4 : M4 = [] := hc4; subst hM4; have hn40 : n4 = 0 := hn4; subst hn40; have HR4 := Lib.hid hr4; have HX4 := Lib.hid hx4; have HT12 := Lib.hid (TG.step HT11.out hx4); clear hn4 hc4 he4 hr4 hb4 hx4))
      have hz13 := HX5.out.size
      have HOP13 := Lib.hid (HOP.out.below HX5.out (Nat.zero_le _))
      have HYQ13 := Lib.hid (HYQ.out.below HX5.out)
      have HG13 : Hid (g ≤ w13.heap.size) := Lib.hid (Nat.le_trans HGW.out hz13)
      have APP := Lib.hid (fun ty => appRowS (ty := ty) (xs := [spQ th tl]) 1 1 rfl HOP13.out (fun e he => by
        rw [List.mem_singleton] at he; subst he
        exact ⟨Rd.nil, ⟨Nat.le_refl _, Nat.zero_le _⟩, spQ_ok HTH.out HTL.out⟩) HYQ13.out.rd (show 1 ≤ 1000000 by decide) (show 1 ≤ 1000000 by decide) HG13.out (Nat.zero_le _))
      clear hz13
      go_upto_region 18 with (first
        | (go_at_call 7; (with_reducible refine (AP7.out w14 A6 c6 HY6.out).mono ?_); rintro ex w15 ⟨A7, n7, c7, M7, rfl, hn7, hl7, hc7, he7, ho7, hb7⟩; rw [show [spP th tl] ++ [spQ th tl] = [spP th tl, spQ th tl] from rfl, callsPQ] at hc7; have hM7 := exPQ_one hc7; subst hM7; have hn71 : n7 = 1 := hn7; subst hn71; have HO7 := Lib.hid ho7; have HX7 := Lib.hid hb7; clear hn7 hc7 he7 ho7 hb7)
        | (at_builtin; (refine wpList_app rfl (.tmp 85) (.tmp 86) _ _ rfl rfl rfl (APP.out _) ?_); rintro v6 w14 ⟨ho6, hg6⟩; have HX6 := Lib.hid (hg6.below (Below.refl g w13) HG13.out (own_block_ge HOP13.out.own)); obtain ⟨A6, c6, rfl, _, hy6⟩ := ho6.rdn 2 rfl (Nat.zero_le _); have HY6 := Lib.hid hy6; clear ho6 hg6 hy6))
      have hgw : w9.heap.size ≤ g := HG9.out
      have HB15 := Lib.hid (HT13.out.b.trans (((HX6.out.mono (Nat.le_of_lt (Nat.lt_of_lt_of_le HT9.out.lt hgw)))).trans (HX7.out.mono (by have := HX6.out.size; have := HT13.out.b.size; omega))))
      have hb9 : Below w9.heap.size w9 w15 := HBW.out.trans ((HX5.out.mono HBW.out.size).trans ((HX6.out.mono hgw).trans (HX7.out.mono (by have := HX6.out.size; have := HG13.out; omega))))
      have HR1z := Lib.hid ((HR1'.out.below hb9).more hb9.size)
      have HR3z := Lib.hid ((HR3.out.below hb9).more hb9.size)
      have SE := Lib.hid (sameedges_eq A1 A3 n3 c1 c3 M1 w15.heap.size w15 (by omega) HN1.out HR1z.out HR3z.out)
      obtain ⟨g7, rfl, _, _, _, _, _, _⟩ := own_parts HO7.out (by omega)
      go_wp2_with (go_at_call 6; (with_reducible refine SE.out.mono ?_); rintro ex w16 ⟨rfl, hb16⟩; have HB16 := Lib.hid hb16; have HO8 := own_below HO7.out hb16; obtain ⟨_, x0, _, _⟩ := own_setq HO8 (i := 0) (by omega) (.bool true); obtain ⟨_, x1, _, _⟩ := own_setq HO8 (i := 1) (by omega) (.bool true); obtain ⟨_, x2, _, _⟩ := own_setq HO8 (i := 2) (by omega) (.bool true); obtain ⟨_, x3, _, _⟩ := own_setq HO8 (i := 3) (by omega) (.bool true); simp [Eg.cells] at x0 x1 x2 x3; clear hb16 HO8)
      go_ret
      exact ⟨rfl, HB15.out.trans (HB16.out.mono HB15.out.size)⟩
end Go.Proofs.Ytobgnendfnmnpaa
