/- edges.Add. -/
import Derived.Test.YtobgnendfnmnpaaVf
import Derived.Test.YtobgnendfnmnpaaVn
import Derived.Test.YtobgnendfnmnpaaVc
import Derived.Test.YtobgnendfnmnpaaBs
import Derived.StillTailTactics
namespace Go.Proofs.Ytobgnendfnmnpaa
open Go.RowKit Go.Maps
set_option linter.unusedVariables false
set_option linter.unusedSimpArgs false
set_option maxRecDepth 100000

theorem strv_inj {s t : ByteArray} (h : s.toList = t.toList) : s = t := by
  have e : ∀ s : ByteArray, s.toList = s.data.toList := fun s => by
    obtain ⟨⟨l⟩⟩ := s
    exact ByteArray.toList_mk l
  rw [e, e] at h
  exact ByteArray.ext (Array.toList_inj.mp h)
theorem MapNm.not_own {w : World} {b n : Nat} {f : Nm → Option Nat} (h : MapNm w b n f) {base e size m : Nat} {v : Value} {xs : List Value} (ho : w.ownsRow base e size v m xs) : v.ownBlock ≠ some b := by
  obtain ⟨D, ⟨es, clock, h1, h2⟩, h3⟩ := h
  rcases ho.2 with ⟨rfl, _⟩ | ⟨g, cap, cur, rfl, _, hg, _⟩
  · simp [Value.ownBlock]
  · simp only [Value.ownBlock]
    intro he
    injection he with he
    subst he
    rw [hg] at h1
    cases h1
/-- A call: who calls, who is called, whether it failed. -/
abbrev Call := ByteArray × ByteArray × Bool
/-- The call that a span of a batch is, if it is one. -/
def callOf (b : List Sp) (s : Sp) : Option Call := (fstN b (s.hi, s.lo, s.pa)).bind fun p => (b[p]?).bind fun y => if right s = true ∧ y.sv ≠ s.sv then some (y.sv, s.sv, s.er) else none
def callsK (l : List Ls) (k : Nat) : List Call := ((l.take k).map Ls.s).filterMap (callOf (l.map Ls.s))
theorem calls_snoc (l : List Ls) (k : Nat) (x : Ls) (hx : l[k]? = some x) : callsK l (k + 1) = callsK l k ++ (callOf (l.map Ls.s) x.s).toList := by
  unfold callsK
  rw [List.take_add_one, hx, List.map_append, List.filterMap_append]
  congr 1
theorem calls_step (l : List Ls) (k : Nat) (x : Ls) (hx : l[k]? = some x) :
    (fstN (l.map Ls.s) (x.s.hi, x.s.lo, x.s.pa) = none → callsK l (k + 1) = callsK l k) ∧
      (∀ p y, fstN (l.map Ls.s) (x.s.hi, x.s.lo, x.s.pa) = some p → l[p]? = some y → callsK l (k + 1) = callsK l k ++ (if right x.s = true ∧ y.s.sv ≠ x.s.sv then some (y.s.sv, x.s.sv, x.s.er) else none : Option Call).toList) := by
  rw [calls_snoc l k x hx]
  constructor
  · intro h
    unfold callOf
    rw [h]; simp
  · intro p y h hy
    unfold callOf
    rw [h]
    simp [hy]
/-- Calls counted one behind the other. -/
def CA (most : Int) : List Eg → List Call → List Eg → Prop
  | L, [], M => M = L
  | L, c :: cs, M => ∃ N, Counted L c.1 c.2.1 most c.2.2 N ∧ CA most N cs M
theorem CA.snoc {most : Int} {c : Call} {N : List Eg} : ∀ {cs : List Call} {L M : List Eg}, CA most L cs M → Counted M c.1 c.2.1 most c.2.2 N → CA most L (cs ++ [c]) N
  | [], L, M, h, hc => by cases h; exact ⟨N, hc, rfl⟩
  | d :: cs, L, M, ⟨N', h1, h2⟩, hc => ⟨N', h1, CA.snoc h2 hc⟩
/-- Its numbers are such as there are. -/
def EgOk (L : List Eg) : Prop := ∀ y ∈ L, (-9223372036854775808 ≤ y.cn ∧ y.cn ≤ 9223372036854775807 ∧ -9223372036854775808 ≤ y.er ∧ y.er ≤ 9223372036854775807)
theorem counted_len {l M : List Eg} {fr tt : ByteArray} {most : Int} {err : Bool} (h : Counted l fr tt most err M) : M.length ≤ l.length + 1 := by
  obtain ⟨i, ok, y, hi, _, _, rfl⟩ := h
  rw [List.length_set]
  unfold rowG
  split
  · omega
  · simp; omega
theorem plus_in (a b : Int) : 0 ≤ Bm.plus a b ∧ Bm.plus a b ≤ 9223372036854775807 := by
  unfold Bm.plus
  split <;> omega
theorem counted_ok {l M : List Eg} {fr tt : ByteArray} {most : Int} {err : Bool} (hl : EgOk l) (h0 : 0 ≤ most) (h1 : most ≤ 9223372036854775807) (h : Counted l fr tt most err M) : EgOk M := by
  obtain ⟨i, ok, y, hi, _, _, rfl⟩ := h
  intro z hz
  rcases List.mem_or_eq_of_mem_set hz with hz | rfl
  · unfold rowG at hz
    split at hz
    · exact hl z hz
    · rcases List.mem_append.1 hz with hz | hz
      · exact hl z (List.mem_of_mem_take hz)
      · rcases List.mem_cons.1 hz with rfl | hz
        · exact ⟨by simp, by simp, by simp, by simp⟩
        · exact hl z (List.mem_of_mem_drop hz)
  · have h2 := plus_in y.cn 1
    have h3 := plus_in y.er (if err = true then 1 else 0)
    simp only [bumpG]
    omega
def AgN (b : Addr) (p n c gx : Nat) (pv : ByteArray) (x0 x1 x2 x3 : Int) (x4 x5 : ByteArray) (x6 x7 : Int) (x8 : Bool) (xA : Option Addr) (m xc : Nat) : Nat → Value → World → Prop
  | 0, v, _ => v = .bool true
  | 1, v, _ => v = .bool true
  | 2, v, _ => v = .agg #[.int .u64 x0, .int .u64 x1, .int .u64 x2, .int .u64 x3, .string x4, .string x5, .int .i64 x6, .int .i64 x7, .bool x8, .slice xA m xc]
  | 3, v, _ => v = .bool false
  | 4, v, _ => v = .bool false
  | 5, v, _ => v = .bool false
  | 6, v, _ => v = undef
  | 7, v, _ => v = undef
  | 8, v, _ => v = undef
  | 9, v, _ => v = undef
  | 10, v, _ => v = undef
  | 11, v, _ => v = undef
  | 12, v, _ => v = undef
  | 13, v, _ => v = undef
  | 14, v, _ => v = .bool false
  | _, _, _ => True
theorem AgN.keep {b : Addr} {p n c gx : Nat} {pv : ByteArray} {x0 x1 x2 x3 : Int} {x4 x5 : ByteArray} {x6 x7 : Int} {x8 : Bool} {xA : Option Addr} {m xc : Nat} {w w' : World} {i : Nat} {v : Value} (h : AgN b p n c gx pv x0 x1 x2 x3 x4 x5 x6 x7 x8 xA m xc i v w) : AgN b p n c gx pv x0 x1 x2 x3 x4 x5 x6 x7 x8 xA m xc i v w' := by
  match i, h with
  | 0, h => exact h
  | 1, h => exact h
  | 2, h => exact h
  | 3, h => exact h
  | 4, h => exact h
  | 5, h => exact h
  | 6, h => exact h
  | 7, h => exact h
  | 8, h => exact h
  | 9, h => exact h
  | 10, h => exact h
  | 11, h => exact h
  | 12, h => exact h
  | 13, h => exact h
  | 14, h => exact h
  | _ + 15, h => trivial
def AgS (b : Addr) (p n c gx : Nat) (pv : ByteArray) (x0 x1 x2 x3 : Int) (x4 x5 : ByteArray) (x6 x7 : Int) (x8 : Bool) (xA : Option Addr) (m xc : Nat) : Nat → Value → World → Prop
  | 0, v, _ => v = .bool true
  | 1, v, _ => v = .bool true
  | 2, v, _ => v = .agg #[.int .u64 x0, .int .u64 x1, .int .u64 x2, .int .u64 x3, .string x4, .string x5, .int .i64 x6, .int .i64 x7, .bool x8, .slice xA m xc]
  | 3, v, _ => v = .bool true
  | 4, v, _ => v = .bool true
  | 5, v, _ => v = .bool true
  | 6, v, _ => v = .slice (some b) n c
  | 7, v, _ => v = .int .i64 (p : Int)
  | 8, v, _ => v = .pointer (some (b.add (p * 10)))
  | 9, v, _ => v = .pointer (some ⟨(b.add (p * 10)).block, (b.add (p * 10)).off + 4, none⟩)
  | 10, v, _ => v = .string pv
  | 11, v, _ => v = .pointer (some ⟨gx, 4, none⟩)
  | 12, v, _ => v = .string x4
  | 13, v, _ => v = .bool false
  | 14, v, _ => v = .bool false
  | _, _, _ => True
theorem AgS.keep {b : Addr} {p n c gx : Nat} {pv : ByteArray} {x0 x1 x2 x3 : Int} {x4 x5 : ByteArray} {x6 x7 : Int} {x8 : Bool} {xA : Option Addr} {m xc : Nat} {w w' : World} {i : Nat} {v : Value} (h : AgS b p n c gx pv x0 x1 x2 x3 x4 x5 x6 x7 x8 xA m xc i v w) : AgS b p n c gx pv x0 x1 x2 x3 x4 x5 x6 x7 x8 xA m xc i v w' := by
  match i, h with
  | 0, h => exact h
  | 1, h => exact h
  | 2, h => exact h
  | 3, h => exact h
  | 4, h => exact h
  | 5, h => exact h
  | 6, h => exact h
  | 7, h => exact h
  | 8, h => exact h
  | 9, h => exact h
  | 10, h => exact h
  | 11, h => exact h
  | 12, h => exact h
  | 13, h => exact h
  | 14, h => exact h
  | _ + 15, h => trivial
def AgD (b : Addr) (p n c gx : Nat) (pv : ByteArray) (x0 x1 x2 x3 : Int) (x4 x5 : ByteArray) (x6 x7 : Int) (x8 : Bool) (xA : Option Addr) (m xc : Nat) : Nat → Value → World → Prop
  | 0, v, _ => v = .bool true
  | 1, v, _ => v = .bool true
  | 2, v, _ => v = .agg #[.int .u64 x0, .int .u64 x1, .int .u64 x2, .int .u64 x3, .string x4, .string x5, .int .i64 x6, .int .i64 x7, .bool x8, .slice xA m xc]
  | 3, v, _ => v = .bool true
  | 4, v, _ => v = .bool true
  | 5, v, _ => v = .bool true
  | 6, v, _ => v = .slice (some b) n c
  | 7, v, _ => v = .int .i64 (p : Int)
  | 8, v, _ => v = .pointer (some (b.add (p * 10)))
  | 9, v, _ => v = .pointer (some ⟨(b.add (p * 10)).block, (b.add (p * 10)).off + 4, none⟩)
  | 10, v, _ => v = .string pv
  | 11, v, _ => v = .pointer (some ⟨gx, 4, none⟩)
  | 12, v, _ => v = .string x4
  | 13, v, _ => v = .bool true
  | 14, v, _ => v = .bool true
  | _, _, _ => True
theorem AgD.keep {b : Addr} {p n c gx : Nat} {pv : ByteArray} {x0 x1 x2 x3 : Int} {x4 x5 : ByteArray} {x6 x7 : Int} {x8 : Bool} {xA : Option Addr} {m xc : Nat} {w w' : World} {i : Nat} {v : Value} (h : AgD b p n c gx pv x0 x1 x2 x3 x4 x5 x6 x7 x8 xA m xc i v w) : AgD b p n c gx pv x0 x1 x2 x3 x4 x5 x6 x7 x8 xA m xc i v w' := by
  match i, h with
  | 0, h => exact h
  | 1, h => exact h
  | 2, h => exact h
  | 3, h => exact h
  | 4, h => exact h
  | 5, h => exact h
  | 6, h => exact h
  | 7, h => exact h
  | 8, h => exact h
  | 9, h => exact h
  | 10, h => exact h
  | 11, h => exact h
  | 12, h => exact h
  | 13, h => exact h
  | 14, h => exact h
  | _ + 15, h => trivial
set_option maxHeartbeats 32000000 in
theorem add_any (lA : Option Addr) (nL cL : Nat) (L : List Eg) (A : Option Addr) (n c : Nat) (l : List Ls) (most mo : Int) (B : Nat) (w : World) (hnL : nL = L.length) (hrL : Rd w B lA (L.flatMap Eg.cells)) (hsL : nL ≤ 40000) (hok : EgOk L) (hn : n = l.length) (hy : RdSps w B A l) (hB : B ≤ w.heap.size) (hsm : n ≤ 40000) (hmo : mo = max most 0) (hmr : -9223372036854775808 ≤ most ∧ most ≤ 9223372036854775807) :
    Calls Try.prog 7 #[.slice lA nL cL, .slice A n c, .int .i64 most] w fun e w' => ∃ (A' : Option Addr) (n' c' : Nat) (M : List Eg), e = .returned (.slice A' n' c') ∧ n' = M.length ∧ n' ≤ nL + n ∧ CA mo L (callsK l n) M ∧ EgOk M ∧ w'.ownsRow w.heap.size 36 4 (.slice A' n' c') n' (M.flatMap Eg.cells) ∧ Below w.heap.size w w' := by
  have HY := Lib.hid hy
  have HN := Lib.hid hn
  have HOKL := Lib.hid hok
  have HNL := Lib.hid hnL
  have CLC := Lib.hid (g_clone lA L nL cL B w hnL hrL hB (by omega))
  have HFP : Hid (∀ u p, fstN (l.map Ls.s) u = some p → ∃ y, l[p]? = some y ∧ right y.s = true) := Lib.hid (fun u p h => by
    unfold fstN at h
    obtain ⟨hp, h1, _⟩ := List.findIdx?_eq_some_iff_getElem.1 h
    rw [List.length_map] at hp
    refine ⟨l[p], List.getElem?_eq_getElem hp, ?_⟩
    rw [List.getElem_map] at h1
    exact (Bool.and_eq_true _ _ ▸ h1).1)
  have HMO := Lib.hid hmo
  have hm0 : 0 ≤ mo := by omega
  have hm1 : mo ≤ 9223372036854775807 := by omega
  clear hy hn hok hnL hrL hmo
  go_enter Try.func7, Try.ntmps7
  go_upto_region 2 with (go_at_call 9; (with_reducible refine CLC.out.mono ?_); rintro ex w1 ⟨v1, rfl, ho1, hb1⟩; have HO1 := Lib.hid ho1; have HB1 := Lib.hid hb1; clear ho1 hb1)
  obtain ⟨A1, c1, rfl, _, _⟩ := own_rd HO1.out
  have FIC := Lib.hid (firsts_any A n c l B w1 HN.out (HY.out.below (HB1.out.mono hB)) (Nat.le_trans hB HB1.out.size) (by omega))
  go_wp2_with (go_at_call 10; (with_reducible refine FIC.out.mono ?_); rintro ex w2 ⟨g, nn, rfl, hnn, hg1, hb2, hm2⟩; have HB2 := Lib.hid hb2; have HM2 := Lib.hid hm2; clear hb2 hm2)
  have HO2 := Lib.hid (own_below HO1.out HB2.out)
  have HB3 := Lib.hid (HB1.out.trans (HB2.out.mono HB1.out.size))
  clear FIC CLC
  go_loopw [7, 19] (fun o i wr => ∃ (k : Nat) (A1 : Option Addr) (n1 c1 : Nat) (M : List Eg), k ≤ n ∧ i = .int .i64 k ∧ o = .slice A1 n1 c1 ∧ Hid (n1 = M.length) ∧ n1 ≤ nL + k ∧ Hid (wr.ownsRow w.heap.size 36 4 (.slice A1 n1 c1) n1 (M.flatMap Eg.cells)) ∧ Hid (Below w.heap.size w wr) ∧ Hid (MapNm wr g nn (fstN (l.map Ls.s))) ∧ Hid (CA mo L (callsK l k) M) ∧ Hid (EgOk M)) (fun _ i _ => n - (intOf i).toNat)
  case atStart => exact ⟨0, _, _, _, L, Nat.zero_le _, rfl, rfl, HNL, Nat.le_refl _, HO2, HB3, HM2, Lib.hid rfl, HOKL⟩
  case round =>
    obtain ⟨k, A1, n1, c1, M, hk, rfl, rfl, HN1, hn1, HO, HB, HM, HC, HBD1⟩ := hrel
    have hws := HB.out.size
    by_cases hlt : k < n
    · obtain ⟨x, hx⟩ : ∃ x, l[k]? = some x := ⟨l[k]'(by rw [← HN.out]; exact hlt), List.getElem?_eq_getElem _⟩
      have HR := Lib.hid ((HY.out.below (HB.out.mono hB)))
      obtain ⟨b, rfl, hbb, hd, hxl⟩ := HR.out.at_ hx
      have HX := Lib.hid hx
      have HST := Lib.hid (calls_step l k x hx)
      obtain ⟨⟨x0, x1, x2, x3, x4, x5, x6, x7, x8, ats⟩, xA, xc⟩ := x
      obtain ⟨m, hm⟩ : ∃ m, m = ats.length := ⟨_, rfl⟩
      have d0 := hd 0 _ rfl
      have d1 := cell_far (hd 1 _ rfl) (by omega)
      have d2 := cell_far (hd 2 _ rfl) (by omega)
      have d3 := cell_far (hd 3 _ rfl) (by omega)
      have d4 := cell_far (hd 4 _ rfl) (by omega)
      have d5 := cell_far (hd 5 _ rfl) (by omega)
      have d6 := cell_far (hd 6 _ rfl) (by omega)
      have d7 := cell_far (hd 7 _ rfl) (by omega)
      have d8 := cell_far (hd 8 _ rfl) (by omega)
      have d9 : wr.cell? ⟨(b.add (k * 10)).block, (b.add (k * 10)).off + 9, none⟩ = some (.slice xA m xc) := by rw [hm]; exact cell_far (hd 9 _ rfl) (by omega)
      simp only [Nat.add_zero] at d0
      simp only at d1 d2 d3 d4 d5 d6 d7 d8
      have HMM := Lib.hid hm
      have HXL := Lib.hid hxl
      have HOK : Hid (Nm.ok (x0, x1, x3)) := Lib.hid ⟨hxl.ok.hi, hxl.ok.lo, hxl.ok.pa⟩
      have i1 : (k : Int) < (n : Int) := by omega
      have i0 : (0 : Int) ≤ (k : Int) := by omega
      clear hd hx hm hxl
      go_upto_region 6 with fail
      have hq5 := heap_alloc_new wr (.cells #[.int .u64 x0, .int .u64 x1, .int .u64 x2, .int .u64 x3, .string x4, .string x5, .int .i64 x6, .int .i64 x7, .bool x8, .slice xA m xc] 33)
      have hA1 := ((Below.refl wr.heap.size wr).alloc (Nat.le_refl _) (.cells #[.int .u64 x0, .int .u64 x1, .int .u64 x2, .int .u64 x3, .string x4, .string x5, .int .i64 x6, .int .i64 x7, .bool x8, .slice xA m xc] 33))
      have hsz2 : (wr.alloc (.cells #[.int .u64 x0, .int .u64 x1, .int .u64 x2, .int .u64 x3, .string x4, .string x5, .int .i64 x6, .int .i64 x7, .bool x8, .slice xA m xc] 33)).heap.size = wr.heap.size + 1 := by simp
      have HM5 : Hid (MapNm (wr.alloc (.cells #[.int .u64 x0, .int .u64 x1, .int .u64 x2, .int .u64 x3, .string x4, .string x5, .int .i64 x6, .int .i64 x7, .bool x8, .slice xA m xc] 33)) g nn (fstN (l.map Ls.s))) := Lib.hid (HM.out.block (hA1.block g HM.out.lt))
      have HR5 := Lib.hid (HR.out.below (hA1.mono (Nat.le_trans hB hws)))
      have HX5 : Hid (RdL (wr.alloc (.cells #[.int .u64 x0, .int .u64 x1, .int .u64 x2, .int .u64 x3, .string x4, .string x5, .int .i64 x6, .int .i64 x7, .bool x8, .slice xA m xc] 33)) B ⟨⟨x0, x1, x2, x3, x4, x5, x6, x7, x8, ats⟩, xA, xc⟩) := Lib.hid (HXL.out.below (hA1.mono (Nat.le_trans hB hws)))
      have HA1 := Lib.hid hA1
      clear d0 d1 d2 d3 d4 d5 d6 d7 d8 d9 hA1
      generalize wr.alloc (.cells #[.int .u64 x0, .int .u64 x1, .int .u64 x2, .int .u64 x3, .string x4, .string x5, .int .i64 x6, .int .i64 x7, .bool x8, .slice xA m xc] 33) = w5 at *
      have q0 : w5.cell? ⟨wr.heap.size, 0, none⟩ = some (.int .u64 x0) := cell_of_row _ _ 0 _ _ (0, 0) hq5
      have q1 : w5.cell? ⟨wr.heap.size, 1, none⟩ = some (.int .u64 x1) := cell_of_row _ _ 1 _ _ (0, 0) hq5
      have q2 : w5.cell? ⟨wr.heap.size, 2, none⟩ = some (.int .u64 x2) := cell_of_row _ _ 2 _ _ (0, 0) hq5
      have q3 : w5.cell? ⟨wr.heap.size, 3, none⟩ = some (.int .u64 x3) := cell_of_row _ _ 3 _ _ (0, 0) hq5
      have q4 : w5.cell? ⟨wr.heap.size, 4, none⟩ = some (.string x4) := cell_of_row _ _ 4 _ _ (0, 0) hq5
      have q5 : w5.cell? ⟨wr.heap.size, 5, none⟩ = some (.string x5) := cell_of_row _ _ 5 _ _ (0, 0) hq5
      have q6 : w5.cell? ⟨wr.heap.size, 6, none⟩ = some (.int .i64 x6) := cell_of_row _ _ 6 _ _ (0, 0) hq5
      have q7 : w5.cell? ⟨wr.heap.size, 7, none⟩ = some (.int .i64 x7) := cell_of_row _ _ 7 _ _ (0, 0) hq5
      have q8 : w5.cell? ⟨wr.heap.size, 8, none⟩ = some (.bool x8) := cell_of_row _ _ 8 _ _ (0, 0) hq5
      have q9 : w5.cell? ⟨wr.heap.size, 9, none⟩ = some (.slice xA m xc) := cell_of_row _ _ 9 _ _ (0, 0) hq5
      have hB5 : B ≤ w5.heap.size := by omega
      have RI2 := Lib.hid (right_lit x0 x1 x2 x3 x4 x5 x6 x7 x8 ats xA xc m B w5.drew HMM.out (HX5.out.below ⟨rfl, rfl, rfl, Nat.le_refl _, fun _ _ => rfl⟩) hB5)
      rcases dm : fstN (l.map Ls.s) (x0, x1, x3) with _ | p
      · have hst := HST.out.1 dm
        go_upto_region 7 with (at_lookup; refine wpList_nm HM5.out HOK.out rfl (.tmp 24) (.tmp 29) rfl rfl rfl ?_; intro cc hcc; rw [dm]; clear hcc)
        go_quiet (fail)
        have hBw : Below wr.heap.size wr (w5.drewN nq) := ⟨HA1.out.os, HA1.out.tape, HA1.out.output, HA1.out.size, HA1.out.block⟩
        have HB9 : Hid (Below w.heap.size w (w5.drewN nq)) := Lib.hid (HB.out.trans (hBw.mono hws))
        have HM9 : Hid (MapNm (w5.drewN nq) g nn (fstN (l.map Ls.s))) := Lib.hid (HM.out.block (hBw.block g HM.out.lt))
        have HO9 := Lib.hid (own_below HO.out hBw)
        clear hBw
        have HC9 : Hid (CA mo L (callsK l (k + 1)) M) := Lib.hid (by rw [hst]; exact HC.out)
        clear hst
        go_wp2_with fail
        go_roundw
        case rel => exact ⟨k + 1, A1, n1, c1, M, by omega, by go_num, rfl, HN1, by omega, HO9, HB9, HM9, HC9, HBD1⟩
        case measure => simp [intOf]; omega
      · obtain ⟨y, hy, hyr⟩ := HFP.out _ _ dm
        obtain ⟨b', hb', hbb', hd', _⟩ := HR5.out.at_ hy
        injection hb' with hb'
        subst hb'
        have hpn : p < n := by rw [HN.out]; exact (List.getElem?_eq_some_iff.1 hy).1
        have p1 : (p : Int) < (n : Int) := by omega
        have p0 : (0 : Int) ≤ (p : Int) := by omega
        have t4 := cell_far (hd' 4 _ rfl) (by omega)
        try simp only at t4
        have hst := HST.out.2 p y dm hy
        obtain ⟨pv, hpv⟩ : ∃ pv, pv = y.s.sv := ⟨_, rfl⟩
        rw [← hpv] at t4 hst
        have hpvb : (pv.toList == x4.toList) = decide (pv = x4) := by
          by_cases h : pv = x4
          · rw [h]; simp
          · cases h2 : (pv.toList == x4.toList)
            · simp [h]
            · exact absurd (strv_inj (by simpa using h2)) h
        go_upto_region 7 with (at_lookup; refine wpList_nm HM5.out HOK.out rfl (.tmp 24) (.tmp 29) rfl rfl rfl ?_; intro cc hcc; rw [dm]; have hcd := hcc p dm; clear hcc; subst hcd)
        obtain ⟨W, hW⟩ : ∃ W, W = w5.drew := ⟨_, rfl⟩
        have hWr : Below w5.heap.size w5 W := by rw [hW]; exact ⟨rfl, rfl, rfl, Nat.le_refl _, fun _ _ => rfl⟩
        have SS := Lib.hid (show ∀ V, Below W.heap.size W V → (Hid (Below w5.heap.size w5 V) ∧ V.cell? ⟨(b.add (p * 10)).block, (b.add (p * 10)).off + 4, none⟩ = some (.string pv) ∧ V.cell? ⟨wr.heap.size, 0, none⟩ = some (.int .u64 x0) ∧ V.cell? ⟨wr.heap.size, 1, none⟩ = some (.int .u64 x1) ∧ V.cell? ⟨wr.heap.size, 2, none⟩ = some (.int .u64 x2) ∧ V.cell? ⟨wr.heap.size, 3, none⟩ = some (.int .u64 x3) ∧ V.cell? ⟨wr.heap.size, 4, none⟩ = some (.string x4) ∧ V.cell? ⟨wr.heap.size, 5, none⟩ = some (.string x5) ∧ V.cell? ⟨wr.heap.size, 6, none⟩ = some (.int .i64 x6) ∧ V.cell? ⟨wr.heap.size, 7, none⟩ = some (.int .i64 x7) ∧ V.cell? ⟨wr.heap.size, 8, none⟩ = some (.bool x8) ∧ V.cell? ⟨wr.heap.size, 9, none⟩ = some (.slice xA m xc)) from fun V hV2 => by
          have hV : Below w5.heap.size w5 V := hWr.trans (hV2.mono hWr.size)
          have hg : wr.heap.size < w5.heap.size := by omega
          refine ⟨Lib.hid hV, (hV.cell (by show (b.add _).block < _; rw [block_add]; omega)).trans t4, (hV.cell (by exact hg)).trans q0, (hV.cell (by exact hg)).trans q1, (hV.cell (by exact hg)).trans q2, (hV.cell (by exact hg)).trans q3, (hV.cell (by exact hg)).trans q4, (hV.cell (by exact hg)).trans q5, (hV.cell (by exact hg)).trans q6, (hV.cell (by exact hg)).trans q7, (hV.cell (by exact hg)).trans q8, (hV.cell (by exact hg)).trans q9⟩)
        have RIC := Lib.hid (fun W5 (hV2 : Below W.heap.size W W5) => right_lit x0 x1 x2 x3 x4 x5 x6 x7 x8 ats xA xc m B W5 HMM.out (HX5.out.below (((hWr.trans (hV2.mono hWr.size)).mono hB5))) (Nat.le_trans hB5 (hWr.trans (hV2.mono hWr.size)).size))
        have HST3 := Lib.hid hst
        have HWR := Lib.hid hWr
        clear hd' hy hyr hpv hst t4 q0 q1 q2 q3 q4 q5 q6 q7 q8 q9 RI2 hWr
        cases dr : right ⟨x0, x1, x2, x3, x4, x5, x6, x7, x8, ats⟩
        · rw [dr] at RIC
          refine PI.wp_region_persG (R := (fun w w' => Below w.heap.size w w')) (G := fun _ _ => True) (I := fun _ _ _ => True) [(1, 0), (2, 1), (3, 1), (3, 2), (4, 1), (4, 3), (5, 4), (6, 5), (7, 5), (8, 5), (9, 5), (10, 5), (11, 5), (12, 5), (13, 5), (14, 5), (14, 13)] [14] (by kernel_rfl) (PI.formed_of (by kernel_rfl)) ⟨fun w => Below.refl _ w, fun _ _ _ h k => h.trans (k.mono h.size)⟩ (fun _ => trivial) (AgN b p n c wr.heap.size pv x0 x1 x2 x3 x4 x5 x6 x7 x8 xA m xc) trivial ?_ ?_
          · rw [← hW]
            intro i o ho
            rcases i with _ | _ | _ | _ | _ | _ | _ | _ | _ | _ | _ | _ | _ | _ | _ | i
            · obtain rfl := Option.some.inj (show some _ = some o from ho)
              refine PI.shown_val rfl fun a w5 L0 hr T => ?_
              have h1 : a.eval (.tmp 12) = .bool true := T.was 12 (by kernel_rfl)
              exact ⟨.bool true, w5, by simp only [execOp, h1]; simp [go_sem], PI.Post.pure ⟨fun w => Below.refl _ w, fun _ _ _ h k => h.trans (k.mono h.size)⟩ rfl trivial⟩
            · obtain rfl := Option.some.inj (show some _ = some o from ho)
              refine PI.shown_val rfl fun a w5 L0 hr T => ?_
              have h1 : a.eval (.tmp 33) = .bool true := T.at_ 0 33 (by kernel_rfl) (by kernel_rfl) (by kernel_rfl)
              exact ⟨.bool true, w5, by simp only [execOp, h1]; simp [go_sem], PI.Post.pure ⟨fun w => Below.refl _ w, fun _ _ _ h k => h.trans (k.mono h.size)⟩ rfl trivial⟩
            · obtain rfl := Option.some.inj (show some _ = some o from ho)
              refine PI.shown_val_if 1 34 true rfl (by kernel_rfl) (by kernel_rfl) (by kernel_rfl) (fun v w h => h) fun a w5 L0 hr T => ?_
              have h1 : a.eval (.tmp 10) = .pointer (some ⟨wr.heap.size, 0, none⟩) := T.was 10 (by kernel_rfl)
              have g0 := (SS.out w5 hr).2.2.1
              have g1 := (SS.out w5 hr).2.2.2.1
              have g2 := (SS.out w5 hr).2.2.2.2.1
              have g3 := (SS.out w5 hr).2.2.2.2.2.1
              have g4 := (SS.out w5 hr).2.2.2.2.2.2.1
              have g5 := (SS.out w5 hr).2.2.2.2.2.2.2.1
              have g6 := (SS.out w5 hr).2.2.2.2.2.2.2.2.1
              have g7 := (SS.out w5 hr).2.2.2.2.2.2.2.2.2.1
              have g8 := (SS.out w5 hr).2.2.2.2.2.2.2.2.2.2.1
              have g9 := (SS.out w5 hr).2.2.2.2.2.2.2.2.2.2.2
              exact ⟨.agg #[.int .u64 x0, .int .u64 x1, .int .u64 x2, .int .u64 x3, .string x4, .string x5, .int .i64 x6, .int .i64 x7, .bool x8, .slice xA m xc], w5, by simp only [execOp, h1]; simp [go_sem, g0, g1, g2, g3, g4, g5, g6, g7, g8, g9], PI.Post.pure ⟨fun w => Below.refl _ w, fun _ _ _ h k => h.trans (k.mono h.size)⟩ rfl trivial⟩
            · obtain rfl := Option.some.inj (show some _ = some o from ho)
              refine PI.shown_call_if 1 34 true rfl (by kernel_rfl) (by kernel_rfl) (by kernel_rfl) (fun v w h => h) 11 fun a w5 L0 hr T => ?_
              have h0 : a.eval (.tmp 35) = .agg #[.int .u64 x0, .int .u64 x1, .int .u64 x2, .int .u64 x3, .string x4, .string x5, .int .i64 x6, .int .i64 x7, .bool x8, .slice xA m xc] := T.at_ 2 35 (by kernel_rfl) (by kernel_rfl) (by kernel_rfl)
              refine ⟨#[.agg #[.int .u64 x0, .int .u64 x1, .int .u64 x2, .int .u64 x3, .string x4, .string x5, .int .i64 x6, .int .i64 x7, .bool x8, .slice xA m xc]], by simp only [execOp, resolve, List.map_toArray, List.map_cons, List.map_nil, h0]; simp [go_sem, Act.eval], ?_⟩
              refine (RIC.out w5 hr).mono fun e w6 hh => ?_
              obtain ⟨rfl, hb6⟩ := hh
              exact ⟨_, rfl, hb6, rfl, fun _ _ h => h, fun j v _ _ _ _ h => AgN.keep h, trivial⟩
            · obtain rfl := Option.some.inj (show some _ = some o from ho)
              refine PI.shown_val rfl fun a w5 L0 hr T => ?_
              have h0 : a.eval (.tmp 34) = .bool true := T.at_ 1 34 (by kernel_rfl) (by kernel_rfl) (by kernel_rfl)
              have h1 : a.eval (.tmp 36) = .bool false := T.at_ 3 36 (by kernel_rfl) (by kernel_rfl) (by kernel_rfl)
              exact ⟨.bool false, w5, by simp only [execOp, h0, h1]; simp [go_sem, Act.eval], PI.Post.pure ⟨fun w => Below.refl _ w, fun _ _ _ h k => h.trans (k.mono h.size)⟩ rfl trivial⟩
            · obtain rfl := Option.some.inj (show some _ = some o from ho)
              refine PI.shown_val rfl fun a w5 L0 hr T => ?_
              have h1 : a.eval (.tmp 37) = .bool false := T.at_ 4 37 (by kernel_rfl) (by kernel_rfl) (by kernel_rfl)
              exact ⟨.bool false, w5, by simp only [execOp, h1]; simp [go_sem], PI.Post.pure ⟨fun w => Below.refl _ w, fun _ _ _ h k => h.trans (k.mono h.size)⟩ rfl trivial⟩
            · obtain rfl := Option.some.inj (show some _ = some o from ho)
              exact PI.shown_not 5 38 true rfl (by kernel_rfl) (by kernel_rfl) (by kernel_rfl) (fun v w h => h) (fun w => rfl) (fun _ _ _ _ => trivial)
            · obtain rfl := Option.some.inj (show some _ = some o from ho)
              exact PI.shown_not 5 38 true rfl (by kernel_rfl) (by kernel_rfl) (by kernel_rfl) (fun v w h => h) (fun w => rfl) (fun _ _ _ _ => trivial)
            · obtain rfl := Option.some.inj (show some _ = some o from ho)
              exact PI.shown_not 5 38 true rfl (by kernel_rfl) (by kernel_rfl) (by kernel_rfl) (fun v w h => h) (fun w => rfl) (fun _ _ _ _ => trivial)
            · obtain rfl := Option.some.inj (show some _ = some o from ho)
              exact PI.shown_not 5 38 true rfl (by kernel_rfl) (by kernel_rfl) (by kernel_rfl) (fun v w h => h) (fun w => rfl) (fun _ _ _ _ => trivial)
            · obtain rfl := Option.some.inj (show some _ = some o from ho)
              exact PI.shown_not 5 38 true rfl (by kernel_rfl) (by kernel_rfl) (by kernel_rfl) (fun v w h => h) (fun w => rfl) (fun _ _ _ _ => trivial)
            · obtain rfl := Option.some.inj (show some _ = some o from ho)
              exact PI.shown_not 5 38 true rfl (by kernel_rfl) (by kernel_rfl) (by kernel_rfl) (fun v w h => h) (fun w => rfl) (fun _ _ _ _ => trivial)
            · obtain rfl := Option.some.inj (show some _ = some o from ho)
              exact PI.shown_not 5 38 true rfl (by kernel_rfl) (by kernel_rfl) (by kernel_rfl) (fun v w h => h) (fun w => rfl) (fun _ _ _ _ => trivial)
            · obtain rfl := Option.some.inj (show some _ = some o from ho)
              exact PI.shown_not 5 38 true rfl (by kernel_rfl) (by kernel_rfl) (by kernel_rfl) (fun v w h => h) (fun w => rfl) (fun _ _ _ _ => trivial)
            · obtain rfl := Option.some.inj (show some _ = some o from ho)
              refine PI.shown_val rfl fun a w5 L0 hr T => ?_
              have h0 : a.eval (.tmp 38) = .bool false := T.at_ 5 38 (by kernel_rfl) (by kernel_rfl) (by kernel_rfl)
              have h1 : a.eval (.tmp 46) = undef := T.at_ 13 46 (by kernel_rfl) (by kernel_rfl) (by kernel_rfl)
              exact ⟨.bool false, w5, by simp only [execOp, h0, h1]; simp [go_sem, Act.eval], PI.Post.pure ⟨fun w => Below.refl _ w, fun _ _ _ h k => h.trans (k.mono h.size)⟩ rfl trivial⟩
            · cases ho
          · rw [← hW]
            intro xx w9 hr hf he _
            have h14 := hf 14 _ 47 rfl rfl (by decide)
            have hx14 : xx 14 = .bool false := h14
            have HB9W := Lib.hid hr
            have HS9 := SS.out w9 hr
            clear hf he hr h14
            simp only [PI.putAll, Act.put, List.setIfInBounds_toArray, List.set_cons_zero, List.set_cons_succ, Nat.zero_add, Nat.reduceAdd]
            rw [hx14]
            have hBw : Below wr.heap.size wr w9 := HA1.out.trans ((HWR.out.trans (HB9W.out.mono HWR.out.size)).mono HA1.out.size)
            have HB9 : Hid (Below w.heap.size w w9) := Lib.hid (HB.out.trans (hBw.mono hws))
            have HM9 : Hid (MapNm w9 g nn (fstN (l.map Ls.s))) := Lib.hid (HM.out.block (hBw.block g HM.out.lt))
            have HO9 := Lib.hid (own_below HO.out hBw)
            clear hBw
            have HC9 : Hid (CA mo L (callsK l (k + 1)) M) := Lib.hid (by
              have h := HST3.out
              simp [dr] at h
              rw [h]; exact HC.out)
            go_wp2_with fail
            go_roundw
            case rel => exact ⟨k + 1, A1, n1, c1, M, by omega, by go_num, rfl, HN1, by omega, HO9, HB9, HM9, HC9, HBD1⟩
            case measure => simp [intOf]; omega
        · rw [dr] at RIC
          by_cases hpx : pv = x4
          · have hpt : (pv.toList == x4.toList) = true := by rw [hpvb, hpx]; simp
            refine PI.wp_region_persG (R := (fun w w' => Below w.heap.size w w')) (G := fun _ _ => True) (I := fun _ _ _ => True) [(1, 0), (2, 1), (3, 1), (3, 2), (4, 1), (4, 3), (5, 4), (6, 5), (7, 5), (8, 5), (8, 6), (8, 7), (9, 5), (9, 8), (10, 5), (10, 9), (11, 5), (12, 5), (12, 11), (13, 5), (13, 10), (13, 12), (14, 5), (14, 13)] [14] (by kernel_rfl) (PI.formed_of (by kernel_rfl)) ⟨fun w => Below.refl _ w, fun _ _ _ h k => h.trans (k.mono h.size)⟩ (fun _ => trivial) (AgS b p n c wr.heap.size pv x0 x1 x2 x3 x4 x5 x6 x7 x8 xA m xc) trivial ?_ ?_
            · rw [← hW]
              intro i o ho
              rcases i with _ | _ | _ | _ | _ | _ | _ | _ | _ | _ | _ | _ | _ | _ | _ | i
              · obtain rfl := Option.some.inj (show some _ = some o from ho)
                refine PI.shown_val rfl fun a w5 L0 hr T => ?_
                have h1 : a.eval (.tmp 12) = .bool true := T.was 12 (by kernel_rfl)
                exact ⟨.bool true, w5, by simp only [execOp, h1]; simp [go_sem], PI.Post.pure ⟨fun w => Below.refl _ w, fun _ _ _ h k => h.trans (k.mono h.size)⟩ rfl trivial⟩
              · obtain rfl := Option.some.inj (show some _ = some o from ho)
                refine PI.shown_val rfl fun a w5 L0 hr T => ?_
                have h1 : a.eval (.tmp 33) = .bool true := T.at_ 0 33 (by kernel_rfl) (by kernel_rfl) (by kernel_rfl)
                exact ⟨.bool true, w5, by simp only [execOp, h1]; simp [go_sem], PI.Post.pure ⟨fun w => Below.refl _ w, fun _ _ _ h k => h.trans (k.mono h.size)⟩ rfl trivial⟩
              · obtain rfl := Option.some.inj (show some _ = some o from ho)
                refine PI.shown_val_if 1 34 true rfl (by kernel_rfl) (by kernel_rfl) (by kernel_rfl) (fun v w h => h) fun a w5 L0 hr T => ?_
                have h1 : a.eval (.tmp 10) = .pointer (some ⟨wr.heap.size, 0, none⟩) := T.was 10 (by kernel_rfl)
                have g0 := (SS.out w5 hr).2.2.1
                have g1 := (SS.out w5 hr).2.2.2.1
                have g2 := (SS.out w5 hr).2.2.2.2.1
                have g3 := (SS.out w5 hr).2.2.2.2.2.1
                have g4 := (SS.out w5 hr).2.2.2.2.2.2.1
                have g5 := (SS.out w5 hr).2.2.2.2.2.2.2.1
                have g6 := (SS.out w5 hr).2.2.2.2.2.2.2.2.1
                have g7 := (SS.out w5 hr).2.2.2.2.2.2.2.2.2.1
                have g8 := (SS.out w5 hr).2.2.2.2.2.2.2.2.2.2.1
                have g9 := (SS.out w5 hr).2.2.2.2.2.2.2.2.2.2.2
                exact ⟨.agg #[.int .u64 x0, .int .u64 x1, .int .u64 x2, .int .u64 x3, .string x4, .string x5, .int .i64 x6, .int .i64 x7, .bool x8, .slice xA m xc], w5, by simp only [execOp, h1]; simp [go_sem, g0, g1, g2, g3, g4, g5, g6, g7, g8, g9], PI.Post.pure ⟨fun w => Below.refl _ w, fun _ _ _ h k => h.trans (k.mono h.size)⟩ rfl trivial⟩
              · obtain rfl := Option.some.inj (show some _ = some o from ho)
                refine PI.shown_call_if 1 34 true rfl (by kernel_rfl) (by kernel_rfl) (by kernel_rfl) (fun v w h => h) 11 fun a w5 L0 hr T => ?_
                have h0 : a.eval (.tmp 35) = .agg #[.int .u64 x0, .int .u64 x1, .int .u64 x2, .int .u64 x3, .string x4, .string x5, .int .i64 x6, .int .i64 x7, .bool x8, .slice xA m xc] := T.at_ 2 35 (by kernel_rfl) (by kernel_rfl) (by kernel_rfl)
                refine ⟨#[.agg #[.int .u64 x0, .int .u64 x1, .int .u64 x2, .int .u64 x3, .string x4, .string x5, .int .i64 x6, .int .i64 x7, .bool x8, .slice xA m xc]], by simp only [execOp, resolve, List.map_toArray, List.map_cons, List.map_nil, h0]; simp [go_sem, Act.eval], ?_⟩
                refine (RIC.out w5 hr).mono fun e w6 hh => ?_
                obtain ⟨rfl, hb6⟩ := hh
                exact ⟨_, rfl, hb6, rfl, fun _ _ h => h, fun j v _ _ _ _ h => AgS.keep h, trivial⟩
              · obtain rfl := Option.some.inj (show some _ = some o from ho)
                refine PI.shown_val rfl fun a w5 L0 hr T => ?_
                have h0 : a.eval (.tmp 34) = .bool true := T.at_ 1 34 (by kernel_rfl) (by kernel_rfl) (by kernel_rfl)
                have h1 : a.eval (.tmp 36) = .bool true := T.at_ 3 36 (by kernel_rfl) (by kernel_rfl) (by kernel_rfl)
                exact ⟨.bool true, w5, by simp only [execOp, h0, h1]; simp [go_sem, Act.eval], PI.Post.pure ⟨fun w => Below.refl _ w, fun _ _ _ h k => h.trans (k.mono h.size)⟩ rfl trivial⟩
              · obtain rfl := Option.some.inj (show some _ = some o from ho)
                refine PI.shown_val rfl fun a w5 L0 hr T => ?_
                have h1 : a.eval (.tmp 37) = .bool true := T.at_ 4 37 (by kernel_rfl) (by kernel_rfl) (by kernel_rfl)
                exact ⟨.bool true, w5, by simp only [execOp, h1]; simp [go_sem], PI.Post.pure ⟨fun w => Below.refl _ w, fun _ _ _ h k => h.trans (k.mono h.size)⟩ rfl trivial⟩
              · obtain rfl := Option.some.inj (show some _ = some o from ho)
                refine PI.shown_val_if 5 38 true rfl (by kernel_rfl) (by kernel_rfl) (by kernel_rfl) (fun v w h => h) fun a w5 L0 hr T => ?_
                have h1 : a.eval (.tmp 1) = .slice (some b) n c := T.was 1 (by kernel_rfl)
                exact ⟨.slice (some b) n c, w5, by simp only [execOp, h1]; simp [go_sem], PI.Post.pure ⟨fun w => Below.refl _ w, fun _ _ _ h k => h.trans (k.mono h.size)⟩ rfl trivial⟩
              · obtain rfl := Option.some.inj (show some _ = some o from ho)
                refine PI.shown_val_if 5 38 true rfl (by kernel_rfl) (by kernel_rfl) (by kernel_rfl) (fun v w h => h) fun a w5 L0 hr T => ?_
                have h1 : a.eval (.tmp 11) = .int .i64 (p : Int) := T.was 11 (by kernel_rfl)
                exact ⟨.int .i64 (p : Int), w5, by simp only [execOp, h1]; simp [go_sem], PI.Post.pure ⟨fun w => Below.refl _ w, fun _ _ _ h k => h.trans (k.mono h.size)⟩ rfl trivial⟩
              · obtain rfl := Option.some.inj (show some _ = some o from ho)
                refine PI.shown_val_if 5 38 true rfl (by kernel_rfl) (by kernel_rfl) (by kernel_rfl) (fun v w h => h) fun a w5 L0 hr T => ?_
                have h1 : a.eval (.tmp 39) = .slice (some b) n c := T.at_ 6 39 (by kernel_rfl) (by kernel_rfl) (by kernel_rfl)
                have h2 : a.eval (.tmp 40) = .int .i64 (p : Int) := T.at_ 7 40 (by kernel_rfl) (by kernel_rfl) (by kernel_rfl)
                exact ⟨.pointer (some (b.add (p * 10))), w5, by simp only [execOp, h1, h2]; simp [go_sem, Act.eval, p0, p1], PI.Post.pure ⟨fun w => Below.refl _ w, fun _ _ _ h k => h.trans (k.mono h.size)⟩ rfl trivial⟩
              · obtain rfl := Option.some.inj (show some _ = some o from ho)
                refine PI.shown_val_if 5 38 true rfl (by kernel_rfl) (by kernel_rfl) (by kernel_rfl) (fun v w h => h) fun a w5 L0 hr T => ?_
                have h1 : a.eval (.tmp 41) = .pointer (some (b.add (p * 10))) := T.at_ 8 41 (by kernel_rfl) (by kernel_rfl) (by kernel_rfl)
                exact ⟨.pointer (some ⟨(b.add (p * 10)).block, (b.add (p * 10)).off + 4, none⟩), w5, by simp only [execOp, h1]; simp [go_sem], PI.Post.pure ⟨fun w => Below.refl _ w, fun _ _ _ h k => h.trans (k.mono h.size)⟩ rfl trivial⟩
              · obtain rfl := Option.some.inj (show some _ = some o from ho)
                refine PI.shown_val_if 5 38 true rfl (by kernel_rfl) (by kernel_rfl) (by kernel_rfl) (fun v w h => h) fun a w5 L0 hr T => ?_
                have h1 : a.eval (.tmp 42) = .pointer (some ⟨(b.add (p * 10)).block, (b.add (p * 10)).off + 4, none⟩) := T.at_ 9 42 (by kernel_rfl) (by kernel_rfl) (by kernel_rfl)
                have g10 := (SS.out w5 hr).2.1
                exact ⟨.string pv, w5, by simp only [execOp, h1]; simp [go_sem, g10], PI.Post.pure ⟨fun w => Below.refl _ w, fun _ _ _ h k => h.trans (k.mono h.size)⟩ rfl trivial⟩
              · obtain rfl := Option.some.inj (show some _ = some o from ho)
                refine PI.shown_val_if 5 38 true rfl (by kernel_rfl) (by kernel_rfl) (by kernel_rfl) (fun v w h => h) fun a w5 L0 hr T => ?_
                have h1 : a.eval (.tmp 10) = .pointer (some ⟨wr.heap.size, 0, none⟩) := T.was 10 (by kernel_rfl)
                exact ⟨.pointer (some ⟨wr.heap.size, 4, none⟩), w5, by simp only [execOp, h1]; simp [go_sem], PI.Post.pure ⟨fun w => Below.refl _ w, fun _ _ _ h k => h.trans (k.mono h.size)⟩ rfl trivial⟩
              · obtain rfl := Option.some.inj (show some _ = some o from ho)
                refine PI.shown_val_if 5 38 true rfl (by kernel_rfl) (by kernel_rfl) (by kernel_rfl) (fun v w h => h) fun a w5 L0 hr T => ?_
                have h1 : a.eval (.tmp 44) = .pointer (some ⟨wr.heap.size, 4, none⟩) := T.at_ 11 44 (by kernel_rfl) (by kernel_rfl) (by kernel_rfl)
                have g4 := (SS.out w5 hr).2.2.2.2.2.2.1
                exact ⟨.string x4, w5, by simp only [execOp, h1]; simp [go_sem, g4], PI.Post.pure ⟨fun w => Below.refl _ w, fun _ _ _ h k => h.trans (k.mono h.size)⟩ rfl trivial⟩
              · obtain rfl := Option.some.inj (show some _ = some o from ho)
                refine PI.shown_val_if 5 38 true rfl (by kernel_rfl) (by kernel_rfl) (by kernel_rfl) (fun v w h => h) fun a w5 L0 hr T => ?_
                have h1 : a.eval (.tmp 43) = .string pv := T.at_ 10 43 (by kernel_rfl) (by kernel_rfl) (by kernel_rfl)
                have h2 : a.eval (.tmp 45) = .string x4 := T.at_ 12 45 (by kernel_rfl) (by kernel_rfl) (by kernel_rfl)
                exact ⟨.bool false, w5, by simp only [execOp, h1, h2]; simp [go_sem, Act.eval, hpt], PI.Post.pure ⟨fun w => Below.refl _ w, fun _ _ _ h k => h.trans (k.mono h.size)⟩ rfl trivial⟩
              · obtain rfl := Option.some.inj (show some _ = some o from ho)
                refine PI.shown_val rfl fun a w5 L0 hr T => ?_
                have h0 : a.eval (.tmp 38) = .bool true := T.at_ 5 38 (by kernel_rfl) (by kernel_rfl) (by kernel_rfl)
                have h1 : a.eval (.tmp 46) = .bool false := T.at_ 13 46 (by kernel_rfl) (by kernel_rfl) (by kernel_rfl)
                exact ⟨.bool false, w5, by simp only [execOp, h0, h1]; simp [go_sem, Act.eval], PI.Post.pure ⟨fun w => Below.refl _ w, fun _ _ _ h k => h.trans (k.mono h.size)⟩ rfl trivial⟩
              · cases ho
            · rw [← hW]
              intro xx w9 hr hf he _
              have h14 := hf 14 _ 47 rfl rfl (by decide)
              have hx14 : xx 14 = .bool false := h14
              have HB9W := Lib.hid hr
              have HS9 := SS.out w9 hr
              clear hf he hr h14
              simp only [PI.putAll, Act.put, List.setIfInBounds_toArray, List.set_cons_zero, List.set_cons_succ, Nat.zero_add, Nat.reduceAdd]
              rw [hx14]
              have hBw : Below wr.heap.size wr w9 := HA1.out.trans ((HWR.out.trans (HB9W.out.mono HWR.out.size)).mono HA1.out.size)
              have HB9 : Hid (Below w.heap.size w w9) := Lib.hid (HB.out.trans (hBw.mono hws))
              have HM9 : Hid (MapNm w9 g nn (fstN (l.map Ls.s))) := Lib.hid (HM.out.block (hBw.block g HM.out.lt))
              have HO9 := Lib.hid (own_below HO.out hBw)
              clear hBw
              have HC9 : Hid (CA mo L (callsK l (k + 1)) M) := Lib.hid (by
                have h := HST3.out
                simp [hpx] at h
                rw [h]; exact HC.out)
              go_wp2_with fail
              go_roundw
              case rel => exact ⟨k + 1, A1, n1, c1, M, by omega, by go_num, rfl, HN1, by omega, HO9, HB9, HM9, HC9, HBD1⟩
              case measure => simp [intOf]; omega
          · have hpt : (pv.toList == x4.toList) = false := by rw [hpvb]; simp [hpx]
            refine PI.wp_region_persG (R := (fun w w' => Below w.heap.size w w')) (G := fun _ _ => True) (I := fun _ _ _ => True) [(1, 0), (2, 1), (3, 1), (3, 2), (4, 1), (4, 3), (5, 4), (6, 5), (7, 5), (8, 5), (8, 6), (8, 7), (9, 5), (9, 8), (10, 5), (10, 9), (11, 5), (12, 5), (12, 11), (13, 5), (13, 10), (13, 12), (14, 5), (14, 13)] [14] (by kernel_rfl) (PI.formed_of (by kernel_rfl)) ⟨fun w => Below.refl _ w, fun _ _ _ h k => h.trans (k.mono h.size)⟩ (fun _ => trivial) (AgD b p n c wr.heap.size pv x0 x1 x2 x3 x4 x5 x6 x7 x8 xA m xc) trivial ?_ ?_
            · rw [← hW]
              intro i o ho
              rcases i with _ | _ | _ | _ | _ | _ | _ | _ | _ | _ | _ | _ | _ | _ | _ | i
              · obtain rfl := Option.some.inj (show some _ = some o from ho)
                refine PI.shown_val rfl fun a w5 L0 hr T => ?_
                have h1 : a.eval (.tmp 12) = .bool true := T.was 12 (by kernel_rfl)
                exact ⟨.bool true, w5, by simp only [execOp, h1]; simp [go_sem], PI.Post.pure ⟨fun w => Below.refl _ w, fun _ _ _ h k => h.trans (k.mono h.size)⟩ rfl trivial⟩
              · obtain rfl := Option.some.inj (show some _ = some o from ho)
                refine PI.shown_val rfl fun a w5 L0 hr T => ?_
                have h1 : a.eval (.tmp 33) = .bool true := T.at_ 0 33 (by kernel_rfl) (by kernel_rfl) (by kernel_rfl)
                exact ⟨.bool true, w5, by simp only [execOp, h1]; simp [go_sem], PI.Post.pure ⟨fun w => Below.refl _ w, fun _ _ _ h k => h.trans (k.mono h.size)⟩ rfl trivial⟩
              · obtain rfl := Option.some.inj (show some _ = some o from ho)
                refine PI.shown_val_if 1 34 true rfl (by kernel_rfl) (by kernel_rfl) (by kernel_rfl) (fun v w h => h) fun a w5 L0 hr T => ?_
                have h1 : a.eval (.tmp 10) = .pointer (some ⟨wr.heap.size, 0, none⟩) := T.was 10 (by kernel_rfl)
                have g0 := (SS.out w5 hr).2.2.1
                have g1 := (SS.out w5 hr).2.2.2.1
                have g2 := (SS.out w5 hr).2.2.2.2.1
                have g3 := (SS.out w5 hr).2.2.2.2.2.1
                have g4 := (SS.out w5 hr).2.2.2.2.2.2.1
                have g5 := (SS.out w5 hr).2.2.2.2.2.2.2.1
                have g6 := (SS.out w5 hr).2.2.2.2.2.2.2.2.1
                have g7 := (SS.out w5 hr).2.2.2.2.2.2.2.2.2.1
                have g8 := (SS.out w5 hr).2.2.2.2.2.2.2.2.2.2.1
                have g9 := (SS.out w5 hr).2.2.2.2.2.2.2.2.2.2.2
                exact ⟨.agg #[.int .u64 x0, .int .u64 x1, .int .u64 x2, .int .u64 x3, .string x4, .string x5, .int .i64 x6, .int .i64 x7, .bool x8, .slice xA m xc], w5, by simp only [execOp, h1]; simp [go_sem, g0, g1, g2, g3, g4, g5, g6, g7, g8, g9], PI.Post.pure ⟨fun w => Below.refl _ w, fun _ _ _ h k => h.trans (k.mono h.size)⟩ rfl trivial⟩
              · obtain rfl := Option.some.inj (show some _ = some o from ho)
                refine PI.shown_call_if 1 34 true rfl (by kernel_rfl) (by kernel_rfl) (by kernel_rfl) (fun v w h => h) 11 fun a w5 L0 hr T => ?_
                have h0 : a.eval (.tmp 35) = .agg #[.int .u64 x0, .int .u64 x1, .int .u64 x2, .int .u64 x3, .string x4, .string x5, .int .i64 x6, .int .i64 x7, .bool x8, .slice xA m xc] := T.at_ 2 35 (by kernel_rfl) (by kernel_rfl) (by kernel_rfl)
                refine ⟨#[.agg #[.int .u64 x0, .int .u64 x1, .int .u64 x2, .int .u64 x3, .string x4, .string x5, .int .i64 x6, .int .i64 x7, .bool x8, .slice xA m xc]], by simp only [execOp, resolve, List.map_toArray, List.map_cons, List.map_nil, h0]; simp [go_sem, Act.eval], ?_⟩
                refine (RIC.out w5 hr).mono fun e w6 hh => ?_
                obtain ⟨rfl, hb6⟩ := hh
                exact ⟨_, rfl, hb6, rfl, fun _ _ h => h, fun j v _ _ _ _ h => AgD.keep h, trivial⟩
              · obtain rfl := Option.some.inj (show some _ = some o from ho)
                refine PI.shown_val rfl fun a w5 L0 hr T => ?_
                have h0 : a.eval (.tmp 34) = .bool true := T.at_ 1 34 (by kernel_rfl) (by kernel_rfl) (by kernel_rfl)
                have h1 : a.eval (.tmp 36) = .bool true := T.at_ 3 36 (by kernel_rfl) (by kernel_rfl) (by kernel_rfl)
                exact ⟨.bool true, w5, by simp only [execOp, h0, h1]; simp [go_sem, Act.eval], PI.Post.pure ⟨fun w => Below.refl _ w, fun _ _ _ h k => h.trans (k.mono h.size)⟩ rfl trivial⟩
              · obtain rfl := Option.some.inj (show some _ = some o from ho)
                refine PI.shown_val rfl fun a w5 L0 hr T => ?_
                have h1 : a.eval (.tmp 37) = .bool true := T.at_ 4 37 (by kernel_rfl) (by kernel_rfl) (by kernel_rfl)
                exact ⟨.bool true, w5, by simp only [execOp, h1]; simp [go_sem], PI.Post.pure ⟨fun w => Below.refl _ w, fun _ _ _ h k => h.trans (k.mono h.size)⟩ rfl trivial⟩
              · obtain rfl := Option.some.inj (show some _ = some o from ho)
                refine PI.shown_val_if 5 38 true rfl (by kernel_rfl) (by kernel_rfl) (by kernel_rfl) (fun v w h => h) fun a w5 L0 hr T => ?_
                have h1 : a.eval (.tmp 1) = .slice (some b) n c := T.was 1 (by kernel_rfl)
                exact ⟨.slice (some b) n c, w5, by simp only [execOp, h1]; simp [go_sem], PI.Post.pure ⟨fun w => Below.refl _ w, fun _ _ _ h k => h.trans (k.mono h.size)⟩ rfl trivial⟩
              · obtain rfl := Option.some.inj (show some _ = some o from ho)
                refine PI.shown_val_if 5 38 true rfl (by kernel_rfl) (by kernel_rfl) (by kernel_rfl) (fun v w h => h) fun a w5 L0 hr T => ?_
                have h1 : a.eval (.tmp 11) = .int .i64 (p : Int) := T.was 11 (by kernel_rfl)
                exact ⟨.int .i64 (p : Int), w5, by simp only [execOp, h1]; simp [go_sem], PI.Post.pure ⟨fun w => Below.refl _ w, fun _ _ _ h k => h.trans (k.mono h.size)⟩ rfl trivial⟩
              · obtain rfl := Option.some.inj (show some _ = some o from ho)
                refine PI.shown_val_if 5 38 true rfl (by kernel_rfl) (by kernel_rfl) (by kernel_rfl) (fun v w h => h) fun a w5 L0 hr T => ?_
                have h1 : a.eval (.tmp 39) = .slice (some b) n c := T.at_ 6 39 (by kernel_rfl) (by kernel_rfl) (by kernel_rfl)
                have h2 : a.eval (.tmp 40) = .int .i64 (p : Int) := T.at_ 7 40 (by kernel_rfl) (by kernel_rfl) (by kernel_rfl)
                exact ⟨.pointer (some (b.add (p * 10))), w5, by simp only [execOp, h1, h2]; simp [go_sem, Act.eval, p0, p1], PI.Post.pure ⟨fun w => Below.refl _ w, fun _ _ _ h k => h.trans (k.mono h.size)⟩ rfl trivial⟩
              · obtain rfl := Option.some.inj (show some _ = some o from ho)
                refine PI.shown_val_if 5 38 true rfl (by kernel_rfl) (by kernel_rfl) (by kernel_rfl) (fun v w h => h) fun a w5 L0 hr T => ?_
                have h1 : a.eval (.tmp 41) = .pointer (some (b.add (p * 10))) := T.at_ 8 41 (by kernel_rfl) (by kernel_rfl) (by kernel_rfl)
                exact ⟨.pointer (some ⟨(b.add (p * 10)).block, (b.add (p * 10)).off + 4, none⟩), w5, by simp only [execOp, h1]; simp [go_sem], PI.Post.pure ⟨fun w => Below.refl _ w, fun _ _ _ h k => h.trans (k.mono h.size)⟩ rfl trivial⟩
              · obtain rfl := Option.some.inj (show some _ = some o from ho)
                refine PI.shown_val_if 5 38 true rfl (by kernel_rfl) (by kernel_rfl) (by kernel_rfl) (fun v w h => h) fun a w5 L0 hr T => ?_
                have h1 : a.eval (.tmp 42) = .pointer (some ⟨(b.add (p * 10)).block, (b.add (p * 10)).off + 4, none⟩) := T.at_ 9 42 (by kernel_rfl) (by kernel_rfl) (by kernel_rfl)
                have g10 := (SS.out w5 hr).2.1
                exact ⟨.string pv, w5, by simp only [execOp, h1]; simp [go_sem, g10], PI.Post.pure ⟨fun w => Below.refl _ w, fun _ _ _ h k => h.trans (k.mono h.size)⟩ rfl trivial⟩
              · obtain rfl := Option.some.inj (show some _ = some o from ho)
                refine PI.shown_val_if 5 38 true rfl (by kernel_rfl) (by kernel_rfl) (by kernel_rfl) (fun v w h => h) fun a w5 L0 hr T => ?_
                have h1 : a.eval (.tmp 10) = .pointer (some ⟨wr.heap.size, 0, none⟩) := T.was 10 (by kernel_rfl)
                exact ⟨.pointer (some ⟨wr.heap.size, 4, none⟩), w5, by simp only [execOp, h1]; simp [go_sem], PI.Post.pure ⟨fun w => Below.refl _ w, fun _ _ _ h k => h.trans (k.mono h.size)⟩ rfl trivial⟩
              · obtain rfl := Option.some.inj (show some _ = some o from ho)
                refine PI.shown_val_if 5 38 true rfl (by kernel_rfl) (by kernel_rfl) (by kernel_rfl) (fun v w h => h) fun a w5 L0 hr T => ?_
                have h1 : a.eval (.tmp 44) = .pointer (some ⟨wr.heap.size, 4, none⟩) := T.at_ 11 44 (by kernel_rfl) (by kernel_rfl) (by kernel_rfl)
                have g4 := (SS.out w5 hr).2.2.2.2.2.2.1
                exact ⟨.string x4, w5, by simp only [execOp, h1]; simp [go_sem, g4], PI.Post.pure ⟨fun w => Below.refl _ w, fun _ _ _ h k => h.trans (k.mono h.size)⟩ rfl trivial⟩
              · obtain rfl := Option.some.inj (show some _ = some o from ho)
                refine PI.shown_val_if 5 38 true rfl (by kernel_rfl) (by kernel_rfl) (by kernel_rfl) (fun v w h => h) fun a w5 L0 hr T => ?_
                have h1 : a.eval (.tmp 43) = .string pv := T.at_ 10 43 (by kernel_rfl) (by kernel_rfl) (by kernel_rfl)
                have h2 : a.eval (.tmp 45) = .string x4 := T.at_ 12 45 (by kernel_rfl) (by kernel_rfl) (by kernel_rfl)
                exact ⟨.bool true, w5, by simp only [execOp, h1, h2]; simp [go_sem, Act.eval, hpt], PI.Post.pure ⟨fun w => Below.refl _ w, fun _ _ _ h k => h.trans (k.mono h.size)⟩ rfl trivial⟩
              · obtain rfl := Option.some.inj (show some _ = some o from ho)
                refine PI.shown_val rfl fun a w5 L0 hr T => ?_
                have h0 : a.eval (.tmp 38) = .bool true := T.at_ 5 38 (by kernel_rfl) (by kernel_rfl) (by kernel_rfl)
                have h1 : a.eval (.tmp 46) = .bool true := T.at_ 13 46 (by kernel_rfl) (by kernel_rfl) (by kernel_rfl)
                exact ⟨.bool true, w5, by simp only [execOp, h0, h1]; simp [go_sem, Act.eval], PI.Post.pure ⟨fun w => Below.refl _ w, fun _ _ _ h k => h.trans (k.mono h.size)⟩ rfl trivial⟩
              · cases ho
            · rw [← hW]
              intro xx w9 hr hf he _
              have h14 := hf 14 _ 47 rfl rfl (by decide)
              have hx14 : xx 14 = .bool true := h14
              have HB9W := Lib.hid hr
              have HS9 := SS.out w9 hr
              clear hf he hr h14
              simp only [PI.putAll, Act.put, List.setIfInBounds_toArray, List.set_cons_zero, List.set_cons_succ, Nat.zero_add, Nat.reduceAdd]
              rw [hx14]
              have hBw : Below wr.heap.size wr w9 := HA1.out.trans ((HWR.out.trans (HB9W.out.mono HWR.out.size)).mono HA1.out.size)
              have HB9 : Hid (Below w.heap.size w w9) := Lib.hid (HB.out.trans (hBw.mono hws))
              have HM9 : Hid (MapNm w9 g nn (fstN (l.map Ls.s))) := Lib.hid (HM.out.block (hBw.block g HM.out.lt))
              have HO9 := Lib.hid (own_below HO.out hBw)
              clear hBw
              have HC9 : Hid (callsK l (k + 1) = callsK l k ++ [(pv, x4, x8)]) := Lib.hid (by
                have h := HST3.out
                simp [dr, hpx] at h
                exact h)
              obtain ⟨_, u10, u0, u1, u2, u3, u4, u5, u6, u7, u8, u9⟩ := HS9
              have hbd : Below w9.heap.size w9 w9.drew := ⟨rfl, rfl, rfl, Nat.le_refl _, fun _ _ => rfl⟩
              have HBD := Lib.hid hbd
              have CNT := Lib.hid (fun W8 (h8 : Below w9.heap.size w9 W8) => count_any A1 n1 c1 M pv x0 x1 x2 x3 x4 x5 x6 x7 x8 xA m xc mo w.heap.size W8 (own_below HO9.out h8) HN1.out (by omega) (Nat.le_trans HB9.out.size h8.size) HBD1.out)
              clear hbd
              go_upto_region 8 with fail
              have HIF : Hid ((if most < 0 then 0 else most) = mo) := Lib.hid (by rw [HMO.out]; split <;> omega)
              go_still_tail 9, (by kernel_rfl)
              change wpList _ _ _ _ _ w9.drew
              rw [HIF.out]
              have CN2 := Lib.hid (CNT.out w9.drew HBD.out)
              have HM10 : Hid (MapNm w9.drew g nn (fstN (l.map Ls.s))) := Lib.hid (HM9.out.block rfl)
              have HO10 := Lib.hid (own_below HO9.out HBD.out)
              have HB10 := Lib.hid (HB9.out.trans (HBD.out.mono HB9.out.size))
              clear HIF u10 u0 u1 u2 u3 u4 u5 u6 u7 u8 u9
              generalize w9.drew = w10 at CN2 HM10 HO10 HB10 ⊢
              go_wp2_with (go_at_call 12; go_loud ((with_reducible refine CN2.out.mono ?_)); rintro ex w11 ⟨A2, n2, c2, M2, rfl, hn2, hcc, ho2, hg2⟩; have HN2 := Lib.hid hn2; have HCC := Lib.hid hcc; have HO2 := Lib.hid ho2; have HG2 := Lib.hid hg2; clear hn2 hcc ho2 hg2)
              have hlen : n2 ≤ nL + (k + 1) := by
                have h1 := counted_len HCC.out
                rw [← HN2.out, ← HN1.out] at h1
                omega
              have HB11 : Hid (Below w.heap.size w w11) := Lib.hid (HG2.out.below HB10.out HB10.out.size (own_block_ge HO10.out))
              have HM11 : Hid (MapNm w11 g nn (fstN (l.map Ls.s))) := Lib.hid (HM10.out.block (HG2.out.grown.block g HM10.out.lt (HM10.out.not_own HO10.out).symm))
              have HC11 : Hid (CA mo L (callsK l (k + 1)) M2) := Lib.hid (by rw [HC9.out]; exact CA.snoc HC.out HCC.out)
              have HBD2 : Hid (EgOk M2) := Lib.hid (counted_ok HBD1.out hm0 hm1 HCC.out)
              go_roundw
              case rel => exact ⟨k + 1, A2, n2, c2, M2, by omega, by go_num, rfl, HN2, hlen, HO2, HB11, HM11, HC11, HBD2⟩
              case measure => simp [intOf]; omega
    · obtain rfl : k = n := by omega
      go_wp2_with fail
      go_ret
      exact ⟨_, _, _, M, rfl, HN1.out, hn1, HC.out, HBD1.out, HO.out, HB.out⟩
end Go.Proofs.Ytobgnendfnmnpaa
