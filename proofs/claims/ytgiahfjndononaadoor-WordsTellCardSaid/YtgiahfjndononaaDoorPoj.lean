/- The code's put: a policy's text behind others, in memory of one's own. -/
import Derived.Test.YtgiahfjndononaaDoorPoi
import Derived.Test.YtgiahfjndononaaDoorPom
import Derived.Test.YtgiahfjndononaaDoorPol
import Derived.Test.YtgiahfjndononaaDoorPv
namespace Go.Proofs.YtgiahfjndononaaDoor
open Go.RowKit
set_option linter.unusedVariables false
set_option linter.unusedSimpArgs false
set_option maxRecDepth 100000

/-- Below the base nothing has turned, nor any row of something else than bytes. -/
structure Fr (base : Nat) (w w' : World) : Prop where
  low : Below base w w'
  oth : Lib.OthersKept 5 none w w'
theorem Fr.refl (base : Nat) (w : World) : Fr base w w := ⟨Below.refl _ _, Lib.OthersKept.refl _ _ _⟩
theorem Fr.trans {base : Nat} {a b c : World} (h : Fr base a b) (k : Fr base b c) : Fr base a c := ⟨h.low.trans k.low, h.oth.trans k.oth⟩
theorem Fr.alloc {base : Nat} {w : World} (o : Obj) (h : base ≤ w.heap.size) : Fr base w (w.alloc o) := ⟨(Below.refl _ _).alloc h _, fun k x hk _ _ => (heap_alloc_old w o (in_heap hk)).trans hk⟩
theorem Fr.grew {base n : Nat} {w w' : World} {v v' : Value} {xs : List Value} (ho : w.ownsRow base 5 1 v n xs) (hg : Grew w w' v v') (hb : base ≤ w.heap.size) : Fr base w w' :=
  ⟨⟨hg.grown.os, hg.grown.tape, hg.grown.output, hg.grown.size, fun k hk => hg.grown.block k (by omega) (fun e => by have := own_block_ge ho k e.symm; omega)⟩, fun k o hk _ ht => by
    refine (hg.grown.block k (in_heap hk) (fun e => ?_)).trans hk
    rcases ho.2 with ⟨rfl, _⟩ | ⟨g, cap, cur, rfl, _, hh, _⟩
    · cases e
    · simp [Value.ownBlock] at e
      subst e
      rw [hk] at hh
      injection hh with hh
      exact ht _ _ hh⟩
theorem Fr.box {base b : Nat} {w w' : World} (h : Fr base w w') {cs : Array Value} {t : TypeId} (hr : w.heap[b]? = some (.cells cs t)) (ht : t ≠ 5) : w'.heap[b]? = some (.cells cs t) :=
  h.oth b _ hr (by simp) (fun c fz e => by injection e with e1 e2; exact ht e2)
def PutO (base : Nat) (l : List UInt8) (W : World) (e : Ending) (w' : World) : Prop := ∃ v', e = .returned v' ∧ w'.ownsRow base 5 1 v' l.length (l.map B8) ∧ Fr base W w'
theorem appint_any (base : Nat) (v : Value) (l : List UInt8) (n : Nat) (w : World) (hown : w.ownsRow base 5 1 v l.length (l.map B8)) (hb : base ≤ w.heap.size) (hl : l.length ≤ 1000000) (hn : n ≤ 9223372036854775807) (hT : Lib.TabBelow Tryd.prog base w "internal/strconv.uint64pow10" .u64 Lib.pow10Tab) :
    Calls Tryd.prog 43 #[v, .int .i64 (n : Int), .int .i64 10] w (PutO base (l ++ Lib.decDigits n) w) := by
  refine (Any.strconv_AppendInt_10 lays176 base l.length (n : Int) (by omega) (by omega) v (l.map B8) w hown hb (by omega) hT).mono fun e w' hh => ?_
  obtain ⟨v', he, ho, hlow, hoth⟩ := hh
  refine ⟨v', he, ?_, hlow, hoth⟩
  rw [Lib.itoa_nonneg] at ho
  rw [List.length_append, List.map_append]
  exact ho
/-- One byte more. -/
theorem put1 {w : World} {ty : TypeId} {base n : Nat} {v : Value} {l : List UInt8} {y : Int} (x : UInt8) (hn : n = l.length) (h : w.ownsRow base 5 1 v l.length (l.map B8)) (hx : Value.int .u8 y = B8 x) (hb : base ≤ w.heap.size) (hl : l.length ≤ 1000000) {g : Nat} (hg : w.heap.size = g) :
    ∃ v' w', (Builtin.append_ #[50, 50] ty #[v, .slice (some ⟨g, 0, none⟩) 1 1]).run Tryd.prog (w.alloc (.cells #[.int .u8 y] 5)) = .ok v' w' ∧ (w'.ownsRow base 5 1 v' (l ++ [x]).length ((l ++ [x]).map B8) ∧ Fr base w w') := by
  obtain ⟨v', w', h1, h2, h3⟩ := app1c (ty := ty) h hx hb (by omega) hg
  refine ⟨v', w', h1, ?_, Fr.grew h h3 hb⟩
  rw [List.length_append, List.length_singleton]
  exact h2
set_option maxHeartbeats 8000000 in
theorem puttext_any (base : Nat) (v : Value) (l : List UInt8) (s : ByteArray) (w : World) (hown : w.ownsRow base 5 1 v l.length (l.map B8)) (hb : base ≤ w.heap.size) (hl : l.length ≤ 200000) (hs : s.size ≤ 10000) :
    Calls Tryd.prog 42 #[v, .string s] w (PutO base (l ++ Wm.quo s.data.toList) w) := by
  obtain ⟨L, hL⟩ : ∃ L, s.data.toList = L := ⟨_, rfl⟩
  have hlen := list_len s L hL
  have HLL := Lib.hid hL
  rw [hL]
  obtain ⟨sz, hsz⟩ : ∃ z, s.size = z := ⟨_, rfl⟩
  have HSZ := Lib.hid hsz
  have HLEN := Lib.hid (hlen.trans hsz)
  rw [hsz] at hs
  have HO := Lib.hid hown
  have HB := Lib.hid hb
  have HL := Lib.hid hl
  have HA0 := Lib.hid (fun ty => put1 (ty := ty) (y := 34) 34 rfl hown rfl hb (by omega) (rfl : w.heap.size = w.heap.size))
  clear hown hb hl hL hlen
  go_enter Tryd.func42, Tryd.ntmps42
  go_wp2_with (at_builtin; refine wpList_app rfl (.tmp 6) (.tmp 7) _ _ rfl rfl rfl (HA0.out _) ?_; rintro v1 w1 ⟨ho1, hf1⟩; have HO1 := Lib.hid ho1; have HF1 := Lib.hid hf1; clear ho1 hf1)
  have HI1 : Hid (w1.ownsRow base 5 1 v1 (l ++ 34 :: Wm.esc (L.take 0)).length ((l ++ 34 :: Wm.esc (L.take 0)).map B8)) := HO1
  go_loopw [0, 5, 11] (fun b _ x wr => ∃ j : Nat, x = .int .i64 (j : Int) ∧ j ≤ sz ∧ Hid (wr.ownsRow base 5 1 b (l ++ 34 :: Wm.esc (L.take j)).length ((l ++ 34 :: Wm.esc (L.take j)).map B8)) ∧ Hid (Fr base w wr)) (fun _ _ x _ => sz - (intOf x).toNat)
  case atStart => exact ⟨0, rfl, by omega, HI1, HF1⟩
  case round =>
    obtain ⟨j, rfl, hj, HOJ, HFJ⟩ := hrel
    have HBJ := Lib.hid (Nat.le_trans HB.out HFJ.out.low.size)
    have HLJ := Lib.hid (show (l ++ 34 :: Wm.esc (L.take j)).length ≤ 400000 from by
      have h1 := Wm.esc_len (L.take j)
      have h2 : (L.take j).length ≤ j := by rw [List.length_take]; omega
      have := HL.out
      simp
      omega)
    by_cases hlt : j < sz
    · obtain ⟨c, hc⟩ : ∃ c, L[j]? = some c := ⟨_, List.getElem?_eq_getElem (by rw [HLEN.out]; exact hlt)⟩
      have hx9 := run_byte (T := 9) Tryd.underlying9 (show s.data.toList[j]? = some c from by rw [HLL.out]; exact hc)
      have HTK : Hid (L.take (j + 1) = L.take j ++ [c]) := Lib.hid (by rw [List.take_add_one, hc]; rfl)
      have HE : Hid (Wm.esc (L.take (j + 1)) = Wm.esc (L.take j) ++ Wm.esc [c]) := Lib.hid (by rw [HTK.out, Wm.esc_app])
      generalize hX : l ++ 34 :: Wm.esc (L.take j) = X at *
      have HX := Lib.hid hX
      by_cases h34 : c = 34 ∨ c = 92
      · have HE2 : Hid (l ++ 34 :: Wm.esc (L.take (j + 1)) = X ++ [92] ++ [c]) := Lib.hid (by rw [HE.out, ← HX.out]; simp [Wm.esc, h34])
        have HA1 := Lib.hid (fun ty => put1 (ty := ty) (y := 92) 92 rfl HOJ.out rfl HBJ.out (by have := HLJ.out; omega) (rfl : wr.heap.size = wr.heap.size))
        have HC34 : Hid (((c.toNat : Int) = 34) ∨ ((c.toNat : Int) = 92)) := Lib.hid (by rcases h34 with rfl | rfl <;> simp)
        clear hc hX h34
        obtain ⟨cn, hcn⟩ : ∃ z : Int, (c.toNat : Int) = z := ⟨_, rfl⟩
        have HBC : Hid (Value.int .u8 cn = B8 c) := Lib.hid (by rw [← hcn]; rfl)
        rw [hcn] at hx9 HC34
        clear hcn
        have HC34' := HC34.out
        rcases HC34' with hc34 | hc34
        · have HCC := Lib.hid hc34
          have k34 : (cn == 34) = true := by rw [hc34]; rfl
          clear hc34 HC34
          go_wp2_with (first
            | (have hd := done1; clear done1; at_builtin; refine wpList_app rfl (.tmp 27) (.tmp 31) _ _ rfl rfl rfl (HA2.out _) ?_; rintro v2 w2 ⟨ho2, hf2⟩; have HO2 := Lib.hid ho2; have HF2 := Lib.hid hf2; clear ho2 hf2)
            | (at_builtin; refine wpList_app rfl (.tmp 24) (.tmp 25) _ _ rfl rfl rfl (HA1.out _) ?_; rintro v1 w1 ⟨ho1, hf1⟩; have HA2 := Lib.hid (fun ty => put1 (ty := ty) (y := cn) c rfl ho1 HBC.out (Nat.le_trans HBJ.out hf1.low.size) (by have := HLJ.out; rw [List.length_append, List.length_singleton]; omega) (rfl : w1.heap.size = w1.heap.size)); have HF1 := Lib.hid hf1; clear ho1 hf1; have done1 := trivial))
          go_roundw
          case rel => exact ⟨j + 1, by go_num, by omega, by rw [HE2.out]; exact HO2, Lib.hid (HFJ.out.trans (HF1.out.trans HF2.out))⟩
          case measure => simp [intOf]; omega
        · have HCC := Lib.hid hc34
          have k34 : (cn == 34) = false := by rw [hc34]; rfl
          have k92 : (cn == 92) = true := by rw [hc34]; rfl
          clear hc34 HC34
          go_wp2_with (first
            | (have hd := done1; clear done1; at_builtin; refine wpList_app rfl (.tmp 27) (.tmp 31) _ _ rfl rfl rfl (HA2.out _) ?_; rintro v2 w2 ⟨ho2, hf2⟩; have HO2 := Lib.hid ho2; have HF2 := Lib.hid hf2; clear ho2 hf2)
            | (at_builtin; refine wpList_app rfl (.tmp 24) (.tmp 25) _ _ rfl rfl rfl (HA1.out _) ?_; rintro v1 w1 ⟨ho1, hf1⟩; have HA2 := Lib.hid (fun ty => put1 (ty := ty) (y := cn) c rfl ho1 HBC.out (Nat.le_trans HBJ.out hf1.low.size) (by have := HLJ.out; rw [List.length_append, List.length_singleton]; omega) (rfl : w1.heap.size = w1.heap.size)); have HF1 := Lib.hid hf1; clear ho1 hf1; have done1 := trivial))
          go_roundw
          case rel => exact ⟨j + 1, by go_num, by omega, by rw [HE2.out]; exact HO2, Lib.hid (HFJ.out.trans (HF1.out.trans HF2.out))⟩
          case measure => simp [intOf]; omega
      · have HE2 : Hid (l ++ 34 :: Wm.esc (L.take (j + 1)) = X ++ [c]) := Lib.hid (by rw [HE.out, ← HX.out]; simp [Wm.esc, h34])
        have HA1 := Lib.hid (fun ty => put1 (ty := ty) (y := (c.toNat : Int)) c rfl HOJ.out rfl HBJ.out (by have := HLJ.out; omega) (rfl : wr.heap.size = wr.heap.size))
        have k34 : ((c.toNat : Int) == 34) = false := by rw [beq_eq_false_iff_ne]; intro e; exact h34 (.inl (by rw [← UInt8.toNat_inj]; simp; omega))
        have k92 : ((c.toNat : Int) == 92) = false := by rw [beq_eq_false_iff_ne]; intro e; exact h34 (.inr (by rw [← UInt8.toNat_inj]; simp; omega))
        clear hc hX h34
        go_wp2_with (at_builtin; refine wpList_app rfl (.tmp 27) (.tmp 31) _ _ rfl rfl rfl (HA1.out _) ?_; rintro v1 w1 ⟨ho1, hf1⟩; have HO1 := Lib.hid ho1; have HF1 := Lib.hid hf1; clear ho1 hf1)
        go_roundw
        case rel => exact ⟨j + 1, by go_num, by omega, by rw [HE2.out]; exact HO1, Lib.hid (HFJ.out.trans HF1.out)⟩
        case measure => simp [intOf]; omega
    · obtain rfl : j = sz := by omega
      have HTA : Hid (L.take j = L) := Lib.hid (List.take_of_length_le (by rw [HLEN.out]; omega))
      have HA3 := Lib.hid (fun ty => put1 (ty := ty) (y := 34) 34 rfl HOJ.out rfl HBJ.out (by have := HLJ.out; omega) (rfl : wr.heap.size = wr.heap.size))
      rw [HTA.out] at HA3
      go_wp2_with (at_builtin; refine wpList_app rfl (.tmp 34) (.tmp 35) _ _ rfl rfl rfl (HA3.out _) ?_; rintro v3 w3 ⟨ho3, hf3⟩; have HO3 := Lib.hid ho3; have HF3 := Lib.hid hf3; clear ho3 hf3)
      go_ret
      refine ⟨v3, rfl, ?_, HFJ.out.trans HF3.out⟩
      have h := HO3.out
      unfold Wm.quo
      simpa using h
end Go.Proofs.YtgiahfjndononaaDoor
