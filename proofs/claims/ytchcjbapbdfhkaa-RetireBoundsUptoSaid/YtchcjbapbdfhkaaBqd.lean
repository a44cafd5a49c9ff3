/- A block's bytes. -/
import Derived.Test.YtchcjbapbdfhkaaBqc
import Derived.Test.YtchcjbapbdfhkaaCg
namespace Go.Proofs.Ytchcjbapbdfhkaa
open Go.RowKit Go.Maps
set_option linter.unusedVariables false
set_option linter.unusedSimpArgs false
set_option maxRecDepth 100000

/-- The state on the way: the row, the episode's block. -/
structure ABt (v0 : Value) (w0 w : World) (base k : Nat) (O : Obj) (v : Value) (L : List UInt8) : Prop where
  own : w.ownsRow base 5 1 v (L).length ((L).map B8)
  box : w.heap[k]? = some O
  below : Below base w0 w
  gr : Grew w0 w v0 v
theorem ABt.step {v0 : Value} {w0 w w' : World} {base k : Nat} {cs : Array Value} {v v' : Value} {L L' : List UInt8} (h : ABt v0 w0 w base k (.cells cs 48) v L) (ho : w'.ownsRow base 5 1 v' (L').length ((L').map B8)) (hg : Grew w w' v v') (hb : base ≤ w0.heap.size) : ABt v0 w0 w' base k (.cells cs 48) v' L' :=
  ⟨ho, (hg.grown.block k (in_heap h.box) (Ne.symm (own_not h.own h.box (by decide)))).trans h.box, hg.below h.below (Nat.le_trans hb h.below.size) (own_block_ge h.own), h.gr.trans hg⟩
theorem ABt.keep {v0 : Value} {w0 w w' : World} {base k : Nat} {O : Obj} {v : Value} {L : List UInt8} (h : ABt v0 w0 w base k O v L) (hb : Below w.heap.size w w') (hk : base ≤ w0.heap.size) : ABt v0 w0 w' base k O v L :=
  ⟨own_below h.own hb, (hb.block k (in_heap h.box)).trans h.box, h.below.trans (hb.mono (Nat.le_trans hk h.below.size)), h.gr.trans (below_grew v hb)⟩
theorem spanappend_anyg (x0 x1 x2 x3 : Int) (x4 x5 : ByteArray) (x6 x7 : Int) (x8 : Bool) (ats : List (ByteArray × ByteArray)) (xA : Option Addr) (xc m B : Nat) (base : Nat) (v : Value) (l : List UInt8) (w : World) (hn : m = ats.length) (hy : RdL w B ⟨⟨x0, x1, x2, x3, x4, x5, x6, x7, x8, ats⟩, xA, xc⟩) (hB : B ≤ w.heap.size) (hBb : B ≤ base) (hown : w.ownsRow base 5 1 v (l).length ((l).map B8)) (hbase : base ≤ w.heap.size) (hl : l.length ≤ 1000000000) (hr : right ⟨x0, x1, x2, x3, x4, x5, x6, x7, x8, ats⟩ = true) :
    Calls Try.prog 81 #[v, .agg #[.int .u64 x0, .int .u64 x1, .int .u64 x2, .int .u64 x3, .string x4, .string x5, .int .i64 x6, .int .i64 x7, .bool x8, .slice xA m xc]] w fun e w' => ∃ v', e = .returned v' ∧ w'.ownsRow base 5 1 v' (l ++ enc ⟨x0, x1, x2, x3, x4, x5, x6, x7, x8, ats⟩).length ((l ++ enc ⟨x0, x1, x2, x3, x4, x5, x6, x7, x8, ats⟩).map B8) ∧ Below base w w' ∧ Grew w w' v v' := by
  obtain ⟨r1, r2, r3, r4, r5, r6, r7⟩ := right_parts hr
  obtain ⟨y0, rfl⟩ := Int.eq_ofNat_of_zero_le hy.ok.hi.1
  obtain ⟨y1, rfl⟩ := Int.eq_ofNat_of_zero_le hy.ok.lo.1
  obtain ⟨y2, rfl⟩ := Int.eq_ofNat_of_zero_le hy.ok.id.1
  obtain ⟨y3, rfl⟩ := Int.eq_ofNat_of_zero_le hy.ok.pa.1
  obtain ⟨y6, rfl⟩ := Int.eq_ofNat_of_zero_le r3
  obtain ⟨y7, rfl⟩ := Int.eq_ofNat_of_zero_le r5
  exact spanappend_gr y0 y1 y2 y3 x4 x5 y6 y7 x8 ats xA xc m B base v l w hn hy hB hBb hown hbase hl hr
set_option maxHeartbeats 16000000 in
theorem appendbody_nat (th tl : Int) (fn ln : Nat) (su : Bool) (eA : Option Addr) (el : List Ls) (m ec B base : Nat) (v0 : Value) (L : List UInt8) (w : World) (hm : m = el.length) (hy : RdSps w B eA el) (hB : B ≤ w.heap.size) (hBb : B ≤ base) (hown : w.ownsRow base 5 1 v0 (L).length ((L).map B8)) (hbase : base ≤ w.heap.size) (hl : L.length ≤ 100000000) (hf1 : fn ≤ 1099511627776) (hf2 : ln ≤ 1099511627776) (hm60 : m ≤ 60) (hr : ∀ s ∈ el.map Ls.s, right s = true) :
    Calls Try.prog 48 #[v0, .agg #[.int .u64 th, .int .u64 tl, .int .i64 (fn : Int), .int .i64 (ln : Int), .bool su, .slice eA m ec]] w fun e w' => ∃ v', e = .returned v' ∧ w'.ownsRow base 5 1 v' (((((L ++ Mi.put fn) ++ Mi.put ln) ++ flag su) ++ Mi.put m) ++ encS (el.map Ls.s)).length ((((((L ++ Mi.put fn) ++ Mi.put ln) ++ flag su) ++ Mi.put m) ++ encS (el.map Ls.s)).map B8) ∧ Below base w w' ∧ Grew w w' v0 v' := by
  have HMN := Lib.hid hm
  have HY := Lib.hid hy
  have HRR := Lib.hid hr
  have l1 := (Mi.put_len fn).2
  have l2 := (Mi.put_len ln).2
  have l3 : (flag su).length = 1 := rfl
  have l4 := (Mi.put_len m).2
  have HL := Lib.hid (And.intro l1 (And.intro l2 (And.intro l3 l4)))
  have HA0 : Hid (ABt v0 w (w.alloc (.cells #[.int .u64 th, .int .u64 tl, .int .i64 (fn : Int), .int .i64 (ln : Int), .bool su, .slice eA m ec] 48)) base w.heap.size (.cells #[.int .u64 th, .int .u64 tl, .int .i64 (fn : Int), .int .i64 (ln : Int), .bool su, .slice eA m ec] 48) v0 L) := Lib.hid ⟨own_below hown ((Below.refl _ _).alloc (Nat.le_refl _) _), heap_alloc_new w _, ((Below.refl w.heap.size w).alloc (Nat.le_refl _) _).mono hbase, below_grew v0 ((Below.refl _ _).alloc (Nat.le_refl _) _)⟩
  have hfw : IntKind.u64.wrap (fn : Int) = (fn : Int) := by rw [IntKind.wrap_u64]; omega
  have hlw : IntKind.u64.wrap (ln : Int) = (ln : Int) := by rw [IntKind.wrap_u64]; omega
  have hmw : IntKind.u64.wrap (m : Int) = (m : Int) := by rw [IntKind.wrap_u64]; omega
  clear hm hy hr hown l1 l2 l3 l4
  go_enter Try.func48, Try.ntmps48
  have z0 : base ≤ (w.alloc (.cells #[.int .u64 th, .int .u64 tl, .int .i64 (fn : Int), .int .i64 (ln : Int), .bool su, .slice eA m ec] 48)).heap.size := Nat.le_trans hbase HA0.out.below.size
  have C0 := Lib.hid (append_calls base v0 L fn (w.alloc (.cells #[.int .u64 th, .int .u64 tl, .int .i64 (fn : Int), .int .i64 (ln : Int), .bool su, .slice eA m ec] 48)) HA0.out.own z0 (by obtain ⟨l1, l2, l3, l4⟩ := HL.out; (try simp only [List.length_append]); omega) (by omega))
  go_wp2_with fail
  refine C0.out.mono ?_
  rintro e w1 ⟨v1, rfl, ho, hg⟩
  have HA1 : Hid (ABt v0 w w1 base w.heap.size (.cells #[.int .u64 th, .int .u64 tl, .int .i64 (fn : Int), .int .i64 (ln : Int), .bool su, .slice eA m ec] 48) v1 (L ++ Mi.put fn)) := Lib.hid (HA0.out.step ho hg hbase)
  clear ho hg C0 HA0 z0
  have c1 : w1.cell? ⟨w.heap.size, 3, none⟩ = some (.int .i64 (ln : Int)) := cell_of_row _ _ 3 _ _ (0, 0) HA1.out.box
  have z1 : base ≤ w1.heap.size := Nat.le_trans hbase HA1.out.below.size
  have C1 := Lib.hid (append_calls base v1 (L ++ Mi.put fn) ln w1 HA1.out.own z1 (by obtain ⟨l1, l2, l3, l4⟩ := HL.out; (try simp only [List.length_append]); omega) (by omega))
  go_wp2_with fail
  refine C1.out.mono ?_
  rintro e w2 ⟨v2, rfl, ho, hg⟩
  have HA2 : Hid (ABt v0 w w2 base w.heap.size (.cells #[.int .u64 th, .int .u64 tl, .int .i64 (fn : Int), .int .i64 (ln : Int), .bool su, .slice eA m ec] 48) v2 ((L ++ Mi.put fn) ++ Mi.put ln)) := Lib.hid (HA1.out.step ho hg hbase)
  clear ho hg C1 HA1 z1 c1
  have c2 : w2.cell? ⟨w.heap.size, 4, none⟩ = some (.bool su) := cell_of_row _ _ 4 _ _ (0, 0) HA2.out.box
  have z2 : base ≤ w2.heap.size := Nat.le_trans hbase HA2.out.below.size
  have C2 := Lib.hid (appendflag_calls base v2 ((L ++ Mi.put fn) ++ Mi.put ln) su w2 HA2.out.own z2 (by obtain ⟨l1, l2, l3, l4⟩ := HL.out; (try simp only [List.length_append]); omega))
  go_wp2_with fail
  refine C2.out.mono ?_
  rintro e w3 ⟨v3, rfl, ho, hg⟩
  have HA3 : Hid (ABt v0 w w3 base w.heap.size (.cells #[.int .u64 th, .int .u64 tl, .int .i64 (fn : Int), .int .i64 (ln : Int), .bool su, .slice eA m ec] 48) v3 (((L ++ Mi.put fn) ++ Mi.put ln) ++ flag su)) := Lib.hid (HA2.out.step ho hg hbase)
  clear ho hg C2 HA2 z2 c2
  have c3 : w3.cell? ⟨w.heap.size, 5, none⟩ = some (.slice eA m ec) := cell_of_row _ _ 5 _ _ (0, 0) HA3.out.box
  have z3 : base ≤ w3.heap.size := Nat.le_trans hbase HA3.out.below.size
  have C3 := Lib.hid (append_calls base v3 (((L ++ Mi.put fn) ++ Mi.put ln) ++ flag su) m w3 HA3.out.own z3 (by obtain ⟨l1, l2, l3, l4⟩ := HL.out; (try simp only [List.length_append]); omega) (by omega))
  go_wp2_with fail
  refine C3.out.mono ?_
  rintro e w4 ⟨v4, rfl, ho, hg⟩
  have HA4 : Hid (ABt v0 w w4 base w.heap.size (.cells #[.int .u64 th, .int .u64 tl, .int .i64 (fn : Int), .int .i64 (ln : Int), .bool su, .slice eA m ec] 48) v4 ((((L ++ Mi.put fn) ++ Mi.put ln) ++ flag su) ++ Mi.put m)) := Lib.hid (HA3.out.step ho hg hbase)
  clear ho hg C3 HA3 z3 c3
  have c5 : w4.cell? ⟨w.heap.size, 5, none⟩ = some (.slice eA m ec) := cell_of_row _ _ 5 _ _ (0, 0) HA4.out.box
  go_wp2_with fail
  go_loopw [0, 30] (fun u iv wr => ∃ k : Nat, iv = .int .i64 (k : Int) ∧ k ≤ m ∧ Hid ((encS ((el.map Ls.s).take k)).length ≤ 400 * k) ∧ Hid (ABt v0 w wr base w.heap.size (.cells #[.int .u64 th, .int .u64 tl, .int .i64 (fn : Int), .int .i64 (ln : Int), .bool su, .slice eA m ec] 48) u (((((L ++ Mi.put fn) ++ Mi.put ln) ++ flag su) ++ Mi.put m) ++ encS ((el.map Ls.s).take k)))) (fun _ iv _ => m - (intOf iv).toNat)
  case atStart => exact ⟨0, rfl, Nat.zero_le _, Lib.hid (by simp [encS]), Lib.hid (by simpa [encS] using HA4.out)⟩
  case round =>
    clear HA4 c5
    obtain ⟨k, rfl, hk, HK, HA⟩ := hrel
    by_cases hlt : k < m
    · obtain ⟨x, hx⟩ : ∃ x, el[k]? = some x := ⟨_, List.getElem?_eq_getElem (by rw [← HMN.out]; exact hlt)⟩
      have HR : Hid (RdSps wr B eA el) := Lib.hid (HY.out.below (HA.out.below.mono hBb))
      obtain ⟨a, ha, hab, hc, hxl⟩ := HR.out.at_ hx
      subst ha
      have hxm : (el.map Ls.s)[k]? = some x.s := by rw [List.getElem?_map, hx]; rfl
      have hrx := HRR.out x.s (List.mem_of_getElem? hxm)
      have HST := Lib.hid (encS_step _ k x.s hxm)
      have HEL := Lib.hid (enc_len hrx).2
      obtain ⟨⟨x0, x1, x2, x3, x4, x5, x6, x7, x8, ats⟩, xA, xc⟩ := x
      obtain ⟨p, hm⟩ : ∃ p, p = ats.length := ⟨_, rfl⟩
      simp only at hrx HST HEL
      have d0 := hc 0 _ rfl
      have d1 := cell_far (hc 1 _ rfl) (by omega)
      have d2 := cell_far (hc 2 _ rfl) (by omega)
      have d3 := cell_far (hc 3 _ rfl) (by omega)
      have d4 := cell_far (hc 4 _ rfl) (by omega)
      have d5 := cell_far (hc 5 _ rfl) (by omega)
      have d6 := cell_far (hc 6 _ rfl) (by omega)
      have d7 := cell_far (hc 7 _ rfl) (by omega)
      have d8 := cell_far (hc 8 _ rfl) (by omega)
      have d9 : wr.cell? ⟨(a.add (k * 10)).block, (a.add (k * 10)).off + 9, none⟩ = some (.slice xA p xc) := by rw [hm]; exact cell_far (hc 9 _ rfl) (by omega)
      simp only [Nat.add_zero] at d0
      simp only at d1 d2 d3 d4 d5 d6 d7 d8
      have hzw : base ≤ wr.heap.size := Nat.le_trans hbase HA.out.below.size
      have HA5 : Hid (ABt v0 w (wr.alloc (.cells #[.int .u64 x0, .int .u64 x1, .int .u64 x2, .int .u64 x3, .string x4, .string x5, .int .i64 x6, .int .i64 x7, .bool x8, .slice xA p xc] 75)) base w.heap.size (.cells #[.int .u64 th, .int .u64 tl, .int .i64 (fn : Int), .int .i64 (ln : Int), .bool su, .slice (some a) m ec] 48) u0 (((((L ++ Mi.put fn) ++ Mi.put ln) ++ flag su) ++ Mi.put m) ++ encS ((el.map Ls.s).take k))) := Lib.hid (HA.out.keep ((Below.refl _ _).alloc (Nat.le_refl _) _) hbase)
      have F := Lib.hid (spanappend_anyg x0 x1 x2 x3 x4 x5 x6 x7 x8 ats xA xc p B base _ (((((L ++ Mi.put fn) ++ Mi.put ln) ++ flag su) ++ Mi.put m) ++ encS ((el.map Ls.s).take k)) (wr.alloc (.cells #[.int .u64 x0, .int .u64 x1, .int .u64 x2, .int .u64 x3, .string x4, .string x5, .int .i64 x6, .int .i64 x7, .bool x8, .slice xA p xc] 75)) hm (hxl.keep (fun q hq => World.cell?_alloc_lt wr _ q (by omega))) (by simp; omega) hBb HA5.out.own (by simp; omega) (by obtain ⟨l1, l2, l3, l4⟩ := HL.out; have := HK.out; (try simp only [List.length_append]); omega) hrx)
      clear hc hxl hx hm hrx hxm
      go_wp2_with (go_at_call 81; (with_reducible refine F.out.mono ?_); rintro e w9 ⟨v9, rfl, ho9, _, hg9⟩; have HA9 := Lib.hid (HA5.out.step ho9 hg9 hbase); clear ho9 hg9)
      go_roundw
      case rel => exact ⟨k + 1, by go_num, by omega, Lib.hid (by rw [HST.out, List.length_append]; have := HK.out; have := HEL.out; omega), Lib.hid (by rw [HST.out, ← List.append_assoc]; exact HA9.out)⟩
      case measure => simp [intOf]; omega
    · obtain rfl : k = m := by omega
      have HE : Hid ((el.map Ls.s).take k = el.map Ls.s) := Lib.hid (List.take_of_length_le (by rw [List.length_map, ← HMN.out]; exact Nat.le_refl _))
      rw [HE.out] at HA
      go_wp2_with fail
      go_ret
      exact ⟨_, rfl, HA.out.own, HA.out.below, HA.out.gr⟩
theorem appendbody_any (th tl f la : Int) (su : Bool) (eA : Option Addr) (el : List Ls) (m ec B base : Nat) (v0 : Value) (L : List UInt8) (w : World) (hm : m = el.length) (hy : RdSps w B eA el) (hB : B ≤ w.heap.size) (hBb : B ≤ base) (hown : w.ownsRow base 5 1 v0 (L).length ((L).map B8)) (hbase : base ≤ w.heap.size) (hl : L.length ≤ 100000000) (hm60 : m ≤ 60) (ok : okEp ⟨th, tl, f, la, su, el.map Ls.s⟩ = true) :
    Calls Try.prog 48 #[v0, .agg #[.int .u64 th, .int .u64 tl, .int .i64 f, .int .i64 la, .bool su, .slice eA m ec]] w fun e w' => ∃ v', e = .returned v' ∧ w'.ownsRow base 5 1 v' (L ++ bodyE ⟨th, tl, f, la, su, el.map Ls.s⟩).length ((L ++ bodyE ⟨th, tl, f, la, su, el.map Ls.s⟩).map B8) ∧ Below base w w' ∧ Grew w w' v0 v' := by
  obtain ⟨h1, h2, h3, h4⟩ := okEp_num ok
  have hr : ∀ s ∈ el.map Ls.s, right s = true := fun s hs => okS_right (okEp_each ok s hs)
  simp only at h1 h2 h3 h4
  obtain ⟨fn, rfl⟩ := Int.eq_ofNat_of_zero_le h1
  obtain ⟨ln, rfl⟩ := Int.eq_ofNat_of_zero_le h3
  have h := appendbody_nat th tl fn ln su eA el m ec B base v0 L w hm hy hB hBb hown hbase hl (by omega) (by omega) hm60 hr
  have e : L ++ bodyE ⟨th, tl, (fn : Int), (ln : Int), su, el.map Ls.s⟩ = ((((L ++ Mi.put fn) ++ Mi.put ln) ++ flag su) ++ Mi.put m) ++ encS (el.map Ls.s) := by
    unfold bodyE
    simp only [Int.toNat_natCast, List.length_map, ← hm, List.append_assoc]
  rw [e]
  exact h
end Go.Proofs.Ytchcjbapbdfhkaa
