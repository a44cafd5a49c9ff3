/- A batch: which spans are one, and its bytes. -/
import Derived.Test.YthkclgkbidhmbaaBk3
import Derived.Test.YthkclgkbidhmbaaFew
import Derived.Test.YthkclgkbidhmbaaCg
namespace Go.Proofs.Ythkclgkbidhmbaa
open Go.RowKit
set_option linter.unusedVariables false
set_option maxRecDepth 100000

def rightL (l : List Ls) : Bool := decide (1 ≤ l.length) && (decide (l.length ≤ 50) && l.all fun x => right x.s)
def encL (l : List Ls) : List UInt8 := l.flatMap fun x => enc x.s
/-- A batch's bytes, but the sum; with it. -/
def encB (l : List Ls) : List UInt8 := Mi.put l.length ++ encL l
def batchBytes (l : List Ls) : List UInt8 := encB l ++ Cm.le4 (Cm.sum (encB l))
theorem encL_len : ∀ (l : List Ls), (∀ x ∈ l, right x.s = true) → (encL l).length ≤ 400 * l.length
  | [], _ => by simp [encL]
  | x :: l, h => by
    have h1 := encL_len l (fun y hy => h y (by simp [hy]))
    have h2 := (enc_len (h x (by simp))).2
    have e : encL (x :: l) = enc x.s ++ encL l := rfl
    rw [e, List.length_append, List.length_cons]
    omega
theorem encL_step (l : List Ls) (k : Nat) (x : Ls) (h : l[k]? = some x) : encL (l.take (k + 1)) = encL (l.take k) ++ enc x.s := by
  unfold encL
  rw [List.take_add_one, h, List.flatMap_append]
  simp
theorem spanappend_any (x0 x1 x2 x3 : Int) (x4 x5 : ByteArray) (x6 x7 : Int) (x8 : Bool) (ats : List (ByteArray × ByteArray)) (xA : Option Addr) (xc m B : Nat) (base : Nat) (v : Value) (l : List UInt8) (w : World) (hn : m = ats.length) (hy : RdL w B ⟨⟨x0, x1, x2, x3, x4, x5, x6, x7, x8, ats⟩, xA, xc⟩) (hB : B ≤ w.heap.size) (hBb : B ≤ base) (hown : w.ownsRow base 5 1 v l.length (l.map B8)) (hbase : base ≤ w.heap.size) (hl : l.length ≤ 1000000000) (hr : right ⟨x0, x1, x2, x3, x4, x5, x6, x7, x8, ats⟩ = true) :
    Calls Try.prog 62 #[v, .agg #[.int .u64 x0, .int .u64 x1, .int .u64 x2, .int .u64 x3, .string x4, .string x5, .int .i64 x6, .int .i64 x7, .bool x8, .slice xA m xc]] w fun e w' => ∃ v', e = .returned v' ∧ w'.ownsRow base 5 1 v' (l ++ enc ⟨x0, x1, x2, x3, x4, x5, x6, x7, x8, ats⟩).length ((l ++ enc ⟨x0, x1, x2, x3, x4, x5, x6, x7, x8, ats⟩).map B8) ∧ Below base w w' := by
  obtain ⟨r1, r2, r3, r4, r5, r6, r7⟩ := right_parts hr
  obtain ⟨y0, rfl⟩ := Int.eq_ofNat_of_zero_le hy.ok.hi.1
  obtain ⟨y1, rfl⟩ := Int.eq_ofNat_of_zero_le hy.ok.lo.1
  obtain ⟨y2, rfl⟩ := Int.eq_ofNat_of_zero_le hy.ok.id.1
  obtain ⟨y3, rfl⟩ := Int.eq_ofNat_of_zero_le hy.ok.pa.1
  obtain ⟨y6, rfl⟩ := Int.eq_ofNat_of_zero_le r3
  obtain ⟨y7, rfl⟩ := Int.eq_ofNat_of_zero_le r5
  exact spanappend_yes y0 y1 y2 y3 x4 x5 y6 y7 x8 ats xA xc m B base v l w hn hy hB hBb hown hbase hl hr
set_option maxHeartbeats 8000000 in
theorem batchright_any (A : Option Addr) (l : List Ls) (n c B : Nat) (w : World) (hn : n = l.length) (hy : RdSps w B A l) (hB : B ≤ w.heap.size) (hl : n ≤ maxLen) :
    Calls Try.prog 74 #[.slice A n c] w fun e w' => e = .returned (.bool (rightL l)) ∧ Below w.heap.size w w' := by
  simp only [maxLen] at hl
  have HN := Lib.hid hn
  have HF : Hid (rightL l = (decide (1 ≤ n) && (decide (n ≤ 50) && l.all fun x => right x.s))) := Lib.hid (by rw [hn]; rfl)
  generalize rightL l = fw at *
  have HY := Lib.hid hy
  clear hy hn
  have hc : n = 0 ∨ 50 < n ∨ (1 ≤ n ∧ n ≤ 50) := by omega
  rcases hc with rfl | h1 | ⟨h1, h2⟩
  · have HQ : Hid (fw = false) := Lib.hid (by rw [HF.out]; simp)
    go_enter Try.func74, Try.ntmps74
    go_wp2_with fail
    go_ret
    exact ⟨by rw [HQ.out] <;> rfl, Below.refl _ _⟩
  · have HQ : Hid (fw = false) := Lib.hid (by rw [HF.out]; simp; omega)
    have d1 : decide (n < 1) = false := decide_eq_false (by omega)
    have d2 : decide ((n : Int) < 1) = false := decide_eq_false (by omega)
    have d3 : decide (50 < n) = true := decide_eq_true h1
    go_enter Try.func74, Try.ntmps74
    go_wp2_with fail
    go_ret
    exact ⟨by rw [HQ.out] <;> rfl, Below.refl _ _⟩
  · have HQ : Hid (fw = l.all fun x => right x.s) := Lib.hid (by rw [HF.out]; simp [h1, h2])
    have d1 : decide (n < 1) = false := decide_eq_false (by omega)
    have d2 : decide ((n : Int) < 1) = false := decide_eq_false (by omega)
    have d3 : decide (50 < n) = false := decide_eq_false (by omega)
    have d4 : decide ((50 : Int) < (n : Int)) = false := decide_eq_false (by omega)
    go_enter Try.func74, Try.ntmps74
    go_wp2_with fail
    go_loopw [15] (fun i wr => ∃ k : Nat, i = .int .i64 k ∧ k ≤ n ∧ Hid ((l.take k).all (fun x => right x.s) = true) ∧ Hid (Below w.heap.size w wr)) (fun i _ => n - (intOf i).toNat)
    case atStart => exact ⟨0, rfl, by omega, Lib.hid (by simp), Lib.hid (Below.refl _ _)⟩
    case round =>
      obtain ⟨k, rfl, hk, HK, HB⟩ := hrel
      by_cases hlt : k < n
      · obtain ⟨x, hx⟩ : ∃ x, l[k]? = some x := ⟨_, List.getElem?_eq_getElem (by rw [← HN.out]; exact hlt)⟩
        have HR : Hid (RdSps wr B A l) := Lib.hid (HY.out.below (HB.out.mono hB))
        obtain ⟨a, ha, _, hc, hl2⟩ := HR.out.at_ hx
        subst ha
        obtain ⟨⟨x0, x1, x2, x3, x4, x5, x6, x7, x8, ats⟩, xA, xc⟩ := x
        have c0 := hc 0 _ rfl
        have c1 := cell_far (hc 1 _ rfl) (by omega)
        have c2 := cell_far (hc 2 _ rfl) (by omega)
        have c3 := cell_far (hc 3 _ rfl) (by omega)
        have c4 := cell_far (hc 4 _ rfl) (by omega)
        have c5 := cell_far (hc 5 _ rfl) (by omega)
        have c6 := cell_far (hc 6 _ rfl) (by omega)
        have c7 := cell_far (hc 7 _ rfl) (by omega)
        have c8 := cell_far (hc 8 _ rfl) (by omega)
        obtain ⟨m, hm⟩ : ∃ m, m = ats.length := ⟨_, rfl⟩
        have c9 : wr.cell? ⟨(a.add (k * 10)).block, (a.add (k * 10)).off + 9, none⟩ = some (.slice xA m xc) := by rw [hm]; exact cell_far (hc 9 _ rfl) (by omega)
        simp only [Nat.add_zero] at c0
        have HX := Lib.hid hx
        have hzw : B ≤ wr.heap.size := Nat.le_trans hB HB.out.size
        have F := Lib.hid (right_lit x0 x1 x2 x3 x4 x5 x6 x7 x8 ats xA xc m B (wr.alloc (.cells #[.int .u64 x0, .int .u64 x1, .int .u64 x2, .int .u64 x3, .string x4, .string x5, .int .i64 x6, .int .i64 x7, .bool x8, .slice xA m xc] 36)) hm (hl2.keep (fun p hp => World.cell?_alloc_lt wr _ p (by omega))) (by simp; omega))
        have HB0 := Lib.hid (HB.out.alloc HB.out.size (.cells #[.int .u64 x0, .int .u64 x1, .int .u64 x2, .int .u64 x3, .string x4, .string x5, .int .i64 x6, .int .i64 x7, .bool x8, .slice xA m xc] 36))
        clear hc hl2 hx hm
        cases hfx : right ⟨x0, x1, x2, x3, x4, x5, x6, x7, x8, ats⟩
        · have HP := Lib.hid (all_not (fun x : Ls => right x.s) l k _ HX.out hfx)
          simp only [hfx] at F
          clear hfx
          go_wp2_with (go_at_call 28; (with_reducible refine (F.out).mono ?_); rintro e w1 ⟨rfl, hb1⟩; have HB1 := Lib.hid (HB0.out.trans (hb1.mono HB0.out.size)); clear hb1)
          go_ret
          exact ⟨by rw [HQ.out, HP.out] <;> rfl, HB1.out⟩
        · have HP := Lib.hid (all_take_succ (fun x : Ls => right x.s) l k _ HX.out HK.out hfx)
          simp only [hfx] at F
          clear hfx
          go_wp2_with (go_at_call 28; (with_reducible refine (F.out).mono ?_); rintro e w1 ⟨rfl, hb1⟩; have HB1 := Lib.hid (HB0.out.trans (hb1.mono HB0.out.size)); clear hb1)
          go_roundw
          case rel => exact ⟨k + 1, by go_num, by omega, HP, HB1⟩
          case measure => simp [intOf]; omega
      · obtain rfl : k = n := by omega
        have HP : Hid ((l.all fun x => right x.s) = true) := Lib.hid (by have := HK.out; rwa [List.take_of_length_le (by rw [← HN.out]; exact Nat.le_refl _)] at this)
        go_wp2_with fail
        go_ret
        exact ⟨by rw [HQ.out, HP.out] <;> rfl, HB.out⟩
theorem rightL_parts {l : List Ls} (h : rightL l = true) : 1 ≤ l.length ∧ l.length ≤ 50 ∧ ∀ x ∈ l, right x.s = true := by
  unfold rightL at h
  simpa using h
set_option maxHeartbeats 8000000 in
theorem batchbytes_any (A : Option Addr) (l : List Ls) (n c B : Nat) (w : World) (hn : n = l.length) (hy : RdSps w B A l) (hB : B ≤ w.heap.size) (hl : n ≤ maxLen) :
    Calls Try.prog 48 #[.slice A n c] w (BytesOf (if rightL l then batchBytes l else []) w) := by
  have HR := Lib.hid (batchright_any A l n c B w hn hy hB hl)
  have HN := Lib.hid hn
  have HY := Lib.hid hy
  clear hl
  cases hr : rightL l
  · rw [hr] at HR
    have HP : Hid (∀ w1, Below w.heap.size w w1 → BytesOf (if false = true then batchBytes l else []) w (.returned (.slice none 0 0)) w1) := Lib.hid (fun w1 hb => ⟨_, rfl, World.ownsRow_nil _ _ _ _, hb⟩)
    clear hr hn hy
    go_enter Try.func48, Try.ntmps48
    go_wp2_with (go_at_call 74; (with_reducible refine (HR.out).mono ?_); rintro e w1 ⟨rfl, hb1⟩; have HB1 := Lib.hid hb1; clear hb1)
    go_ret
    exact HP.out _ HB1.out
  · rw [hr] at HR
    obtain ⟨g1, g2, g3⟩ := rightL_parts hr
    have HG := Lib.hid g3
    rw [← hn] at g1 g2
    have hpl := Mi.put_len n
    have HPL := Lib.hid hpl
    clear hr hn hy g3 hpl
    have HAP : Hid (∀ W, Below w.heap.size w W → Calls Try.prog 54 #[.slice none 0 0, .int .u64 (n : Int)] W fun e w' => ∃ v', e = .returned v' ∧ w'.ownsRow w.heap.size 5 1 v' (Mi.put n).length ((Mi.put n).map B8) ∧ Below w.heap.size w w') := Lib.hid (fun W hW => by
      have h := append_calls w.heap.size (.slice none 0 0) [] n W (World.ownsRow_nil _ _ _ _) hW.size (by simp) (by omega)
      refine h.mono fun e w' hh => ?_
      obtain ⟨v', he, ho, hg⟩ := hh
      exact ⟨v', he, ho, hW.trans (hg.new.mono hW.size)⟩)
    go_enter Try.func48, Try.ntmps48
    go_wp2_with (first
      | (go_at_call 74; (with_reducible refine (HR.out).mono ?_); rintro e w1 ⟨rfl, hb1⟩; have HA1 := Lib.hid (HAP.out w1 hb1); clear hb1)
      | (go_at_call 54; (with_reducible refine (HA1.out).mono ?_); rintro e w2 ⟨v2, rfl, ho, hb⟩; have HO2 := Lib.hid ho; have HB2 := Lib.hid hb; clear ho hb))
    go_loopw [15, 3] (fun i v wr => ∃ k : Nat, i = .int .i64 k ∧ k ≤ n ∧ Hid ((Mi.put n ++ encL (l.take k)).length ≤ 10 + 400 * k) ∧ Hid (wr.ownsRow w.heap.size 5 1 v (Mi.put n ++ encL (l.take k)).length ((Mi.put n ++ encL (l.take k)).map B8)) ∧ Hid (Below w.heap.size w wr)) (fun i _ _ => n - (intOf i).toNat)
    case atStart => exact ⟨0, rfl, by omega, Lib.hid (by have := HPL.out; simp [encL]; omega), Lib.hid (by have := HO2.out; simpa [encL] using this), HB2⟩
    case round =>
      obtain ⟨k, rfl, hk, HKL, HO, HB⟩ := hrel
      by_cases hlt : k < n
      · obtain ⟨x, hx⟩ : ∃ x, l[k]? = some x := ⟨_, List.getElem?_eq_getElem (by rw [← HN.out]; exact hlt)⟩
        have HRR : Hid (RdSps wr B A l) := Lib.hid (HY.out.below (HB.out.mono hB))
        obtain ⟨a, ha, _, hc, hl2⟩ := HRR.out.at_ hx
        subst ha
        have hrx := HG.out x (List.mem_of_getElem? hx)
        have hst := encL_step l k x hx
        obtain ⟨⟨x0, x1, x2, x3, x4, x5, x6, x7, x8, ats⟩, xA, xc⟩ := x
        simp only at hrx hst
        have c0 := hc 0 _ rfl
        have c1 := cell_far (hc 1 _ rfl) (by omega)
        have c2 := cell_far (hc 2 _ rfl) (by omega)
        have c3 := cell_far (hc 3 _ rfl) (by omega)
        have c4 := cell_far (hc 4 _ rfl) (by omega)
        have c5 := cell_far (hc 5 _ rfl) (by omega)
        have c6 := cell_far (hc 6 _ rfl) (by omega)
        have c7 := cell_far (hc 7 _ rfl) (by omega)
        have c8 := cell_far (hc 8 _ rfl) (by omega)
        obtain ⟨m, hm⟩ : ∃ m, m = ats.length := ⟨_, rfl⟩
        have c9 : wr.cell? ⟨(a.add (k * 10)).block, (a.add (k * 10)).off + 9, none⟩ = some (.slice xA m xc) := by rw [hm]; exact cell_far (hc 9 _ rfl) (by omega)
        simp only [Nat.add_zero] at c0
        have hzw : B ≤ wr.heap.size := Nat.le_trans hB HB.out.size
        have hzb := HB.out.size
        have hel := (enc_len hrx).2
        have F := Lib.hid (spanappend_any x0 x1 x2 x3 x4 x5 x6 x7 x8 ats xA xc m B w.heap.size _ (Mi.put n ++ encL (l.take k)) (wr.alloc (.cells #[.int .u64 x0, .int .u64 x1, .int .u64 x2, .int .u64 x3, .string x4, .string x5, .int .i64 x6, .int .i64 x7, .bool x8, .slice xA m xc] 36)) hm (hl2.keep (fun p hp => World.cell?_alloc_lt wr _ p (by omega))) (by simp; omega) hB (own_below HO.out ((Below.refl _ _).alloc (Nat.le_refl _) _)) (by simp; omega) (by have := HKL.out; omega) hrx)
        have HB0 := Lib.hid (HB.out.alloc HB.out.size (.cells #[.int .u64 x0, .int .u64 x1, .int .u64 x2, .int .u64 x3, .string x4, .string x5, .int .i64 x6, .int .i64 x7, .bool x8, .slice xA m xc] 36))
        have HEL := Lib.hid hel
        have HST := Lib.hid hst
        clear hc hl2 hx hm hrx hst hel
        go_wp2_with (go_at_call 62; (with_reducible refine (F.out).mono ?_); rintro e w1 ⟨v1, rfl, ho1, hb1⟩; have HO1 := Lib.hid ho1; have HB1 := Lib.hid (HB0.out.trans hb1); clear hb1 ho1)
        go_roundw
        case rel => exact ⟨k + 1, by go_num, by omega, Lib.hid (by rw [HST.out, ← List.append_assoc, List.length_append]; have := HKL.out; have := HEL.out; omega), Lib.hid (by rw [HST.out, ← List.append_assoc]; exact HO1.out), HB1⟩
        case measure => simp [intOf]; omega
      · obtain rfl : k = n := by omega
        have HE : Hid (Mi.put k ++ encL (l.take k) = encB l) := Lib.hid (by rw [List.take_of_length_le (by rw [← HN.out]; exact Nat.le_refl _)]; unfold encB; rw [← HN.out])
        rw [HE.out] at HO HKL
        have HCA := Lib.hid (checkappend_calls w.heap.size _ (encB l) wr HO.out HB.out.size (by have := HKL.out; omega))
        go_wp2_with (go_at_call 75; (with_reducible refine (HCA.out).mono ?_); rintro e w1 ⟨v1, rfl, ho1, hg1⟩; have HO1 := Lib.hid ho1; have HB1 := Lib.hid (hg1.below HB.out HB.out.size (own_block_ge HO.out)); clear hg1 ho1)
        go_ret
        exact ⟨_, rfl, HO1.out, HB1.out⟩
end Go.Proofs.Ythkclgkbidhmbaa
