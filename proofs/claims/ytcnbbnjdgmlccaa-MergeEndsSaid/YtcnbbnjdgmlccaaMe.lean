/- MergeEnds: blocks are merged till no two have one tier. -/
import Derived.Test.YtcnbbnjdgmlccaaMh
import Derived.BigQuiet
import Derived.StillTailTactics
namespace Go.Proofs.Ytcnbbnjdgmlccaa
open Go.RowKit
set_option linter.unusedVariables false
set_option linter.unusedSimpArgs false
set_option maxRecDepth 100000

theorem Rd.of_sliceq {w : World} {base n c size : Nat} {e : TypeId} {A : Option Addr} {xs : List Value} (h : w.ownsRow base e size (.slice A n c) n xs) : Rd w w.heap.size A xs := by
  obtain ⟨A', c', hv, _, hr⟩ := own_rd h
  injection hv with h1
  rw [h1]; exact hr
set_option maxHeartbeats 32000000 in
theorem ends19 (v : Int) (w : World) : Calls Try.prog 6 #[.int .i64 v] w fun e w' => e = .returned (.bool true) ∧ Below w.heap.size w w' := by
  have ALV := Lib.hid (fun W => alive19_calls W)
  by_cases h1 : v < 0
  · have d1 : decide (v < 0) = true := decide_eq_true h1
    go_enter Try.func6, Try.ntmps6
    go_wp2_with (go_at_call 12; (with_reducible refine (ALV.out _).mono ?_); rintro ex w1 ⟨rfl, hb1⟩; have HB1 := Lib.hid hb1; clear hb1)
    go_ret
    exact ⟨rfl, HB1.out⟩
  have d1 : decide (v < 0) = false := decide_eq_false h1
  by_cases h2 : 20 < v
  · have d2 : decide (20 < v) = true := decide_eq_true h2
    go_enter Try.func6, Try.ntmps6
    go_wp2_with (go_at_call 12; (with_reducible refine (ALV.out _).mono ?_); rintro ex w1 ⟨rfl, hb1⟩; have HB1 := Lib.hid hb1; clear hb1)
    go_ret
    exact ⟨rfl, HB1.out⟩
  have d2 : decide (20 < v) = false := decide_eq_false h2
  obtain ⟨n, rfl⟩ := Int.eq_ofNat_of_zero_le (show 0 ≤ v by omega)
  have hn20 : n ≤ 20 := by omega
  clear h1 h2
  go_enter Try.func6, Try.ntmps6
  go_wp2_with (go_at_call 12; (with_reducible refine (ALV.out _).mono ?_); rintro ex w1 ⟨rfl, hb1⟩; have HB1 := Lib.hid hb1; clear hb1)
  clear d1 d2
  go_loopw [4, 5] (fun l i wr => ∃ (k c' : Nat) (A' : Option Addr), k ≤ n ∧ i = .int .i64 k ∧ l = .slice A' k c' ∧ Hid (wr.ownsRow w.heap.size 47 4 (.slice A' k c') k (((List.range k).map fun i : Nat => (⟨(i : Int), (i : Int), 0, none, 0, 0⟩ : Bk)).flatMap Bk.cells)) ∧ Hid (Below w.heap.size w wr)) (fun _ i _ => n - (intOf i).toNat)
  case atStart => exact ⟨0, 0, none, Nat.zero_le _, rfl, rfl, World.ownsRow_nil _ _ _ _, HB1⟩
  case round =>
    obtain ⟨k, c', A', hk, rfl, rfl, HO, HB⟩ := hrel
    have hws := HB.out.size
    by_cases hlt : k < n
    · have i1 : (k : Int) < (n : Int) := by omega
      have i0 : (0 : Int) ≤ (k : Int) := by omega
      have hb5 := (Below.refl wr.heap.size wr).alloc (Nat.le_refl _) (.cells #[.int .i64 (k : Int), .int .i64 (k : Int), .int .i64 0, .slice none 0 0] 47)
      have AP := Lib.hid (fun ty => appB (ty := ty) (c := 1) (m := 1) (K := [(⟨(k : Int), (k : Int), 0, none, 0, 0⟩ : Bk)]) (own_below HO.out hb5) (Rd.lit wr #[.int .i64 (k : Int), .int .i64 (k : Int), .int .i64 0, .slice none 0 0] 47) rfl (by omega) (by simp; omega))
      have HB5 := Lib.hid (HB.out.alloc hws (.cells #[.int .i64 (k : Int), .int .i64 (k : Int), .int .i64 0, .slice none 0 0] 47))
      have hob := own_block_ge HO.out
      have HRG := Lib.hid (show (List.range (k + 1)).map (fun i : Nat => (⟨(i : Int), (i : Int), 0, none, 0, 0⟩ : Bk)) = (List.range k).map (fun i : Nat => (⟨(i : Int), (i : Int), 0, none, 0, 0⟩ : Bk)) ++ [(⟨(k : Int), (k : Int), 0, none, 0, 0⟩ : Bk)] from by rw [List.range_succ, List.map_append]; rfl)
      clear hb5
      go_wp2_with (at_builtin; refine wpList_app rfl (.tmp 32) (.tmp 36) _ _ rfl rfl rfl (AP.out _) ?_; rintro v8 w8 ⟨ho8, hg8⟩; obtain ⟨A8, c8, rfl, _, _⟩ := own_rd ho8; have HO8 := Lib.hid ho8; have HG8 := Lib.hid hg8; clear ho8 hg8)
      go_roundw
      case rel => exact ⟨k + 1, c8, A8, by omega, by go_num, rfl, by rw [HRG.out]; exact HO8, Lib.hid (HB5.out.grown HG8.out.grown (by simp; omega) (fun q hq => hob q hq))⟩
      case measure => simp [intOf]; omega
    · obtain rfl : k = n := by omega
      have HE0 : Hid (∃ (L : List Bk) (T : List Nat), k = L.length ∧ Ends k L T ∧ Rd wr wr.heap.size A' (L.flatMap Bk.cells)) := Lib.hid ⟨_, List.replicate k 0, by simp, ⟨by
        rw [List.map_map]
        apply List.ext_getElem
        · simp
        · intro i h1 h2; simp, worth_rep k, fun x hx => by
        obtain ⟨i, _, rfl⟩ := List.mem_map.1 hx
        rfl⟩, Rd.of_sliceq HO.out⟩
      obtain ⟨L0, T0, hl0, he0, hr0⟩ := HE0.out
      have hcap0 := own_capq HO.out
      have HL0 := Lib.hid hl0
      have HR0 := Lib.hid hr0
      have HN0 : Hid (Ends k L0 T0) := Lib.hid he0
      have HB0 := HB
      clear hl0 he0 hr0 HE0 HO HB hlt
      generalize k = n at *
      go_wp2_with fail
      go_loopw [4, 6, 7] (fun l s i wr => ∃ (k q : Nat) (A : Option Addr) (c : Nat) (L : List Bk) (T : List Nat), k ≤ n ∧ q + k = n ∧ i = .int .i64 k ∧ s = .int .i64 k ∧ l = .slice A q c ∧ q ≤ c ∧ c ≤ maxLen ∧ Hid (q = L.length) ∧ Hid (Ends n L T) ∧ Hid (Rd wr wr.heap.size A (L.flatMap Bk.cells)) ∧ Hid (Below w.heap.size w wr)) (fun _ _ i _ => 30 - (intOf i).toNat)
      case atStart => exact ⟨0, n, _, _, L0, T0, Nat.zero_le _, rfl, rfl, rfl, rfl, hcap0.1, hcap0.2, HL0, HN0, HR0, HB0⟩
      case round =>
        obtain ⟨k, q, A, c, L, T, hkn, hqk, rfl, rfl, rfl, hqc, hcm, HQL, HEN, HRD, HB⟩ := hrel
        have hws := HB.out.size
        have d30 : decide ((k : Int) < 30) = true := decide_eq_true (by omega)
        have hc63 : c ≤ 9223372036854775807 := hcm
        have PCK := Lib.hid (pick_any A q c L wr.heap.size wr HQL.out HRD.out (Nat.le_refl _) (by omega) (fun x hx => by
          obtain ⟨i, hi⟩ := List.getElem?_of_mem hx
          obtain ⟨t, h1, _, h3, _⟩ := HEN.out.at_ hn20 hi
          rw [h1]; omega))
        go_upto_region 14 with (go_at_call 13; (with_reducible refine PCK.out.mono ?_); rintro ex w2 ⟨p, r, f, rfl, hb2, hnd, hpr⟩; have HB2 := Lib.hid hb2; have HND := Lib.hid hnd; have HPR := Lib.hid hpr; clear hb2 hnd hpr)
        have hws2 := HB2.out.size
        cases f
        · have HDN := Lib.hid (HEN.out.done (HND.out.1 rfl))
          have hone : pc n ≤ n := pc_le n n (Nat.le_refl _)
          have hqp : q = pc n := HQL.out.trans HDN.out
          have HQP := Lib.hid hqp
          clear hqp
          go_wp2_with fail
          go_loop [13, 14] (fun o x => ∃ (m s : Nat), x = .int .i64 m ∧ o = .int .i64 s ∧ m ≤ n ∧ s ≤ n ∧ Hid (s + pc m = pc n)) (fun _ x => (intOf x).toNat)
          case atStart => exact ⟨n, 0, rfl, rfl, Nat.le_refl _, Nat.zero_le _, Lib.hid (Nat.zero_add _)⟩
          case round =>
            obtain ⟨m, s, rfl, rfl, hmn, hsn, HS⟩ := hrel
            by_cases hm : m = 0
            · subst hm
              have hs : s = pc n := by have := HS.out; rw [pc_zero] at this; omega
              have hsq : s = q := hs.trans HQP.out.symm
              subst hsq
              have d9 : ((k : Int) == (n : Int) - (s : Int)) = true := by simp; omega
              go_wp2_with fail
              go_ret
              exact ⟨by simp <;> omega, HB.out.trans (HB2.out.mono hws)⟩
            · have dm : decide ((0 : Int) < (m : Int)) = true := decide_eq_true (by omega)
              have e1 := i64_and1 (m : Int)
              have hst := pc_step hm
              have hsl : s + m % 2 ≤ n := by have := HS.out; omega
              have HS2 : Hid (s + m % 2 + pc (m / 2) = pc n) := Lib.hid (by have := HS.out; omega)
              clear hst
              go_wp2_with fail
              go_round
              case rel => exact ⟨m / 2, s + m % 2, by go_num, by go_num, by omega, hsl, HS2⟩
              case measure => simp [intOf]; omega
        · obtain ⟨hpr, hrq, x, y, hx, hy, hxy⟩ := HPR.out rfl
          obtain ⟨t, hxt, htp, ht20, hxm⟩ := HEN.out.at_ hn20 hx
          obtain ⟨t', hyt, htr, _, hym⟩ := HEN.out.at_ hn20 hy
          have htt : t' = t := by rw [hxt, hyt] at hxy; omega
          subst htt
          obtain ⟨a, rfl, hab, hcx⟩ := bk_at (HRD.out.below HB2.out) hx
          obtain ⟨a', ha', _, hcy⟩ := bk_at (HRD.out.below HB2.out) hy
          obtain rfl : a = a' := by injection ha'
          obtain ⟨xnu, xbo, xti, xA, xm, xc⟩ := x
          obtain ⟨ynu, ybo, yti, yA, ym, yc⟩ := y
          simp only at hxt hyt hxm hym
          subst hxt
          subst hyt
          subst hxm
          subst hym
          have hrT : r < L.length := (List.getElem?_eq_some_iff.1 hy).1
          have HHP := Lib.hid htp
          have HHR := Lib.hid htr
          have JN := Lib.hid (fun (nu : Int) (V : World) => join_none xnu xbo (t' : Int) ynu ybo nu xA yA xc yc V (by omega))
          have x0 : w2.cell? (a.add (p * 4)) = some (.int .i64 xnu) := hcx 0 _ rfl
          have x1 : w2.cell? ⟨(a.add (p * 4)).block, (a.add (p * 4)).off + 1, none⟩ = some (.int .i64 xbo) := cell_far (hcx 1 _ rfl) (by decide)
          have x2 : w2.cell? ⟨(a.add (p * 4)).block, (a.add (p * 4)).off + 2, none⟩ = some (.int .i64 (t' : Int)) := cell_far (hcx 2 _ rfl) (by decide)
          have x3 : w2.cell? ⟨(a.add (p * 4)).block, (a.add (p * 4)).off + 3, none⟩ = some (.slice xA 0 xc) := cell_far (hcx 3 _ rfl) (by decide)
          have y0 : w2.cell? (a.add (r * 4)) = some (.int .i64 ynu) := hcy 0 _ rfl
          have y1 : w2.cell? ⟨(a.add (r * 4)).block, (a.add (r * 4)).off + 1, none⟩ = some (.int .i64 ybo) := cell_far (hcy 1 _ rfl) (by decide)
          have y2 : w2.cell? ⟨(a.add (r * 4)).block, (a.add (r * 4)).off + 2, none⟩ = some (.int .i64 (t' : Int)) := cell_far (hcy 2 _ rfl) (by decide)
          have y3 : w2.cell? ⟨(a.add (r * 4)).block, (a.add (r * 4)).off + 3, none⟩ = some (.slice yA 0 yc) := cell_far (hcy 3 _ rfl) (by decide)
          have g1 : decide ((p : Int) < 0) = false := decide_eq_false (by omega)
          have g2 : decide ((r : Int) ≤ (p : Int)) = false := decide_eq_false (by omega)
          have g3 : decide ((q : Int) ≤ (r : Int)) = false := decide_eq_false (by omega)
          have ip : (p : Int) < (q : Int) := by omega
          have ip0 : (0 : Int) ≤ (p : Int) := by omega
          have ir : (r : Int) < (q : Int) := by omega
          have ir0 : (0 : Int) ≤ (r : Int) := by omega
          have HNZ := Lib.hid (fun (z : Bk) (h1 : z.ti = (t' : Int) + 1) (h2 : z.m = 0) => HEN.out.next hpr htp htr z h1 h2)
          have HXR0 := Lib.hid (show Rd w2 w2.heap.size (some a) (L.flatMap Bk.cells) from (HRD.out.below HB2.out).more hws2)
          have HXB0 := Lib.hid (HB.out.trans (HB2.out.mono hws))
          have HCX := Lib.hid (show ∀ V : World, Below w2.heap.size w2 V → (V.cell? (a.add (p * 4)) = some (.int .i64 xnu) ∧ V.cell? ⟨(a.add (p * 4)).block, (a.add (p * 4)).off + 1, none⟩ = some (.int .i64 xbo) ∧ V.cell? ⟨(a.add (p * 4)).block, (a.add (p * 4)).off + 2, none⟩ = some (.int .i64 (t' : Int)) ∧ V.cell? ⟨(a.add (p * 4)).block, (a.add (p * 4)).off + 3, none⟩ = some (.slice xA 0 xc)) from fun V hV => by
            have hal : (a.add (p * 4)).block < w2.heap.size := by rw [block_add]; omega
            exact ⟨(hV.cell hal).trans x0, (hV.cell (p := ⟨_, _, none⟩) hal).trans x1, (hV.cell (p := ⟨_, _, none⟩) hal).trans x2, (hV.cell (p := ⟨_, _, none⟩) hal).trans x3⟩)
          have HCY := Lib.hid (show ∀ V : World, Below w2.heap.size w2 V → (V.cell? (a.add (r * 4)) = some (.int .i64 ynu) ∧ V.cell? ⟨(a.add (r * 4)).block, (a.add (r * 4)).off + 1, none⟩ = some (.int .i64 ybo) ∧ V.cell? ⟨(a.add (r * 4)).block, (a.add (r * 4)).off + 2, none⟩ = some (.int .i64 (t' : Int)) ∧ V.cell? ⟨(a.add (r * 4)).block, (a.add (r * 4)).off + 3, none⟩ = some (.slice yA 0 yc)) from fun V hV => by
            have hal : (a.add (r * 4)).block < w2.heap.size := by rw [block_add]; omega
            exact ⟨(hV.cell hal).trans y0, (hV.cell (p := ⟨_, _, none⟩) hal).trans y1, (hV.cell (p := ⟨_, _, none⟩) hal).trans y2, (hV.cell (p := ⟨_, _, none⟩) hal).trans y3⟩)
          clear hcx hcy hx hy htp htr HND HPR PCK HRD HEN
          go_upto_region 15 with fail
          go_quiet (fail)
          clear g1 g2 g3
          have HXB1 := Lib.hid (show Below w.heap.size w (w2.drewN nq) from ⟨HXB0.out.os, HXB0.out.tape, HXB0.out.output, HXB0.out.size, HXB0.out.block⟩)
          have HXR1 := Lib.hid (show Rd (w2.drewN nq) (w2.drewN nq).heap.size (some a) (L.flatMap Bk.cells) from HXR0.out)
          have hw100 : IntKind.i64.wrap (100 + ((k : Int) + 1)) = 100 + ((k : Int) + 1) := by rw [IntKind.wrap_i64]; omega
          go_upto_region 18 with fail
          clear x0 x1 x2 x3 y0 y1 y2 y3
          have HCX2 := Lib.hid (show ∀ V : World, Below (w2.drewN nq).heap.size (w2.drewN nq).drew V → _ from fun V hV => HCX.out V ((show Below w2.heap.size w2 (w2.drewN nq).drew from ⟨rfl, rfl, rfl, Nat.le_refl _, fun _ _ => rfl⟩).trans hV))
          have HCY2 := Lib.hid (show ∀ V : World, Below (w2.drewN nq).heap.size (w2.drewN nq).drew V → _ from fun V hV => HCY.out V ((show Below w2.heap.size w2 (w2.drewN nq).drew from ⟨rfl, rfl, rfl, Nat.le_refl _, fun _ _ => rfl⟩).trans hV))
          clear HCX HCY
          generalize w2.drewN nq = wq at *
          obtain ⟨Bx, hBx0⟩ : ∃ Bx, Bx = wq.heap.size := ⟨_, rfl⟩
          rw [← hBx0] at HCX2 HCY2
          have HXR2 := HXR1
          rw [← hBx0] at HXR2
          have HWZ : Hid (wq.drew.heap.size = Bx) := Lib.hid (by rw [hBx0]; rfl)
          refine PI.wp_region_persG (R := Below Bx) (G := fun _ _ => True) (I := JeI (100 + ((k : Int) + 1)) (t' : Int) Bx) [(2, 0), (2, 1), (3, 2), (6, 4), (6, 5), (7, 6), (9, 8), (10, 3), (10, 7), (10, 9), (12, 10), (12, 11)] [] (by kernel_rfl) (PI.formed_of (by kernel_rfl)) ⟨fun w => Below.refl _ w, fun _ _ _ h k => h.trans k⟩ (fun _ => trivial) (JeF (some a) q c p r a (.agg #[.int .i64 xnu, .int .i64 xbo, .int .i64 (t' : Int), .slice xA 0 xc]) (.agg #[.int .i64 ynu, .int .i64 ybo, .int .i64 (t' : Int), .slice yA 0 yc]) ((k : Int) + 1) (100 + ((k : Int) + 1)) (t' : Int) Bx) (fun h => by cases h) ?_ ?_
          · intro i o ho
            rcases i with _ | _ | _ | _ | _ | _ | _ | _ | _ | _ | _ | _ | _ | i
            · obtain rfl := Option.some.inj (show some _ = some o from ho)
              refine PI.shown_val rfl fun ac w3 L0 hr T => ?_
              have hno : L0 12 = false := by
                rcases Bool.eq_false_or_eq_true (L0 12) with h | h
                · exfalso
                  have h := T.shut_ 12 10 (by kernel_rfl) h
                  have h := T.shut_ 10 3 (by kernel_rfl) h
                  have h := T.shut_ 3 2 (by kernel_rfl) h
                  have h := T.shut_ 2 0 (by kernel_rfl) h
                  rw [T.yetNot] at h; cases h
                · exact h
              have h1 : ac.eval (.tmp 4) = .slice (some a) q c := T.was 4 (by kernel_rfl)
              exact ⟨.slice (some a) q c, w3, by simp only [execOp, h1]; simp [go_sem], PI.Post.pure ⟨fun w => Below.refl _ w, fun _ _ _ h k => h.trans k⟩ rfl (JeI.not (by decide) hno)⟩
            · obtain rfl := Option.some.inj (show some _ = some o from ho)
              refine PI.shown_val rfl fun ac w3 L0 hr T => ?_
              have hno : L0 12 = false := by
                rcases Bool.eq_false_or_eq_true (L0 12) with h | h
                · exfalso
                  have h := T.shut_ 12 10 (by kernel_rfl) h
                  have h := T.shut_ 10 3 (by kernel_rfl) h
                  have h := T.shut_ 3 2 (by kernel_rfl) h
                  have h := T.shut_ 2 1 (by kernel_rfl) h
                  rw [T.yetNot] at h; cases h
                · exact h
              have h1 : ac.eval (.tmp 8) = .int .i64 (p : Int) := T.was 8 (by kernel_rfl)
              exact ⟨.int .i64 (p : Int), w3, by simp only [execOp, h1]; simp [go_sem], PI.Post.pure ⟨fun w => Below.refl _ w, fun _ _ _ h k => h.trans k⟩ rfl (JeI.not (by decide) hno)⟩
            · obtain rfl := Option.some.inj (show some _ = some o from ho)
              refine PI.shown_val rfl fun ac w3 L0 hr T => ?_
              have hno : L0 12 = false := by
                rcases Bool.eq_false_or_eq_true (L0 12) with h | h
                · exfalso
                  have h := T.shut_ 12 10 (by kernel_rfl) h
                  have h := T.shut_ 10 3 (by kernel_rfl) h
                  have h := T.shut_ 3 2 (by kernel_rfl) h
                  rw [T.yetNot] at h; cases h
                · exact h
              have h1 : ac.eval (.tmp 78) = .slice (some a) q c := T.at_ 0 78 (by kernel_rfl) (by kernel_rfl) (by kernel_rfl)
              have h2 : ac.eval (.tmp 79) = .int .i64 (p : Int) := T.at_ 1 79 (by kernel_rfl) (by kernel_rfl) (by kernel_rfl)
              exact ⟨.pointer (some (a.add (p * 4))), w3, by simp only [execOp, h1, h2]; simp [go_sem, ip, ip0], PI.Post.pure ⟨fun w => Below.refl _ w, fun _ _ _ h k => h.trans k⟩ rfl (JeI.not (by decide) hno)⟩
            · obtain rfl := Option.some.inj (show some _ = some o from ho)
              refine PI.shown_val rfl fun ac w3 L0 hr T => ?_
              have hno : L0 12 = false := by
                rcases Bool.eq_false_or_eq_true (L0 12) with h | h
                · exfalso
                  have h := T.shut_ 12 10 (by kernel_rfl) h
                  have h := T.shut_ 10 3 (by kernel_rfl) h
                  rw [T.yetNot] at h; cases h
                · exact h
              have h1 : ac.eval (.tmp 80) = .pointer (some (a.add (p * 4))) := T.at_ 2 80 (by kernel_rfl) (by kernel_rfl) (by kernel_rfl)
              obtain ⟨z0, z1, z2, z3⟩ := HCX2.out w3 hr
              exact ⟨.agg #[.int .i64 xnu, .int .i64 xbo, .int .i64 (t' : Int), .slice xA 0 xc], w3, by simp only [execOp, h1]; simp [go_sem, z0, z1, z2, z3], PI.Post.pure ⟨fun w => Below.refl _ w, fun _ _ _ h k => h.trans k⟩ rfl (JeI.not (by decide) hno)⟩
            · obtain rfl := Option.some.inj (show some _ = some o from ho)
              refine PI.shown_val rfl fun ac w3 L0 hr T => ?_
              have hno : L0 12 = false := by
                rcases Bool.eq_false_or_eq_true (L0 12) with h | h
                · exfalso
                  have h := T.shut_ 12 10 (by kernel_rfl) h
                  have h := T.shut_ 10 7 (by kernel_rfl) h
                  have h := T.shut_ 7 6 (by kernel_rfl) h
                  have h := T.shut_ 6 4 (by kernel_rfl) h
                  rw [T.yetNot] at h; cases h
                · exact h
              have h1 : ac.eval (.tmp 4) = .slice (some a) q c := T.was 4 (by kernel_rfl)
              exact ⟨.slice (some a) q c, w3, by simp only [execOp, h1]; simp [go_sem], PI.Post.pure ⟨fun w => Below.refl _ w, fun _ _ _ h k => h.trans k⟩ rfl (JeI.not (by decide) hno)⟩
            · obtain rfl := Option.some.inj (show some _ = some o from ho)
              refine PI.shown_val rfl fun ac w3 L0 hr T => ?_
              have hno : L0 12 = false := by
                rcases Bool.eq_false_or_eq_true (L0 12) with h | h
                · exfalso
                  have h := T.shut_ 12 10 (by kernel_rfl) h
                  have h := T.shut_ 10 7 (by kernel_rfl) h
                  have h := T.shut_ 7 6 (by kernel_rfl) h
                  have h := T.shut_ 6 5 (by kernel_rfl) h
                  rw [T.yetNot] at h; cases h
                · exact h
              have h1 : ac.eval (.tmp 9) = .int .i64 (r : Int) := T.was 9 (by kernel_rfl)
              exact ⟨.int .i64 (r : Int), w3, by simp only [execOp, h1]; simp [go_sem], PI.Post.pure ⟨fun w => Below.refl _ w, fun _ _ _ h k => h.trans k⟩ rfl (JeI.not (by decide) hno)⟩
            · obtain rfl := Option.some.inj (show some _ = some o from ho)
              refine PI.shown_val rfl fun ac w3 L0 hr T => ?_
              have hno : L0 12 = false := by
                rcases Bool.eq_false_or_eq_true (L0 12) with h | h
                · exfalso
                  have h := T.shut_ 12 10 (by kernel_rfl) h
                  have h := T.shut_ 10 7 (by kernel_rfl) h
                  have h := T.shut_ 7 6 (by kernel_rfl) h
                  rw [T.yetNot] at h; cases h
                · exact h
              have h1 : ac.eval (.tmp 82) = .slice (some a) q c := T.at_ 4 82 (by kernel_rfl) (by kernel_rfl) (by kernel_rfl)
              have h2 : ac.eval (.tmp 83) = .int .i64 (r : Int) := T.at_ 5 83 (by kernel_rfl) (by kernel_rfl) (by kernel_rfl)
              exact ⟨.pointer (some (a.add (r * 4))), w3, by simp only [execOp, h1, h2]; simp [go_sem, ir, ir0], PI.Post.pure ⟨fun w => Below.refl _ w, fun _ _ _ h k => h.trans k⟩ rfl (JeI.not (by decide) hno)⟩
            · obtain rfl := Option.some.inj (show some _ = some o from ho)
              refine PI.shown_val rfl fun ac w3 L0 hr T => ?_
              have hno : L0 12 = false := by
                rcases Bool.eq_false_or_eq_true (L0 12) with h | h
                · exfalso
                  have h := T.shut_ 12 10 (by kernel_rfl) h
                  have h := T.shut_ 10 7 (by kernel_rfl) h
                  rw [T.yetNot] at h; cases h
                · exact h
              have h1 : ac.eval (.tmp 84) = .pointer (some (a.add (r * 4))) := T.at_ 6 84 (by kernel_rfl) (by kernel_rfl) (by kernel_rfl)
              obtain ⟨z0, z1, z2, z3⟩ := HCY2.out w3 hr
              exact ⟨.agg #[.int .i64 ynu, .int .i64 ybo, .int .i64 (t' : Int), .slice yA 0 yc], w3, by simp only [execOp, h1]; simp [go_sem, z0, z1, z2, z3], PI.Post.pure ⟨fun w => Below.refl _ w, fun _ _ _ h k => h.trans k⟩ rfl (JeI.not (by decide) hno)⟩
            · obtain rfl := Option.some.inj (show some _ = some o from ho)
              refine PI.shown_val rfl fun ac w3 L0 hr T => ?_
              have hno : L0 12 = false := by
                rcases Bool.eq_false_or_eq_true (L0 12) with h | h
                · exfalso
                  have h := T.shut_ 12 10 (by kernel_rfl) h
                  have h := T.shut_ 10 9 (by kernel_rfl) h
                  have h := T.shut_ 9 8 (by kernel_rfl) h
                  rw [T.yetNot] at h; cases h
                · exact h
              have h1 : ac.eval (.tmp 6) = .int .i64 ((k : Int) + 1) := T.was 6 (by kernel_rfl)
              exact ⟨.int .i64 ((k : Int) + 1), w3, by simp only [execOp, h1]; simp [go_sem], PI.Post.pure ⟨fun w => Below.refl _ w, fun _ _ _ h k => h.trans k⟩ rfl (JeI.not (by decide) hno)⟩
            · obtain rfl := Option.some.inj (show some _ = some o from ho)
              refine PI.shown_val rfl fun ac w3 L0 hr T => ?_
              have hno : L0 12 = false := by
                rcases Bool.eq_false_or_eq_true (L0 12) with h | h
                · exfalso
                  have h := T.shut_ 12 10 (by kernel_rfl) h
                  have h := T.shut_ 10 9 (by kernel_rfl) h
                  rw [T.yetNot] at h; cases h
                · exact h
              have h1 : ac.eval (.tmp 86) = .int .i64 ((k : Int) + 1) := T.at_ 8 86 (by kernel_rfl) (by kernel_rfl) (by kernel_rfl)
              exact ⟨.int .i64 (100 + ((k : Int) + 1)), w3, by simp only [execOp, h1]; simp [go_sem, Act.eval, hw100], PI.Post.pure ⟨fun w => Below.refl _ w, fun _ _ _ h k => h.trans k⟩ rfl (JeI.not (by decide) hno)⟩
            · obtain rfl := Option.some.inj (show some _ = some o from ho)
              refine PI.shown_call rfl 14 fun ac w3 L0 hr T => ?_
              have hno : L0 12 = false := by
                rcases Bool.eq_false_or_eq_true (L0 12) with h | h
                · exfalso
                  have h := T.shut_ 12 10 (by kernel_rfl) h
                  rw [T.yetNot] at h; cases h
                · exact h
              have h1 : ac.eval (.tmp 81) = .agg #[.int .i64 xnu, .int .i64 xbo, .int .i64 (t' : Int), .slice xA 0 xc] := T.at_ 3 81 (by kernel_rfl) (by kernel_rfl) (by kernel_rfl)
              have h2 : ac.eval (.tmp 85) = .agg #[.int .i64 ynu, .int .i64 ybo, .int .i64 (t' : Int), .slice yA 0 yc] := T.at_ 7 85 (by kernel_rfl) (by kernel_rfl) (by kernel_rfl)
              have h3 : ac.eval (.tmp 87) = .int .i64 (100 + ((k : Int) + 1)) := T.at_ 9 87 (by kernel_rfl) (by kernel_rfl) (by kernel_rfl)
              refine ⟨#[.agg #[.int .i64 xnu, .int .i64 xbo, .int .i64 (t' : Int), .slice xA 0 xc], .agg #[.int .i64 ynu, .int .i64 ybo, .int .i64 (t' : Int), .slice yA 0 yc], .int .i64 (100 + ((k : Int) + 1))], by simp only [execOp, resolve, List.map_toArray, List.map_cons, List.map_nil, h1, h2, h3]; simp [go_sem, Act.eval], ?_⟩
              refine (JN.out _ w3).mono fun e w4 hh => ?_
              obtain ⟨bo, jA, jc, rfl, hb4⟩ := hh
              have hz3 : Bx ≤ w3.heap.size := by have := hr.size; have := HWZ.out; omega
              exact ⟨_, rfl, hb4.mono hz3, ⟨bo, jA, jc, rfl⟩, fun _ _ h => h, fun jj v _ _ _ _ h => h.keep hb4, JeI.not (by decide) hno⟩
            · obtain rfl := Option.some.inj (show some _ = some o from ho)
              refine PI.shown_val rfl fun ac w3 L0 hr T => ?_
              have hno : L0 12 = false := by
                rcases Bool.eq_false_or_eq_true (L0 12) with h | h
                · exfalso
                  have h := T.shut_ 12 11 (by kernel_rfl) h
                  rw [T.yetNot] at h; cases h
                · exact h
              have hz3 : Bx ≤ w3.heap.size := by have := hr.size; have := HWZ.out; omega
              have hb4 := (Below.refl w3.heap.size w3).alloc (Nat.le_refl _) (.cells #[.int .i64 0, .int .i64 0, .int .i64 0, .slice none 0 0] 47)
              exact ⟨.pointer (some ⟨w3.heap.size, 0, none⟩), w3.alloc (.cells #[.int .i64 0, .int .i64 0, .int .i64 0, .slice none 0 0] 47), by simp only [execOp]; simp [go_sem], hb4.mono hz3, ⟨w3.heap.size, rfl, hz3, heap_alloc_new w3 _⟩, fun _ _ h => h, fun jj v _ _ _ _ h => h.keep hb4, JeI.not (by decide) hno⟩
            · obtain rfl := Option.some.inj (show some _ = some o from ho)
              refine PI.shown_skip rfl fun ac w3 L0 hr T => ?_
              obtain ⟨bo, jA, jc, h88⟩ : ∃ (bo : Int) (jA : Option Addr) (jc : Nat), ac.eval (.tmp 88) = .agg #[.int .i64 (100 + ((k : Int) + 1)), .int .i64 bo, .int .i64 ((t' : Int) + 1), .slice jA 0 jc] := T.at_ 10 88 (by kernel_rfl) (by kernel_rfl) (by kernel_rfl)
              obtain ⟨g, h11, hg1, hg2⟩ : ∃ g, ac.eval (.tmp 11) = .pointer (some ⟨g, 0, none⟩) ∧ Bx ≤ g ∧ w3.heap[g]? = some (.cells #[.int .i64 0, .int .i64 0, .int .i64 0, .slice none 0 0] 47 (0, 0)) := T.at_ 11 11 (by kernel_rfl) (by kernel_rfl) (by kernel_rfl)
              have f0 : w3.frozen? ⟨g, 0, none⟩ = false := by simp only [World.frozen?, hg2]; rfl
              have f1 : w3.frozen? ⟨g, 1, none⟩ = false := by simp only [World.frozen?, hg2]; rfl
              have f2 : w3.frozen? ⟨g, 2, none⟩ = false := by simp only [World.frozen?, hg2]; rfl
              have f3 : w3.frozen? ⟨g, 3, none⟩ = false := by simp only [World.frozen?, hg2]; rfl
              have k0 : w3.cell? ⟨g, 0, none⟩ = some (.int .i64 0) := cell_of_row _ _ 0 _ _ (0, 0) hg2
              have k1 : w3.cell? ⟨g, 1, none⟩ = some (.int .i64 0) := cell_of_row _ _ 1 _ _ (0, 0) hg2
              have k2 : w3.cell? ⟨g, 2, none⟩ = some (.int .i64 0) := cell_of_row _ _ 2 _ _ (0, 0) hg2
              have k3 : w3.cell? ⟨g, 3, none⟩ = some (.slice none 0 0) := cell_of_row _ _ 3 _ _ (0, 0) hg2
              have h4 := four_set w3 g 47 _ _ _ _ (.int .i64 (100 + ((k : Int) + 1))) (.int .i64 bo) (.int .i64 ((t' : Int) + 1)) (.slice jA 0 jc) hg2
              have hgs : g < w3.heap.size := by
                rcases Nat.lt_or_ge g w3.heap.size with h | h
                · exact h
                · rw [Array.getElem?_eq_none h] at hg2; cases hg2
              refine ⟨_, by simp only [execOp, h11, h88]; simp [go_sem, f0, f1, f2, f3, k0, k1, k2, k3], four_below hg1 (Below.refl _ _) _ _ _ _, trivial, fun _ _ h => h, fun jj v hj hlj hnd hvj h => ?_, fun _ => ⟨g, bo, jA, jc, h11, hg1, by simpa using hgs, h4⟩⟩
              match jj, h, hnd, hj with
              | 0, h, _, _ => exact h
              | 1, h, _, _ => exact h
              | 2, h, _, _ => exact h
              | 3, h, _, _ => exact h
              | 4, h, _, _ => exact h
              | 5, h, _, _ => exact h
              | 6, h, _, _ => exact h
              | 7, h, _, _ => exact h
              | 8, h, _, _ => exact h
              | 9, h, _, _ => exact h
              | 10, h, _, _ => exact h
              | 11, _, hnd, _ => simp [PI.needB] at hnd
              | _ + 12, _, _, _ => trivial
            · cases ho
          · intro x9 wz hr _ _ hI
            have hI2 := hI (by kernel_rfl)
            clear hI
            simp only [PI.putAll, Act.put, List.setIfInBounds_toArray, List.set_cons_zero, List.set_cons_succ] at hI2 ⊢
            simp only [Nat.zero_add, Nat.reduceAdd] at hI2 ⊢
            obtain ⟨gx, bo, jA, jc, hx11, hgB0, hgX, hgx⟩ := hI2
            have hx11 : x9 11 = .pointer (some ⟨gx, 0, none⟩) := hx11
            have HXB := Lib.hid ((show Below w.heap.size w wq.drew from ⟨HXB1.out.os, HXB1.out.tape, HXB1.out.output, HXB1.out.size, HXB1.out.block⟩).trans ((show Below Bx wq.drew wz from hr).mono (by rw [hBx0]; exact HXB1.out.size)))
            have HXR := Lib.hid (show Rd wz wz.heap.size (some a) (L.flatMap Bk.cells) from ((show Rd wq.drew Bx (some a) (L.flatMap Bk.cells) from HXR2.out).below (show Below Bx wq.drew wz from hr)).more (by have := hr.size; have := HWZ.out; omega))
            have HGX := Lib.hid hgx
            clear hr hgx
            rw [hx11]
            clear hx11
            generalize x9 0 = e0
            generalize x9 1 = e1
            generalize x9 2 = e2
            generalize x9 3 = e3
            generalize x9 4 = e4
            generalize x9 5 = e5
            generalize x9 6 = e6
            generalize x9 7 = e7
            generalize x9 8 = e8
            generalize x9 9 = e9
            generalize x9 10 = e10
            clear HWZ hBx0 hgB0
            generalize hnu : 100 + ((k : Int) + 1) = nu at *
            generalize wz = WX at *
            clear hnu

            have HNX : Hid (Ends n ((L.take r ++ L.drop (r + 1)).set p ⟨nu, bo, (t' : Int) + 1, jA, 0, jc⟩) ((T.take r ++ T.drop (r + 1)).set p (t' + 1))) := Lib.hid (HNZ.out ⟨nu, bo, (t' : Int) + 1, jA, 0, jc⟩ rfl rfl)
            go_upto_region 19 with fail
            clear HNZ JN HXB1 HXR1 HXR2 HCX2 HCY2 HXB0 HXR0 hw100
            obtain ⟨W, hW⟩ : ∃ W, W = WX.drew := ⟨_, rfl⟩
            have hWr : Below WX.heap.size WX W := by rw [hW]; exact ⟨rfl, rfl, rfl, Nat.le_refl _, fun _ _ => rfl⟩
            have hWz : W.heap.size = WX.heap.size := by rw [hW]; rfl
            obtain ⟨Bx, hBx⟩ : ∃ Bx, Bx = WX.heap.size := ⟨_, rfl⟩
            have HWZ := Lib.hid (show W.heap.size = Bx from hWz.trans hBx.symm)
            have HWR := Lib.hid (show Rd W Bx (some a) (L.flatMap Bk.cells) from by rw [hBx]; exact HXR.out.below hWr)
            have HWG := Lib.hid (show W.heap[gx]? = some (.cells #[.int .i64 nu, .int .i64 bo, .int .i64 ((t' : Int) + 1), .slice jA 0 jc] 47 (0, 0)) from by rw [hW]; exact HGX.out)
            have HWB := Lib.hid (show Below w.heap.size w W from HXB.out.trans (hWr.mono HXB.out.size))
            have hgB : gx < Bx := by rw [hBx]; exact hgX
            have hwB : w.heap.size ≤ Bx := by rw [hBx]; exact HXB.out.size
            have hrc : (r : Int) ≤ (c : Int) := by omega
            have hr0 : (0 : Int) ≤ (r : Int) := by omega
            have hr1 : (0 : Int) ≤ (r : Int) + 1 := by omega
            have hrq : (r : Int) + 1 ≤ (q : Int) := by omega
            have hwr1 : IntKind.i64.wrap ((r : Int) + 1) = (r : Int) + 1 := by rw [IntKind.wrap_i64]; omega
            have htn : ((r : Int) + 1).toNat = r + 1 := by omega
            clear hWr hWz hBx
            refine PI.wp_region_persG (R := Below Bx) (G := fun _ _ => True) (I := fun _ _ _ => True) [(2, 0), (2, 1), (3, 2), (6, 5), (7, 4), (7, 6), (8, 3), (8, 7), (9, 8)] [9] (by kernel_rfl) (PI.formed_of (by kernel_rfl)) ⟨fun w => Below.refl _ w, fun _ _ _ h k => h.trans k⟩ (fun _ => trivial) (MeF (some a) q c r (if c = r + 1 then some a else some (a.add ((r + 1) * 4))) Bx L) trivial ?_ ?_
            · rw [← hW]
              intro i o ho
              rcases i with _ | _ | _ | _ | _ | _ | _ | _ | _ | _ | i
              · obtain rfl := Option.some.inj (show some _ = some o from ho)
                refine PI.shown_val rfl fun ac w3 L0 hr T => ?_
                have h1 : ac.eval (.tmp 4) = .slice (some a) q c := T.was 4 (by kernel_rfl)
                exact ⟨.slice (some a) q c, w3, by simp only [execOp, h1]; simp [go_sem], PI.Post.pure ⟨fun w => Below.refl _ w, fun _ _ _ h k => h.trans k⟩ rfl trivial⟩
              · obtain rfl := Option.some.inj (show some _ = some o from ho)
                refine PI.shown_val rfl fun ac w3 L0 hr T => ?_
                have h1 : ac.eval (.tmp 9) = .int .i64 (r : Int) := T.was 9 (by kernel_rfl)
                exact ⟨.int .i64 (r : Int), w3, by simp only [execOp, h1]; simp [go_sem], PI.Post.pure ⟨fun w => Below.refl _ w, fun _ _ _ h k => h.trans k⟩ rfl trivial⟩
              · obtain rfl := Option.some.inj (show some _ = some o from ho)
                refine PI.shown_val rfl fun ac w3 L0 hr T => ?_
                have h1 : ac.eval (.tmp 89) = .slice (some a) q c := T.at_ 0 89 (by kernel_rfl) (by kernel_rfl) (by kernel_rfl)
                have h2 : ac.eval (.tmp 90) = .int .i64 (r : Int) := T.at_ 1 90 (by kernel_rfl) (by kernel_rfl) (by kernel_rfl)
                have h2' : ac.tmps[90]?.getD undef = .int .i64 (r : Int) := by simpa [Act.eval] using h2
                exact ⟨.slice (some a) r c, w3, by simp only [execOp, h1]; simp [go_sem, h2', hrc, hr0], PI.Post.pure ⟨fun w => Below.refl _ w, fun _ _ _ h k => h.trans k⟩ rfl trivial⟩
              · obtain rfl := Option.some.inj (show some _ = some o from ho)
                refine PI.shown_val rfl fun ac w3 L0 hr T => ?_
                have h1 : ac.eval (.tmp 91) = .slice (some a) r c := T.at_ 2 91 (by kernel_rfl) (by kernel_rfl) (by kernel_rfl)
                have h0 : ac.eval (.const (.slice none 0 0)) = .slice none 0 0 := rfl
                have hz3 : Bx ≤ w3.heap.size := by have := hr.size; have := HWZ.out; omega
                obtain ⟨v8, w8, r1, r2, r3⟩ := appB (ty := 44) (c := c) (L := []) (World.ownsRow_nil w3 Bx 47 4) (rdB_take (j := r) (HWR.out.below hr)) (m := r) (by rw [List.length_take]; have := HQL.out; omega) (by omega) hz3
                rw [Nat.zero_add, List.nil_append] at r2
                have hb4 : Below w3.heap.size w3 w8 := r3.new
                exact ⟨v8, w8, by simp only [execOp, resolve, invoke, builtin, Sem.run_bind, Sem.run_pure, Result.andThen_ok, List.map_toArray, List.map_cons, List.map_nil, h0, h1, r1], hb4.mono hz3, r2, fun _ _ h => h, fun jj v _ _ _ _ h => h.keep hb4, trivial⟩
              · obtain rfl := Option.some.inj (show some _ = some o from ho)
                refine PI.shown_val rfl fun ac w3 L0 hr T => ?_
                have h1 : ac.eval (.tmp 4) = .slice (some a) q c := T.was 4 (by kernel_rfl)
                exact ⟨.slice (some a) q c, w3, by simp only [execOp, h1]; simp [go_sem], PI.Post.pure ⟨fun w => Below.refl _ w, fun _ _ _ h k => h.trans k⟩ rfl trivial⟩
              · obtain rfl := Option.some.inj (show some _ = some o from ho)
                refine PI.shown_val rfl fun ac w3 L0 hr T => ?_
                have h1 : ac.eval (.tmp 9) = .int .i64 (r : Int) := T.was 9 (by kernel_rfl)
                exact ⟨.int .i64 (r : Int), w3, by simp only [execOp, h1]; simp [go_sem], PI.Post.pure ⟨fun w => Below.refl _ w, fun _ _ _ h k => h.trans k⟩ rfl trivial⟩
              · obtain rfl := Option.some.inj (show some _ = some o from ho)
                refine PI.shown_val rfl fun ac w3 L0 hr T => ?_
                have h1 : ac.eval (.tmp 94) = .int .i64 (r : Int) := T.at_ 5 94 (by kernel_rfl) (by kernel_rfl) (by kernel_rfl)
                exact ⟨.int .i64 ((r : Int) + 1), w3, by simp only [execOp, h1]; simp [go_sem, hwr1], PI.Post.pure ⟨fun w => Below.refl _ w, fun _ _ _ h k => h.trans k⟩ rfl trivial⟩
              · obtain rfl := Option.some.inj (show some _ = some o from ho)
                refine PI.shown_val rfl fun ac w3 L0 hr T => ?_
                have h1 : ac.eval (.tmp 93) = .slice (some a) q c := T.at_ 4 93 (by kernel_rfl) (by kernel_rfl) (by kernel_rfl)
                have h2 : ac.eval (.tmp 95) = .int .i64 ((r : Int) + 1) := T.at_ 6 95 (by kernel_rfl) (by kernel_rfl) (by kernel_rfl)
                have h2' : ac.tmps[95]?.getD undef = .int .i64 ((r : Int) + 1) := by simpa [Act.eval] using h2
                exact ⟨.slice (if c = r + 1 then some a else some (a.add ((r + 1) * 4))) (q - (r + 1)) (c - (r + 1)), w3, by simp only [execOp, h1]; simp [go_sem, h2', hr1, hrq, htn], PI.Post.pure ⟨fun w => Below.refl _ w, fun _ _ _ h k => h.trans k⟩ rfl trivial⟩
              · obtain rfl := Option.some.inj (show some _ = some o from ho)
                refine PI.shown_val rfl fun ac w3 L0 hr T => ?_
                have ho3 : w3.ownsRow Bx 47 4 (ac.eval (.tmp 92)) r ((L.take r).flatMap Bk.cells) := T.at_ 3 92 (by kernel_rfl) (by kernel_rfl) (by kernel_rfl)
                have h2 : ac.eval (.tmp 96) = .slice (if c = r + 1 then some a else some (a.add ((r + 1) * 4))) (q - (r + 1)) (c - (r + 1)) := T.at_ 7 96 (by kernel_rfl) (by kernel_rfl) (by kernel_rfl)
                have hz3 : Bx ≤ w3.heap.size := by have := hr.size; have := HWZ.out; omega
                obtain ⟨v8, w8, r1, r2, r3⟩ := appB (ty := 44) (c := c - (r + 1)) ho3 (rdB_drop (j := r + 1) (c := c) (HWR.out.below hr) (by have := HQL.out; omega)) (m := q - (r + 1)) (by rw [List.length_drop]; have := HQL.out; omega) (by omega) hz3
                refine ⟨v8, w8, by simp only [execOp, resolve, invoke, builtin, Sem.run_bind, Sem.run_pure, Result.andThen_ok, List.map_toArray, List.map_cons, List.map_nil, h2, r1], r3.below (Below.refl _ _) hz3 (own_block_ge ho3), r2, fun _ _ h => h, fun jj v hj hlj hnd hvj h => ?_, trivial⟩
                match jj, h, hnd, hj, hlj with
                | 0, h, _, _, _ => exact h
                | 1, h, _, _, _ => exact h
                | 2, h, _, _, _ => exact h
                | 3, _, hnd, _, _ => simp [PI.needB] at hnd
                | 4, h, _, _, _ => exact h
                | 5, h, _, _, _ => exact h
                | 6, h, _, _, _ => exact h
                | 7, h, _, _, _ => exact h
                | 8, _, _, hj, _ => exact absurd rfl hj
                | 9, _, _, _, hlj =>
                  have h6 : L0 9 = false := T.wait 9 _ rfl ⟨_, Array.mem_of_getElem? (i := 0) rfl, rfl, rfl⟩
                  rw [h6] at hlj; cases hlj
                | _ + 10, _, _, _, _ => trivial
              · obtain rfl := Option.some.inj (show some _ = some o from ho)
                refine PI.shown_val rfl fun ac w3 L0 hr T => ?_
                have h1 : w3.ownsRow Bx 47 4 (ac.eval (.tmp 97)) (r + (q - (r + 1))) ((L.take r ++ L.drop (r + 1)).flatMap Bk.cells) := T.at_ 8 97 (by kernel_rfl) (by kernel_rfl) (by kernel_rfl)
                exact ⟨ac.eval (.tmp 97), w3, by simp only [execOp]; simp [go_sem], PI.Post.pure ⟨fun w => Below.refl _ w, fun _ _ _ h k => h.trans k⟩ h1 trivial⟩
              · cases ho
            · rw [← hW]
              intro x9 w9 hr hf he _
              have ho9 : w9.ownsRow Bx 47 4 (x9 9) (r + (q - (r + 1))) ((L.take r ++ L.drop (r + 1)).flatMap Bk.cells) := hf 9 _ 12 rfl rfl (by decide)
              have HB9 := Lib.hid (HWB.out.trans ((show Below Bx W w9 from hr).mono hwB))
              have hgw : w9.heap[gx]? = some (.cells #[.int .i64 nu, .int .i64 bo, .int .i64 ((t' : Int) + 1), .slice jA 0 jc] 47 (0, 0)) := ((show Below Bx W w9 from hr).block _ hgB).trans HWG.out
              have hq1 : r + (q - (r + 1)) = q - 1 := by omega
              rw [hq1] at ho9
              clear hf he hr
              simp only [PI.putAll, Act.put, List.setIfInBounds_toArray, List.set_cons_zero, List.set_cons_succ]
              simp only [Nat.zero_add, Nat.reduceAdd]
              generalize x9 9 = v9 at *
              generalize x9 0 = y0
              generalize x9 1 = y1
              generalize x9 2 = y2
              generalize x9 3 = y3
              generalize x9 4 = y4
              generalize x9 5 = y5
              generalize x9 6 = y6
              generalize x9 7 = y7
              generalize x9 8 = y8
              obtain ⟨A9, c9, rfl, _, _⟩ := own_rd ho9
              obtain ⟨g9, rfl, _, hbg9, _, _, _, _⟩ := own_parts ho9 (by omega)
              have HML : Hid ((L.take r ++ L.drop (r + 1)).length = q - 1) := Lib.hid (by rw [List.length_append, List.length_take, List.length_drop]; have := HQL.out; omega)
              obtain ⟨ho10, hg10⟩ := own_setks' (⟨nu, bo, (t' : Int) + 1, jA, 0, jc⟩ : Bk).cells (p * 4) ho9 (by show p * 4 + 4 ≤ _; omega)
              rw [b_set _ p _ (by rw [HML.out]; omega)] at ho10
              have HOE : Hid ((((((w9.setCell ⟨g9, p * 4, none⟩ (.int .i64 nu)).setCell ⟨g9, p * 4 + 1, none⟩ (.int .i64 bo)).setCell ⟨g9, p * 4 + 2, none⟩ (.int .i64 ((t' : Int) + 1))).setCell ⟨g9, p * 4 + 3, none⟩ (.slice jA 0 jc))).ownsRow Bx 47 4 (.slice (some ⟨g9, 0, none⟩) (q - 1) c9) (q - 1) (((L.take r ++ L.drop (r + 1)).set p ⟨nu, bo, (t' : Int) + 1, jA, 0, jc⟩).flatMap Bk.cells)) := Lib.hid ho10
              have HGE : Hid (Below w.heap.size w ((((w9.setCell ⟨g9, p * 4, none⟩ (.int .i64 nu)).setCell ⟨g9, p * 4 + 1, none⟩ (.int .i64 bo)).setCell ⟨g9, p * 4 + 2, none⟩ (.int .i64 ((t' : Int) + 1))).setCell ⟨g9, p * 4 + 3, none⟩ (.slice jA 0 jc))) := Lib.hid ((((HB9.out.setCell (p := ⟨g9, p * 4, none⟩) (show w.heap.size ≤ g9 by omega) _).setCell (p := ⟨g9, p * 4 + 1, none⟩) (show w.heap.size ≤ g9 by omega) _).setCell (p := ⟨g9, p * 4 + 2, none⟩) (show w.heap.size ≤ g9 by omega) _).setCell (p := ⟨g9, p * 4 + 3, none⟩) (show w.heap.size ≤ g9 by omega) _)
              have oc := own_cells ho9
              have o0 := (oc (p * 4) (by omega)).1
              have o1 := (oc (p * 4 + 1) (by omega)).1
              have o2 := (oc (p * 4 + 2) (by omega)).1
              have o3 := (oc (p * 4 + 3) (by omega)).1
              obtain ⟨u0, s0⟩ := Option.isSome_iff_exists.1 (oc (p * 4) (by omega)).2.2
              obtain ⟨u1, s1⟩ := Option.isSome_iff_exists.1 (oc (p * 4 + 1) (by omega)).2.2
              obtain ⟨u2, s2⟩ := Option.isSome_iff_exists.1 (oc (p * 4 + 2) (by omega)).2.2
              obtain ⟨u3, s3⟩ := Option.isSome_iff_exists.1 (oc (p * 4 + 3) (by omega)).2.2
              have z0 := cell_of_row _ _ 0 _ _ (0, 0) hgw
              have z1 := cell_of_row _ _ 1 _ _ (0, 0) hgw
              have z2 := cell_of_row _ _ 2 _ _ (0, 0) hgw
              have z3 := cell_of_row _ _ 3 _ _ (0, 0) hgw
              have p9 : (⟨g9, 0, none⟩ : Addr).add (p * 4) = ⟨g9, p * 4, none⟩ := by rw [Addr.add_lit, Nat.zero_add]
              have ip1 : (p : Int) < ((q - 1 : Nat) : Int) := by omega
              have ip0 : (0 : Int) ≤ (p : Int) := by omega
              clear ho9 ho10 hg10 oc hgw hq1
              go_wp2_with fail
              go_roundw
              case rel => exact ⟨k + 1, q - 1, some ⟨g9, 0, none⟩, c9, _, _, by omega, by omega, by go_num, by go_num, rfl, by have := own_capq HOE.out; omega, by have := own_capq HOE.out; exact this.2, Lib.hid (by rw [List.length_set]; exact HML.out.symm), HNX, Lib.hid (Rd.of_sliceq HOE.out), HGE⟩
              case measure => simp [intOf]; omega

end Go.Proofs.Ytcnbbnjdgmlccaa
