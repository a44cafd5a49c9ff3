/- QuantSorts: the walk. -/
import Derived.Test.YtkmcdeejkcncpaaDoorQa
import Derived.Test.YtkmcdeejkcncpaaDoorQs
import Derived.Test.YtkmcdeejkcncpaaDoorCounts8
import Derived.Test.YtkmcdeejkcncpaaDoorApq
import Derived.Test.YtkmcdeejkcncpaaDoorQd
import Derived.Deep.RegionHeld3
import Derived.Deep.DeepCutAuto
import Derived.StillTailTactics
import Derived.BigQuiet
import Derived.Deep.QuietTactic
import Derived.IntWalk
namespace Go.Proofs.YtkmcdeejkcncpaaDoor
open Go.RowKit
set_option linter.unusedVariables false

theorem infoI : (Tryd.prog.info? 3).map (fun i => (i.zero, i.size, i.bytes)) = some (some (.int .i64 0), 1, 8) := by kernel_rfl
theorem Lows.setc2 {w : World} {a : Addr} (h : Lows w) (hne : a.block ≠ 1) (v : Value) : Lows (w.setCell a v) := fun i hi => (World.cell?_setCell_far _ _ _ _ hne).trans (h i hi)
theorem put10_grown (w : World) (C : Nat) (z0 z1 z2 z3 z4 z5 z6 z7 z8 z9 : Int) : w.grownBy (put10 w C z0 z1 z2 z3 z4 z5 z6 z7 z8 z9) (some C) := by
  have hb : Below C w (put10 w C z0 z1 z2 z3 z4 z5 z6 z7 z8 z9) := put10_below z0 z1 z2 z3 z4 z5 z6 z7 z8 z9 (Below.refl _ _) (Nat.le_refl _)
  exact ⟨hb.os, hb.tape, hb.output, hb.size, fun k _ hk => put10_far z0 z1 z2 z3 z4 z5 z6 z7 z8 z9 (fun e => hk (by rw [e]))⟩
theorem own_put10 {w : World} {base C : Nat} {e : TypeId} {size n : Nat} {v : Value} {xs : List Value} (h : w.ownsRow base e size v n xs) (hC : C < base) (z0 z1 z2 z3 z4 z5 z6 z7 z8 z9 : Int) : (put10 w C z0 z1 z2 z3 z4 z5 z6 z7 z8 z9).ownsRow base e size v n xs :=
  h.kept (put10_grown w C z0 z1 z2 z3 z4 z5 z6 z7 z8 z9) (.inr (fun he => by have := own_block_ge h C he; omega))

theorem sstep {w0 W W' : World} {x : Addr} {u : Value} (hx : x.block < w0.heap.size) (h : Hid (Below w0.heap.size w0 W) ∧ W.cell? x = some u) (hb : Below w0.heap.size W W') : Hid (Below w0.heap.size w0 W') ∧ W'.cell? x = some u :=
  ⟨Lib.hid (h.1.out.trans hb), (hb.cell hx).trans h.2⟩
theorem salloc {w0 W : World} {x : Addr} {u : Value} {o : Obj} (hx : x.block < w0.heap.size) (h : Hid (Below w0.heap.size w0 W) ∧ W.cell? x = some u) : Hid (Below w0.heap.size w0 (W.alloc o)) ∧ (W.alloc o).cell? x = some u := sstep hx h ((Below.refl _ _).alloc h.1.out.size o)
set_option maxHeartbeats 1000000 in
set_option maxRecDepth 100000 in
theorem sorts_out (dA : Option Addr) (dn dc : Nat) (p : Int) (w : World) (T : Lows w) (h : dn < 1 ∨ 80 < dn ∨ p < 0 ∨ 1000 < p) (hd : dn ≤ maxLen) :
    Calls Tryd.prog 7 #[.slice dA dn dc, .int .i64 p] w fun e w' => e = .returned (.bool true) ∧ Below w.heap.size w w' := by
  unfold maxLen at hd
  have hh : (dn < 1) ∨ (¬ dn < 1 ∧ 80 < dn) ∨ (¬ dn < 1 ∧ ¬ 80 < dn ∧ p < 0) ∨ (¬ dn < 1 ∧ ¬ 80 < dn ∧ ¬ p < 0 ∧ 1000 < p) := by omega
  clear h
  have HT := Lib.hid T
  clear T
  rcases hh with h1 | ⟨h1, h2⟩ | ⟨h1, h2, h3⟩ | ⟨h1, h2, h3, h4⟩
  all_goals
    go_enter Tryd.func7, Tryd.ntmps7
    go_wp2_with (go_at_call 16; refine (alive31_calls _ HT.out).mono ?_; rintro e w1 ⟨rfl, hb1⟩)
    go_ret
    exact ⟨rfl, hb1⟩

/-- What is so of the durations that were put in: sorted, and counted by their buckets. -/
def Put (L c : List Int) (k : Nat) : Prop := Qm.Sorted L ∧ L.length = k ∧ inC c 1000 ∧ ∀ b, b < 8 → c.getD (2 + b) 0 = (Qm.inB L b : Int)

theorem put_next (L c : List Int) (k m : Nat) (d : Int) (h : Put L c k) (hk : k < 1000) (hm : m ≤ k) (h1 : m = 0 ∨ L.getD (m - 1) 0 ≤ d) (h2 : ∀ j, m ≤ j → j < k → d < L.getD j 0) :
    Put (L.take m ++ d :: L.drop m) (joinC c (oneC (Bm.of d) false) 1000) (k + 1) := by
  obtain ⟨hs, hl, hc, hn⟩ := h
  have hf := Bm.of_le d
  refine ⟨Qm.put_sorted L hs m d (by omega) h1 (fun j a b => h2 j a (by omega)), by simp; omega, hc.join (oneC_ok _ _ (by omega)) (by omega) (by omega), fun b hb => ?_⟩
  rw [upd c (Bm.of d) false 1000 hc (by omega) (by omega) (by omega) (2 + b) (by omega), hn b hb, Qm.put_count]
  have hle : Qm.inB L b ≤ k := by
    unfold Qm.inB
    have := List.countP_le_length (l := L) (p := fun d => Bm.of d == b)
    omega
  by_cases hb2 : Bm.of d = b
  · rw [if_pos ⟨Or.inr (Or.inr (by omega)), by omega⟩, if_pos hb2]; omega
  · rw [if_neg (fun hh => by rcases hh.1 with h | ⟨_, h⟩ | h; (· omega); (· cases h); (· omega)), if_neg hb2]; omega

set_option maxHeartbeats 8000000 in
set_option maxRecDepth 100000 in
theorem sorts_in (dA : Option Addr) (d : List Int) (dn dc : Nat) (p : Nat) (w : World) (T : Lows w) (h1 : 1 ≤ dn) (h2 : dn ≤ 80) (h3 : p ≤ 1000) (ed : dn = d.length)
    (rd : Rd w w.heap.size dA (d.map (Value.int .i64))) :
    Calls Tryd.prog 7 #[.slice dA dn dc, .int .i64 p] w fun e w' => e = .returned (.bool true) ∧ Below w.heap.size w w' := by
  obtain ⟨i0, hi, hz0, hz1, hz2⟩ := info_parts infoI
  have HI := Lib.hid (And.intro hi (And.intro hz0 (And.intro hz1 hz2)))
  clear hi hz0 hz1 hz2
  have HT := Lib.hid T
  have RD := Lib.hid rd
  have ED := Lib.hid ed
  clear T rd ed
  have g1 : decide (dn < 1) = false := by simp; omega
  have g1' : decide ((dn : Int) < 1) = false := by simp; omega
  have g2 : decide (80 < (dn : Int)) = false := by simp; omega
  have g3 : decide ((p : Int) < 0) = false := by simp
  have g4 : decide (1000 < (p : Int)) = false := by simp; omega
  go_enter Tryd.func7, Tryd.ntmps7
  go_wp2_with (go_at_call 16; refine (alive31_calls _ HT.out).mono ?_; rintro e w1 ⟨rfl, hb1⟩)
  have h8 : (w1.alloc (.cells #[.int .i64 0, .int .i64 0, .int .i64 0, .int .i64 0, .int .i64 0, .int .i64 0, .int .i64 0, .int .i64 0, .int .i64 0, .int .i64 0] 24)).heap[w1.heap.size]? = some (.cells #[.int .i64 0, .int .i64 0, .int .i64 0, .int .i64 0, .int .i64 0, .int .i64 0, .int .i64 0, .int .i64 0, .int .i64 0, .int .i64 0] 24) := heap_alloc_new _ _
  have hB := hb1.alloc hb1.size (.cells #[.int .i64 0, .int .i64 0, .int .i64 0, .int .i64 0, .int .i64 0, .int .i64 0, .int .i64 0, .int .i64 0, .int .i64 0, .int .i64 0] 24)
  have hT := (HT.out.below hb1 HT.out.lt).alloc (.cells #[.int .i64 0, .int .i64 0, .int .i64 0, .int .i64 0, .int .i64 0, .int .i64 0, .int .i64 0, .int .i64 0, .int .i64 0, .int .i64 0] 24)
  have hz : w1.heap.size < (w1.alloc (.cells #[.int .i64 0, .int .i64 0, .int .i64 0, .int .i64 0, .int .i64 0, .int .i64 0, .int .i64 0, .int .i64 0, .int .i64 0, .int .i64 0] 24)).heap.size := by simp
  have hC : w.heap.size ≤ w1.heap.size := hb1.size
  have hTlt : 1 < w.heap.size := HT.out.lt
  generalize w1.alloc (.cells #[.int .i64 0, .int .i64 0, .int .i64 0, .int .i64 0, .int .i64 0, .int .i64 0, .int .i64 0, .int .i64 0, .int .i64 0, .int .i64 0] 24) = W1 at *
  generalize w1.heap.size = C at *
  generalize hB0 : w.heap.size = B at *
  have HB0 := Lib.hid hB0
  have H8 := Lib.hid h8
  have HBW := Lib.hid hB
  have HTW := Lib.hid hT
  have HZ := Lib.hid hz
  have HCB := Lib.hid hC
  have hBnd := Lib.hid hTlt
  clear hB0 h8 hB hT hz hC hb1 HT hTlt g1 g1' g2 g3 g4
  go_loopw [7, 8] (fun v i wr => ∃ (k : Nat) (L c : List Int), i = .int .i64 k ∧ k ≤ dn ∧ Hid (Put L c k) ∧ Hid (wr.ownsRow (C + 1) 3 1 v k (L.map (Value.int .i64))) ∧ Hid (wr.heap[C]? = some (.cells (Cv c) 24)) ∧ Hid (Below B w wr ∧ Lows wr ∧ C < wr.heap.size)) (fun _ i _ => dn - (intOf i).toNat)
  case atStart => exact ⟨0, [], [0, 0, 0, 0, 0, 0, 0, 0, 0, 0], rfl, Nat.zero_le _, Lib.hid ⟨fun i j _ hj => absurd hj (by simp), rfl, fun i => by rcases i with _ | _ | _ | _ | _ | _ | _ | _ | _ | _ | i <;> simp, fun b hb => by
      have : b = 0 ∨ b = 1 ∨ b = 2 ∨ b = 3 ∨ b = 4 ∨ b = 5 ∨ b = 6 ∨ b = 7 := by omega
      rcases this with rfl | rfl | rfl | rfl | rfl | rfl | rfl | rfl <;> rfl⟩, Lib.hid (World.ownsRow_nil _ _ _ _), H8, Lib.hid ⟨HBW.out, HTW.out, HZ.out⟩⟩
  case round =>
    obtain ⟨k, L, c, rfl, hk, KP, KO, K8, KK⟩ := hrel
    clear H8 HBW HTW HZ
    obtain ⟨lA, lc, rfl, hlc, hrl⟩ := own_rd KO.out
    clear hrl
    by_cases hlt : k < dn
    · have kd : k < d.length := by rw [← ED.out]; exact hlt
      obtain ⟨a, rfl, ba, hca⟩ := (RD.out.below KK.out.1).at_ (k := k) (by simpa using kd)
      rw [List.getElem_map] at hca
      obtain ⟨dk, hdk⟩ : ∃ dk, d[k]? = some dk := ⟨_, List.getElem?_eq_getElem kd⟩
      rw [getOf hdk kd] at hca
      have EDK := Lib.hid hdk
      have HKD := Lib.hid kd
      clear hdk kd
      have OK := KP.out.2.2.1.ok (show (1000 : Int) ≤ 9223372036854775807 by omega)
      have AD := fun W => Lib.hid (addref_any c 0 0 0 0 { data := #[] } { data := #[] } 0 dk false none 0 0 1000 W OK (by omega) (by omega))
      obtain ⟨c', hc'⟩ : ∃ c', c' = joinC c (oneC (Bm.of dk) false) 1000 := ⟨_, rfl⟩
      rw [← hc'] at AD
      have HC' := Lib.hid hc'
      clear hc'
      obtain ⟨x0, x1, x2, x3, x4, x5, x6, x7, x8, x9, hxx⟩ := Cv_ex c
      obtain ⟨z0, z1, z2, z3, z4, z5, z6, z7, z8, z9, hzz⟩ := Cv_ex c'
      have h8 := K8.out
      rw [hxx] at h8 AD
      rw [hzz] at AD
      have ZZ := Lib.hid hzz
      clear hxx hzz OK
      have ik0 : (0 : Int) ≤ (k : Int) := by omega
      have ik1 : (k : Int) < (dn : Int) := by omega
      go_wp2_with fail
      go_cut [] (fun wx => Hid (wx.heap[C]? = some (.cells (Cv c') 24)) ∧ Hid (wx.ownsRow (C + 1) 3 1 (.slice lA k lc) k (L.map (Value.int .i64))) ∧ Hid (Below B w wx ∧ Lows wx ∧ C < wx.heap.size))
      case first =>
        have x0c : wr.cell? ⟨C, 0, none⟩ = some (.int .i64 x0) := cell_of_row _ _ 0 _ 24 (0, 0) h8
        have x1c : wr.cell? ⟨C, 1, none⟩ = some (.int .i64 x1) := cell_of_row _ _ 1 _ 24 (0, 0) h8
        have x2c : wr.cell? ⟨C, 2, none⟩ = some (.int .i64 x2) := cell_of_row _ _ 2 _ 24 (0, 0) h8
        have x3c : wr.cell? ⟨C, 3, none⟩ = some (.int .i64 x3) := cell_of_row _ _ 3 _ 24 (0, 0) h8
        have x4c : wr.cell? ⟨C, 4, none⟩ = some (.int .i64 x4) := cell_of_row _ _ 4 _ 24 (0, 0) h8
        have x5c : wr.cell? ⟨C, 5, none⟩ = some (.int .i64 x5) := cell_of_row _ _ 5 _ 24 (0, 0) h8
        have x6c : wr.cell? ⟨C, 6, none⟩ = some (.int .i64 x6) := cell_of_row _ _ 6 _ 24 (0, 0) h8
        have x7c : wr.cell? ⟨C, 7, none⟩ = some (.int .i64 x7) := cell_of_row _ _ 7 _ 24 (0, 0) h8
        have x8c : wr.cell? ⟨C, 8, none⟩ = some (.int .i64 x8) := cell_of_row _ _ 8 _ 24 (0, 0) h8
        have x9c : wr.cell? ⟨C, 9, none⟩ = some (.int .i64 x9) := cell_of_row _ _ 9 _ 24 (0, 0) h8
        have H8 := Lib.hid h8
        clear h8
        go_still_tail 6, (by kernel_rfl)
        change wpList _ _ _ _ _ wr.drew
        go_wp2_with fail
        refine (AD _).out.mono ?_
        rintro en w2 ⟨rfl, hb3⟩
        have hb2 : Below wr.heap.size wr w2 := (show Below wr.heap.size wr wr.drew from ⟨rfl, rfl, rfl, Nat.le_refl _, fun _ _ => rfl⟩).trans hb3
        clear hb3
        have hBle : B ≤ wr.heap.size := by have := KK.out.1.size; rw [← HB0.out]; exact this
        have hO : w2.heap[C]? = _ := (hb2.block C KK.out.2.2).trans H8.out
        have o0 : w2.cell? ⟨C, 0, none⟩ = some (.int .i64 x0) := cell_of_row _ _ 0 _ 24 (0, 0) hO
        have q0 : w2.frozen? ⟨C, 0, none⟩ = false := by simp [World.frozen?, hO]
        have o1 : w2.cell? ⟨C, 1, none⟩ = some (.int .i64 x1) := cell_of_row _ _ 1 _ 24 (0, 0) hO
        have q1 : w2.frozen? ⟨C, 1, none⟩ = false := by simp [World.frozen?, hO]
        have o2 : w2.cell? ⟨C, 2, none⟩ = some (.int .i64 x2) := cell_of_row _ _ 2 _ 24 (0, 0) hO
        have q2 : w2.frozen? ⟨C, 2, none⟩ = false := by simp [World.frozen?, hO]
        have o3 : w2.cell? ⟨C, 3, none⟩ = some (.int .i64 x3) := cell_of_row _ _ 3 _ 24 (0, 0) hO
        have q3 : w2.frozen? ⟨C, 3, none⟩ = false := by simp [World.frozen?, hO]
        have o4 : w2.cell? ⟨C, 4, none⟩ = some (.int .i64 x4) := cell_of_row _ _ 4 _ 24 (0, 0) hO
        have q4 : w2.frozen? ⟨C, 4, none⟩ = false := by simp [World.frozen?, hO]
        have o5 : w2.cell? ⟨C, 5, none⟩ = some (.int .i64 x5) := cell_of_row _ _ 5 _ 24 (0, 0) hO
        have q5 : w2.frozen? ⟨C, 5, none⟩ = false := by simp [World.frozen?, hO]
        have o6 : w2.cell? ⟨C, 6, none⟩ = some (.int .i64 x6) := cell_of_row _ _ 6 _ 24 (0, 0) hO
        have q6 : w2.frozen? ⟨C, 6, none⟩ = false := by simp [World.frozen?, hO]
        have o7 : w2.cell? ⟨C, 7, none⟩ = some (.int .i64 x7) := cell_of_row _ _ 7 _ 24 (0, 0) hO
        have q7 : w2.frozen? ⟨C, 7, none⟩ = false := by simp [World.frozen?, hO]
        have o8 : w2.cell? ⟨C, 8, none⟩ = some (.int .i64 x8) := cell_of_row _ _ 8 _ 24 (0, 0) hO
        have q8 : w2.frozen? ⟨C, 8, none⟩ = false := by simp [World.frozen?, hO]
        have o9 : w2.cell? ⟨C, 9, none⟩ = some (.int .i64 x9) := cell_of_row _ _ 9 _ 24 (0, 0) hO
        have q9 : w2.frozen? ⟨C, 9, none⟩ = false := by simp [World.frozen?, hO]
        have HO := Lib.hid hO
        have HOW := Lib.hid (own_below KO.out hb2)
        have hz2 : C < w2.heap.size := by have := hb2.size; have := KK.out.2.2; omega
        have HBB : Hid (Below B w w2) := Lib.hid (KK.out.1.trans (hb2.mono hBle))
        have HT2 : Hid (Lows w2) := Lib.hid (KK.out.2.1.below hb2 KK.out.2.1.lt)
        clear hb2 hO
        go_wp2_with fail
        go_meet
        have P1 := put10_heap z0 z1 z2 z3 z4 z5 z6 z7 z8 z9 HO.out ⟨_, _, _, _, _, _, _, _, _, _, rfl⟩
        have P2 := own_put10 HOW.out (show C < C + 1 by omega) z0 z1 z2 z3 z4 z5 z6 z7 z8 z9
        have P3 := put10_below z0 z1 z2 z3 z4 z5 z6 z7 z8 z9 HBB.out HCB.out
        have P4 : C < (put10 w2 C z0 z1 z2 z3 z4 z5 z6 z7 z8 z9).heap.size := by unfold put10; simpa using hz2
        have P5 : Lows (put10 w2 C z0 z1 z2 z3 z4 z5 z6 z7 z8 z9) := fun i hi => by
          have e := HT2.out i hi
          have hb : Below C w2 (put10 w2 C z0 z1 z2 z3 z4 z5 z6 z7 z8 z9) := put10_below z0 z1 z2 z3 z4 z5 z6 z7 z8 z9 (Below.refl _ _) (Nat.le_refl _)
          exact (hb.cell (p := ⟨_, i, none⟩) (show 1 < C by have := HCB.out; have := hBnd.out; omega)).trans e
        exact ⟨Lib.hid (by rw [ZZ.out]; exact P1), Lib.hid P2, Lib.hid ⟨P3, P5, P4⟩⟩
      case rest =>
        obtain ⟨J8, JO, JJ⟩ := hcut
        clear K8 KO KK AD ZZ h8 hca
        obtain ⟨a', ha', _, hca⟩ := (RD.out.below JJ.out.1).at_ (k := k) (by simpa using HKD.out)
        injection ha' with ha'
        subst ha'
        rw [List.getElem_map, getOf EDK.out HKD.out] at hca
        obtain ⟨lA', lc', hv, hlc', RL0⟩ := own_rd JO.out
        injection hv with hv1 hv2 hv3
        clear hv2
        subst hv1 hv3
        have RL := Lib.hid RL0
        have HL : Hid (L.length = k) := Lib.hid KP.out.2.1
        clear RL0
        obtain ⟨w0, hw0⟩ : ∃ w0 : World, w0 = wc := ⟨_, rfl⟩
        subst hw0
        have HCA := Lib.hid hca
        clear hca
        go_wp2_with fail
        go_loopw [9] (fun x wx => ∃ m n : Nat, x = .int .i64 m ∧ m ≤ k ∧ Hid (∀ j, m ≤ j → j < k → dk < L.getD j 0) ∧ wx = w0.drewN n) (fun x _ => (intOf x).toNat)
        case atStart => exact ⟨k, 0, rfl, Nat.le_refl _, Lib.hid (fun j h1 h2 => absurd h2 (by omega)), rfl⟩
        case round =>
          obtain ⟨m, n, rfl, hm, HJ, rfl⟩ := hrel
          have hca := HCA.out
          by_cases hm0 : m = 0
          · have hmz : (m : Int) ≤ 0 := by omega
            have hmd : decide (0 < (m : Int)) = false := by simp; omega
            have hmd2 : decide (0 < m) = false := by simp; omega
            have hmd3 := Lib.hid hm0
            have HM : Hid (m ≤ k ∧ (m = 0 ∨ L.getD (m - 1) 0 ≤ dk) ∧ ∀ j, m ≤ j → j < k → dk < L.getD j 0) := Lib.hid ⟨by omega, Or.inl hm0, HJ.out⟩
            clear hm0 HJ
            go_wp2_with fail
            go_quiet (fail)
            go_wp2_with fail
            clear hmd hmd2
            have HI2 := HI.out
            obtain ⟨hi, hz0, hz1, hz2⟩ := HI2
            have RLB := Lib.hid (fun W' (hb : Below w0.heap.size w0 W') => RL.out.below hb)
            have hk80 : k ≤ 80 := by omega
            have hx : (a.add k).block < w0.heap.size := by rw [block_add]; have := JJ.out.1.size; rw [HB0.out] at this; omega
            have hx2 := Lib.hid hx
            have hmk : m ≤ k := HM.out.1
            have lenT : ((L.map (Value.int .i64)).take m).length = m * 1 := by rw [List.length_take, List.length_map, HL.out]; omega
            have lenD : ((L.map (Value.int .i64)).drop m).length = (k - m) * 1 := by rw [List.length_drop, List.length_map, HL.out]; omega
            have oneT : ∀ u ∈ (L.map (Value.int .i64)).take m, u.oneCell' = true := fun u hu => by
              obtain ⟨z, _, rfl⟩ := List.mem_map.1 (List.mem_of_mem_take hu)
              rfl
            have oneD : ∀ u ∈ (L.map (Value.int .i64)).drop m, u.oneCell' = true := fun u hu => by
              obtain ⟨z, _, rfl⟩ := List.mem_map.1 (List.mem_of_mem_drop hu)
              rfl
            have LT := Lib.hid lenT
            have LD := Lib.hid lenD
            have OT := Lib.hid oneT
            have OD := Lib.hid oneD
            clear hx lenT lenD oneT oneD
            have c1 : (m : Int) ≤ (lc : Int) := by omega
            have c2 : (0 : Int) ≤ (m : Int) := by omega
            have c3 : (m : Int) ≤ (k : Int) := by omega
            have c4 : (k : Int) ≤ (lc : Int) := by omega
            have c5 : m ≤ lc := by omega
            obtain ⟨A3, hA3⟩ : ∃ A3, (if lc = m then lA else lA.map (·.add m)) = A3 := ⟨_, rfl⟩
            have RDB := Lib.hid (fun W' (hb : Below w0.heap.size w0 W') => (show Rd W' w0.heap.size A3 ((L.map (Value.int .i64)).drop m) by
              have h := (RLB.out W' hb).drop (k := m) (cap := lc) (by rw [List.length_map, HL.out]; omega)
              rw [hA3] at h
              exact h))
            have hdw : ∀ o : Obj, Hid (Below w0.heap.size w0 ((w0.alloc o).drew)) ∧ ((w0.alloc o).drew).cell? (a.add k) = some (.int .i64 dk) := fun o => sstep hx2.out (salloc hx2.out ⟨Lib.hid (Below.refl _ _), HCA.out⟩) ⟨rfl, rfl, rfl, Nat.le_refl _, fun _ _ => rfl⟩
            have HDW := Lib.hid hdw
            clear hdw
            go_region_held3 (fun w' => (Hid (Below w0.heap.size w0 w') ∧ w'.cell? (a.add k) = some (.int .i64 dk)))
              (first | (with_reducible assumption) | (with_reducible exact hs3) | (with_reducible exact hs2) | (with_reducible exact hs1) | (with_reducible exact salloc hx2.out hs1) | (with_reducible exact salloc hx2.out (by assumption)) | exact ⟨Lib.hid ⟨rfl, rfl, rfl, Nat.le_refl _, fun _ _ => rfl⟩, HCA.out⟩ | exact ⟨Lib.hid (((Below.refl w0.heap.size w0).alloc (Nat.le_refl _) _).trans ⟨rfl, rfl, rfl, Nat.le_refl _, fun _ _ => rfl⟩), (World.cell?_alloc_lt w0 _ _ hx2.out).trans HCA.out⟩)
              ((first
                | (refine step_app (by rfl) (.const (.slice none 0 0)) (.tmp 69) _ _ (by rfl) (by rfl) (by rfl) (run_append_rd _ w0.heap.size _ _ 3 i0 _ 1 8 Tryd.underlying36 hi hz0 hz1 hz2 rfl (.slice none 0 0) 0 [] (World.ownsRow_nil _ _ _ _) w0.heap.size _ m lc ((L.map (Value.int .i64)).take m) LT.out ((RLB.out _ ((‹Hid (Below w0.heap.size w0 _) ∧ _›).1.out)).take m) OT.out (by have := HM.out.1; unfold maxLen; omega) (by have := HM.out.1; omega) ((‹Hid (Below w0.heap.size w0 _) ∧ _›).1.out).size) ?_; rintro v1 wa ⟨ho1, hg1⟩; have hs1 := sstep hx2.out ‹Hid (Below w0.heap.size w0 _) ∧ _› (hg1.below (Below.refl _ _) ((‹Hid (Below w0.heap.size w0 _) ∧ _›).1.out).size (by simp [Value.ownBlock])); (try have hrB := ((Rd.one _ _ _).more (by simp)).below hg1.new))
                | (refine step_app (by rfl) (.tmp 70) (.tmp 75) _ _ (by rfl) (by rfl) (by rfl) (run_append_rd _ w0.heap.size _ _ 3 i0 _ 1 8 Tryd.underlying36 hi hz0 hz1 hz2 rfl v1 (0 + m) _ (by first | exact ho1 | exact ho1.alloc _) _ _ 1 1 [.int .i64 dk] rfl (by first | exact Rd.one wa _ _ | exact hrB) (by simp [Value.oneCell']) (by have := HM.out.1; unfold maxLen; omega) (by have := HM.out.1; omega) ((‹Hid (Below w0.heap.size w0 _) ∧ _›).1.out).size) ?_; rintro v2 wb ⟨ho2, hg2⟩; have hs2 := sstep hx2.out ‹Hid (Below w0.heap.size w0 _) ∧ _› (hg2.below (Below.refl _ _) ((‹Hid (Below w0.heap.size w0 _) ∧ _›).1.out).size (own_block_ge ho1)))
                | (refine step_app (by rfl) (.tmp 76) (.tmp 79) _ _ (by rfl) (by rfl) (by rfl) (run_append_rd _ w0.heap.size _ _ 3 i0 _ 1 8 Tryd.underlying36 hi hz0 hz1 hz2 rfl v2 (0 + m + 1) _ ho2 w0.heap.size A3 (k - m) (lc - m) ((L.map (Value.int .i64)).drop m) LD.out (RDB.out _ ((‹Hid (Below w0.heap.size w0 _) ∧ _›).1.out)) OD.out (by unfold maxLen; omega) (by omega) ((‹Hid (Below w0.heap.size w0 _) ∧ _›).1.out).size) ?_; rintro v3 wd ⟨ho3, hg3⟩; have hs3 := sstep hx2.out ‹Hid (Below w0.heap.size w0 _) ∧ _› (hg3.below (Below.refl _ _) ((‹Hid (Below w0.heap.size w0 _) ∧ _›).1.out).size (own_block_ge ho2)))
                | fail))
            all_goals
              go_wp2_with fail
              go_roundw
              case rel =>
                refine ⟨k + 1, L.take m ++ dk :: L.drop m, c', by go_num, by omega, Lib.hid (by rw [HC'.out]; exact put_next L c k m dk KP.out (by omega) HM.out.1 HM.out.2.1 HM.out.2.2), ?_, Lib.hid ((hs3.1.out.block C JJ.out.2.2).trans J8.out), Lib.hid ⟨JJ.out.1.trans (hs3.1.out.mono (by have := JJ.out.2.2; have := HCB.out; omega)), JJ.out.2.1.below hs3.1.out JJ.out.2.1.lt, by have := hs3.1.out.size; have := JJ.out.2.2; omega⟩⟩
                have hown := own_mono ho3 (show C + 1 ≤ w0.heap.size from JJ.out.2.2)
                rw [show 0 + m + 1 + (k - m) = k + 1 from by omega] at hown
                have he : ([] ++ List.take m (L.map (Value.int .i64)) ++ [Value.int .i64 dk] ++ List.drop m (L.map (Value.int .i64))) = (L.take m ++ dk :: L.drop m).map (Value.int .i64) := by simp
                rw [he] at hown
                exact Lib.hid hown
              case measure => simp [intOf]; omega
          · obtain ⟨mm, rfl⟩ : ∃ m', m = m' + 1 := ⟨m - 1, by omega⟩
            clear hm0
            obtain ⟨la, hla, _, hcl⟩ := RL.out.at_ (k := mm) (by rw [List.length_map, HL.out]; omega)
            subst hla
            rw [List.getElem_map] at hcl
            have hlm : L[mm]'(by rw [HL.out]; omega) = L.getD mm 0 := by rw [List.getD_eq_getElem?_getD, List.getElem?_eq_getElem (by rw [HL.out]; omega)]; rfl
            rw [hlm] at hcl
            have hcl2 := hcl
            clear hcl hlm
            have HGL : Hid (∀ j, mm + 1 ≤ j → j < k → dk < L.getD j 0) := HJ
            obtain ⟨lm, hlm⟩ : ∃ lm, lm = L.getD mm 0 := ⟨_, rfl⟩
            rw [← hlm] at hcl2
            have HLM := Lib.hid hlm
            clear hlm HJ
            have e1 : IntKind.i64.wrap ((mm : Int) + 1 - 1) = (mm : Int) := by rw [IntWalk.i64_in _ (by omega)]; omega
            have e2 : IntKind.i64.wrap (mm : Int) = (mm : Int) := IntWalk.i64_in _ (by omega)
            have m0 : (0 : Int) ≤ (mm : Int) := by omega
            have m1 : (mm : Int) < (k : Int) := by omega
            have m2 : (0 : Int) < (mm : Int) + 1 := by omega
            have hcc : dk < lm ∨ lm ≤ dk := by omega
            rcases hcc with hcc | hcc
            · go_wp2_with fail
              go_quiet (fail)
              go_wp2_with fail
              refine ⟨⟨mm, _, rfl, by omega, Lib.hid (fun j hj1 hj2 => ?_), rfl⟩, by simp [intOf]⟩
              by_cases hjm : j = mm
              · rw [hjm, ← HLM.out]; exact hcc
              · exact HGL.out j (by omega) hj2
            · go_wp2_with fail
              go_quiet (fail)
              go_wp2_with fail
              have HM0 : (mm + 1) ≤ k ∧ ((mm + 1) = 0 ∨ L.getD ((mm + 1) - 1) 0 ≤ dk) ∧ ∀ j, (mm + 1) ≤ j → j < k → dk < L.getD j 0 := ⟨by omega, Or.inr (by rw [Nat.add_sub_cancel, ← HLM.out]; exact hcc), HGL.out⟩
              obtain ⟨m, hm'⟩ : ∃ m : Nat, mm + 1 = m := ⟨_, rfl⟩
              have hmi : (mm : Int) + 1 = (m : Int) := by omega
              rw [hm'] at HM0
              rw [hm']
              have HM := Lib.hid HM0
              clear e1 e2 m0 m1 m2 hcc hcl2 HM0 hmi HGL HLM hm hm'
              generalize some la = lA at *
              have HI2 := HI.out
              obtain ⟨hi, hz0, hz1, hz2⟩ := HI2
              have RLB := Lib.hid (fun W' (hb : Below w0.heap.size w0 W') => RL.out.below hb)
              have hk80 : k ≤ 80 := by omega
              have hx : (a.add k).block < w0.heap.size := by rw [block_add]; have := JJ.out.1.size; rw [HB0.out] at this; omega
              have hx2 := Lib.hid hx
              have hmk : m ≤ k := HM.out.1
              have lenT : ((L.map (Value.int .i64)).take m).length = m * 1 := by rw [List.length_take, List.length_map, HL.out]; omega
              have lenD : ((L.map (Value.int .i64)).drop m).length = (k - m) * 1 := by rw [List.length_drop, List.length_map, HL.out]; omega
              have oneT : ∀ u ∈ (L.map (Value.int .i64)).take m, u.oneCell' = true := fun u hu => by
                obtain ⟨z, _, rfl⟩ := List.mem_map.1 (List.mem_of_mem_take hu)
                rfl
              have oneD : ∀ u ∈ (L.map (Value.int .i64)).drop m, u.oneCell' = true := fun u hu => by
                obtain ⟨z, _, rfl⟩ := List.mem_map.1 (List.mem_of_mem_drop hu)
                rfl
              have LT := Lib.hid lenT
              have LD := Lib.hid lenD
              have OT := Lib.hid oneT
              have OD := Lib.hid oneD
              clear hx lenT lenD oneT oneD
              have c1 : (m : Int) ≤ (lc : Int) := by omega
              have c2 : (0 : Int) ≤ (m : Int) := by omega
              have c3 : (m : Int) ≤ (k : Int) := by omega
              have c4 : (k : Int) ≤ (lc : Int) := by omega
              have c5 : m ≤ lc := by omega
              obtain ⟨A3, hA3⟩ : ∃ A3, (if lc = m then lA else lA.map (·.add m)) = A3 := ⟨_, rfl⟩
              have RDB := Lib.hid (fun W' (hb : Below w0.heap.size w0 W') => (show Rd W' w0.heap.size A3 ((L.map (Value.int .i64)).drop m) by
                have h := (RLB.out W' hb).drop (k := m) (cap := lc) (by rw [List.length_map, HL.out]; omega)
                rw [hA3] at h
                exact h))
              have hdw : ∀ o : Obj, Hid (Below w0.heap.size w0 ((w0.alloc o).drew)) ∧ ((w0.alloc o).drew).cell? (a.add k) = some (.int .i64 dk) := fun o => sstep hx2.out (salloc hx2.out ⟨Lib.hid (Below.refl _ _), HCA.out⟩) ⟨rfl, rfl, rfl, Nat.le_refl _, fun _ _ => rfl⟩
              have HDW := Lib.hid hdw
              clear hdw
              go_region_held3 (fun w' => (Hid (Below w0.heap.size w0 w') ∧ w'.cell? (a.add k) = some (.int .i64 dk)))
                (first | (with_reducible assumption) | (with_reducible exact hs3) | (with_reducible exact hs2) | (with_reducible exact hs1) | (with_reducible exact salloc hx2.out hs1) | (with_reducible exact salloc hx2.out (by assumption)) | exact ⟨Lib.hid ⟨rfl, rfl, rfl, Nat.le_refl _, fun _ _ => rfl⟩, HCA.out⟩ | exact ⟨Lib.hid (((Below.refl w0.heap.size w0).alloc (Nat.le_refl _) _).trans ⟨rfl, rfl, rfl, Nat.le_refl _, fun _ _ => rfl⟩), (World.cell?_alloc_lt w0 _ _ hx2.out).trans HCA.out⟩)
                ((first
                  | (refine step_app (by rfl) (.const (.slice none 0 0)) (.tmp 69) _ _ (by rfl) (by rfl) (by rfl) (run_append_rd _ w0.heap.size _ _ 3 i0 _ 1 8 Tryd.underlying36 hi hz0 hz1 hz2 rfl (.slice none 0 0) 0 [] (World.ownsRow_nil _ _ _ _) w0.heap.size _ m lc ((L.map (Value.int .i64)).take m) LT.out ((RLB.out _ ((‹Hid (Below w0.heap.size w0 _) ∧ _›).1.out)).take m) OT.out (by have := HM.out.1; unfold maxLen; omega) (by have := HM.out.1; omega) ((‹Hid (Below w0.heap.size w0 _) ∧ _›).1.out).size) ?_; rintro v1 wa ⟨ho1, hg1⟩; have hs1 := sstep hx2.out ‹Hid (Below w0.heap.size w0 _) ∧ _› (hg1.below (Below.refl _ _) ((‹Hid (Below w0.heap.size w0 _) ∧ _›).1.out).size (by simp [Value.ownBlock])); (try have hrB := ((Rd.one _ _ _).more (by simp)).below hg1.new))
                  | (refine step_app (by rfl) (.tmp 70) (.tmp 75) _ _ (by rfl) (by rfl) (by rfl) (run_append_rd _ w0.heap.size _ _ 3 i0 _ 1 8 Tryd.underlying36 hi hz0 hz1 hz2 rfl v1 (0 + m) _ (by first | exact ho1 | exact ho1.alloc _) _ _ 1 1 [.int .i64 dk] rfl (by first | exact Rd.one wa _ _ | exact hrB) (by simp [Value.oneCell']) (by have := HM.out.1; unfold maxLen; omega) (by have := HM.out.1; omega) ((‹Hid (Below w0.heap.size w0 _) ∧ _›).1.out).size) ?_; rintro v2 wb ⟨ho2, hg2⟩; have hs2 := sstep hx2.out ‹Hid (Below w0.heap.size w0 _) ∧ _› (hg2.below (Below.refl _ _) ((‹Hid (Below w0.heap.size w0 _) ∧ _›).1.out).size (own_block_ge ho1)))
                  | (refine step_app (by rfl) (.tmp 76) (.tmp 79) _ _ (by rfl) (by rfl) (by rfl) (run_append_rd _ w0.heap.size _ _ 3 i0 _ 1 8 Tryd.underlying36 hi hz0 hz1 hz2 rfl v2 (0 + m + 1) _ ho2 w0.heap.size A3 (k - m) (lc - m) ((L.map (Value.int .i64)).drop m) LD.out (RDB.out _ ((‹Hid (Below w0.heap.size w0 _) ∧ _›).1.out)) OD.out (by unfold maxLen; omega) (by omega) ((‹Hid (Below w0.heap.size w0 _) ∧ _›).1.out).size) ?_; rintro v3 wd ⟨ho3, hg3⟩; have hs3 := sstep hx2.out ‹Hid (Below w0.heap.size w0 _) ∧ _› (hg3.below (Below.refl _ _) ((‹Hid (Below w0.heap.size w0 _) ∧ _›).1.out).size (own_block_ge ho2)))
                  | fail))
              all_goals
                go_wp2_with fail
                go_roundw
                case rel =>
                  refine ⟨k + 1, L.take m ++ dk :: L.drop m, c', by go_num, by omega, Lib.hid (by rw [HC'.out]; exact put_next L c k m dk KP.out (by omega) HM.out.1 HM.out.2.1 HM.out.2.2), ?_, Lib.hid ((hs3.1.out.block C JJ.out.2.2).trans J8.out), Lib.hid ⟨JJ.out.1.trans (hs3.1.out.mono (by have := JJ.out.2.2; have := HCB.out; omega)), JJ.out.2.1.below hs3.1.out JJ.out.2.1.lt, by have := hs3.1.out.size; have := JJ.out.2.2; omega⟩⟩
                  have hown := own_mono ho3 (show C + 1 ≤ w0.heap.size from JJ.out.2.2)
                  rw [show 0 + m + 1 + (k - m) = k + 1 from by omega] at hown
                  have he : ([] ++ List.take m (L.map (Value.int .i64)) ++ [Value.int .i64 dk] ++ List.drop m (L.map (Value.int .i64))) = (L.take m ++ dk :: L.drop m).map (Value.int .i64) := by simp
                  rw [he] at hown
                  exact Lib.hid hown
                case measure => simp [intOf]; omega
    · obtain rfl : k = dn := by omega
      obtain ⟨hs, hLn, hc, hcn⟩ := KP.out
      have hq := Qm.sorts L c p h3 (by omega) hs (fun i => by have := hc i; omega) hcn
      rw [hLn] at hq
      have hpl := Qm.place_lt p k h3 h1
      have QA := fun W T => Lib.hid (quantile_any c (p : Int) W T (hc.ok (by omega)))
      rw [hq] at QA
      have hP : p * k ≤ 80000 := Nat.le_trans (Nat.mul_le_mul h3 h2) (by omega)
      have e0 : (p : Int) * (k : Int) = ((p * k : Nat) : Int) := (Int.natCast_mul p k).symm
      have hplc : Qm.place p k = (p * k + 999) / 1000 - 1 := rfl
      generalize p * k = P at *
      generalize hpk : Qm.place p k = pk at *
      obtain ⟨lA', lc', hv, _, hrr⟩ := own_rd KO.out
      injection hv with hv1 hv2 hv3
      clear hv2
      subst hv1 hv3
      obtain ⟨la, rfl, hlab, hcl⟩ := hrr.at_ (k := pk) (by rw [List.length_map]; omega)
      rw [List.getElem_map] at hcl
      have hlp : L[pk]'(by omega) = L.getD pk 0 := by rw [List.getD_eq_getElem?_getD, List.getElem?_eq_getElem (by omega)]; rfl
      rw [hlp] at hcl
      clear hlp hrr
      have OR := fun W => Lib.hid (ofref_any (L.getD pk 0) W)
      have hof := Bm.of_le (L.getD pk 0)
      generalize L.getD pk 0 = lp at *
      generalize Bm.of lp = f at *
      generalize hlf : Qm.lows.getD f 0 = lf at *
      have HLF := Lib.hid hlf
      obtain ⟨x0, x1, x2, x3, x4, x5, x6, x7, x8, x9, hxx⟩ := Cv_ex c
      have h8 := K8.out
      rw [hxx] at h8 QA
      have s0 : wr.cell? ⟨C, 0, none⟩ = some (.int .i64 x0) := cell_of_row _ _ 0 _ 24 (0, 0) h8
      have s1 : wr.cell? ⟨C, 1, none⟩ = some (.int .i64 x1) := cell_of_row _ _ 1 _ 24 (0, 0) h8
      have s2 : wr.cell? ⟨C, 2, none⟩ = some (.int .i64 x2) := cell_of_row _ _ 2 _ 24 (0, 0) h8
      have s3 : wr.cell? ⟨C, 3, none⟩ = some (.int .i64 x3) := cell_of_row _ _ 3 _ 24 (0, 0) h8
      have s4 : wr.cell? ⟨C, 4, none⟩ = some (.int .i64 x4) := cell_of_row _ _ 4 _ 24 (0, 0) h8
      have s5 : wr.cell? ⟨C, 5, none⟩ = some (.int .i64 x5) := cell_of_row _ _ 5 _ 24 (0, 0) h8
      have s6 : wr.cell? ⟨C, 6, none⟩ = some (.int .i64 x6) := cell_of_row _ _ 6 _ 24 (0, 0) h8
      have s7 : wr.cell? ⟨C, 7, none⟩ = some (.int .i64 x7) := cell_of_row _ _ 7 _ 24 (0, 0) h8
      have s8 : wr.cell? ⟨C, 8, none⟩ = some (.int .i64 x8) := cell_of_row _ _ 8 _ 24 (0, 0) h8
      have s9 : wr.cell? ⟨C, 9, none⟩ = some (.int .i64 x9) := cell_of_row _ _ 9 _ 24 (0, 0) h8
      have HPK := Lib.hid hplc
      have KO2 := KO
      clear h8 hxx hq hs hc hcn hLn hlf hpk KP KO KO2 K8 hk
      have q0 : (0 : Int) ≤ (p : Int) * (k : Int) := by rw [e0]; omega
      have q1 : (p : Int) * (k : Int) ≤ 80000 := by rw [e0]; omega
      have HE0 := Lib.hid e0
      clear e0 hplc
      have hpk0 : (P = 0 ∧ pk = 0) ∨ (1 ≤ P ∧ (P + 999) / 1000 - 1 = pk) := by have := HPK.out; omega
      have hCs : C < wr.heap.size := KK.out.2.2
      have HBS : Hid (B ≤ wr.heap.size) := Lib.hid (by have := KK.out.1.size; rw [HB0.out] at this; exact this)
      have hf8 : (f : Int) < 8 := by omega
      have hz1 : (wr.alloc (.cells #[.int .i64 0, .int .i64 1, .int .i64 5, .int .i64 10, .int .i64 50, .int .i64 100, .int .i64 500, .int .i64 1000] 3)).heap.size = wr.heap.size + 1 := by simp
      rcases hpk0 with ⟨hP0, hpk0⟩ | ⟨hP0, hpk0⟩
      · have e3 : (p : Int) * (k : Int) = 0 := by rw [HE0.out, hP0]; rfl
        subst hpk0
        have HCL : Hid (wr.cell? la = some (.int .i64 lp)) := Lib.hid hcl
        have HLA : Hid (la.block < wr.heap.size + 1) := Lib.hid (by omega)
        have HLB : Hid (la.block < wr.heap.size) := Lib.hid hlab
        have hpl' : (0 : Int) < (k : Int) := by omega
        clear hP0 hcl q0 q1
        have CT : Hid (∀ w3, Below (wr.alloc (.cells #[.int .i64 0, .int .i64 1, .int .i64 5, .int .i64 10, .int .i64 50, .int .i64 100, .int .i64 500, .int .i64 1000] 3)).heap.size (wr.alloc (.cells #[.int .i64 0, .int .i64 1, .int .i64 5, .int .i64 10, .int .i64 50, .int .i64 100, .int .i64 500, .int .i64 1000] 3)) w3 → w3.cell? (la) = some (.int .i64 lp) ∧ w3.cell? ⟨wr.heap.size, f, none⟩ = some (.int .i64 lf) ∧ wr.heap.size < w3.heap.size) := Lib.hid (fun w3 hb => by
          have hz := hb.size
          rw [hz1] at hz
          refine ⟨(hb.cell (by rw [hz1]; exact HLA.out)).trans ((World.cell?_alloc_lt wr _ _ HLB.out).trans HCL.out), (hb.cell (by rw [hz1]; exact Nat.lt_succ_self _)).trans ((low_cell wr f (by omega) 3).trans (by rw [HLF.out])), by omega⟩)
        clear hz1
        go_wp2_with (first
          | (go_at_call 17; (with_reducible refine (QA _ (KK.out.2.1.alloc _)).out.mono ?_); rintro e w3 ⟨rfl, hb3⟩; obtain ⟨hl3, ht3, hz3⟩ := CT.out _ hb3; have HT3 := Lib.hid ht3; have HB3 := Lib.hid hb3; clear hb3 ht3)
          | (go_at_call 11; (with_reducible refine (OR _).out.mono ?_); rintro e w4 ⟨rfl, hb4⟩; have ht4 : w4.cell? ⟨wr.heap.size, f, none⟩ = some (.int .i64 lf) := (hb4.cell (p := ⟨wr.heap.size, f, none⟩) hz3).trans HT3.out; have HB4 := Lib.hid hb4; clear hb4))
        go_ret
        exact ⟨by simp, by rw [HB0.out]; exact (KK.out.1.trans (((Below.refl _ _).alloc (Nat.le_refl _) _).mono HBS.out)).trans ((HB3.out.mono (by have := HBS.out; simp; omega)).trans (HB4.out.mono (by have := HBS.out; have := HB3.out.size; simp at this; omega)))⟩
      · have e3 : ((p : Int) * (k : Int) + 999) / 1000 - 1 = (pk : Int) := by rw [HE0.out]; omega
        have HCL : Hid (wr.cell? (la.add pk) = some (.int .i64 lp)) := Lib.hid hcl
        have HLA : Hid ((la.add pk).block < wr.heap.size + 1) := Lib.hid (by rw [block_add]; omega)
        have HLB : Hid ((la.add pk).block < wr.heap.size) := Lib.hid (by rw [block_add]; exact hlab)
        have hpl' : (pk : Int) < (k : Int) := by omega
        clear hP0 hcl hpk0
        have CT : Hid (∀ w3, Below (wr.alloc (.cells #[.int .i64 0, .int .i64 1, .int .i64 5, .int .i64 10, .int .i64 50, .int .i64 100, .int .i64 500, .int .i64 1000] 3)).heap.size (wr.alloc (.cells #[.int .i64 0, .int .i64 1, .int .i64 5, .int .i64 10, .int .i64 50, .int .i64 100, .int .i64 500, .int .i64 1000] 3)) w3 → w3.cell? (la.add pk) = some (.int .i64 lp) ∧ w3.cell? ⟨wr.heap.size, f, none⟩ = some (.int .i64 lf) ∧ wr.heap.size < w3.heap.size) := Lib.hid (fun w3 hb => by
          have hz := hb.size
          rw [hz1] at hz
          refine ⟨(hb.cell (by rw [hz1]; exact HLA.out)).trans ((World.cell?_alloc_lt wr _ _ HLB.out).trans HCL.out), (hb.cell (by rw [hz1]; exact Nat.lt_succ_self _)).trans ((low_cell wr f (by omega) 3).trans (by rw [HLF.out])), by omega⟩)
        clear hz1
        go_wp2_with (first
          | (go_at_call 17; (with_reducible refine (QA _ (KK.out.2.1.alloc _)).out.mono ?_); rintro e w3 ⟨rfl, hb3⟩; obtain ⟨hl3, ht3, hz3⟩ := CT.out _ hb3; have HT3 := Lib.hid ht3; have HB3 := Lib.hid hb3; clear hb3 ht3)
          | (go_at_call 11; (with_reducible refine (OR _).out.mono ?_); rintro e w4 ⟨rfl, hb4⟩; have ht4 : w4.cell? ⟨wr.heap.size, f, none⟩ = some (.int .i64 lf) := (hb4.cell (p := ⟨wr.heap.size, f, none⟩) hz3).trans HT3.out; have HB4 := Lib.hid hb4; clear hb4))
        go_ret
        exact ⟨by simp, by rw [HB0.out]; exact (KK.out.1.trans (((Below.refl _ _).alloc (Nat.le_refl _) _).mono HBS.out)).trans ((HB3.out.mono (by have := HBS.out; simp; omega)).trans (HB4.out.mono (by have := HBS.out; have := HB3.out.size; simp at this; omega)))⟩
end Go.Proofs.YtkmcdeejkcncpaaDoor
