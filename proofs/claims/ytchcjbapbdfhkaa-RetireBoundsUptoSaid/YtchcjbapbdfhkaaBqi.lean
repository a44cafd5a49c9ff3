/- Whether blocks are few and small enough; chapter 20's example. -/
import Derived.Test.YtchcjbapbdfhkaaBqh
import Derived.Test.YtchcjbapbdfhkaaFe
namespace Go.Proofs.Ytchcjbapbdfhkaa
open Go.RowKit Go.Maps
set_option linter.unusedVariables false
set_option linter.unusedSimpArgs false
set_option maxRecDepth 100000

def GoodBls (l : List Bl) : Prop := l.length ≤ 12 ∧ GoodEps (l.flatMap Bl.l)
theorem GoodBls.each {l : List Bl} (h : GoodBls l) : ∀ x ∈ l, x.l.length ≤ 120 ∧ ∀ e ∈ x.l, e.l.length ≤ 60 := fun x hx => by
  have h1 : ∀ e ∈ x.l, e ∈ l.flatMap Bl.l := fun e he => List.mem_flatMap.2 ⟨x, hx, he⟩
  refine ⟨?_, fun e he => fewAll_len (h.2.2 e (h1 e he))⟩
  have h2 : ∀ (l : List Bl), x ∈ l → x.l.length ≤ (l.flatMap Bl.l).length := fun l => by
    induction l with
    | nil => intro h; cases h
    | cons y r ih =>
      intro h
      rw [List.flatMap_cons, List.length_append]
      rcases List.mem_cons.1 h with e | e
      · subst e; omega
      · have := ih e; omega
  exact Nat.le_trans (h2 l hx) h.2.1
def FewBl (l : List Bl) (w : World) (e : Ending) (w' : World) : Prop := ∃ b : Bool, e = .returned (.bool b) ∧ (b = true → GoodBls l) ∧ Below w.heap.size w w'
theorem flatBl_step {l : List Bl} {k : Nat} {x : Bl} (h : l[k]? = some x) : (l.take (k + 1)).flatMap Bl.l = (l.take k).flatMap Bl.l ++ x.l := by
  rw [List.take_add_one, h, List.flatMap_append]
  simp
set_option maxHeartbeats 8000000 in
theorem few19_any (A : Option Addr) (l : List Bl) (n c B : Nat) (w : World) (hn : n = l.length) (hy : RdBls w B A l) (hok : ∀ x ∈ l, x.ok) (hB : B ≤ w.heap.size) (hb : ∀ x ∈ l, x.l.length ≤ 1048576) :
    Calls Try.prog 36 #[.slice A n c] w (FewBl l w) := by
  obtain ⟨i0, hi, hz0, hz1, hz2⟩ := info_parts infoEp
  have HN := Lib.hid hn
  have HY := Lib.hid hy
  have HK := Lib.hid hok
  have HBB := Lib.hid hb
  clear hn hy hok hb
  go_enter Try.func36, Try.ntmps36
  go_wp2_with fail
  go_loopw [4, 3] (fun iv v wr => ∃ k : Nat, iv = .int .i64 (k : Int) ∧ k ≤ n ∧ k ≤ 20 ∧ Hid (((l.take k).flatMap Bl.l).length ≤ 1048576 * k) ∧ Hid (wr.ownsRow w.heap.size 48 6 v ((l.take k).flatMap Bl.l).length (((l.take k).flatMap Bl.l).flatMap Le.cells)) ∧ Hid (Below w.heap.size w wr)) (fun iv _ _ => n - (intOf iv).toNat)
  case atStart => exact ⟨0, rfl, Nat.zero_le _, Nat.zero_le _, Lib.hid (by simp), Lib.hid (World.ownsRow_nil _ _ _ _), Lib.hid (Below.refl _ _)⟩
  case round =>
    obtain ⟨k, rfl, hk, hk20, HL, HO, HB⟩ := hrel
    by_cases hlt : k < n
    · have d0 : decide ((k : Int) < (n : Int)) = true := decide_eq_true (by omega)
      by_cases hlt2 : k < 20
      · have d1 : decide ((k : Int) < 20) = true := decide_eq_true (by omega)
        have d2 : decide (k < 20) = true := decide_eq_true hlt2
        obtain ⟨x, hx⟩ : ∃ x, l[k]? = some x := ⟨_, List.getElem?_eq_getElem (by rw [← HN.out]; exact hlt)⟩
        have hR := HY.out.below (HB.out.mono hB)
        have hbx := HBB.out x (List.mem_of_getElem? hx)
        have hst := flatBl_step hx
        obtain ⟨nu, bo, ti, es, eA, ec⟩ := x
        obtain ⟨m, hm⟩ : ∃ m, m = es.length := ⟨_, rfl⟩
        obtain ⟨a, ha, hab, c0, c1, c2, c3, hre⟩ := blcells hR hx m hm
        subst ha
        simp only at hbx hst
        have HST := Lib.hid hst
        have hlen : ((l.take k).flatMap Bl.l).length ≤ 1048576 * 20 := Nat.le_trans HL.out (Nat.mul_le_mul_left _ (by omega))
        have APP := Lib.hid (fun ty => run_append_rd (P := Try.prog) wr w.heap.size 22 ty 48 i0 _ 6 64 Try.underlying22 hi hz0 hz1 hz2 rfl _ _ _ HO.out B eA m ec (es.flatMap Le.cells) (by rw [flatMap_len _ 6 ecells_len, hm]) hre.rd (ecells_one es) (by unfold maxLen; omega) (by omega) HB.out.size)
        have HM := Lib.hid hm
        clear hx hR hst hre hlen hm
        go_wp2_with (at_builtin; (refine wpList_app rfl (.tmp 15) (.tmp 20) _ _ rfl rfl rfl (APP.out _) ?_); rintro v5 w5 ⟨ho5, hg5⟩; have HO5 := Lib.hid ho5; have HB5 := Lib.hid (hg5.below HB.out HB.out.size (own_block_ge HO.out)); clear ho5 hg5)
        go_roundw
        case rel => exact ⟨k + 1, by go_num, by omega, by omega, Lib.hid (by rw [HST.out, List.length_append]; have := HL.out; have := HM.out; omega), Lib.hid (by rw [HST.out, List.length_append, List.flatMap_append, ← HM.out]; exact HO5.out), HB5⟩
        case measure => simp [intOf]; omega
      · have d1 : decide ((k : Int) < 20) = false := decide_eq_false (by omega)
        have d2 : decide (k < 20) = false := decide_eq_false hlt2
        have d3 : decide ((n : Int) ≤ 12) = false := decide_eq_false (by omega)
        have d4 : decide (n ≤ 12) = false := decide_eq_false (by omega)
        go_wp2_with fail
        go_ret
        exact ⟨_, rfl, fun h => by simp at h, HB.out⟩
    · obtain rfl : k = n := by omega
      have d0 : decide ((k : Int) < (k : Int)) = false := decide_eq_false (by omega)
      by_cases h12 : k ≤ 12
      · have d3 : decide ((k : Int) ≤ 12) = true := decide_eq_true (by omega)
        have d4 : decide (k ≤ 12) = true := decide_eq_true h12
        have htk : l.take k = l := List.take_of_length_le (by rw [← HN.out]; exact Nat.le_refl _)
        rw [htk] at HO HL
        obtain ⟨Av, cv, hv, hcv, hrd⟩ := own_rd HO.out
        obtain ⟨q, hq⟩ : ∃ q, q = (l.flatMap Bl.l).length := ⟨_, rfl⟩
        rw [← hq] at hv
        subst hv
        have F5 := Lib.hid (few15_any Av (l.flatMap Bl.l) q cv wr.heap.size wr hq ⟨hrd, fun e he => by
          obtain ⟨x, hx, hex⟩ := List.mem_flatMap.1 he
          exact ((((HY.out.below (HB.out.mono hB)).each x hx).each e hex)).more (Nat.le_trans hB HB.out.size)⟩ (fun e he => by
          obtain ⟨x, hx, hex⟩ := List.mem_flatMap.1 he
          exact (HK.out x hx).eps e hex) (Nat.le_refl _) (by have := HL.out; have h2 : 1048576 * k ≤ 1048576 * 12 := Nat.mul_le_mul_left _ h12; unfold maxLen; omega))
        clear hrd htk hq
        go_wp2_with fail
        refine F5.out.mono ?_
        rintro e w5 ⟨b, rfl, hg, hb5⟩
        have HG5 := Lib.hid hg
        have HB5 := Lib.hid (HB.out.trans (hb5.mono HB.out.size))
        clear hg hb5
        cases b
        · go_wp2_with fail
          go_ret
          exact ⟨_, rfl, fun h => (Bool.noConfusion h), HB5.out⟩
        · go_wp2_with fail
          go_ret
          exact ⟨_, rfl, fun h => ⟨by rw [← HN.out]; exact h12, HG5.out (by first | rfl | trivial)⟩, HB5.out⟩
      · have d3 : decide ((k : Int) ≤ 12) = false := decide_eq_false (by omega)
        have d4 : decide (k ≤ 12) = false := decide_eq_false h12
        go_wp2_with fail
        go_ret
        exact ⟨_, rfl, fun h => by simp at h, HB.out⟩
def exB : List Bl := [⟨7, 0, 0, [], none, 0⟩, ⟨8, 9, 0, [], none, 0⟩]
theorem exB_choose : choose exB 10 5 1000 = [7] := by
  have h1 : goneL 10 5 exB = [7] := by decide
  have h2 : othL 10 5 exB = [⟨8, 9, (bkBytes 8 9 0 []).length⟩] := by
    unfold othL exB
    rw [List.filter_cons_of_neg (by decide), List.filter_cons_of_pos (by decide)]
    rfl
  unfold choose
  rw [h1, h2, letGo_stop (by simp)]
  rfl
set_option maxHeartbeats 4000000 in
theorem alive20_calls (w : World) : Calls Try.prog 41 #[] w fun e w' => e = .returned (.bool true) ∧ Below w.heap.size w w' := by
  have hB0 := (Below.refl w.heap.size w).alloc (Nat.le_refl _) (.cells #[.int .i64 7, .int .i64 0, .int .i64 0, .slice none 0 0, .int .i64 8, .int .i64 9, .int .i64 0, .slice none 0 0] 24)
  have C1 := Lib.hid (choose_any (some ⟨w.heap.size, 0, none⟩) 2 2 (w.heap.size + 1) exB 10 5 1000 (w.alloc (.cells #[.int .i64 7, .int .i64 0, .int .i64 0, .slice none 0 0, .int .i64 8, .int .i64 9, .int .i64 0, .slice none 0 0] 24)) rfl ⟨Rd.lit w #[.int .i64 7, .int .i64 0, .int .i64 0, .slice none 0 0, .int .i64 8, .int .i64 9, .int .i64 0, .slice none 0 0] 24, fun x hx => by
    simp only [exB, List.mem_cons, List.not_mem_nil, or_false] at hx
    rcases hx with rfl | rfl <;> exact RdEps.nil⟩ (by simp) (by omega) (fun x hx => by
    simp only [exB, List.mem_cons, List.not_mem_nil, or_false] at hx
    rcases hx with rfl | rfl <;> exact ⟨by simp, fun e he => by cases he⟩) (fun x hx => by
    simp only [exB, List.mem_cons, List.not_mem_nil, or_false] at hx
    rcases hx with rfl | rfl <;> exact ⟨by simp, by simp, by simp, by simp [maxLen], fun e he => by cases he⟩) (by omega))
  rw [exB_choose] at C1
  have C2 := Lib.hid (fun W => choose_any none 0 0 0 [] 0 0 0 W rfl RdBls.nil (Nat.zero_le _) (by omega) (fun x hx => by cases hx) (fun x hx => by cases hx) (by omega))
  have HE : Hid (choose [] 0 0 0 = []) := Lib.hid rfl
  rw [HE.out] at C2
  have HB0 := Lib.hid hB0
  clear hB0
  go_enter Try.func41, Try.ntmps41
  go_wp2_with fail
  refine C1.out.mono ?_
  rintro e w1 ⟨v1, rfl, ho1, hb1⟩
  obtain ⟨A1, c1, rfl, _, hr1⟩ := own_rd ho1
  obtain ⟨a1, rfl, _, hc1⟩ := hr1 (by simp)
  have hx1 := hc1 0 _ rfl
  have e0 : a1.add 0 = a1 := by
    cases a1 with
    | mk b o x => cases x <;> simp [Addr.add]
  rw [e0] at hx1
  have hlt := cell_lt hx1
  have HX1 := Lib.hid hx1
  have HB1 := Lib.hid (HB0.out.trans (hb1.mono HB0.out.size))
  clear C1 ho1 hb1 hr1 hc1 hx1
  simp only [List.length_cons, List.length_nil]
  go_wp2_with (go_at_call 42; (with_reducible refine (C2.out _).mono ?_); rintro e w2 ⟨v2, rfl, ho2, hb2⟩; obtain ⟨A2, c2, hv2, _, _⟩ := own_rd ho2; subst hv2; have hx2 : w2.cell? a1 = some (.int .i64 7) := (hb2.cell hlt).trans HX1.out; have HB2 := Lib.hid (HB1.out.trans (hb2.mono HB1.out.size)); clear ho2 hb2)
  go_ret
  exact ⟨rfl, HB2.out⟩
end Go.Proofs.Ytchcjbapbdfhkaa
