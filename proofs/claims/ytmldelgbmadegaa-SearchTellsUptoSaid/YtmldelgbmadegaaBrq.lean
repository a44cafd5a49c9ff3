/- Whether blocks are few and small enough. -/
import Derived.Test.YtmldelgbmadegaaBqaz
import Derived.Test.YtmldelgbmadegaaFe
namespace Go.Proofs.Ytmldelgbmadegaa
open Go.RowKit Go.Maps
set_option linter.unusedVariables false
set_option linter.unusedSimpArgs false
set_option maxRecDepth 100000

def GoodBls (l : List Bl) : Prop := l.length ≤ 12 ∧ GoodEps (l.flatMap Bl.l)
theorem GoodBls.each {l : List Bl} (h : GoodBls l) : ∀ x ∈ l, x.l.length ≤ 120 ∧ ∀ e ∈ x.l, e.l.length ≤ 60 := fun x hx => by
  have h1 : ∀ e ∈ x.l, e ∈ l.flatMap Bl.l := fun e he => List.mem_flatMap.2 ⟨x, hx, he⟩
  refine ⟨?_, fun e he => fewAll_len (h.2.2 e (h1 e he))⟩
  have h2 : ∀ (l : List Bl), x ∈ l → x.l.length ≤ (l.flatMap Bl.l).length := fun l => by
    induction l with
    | nil => intro h; cases h
    | cons y r ih =>
      intro h
      rw [List.flatMap_cons, List.length_append]
      rcases List.mem_cons.1 h with e | e
      · subst e; omega
      · have := ih e; omega
  exact Nat.le_trans (h2 l hx) h.2.1
def FewBl (l : List Bl) (w : World) (e : Ending) (w' : World) : Prop := ∃ b : Bool, e = .returned (.bool b) ∧ (b = true → GoodBls l) ∧ Below w.heap.size w w'
theorem flatBl_step {l : List Bl} {k : Nat} {x : Bl} (h : l[k]? = some x) : (l.take (k + 1)).flatMap Bl.l = (l.take k).flatMap Bl.l ++ x.l := by
  rw [List.take_add_one, h, List.flatMap_append]
  simp
set_option maxHeartbeats 8000000 in
theorem few19_any (A : Option Addr) (l : List Bl) (n c B : Nat) (w : World) (hn : n = l.length) (hy : RdBls w B A l) (hok : ∀ x ∈ l, x.ok) (hB : B ≤ w.heap.size) (hb : ∀ x ∈ l, x.l.length ≤ 1048576) :
    Calls Try.prog 36 #[.slice A n c] w (FewBl l w) := by
  obtain ⟨i0, hi, hz0, hz1, hz2⟩ := info_parts infoEp
  have HN := Lib.hid hn
  have HY := Lib.hid hy
  have HK := Lib.hid hok
  have HBB := Lib.hid hb
  clear hn hy hok hb
  go_enter Try.func36, Try.ntmps36
  go_wp2_with fail
  go_loopw [4, 3] (fun iv v wr => ∃ k : Nat, iv = .int .i64 (k : Int) ∧ k ≤ n ∧ k ≤ 20 ∧ Hid (((l.take k).flatMap Bl.l).length ≤ 1048576 * k) ∧ Hid (wr.ownsRow w.heap.size 48 6 v ((l.take k).flatMap Bl.l).length (((l.take k).flatMap Bl.l).flatMap Le.cells)) ∧ Hid (Below w.heap.size w wr)) (fun iv _ _ => n - (intOf iv).toNat)
  case atStart => exact ⟨0, rfl, Nat.zero_le _, Nat.zero_le _, Lib.hid (by simp), Lib.hid (World.ownsRow_nil _ _ _ _), Lib.hid (Below.refl _ _)⟩
  case round =>
    obtain ⟨k, rfl, hk, hk20, HL, HO, HB⟩ := hrel
    by_cases hlt : k < n
    · have d0 : decide ((k : Int) < (n : Int)) = true := decide_eq_true (by omega)
      by_cases hlt2 : k < 20
      · have d1 : decide ((k : Int) < 20) = true := decide_eq_true (by omega)
        have d2 : decide (k < 20) = true := decide_eq_true hlt2
        obtain ⟨x, hx⟩ : ∃ x, l[k]? = some x := ⟨_, List.getElem?_eq_getElem (by rw [← HN.out]; exact hlt)⟩
        have hR := HY.out.below (HB.out.mono hB)
        have hbx := HBB.out x (List.mem_of_getElem? hx)
        have hst := flatBl_step hx
        obtain ⟨nu, bo, ti, es, eA, ec⟩ := x
        obtain ⟨m, hm⟩ : ∃ m, m = es.length := ⟨_, rfl⟩
        obtain ⟨a, ha, hab, c0, c1, c2, c3, hre⟩ := blcells hR hx m hm
        subst ha
        simp only at hbx hst
        have HST := Lib.hid hst
        have hlen : ((l.take k).flatMap Bl.l).length ≤ 1048576 * 20 := Nat.le_trans HL.out (Nat.mul_le_mul_left _ (by omega))
        have APP := Lib.hid (fun ty => run_append_rd (P := Try.prog) wr w.heap.size 22 ty 48 i0 _ 6 64 Try.underlying22 hi hz0 hz1 hz2 rfl _ _ _ HO.out B eA m ec (es.flatMap Le.cells) (by rw [flatMap_len _ 6 ecells_len, hm]) hre.rd (ecells_one es) (by unfold maxLen; omega) (by omega) HB.out.size)
        have HM := Lib.hid hm
        clear hx hR hst hre hlen hm
        go_wp2_with (at_builtin; (refine wpList_app rfl (.tmp 15) (.tmp 20) _ _ rfl rfl rfl (APP.out _) ?_); rintro v5 w5 ⟨ho5, hg5⟩; have HO5 := Lib.hid ho5; have HB5 := Lib.hid (hg5.below HB.out HB.out.size (own_block_ge HO.out)); clear ho5 hg5)
        go_roundw
        case rel => exact ⟨k + 1, by go_num, by omega, by omega, Lib.hid (by rw [HST.out, List.length_append]; have := HL.out; have := HM.out; omega), Lib.hid (by rw [HST.out, List.length_append, List.flatMap_append, ← HM.out]; exact HO5.out), HB5⟩
        case measure => simp [intOf]; omega
      · have d1 : decide ((k : Int) < 20) = false := decide_eq_false (by omega)
        have d2 : decide (k < 20) = false := decide_eq_false hlt2
        have d3 : decide ((n : Int) ≤ 12) = false := decide_eq_false (by omega)
        have d4 : decide (n ≤ 12) = false := decide_eq_false (by omega)
        go_wp2_with fail
        go_ret
        exact ⟨_, rfl, fun h => by simp at h, HB.out⟩
    · obtain rfl : k = n := by omega
      have d0 : decide ((k : Int) < (k : Int)) = false := decide_eq_false (by omega)
      by_cases h12 : k ≤ 12
      · have d3 : decide ((k : Int) ≤ 12) = true := decide_eq_true (by omega)
        have d4 : decide (k ≤ 12) = true := decide_eq_true h12
        have htk : l.take k = l := List.take_of_length_le (by rw [← HN.out]; exact Nat.le_refl _)
        rw [htk] at HO HL
        obtain ⟨Av, cv, hv, hcv, hrd⟩ := own_rd HO.out
        obtain ⟨q, hq⟩ : ∃ q, q = (l.flatMap Bl.l).length := ⟨_, rfl⟩
        rw [← hq] at hv
        subst hv
        have F5 := Lib.hid (few15_any Av (l.flatMap Bl.l) q cv wr.heap.size wr hq ⟨hrd, fun e he => by
          obtain ⟨x, hx, hex⟩ := List.mem_flatMap.1 he
          exact ((((HY.out.below (HB.out.mono hB)).each x hx).each e hex)).more (Nat.le_trans hB HB.out.size)⟩ (fun e he => by
          obtain ⟨x, hx, hex⟩ := List.mem_flatMap.1 he
          exact (HK.out x hx).eps e hex) (Nat.le_refl _) (by have := HL.out; have h2 : 1048576 * k ≤ 1048576 * 12 := Nat.mul_le_mul_left _ h12; unfold maxLen; omega))
        clear hrd htk hq
        go_wp2_with fail
        refine F5.out.mono ?_
        rintro e w5 ⟨b, rfl, hg, hb5⟩
        have HG5 := Lib.hid hg
        have HB5 := Lib.hid (HB.out.trans (hb5.mono HB.out.size))
        clear hg hb5
        cases b
        · go_wp2_with fail
          go_ret
          exact ⟨_, rfl, fun h => (Bool.noConfusion h), HB5.out⟩
        · go_wp2_with fail
          go_ret
          exact ⟨_, rfl, fun h => ⟨by rw [← HN.out]; exact h12, HG5.out (by first | rfl | trivial)⟩, HB5.out⟩
      · have d3 : decide ((k : Int) ≤ 12) = false := decide_eq_false (by omega)
        have d4 : decide (k ≤ 12) = false := decide_eq_false h12
        go_wp2_with fail
        go_ret
        exact ⟨_, rfl, fun h => by simp at h, HB.out⟩
end Go.Proofs.Ytmldelgbmadegaa
