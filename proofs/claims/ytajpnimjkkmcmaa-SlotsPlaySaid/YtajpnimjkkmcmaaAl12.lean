/- Chapter 12's example. -/
import Derived.Test.YtajpnimjkkmcmaaZu
namespace Go.Proofs.Ytajpnimjkkmcmaa
open Go.RowKit
set_option linter.unusedVariables false
set_option linter.unusedSimpArgs false
set_option maxRecDepth 100000

theorem putX_nil (e : Ex) : putX e [] = [e] := by
  have h := cntK_le e (insX e []) 1
  unfold putX
  rw [if_neg (by simp only [List.length_nil, Nat.zero_add]; omega)]
  rfl
theorem rd_one {w : World} (e : Ex) : Rd (w.alloc (.cells #[.string e.sv, .string e.op, .int .u64 e.hi, .int .u64 e.lo, .int .u64 e.id, .int .i64 e.bl] 38)) (w.heap.size + 1) (some ⟨w.heap.size, 0, none⟩) ([e].flatMap Ex.cells) := fun _ => by
  refine ⟨_, rfl, Nat.lt_succ_self _, fun j u hu => ?_⟩
  rw [Addr.add_lit, Nat.zero_add, cell_of_row _ w.heap.size j _ _ (0, 0) (heap_alloc_new w _)]
  simpa [Ex.cells] using hu
/-- One put in, as laws write it: a literal row of one. -/
theorem put_one (A : Option Addr) (n c : Nat) (l : List Ex) (e : Ex) (w : World) (hn : n = l.length) (hr : Rd w w.heap.size A (l.flatMap Ex.cells)) (hsm : n ≤ 40000) :
    Calls Try.prog 13 #[.slice A n c, .slice (some ⟨w.heap.size, 0, none⟩) 1 1] (w.alloc (.cells #[.string e.sv, .string e.op, .int .u64 e.hi, .int .u64 e.lo, .int .u64 e.id, .int .i64 e.bl] 38)) fun ex w' => ∃ (A' : Option Addr) (n' c' : Nat), ex = .returned (.slice A' n' c') ∧ n' = (putX e l).length ∧ w'.ownsRow w.heap.size 38 6 (.slice A' n' c') n' ((putX e l).flatMap Ex.cells) ∧ Below w.heap.size w w' := by
  refine (puts_any A (some ⟨w.heap.size, 0, none⟩) n c 1 1 l [e] (w.heap.size + 1) _ hn rfl ((hr.below ((Below.refl w.heap.size w).alloc (Nat.le_refl _) _)).more (Nat.le_succ _)) (rd_one e) (by simp) hsm (by omega)).mono ?_
  rintro ex w' ⟨A', n', c', h1, h2, h3, h4⟩
  exact ⟨A', n', c', h1, h2, own_mono h3 (by simp), ((Below.refl w.heap.size w).alloc (Nat.le_refl _) _).trans (h4.mono (by simp))⟩
set_option maxHeartbeats 4000000 in
theorem alive12_calls (w : World) : Calls Try.prog 12 #[] w fun e w' => e = .returned (.bool true) ∧ Below w.heap.size w w' := by
  have P1 := Lib.hid (put_one none 0 0 [] ⟨⟨#[97]⟩, ⟨#[98]⟩, 0, 0, 4, 0⟩ w rfl Rd.nil (by omega))
  rw [putX_nil] at P1
  have F1 := Lib.hid (fun (W : World) => find_any none 0 0 [] ⟨#[97]⟩ ⟨#[98]⟩ W.heap.size W (fun x => if x.sv = ⟨#[97]⟩ ∧ x.op = ⟨#[98]⟩ then [x] else []) (fun _ => rfl) rfl Rd.nil (Nat.le_refl _) (by omega))
  go_enter Try.func12, Try.ntmps12
  go_upto_region 2 with (go_at_call 13; (with_reducible refine P1.out.mono ?_); rintro ex w1 ⟨A1, n1, c1, rfl, hn1, ho1, hb1⟩; have HN1 := Lib.hid hn1; have HO1 := Lib.hid ho1; have HB1 := Lib.hid hb1; clear hn1 ho1 hb1)
  obtain rfl : n1 = 1 := HN1.out
  obtain ⟨g, rfl, _, hbg, hgw, _, _, _⟩ := own_parts HO1.out (by omega)
  have hc := (own_cells HO1.out 4 (by omega)).2.1
  have hc4 : w1.cell? ⟨g, 4, none⟩ = some (.int .u64 4) := hc
  clear hc
  go_wp2_with (go_at_call 20; (with_reducible refine (F1.out _).mono ?_); rintro ex w2 ⟨A2, n2, c2, rfl, hn2, ho2, hb2⟩; have hn2' : n2 = 0 := hn2; subst hn2'; have hc5 : w2.cell? ⟨g, 4, none⟩ = some (.int .u64 4) := (hb2.cell (p := ⟨g, 4, none⟩) hgw).trans hc4; have HB2 := Lib.hid (HB1.out.trans (hb2.mono HB1.out.size)); clear hn2 ho2 hb2)
  go_ret
  exact ⟨rfl, HB2.out⟩
end Go.Proofs.Ytajpnimjkkmcmaa
