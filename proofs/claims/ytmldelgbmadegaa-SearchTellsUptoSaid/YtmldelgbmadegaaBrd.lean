/- Rows of traces: append, slices.Clone. -/
import Derived.Test.YtmldelgbmadegaaBrc
namespace Go.Proofs.Ytmldelgbmadegaa
open Go.RowKit
set_option linter.unusedVariables false
set_option linter.unusedSimpArgs false
set_option maxRecDepth 100000

theorem infoTr : (Try.prog.info? 28).map (fun i => (i.zero, i.size, i.bytes)) = some (some (.agg #[.int .u64 0, .int .u64 0]), 2, 16) := by kernel_rfl
/-- One trace more. -/
theorem appTr {w : World} {base n : Nat} {v : Value} {xs : List Value} {ty : TypeId} (h : w.ownsRow base 28 2 v n xs) (y : Tc) (cs : Array Value) (hcs : cs = #[.int .u64 y.1, .int .u64 y.2]) (hn : n ≤ 1000000) (hbase : base ≤ w.heap.size) :
    ∃ v' w', (Builtin.append_ #[76, 76] ty #[v, .slice (some ⟨w.heap.size, 0, none⟩) 1 1]).run Try.prog (w.alloc (.cells cs 28)) = .ok v' w' ∧ (w'.ownsRow base 28 2 v' (n + 1) (xs ++ trC y) ∧ Grew w w' v v') := by
  subst hcs
  obtain ⟨i0, hi, hz0, hz1, hz2⟩ := info_parts infoTr
  have hq := heap_alloc_new w (.cells #[.int .u64 y.1, .int .u64 y.2] 28)
  obtain ⟨v', w', r1, r2, r3⟩ := run_append_rd (P := Try.prog) (w.alloc (.cells #[.int .u64 y.1, .int .u64 y.2] 28)) base 76 ty 28 i0 _ 2 16 Try.underlying76 hi hz0 hz1 hz2 rfl v n xs (own_below h ((Below.refl w.heap.size w).alloc (Nat.le_refl _) _)) (w.heap.size + 1) (some ⟨w.heap.size, 0, none⟩) 1 1 [.int .u64 y.1, .int .u64 y.2] rfl
    (fun _ => ⟨_, rfl, Nat.lt_succ_self _, fun j u hu => by
      rw [Addr.add_lit, Nat.zero_add, cell_of_row _ w.heap.size j _ _ (0, 0) hq]
      simpa using hu⟩) (trc_one1 y) (by unfold maxLen; omega) (by omega) (by simp; omega)
  exact ⟨v', w', r1, r2, r3.alloc⟩
set_option maxHeartbeats 1000000 in
theorem trclone_any (A : Option Addr) (l : List Tc) (n c B : Nat) (w : World) (hn : n = l.length) (hb : Rd w B A (l.flatMap trC)) (hB : B ≤ w.heap.size) (hl : n ≤ 1000000) :
    Calls Try.prog 84 #[.slice A n c] w fun e w' => ∃ v', e = .returned v' ∧ w'.ownsRow w.heap.size 28 2 v' n (l.flatMap trC) ∧ Below w.heap.size w w' := by
  obtain ⟨i0, hi, hz0, hz1, hz2⟩ := info_parts infoTr
  have heq := fun (W : World) (A' : Option Addr) (n' c' : Nat) => Lib.run_eql_slice_nil (P := Try.prog) W 76 28 A' n' c' 0 0 Try.underlying76
  have hfl : (l.flatMap trC).length = n * 2 := by rw [flatMap_len _ 2 trc_len, hn]
  rcases A with _ | a
  · have h0 : l = [] := by
      rcases l with _ | ⟨x, r⟩
      · rfl
      · obtain ⟨a, h, _⟩ := hb (by rw [hfl, hn]; simp); cases h
    subst h0
    obtain rfl : n = 0 := hn
    go_enter Try.func84, Try.ntmps84
    go_wp2
    go_ret
    exact ⟨_, rfl, World.ownsRow_nil _ _ _ _, Below.refl _ _⟩
  · have HB := Lib.hid hb
    have HL := Lib.hid hfl
    have H1 := Lib.hid (trc_one l)
    clear hb hfl hn
    generalize l.flatMap trC = xs at *
    go_enter Try.func84, Try.ntmps84
    go_wp2_with (at_builtin; refine wpList_app rfl (.tmp 5) (.tmp 6) _ _ rfl rfl rfl (run_append_rd _ w.heap.size _ _ 28 i0 _ 2 16 Try.underlying76 hi hz0 hz1 hz2 rfl (.slice (some ⟨w.heap.size, 0, none⟩) 0 0) 0 [] (World.ownsRow_made w #[] 0 (Nat.le_refl _) (Nat.zero_le _) rfl) B (some a) n c xs HL.out (HB.out.alloc hB _) H1.out (by unfold maxLen; omega) (by omega) (by simp)) ?_; rintro v1 w1 ⟨ho1, hg1⟩)
    go_ret
    have hg2 := hg1.alloc
    exact ⟨v1, rfl, by simpa using ho1, ⟨hg2.grown.os, hg2.grown.tape, hg2.grown.output, hg2.grown.size, fun i hi => hg2.grown.block i hi (by simp [Value.ownBlock]; omega)⟩⟩
end Go.Proofs.Ytmldelgbmadegaa
