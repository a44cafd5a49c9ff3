/- rule.Read: a policy read from bytes, whatever they are. -/
import Derived.Test.YtajpnimjkkmcmaaGe
import Derived.Test.YtajpnimjkkmcmaaRp
namespace Go.Proofs.Ytajpnimjkkmcmaa
open Go.RowKit
set_option linter.unusedVariables false
set_option linter.unusedSimpArgs false
set_option maxRecDepth 100000

/-- Are these bytes a policy, as the code reads it? -/
def reads (l : List UInt8) : Bool := (!(Rm.rul 5 (l, false)).2.2 && decide ((Rm.rul 5 (l, false)).2.1.length = 0)) && (Rm.rul 5 (l, false)).1.right
def readT (l : List UInt8) : Rt := if reads l then (Rm.rul 5 (l, false)).1 else .mk 0 0 ⟨#[]⟩ ⟨#[]⟩ []
def readE (l : List UInt8) : Int := if reads l then 0 else 2
set_option maxHeartbeats 16000000 in
theorem read_any (A : Option Addr) (l : List UInt8) (n c B : Nat) (W : World) (hn : n = l.length) (hr : Rd W B A (l.map B8)) (hB : B ≤ W.heap.size) (hnc : n ≤ c) (hcm : c ≤ maxLen) (hl : l.length ≤ 1000) :
    Calls Try.prog 25 #[.slice A n c] W fun e w' => ∃ cs, e = .returned (.tuple #[.agg cs.toArray, .int .i64 (readE l)]) ∧ RdR w' w'.heap.size (readT l) cs ∧ Below W.heap.size W w' := by
  have hz1 : (W.alloc (.cells #[.int .i64 0, .int .i64 0, .string ⟨#[]⟩, .string ⟨#[]⟩, .slice none 0 0] 43)).heap.size = W.heap.size + 1 := by simp
  have hz2 : ((W.alloc (.cells #[.int .i64 0, .int .i64 0, .string ⟨#[]⟩, .string ⟨#[]⟩, .slice none 0 0] 43)).alloc (.cells #[.slice A n c, .bool false] 71)).heap.size = W.heap.size + 2 := by simp
  have hB2 : Below W.heap.size W ((W.alloc (.cells #[.int .i64 0, .int .i64 0, .string ⟨#[]⟩, .string ⟨#[]⟩, .slice none 0 0] 43)).alloc (.cells #[.slice A n c, .bool false] 71)) := ((Below.refl _ _).alloc (Nat.le_refl _) _).alloc (by simp) _
  have hq0 : ((W.alloc (.cells #[.int .i64 0, .int .i64 0, .string ⟨#[]⟩, .string ⟨#[]⟩, .slice none 0 0] 43)).alloc (.cells #[.slice A n c, .bool false] 71)).heap[W.heap.size]? = some (.cells #[.int .i64 0, .int .i64 0, .string ⟨#[]⟩, .string ⟨#[]⟩, .slice none 0 0] 43) := (heap_alloc_old _ _ (by omega)).trans (heap_alloc_new W _)
  have hq1 : ((W.alloc (.cells #[.int .i64 0, .int .i64 0, .string ⟨#[]⟩, .string ⟨#[]⟩, .slice none 0 0] 43)).alloc (.cells #[.slice A n c, .bool false] 71)).heap[W.heap.size + 1]? = some (.cells #[.slice A n c, .bool false] 71) := by rw [← hz1]; exact heap_alloc_new _ _
  have hst : RSt ((W.alloc (.cells #[.int .i64 0, .int .i64 0, .string ⟨#[]⟩, .string ⟨#[]⟩, .slice none 0 0] 43)).alloc (.cells #[.slice A n c, .bool false] 71)) W.heap.size (W.heap.size + 1) (l, false) := ⟨⟨A, n, c, hq1, hn, (hr.more hB).below hB2, hnc, by omega, hcm⟩, by omega⟩
  have HGE := Lib.hid (show Calls Try.prog 43 #[.pointer (some ⟨W.heap.size + 1, 0, none⟩), .int .i64 1] ((W.alloc (.cells #[.int .i64 0, .int .i64 0, .string ⟨#[]⟩, .string ⟨#[]⟩, .slice none 0 0] 43)).alloc (.cells #[.slice A n c, .bool false] 71)) _ from get_rec (W.heap.size + 1) W.heap.size 5 (l, false) ((W.alloc (.cells #[.int .i64 0, .int .i64 0, .string ⟨#[]⟩, .string ⟨#[]⟩, .slice none 0 0] 43)).alloc (.cells #[.slice A n c, .bool false] 71)) (by omega) hst (by omega) hl)
  have HB2 := Lib.hid hB2
  have HQ0 := Lib.hid hq0
  have HZ2 := Lib.hid hz2
  have HR : Hid (reads l = ((!(Rm.rul 5 (l, false)).2.2 && decide ((Rm.rul 5 (l, false)).2.1.length = 0)) && (Rm.rul 5 (l, false)).1.right)) := rfl
  have HT : Hid (readT l = if reads l then (Rm.rul 5 (l, false)).1 else .mk 0 0 ⟨#[]⟩ ⟨#[]⟩ []) := rfl
  have HE : Hid (readE l = if reads l then 0 else 2) := rfl
  generalize readT l = tt at *
  generalize readE l = ee at *
  generalize reads l = rr at *
  generalize hRR : Rm.rul 5 (l, false) = RR at *
  obtain ⟨t, r'⟩ := RR
  clear hRR hz1 hz2 hB2 hq0 hq1 hst hr hn hl hcm hnc
  go_enter Try.func25, Try.ntmps25
  go_wp2_with fail
  refine HGE.out.mono ?_
  rintro e w3 ⟨cs, rfl, hp3, hr3, hg3⟩
  obtain ⟨k, q, y, v, kA, m, kc, rfl⟩ := hp3.inv
  have HP3 := Lib.hid (hp3.imp (Q := fun b => W.heap.size + 2 ≤ b ∧ b < w3.heap.size) fun b hb => ⟨by have := hb.1; have := HZ2.out; omega, hb.2⟩)
  have HG3 := Lib.hid hg3
  have hs3 : W.heap.size + 2 ≤ w3.heap.size := by have := hg3.size; have := HZ2.out; omega
  have HZR : Hid (w3.heap[W.heap.size]? = some (.cells #[.int .i64 0, .int .i64 0, .string ⟨#[]⟩, .string ⟨#[]⟩, .slice none 0 0] 43)) := Lib.hid ((hg3.block _ (by rw [HZ2.out]; omega) (by intro e; injection e with e; omega)).trans HQ0.out)
  have HBW3 : Hid (Below W.heap.size W w3) := Lib.hid (HB2.out.trans ⟨hg3.os, hg3.tape, hg3.output, hg3.size, fun b hb => hg3.block b (by rw [HZ2.out]; omega) (by intro e; injection e with e; omega)⟩)
  simp only [rcs]
  have hb4 := (Below.refl w3.heap.size w3).alloc (Nat.le_refl _) (.cells #[.int .i64 k, .int .i64 q, .string y, .string v, .slice kA m kc] 43)
  have HR4 := Lib.hid (hr3.below hb4 hr3.at_)
  have HDN := Lib.hid (done_any (W.heap.size + 1) W.heap.size r' (w3.alloc (.cells #[.int .i64 k, .int .i64 q, .string y, .string v, .slice kA m kc] 43)) HR4.out)
  have HP4 : Hid (RdP (w3.alloc (.cells #[.int .i64 k, .int .i64 q, .string y, .string v, .slice kA m kc] 43)) (fun b => W.heap.size + 2 ≤ b ∧ b < w3.heap.size) t (rcs k q y v kA m kc)) := Lib.hid (HP3.out.heap fun b hb => hb4.block b hb.2)
  have HRI := Lib.hid (right_all (B := w3.heap.size) (HP4.out.toR fun b hb => hb.2) (w3.alloc (.cells #[.int .i64 k, .int .i64 q, .string y, .string v, .slice kA m kc] 43)) (Below.refl _ _) (by simp))
  have HZ4 := Lib.hid ((hb4.block W.heap.size (by omega)).trans HZR.out)
  have HX4 := Lib.hid (heap_alloc_new w3 (.cells #[.int .i64 k, .int .i64 q, .string y, .string v, .slice kA m kc] 43))
  have HB4 := Lib.hid (HBW3.out.alloc (by omega) (.cells #[.int .i64 k, .int .i64 q, .string y, .string v, .slice kA m kc] 43))
  have hs4 : w3.heap.size < (w3.alloc (.cells #[.int .i64 k, .int .i64 q, .string y, .string v, .slice kA m kc] 43)).heap.size := by simp
  simp only [rcs] at HRI
  clear hp3 hr3 hg3 hb4
  obtain ⟨dn, hdn⟩ : ∃ dn, (!r'.2 && decide (r'.1.length = 0)) = dn := ⟨_, rfl⟩
  simp only [hdn] at HR HDN
  clear hdn
  cases dn
  · have HEE : Hid (tt = .mk 0 0 ⟨#[]⟩ ⟨#[]⟩ [] ∧ ee = 2) := Lib.hid (by
      have h := HR.out
      simp at h
      rw [HT.out, HE.out, h]
      simp)
    have HBW := HB4
    have c0 : (w3.alloc (.cells #[.int .i64 k, .int .i64 q, .string y, .string v, .slice kA m kc] 43)).cell? ⟨W.heap.size, 0, none⟩ = some (.int .i64 0) := cell_of_row _ _ 0 _ _ (0, 0) HZ4.out
    have c1 : (w3.alloc (.cells #[.int .i64 k, .int .i64 q, .string y, .string v, .slice kA m kc] 43)).cell? ⟨W.heap.size, 1, none⟩ = some (.int .i64 0) := cell_of_row _ _ 1 _ _ (0, 0) HZ4.out
    have c2 : (w3.alloc (.cells #[.int .i64 k, .int .i64 q, .string y, .string v, .slice kA m kc] 43)).cell? ⟨W.heap.size, 2, none⟩ = some (.string ⟨#[]⟩) := cell_of_row _ _ 2 _ _ (0, 0) HZ4.out
    have c3 : (w3.alloc (.cells #[.int .i64 k, .int .i64 q, .string y, .string v, .slice kA m kc] 43)).cell? ⟨W.heap.size, 3, none⟩ = some (.string ⟨#[]⟩) := cell_of_row _ _ 3 _ _ (0, 0) HZ4.out
    have c4 : (w3.alloc (.cells #[.int .i64 k, .int .i64 q, .string y, .string v, .slice kA m kc] 43)).cell? ⟨W.heap.size, 4, none⟩ = some (.slice none 0 0) := cell_of_row _ _ 4 _ _ (0, 0) HZ4.out
    have cf0 : (w3.alloc (.cells #[.int .i64 k, .int .i64 q, .string y, .string v, .slice kA m kc] 43)).frozen? ⟨W.heap.size, 0, none⟩ = false := frz HZ4.out
    have cf1 : (w3.alloc (.cells #[.int .i64 k, .int .i64 q, .string y, .string v, .slice kA m kc] 43)).frozen? ⟨W.heap.size, 1, none⟩ = false := frz HZ4.out
    have cf2 : (w3.alloc (.cells #[.int .i64 k, .int .i64 q, .string y, .string v, .slice kA m kc] 43)).frozen? ⟨W.heap.size, 2, none⟩ = false := frz HZ4.out
    have cf3 : (w3.alloc (.cells #[.int .i64 k, .int .i64 q, .string y, .string v, .slice kA m kc] 43)).frozen? ⟨W.heap.size, 3, none⟩ = false := frz HZ4.out
    have cf4 : (w3.alloc (.cells #[.int .i64 k, .int .i64 q, .string y, .string v, .slice kA m kc] 43)).frozen? ⟨W.heap.size, 4, none⟩ = false := frz HZ4.out
    have e0 : w3.cell? ⟨W.heap.size, 0, none⟩ = some (.int .i64 0) := cell_of_row _ _ 0 _ _ (0, 0) HZR.out
    have e1 : w3.cell? ⟨W.heap.size, 1, none⟩ = some (.int .i64 0) := cell_of_row _ _ 1 _ _ (0, 0) HZR.out
    have e2 : w3.cell? ⟨W.heap.size, 2, none⟩ = some (.string ⟨#[]⟩) := cell_of_row _ _ 2 _ _ (0, 0) HZR.out
    have e3 : w3.cell? ⟨W.heap.size, 3, none⟩ = some (.string ⟨#[]⟩) := cell_of_row _ _ 3 _ _ (0, 0) HZR.out
    have e4 : w3.cell? ⟨W.heap.size, 4, none⟩ = some (.slice none 0 0) := cell_of_row _ _ 4 _ _ (0, 0) HZR.out
    have ef0 : w3.frozen? ⟨W.heap.size, 0, none⟩ = false := frz HZR.out
    have ef1 : w3.frozen? ⟨W.heap.size, 1, none⟩ = false := frz HZR.out
    have ef2 : w3.frozen? ⟨W.heap.size, 2, none⟩ = false := frz HZR.out
    have ef3 : w3.frozen? ⟨W.heap.size, 3, none⟩ = false := frz HZR.out
    have ef4 : w3.frozen? ⟨W.heap.size, 4, none⟩ = false := frz HZR.out
    go_wp2_with (go_at_call 44; (with_reducible refine (HDN.out).mono ?_); rintro e w5 ⟨rfl, rfl⟩)
    have hrw : ((((((w3.alloc (.cells #[.int .i64 k, .int .i64 q, .string y, .string v, .slice kA m kc] 43)).setCell ⟨W.heap.size, 0, none⟩ (.int .i64 0)).setCell ⟨W.heap.size, 1, none⟩ (.int .i64 0)).setCell ⟨W.heap.size, 2, none⟩ (.string ⟨#[]⟩)).setCell ⟨W.heap.size, 3, none⟩ (.string ⟨#[]⟩)).setCell ⟨W.heap.size, 4, none⟩ (.slice none 0 0)).heap[W.heap.size]? = some (.cells #[.int .i64 0, .int .i64 0, .string ⟨#[]⟩, .string ⟨#[]⟩, .slice none 0 0] 43) := heap_setCell_same _ _ 4 _ _ _ (heap_setCell_same _ _ 3 _ _ _ (heap_setCell_same _ _ 2 _ _ _ (heap_setCell_same _ _ 1 _ _ _ (heap_setCell_same _ _ 0 _ _ _ HZ4.out))))
    have hBS : Below W.heap.size W ((((((w3.alloc (.cells #[.int .i64 k, .int .i64 q, .string y, .string v, .slice kA m kc] 43)).setCell ⟨W.heap.size, 0, none⟩ (.int .i64 0)).setCell ⟨W.heap.size, 1, none⟩ (.int .i64 0)).setCell ⟨W.heap.size, 2, none⟩ (.string ⟨#[]⟩)).setCell ⟨W.heap.size, 3, none⟩ (.string ⟨#[]⟩)).setCell ⟨W.heap.size, 4, none⟩ (.slice none 0 0)) := (((((HBW.out.setCell (p := ⟨W.heap.size, 0, none⟩) (Nat.le_refl _) _).setCell (p := ⟨W.heap.size, 1, none⟩) (Nat.le_refl _) _).setCell (p := ⟨W.heap.size, 2, none⟩) (Nat.le_refl _) _).setCell (p := ⟨W.heap.size, 3, none⟩) (Nat.le_refl _) _).setCell (p := ⟨W.heap.size, 4, none⟩) (Nat.le_refl _) _)
    have hsame : ∀ b, b ≠ W.heap.size → ((((((w3.alloc (.cells #[.int .i64 k, .int .i64 q, .string y, .string v, .slice kA m kc] 43)).setCell ⟨W.heap.size, 0, none⟩ (.int .i64 0)).setCell ⟨W.heap.size, 1, none⟩ (.int .i64 0)).setCell ⟨W.heap.size, 2, none⟩ (.string ⟨#[]⟩)).setCell ⟨W.heap.size, 3, none⟩ (.string ⟨#[]⟩)).setCell ⟨W.heap.size, 4, none⟩ (.slice none 0 0)).heap[b]? = (w3.alloc (.cells #[.int .i64 k, .int .i64 q, .string y, .string v, .slice kA m kc] 43)).heap[b]? := fun b hb => (Below.heap_setCell _ _ _ _ (by simpa using hb)).trans ((Below.heap_setCell _ _ _ _ (by simpa using hb)).trans ((Below.heap_setCell _ _ _ _ (by simpa using hb)).trans ((Below.heap_setCell _ _ _ _ (by simpa using hb)).trans (Below.heap_setCell _ _ _ _ (by simpa using hb)))))
    have hsz : ((((((w3.alloc (.cells #[.int .i64 k, .int .i64 q, .string y, .string v, .slice kA m kc] 43)).setCell ⟨W.heap.size, 0, none⟩ (.int .i64 0)).setCell ⟨W.heap.size, 1, none⟩ (.int .i64 0)).setCell ⟨W.heap.size, 2, none⟩ (.string ⟨#[]⟩)).setCell ⟨W.heap.size, 3, none⟩ (.string ⟨#[]⟩)).setCell ⟨W.heap.size, 4, none⟩ (.slice none 0 0)).heap.size = (w3.alloc (.cells #[.int .i64 k, .int .i64 q, .string y, .string v, .slice kA m kc] 43)).heap.size := by simp
    have z0 : ((((((w3.alloc (.cells #[.int .i64 k, .int .i64 q, .string y, .string v, .slice kA m kc] 43)).setCell ⟨W.heap.size, 0, none⟩ (.int .i64 0)).setCell ⟨W.heap.size, 1, none⟩ (.int .i64 0)).setCell ⟨W.heap.size, 2, none⟩ (.string ⟨#[]⟩)).setCell ⟨W.heap.size, 3, none⟩ (.string ⟨#[]⟩)).setCell ⟨W.heap.size, 4, none⟩ (.slice none 0 0)).cell? ⟨W.heap.size, 0, none⟩ = some (.int .i64 0) := cell_of_row _ _ 0 _ _ (0, 0) hrw
    have z1 : ((((((w3.alloc (.cells #[.int .i64 k, .int .i64 q, .string y, .string v, .slice kA m kc] 43)).setCell ⟨W.heap.size, 0, none⟩ (.int .i64 0)).setCell ⟨W.heap.size, 1, none⟩ (.int .i64 0)).setCell ⟨W.heap.size, 2, none⟩ (.string ⟨#[]⟩)).setCell ⟨W.heap.size, 3, none⟩ (.string ⟨#[]⟩)).setCell ⟨W.heap.size, 4, none⟩ (.slice none 0 0)).cell? ⟨W.heap.size, 1, none⟩ = some (.int .i64 0) := cell_of_row _ _ 1 _ _ (0, 0) hrw
    have z2 : ((((((w3.alloc (.cells #[.int .i64 k, .int .i64 q, .string y, .string v, .slice kA m kc] 43)).setCell ⟨W.heap.size, 0, none⟩ (.int .i64 0)).setCell ⟨W.heap.size, 1, none⟩ (.int .i64 0)).setCell ⟨W.heap.size, 2, none⟩ (.string ⟨#[]⟩)).setCell ⟨W.heap.size, 3, none⟩ (.string ⟨#[]⟩)).setCell ⟨W.heap.size, 4, none⟩ (.slice none 0 0)).cell? ⟨W.heap.size, 2, none⟩ = some (.string ⟨#[]⟩) := cell_of_row _ _ 2 _ _ (0, 0) hrw
    have z3 : ((((((w3.alloc (.cells #[.int .i64 k, .int .i64 q, .string y, .string v, .slice kA m kc] 43)).setCell ⟨W.heap.size, 0, none⟩ (.int .i64 0)).setCell ⟨W.heap.size, 1, none⟩ (.int .i64 0)).setCell ⟨W.heap.size, 2, none⟩ (.string ⟨#[]⟩)).setCell ⟨W.heap.size, 3, none⟩ (.string ⟨#[]⟩)).setCell ⟨W.heap.size, 4, none⟩ (.slice none 0 0)).cell? ⟨W.heap.size, 3, none⟩ = some (.string ⟨#[]⟩) := cell_of_row _ _ 3 _ _ (0, 0) hrw
    have z4 : ((((((w3.alloc (.cells #[.int .i64 k, .int .i64 q, .string y, .string v, .slice kA m kc] 43)).setCell ⟨W.heap.size, 0, none⟩ (.int .i64 0)).setCell ⟨W.heap.size, 1, none⟩ (.int .i64 0)).setCell ⟨W.heap.size, 2, none⟩ (.string ⟨#[]⟩)).setCell ⟨W.heap.size, 3, none⟩ (.string ⟨#[]⟩)).setCell ⟨W.heap.size, 4, none⟩ (.slice none 0 0)).cell? ⟨W.heap.size, 4, none⟩ = some (.slice none 0 0) := cell_of_row _ _ 4 _ _ (0, 0) hrw
    refine bodyPost_ret (v := .tuple #[.agg #[.int .i64 0, .int .i64 0, .string ⟨#[]⟩, .string ⟨#[]⟩, .slice none 0 0], .int .i64 2]) (by simp [results, Try.results25, go_sem, z0, z1, z2, z3, z4]) rfl ?_
    exact ⟨[.int .i64 0, .int .i64 0, .string ⟨#[]⟩, .string ⟨#[]⟩, .slice none 0 0], by rw [HEE.out.2] <;> rfl, (by rw [HEE.out.1]; exact (RdP.leaf _ (fun _ => False) 0 0 ⟨#[]⟩ ⟨#[]⟩ (by omega) (by omega) (Nat.zero_le _) (Nat.zero_le _)).toR fun b hb => hb.elim), hBS⟩
  · obtain ⟨ri, hri⟩ : ∃ ri, t.right = ri := ⟨_, rfl⟩
    simp only [hri, Bool.true_and] at HR HRI
    clear hri
    have d0 : (w3.alloc (.cells #[.int .i64 k, .int .i64 q, .string y, .string v, .slice kA m kc] 43)).cell? ⟨w3.heap.size, 0, none⟩ = some (.int .i64 k) := cell_of_row _ _ 0 _ _ (0, 0) HX4.out
    have d1 : (w3.alloc (.cells #[.int .i64 k, .int .i64 q, .string y, .string v, .slice kA m kc] 43)).cell? ⟨w3.heap.size, 1, none⟩ = some (.int .i64 q) := cell_of_row _ _ 1 _ _ (0, 0) HX4.out
    have d2 : (w3.alloc (.cells #[.int .i64 k, .int .i64 q, .string y, .string v, .slice kA m kc] 43)).cell? ⟨w3.heap.size, 2, none⟩ = some (.string y) := cell_of_row _ _ 2 _ _ (0, 0) HX4.out
    have d3 : (w3.alloc (.cells #[.int .i64 k, .int .i64 q, .string y, .string v, .slice kA m kc] 43)).cell? ⟨w3.heap.size, 3, none⟩ = some (.string v) := cell_of_row _ _ 3 _ _ (0, 0) HX4.out
    have d4 : (w3.alloc (.cells #[.int .i64 k, .int .i64 q, .string y, .string v, .slice kA m kc] 43)).cell? ⟨w3.heap.size, 4, none⟩ = some (.slice kA m kc) := cell_of_row _ _ 4 _ _ (0, 0) HX4.out
    have arm : Hid (∀ w6, Below (w3.alloc (.cells #[.int .i64 k, .int .i64 q, .string y, .string v, .slice kA m kc] 43)).heap.size (w3.alloc (.cells #[.int .i64 k, .int .i64 q, .string y, .string v, .slice kA m kc] 43)) w6 → w6.heap[W.heap.size]? = some (.cells #[.int .i64 0, .int .i64 0, .string ⟨#[]⟩, .string ⟨#[]⟩, .slice none 0 0] 43) ∧ w6.heap[w3.heap.size]? = some (.cells #[.int .i64 k, .int .i64 q, .string y, .string v, .slice kA m kc] 43) ∧ Below W.heap.size W w6 ∧ RdP w6 (fun b => W.heap.size + 2 ≤ b ∧ b < w3.heap.size) t (rcs k q y v kA m kc) ∧ w3.heap.size < w6.heap.size) := Lib.hid (fun w6 h6 => ⟨(h6.block _ (by omega)).trans HZ4.out, (h6.block _ hs4).trans HX4.out, HB4.out.trans (h6.mono (by omega)), HP4.out.heap fun b hb => h6.block b (Nat.lt_trans hb.2 hs4), Nat.lt_of_lt_of_le hs4 h6.size⟩)
    cases ri
    · have HEE : Hid (tt = .mk 0 0 ⟨#[]⟩ ⟨#[]⟩ [] ∧ ee = 2) := Lib.hid (by
        have h := HR.out
        rw [HT.out, HE.out, h]
        simp)
      go_wp2_with (first
        | (go_at_call 27; (with_reducible refine (HRI.out).mono ?_); rintro e w6 ⟨rfl, hb6⟩; have A6 := Lib.hid (arm.out w6 hb6); have HZ6 := Lib.hid A6.out.1; have HBW := Lib.hid A6.out.2.2.1; have c0 : w6.cell? ⟨W.heap.size, 0, none⟩ = some (.int .i64 0) := cell_of_row _ _ 0 _ _ (0, 0) HZ6.out; have c1 : w6.cell? ⟨W.heap.size, 1, none⟩ = some (.int .i64 0) := cell_of_row _ _ 1 _ _ (0, 0) HZ6.out; have c2 : w6.cell? ⟨W.heap.size, 2, none⟩ = some (.string ⟨#[]⟩) := cell_of_row _ _ 2 _ _ (0, 0) HZ6.out; have c3 : w6.cell? ⟨W.heap.size, 3, none⟩ = some (.string ⟨#[]⟩) := cell_of_row _ _ 3 _ _ (0, 0) HZ6.out; have c4 : w6.cell? ⟨W.heap.size, 4, none⟩ = some (.slice none 0 0) := cell_of_row _ _ 4 _ _ (0, 0) HZ6.out; have cf0 : w6.frozen? ⟨W.heap.size, 0, none⟩ = false := frz HZ6.out; have cf1 : w6.frozen? ⟨W.heap.size, 1, none⟩ = false := frz HZ6.out; have cf2 : w6.frozen? ⟨W.heap.size, 2, none⟩ = false := frz HZ6.out; have cf3 : w6.frozen? ⟨W.heap.size, 3, none⟩ = false := frz HZ6.out; have cf4 : w6.frozen? ⟨W.heap.size, 4, none⟩ = false := frz HZ6.out; clear hb6)
        | (go_at_call 44; (with_reducible refine (HDN.out).mono ?_); rintro e w5 ⟨rfl, rfl⟩))
      have hrw : (((((w6.setCell ⟨W.heap.size, 0, none⟩ (.int .i64 0)).setCell ⟨W.heap.size, 1, none⟩ (.int .i64 0)).setCell ⟨W.heap.size, 2, none⟩ (.string ⟨#[]⟩)).setCell ⟨W.heap.size, 3, none⟩ (.string ⟨#[]⟩)).setCell ⟨W.heap.size, 4, none⟩ (.slice none 0 0)).heap[W.heap.size]? = some (.cells #[.int .i64 0, .int .i64 0, .string ⟨#[]⟩, .string ⟨#[]⟩, .slice none 0 0] 43) := heap_setCell_same _ _ 4 _ _ _ (heap_setCell_same _ _ 3 _ _ _ (heap_setCell_same _ _ 2 _ _ _ (heap_setCell_same _ _ 1 _ _ _ (heap_setCell_same _ _ 0 _ _ _ HZ6.out))))
      have hBS : Below W.heap.size W (((((w6.setCell ⟨W.heap.size, 0, none⟩ (.int .i64 0)).setCell ⟨W.heap.size, 1, none⟩ (.int .i64 0)).setCell ⟨W.heap.size, 2, none⟩ (.string ⟨#[]⟩)).setCell ⟨W.heap.size, 3, none⟩ (.string ⟨#[]⟩)).setCell ⟨W.heap.size, 4, none⟩ (.slice none 0 0)) := (((((HBW.out.setCell (p := ⟨W.heap.size, 0, none⟩) (Nat.le_refl _) _).setCell (p := ⟨W.heap.size, 1, none⟩) (Nat.le_refl _) _).setCell (p := ⟨W.heap.size, 2, none⟩) (Nat.le_refl _) _).setCell (p := ⟨W.heap.size, 3, none⟩) (Nat.le_refl _) _).setCell (p := ⟨W.heap.size, 4, none⟩) (Nat.le_refl _) _)
      have hsame : ∀ b, b ≠ W.heap.size → (((((w6.setCell ⟨W.heap.size, 0, none⟩ (.int .i64 0)).setCell ⟨W.heap.size, 1, none⟩ (.int .i64 0)).setCell ⟨W.heap.size, 2, none⟩ (.string ⟨#[]⟩)).setCell ⟨W.heap.size, 3, none⟩ (.string ⟨#[]⟩)).setCell ⟨W.heap.size, 4, none⟩ (.slice none 0 0)).heap[b]? = w6.heap[b]? := fun b hb => (Below.heap_setCell _ _ _ _ (by simpa using hb)).trans ((Below.heap_setCell _ _ _ _ (by simpa using hb)).trans ((Below.heap_setCell _ _ _ _ (by simpa using hb)).trans ((Below.heap_setCell _ _ _ _ (by simpa using hb)).trans (Below.heap_setCell _ _ _ _ (by simpa using hb)))))
      have hsz : (((((w6.setCell ⟨W.heap.size, 0, none⟩ (.int .i64 0)).setCell ⟨W.heap.size, 1, none⟩ (.int .i64 0)).setCell ⟨W.heap.size, 2, none⟩ (.string ⟨#[]⟩)).setCell ⟨W.heap.size, 3, none⟩ (.string ⟨#[]⟩)).setCell ⟨W.heap.size, 4, none⟩ (.slice none 0 0)).heap.size = w6.heap.size := by simp
      have z0 : (((((w6.setCell ⟨W.heap.size, 0, none⟩ (.int .i64 0)).setCell ⟨W.heap.size, 1, none⟩ (.int .i64 0)).setCell ⟨W.heap.size, 2, none⟩ (.string ⟨#[]⟩)).setCell ⟨W.heap.size, 3, none⟩ (.string ⟨#[]⟩)).setCell ⟨W.heap.size, 4, none⟩ (.slice none 0 0)).cell? ⟨W.heap.size, 0, none⟩ = some (.int .i64 0) := cell_of_row _ _ 0 _ _ (0, 0) hrw
      have z1 : (((((w6.setCell ⟨W.heap.size, 0, none⟩ (.int .i64 0)).setCell ⟨W.heap.size, 1, none⟩ (.int .i64 0)).setCell ⟨W.heap.size, 2, none⟩ (.string ⟨#[]⟩)).setCell ⟨W.heap.size, 3, none⟩ (.string ⟨#[]⟩)).setCell ⟨W.heap.size, 4, none⟩ (.slice none 0 0)).cell? ⟨W.heap.size, 1, none⟩ = some (.int .i64 0) := cell_of_row _ _ 1 _ _ (0, 0) hrw
      have z2 : (((((w6.setCell ⟨W.heap.size, 0, none⟩ (.int .i64 0)).setCell ⟨W.heap.size, 1, none⟩ (.int .i64 0)).setCell ⟨W.heap.size, 2, none⟩ (.string ⟨#[]⟩)).setCell ⟨W.heap.size, 3, none⟩ (.string ⟨#[]⟩)).setCell ⟨W.heap.size, 4, none⟩ (.slice none 0 0)).cell? ⟨W.heap.size, 2, none⟩ = some (.string ⟨#[]⟩) := cell_of_row _ _ 2 _ _ (0, 0) hrw
      have z3 : (((((w6.setCell ⟨W.heap.size, 0, none⟩ (.int .i64 0)).setCell ⟨W.heap.size, 1, none⟩ (.int .i64 0)).setCell ⟨W.heap.size, 2, none⟩ (.string ⟨#[]⟩)).setCell ⟨W.heap.size, 3, none⟩ (.string ⟨#[]⟩)).setCell ⟨W.heap.size, 4, none⟩ (.slice none 0 0)).cell? ⟨W.heap.size, 3, none⟩ = some (.string ⟨#[]⟩) := cell_of_row _ _ 3 _ _ (0, 0) hrw
      have z4 : (((((w6.setCell ⟨W.heap.size, 0, none⟩ (.int .i64 0)).setCell ⟨W.heap.size, 1, none⟩ (.int .i64 0)).setCell ⟨W.heap.size, 2, none⟩ (.string ⟨#[]⟩)).setCell ⟨W.heap.size, 3, none⟩ (.string ⟨#[]⟩)).setCell ⟨W.heap.size, 4, none⟩ (.slice none 0 0)).cell? ⟨W.heap.size, 4, none⟩ = some (.slice none 0 0) := cell_of_row _ _ 4 _ _ (0, 0) hrw
      refine bodyPost_ret (v := .tuple #[.agg #[.int .i64 0, .int .i64 0, .string ⟨#[]⟩, .string ⟨#[]⟩, .slice none 0 0], .int .i64 2]) (by simp [results, Try.results25, go_sem, z0, z1, z2, z3, z4]) rfl ?_
      exact ⟨[.int .i64 0, .int .i64 0, .string ⟨#[]⟩, .string ⟨#[]⟩, .slice none 0 0], by rw [HEE.out.2] <;> rfl, (by rw [HEE.out.1]; exact (RdP.leaf _ (fun _ => False) 0 0 ⟨#[]⟩ ⟨#[]⟩ (by omega) (by omega) (Nat.zero_le _) (Nat.zero_le _)).toR fun b hb => hb.elim), hBS⟩
    · have HEE : Hid (tt = t ∧ ee = 0) := Lib.hid (by
        have h := HR.out
        rw [HT.out, HE.out, h]
        simp)
      go_wp2_with (first
        | (go_at_call 27; (with_reducible refine (HRI.out).mono ?_); rintro e w6 ⟨rfl, hb6⟩; have A6 := Lib.hid (arm.out w6 hb6); have HZ6 := Lib.hid A6.out.1; have HX6 := Lib.hid A6.out.2.1; have HBW := Lib.hid A6.out.2.2.1; clear d0 d1 d2 d3 d4; have c0 : w6.cell? ⟨W.heap.size, 0, none⟩ = some (.int .i64 0) := cell_of_row _ _ 0 _ _ (0, 0) HZ6.out; have c1 : w6.cell? ⟨W.heap.size, 1, none⟩ = some (.int .i64 0) := cell_of_row _ _ 1 _ _ (0, 0) HZ6.out; have c2 : w6.cell? ⟨W.heap.size, 2, none⟩ = some (.string ⟨#[]⟩) := cell_of_row _ _ 2 _ _ (0, 0) HZ6.out; have c3 : w6.cell? ⟨W.heap.size, 3, none⟩ = some (.string ⟨#[]⟩) := cell_of_row _ _ 3 _ _ (0, 0) HZ6.out; have c4 : w6.cell? ⟨W.heap.size, 4, none⟩ = some (.slice none 0 0) := cell_of_row _ _ 4 _ _ (0, 0) HZ6.out; have cf0 : w6.frozen? ⟨W.heap.size, 0, none⟩ = false := frz HZ6.out; have cf1 : w6.frozen? ⟨W.heap.size, 1, none⟩ = false := frz HZ6.out; have cf2 : w6.frozen? ⟨W.heap.size, 2, none⟩ = false := frz HZ6.out; have cf3 : w6.frozen? ⟨W.heap.size, 3, none⟩ = false := frz HZ6.out; have cf4 : w6.frozen? ⟨W.heap.size, 4, none⟩ = false := frz HZ6.out; have d0 : w6.cell? ⟨w3.heap.size, 0, none⟩ = some (.int .i64 k) := cell_of_row _ _ 0 _ _ (0, 0) HX6.out; have d1 : w6.cell? ⟨w3.heap.size, 1, none⟩ = some (.int .i64 q) := cell_of_row _ _ 1 _ _ (0, 0) HX6.out; have d2 : w6.cell? ⟨w3.heap.size, 2, none⟩ = some (.string y) := cell_of_row _ _ 2 _ _ (0, 0) HX6.out; have d3 : w6.cell? ⟨w3.heap.size, 3, none⟩ = some (.string v) := cell_of_row _ _ 3 _ _ (0, 0) HX6.out; have d4 : w6.cell? ⟨w3.heap.size, 4, none⟩ = some (.slice kA m kc) := cell_of_row _ _ 4 _ _ (0, 0) HX6.out; clear hb6)
        | (go_at_call 44; (with_reducible refine (HDN.out).mono ?_); rintro e w5 ⟨rfl, rfl⟩))
      have hrw : (((((w6.setCell ⟨W.heap.size, 0, none⟩ (.int .i64 k)).setCell ⟨W.heap.size, 1, none⟩ (.int .i64 q)).setCell ⟨W.heap.size, 2, none⟩ (.string y)).setCell ⟨W.heap.size, 3, none⟩ (.string v)).setCell ⟨W.heap.size, 4, none⟩ (.slice kA m kc)).heap[W.heap.size]? = some (.cells #[.int .i64 k, .int .i64 q, .string y, .string v, .slice kA m kc] 43) := heap_setCell_same _ _ 4 _ _ _ (heap_setCell_same _ _ 3 _ _ _ (heap_setCell_same _ _ 2 _ _ _ (heap_setCell_same _ _ 1 _ _ _ (heap_setCell_same _ _ 0 _ _ _ HZ6.out))))
      have hBS : Below W.heap.size W (((((w6.setCell ⟨W.heap.size, 0, none⟩ (.int .i64 k)).setCell ⟨W.heap.size, 1, none⟩ (.int .i64 q)).setCell ⟨W.heap.size, 2, none⟩ (.string y)).setCell ⟨W.heap.size, 3, none⟩ (.string v)).setCell ⟨W.heap.size, 4, none⟩ (.slice kA m kc)) := (((((HBW.out.setCell (p := ⟨W.heap.size, 0, none⟩) (Nat.le_refl _) _).setCell (p := ⟨W.heap.size, 1, none⟩) (Nat.le_refl _) _).setCell (p := ⟨W.heap.size, 2, none⟩) (Nat.le_refl _) _).setCell (p := ⟨W.heap.size, 3, none⟩) (Nat.le_refl _) _).setCell (p := ⟨W.heap.size, 4, none⟩) (Nat.le_refl _) _)
      have hsame : ∀ b, b ≠ W.heap.size → (((((w6.setCell ⟨W.heap.size, 0, none⟩ (.int .i64 k)).setCell ⟨W.heap.size, 1, none⟩ (.int .i64 q)).setCell ⟨W.heap.size, 2, none⟩ (.string y)).setCell ⟨W.heap.size, 3, none⟩ (.string v)).setCell ⟨W.heap.size, 4, none⟩ (.slice kA m kc)).heap[b]? = w6.heap[b]? := fun b hb => (Below.heap_setCell _ _ _ _ (by simpa using hb)).trans ((Below.heap_setCell _ _ _ _ (by simpa using hb)).trans ((Below.heap_setCell _ _ _ _ (by simpa using hb)).trans ((Below.heap_setCell _ _ _ _ (by simpa using hb)).trans (Below.heap_setCell _ _ _ _ (by simpa using hb)))))
      have hsz : (((((w6.setCell ⟨W.heap.size, 0, none⟩ (.int .i64 k)).setCell ⟨W.heap.size, 1, none⟩ (.int .i64 q)).setCell ⟨W.heap.size, 2, none⟩ (.string y)).setCell ⟨W.heap.size, 3, none⟩ (.string v)).setCell ⟨W.heap.size, 4, none⟩ (.slice kA m kc)).heap.size = w6.heap.size := by simp
      have z0 : (((((w6.setCell ⟨W.heap.size, 0, none⟩ (.int .i64 k)).setCell ⟨W.heap.size, 1, none⟩ (.int .i64 q)).setCell ⟨W.heap.size, 2, none⟩ (.string y)).setCell ⟨W.heap.size, 3, none⟩ (.string v)).setCell ⟨W.heap.size, 4, none⟩ (.slice kA m kc)).cell? ⟨W.heap.size, 0, none⟩ = some (.int .i64 k) := cell_of_row _ _ 0 _ _ (0, 0) hrw
      have z1 : (((((w6.setCell ⟨W.heap.size, 0, none⟩ (.int .i64 k)).setCell ⟨W.heap.size, 1, none⟩ (.int .i64 q)).setCell ⟨W.heap.size, 2, none⟩ (.string y)).setCell ⟨W.heap.size, 3, none⟩ (.string v)).setCell ⟨W.heap.size, 4, none⟩ (.slice kA m kc)).cell? ⟨W.heap.size, 1, none⟩ = some (.int .i64 q) := cell_of_row _ _ 1 _ _ (0, 0) hrw
      have z2 : (((((w6.setCell ⟨W.heap.size, 0, none⟩ (.int .i64 k)).setCell ⟨W.heap.size, 1, none⟩ (.int .i64 q)).setCell ⟨W.heap.size, 2, none⟩ (.string y)).setCell ⟨W.heap.size, 3, none⟩ (.string v)).setCell ⟨W.heap.size, 4, none⟩ (.slice kA m kc)).cell? ⟨W.heap.size, 2, none⟩ = some (.string y) := cell_of_row _ _ 2 _ _ (0, 0) hrw
      have z3 : (((((w6.setCell ⟨W.heap.size, 0, none⟩ (.int .i64 k)).setCell ⟨W.heap.size, 1, none⟩ (.int .i64 q)).setCell ⟨W.heap.size, 2, none⟩ (.string y)).setCell ⟨W.heap.size, 3, none⟩ (.string v)).setCell ⟨W.heap.size, 4, none⟩ (.slice kA m kc)).cell? ⟨W.heap.size, 3, none⟩ = some (.string v) := cell_of_row _ _ 3 _ _ (0, 0) hrw
      have z4 : (((((w6.setCell ⟨W.heap.size, 0, none⟩ (.int .i64 k)).setCell ⟨W.heap.size, 1, none⟩ (.int .i64 q)).setCell ⟨W.heap.size, 2, none⟩ (.string y)).setCell ⟨W.heap.size, 3, none⟩ (.string v)).setCell ⟨W.heap.size, 4, none⟩ (.slice kA m kc)).cell? ⟨W.heap.size, 4, none⟩ = some (.slice kA m kc) := cell_of_row _ _ 4 _ _ (0, 0) hrw
      refine bodyPost_ret (v := .tuple #[.agg #[.int .i64 k, .int .i64 q, .string y, .string v, .slice kA m kc], .int .i64 0]) (by simp [results, Try.results25, go_sem, z0, z1, z2, z3, z4]) rfl ?_
      exact ⟨[.int .i64 k, .int .i64 q, .string y, .string v, .slice kA m kc], by rw [HEE.out.2] <;> rfl, (by rw [HEE.out.1]; exact (A6.out.2.2.2.1.heap fun b hb => hsame b (by omega)).toR fun b hb => by rw [hsz]; have := A6.out.2.2.2.2; omega), hBS⟩
end Go.Proofs.Ytajpnimjkkmcmaa
