/- RuleLimits: how many nodes a policy may have, and how deep it may be. -/
import Derived.Test.YtajpnimjkkmcmaaAl13
namespace Go.Proofs.Ytajpnimjkkmcmaa
open Go.RowKit
set_option linter.unusedVariables false
set_option linter.unusedSimpArgs false
set_option maxRecDepth 100000

def leaf5 : Rt := .mk 5 0 ⟨#[]⟩ ⟨#[]⟩ []
def wideT (n : Nat) : Rt := .mk 2 0 ⟨#[]⟩ ⟨#[]⟩ (List.replicate n leaf5)
def tallT : Nat → Rt
  | 0 => leaf5
  | j + 1 => .mk 3 0 ⟨#[]⟩ ⟨#[]⟩ [tallT j]
theorem emptyE : (ByteArray.mk #[]).toList.isEmpty = true := by simp [ByteArray.toList, ByteArray.toList.loop, ByteArray.size]
theorem leaf5_all : leaf5.all = true := by unfold leaf5; rw [Rt.all_mk]; unfold oneR; rw [emptyE]; simp [allL]
theorem leaf5_cnt : leaf5.cnt = 1 := by unfold leaf5; rw [Rt.cnt_mk]; simp [cntL]
theorem leaf5_hgt : leaf5.hgt = 1 := by unfold leaf5; rw [Rt.hgt_mk]; simp [hgtL]
theorem leaf5_bts : leaf5.bts.length = 1 := by unfold leaf5; rw [Rt.bts_mk]; simp
theorem rep_cnt (n : Nat) : cntL (List.replicate n leaf5) = n := by
  induction n with
  | zero => simp [cntL]
  | succ n ih => rw [List.replicate_succ, cntL, ih, leaf5_cnt]; omega
theorem rep_bts (n : Nat) : (btsL (List.replicate n leaf5)).length = n := by
  induction n with
  | zero => simp [btsL]
  | succ n ih => rw [List.replicate_succ, btsL, List.length_append, ih, leaf5_bts]; omega
theorem wide_bts (n : Nat) : (wideT n).bts.length ≤ 11 + n := by
  unfold wideT
  rw [Rt.bts_mk, if_neg (by decide), if_neg (by decide), if_pos (by decide)]
  have := (Mi.put_len (List.replicate n leaf5).length).2
  simp only [List.length_cons, List.length_append, rep_bts]
  omega
theorem wide_right (n : Nat) : (wideT n).right = decide (n ≤ 19) := by
  have h1 : (wideT n).all = true := by
    unfold wideT
    rw [Rt.all_mk, Bool.and_eq_true]
    refine ⟨by unfold oneR; rw [emptyE]; simp, (allL_iff _).2 fun r hr => ?_⟩
    rw [(List.mem_replicate.1 hr).2]
    exact leaf5_all
  have h2 : (wideT n).hgt ≤ 5 := by
    unfold wideT
    rw [Rt.hgt_mk]
    have := (hgtL_le (List.replicate n leaf5) 1).2 fun r hr => by rw [(List.mem_replicate.1 hr).2, leaf5_hgt]; exact Nat.le_refl _
    omega
  have h3 : (wideT n).cnt = 1 + n := by unfold wideT; rw [Rt.cnt_mk, rep_cnt]
  have h := (wideT n).right_iff
  rw [h3, h1] at h
  by_cases hn : n ≤ 19
  · rw [decide_eq_true hn]
    exact h.2 ⟨h2, by omega, rfl⟩
  · rw [decide_eq_false hn]
    cases hx : (wideT n).right
    · rfl
    · have := (h.1 hx).2.1
      omega
theorem tall_facts : ∀ j, (tallT j).hgt = j + 1 ∧ (tallT j).cnt = j + 1 ∧ (tallT j).all = true ∧ (tallT j).bts.length ≤ 12 * (j + 1)
  | 0 => ⟨leaf5_hgt, leaf5_cnt, leaf5_all, by rw [show tallT 0 = leaf5 from rfl, leaf5_bts]; omega⟩
  | j + 1 => by
    obtain ⟨h1, h2, h3, h4⟩ := tall_facts j
    rw [tallT, Rt.hgt_mk, Rt.cnt_mk, Rt.all_mk, Rt.bts_mk, if_neg (by decide), if_neg (by decide), if_pos (by decide)]
    have := (Mi.put_len ([tallT j].length)).2
    refine ⟨by simp [hgtL, h1]; omega, by simp [cntL, h2]; omega, by unfold oneR; rw [emptyE]; simp [allL, h3], ?_⟩
    simp only [List.length_cons, List.length_append, btsL, List.append_nil] at this ⊢
    omega
theorem tall_right (j : Nat) : (tallT j).right = decide (j ≤ 4) := by
  obtain ⟨h1, h2, h3, h4⟩ := tall_facts j
  have h := (tallT j).right_iff
  rw [h1, h2, h3] at h
  by_cases hn : j ≤ 4
  · rw [decide_eq_true hn]
    exact h.2 ⟨by omega, by omega, rfl⟩
  · rw [decide_eq_false hn]
    cases hx : (tallT j).right
    · rfl
    · have := (h.1 hx).1
      omega
def kr5 : Kr := ⟨leaf5, 5, 0, ⟨#[]⟩, ⟨#[]⟩, none, 0, 0⟩
theorem kr5_ok (w : World) (base : Nat) (V : Value) : KrOk w base V kr5 := RdP.leaf _ _ 5 0 ⟨#[]⟩ ⟨#[]⟩ (by omega) (by omega) (Nat.zero_le _) (Nat.zero_le _)
theorem rep_of {L : List Kr} {n : Nat} (h : L.length = n) (ht : ∀ x ∈ L, x.t = leaf5) : L.map Kr.t = List.replicate n leaf5 := by
  rw [← h]
  exact List.eq_replicate_iff.2 ⟨by simp, fun b hb => by obtain ⟨x, hx, rfl⟩ := List.mem_map.1 hb; exact ht x hx⟩
theorem tall_step (wr : World) (b : Nat) (t : Rt) (k q : Int) (y v : ByteArray) (kA : Option Addr) (m kc : Nat) (hb : wr.heap[b]? = some (.cells #[.int .i64 k, .int .i64 q, .string y, .string v, .slice kA m kc] 43)) (hT : RdP wr (fun c => b + 1 ≤ c ∧ c < wr.heap.size) t (rcs k q y v kA m kc)) :
    RdP ((((((wr.setCell ⟨b, 0, none⟩ (.int .i64 3)).setCell ⟨b, 1, none⟩ (.int .i64 0)).setCell ⟨b, 2, none⟩ (.string ⟨#[]⟩)).setCell ⟨b, 3, none⟩ (.string ⟨#[]⟩)).setCell ⟨b, 4, none⟩ (.slice (some ⟨wr.heap.size, 0, none⟩) 1 1)).alloc (.cells #[.int .i64 k, .int .i64 q, .string y, .string v, .slice kA m kc] 43)) (fun c => b + 1 ≤ c ∧ c < ((((((wr.setCell ⟨b, 0, none⟩ (.int .i64 3)).setCell ⟨b, 1, none⟩ (.int .i64 0)).setCell ⟨b, 2, none⟩ (.string ⟨#[]⟩)).setCell ⟨b, 3, none⟩ (.string ⟨#[]⟩)).setCell ⟨b, 4, none⟩ (.slice (some ⟨wr.heap.size, 0, none⟩) 1 1)).alloc (.cells #[.int .i64 k, .int .i64 q, .string y, .string v, .slice kA m kc] 43)).heap.size) (.mk 3 0 ⟨#[]⟩ ⟨#[]⟩ [t]) (rcs 3 0 ⟨#[]⟩ ⟨#[]⟩ (some ⟨wr.heap.size, 0, none⟩) 1 1) ∧ ((((((wr.setCell ⟨b, 0, none⟩ (.int .i64 3)).setCell ⟨b, 1, none⟩ (.int .i64 0)).setCell ⟨b, 2, none⟩ (.string ⟨#[]⟩)).setCell ⟨b, 3, none⟩ (.string ⟨#[]⟩)).setCell ⟨b, 4, none⟩ (.slice (some ⟨wr.heap.size, 0, none⟩) 1 1)).alloc (.cells #[.int .i64 k, .int .i64 q, .string y, .string v, .slice kA m kc] 43)).heap[b]? = some (.cells #[.int .i64 3, .int .i64 0, .string ⟨#[]⟩, .string ⟨#[]⟩, .slice (some ⟨wr.heap.size, 0, none⟩) 1 1] 43) ∧ Below b wr ((((((wr.setCell ⟨b, 0, none⟩ (.int .i64 3)).setCell ⟨b, 1, none⟩ (.int .i64 0)).setCell ⟨b, 2, none⟩ (.string ⟨#[]⟩)).setCell ⟨b, 3, none⟩ (.string ⟨#[]⟩)).setCell ⟨b, 4, none⟩ (.slice (some ⟨wr.heap.size, 0, none⟩) 1 1)).alloc (.cells #[.int .i64 k, .int .i64 q, .string y, .string v, .slice kA m kc] 43)) ∧ ((((((wr.setCell ⟨b, 0, none⟩ (.int .i64 3)).setCell ⟨b, 1, none⟩ (.int .i64 0)).setCell ⟨b, 2, none⟩ (.string ⟨#[]⟩)).setCell ⟨b, 3, none⟩ (.string ⟨#[]⟩)).setCell ⟨b, 4, none⟩ (.slice (some ⟨wr.heap.size, 0, none⟩) 1 1)).alloc (.cells #[.int .i64 k, .int .i64 q, .string y, .string v, .slice kA m kc] 43)).heap.size = wr.heap.size + 1 := by
  have hsz : (((((wr.setCell ⟨b, 0, none⟩ (.int .i64 3)).setCell ⟨b, 1, none⟩ (.int .i64 0)).setCell ⟨b, 2, none⟩ (.string ⟨#[]⟩)).setCell ⟨b, 3, none⟩ (.string ⟨#[]⟩)).setCell ⟨b, 4, none⟩ (.slice (some ⟨wr.heap.size, 0, none⟩) 1 1)).heap.size = wr.heap.size := by simp
  have hbl := in_heap hb
  have hrw : (((((wr.setCell ⟨b, 0, none⟩ (.int .i64 3)).setCell ⟨b, 1, none⟩ (.int .i64 0)).setCell ⟨b, 2, none⟩ (.string ⟨#[]⟩)).setCell ⟨b, 3, none⟩ (.string ⟨#[]⟩)).setCell ⟨b, 4, none⟩ (.slice (some ⟨wr.heap.size, 0, none⟩) 1 1)).heap[b]? = some (.cells #[.int .i64 3, .int .i64 0, .string ⟨#[]⟩, .string ⟨#[]⟩, .slice (some ⟨wr.heap.size, 0, none⟩) 1 1] 43) := heap_setCell_same _ _ 4 _ _ _ (heap_setCell_same _ _ 3 _ _ _ (heap_setCell_same _ _ 2 _ _ _ (heap_setCell_same _ _ 1 _ _ _ (heap_setCell_same _ _ 0 _ _ _ hb))))
  have hsame : ∀ c, c ≠ b → (((((wr.setCell ⟨b, 0, none⟩ (.int .i64 3)).setCell ⟨b, 1, none⟩ (.int .i64 0)).setCell ⟨b, 2, none⟩ (.string ⟨#[]⟩)).setCell ⟨b, 3, none⟩ (.string ⟨#[]⟩)).setCell ⟨b, 4, none⟩ (.slice (some ⟨wr.heap.size, 0, none⟩) 1 1)).heap[c]? = wr.heap[c]? := fun c hc => (Below.heap_setCell _ _ _ _ (by simpa using hc)).trans ((Below.heap_setCell _ _ _ _ (by simpa using hc)).trans ((Below.heap_setCell _ _ _ _ (by simpa using hc)).trans ((Below.heap_setCell _ _ _ _ (by simpa using hc)).trans (Below.heap_setCell _ _ _ _ (by simpa using hc)))))
  have hBS : Below b wr (((((wr.setCell ⟨b, 0, none⟩ (.int .i64 3)).setCell ⟨b, 1, none⟩ (.int .i64 0)).setCell ⟨b, 2, none⟩ (.string ⟨#[]⟩)).setCell ⟨b, 3, none⟩ (.string ⟨#[]⟩)).setCell ⟨b, 4, none⟩ (.slice (some ⟨wr.heap.size, 0, none⟩) 1 1)) := (((((Below.refl b wr).setCell (p := ⟨b, 0, none⟩) (Nat.le_refl _) _).setCell (p := ⟨b, 1, none⟩) (Nat.le_refl _) _).setCell (p := ⟨b, 2, none⟩) (Nat.le_refl _) _).setCell (p := ⟨b, 3, none⟩) (Nat.le_refl _) _).setCell (p := ⟨b, 4, none⟩) (Nat.le_refl _) _
  generalize (((((wr.setCell ⟨b, 0, none⟩ (.int .i64 3)).setCell ⟨b, 1, none⟩ (.int .i64 0)).setCell ⟨b, 2, none⟩ (.string ⟨#[]⟩)).setCell ⟨b, 3, none⟩ (.string ⟨#[]⟩)).setCell ⟨b, 4, none⟩ (.slice (some ⟨wr.heap.size, 0, none⟩) 1 1)) = S at *
  have hz : (S.alloc (.cells #[.int .i64 k, .int .i64 q, .string y, .string v, .slice kA m kc] 43)).heap.size = wr.heap.size + 1 := by simp [hsz]
  have hnew : (S.alloc (.cells #[.int .i64 k, .int .i64 q, .string y, .string v, .slice kA m kc] 43)).heap[wr.heap.size]? = some (.cells #[.int .i64 k, .int .i64 q, .string y, .string v, .slice kA m kc] 43) := by rw [← hsz]; exact heap_alloc_new S _
  refine ⟨?_, (heap_alloc_old S _ (by omega)).trans hrw, hBS.alloc (by omega) _, hz⟩
  refine RdP.mk 3 0 ⟨#[]⟩ ⟨#[]⟩ [t] (some ⟨wr.heap.size, 0, none⟩) 1 (fun _ => rcs k q y v kA m kc) (by omega) (by omega) (Nat.zero_le _) (Nat.zero_le _) (by simp) (by simp [maxLen]) (fun _ => ⟨_, rfl, ⟨by simp; omega, by simp only [hz]; omega⟩, fun i hi j u hu => ?_⟩) (fun i r hr => ?_)
  · have hi0 : i = 0 := by simpa using hi
    subst hi0
    have ea : (⟨wr.heap.size, 0, none⟩ : Addr).add (0 * 5 + j) = ⟨wr.heap.size, j, none⟩ := by
      unfold Addr.add
      split <;> simp_all
    rw [ea, cell_of_row _ _ _ _ _ (0, 0) hnew]
    simpa [rcs] using hu
  · cases i with
    | zero =>
      simp at hr
      subst hr
      refine (hT.heap fun c hc => (heap_alloc_old S _ (by omega)).trans (hsame c (by omega))).imp fun c hc => ⟨hc.1, by rw [hz]; omega⟩
    | succ i => simp at hr
set_option maxHeartbeats 32000000 in
theorem limits13 (n d : Int) (w : World) :
    Calls Try.prog 8 #[.int .i64 n, .int .i64 d] w fun e w' => e = .returned (.bool true) ∧ Below w.heap.size w w' := by
  have ALV := Lib.hid (fun W => alive13_calls W)
  have hcs : n < 0 ∨ (0 ≤ n ∧ 40 < n) ∨ (0 ≤ n ∧ n ≤ 40 ∧ d < 1) ∨ (0 ≤ n ∧ n ≤ 40 ∧ 1 ≤ d ∧ 10 < d) ∨ (0 ≤ n ∧ n ≤ 40 ∧ 1 ≤ d ∧ d ≤ 10) := by omega
  rcases hcs with h1 | ⟨h1, h2⟩ | ⟨h1, h2, h3⟩ | ⟨h1, h2, h3, h4⟩ | ⟨h1, h2, h3, h4⟩
  iterate 4
    · go_enter Try.func8, Try.ntmps8
      go_wp2_with (go_at_call 22; (with_reducible refine (ALV.out _).mono ?_); rintro e w1 ⟨rfl, hb1⟩; have HB1 := Lib.hid hb1; clear hb1)
      go_ret
      exact ⟨rfl, HB1.out⟩
  obtain ⟨N, rfl⟩ := Int.eq_ofNat_of_zero_le h1
  obtain ⟨D, hD⟩ : ∃ D : Nat, d = (D : Int) + 1 := ⟨(d - 1).toNat, by omega⟩
  subst hD
  have hN : N ≤ 40 := by omega
  have hDl : D ≤ 9 := by omega
  go_enter Try.func8, Try.ntmps8
  go_wp2_with (go_at_call 22; (with_reducible refine (ALV.out _).mono ?_); rintro e w1 ⟨rfl, hb1⟩; have HB1 := Lib.hid hb1; have HX := Lib.hid (heap_alloc_new w1 (.cells #[.int .i64 2, .int .i64 0, .string ⟨#[]⟩, .string ⟨#[]⟩, .slice none 0 0] 43)); have hz1 : w1.heap.size + 1 ≤ (w1.alloc (.cells #[.int .i64 2, .int .i64 0, .string ⟨#[]⟩, .string ⟨#[]⟩, .slice none 0 0] 43)).heap.size := (by simp); have HBX := Lib.hid ((Below.refl w1.heap.size w1).alloc (Nat.le_refl _) (.cells #[.int .i64 2, .int .i64 0, .string ⟨#[]⟩, .string ⟨#[]⟩, .slice none 0 0] 43)); clear hb1)
  go_loopw [7] (fun i wr => ∃ (j : Nat) (L : List Kr) (V : Value), i = .int .i64 (j : Int) ∧ j ≤ N ∧ Hid (L.length = j ∧ ∀ x ∈ L, x.t = leaf5) ∧ Hid (OwnKids wr (w1.heap.size + 1) V L) ∧ Hid (wr.heap[w1.heap.size]? = some (.cells #[.int .i64 2, .int .i64 0, .string ⟨#[]⟩, .string ⟨#[]⟩, V] 43)) ∧ Hid (Below w1.heap.size w1 wr) ∧ w1.heap.size + 1 ≤ wr.heap.size) (fun i _ => N - (intOf i).toNat)
  case atStart => exact ⟨0, [], .slice none 0 0, rfl, by omega, Lib.hid ⟨rfl, by simp⟩, Lib.hid (OwnKids.nil _ _), HX, HBX, hz1⟩
  case round =>
    obtain ⟨j, L, V, rfl, hj, HLE, HOK, HRW, HBW, hwb⟩ := hrel
    generalize wr = w0 at *
    by_cases hlt : j < N
    · have hb2 : Below w0.heap.size w0 (w0.alloc (.cells #[.int .i64 5, .int .i64 0, .string ⟨#[]⟩, .string ⟨#[]⟩, .slice none 0 0] 43)) := (Below.refl _ _).alloc (Nat.le_refl _) _
      have HAP := Lib.hid (fun ty => appKid (ty := ty) (HOK.out.below hb2) (kr5_ok _ _ _) (B := w0.heap.size + 1) (a := ⟨w0.heap.size, 0, none⟩) (show Rd (w0.alloc (.cells #[.int .i64 5, .int .i64 0, .string ⟨#[]⟩, .string ⟨#[]⟩, .slice none 0 0] 43)) _ _ kr5.cells from Rd.lit w0 #[.int .i64 5, .int .i64 0, .string ⟨#[]⟩, .string ⟨#[]⟩, .slice none 0 0] 43) (by rw [HLE.out.1]; omega) (Nat.le_trans hwb hb2.size))
      have HB2 := Lib.hid hb2
      clear hb2
      have c0 : w0.cell? ⟨w1.heap.size, 0, none⟩ = some (.int .i64 2) := cell_of_row _ _ 0 _ _ (0, 0) HRW.out
      have c1 : w0.cell? ⟨w1.heap.size, 1, none⟩ = some (.int .i64 0) := cell_of_row _ _ 1 _ _ (0, 0) HRW.out
      have c2 : w0.cell? ⟨w1.heap.size, 2, none⟩ = some (.string ⟨#[]⟩) := cell_of_row _ _ 2 _ _ (0, 0) HRW.out
      have c3 : w0.cell? ⟨w1.heap.size, 3, none⟩ = some (.string ⟨#[]⟩) := cell_of_row _ _ 3 _ _ (0, 0) HRW.out
      have c4 : w0.cell? ⟨w1.heap.size, 4, none⟩ = some (V) := cell_of_row _ _ 4 _ _ (0, 0) HRW.out
      have cf0 : w0.frozen? ⟨w1.heap.size, 0, none⟩ = false := frz HRW.out
      have cf1 : w0.frozen? ⟨w1.heap.size, 1, none⟩ = false := frz HRW.out
      have cf2 : w0.frozen? ⟨w1.heap.size, 2, none⟩ = false := frz HRW.out
      have cf3 : w0.frozen? ⟨w1.heap.size, 3, none⟩ = false := frz HRW.out
      have cf4 : w0.frozen? ⟨w1.heap.size, 4, none⟩ = false := frz HRW.out
      have hne1 : w1.heap.size ≠ w0.heap.size := by omega
      have hlt1 : w1.heap.size < w0.heap.size := by omega
      go_wp2_with (at_builtin; (refine wpList_app rfl (.tmp 37) (.tmp 39) _ _ rfl rfl rfl (HAP.out _) ?_); rintro v2 w2 ⟨hok, hgr⟩; obtain ⟨A2, k2, rfl, _, _⟩ := own_rd hok.own; have HOK2 := Lib.hid hok; have HRW2 := Lib.hid ((hgr.grown.block w1.heap.size (by have := HB2.out.size; omega) (fun e => by have := own_block_ge HOK.out.own _ e.symm; omega)).trans ((HB2.out.block _ hlt1).trans HRW.out)); have HB3 := Lib.hid (hgr.below (HBW.out.trans (HB2.out.mono HBW.out.size)) (Nat.le_trans HBW.out.size HB2.out.size) (fun q hq => by have := own_block_ge HOK.out.own q hq; omega)); have hs2 : w1.heap.size + 1 ≤ w2.heap.size := Nat.le_trans hwb (Nat.le_trans HB2.out.size hgr.grown.size); (clear c0 c1 c2 c3 c4 cf0 cf1 cf2 cf3 cf4); have g0 : w2.cell? ⟨w1.heap.size, 0, none⟩ = some (.int .i64 2) := cell_of_row _ _ 0 _ _ (0, 0) HRW2.out; have g1 : w2.cell? ⟨w1.heap.size, 1, none⟩ = some (.int .i64 0) := cell_of_row _ _ 1 _ _ (0, 0) HRW2.out; have g2 : w2.cell? ⟨w1.heap.size, 2, none⟩ = some (.string ⟨#[]⟩) := cell_of_row _ _ 2 _ _ (0, 0) HRW2.out; have g3 : w2.cell? ⟨w1.heap.size, 3, none⟩ = some (.string ⟨#[]⟩) := cell_of_row _ _ 3 _ _ (0, 0) HRW2.out; have g4 : w2.cell? ⟨w1.heap.size, 4, none⟩ = some (V) := cell_of_row _ _ 4 _ _ (0, 0) HRW2.out; have gf0 : w2.frozen? ⟨w1.heap.size, 0, none⟩ = false := frz HRW2.out; have gf1 : w2.frozen? ⟨w1.heap.size, 1, none⟩ = false := frz HRW2.out; have gf2 : w2.frozen? ⟨w1.heap.size, 2, none⟩ = false := frz HRW2.out; have gf3 : w2.frozen? ⟨w1.heap.size, 3, none⟩ = false := frz HRW2.out; have gf4 : w2.frozen? ⟨w1.heap.size, 4, none⟩ = false := frz HRW2.out; clear hok hgr)
      go_roundw
      case rel =>
        refine ⟨j + 1, L ++ [kr5], .slice A2 (L.length + 1) k2, by go_num, by omega, Lib.hid ⟨by rw [List.length_append, HLE.out.1]; rfl, fun x hx => ?_⟩, Lib.hid ?_, Lib.hid ?_, Lib.hid (HB3.out.setCell (p := ⟨w1.heap.size, 4, none⟩) (Nat.le_refl _) _), by simpa using hs2⟩
        · rcases List.mem_append.1 hx with hx | hx
          · exact HLE.out.2 x hx
          · simp at hx; subst hx; rfl
        · have h := HOK2.out
          rw [List.length_append] at h
          exact OwnKids.set h (by omega)
        · exact heap_setCell_same _ _ 4 _ _ _ HRW2.out
      case measure => simp [intOf]; omega
    · obtain rfl : j = N := by omega
      have HWT := Lib.hid (rep_of HLE.out.1 HLE.out.2)
      obtain ⟨A6, c6, hV6, hT6⟩ := HOK.out.tree 2 0 ⟨#[]⟩ ⟨#[]⟩ (by omega) (by omega) (Nat.zero_le _) (Nat.zero_le _)
      subst hV6
      have HL6 := Lib.hid HLE.out.1
      rw [HWT.out] at hT6
      have HT6 := Lib.hid (show RdP w0 (fun b => w1.heap.size + 1 ≤ b ∧ b < w0.heap.size) (wideT j) (rcs 2 0 ⟨#[]⟩ ⟨#[]⟩ A6 L.length c6) from hT6)
      clear hT6
      have HX8 := Lib.hid (heap_alloc_new w0 (.cells #[.int .i64 5, .int .i64 0, .string ⟨#[]⟩, .string ⟨#[]⟩, .slice none 0 0] 43))
      have hz8 : w0.heap.size + 1 ≤ (w0.alloc (.cells #[.int .i64 5, .int .i64 0, .string ⟨#[]⟩, .string ⟨#[]⟩, .slice none 0 0] 43)).heap.size := by simp
      have HB8 := Lib.hid ((Below.refl w0.heap.size w0).alloc (Nat.le_refl _) (.cells #[.int .i64 5, .int .i64 0, .string ⟨#[]⟩, .string ⟨#[]⟩, .slice none 0 0] 43))
      have HL8 := Lib.hid (show RdP (w0.alloc (.cells #[.int .i64 5, .int .i64 0, .string ⟨#[]⟩, .string ⟨#[]⟩, .slice none 0 0] 43)) (fun b => w0.heap.size + 1 ≤ b ∧ b < (w0.alloc (.cells #[.int .i64 5, .int .i64 0, .string ⟨#[]⟩, .string ⟨#[]⟩, .slice none 0 0] 43)).heap.size) (tallT 0) (rcs 5 0 ⟨#[]⟩ ⟨#[]⟩ none 0 0) from RdP.leaf _ _ 5 0 ⟨#[]⟩ ⟨#[]⟩ (by omega) (by omega) (Nat.zero_le _) (Nat.zero_le _))
      generalize L.length = ln at *
      go_wp2_with fail
      go_loopw [9] (fun i wr => ∃ (p : Nat) (k q : Int) (y v : ByteArray) (kA : Option Addr) (m kc : Nat), i = .int .i64 ((p : Int) + 1) ∧ p ≤ D ∧ Hid (RdP wr (fun b => w0.heap.size + 1 ≤ b ∧ b < wr.heap.size) (tallT p) (rcs k q y v kA m kc)) ∧ Hid (wr.heap[w0.heap.size]? = some (.cells #[.int .i64 k, .int .i64 q, .string y, .string v, .slice kA m kc] 43)) ∧ Hid (Below w0.heap.size w0 wr) ∧ w0.heap.size + 1 ≤ wr.heap.size) (fun i _ => D + 1 - (intOf i).toNat)
      case atStart => exact ⟨0, 5, 0, ⟨#[]⟩, ⟨#[]⟩, none, 0, 0, rfl, by omega, HL8, HX8, HB8, hz8⟩
      case round =>
        obtain ⟨p, k, q, y, v, kA, m, kc, rfl, hp, HTR, HRB, HBB, hwb2⟩ := hrel
        by_cases hlp : p < D
        · have HLIT := Lib.hid ((Below.refl wr.heap.size wr).alloc (Nat.le_refl _) (.cells #[.int .i64 k, .int .i64 q, .string y, .string v, .slice kA m kc] 43))
          have c0 : wr.cell? ⟨w0.heap.size, 0, none⟩ = some (.int .i64 k) := cell_of_row _ _ 0 _ _ (0, 0) HRB.out
          have c1 : wr.cell? ⟨w0.heap.size, 1, none⟩ = some (.int .i64 q) := cell_of_row _ _ 1 _ _ (0, 0) HRB.out
          have c2 : wr.cell? ⟨w0.heap.size, 2, none⟩ = some (.string y) := cell_of_row _ _ 2 _ _ (0, 0) HRB.out
          have c3 : wr.cell? ⟨w0.heap.size, 3, none⟩ = some (.string v) := cell_of_row _ _ 3 _ _ (0, 0) HRB.out
          have c4 : wr.cell? ⟨w0.heap.size, 4, none⟩ = some (.slice kA m kc) := cell_of_row _ _ 4 _ _ (0, 0) HRB.out
          have cf0 : wr.frozen? ⟨w0.heap.size, 0, none⟩ = false := frz HRB.out
          have cf1 : wr.frozen? ⟨w0.heap.size, 1, none⟩ = false := frz HRB.out
          have cf2 : wr.frozen? ⟨w0.heap.size, 2, none⟩ = false := frz HRB.out
          have cf3 : wr.frozen? ⟨w0.heap.size, 3, none⟩ = false := frz HRB.out
          have cf4 : wr.frozen? ⟨w0.heap.size, 4, none⟩ = false := frz HRB.out
          have hne8 : w0.heap.size ≠ wr.heap.size := by omega
          have hlt8 : w0.heap.size < wr.heap.size := by omega
          go_wp2_with fail
          go_roundw
          case rel =>
            obtain ⟨s1, s2, s3, s4⟩ := tall_step wr w0.heap.size (tallT p) k q y v kA m kc HRB.out HTR.out
            exact ⟨p + 1, 3, 0, ⟨#[]⟩, ⟨#[]⟩, some ⟨wr.heap.size, 0, none⟩, 1, 1, by go_num, by omega, Lib.hid s1, Lib.hid s2, Lib.hid (HBB.out.trans s3), by omega⟩
          case measure => simp [intOf]; omega
        · obtain rfl : p = D := by omega
          have HRWr := Lib.hid ((HBB.out.block w1.heap.size (by omega)).trans HRW.out)
          have HTW := Lib.hid (((HT6.out.heap (w' := wr) fun b hb => HBB.out.block b hb.2).toR (B := wr.heap.size) fun b hb => by omega))
          have HTT := Lib.hid (HTR.out.toR (B := wr.heap.size) fun b hb => hb.2)
          have HBZ := Lib.hid (HB1.out.trans ((HBW.out.trans (HBB.out.mono (by omega))).mono HB1.out.size))
          have C1 := Lib.hid (fun V (hV : Below wr.heap.size wr V) => right_all HTW.out V hV hV.size)
          have C2 := Lib.hid (fun V (hV : Below wr.heap.size wr V) => right_all HTT.out V hV hV.size)
          have C3 := Lib.hid (fun V (hV : Below wr.heap.size wr V) => bytes_all HTW.out V hV hV.size (fun _ => by have := wide_bts j; omega))
          have C4 := Lib.hid (fun V (hV : Below wr.heap.size wr V) => bytes_all HTT.out V hV hV.size (fun _ => by have := (tall_facts p).2.2.2; omega))
          rw [wide_right] at C1 C3
          rw [tall_right] at C2 C4
          have HP1 := Lib.hid (wideT j).bts_ne
          have HP2 := Lib.hid (tallT p).bts_ne
          generalize (wideT j).bts = bw at *
          generalize (tallT p).bts = bt at *
          simp only [rcs] at C1 C2 C3 C4
          clear HTW HTT HT6 HTR
          have STAY := Lib.hid (show ∀ V, Below wr.heap.size wr V → V.heap[w1.heap.size]? = some (.cells #[.int .i64 2, .int .i64 0, .string ⟨#[]⟩, .string ⟨#[]⟩, .slice A6 ln c6] 43) ∧ V.heap[w0.heap.size]? = some (.cells #[.int .i64 k, .int .i64 q, .string y, .string v, .slice kA m kc] 43) from fun V hV => ⟨(hV.block _ (by omega)).trans HRWr.out, (hV.block _ (by omega)).trans HRB.out⟩)
          have hw19 : (j ≤ 19 ∧ decide (j ≤ 19) = true) ∨ (19 < j ∧ decide (j ≤ 19) = false) := by
            rcases Nat.lt_or_ge 19 j with h | h
            · exact Or.inr ⟨h, by simp; omega⟩
            · exact Or.inl ⟨h, by simp; omega⟩
          have hd4 : (p ≤ 4 ∧ decide (p ≤ 4) = true) ∨ (4 < p ∧ decide (p ≤ 4) = false) := by
            rcases Nat.lt_or_ge 4 p with h | h
            · exact Or.inr ⟨h, by simp; omega⟩
            · exact Or.inl ⟨h, by simp; omega⟩
          rcases hw19 with ⟨hw, ew⟩ | ⟨hw, ew⟩ <;> rcases hd4 with ⟨hd, ed⟩ | ⟨hd, ed⟩
          all_goals
            rw [ew] at C1 C3
            rw [ed] at C2 C4
            simp only [if_true, Bool.false_eq_true, if_false] at C3 C4
            clear ew ed
            have c0 : wr.cell? ⟨w1.heap.size, 0, none⟩ = some (.int .i64 2) := cell_of_row _ _ 0 _ _ (0, 0) HRWr.out
            have c1 : wr.cell? ⟨w1.heap.size, 1, none⟩ = some (.int .i64 0) := cell_of_row _ _ 1 _ _ (0, 0) HRWr.out
            have c2 : wr.cell? ⟨w1.heap.size, 2, none⟩ = some (.string ⟨#[]⟩) := cell_of_row _ _ 2 _ _ (0, 0) HRWr.out
            have c3 : wr.cell? ⟨w1.heap.size, 3, none⟩ = some (.string ⟨#[]⟩) := cell_of_row _ _ 3 _ _ (0, 0) HRWr.out
            have c4 : wr.cell? ⟨w1.heap.size, 4, none⟩ = some (.slice A6 ln c6) := cell_of_row _ _ 4 _ _ (0, 0) HRWr.out
            have e0 : wr.cell? ⟨w0.heap.size, 0, none⟩ = some (.int .i64 k) := cell_of_row _ _ 0 _ _ (0, 0) HRB.out
            have e1 : wr.cell? ⟨w0.heap.size, 1, none⟩ = some (.int .i64 q) := cell_of_row _ _ 1 _ _ (0, 0) HRB.out
            have e2 : wr.cell? ⟨w0.heap.size, 2, none⟩ = some (.string y) := cell_of_row _ _ 2 _ _ (0, 0) HRB.out
            have e3 : wr.cell? ⟨w0.heap.size, 3, none⟩ = some (.string v) := cell_of_row _ _ 3 _ _ (0, 0) HRB.out
            have e4 : wr.cell? ⟨w0.heap.size, 4, none⟩ = some (.slice kA m kc) := cell_of_row _ _ 4 _ _ (0, 0) HRB.out
            go_wp2_with (first
              | (have hd := done3; clear done3; go_at_call 24; (with_reducible refine (C4.out _ X3.out).mono ?_); rintro e v4 ⟨x4, rfl, ho4, hb4⟩; obtain ⟨A4, k4, rfl, _, _⟩ := own_rd ho4; have X4 := Lib.hid (X3.out.trans (hb4.mono X3.out.size)); have hp4 := HP2.out; (clear c0 c1 c2 c3 c4 e0 e1 e2 e3 e4); clear ho4 hb4; have done4 := trivial)
              | (have hd := done2; clear done2; go_at_call 24; (with_reducible refine (C3.out _ X2.out).mono ?_); rintro e v3 ⟨x3, rfl, ho3, hb3⟩; obtain ⟨A3, k3, rfl, _, _⟩ := own_rd ho3; have X3 := Lib.hid (X2.out.trans (hb3.mono X2.out.size)); have hp3 := HP1.out; (clear c0 c1 c2 c3 c4 e0 e1 e2 e3 e4); have R6 := (STAY.out v3 X3.out).1; have R8 := (STAY.out v3 X3.out).2; have c0 : v3.cell? ⟨w1.heap.size, 0, none⟩ = some (.int .i64 2) := cell_of_row _ _ 0 _ _ (0, 0) R6; have c1 : v3.cell? ⟨w1.heap.size, 1, none⟩ = some (.int .i64 0) := cell_of_row _ _ 1 _ _ (0, 0) R6; have c2 : v3.cell? ⟨w1.heap.size, 2, none⟩ = some (.string ⟨#[]⟩) := cell_of_row _ _ 2 _ _ (0, 0) R6; have c3 : v3.cell? ⟨w1.heap.size, 3, none⟩ = some (.string ⟨#[]⟩) := cell_of_row _ _ 3 _ _ (0, 0) R6; have c4 : v3.cell? ⟨w1.heap.size, 4, none⟩ = some (.slice A6 ln c6) := cell_of_row _ _ 4 _ _ (0, 0) R6; have e0 : v3.cell? ⟨w0.heap.size, 0, none⟩ = some (.int .i64 k) := cell_of_row _ _ 0 _ _ (0, 0) R8; have e1 : v3.cell? ⟨w0.heap.size, 1, none⟩ = some (.int .i64 q) := cell_of_row _ _ 1 _ _ (0, 0) R8; have e2 : v3.cell? ⟨w0.heap.size, 2, none⟩ = some (.string y) := cell_of_row _ _ 2 _ _ (0, 0) R8; have e3 : v3.cell? ⟨w0.heap.size, 3, none⟩ = some (.string v) := cell_of_row _ _ 3 _ _ (0, 0) R8; have e4 : v3.cell? ⟨w0.heap.size, 4, none⟩ = some (.slice kA m kc) := cell_of_row _ _ 4 _ _ (0, 0) R8; clear R6 R8; clear ho3 hb3; have done3 := trivial)
              | (have hd := done1; clear done1; go_at_call 27; (with_reducible refine (C2.out _ X1.out).mono ?_); rintro e v2 ⟨rfl, hb2⟩; have X2 := Lib.hid (X1.out.trans (hb2.mono X1.out.size)); (clear c0 c1 c2 c3 c4 e0 e1 e2 e3 e4); have R6 := (STAY.out v2 X2.out).1; have R8 := (STAY.out v2 X2.out).2; have c0 : v2.cell? ⟨w1.heap.size, 0, none⟩ = some (.int .i64 2) := cell_of_row _ _ 0 _ _ (0, 0) R6; have c1 : v2.cell? ⟨w1.heap.size, 1, none⟩ = some (.int .i64 0) := cell_of_row _ _ 1 _ _ (0, 0) R6; have c2 : v2.cell? ⟨w1.heap.size, 2, none⟩ = some (.string ⟨#[]⟩) := cell_of_row _ _ 2 _ _ (0, 0) R6; have c3 : v2.cell? ⟨w1.heap.size, 3, none⟩ = some (.string ⟨#[]⟩) := cell_of_row _ _ 3 _ _ (0, 0) R6; have c4 : v2.cell? ⟨w1.heap.size, 4, none⟩ = some (.slice A6 ln c6) := cell_of_row _ _ 4 _ _ (0, 0) R6; have e0 : v2.cell? ⟨w0.heap.size, 0, none⟩ = some (.int .i64 k) := cell_of_row _ _ 0 _ _ (0, 0) R8; have e1 : v2.cell? ⟨w0.heap.size, 1, none⟩ = some (.int .i64 q) := cell_of_row _ _ 1 _ _ (0, 0) R8; have e2 : v2.cell? ⟨w0.heap.size, 2, none⟩ = some (.string y) := cell_of_row _ _ 2 _ _ (0, 0) R8; have e3 : v2.cell? ⟨w0.heap.size, 3, none⟩ = some (.string v) := cell_of_row _ _ 3 _ _ (0, 0) R8; have e4 : v2.cell? ⟨w0.heap.size, 4, none⟩ = some (.slice kA m kc) := cell_of_row _ _ 4 _ _ (0, 0) R8; clear R6 R8; clear hb2; have done2 := trivial)
              | (go_at_call 27; (with_reducible refine (C1.out _ (Below.refl _ _)).mono ?_); rintro e v1 ⟨rfl, hb1⟩; have X1 := Lib.hid hb1; (clear c0 c1 c2 c3 c4 e0 e1 e2 e3 e4); have R6 := (STAY.out v1 X1.out).1; have R8 := (STAY.out v1 X1.out).2; have c0 : v1.cell? ⟨w1.heap.size, 0, none⟩ = some (.int .i64 2) := cell_of_row _ _ 0 _ _ (0, 0) R6; have c1 : v1.cell? ⟨w1.heap.size, 1, none⟩ = some (.int .i64 0) := cell_of_row _ _ 1 _ _ (0, 0) R6; have c2 : v1.cell? ⟨w1.heap.size, 2, none⟩ = some (.string ⟨#[]⟩) := cell_of_row _ _ 2 _ _ (0, 0) R6; have c3 : v1.cell? ⟨w1.heap.size, 3, none⟩ = some (.string ⟨#[]⟩) := cell_of_row _ _ 3 _ _ (0, 0) R6; have c4 : v1.cell? ⟨w1.heap.size, 4, none⟩ = some (.slice A6 ln c6) := cell_of_row _ _ 4 _ _ (0, 0) R6; have e0 : v1.cell? ⟨w0.heap.size, 0, none⟩ = some (.int .i64 k) := cell_of_row _ _ 0 _ _ (0, 0) R8; have e1 : v1.cell? ⟨w0.heap.size, 1, none⟩ = some (.int .i64 q) := cell_of_row _ _ 1 _ _ (0, 0) R8; have e2 : v1.cell? ⟨w0.heap.size, 2, none⟩ = some (.string y) := cell_of_row _ _ 2 _ _ (0, 0) R8; have e3 : v1.cell? ⟨w0.heap.size, 3, none⟩ = some (.string v) := cell_of_row _ _ 3 _ _ (0, 0) R8; have e4 : v1.cell? ⟨w0.heap.size, 4, none⟩ = some (.slice kA m kc) := cell_of_row _ _ 4 _ _ (0, 0) R8; clear R6 R8; clear hb1; have done1 := trivial))
            all_goals
              go_ret
              exact ⟨by first | rfl | (simp; done) | (simp; omega), HBZ.out.trans (X4.out.mono HBZ.out.size)⟩
end Go.Proofs.Ytajpnimjkkmcmaa
