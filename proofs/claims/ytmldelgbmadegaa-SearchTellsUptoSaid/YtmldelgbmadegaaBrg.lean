/- slices.Compact of a sorted row of traces: each once. -/
import Derived.Test.YtmldelgbmadegaaBrd
import Derived.Test.YtmldelgbmadegaaIg
import Derived.RegionTactic
import Derived.ChangeAlike
import Derived.BigRegion
namespace Go.Proofs.Ytmldelgbmadegaa
open Go.RowKit
set_option linter.unusedVariables false
set_option linter.unusedSimpArgs false
set_option maxRecDepth 100000

theorem flatT_drop (l : List Tc) : ∀ k, (l.flatMap trC).drop (k * 2) = (l.drop k).flatMap trC := by
  induction l with
  | nil => intro k; simp
  | cons x r ih =>
    intro k
    cases k with
    | zero => simp
    | succ k =>
      rw [List.flatMap_cons, List.drop_succ_cons, ← ih k, List.drop_append]
      have h6 : (trC x).length = 2 := rfl
      rw [h6, List.drop_of_length_le (by rw [h6]; omega), List.nil_append, show (k + 1) * 2 - 2 = k * 2 by omega]
theorem flatT_take (l : List Tc) : ∀ k, (l.flatMap trC).take (k * 2) = (l.take k).flatMap trC := by
  induction l with
  | nil => intro k; simp
  | cons x r ih =>
    intro k
    cases k with
    | zero => simp
    | succ k =>
      rw [List.flatMap_cons, List.take_succ_cons, List.flatMap_cons, ← ih k, List.take_append]
      have h6 : (trC x).length = 2 := rfl
      rw [h6, List.take_of_length_le (by rw [h6]; omega), show (k + 1) * 2 - 2 = k * 2 by omega]
section
variable {w : World} {base g cap n : Nat} {L : List Tc}
theorem own_lenT (h : w.ownsRow base 28 2 (.slice (some ⟨g, 0, none⟩) n cap) n ((L).flatMap trC)) : L.length = n := by
  have h1 := h.1
  rw [flatMap_len _ 2 trc_len] at h1
  omega
theorem own_cellsT (h : w.ownsRow base 28 2 (.slice (some ⟨g, 0, none⟩) n cap) n ((L).flatMap trC)) {k : Nat} {x : Tc} (hx : L[k]? = some x) :
    w.cell? ⟨g, k * 2, none⟩ = some (.int .u64 x.1) ∧ w.cell? ⟨g, k * 2 + 1, none⟩ = some (.int .u64 x.2) ∧ w.frozen? ⟨g, k * 2, none⟩ = false ∧ w.frozen? ⟨g, k * 2 + 1, none⟩ = false := by
  have hk : k < n := by rw [← own_lenT h]; exact (List.getElem?_eq_some_iff.1 hx).1
  have e : ∀ j, j < 2 → w.frozen? ⟨g, k * 2 + j, none⟩ = false ∧ w.cell? ⟨g, k * 2 + j, none⟩ = (trC x)[j]? := fun j hj => by
    obtain ⟨h1, h2, _⟩ := own_cells h (k * 2 + j) (by omega)
    refine ⟨h1, ?_⟩
    rw [h2, flatMap_at _ 2 trc_len L k j hj, hx]
    rfl
  exact ⟨(e 0 (by decide)).2, (e 1 (by decide)).2, (e 0 (by decide)).1, (e 1 (by decide)).1⟩
theorem own_setT (h : w.ownsRow base 28 2 (.slice (some ⟨g, 0, none⟩) n cap) n ((L).flatMap trC)) {k : Nat} (hk : k < n) (x : Tc) :
    ((w.setCell ⟨g, k * 2, none⟩ (.int .u64 x.1)).setCell ⟨g, k * 2 + 1, none⟩ (.int .u64 x.2)).ownsRow base 28 2 (.slice (some ⟨g, 0, none⟩) n cap) n ((L.set k x).flatMap trC) := by
  have h1 := (own_setks' (trC x) (k * 2) h (by rw [trc_len]; omega)).1
  have hl := own_lenT h
  have e : (L.flatMap trC).take (k * 2) ++ trC x ++ (L.flatMap trC).drop (k * 2 + (trC x).length) = (L.set k x).flatMap trC := by
    rw [trc_len, show k * 2 + 2 = (k + 1) * 2 by omega, flatT_take, flatT_drop, List.set_eq_take_append_cons_drop, if_pos (by omega), List.flatMap_append, List.flatMap_cons, List.append_assoc]
  rw [e] at h1
  exact h1
/-- What lies behind is cleared: the first ones are a row still. -/
theorem own_clearT (h : w.ownsRow base 28 2 (.slice (some ⟨g, 0, none⟩) n cap) n ((L).flatMap trC)) {k : Nat} (hk : k ≤ n) (vs : List Value) (hv : vs.length = (n - k) * 2) :
    (w.setCells g (k * 2) vs).ownsRow base 28 2 (.slice (some ⟨g, 0, none⟩) k cap) k ((L.take k).flatMap trC) ∧ Grew w (w.setCells g (k * 2) vs) (.slice (some ⟨g, 0, none⟩) n cap) (.slice (some ⟨g, 0, none⟩) n cap) := by
  obtain ⟨h1, h2⟩ := own_setks' vs (k * 2) h (by rw [hv]; omega)
  refine ⟨?_, h2⟩
  have h3 := own_less h1 hk
  rw [List.append_assoc, List.take_append_of_le_length (by rw [List.length_take, flatMap_len _ 2 trc_len, own_lenT h]; omega), List.take_take, Nat.min_self, flatT_take] at h3
  exact h3
end
theorem run_clear_many {P : Program} (w : World) (t e ty : TypeId) (z : Value) (ht : P.underlying t = some (.slice e)) (hv : ∀ w, (zeroValue e).run P w = .ok z w) (h1 : ∀ v ∈ z.cells.toList, v.oneCell' = true) (hz : 0 < z.cells.size) (b o n c : Nat) (hn : 0 < n)
    (hc : ∀ j, j < n * z.cells.size → (w.cell? ⟨b, o + j, none⟩).isSome = true) (hf : ∀ j, j < n * z.cells.size → w.frozen? ⟨b, o + j, none⟩ = false) :
    (Builtin.clear_ #[t] ty #[.slice (some ⟨b, o, none⟩) n c]).run P w = .ok (.tuple #[]) (w.setCells b o (Builtin.zeroCells z.cells n).toList) := by
  have hsz : (Builtin.zeroCells z.cells n).toList.length = n * z.cells.size := by rw [Array.length_toList, size_zeroCells]
  have hst := run_storeCells_cells (P := P) b o (Builtin.zeroCells z.cells n).toList 0 w (fun j hj => by rw [Nat.add_zero]; exact hc j (by omega)) (fun j hj => by rw [Nat.add_zero]; exact hf j (by omega)) (fun v hv => by
    simp only [Builtin.zeroCells, Array.toList_map, List.mem_map] at hv
    obtain ⟨i, _, rfl⟩ := hv
    have hi : i % z.cells.size < z.cells.size := Nat.mod_lt _ hz
    rw [getElem!_pos z.cells _ hi]
    exact h1 _ (Array.getElem_mem_toList _))
  simp only [Nat.add_zero] at hst
  obtain ⟨m, rfl⟩ : ∃ m, n = m + 1 := ⟨n - 1, by omega⟩
  simp [Builtin.clear_, run_underlying ht, hv, hst]
theorem below_cellsT {B g : Nat} {a : World} (hg : B ≤ g) : ∀ (vs : List Value) (o : Nat) {w : World}, Below B a w → Below B a (w.setCells g o vs)
  | [], _, _, h => h
  | u :: r, o, _, h => below_cellsT hg r (o + 1) (h.setCell hg u)
theorem zvTr : ∀ w, (zeroValue 28).run Try.prog w = .ok (.agg #[.int .u64 0, .int .u64 0]) w := fun w => by
  obtain ⟨i0, hi, hz0, hz1, hz2⟩ := info_parts infoTr
  simp [zeroValue, typeInfo, hi, hz0]
set_option maxHeartbeats 16000000 in
theorem trcompact_any {w : World} {base n : Nat} {v : Value} {l : List Tc} (hn : n = l.length) (h : w.ownsRow base 28 2 v n (l.flatMap trC)) (hS : SrtC l) (hbase : base ≤ w.heap.size) (hsm : n ≤ 1000000) :
    Calls Try.prog 114 #[v] w fun e w' => ∃ v', e = .returned v' ∧ w'.ownsRow base 28 2 v' (setC l).length ((setC l).flatMap trC) ∧ Below base w w' := by
  by_cases h2 : n < 2
  · have hi : setC l = l := by
      rcases l with _ | ⟨a, _ | ⟨b, r⟩⟩
      · rfl
      · rfl
      · simp at hn; omega
    obtain ⟨A, c, rfl, hc, hrd⟩ := own_rd h
    have HO := Lib.hid h
    rw [hi, ← hn]
    clear h hn hS hrd hi
    go_enter Try.func114, Try.ntmps114
    go_wp2_with fail
    go_ret
    exact ⟨_, rfl, HO.out, Below.refl _ _⟩
  · rcases h.2 with ⟨rfl, h0⟩ | ⟨g, cap, cur, rfl, hg, hb, hc, hm, hcs, ht⟩
    · omega
    · have HO := Lib.hid h
      have HSS := Lib.hid hS
      have HN := Lib.hid hn
      have HG := Lib.hid hg
      have hgs := in_heap hb
      have hcap : n ≤ cap ∧ cap ≤ 9223372036854775807 := ⟨hc, hm⟩
      clear h hS hn hb hc hm hcs ht hg
      go_enter Try.func114, Try.ntmps114
      go_wp2_with fail
      go_loopw [3] (fun i wr => ∃ k : Nat, i = .int .i64 k ∧ 1 ≤ k ∧ k ≤ n ∧ Hid (IncC (l.take k)) ∧ Hid (wr.ownsRow base 28 2 (.slice (some ⟨g, 0, none⟩) n cap) n ((l).flatMap trC)) ∧ Hid (Below base w wr)) (fun i _ => n - (intOf i).toNat)
      case atStart => exact ⟨1, rfl, by omega, by omega, Lib.hid (by rcases l with _ | ⟨a, r⟩ <;> simp [IncC]), Lib.hid HO.out, Lib.hid (Below.refl _ _)⟩
      case round =>
        obtain ⟨k, rfl, hk1, hk, HI, HOk, HB⟩ := hrel
        by_cases hlt : k < n
        · obtain ⟨x, hx⟩ : ∃ x, l[k]? = some x := ⟨_, List.getElem?_eq_getElem (by rw [← HN.out]; exact hlt)⟩
          obtain ⟨j, rfl⟩ : ∃ j, k = j + 1 := ⟨k - 1, by omega⟩
          obtain ⟨y, hy⟩ : ∃ y, l[j]? = some y := ⟨_, List.getElem?_eq_getElem (by rw [← HN.out]; omega)⟩
          obtain ⟨c0, c1, f0, f1⟩ := own_cellsT HOk.out hx
          obtain ⟨b0, b1, e0, e1⟩ := own_cellsT HOk.out hy
          have HX := Lib.hid hx
          have HY := Lib.hid hy
          clear hx hy
          rcases (show ((x.1 == y.1) = false) ∨ ((x.1 == y.1) = true ∧ (x.2 == y.2) = false) ∨ ((x.1 == y.1) = true ∧ (x.2 == y.2) = true) from by cases (x.1 == y.1) <;> cases (x.2 == y.2) <;> simp) with h1 | ⟨h1, h2⟩ | ⟨h1, h2⟩
          · have hne : x ≠ y := fun e => by rw [e] at h1; simp at h1
            have HI2 := Lib.hid (inc_take_step HSS.out (by omega) HI.out HX.out (by simpa using HY.out) hne)
            clear hne
            go_wp2_with fail
            go_region
            go_wp2_with fail
            go_roundw
            case rel => exact ⟨j + 1 + 1, by go_num, by omega, by omega, HI2, HOk, Lib.hid HB.out.drew⟩
            case measure => simp [intOf]; omega
          · have hne : x ≠ y := fun e => by rw [e] at h2; simp at h2
            have HI2 := Lib.hid (inc_take_step HSS.out (by omega) HI.out HX.out (by simpa using HY.out) hne)
            clear hne
            go_wp2_with fail
            go_region
            go_wp2_with fail
            go_roundw
            case rel => exact ⟨j + 1 + 1, by go_num, by omega, by omega, HI2, HOk, Lib.hid HB.out.drew⟩
            case measure => simp [intOf]; omega
          · have hxy : x = y := Prod.ext (beq_iff_eq.1 h1) (beq_iff_eq.1 h2)
            have HC0 : Hid (CmpI l (l.take (j + 1)) (j + 1 + 1)) := Lib.hid (CmpI.first (by omega) HI.out HX.out (by rw [hxy]; simpa using HY.out))
            have HR0 : Hid (wr.drew.ownsRow base 28 2 (.slice (some ⟨g, 0, none⟩) n cap) n ((l.take (j + 1) ++ l.drop (l.take (j + 1)).length).flatMap trC)) := Lib.hid (by rw [List.length_take, Nat.min_eq_left (by rw [← HN.out]; omega), List.take_append_drop]; exact HOk.out)
            have HLT : Hid ((l.take (j + 1)).length = j + 1) := Lib.hid (by rw [List.length_take, Nat.min_eq_left (by rw [← HN.out]; omega)])
            clear hxy
            go_wp2_with fail
            go_region
            go_wp2_with fail
            go_loopw [3, 5] (fun i u wr => ∃ (out : List Tc) (m : Nat), i = .int .i64 (out.length : Int) ∧ u = .int .i64 (m : Int) ∧ 1 ≤ m ∧ j + 1 + m ≤ n ∧ Hid (CmpI l out (j + 1 + m)) ∧ Hid (wr.ownsRow base 28 2 (.slice (some ⟨g, 0, none⟩) n cap) n ((out ++ l.drop out.length).flatMap trC)) ∧ Hid (Below base w wr)) (fun _ u _ => n - (intOf u).toNat)
            case atStart => exact ⟨l.take (j + 1), 1, by first | (rw [HLT.out]; done) | (rw [HLT.out]; go_num), rfl, by omega, by omega, HC0, HR0, Lib.hid HB.out.drew⟩
            case round =>
              obtain ⟨out, m, rfl, rfl, hm1, hm, HC, HR, HB9⟩ := hrel
              obtain ⟨q, hq⟩ : ∃ q, out.length = q := ⟨_, rfl⟩
              have hle := HC.out.le
              rw [hq] at hle HR ⊢
              have HQ := Lib.hid hq
              clear hq
              clear c0 c1 f0 f1 b0 b1 e0 e1
              by_cases hlt2 : j + 1 + m < n
              · obtain ⟨m, rfl⟩ : ∃ i, m = i + 1 := ⟨m - 1, by omega⟩
                obtain ⟨x2, hx2⟩ : ∃ x, l[j + 1 + (m + 1)]? = some x := ⟨_, List.getElem?_eq_getElem (by rw [← HN.out]; exact hlt2)⟩
                obtain ⟨y2, hy2⟩ : ∃ x, l[j + 1 + m]? = some x := ⟨_, List.getElem?_eq_getElem (by rw [← HN.out]; omega)⟩
                have hR : ∀ i z, q ≤ i → l[i]? = some z → (out ++ l.drop q)[i]? = some z := fun i z hi hz => by rw [List.getElem?_append_right (by rw [HQ.out]; exact hi), HQ.out, List.getElem?_drop, show q + (i - q) = i by omega]; exact hz
                obtain ⟨c0, c1, f0, f1⟩ := own_cellsT HR.out (hR _ _ (by omega) hx2)
                obtain ⟨b0, b1, e0, e1⟩ := own_cellsT HR.out (hR _ _ (by omega) hy2)
                rw [show (j + 1 + (m + 1)) * 2 = (j + 1) * 2 + (m + 1) * 2 by omega] at c0 c1 f0 f1
                rw [show (j + 1 + m) * 2 = (j + 1) * 2 + m * 2 by omega] at b0 b1 e0 e1
                have HX2 := Lib.hid hx2
                have HY2 := Lib.hid hy2
                clear hx2 hy2 hR
                rcases (show ((x2.1 == y2.1) = false) ∨ ((x2.1 == y2.1) = true ∧ (x2.2 == y2.2) = false) ∨ ((x2.1 == y2.1) = true ∧ (x2.2 == y2.2) = true) from by cases (x2.1 == y2.1) <;> cases (x2.2 == y2.2) <;> simp) with g1 | ⟨g1, g2⟩ | ⟨g1, g2⟩
                · have hne : x2 ≠ y2 := fun e => by rw [e] at g1; simp at g1
                  have HC2 := Lib.hid (HC.out.next HSS.out HX2.out (show l[j + 1 + (m + 1) - 1]? = some y2 from HY2.out) hne)
                  clear hne
                  have hqn : q < (out ++ l.drop q).length := by rw [own_lenT HR.out]; omega
                  obtain ⟨zq, hzq⟩ : ∃ z, (out ++ l.drop q)[q]? = some z := ⟨_, List.getElem?_eq_getElem hqn⟩
                  obtain ⟨d0, d1, g0f, g1f⟩ := own_cellsT HR.out hzq
                  have HSET := Lib.hid (own_setT HR.out (k := q) (by omega) x2)
                  have HEQ : Hid ((out ++ l.drop q).set q x2 = (out ++ [x2]) ++ l.drop (q + 1)) := Lib.hid (by rw [List.set_append_right _ _ (by rw [HQ.out]; exact Nat.le_refl _), HQ.out, Nat.sub_self, List.append_assoc, List.drop_eq_getElem_cons (by rw [← HN.out]; omega)]; rfl)
                  have HG9 := HG.out
                  clear hzq hqn
                  go_wp2_with fail
                  go_region
                  go_wp2_with fail
                  go_roundw
                  case rel => exact ⟨out ++ [x2], m + 1 + 1, by rw [List.length_append, HQ.out]; go_num, by go_num, by omega, by omega, HC2, Lib.hid (by rw [List.length_append, HQ.out, List.length_singleton, ← HEQ.out]; exact HSET.out), Lib.hid ((HB9.out.setCell (p := ⟨g, q * 2, none⟩) HG9 _).setCell (p := ⟨g, q * 2 + 1, none⟩) HG9 _).drew⟩
                  case measure => simp [intOf]; omega
                · have hne : x2 ≠ y2 := fun e => by rw [e] at g2; simp at g2
                  have HC2 := Lib.hid (HC.out.next HSS.out HX2.out (show l[j + 1 + (m + 1) - 1]? = some y2 from HY2.out) hne)
                  clear hne
                  have hqn : q < (out ++ l.drop q).length := by rw [own_lenT HR.out]; omega
                  obtain ⟨zq, hzq⟩ : ∃ z, (out ++ l.drop q)[q]? = some z := ⟨_, List.getElem?_eq_getElem hqn⟩
                  obtain ⟨d0, d1, g0f, g1f⟩ := own_cellsT HR.out hzq
                  have HSET := Lib.hid (own_setT HR.out (k := q) (by omega) x2)
                  have HEQ : Hid ((out ++ l.drop q).set q x2 = (out ++ [x2]) ++ l.drop (q + 1)) := Lib.hid (by rw [List.set_append_right _ _ (by rw [HQ.out]; exact Nat.le_refl _), HQ.out, Nat.sub_self, List.append_assoc, List.drop_eq_getElem_cons (by rw [← HN.out]; omega)]; rfl)
                  have HG9 := HG.out
                  clear hzq hqn
                  go_wp2_with fail
                  go_region
                  go_wp2_with fail
                  go_roundw
                  case rel => exact ⟨out ++ [x2], m + 1 + 1, by rw [List.length_append, HQ.out]; go_num, by go_num, by omega, by omega, HC2, Lib.hid (by rw [List.length_append, HQ.out, List.length_singleton, ← HEQ.out]; exact HSET.out), Lib.hid ((HB9.out.setCell (p := ⟨g, q * 2, none⟩) HG9 _).setCell (p := ⟨g, q * 2 + 1, none⟩) HG9 _).drew⟩
                  case measure => simp [intOf]; omega
                · have hxy : x2 = y2 := Prod.ext (beq_iff_eq.1 g1) (beq_iff_eq.1 g2)
                  have HC2 := Lib.hid (HC.out.same HX2.out (show l[j + 1 + (m + 1) - 1]? = some x2 from by rw [hxy]; exact HY2.out))
                  clear hxy
                  go_wp2_with fail
                  go_region
                  go_wp2_with fail
                  go_roundw
                  case rel => exact ⟨out, m + 1 + 1, by rw [HQ.out], by go_num, by omega, by omega, HC2, Lib.hid (by rw [HQ.out]; exact HR.out), Lib.hid HB9.out.drew⟩
                  case measure => simp [intOf]; omega

              · have hnm : n = j + 1 + m := by omega
                have d9 : decide ((m : Int) < ((n - (j + 1) : Nat) : Int)) = false := decide_eq_false (by omega)
                have hfin : out = setC l := CmpI.fin (by rw [← HN.out, hnm]; exact HC.out)
                have hqk : q < n := by omega
                have hcl : ∀ ty, (Builtin.clear_ #[76] ty #[.slice (some ⟨g, q * 2, none⟩) (n - q) (cap - q)]).run Try.prog wr = .ok (.tuple #[]) (wr.setCells g (q * 2) (Builtin.zeroCells #[.int .u64 0, .int .u64 0] (n - q)).toList) :=
                  fun ty => run_clear_many wr _ _ ty (.agg #[.int .u64 0, .int .u64 0]) Try.underlying76 zvTr (by decide) (by decide) g (q * 2) (n - q) (cap - q) (by omega) (fun i hi => (own_cells HR.out (q * 2 + i) (by have : i < (n - q) * 2 := hi; omega)).2.2) (fun i hi => (own_cells HR.out (q * 2 + i) (by have : i < (n - q) * 2 := hi; omega)).1)
                have HCLR := Lib.hid (own_clearT HR.out (k := q) (by omega) (Builtin.zeroCells #[.int .u64 0, .int .u64 0] (n - q)).toList (by rw [Array.length_toList, size_zeroCells]; rfl))
                have HTK : Hid ((out ++ l.drop q).take q = out) := Lib.hid (by rw [List.take_append_of_le_length (by rw [HQ.out]; exact Nat.le_refl _), List.take_of_length_le (by rw [HQ.out]; exact Nat.le_refl _)])
                have HFIN := Lib.hid hfin
                have hq1 : q ≤ n := by omega
                have hq2 : q < cap := by omega
                clear hfin hnm hm hle
                go_wp2_with fail
                go_ret
                exact ⟨_, rfl, by rw [← HFIN.out, HQ.out]; have h9 := HCLR.out.1; rw [HTK.out] at h9; exact h9, below_cellsT HG.out _ _ HB9.out⟩


        · obtain rfl : k = n := by omega
          have hi : l = setC l := inc_fin (by have := HI.out; rwa [List.take_of_length_le (by rw [← HN.out]; exact Nat.le_refl _)] at this)
          have HOf : Hid (wr.ownsRow base 28 2 (.slice (some ⟨g, 0, none⟩) k cap) (setC l).length ((setC l).flatMap trC)) := Lib.hid (by rw [← hi, ← HN.out]; exact HOk.out)
          clear hi
          go_wp2_with fail
          go_ret
          exact ⟨_, rfl, HOf.out, HB.out⟩
end Go.Proofs.Ytmldelgbmadegaa
