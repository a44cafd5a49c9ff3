/- The document's SameRule: are two policies one? -/
import Derived.Test.YtgiahfjndononaaDoorRp
import Derived.Deep.RegionHeld3
import Derived.Deep.DeepCutAuto
namespace Go.Proofs.YtgiahfjndononaaDoor
open Go.RowKit
set_option linter.unusedVariables false
set_option linter.unusedSimpArgs false
set_option maxRecDepth 100000

theorem str_inj {s t : ByteArray} (h : s.toList = t.toList) : s = t := by
  have e : ∀ s : ByteArray, s.toList = s.data.toList := fun s => by
    obtain ⟨⟨l⟩⟩ := s
    exact ByteArray.toList_mk l
  rw [e, e] at h
  exact ByteArray.ext (Array.toList_inj.mp h)
theorem alloc_keep' {S : World} {o x : Obj} {c : Nat} (h : S.heap[c]? = some x) : (S.alloc o).heap[c]? = some x := (heap_alloc_old S o (Array.getElem?_eq_some_iff.1 h).1).trans h
set_option maxHeartbeats 32000000 in
theorem refsame_rec {w : World} {B : Nat} {t : Rt} {c : List Value} (h : RdR w B t c) : ∀ (u : Rt) (d : List Value), RdR w B u d → ∀ (W : World), Below B w W → B ≤ W.heap.size →
    Calls Tryd.prog 13 #[.agg c.toArray, .agg d.toArray] W fun e w' => ∃ b, e = .returned (.bool b) ∧ (b = true ↔ t = u) ∧ Below W.heap.size W w' := by
  induction h with
  | mk k n key val kids kA kc cs h1 h2 h3 h4 h5 h6 hrow hkid ih =>
    intro u d hu W hW hBW
    cases hu with
    | mk k' n' key' val' kids' kB kd ds g1 g2 g3 g4 g5 g6 hrow' hkid' =>
    have HROW := Lib.hid hrow
    have HKID := Lib.hid hkid
    have HROW2 := Lib.hid hrow'
    have HKID2 := Lib.hid hkid'
    have IH := Lib.hid ih
    have HW := Lib.hid hW
    have HBW := Lib.hid hBW
    clear hrow hkid ih hW hBW hrow' hkid' h1 h2 h3 h4 g1 g2 g3 g4
    simp only [rcs]
    by_cases hE : k = k' ∧ n = n' ∧ key = key' ∧ val = val' ∧ kids.length = kids'.length
    · obtain ⟨rfl, rfl, rfl, rfl, hl⟩ := hE
      obtain ⟨q, hq⟩ : ∃ q, kids.length = q := ⟨_, rfl⟩
      have hq' : kids'.length = q := by omega
      have HQ := Lib.hid hq
      have HQ2 := Lib.hid hq'
      rw [hq] at h5
      rw [hq'] at g5
      rw [hq, hq']
      simp only [maxLen] at h6 g6
      clear hl hq hq'
      have HBX0 := ((Below.refl W.heap.size W).alloc (Nat.le_refl _) (.cells #[.int .i64 k, .int .i64 n, .string key, .string val, .slice kA q kc] 24)).alloc (by simp) (.cells #[.int .i64 k, .int .i64 n, .string key, .string val, .slice kB q kd] 24)
      have r0 := alloc_keep' (o := (.cells #[.int .i64 k, .int .i64 n, .string key, .string val, .slice kB q kd] 24)) (heap_alloc_new W (.cells #[.int .i64 k, .int .i64 n, .string key, .string val, .slice kA q kc] 24))
      have r1 := heap_alloc_new (W.alloc (.cells #[.int .i64 k, .int .i64 n, .string key, .string val, .slice kA q kc] 24)) (.cells #[.int .i64 k, .int .i64 n, .string key, .string val, .slice kB q kd] 24)
      rw [show (W.alloc (.cells #[.int .i64 k, .int .i64 n, .string key, .string val, .slice kA q kc] 24)).heap.size = W.heap.size + 1 from by simp] at r1
      have hz0 : W.heap.size + 1 < ((W.alloc (.cells #[.int .i64 k, .int .i64 n, .string key, .string val, .slice kA q kc] 24)).alloc (.cells #[.int .i64 k, .int .i64 n, .string key, .string val, .slice kB q kd] 24)).heap.size := by simp
      go_enter Tryd.func13, Tryd.ntmps13
      go_wp2_with fail
      generalize hWX : (W.alloc (.cells #[.int .i64 k, .int .i64 n, .string key, .string val, .slice kA q kc] 24)).alloc (.cells #[.int .i64 k, .int .i64 n, .string key, .string val, .slice kB q kd] 24) = WX at *
      have HS := Lib.hid (show ∀ V, Below WX.heap.size WX V → ((V.cell? ⟨W.heap.size, 0, none⟩ = some (.int .i64 k) ∧ V.cell? ⟨W.heap.size, 1, none⟩ = some (.int .i64 n) ∧ V.cell? ⟨W.heap.size, 2, none⟩ = some (.string key) ∧ V.cell? ⟨W.heap.size, 3, none⟩ = some (.string val) ∧ V.cell? ⟨W.heap.size, 4, none⟩ = some (.slice kA q kc)) ∧ (V.cell? ⟨W.heap.size + 1, 0, none⟩ = some (.int .i64 k) ∧ V.cell? ⟨W.heap.size + 1, 1, none⟩ = some (.int .i64 n) ∧ V.cell? ⟨W.heap.size + 1, 2, none⟩ = some (.string key) ∧ V.cell? ⟨W.heap.size + 1, 3, none⟩ = some (.string val) ∧ V.cell? ⟨W.heap.size + 1, 4, none⟩ = some (.slice kB q kd))) ∧ Below W.heap.size W V ∧ W.heap.size + 1 < V.heap.size from
        fun V hV => ⟨⟨⟨(hV.cell (p := ⟨W.heap.size, 0, none⟩) (show W.heap.size < _ from by omega)).trans (cell_of_row _ _ 0 _ _ (0, 0) r0), (hV.cell (p := ⟨W.heap.size, 1, none⟩) (show W.heap.size < _ from by omega)).trans (cell_of_row _ _ 1 _ _ (0, 0) r0), (hV.cell (p := ⟨W.heap.size, 2, none⟩) (show W.heap.size < _ from by omega)).trans (cell_of_row _ _ 2 _ _ (0, 0) r0), (hV.cell (p := ⟨W.heap.size, 3, none⟩) (show W.heap.size < _ from by omega)).trans (cell_of_row _ _ 3 _ _ (0, 0) r0), (hV.cell (p := ⟨W.heap.size, 4, none⟩) (show W.heap.size < _ from by omega)).trans (cell_of_row _ _ 4 _ _ (0, 0) r0)⟩, ⟨(hV.cell (p := ⟨W.heap.size + 1, 0, none⟩) hz0).trans (cell_of_row _ _ 0 _ _ (0, 0) r1), (hV.cell (p := ⟨W.heap.size + 1, 1, none⟩) hz0).trans (cell_of_row _ _ 1 _ _ (0, 0) r1), (hV.cell (p := ⟨W.heap.size + 1, 2, none⟩) hz0).trans (cell_of_row _ _ 2 _ _ (0, 0) r1), (hV.cell (p := ⟨W.heap.size + 1, 3, none⟩) hz0).trans (cell_of_row _ _ 3 _ _ (0, 0) r1), (hV.cell (p := ⟨W.heap.size + 1, 4, none⟩) hz0).trans (cell_of_row _ _ 4 _ _ (0, 0) r1)⟩⟩, HBX0.trans (hV.mono (by omega)), Nat.lt_of_lt_of_le hz0 hV.size⟩)
      have HZ0 := Lib.hid hz0
      clear r0 r1 hWX hz0 HBX0
      have HSTART := Lib.hid (Below.refl WX.heap.size WX)
      go_loopw [5] (fun i wr => ∃ (j : Nat), i = .int .i64 (j : Int) ∧ j ≤ q ∧ Hid (∀ i, i < j → kids[i]? = kids'[i]?) ∧ Hid (Below WX.heap.size WX wr)) (fun i _ => q - (intOf i).toNat)
      case atStart => exact ⟨0, rfl, by omega, Lib.hid (fun i h => absurd h (Nat.not_lt_zero i)), HSTART⟩
      case round =>
        obtain ⟨j, rfl, hj, HY, HBB⟩ := hrel
        obtain ⟨⟨⟨t0, t1, t2, t3, t4⟩, ⟨u0, u1, u2, u3, u4⟩⟩, hb, hzr⟩ := HS.out wr HBB.out
        have HB := Lib.hid hb
        by_cases hlt : j < q
        · clear hb
          obtain ⟨r, hr⟩ : ∃ r, kids[j]? = some r := ⟨_, List.getElem?_eq_getElem (by rw [HQ.out]; exact hlt)⟩
          obtain ⟨r', hr'⟩ : ∃ r', kids'[j]? = some r' := ⟨_, List.getElem?_eq_getElem (by rw [HQ2.out]; exact hlt)⟩
          have hww : Below B w wr := HW.out.trans (HB.out.mono HBW.out)
          obtain ⟨a1, k1, n1, key1, val1, A1, q1, qc1, ha1, hab1, hrr1, ec1, c0, c1, c2, c3, c4⟩ := kid_cells (HROW.out.keep fun _ hp => hww.cell hp) (fun i r h => (HKID.out i r h).low hww) hr
          obtain ⟨a2, k2, n2, key2, val2, A2, q2, qc2, ha2, hab2, hrr2, ec2, d0, d1, d2, d3, d4⟩ := kid_cells (HROW2.out.keep fun _ hp => hww.cell hp) (fun i r h => (HKID2.out i r h).low hww) hr'
          have hBwr : B ≤ wr.heap.size := Nat.le_trans HBW.out HB.out.size
          have HI := Lib.hid (fun V (hV : Below wr.heap.size wr V) => IH.out j r hr r' _ (HKID2.out j r' hr') V (hww.trans (hV.mono hBwr)) (Nat.le_trans hBwr hV.size))
          rw [ec1, ec2] at HI
          simp only [rcs] at HI
          have HR := Lib.hid hr
          have HR2 := Lib.hid hr'
          subst ha1 ha2
          have HLT := Lib.hid (show a1.block < wr.heap.size ∧ a2.block < wr.heap.size from ⟨by omega, by omega⟩)
          have ST := Lib.hid (show ∀ V, Below wr.heap.size wr V → (Hid (Below WX.heap.size WX V) ∧ (V.cell? ⟨W.heap.size, 4, none⟩ = some (.slice (some a1) q kc) ∧ V.cell? ⟨W.heap.size + 1, 4, none⟩ = some (.slice (some a2) q kd)) ∧ (V.cell? (a1.add (j * 5)) = some (.int .i64 k1) ∧ V.cell? ⟨(a1.add (j * 5)).block, (a1.add (j * 5)).off + 1, none⟩ = some (.int .i64 n1) ∧ V.cell? ⟨(a1.add (j * 5)).block, (a1.add (j * 5)).off + 2, none⟩ = some (.string key1) ∧ V.cell? ⟨(a1.add (j * 5)).block, (a1.add (j * 5)).off + 3, none⟩ = some (.string val1) ∧ V.cell? ⟨(a1.add (j * 5)).block, (a1.add (j * 5)).off + 4, none⟩ = some (.slice A1 q1 qc1)) ∧ (V.cell? (a2.add (j * 5)) = some (.int .i64 k2) ∧ V.cell? ⟨(a2.add (j * 5)).block, (a2.add (j * 5)).off + 1, none⟩ = some (.int .i64 n2) ∧ V.cell? ⟨(a2.add (j * 5)).block, (a2.add (j * 5)).off + 2, none⟩ = some (.string key2) ∧ V.cell? ⟨(a2.add (j * 5)).block, (a2.add (j * 5)).off + 3, none⟩ = some (.string val2) ∧ V.cell? ⟨(a2.add (j * 5)).block, (a2.add (j * 5)).off + 4, none⟩ = some (.slice A2 q2 qc2))) from fun V hV => by
            have hX := HBB.out.trans (hV.mono HBB.out.size)
            obtain ⟨⟨x1, x2⟩, _⟩ := HS.out V hX
            have y1 : ∀ x, (a1.add x).block < wr.heap.size := fun x => by rw [block_add]; exact HLT.out.1
            have y2 : ∀ x, (a2.add x).block < wr.heap.size := fun x => by rw [block_add]; exact HLT.out.2
            exact ⟨Lib.hid hX, ⟨x1.2.2.2.2, x2.2.2.2.2⟩, ⟨(hV.cell (by show (a1.add _).block < _; exact y1 _)).trans c0, (hV.cell (by show (a1.add _).block < _; exact y1 _)).trans c1, (hV.cell (by show (a1.add _).block < _; exact y1 _)).trans c2, (hV.cell (by show (a1.add _).block < _; exact y1 _)).trans c3, (hV.cell (by show (a1.add _).block < _; exact y1 _)).trans c4⟩, ⟨(hV.cell (by show (a2.add _).block < _; exact y2 _)).trans d0, (hV.cell (by show (a2.add _).block < _; exact y2 _)).trans d1, (hV.cell (by show (a2.add _).block < _; exact y2 _)).trans d2, (hV.cell (by show (a2.add _).block < _; exact y2 _)).trans d3, (hV.cell (by show (a2.add _).block < _; exact y2 _)).trans d4⟩⟩)
          have hbd : Below wr.heap.size wr wr.drew := ⟨rfl, rfl, rfl, Nat.le_refl _, fun _ _ => rfl⟩
          have hSd := ST.out wr.drew hbd
          have HI2 := Lib.hid (HI.out wr.drew hbd)
          have HBD := Lib.hid hbd
          clear hr hr' hww hrr1 hrr2 ec1 ec2 hBwr hab1 hab2 hbd
          go_upto_region 6 with fail
          go_region_held3 (fun w' => (Hid (Below WX.heap.size WX w') ∧ (w'.cell? ⟨W.heap.size, 4, none⟩ = some (.slice (some a1) q kc) ∧ w'.cell? ⟨W.heap.size + 1, 4, none⟩ = some (.slice (some a2) q kd)) ∧ (w'.cell? (a1.add (j * 5)) = some (.int .i64 k1) ∧ w'.cell? ⟨(a1.add (j * 5)).block, (a1.add (j * 5)).off + 1, none⟩ = some (.int .i64 n1) ∧ w'.cell? ⟨(a1.add (j * 5)).block, (a1.add (j * 5)).off + 2, none⟩ = some (.string key1) ∧ w'.cell? ⟨(a1.add (j * 5)).block, (a1.add (j * 5)).off + 3, none⟩ = some (.string val1) ∧ w'.cell? ⟨(a1.add (j * 5)).block, (a1.add (j * 5)).off + 4, none⟩ = some (.slice A1 q1 qc1)) ∧ (w'.cell? (a2.add (j * 5)) = some (.int .i64 k2) ∧ w'.cell? ⟨(a2.add (j * 5)).block, (a2.add (j * 5)).off + 1, none⟩ = some (.int .i64 n2) ∧ w'.cell? ⟨(a2.add (j * 5)).block, (a2.add (j * 5)).off + 2, none⟩ = some (.string key2) ∧ w'.cell? ⟨(a2.add (j * 5)).block, (a2.add (j * 5)).off + 3, none⟩ = some (.string val2) ∧ w'.cell? ⟨(a2.add (j * 5)).block, (a2.add (j * 5)).off + 4, none⟩ = some (.slice A2 q2 qc2))))
            (first | (with_reducible assumption) | (with_reducible exact hSd) | (with_reducible exact hk2))
            ((go_at_call 13; (with_reducible refine HI2.out.mono ?_); rintro e w2 ⟨z, rfl, hz, hb2⟩; have HZ := Lib.hid hz; have HB2 := Lib.hid (HBD.out.trans (hb2.mono HBD.out.size)); have hk2 := ST.out _ HB2.out; clear hz hb2))
          all_goals
            cases z
            · go_wp2_with fail
              go_ret
              refine ⟨false, rfl, ⟨fun h => (by cases h), fun h => ?_⟩, HB.out.trans (HB2.out.mono HB.out.size)⟩
              injection h with _ _ _ _ hk
              have h2 := HR.out
              rw [hk, HR2.out] at h2
              injection h2 with h2
              exact HZ.out.2 h2.symm
            · go_wp2_with fail
              go_roundw
              case rel =>
                refine ⟨j + 1, by go_num, by omega, Lib.hid fun i hi => ?_, Lib.hid (HBB.out.trans (HB2.out.mono HBB.out.size))⟩
                by_cases hij : i < j
                · exact HY.out i hij
                · obtain rfl : i = j := by omega
                  rw [HR.out, HR2.out, HZ.out.1 rfl]
              case measure => simp [intOf]; omega
        · obtain rfl : j = q := by omega
          have HF : Hid (kids = kids') := Lib.hid (List.ext_getElem? fun i => by
            rcases Nat.lt_or_ge i j with hi | hi
            · exact HY.out i hi
            · rw [List.getElem?_eq_none (by rw [HQ.out]; exact hi), List.getElem?_eq_none (by rw [HQ2.out]; exact hi)])
          go_wp2_with fail
          go_ret
          exact ⟨true, rfl, ⟨fun _ => by rw [HF.out], fun _ => rfl⟩, hb⟩
    · have HE := Lib.hid hE
      have HBX0 := Lib.hid (((Below.refl W.heap.size W).alloc (Nat.le_refl _) (.cells #[.int .i64 k, .int .i64 n, .string key, .string val, .slice kA kids.length kc] 24)).alloc (by simp) (.cells #[.int .i64 k', .int .i64 n', .string key', .string val', .slice kB kids'.length kd] 24))
      have HNE := Lib.hid (show ¬ (Rt.mk k n key val kids = Rt.mk k' n' key' val' kids') from fun h => by
        injection h with x1 x2 x3 x4 x5
        exact hE ⟨x1, x2, x3, x4, by rw [x5]⟩)
      have hh : k ≠ k' ∨ (k = k' ∧ n ≠ n') ∨ (k = k' ∧ n = n' ∧ key ≠ key') ∨ (k = k' ∧ n = n' ∧ key = key' ∧ val ≠ val') ∨ (k = k' ∧ n = n' ∧ key = key' ∧ val = val' ∧ kids.length ≠ kids'.length) := by
        by_cases x1 : k = k'
        · by_cases x2 : n = n'
          · by_cases x3 : key = key'
            · by_cases x4 : val = val'
              · exact .inr (.inr (.inr (.inr ⟨x1, x2, x3, x4, fun x5 => hE ⟨x1, x2, x3, x4, x5⟩⟩)))
              · exact .inr (.inr (.inr (.inl ⟨x1, x2, x3, x4⟩)))
            · exact .inr (.inr (.inl ⟨x1, x2, x3⟩))
          · exact .inr (.inl ⟨x1, x2⟩)
        · exact .inl x1
      clear hE
      generalize (Rt.mk k n key val kids = Rt.mk k' n' key' val' kids') = PP at *
      generalize kids.length = q1 at *
      generalize kids'.length = q2 at *
      have fin : ∀ (f : Nat) (av : Array Value), Calls Tryd.prog f av W (fun e w' => e = .returned (.bool false) ∧ Below W.heap.size W w') → Calls Tryd.prog f av W (fun e w' => ∃ b, e = .returned (.bool b) ∧ (b = true ↔ PP) ∧ Below W.heap.size W w') := fun f av h => h.mono fun e w' h1 => ⟨false, h1.1, ⟨fun h => (by cases h), fun h => absurd h HNE.out⟩, h1.2⟩
      refine fin _ _ ?_
      clear fin
      rcases hh with hx | ⟨rfl, hx⟩ | ⟨rfl, rfl, hx⟩ | ⟨rfl, rfl, rfl, hx⟩ | ⟨rfl, rfl, rfl, rfl, hx⟩
      · have e1 : (k == k') = false := by simpa using hx
        have e2 : (k != k') = true := by simpa using hx
        go_enter Tryd.func13, Tryd.ntmps13
        go_wp2_with fail
        go_ret
        exact ⟨rfl, HBX0.out⟩
      · have e1 : (n == n') = false := by simpa using hx
        have e2 : (n != n') = true := by simpa using hx
        go_enter Tryd.func13, Tryd.ntmps13
        go_wp2_with fail
        go_ret
        exact ⟨rfl, HBX0.out⟩
      · have e1 : ¬ (key.toList = key'.toList) := fun h => hx (str_inj h)
        go_enter Tryd.func13, Tryd.ntmps13
        go_wp2_with fail
        go_ret
        exact ⟨rfl, HBX0.out⟩
      · have e1 : ¬ (val.toList = val'.toList) := fun h => hx (str_inj h)
        go_enter Tryd.func13, Tryd.ntmps13
        go_wp2_with fail
        go_ret
        exact ⟨rfl, HBX0.out⟩
      · have e1 : ((q1 : Int) == (q2 : Int)) = false := by rw [beq_eq_false_iff_ne]; omega
        have e2 : ((q1 : Int) != (q2 : Int)) = true := by simpa using e1
        go_enter Tryd.func13, Tryd.ntmps13
        go_wp2_with fail
        go_ret
        exact ⟨rfl, HBX0.out⟩
end Go.Proofs.YtgiahfjndononaaDoor
