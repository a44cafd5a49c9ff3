/- journal.Drop. -/
import Derived.Test.YtbdiamhhlabojaaDoorJd
import Derived.Deep.RegionHeld3
namespace Go.Proofs.YtbdiamhhlabojaaDoor
open Go.RowKit
set_option linter.unusedVariables false
set_option linter.unusedSimpArgs false
set_option maxRecDepth 100000

/-- Segments below i, from f0 on, are gone. -/
def goneM (m : Mp) (f0 i : Nat) (m' : Mp) : Prop := ∀ k, k < 99 → m' (nmJ k) = if f0 ≤ k ∧ k < i then none else m (nmJ k)
theorem goneM.start (m : Mp) (f0 : Nat) : goneM m f0 f0 m := fun k hk => by rw [if_neg (by omega)]
theorem goneM.keep {m m' : Mp} {f0 i : Nat} (h : goneM m f0 i m') (hi : i < 99) (hn : m' (nmJ i) = none) : goneM m f0 (i + 1) m' := fun k hk => by
  by_cases e : k = i
  · subst e
    rw [hn]
    by_cases h2 : f0 ≤ k
    · rw [if_pos ⟨h2, by omega⟩]
    · rw [if_neg (by omega)]
      have h3 := h k hk
      rw [if_neg (by omega)] at h3
      rw [← h3, hn]
  · rw [h k hk]
    have : (f0 ≤ k ∧ k < i) ↔ (f0 ≤ k ∧ k < i + 1) := by omega
    simp only [this]
theorem goneM.del {m m' : Mp} {f0 i : Nat} (h : goneM m f0 i m') (hi : i < 99) (hf : f0 ≤ i) : goneM m f0 (i + 1) (upM m' (nmJ i) none) := fun k hk => by
  unfold upM
  by_cases e : k = i
  · subst e
    rw [if_pos rfl, if_pos ⟨hf, by omega⟩]
  · rw [if_neg (fun e2 => e (nmJ_inj (by omega) (by omega) e2).symm), h k hk]
    have : (f0 ≤ k ∧ k < i) ↔ (f0 ≤ k ∧ k < i + 1) := by omega
    simp only [this]
/-- What Drop leaves. -/
def DropOf (base D jb f0 fd : Nat) (at_ : Int) (m : Mp) (room : Int) (n : Nat) (S : Nat → Prop) (w : World) (e : Ending) (w' : World) : Prop :=
  e = .returned (.int .i64 0) ∧ ∃ (m' : Mp) (us' : Int) (S' : Nat → Prop), goneM m f0 (max f0 fd) m' ∧ DvN w' base D m' us' room n S' ∧ JAt w' jb D (max f0 fd : Nat) at_ ∧ ¬ S' jb ∧ Kept w w' (fun k => S k ∨ k = jb) (fun k => S' k ∨ k = jb)
set_option maxHeartbeats 4000000 in
theorem drop_any (base D jb f0 fd : Nat) (d at_ : Int) (m : Mp) (us room : Int) (n : Nat) (S : Nat → Prop) (w : World) (hj : JAt w jb D f0 at_) (h : DvN w base D m us room n S) (hS : ¬ S jb) (hn : n ≤ 900000) (hfd : (fd : Int) = min d at_) (hf : f0 < 99) (hd : fd < 99) :
    Calls Tryd.prog 19 #[.pointer (some ⟨jb, 0, none⟩), .int .i64 d] w (DropOf base D jb f0 fd at_ m room n S w) := by
  have HJ := Lib.hid hj
  have HD := Lib.hid h
  have HS := Lib.hid hS
  have cj1 : w.cell? ⟨jb, 1, none⟩ = some (.int .i64 (f0 : Int)) := cell_of_row _ _ 1 _ _ (0, 0) hj
  have cj2 : w.cell? ⟨jb, 2, none⟩ = some (.int .i64 at_) := cell_of_row _ _ 2 _ _ (0, 0) hj
  have imin : min d at_ = (fd : Int) := hfd.symm
  obtain ⟨PO, hPO⟩ : ∃ PO, PO = DropOf base D jb f0 fd at_ m room n S w := ⟨_, rfl⟩
  have HPO := Lib.hid hPO
  rw [← hPO]
  obtain ⟨tt, htt⟩ : ∃ tt, tt = max f0 fd := ⟨_, rfl⟩
  have htm : fd ≤ tt ∧ f0 ≤ tt ∧ tt < 99 ∧ (tt = f0 ∨ tt = fd) := by omega
  have HTT := Lib.hid htt
  clear hj h hS hPO htt
  clear imin
  have hcase : (d = (fd : Int) ∧ (fd : Int) ≤ at_) ∨ (at_ = (fd : Int) ∧ (fd : Int) < d) := by omega
  clear hfd
  rcases hcase with ⟨rfl, hle⟩ | ⟨hX, hle⟩
  · have d9 : decide (at_ < (fd : Int)) = false := decide_eq_false (by omega)
    have HX : Hid ((fd : Int) = (fd : Int)) := Lib.hid rfl
    go_enter Tryd.func19, Tryd.ntmps19
    go_wp2_with fail
    go_loopw [5] (fun iv wr => ∃ (i : Nat) (m' : Mp) (us' : Int) (S' : Nat → Prop), iv = .int .i64 (i : Int) ∧ f0 ≤ i ∧ i ≤ tt ∧ Hid (goneM m f0 i m') ∧ Hid (DvN wr base D m' us' room n S') ∧ Hid (JAt wr jb D f0 at_) ∧ Hid (¬ S' jb) ∧ Hid (Kept w wr (fun k => S k ∨ k = jb) (fun k => S' k ∨ k = jb))) (fun iv _ => tt - (intOf iv).toNat)
    case atStart => exact ⟨f0, m, us, S, rfl, Nat.le_refl _, htm.2.1, Lib.hid (goneM.start _ _), HD, HJ, HS, Lib.hid (Kept.refl _ _)⟩
    case round =>
      obtain ⟨i, m', us', S', rfl, hfi, hi, HG, HDR, HJR, HSR, HKR⟩ := hrel
      clear cj1 cj2 HD HJ
      have cj0 : wr.cell? ⟨jb, 0, none⟩ = some (.pointer (some ⟨D, 0, none⟩)) := cell_of_row _ _ 0 _ _ (0, 0) HJR.out
      have cj1 : wr.cell? ⟨jb, 1, none⟩ = some (.int .i64 (f0 : Int)) := cell_of_row _ _ 1 _ _ (0, 0) HJR.out
      by_cases hlt : i < fd
      · have d1 : decide ((i : Int) < (fd : Int)) = true := decide_eq_true (by have := HX.out; omega)
        have NA := Lib.hid (name_any i (by omega))
        have HJw : Hid (JAt wr.drew jb D f0 at_) := Lib.hid HJR.out
        have HDw : Hid (DvN wr.drew base D m' us' room n S') := Lib.hid (HDR.out.below ⟨rfl, rfl, rfl, Nat.le_refl _, fun _ _ => rfl⟩)
        have DL : Hid (∃ (er : Int) (m2 : Mp) (us2 : Int), (er = 0 ∨ er = 4) ∧ goneM m f0 (i + 1) m2 ∧ Calls Tryd.prog 45 #[.pointer (some ⟨D, 0, none⟩), .string (nmJ i)] wr.drew (LeftN base D m2 us2 room n S' (.int .i64 er) wr.drew)) := Lib.hid (by
          cases hv : m' (nmJ i) with
          | none => exact ⟨4, m', us', .inr rfl, HG.out.keep (by omega) hv, delete_notN base D m' us' room n S' (nmJ i) wr.drew HDw.out (by omega) hv⟩
          | some v => exact ⟨0, upM m' (nmJ i) none, us' - v.1.length, .inl rfl, HG.out.del (by omega) hfi, deleteN base D m' us' room n S' (nmJ i) v wr.drew HDw.out (by omega) hv⟩)
        obtain ⟨er, m2, us2, her, hg2, dl⟩ := DL.out
        have HG2 := Lib.hid hg2
        have DLC := Lib.hid dl
        clear DL hg2 dl
        go_upto_region 7 with fail
        go_region_held3 (fun w' => w'.cell? ⟨jb, 0, none⟩ = some (.pointer (some ⟨D, 0, none⟩)))
          (first | (with_reducible assumption) | go_keep)
          ((first
            | (go_at_call 45; (with_reducible refine DLC.out.mono ?_); rintro e w3 ⟨rfl, S3, hd3, hk3⟩; have HD3 := Lib.hid hd3; have HK3 := Lib.hid hk3; have HJ3 := Lib.hid (HJw.out.kept hk3 HSR.out); have HS3 := Lib.hid (fun h : S3 jb => HSR.out (hk3.sub _ HJw.out.lt h)); have cj3 : w3.cell? ⟨jb, 0, none⟩ = some (.pointer (some ⟨D, 0, none⟩)) := cell_of_row _ _ 0 _ _ (0, 0) (HJw.out.kept hk3 HSR.out); clear hd3 hk3)
            | (go_at_call 21; (with_reducible refine (NA.out _).mono ?_); rintro e wn ⟨rfl, hwn⟩; subst hwn)))
        have HKK : Hid (Kept w w3 (fun k => S k ∨ k = jb) (fun k => S3 k ∨ k = jb)) := Lib.hid ((HKR.out.trans (Kept.of (show Below wr.heap.size wr wr.drew from ⟨rfl, rfl, rfl, Nat.le_refl _, fun _ _ => rfl⟩) _)).trans (HK3.out.wide1 jb))
        have him : i + 1 ≤ tt := by omega
        have hfi1 : f0 ≤ i + 1 := by omega
        rcases her with rfl | rfl
        · go_wp2_with fail
          go_roundw
          case rel => exact ⟨i + 1, m2, us2, S3, by go_num, hfi1, him, HG2, HD3, HJ3, HS3, HKK⟩
          case measure => simp [intOf]; omega
        · go_wp2_with fail
          go_roundw
          case rel => exact ⟨i + 1, m2, us2, S3, by go_num, hfi1, him, HG2, HD3, HJ3, HS3, HKK⟩
          case measure => simp [intOf]; omega
      · have d1 : decide ((i : Int) < (fd : Int)) = false := decide_eq_false (by have := HX.out; omega)
        go_upto_region 10 with fail
        have fj1 : wr.frozen? ⟨jb, 1, none⟩ = false := by have h := HJR.out; unfold JAt at h; simp [World.frozen?, h]
        have hit : i = tt := by omega
        by_cases hmx : f0 < fd
        · have m1 : decide ((f0 : Int) < (fd : Int)) = true := decide_eq_true (by have := HX.out; omega)
          have m3 : (f0 : Int) < (fd : Int) := by have := HX.out; omega
          go_wp2_with fail
          rw [HPO.out]
          refine ⟨rfl, m', us', S', by rw [← HTT.out, ← hit]; exact HG.out, HDR.out.same (fun k hk => heap_setCell_other wr ⟨jb, 1, none⟩ k _ (fun e => HSR.out (by have e2 : k = jb := e; rw [← e2]; exact hk))), ?_, HSR.out, HKR.out.trans (keptJ _ _ _ _ _)⟩
          have h := heap_setCell_same wr jb 1 _ _ (.int .i64 (fd : Int)) HJR.out
          have e : ((max f0 fd : Nat) : Int) = (fd : Int) := by have := HX.out; omega
          unfold JAt
          rw [e]
          exact h
        · have m1 : decide ((f0 : Int) < (fd : Int)) = false := decide_eq_false (by have := HX.out; omega)
          have m3 : (fd : Int) ≤ (f0 : Int) := by have := HX.out; omega
          go_wp2_with fail
          rw [HPO.out]
          refine ⟨rfl, m', us', S', by rw [← HTT.out, ← hit]; exact HG.out, HDR.out.same (fun k hk => heap_setCell_other wr ⟨jb, 1, none⟩ k _ (fun e => HSR.out (by have e2 : k = jb := e; rw [← e2]; exact hk))), ?_, HSR.out, HKR.out.trans (keptJ _ _ _ _ _)⟩
          have h := heap_setCell_same wr jb 1 _ _ (.int .i64 (f0 : Int)) HJR.out
          have e : ((max f0 fd : Nat) : Int) = (f0 : Int) := by omega
          unfold JAt
          rw [e]
          exact h

  · have d9 : decide (at_ < d) = true := decide_eq_true (by omega)
    have HX : Hid (at_ = (fd : Int)) := Lib.hid hX
    have hle2 : at_ < d := by omega
    clear hX hle
    go_enter Tryd.func19, Tryd.ntmps19
    go_wp2_with fail
    go_loopw [5] (fun iv wr => ∃ (i : Nat) (m' : Mp) (us' : Int) (S' : Nat → Prop), iv = .int .i64 (i : Int) ∧ f0 ≤ i ∧ i ≤ tt ∧ Hid (goneM m f0 i m') ∧ Hid (DvN wr base D m' us' room n S') ∧ Hid (JAt wr jb D f0 at_) ∧ Hid (¬ S' jb) ∧ Hid (Kept w wr (fun k => S k ∨ k = jb) (fun k => S' k ∨ k = jb))) (fun iv _ => tt - (intOf iv).toNat)
    case atStart => exact ⟨f0, m, us, S, rfl, Nat.le_refl _, htm.2.1, Lib.hid (goneM.start _ _), HD, HJ, HS, Lib.hid (Kept.refl _ _)⟩
    case round =>
      obtain ⟨i, m', us', S', rfl, hfi, hi, HG, HDR, HJR, HSR, HKR⟩ := hrel
      clear cj1 cj2 HD HJ
      have cj0 : wr.cell? ⟨jb, 0, none⟩ = some (.pointer (some ⟨D, 0, none⟩)) := cell_of_row _ _ 0 _ _ (0, 0) HJR.out
      have cj1 : wr.cell? ⟨jb, 1, none⟩ = some (.int .i64 (f0 : Int)) := cell_of_row _ _ 1 _ _ (0, 0) HJR.out
      by_cases hlt : i < fd
      · have d1 : decide ((i : Int) < at_) = true := decide_eq_true (by have := HX.out; omega)
        have NA := Lib.hid (name_any i (by omega))
        have HJw : Hid (JAt wr.drew jb D f0 at_) := Lib.hid HJR.out
        have HDw : Hid (DvN wr.drew base D m' us' room n S') := Lib.hid (HDR.out.below ⟨rfl, rfl, rfl, Nat.le_refl _, fun _ _ => rfl⟩)
        have DL : Hid (∃ (er : Int) (m2 : Mp) (us2 : Int), (er = 0 ∨ er = 4) ∧ goneM m f0 (i + 1) m2 ∧ Calls Tryd.prog 45 #[.pointer (some ⟨D, 0, none⟩), .string (nmJ i)] wr.drew (LeftN base D m2 us2 room n S' (.int .i64 er) wr.drew)) := Lib.hid (by
          cases hv : m' (nmJ i) with
          | none => exact ⟨4, m', us', .inr rfl, HG.out.keep (by omega) hv, delete_notN base D m' us' room n S' (nmJ i) wr.drew HDw.out (by omega) hv⟩
          | some v => exact ⟨0, upM m' (nmJ i) none, us' - v.1.length, .inl rfl, HG.out.del (by omega) hfi, deleteN base D m' us' room n S' (nmJ i) v wr.drew HDw.out (by omega) hv⟩)
        obtain ⟨er, m2, us2, her, hg2, dl⟩ := DL.out
        have HG2 := Lib.hid hg2
        have DLC := Lib.hid dl
        clear DL hg2 dl
        go_upto_region 7 with fail
        go_region_held3 (fun w' => w'.cell? ⟨jb, 0, none⟩ = some (.pointer (some ⟨D, 0, none⟩)))
          (first | (with_reducible assumption) | go_keep)
          ((first
            | (go_at_call 45; (with_reducible refine DLC.out.mono ?_); rintro e w3 ⟨rfl, S3, hd3, hk3⟩; have HD3 := Lib.hid hd3; have HK3 := Lib.hid hk3; have HJ3 := Lib.hid (HJw.out.kept hk3 HSR.out); have HS3 := Lib.hid (fun h : S3 jb => HSR.out (hk3.sub _ HJw.out.lt h)); have cj3 : w3.cell? ⟨jb, 0, none⟩ = some (.pointer (some ⟨D, 0, none⟩)) := cell_of_row _ _ 0 _ _ (0, 0) (HJw.out.kept hk3 HSR.out); clear hd3 hk3)
            | (go_at_call 21; (with_reducible refine (NA.out _).mono ?_); rintro e wn ⟨rfl, hwn⟩; subst hwn)))
        have HKK : Hid (Kept w w3 (fun k => S k ∨ k = jb) (fun k => S3 k ∨ k = jb)) := Lib.hid ((HKR.out.trans (Kept.of (show Below wr.heap.size wr wr.drew from ⟨rfl, rfl, rfl, Nat.le_refl _, fun _ _ => rfl⟩) _)).trans (HK3.out.wide1 jb))
        have him : i + 1 ≤ tt := by omega
        have hfi1 : f0 ≤ i + 1 := by omega
        rcases her with rfl | rfl
        · go_wp2_with fail
          go_roundw
          case rel => exact ⟨i + 1, m2, us2, S3, by go_num, hfi1, him, HG2, HD3, HJ3, HS3, HKK⟩
          case measure => simp [intOf]; omega
        · go_wp2_with fail
          go_roundw
          case rel => exact ⟨i + 1, m2, us2, S3, by go_num, hfi1, him, HG2, HD3, HJ3, HS3, HKK⟩
          case measure => simp [intOf]; omega
      · have d1 : decide ((i : Int) < at_) = false := decide_eq_false (by have := HX.out; omega)
        go_upto_region 10 with fail
        have fj1 : wr.frozen? ⟨jb, 1, none⟩ = false := by have h := HJR.out; unfold JAt at h; simp [World.frozen?, h]
        have hit : i = tt := by omega
        by_cases hmx : f0 < fd
        · have m1 : decide ((f0 : Int) < at_) = true := decide_eq_true (by have := HX.out; omega)
          have m3 : (f0 : Int) < at_ := by have := HX.out; omega
          go_wp2_with fail
          rw [HPO.out]
          refine ⟨rfl, m', us', S', by rw [← HTT.out, ← hit]; exact HG.out, HDR.out.same (fun k hk => heap_setCell_other wr ⟨jb, 1, none⟩ k _ (fun e => HSR.out (by have e2 : k = jb := e; rw [← e2]; exact hk))), ?_, HSR.out, HKR.out.trans (keptJ _ _ _ _ _)⟩
          have h := heap_setCell_same wr jb 1 _ _ (.int .i64 at_) HJR.out
          have e : ((max f0 fd : Nat) : Int) = at_ := by have := HX.out; omega
          unfold JAt
          rw [e]
          exact h
        · have m1 : decide ((f0 : Int) < at_) = false := decide_eq_false (by have := HX.out; omega)
          have m3 : at_ ≤ (f0 : Int) := by have := HX.out; omega
          go_wp2_with fail
          rw [HPO.out]
          refine ⟨rfl, m', us', S', by rw [← HTT.out, ← hit]; exact HG.out, HDR.out.same (fun k hk => heap_setCell_other wr ⟨jb, 1, none⟩ k _ (fun e => HSR.out (by have e2 : k = jb := e; rw [← e2]; exact hk))), ?_, HSR.out, HKR.out.trans (keptJ _ _ _ _ _)⟩
          have h := heap_setCell_same wr jb 1 _ _ (.int .i64 (f0 : Int)) HJR.out
          have e : ((max f0 fd : Nat) : Int) = (f0 : Int) := by omega
          unfold JAt
          rw [e]
          exact h

end Go.Proofs.YtbdiamhhlabojaaDoor
