/- journal.At, Append. -/
import Derived.Test.YtbdiamhhlabojaaDoorJb
import Derived.Test.YtbdiamhhlabojaaDoorJa
import Derived.Test.YtbdiamhhlabojaaDoorFb
import Derived.Test.YtbdiamhhlabojaaDoorFs
import Derived.Deep.RegionHeld3
namespace Go.Proofs.YtbdiamhhlabojaaDoor
open Go.RowKit
set_option linter.unusedVariables false
set_option linter.unusedSimpArgs false
set_option maxRecDepth 100000

def JAt (w : World) (jb D : Nat) (first at_ : Int) : Prop := w.heap[jb]? = some (.cells #[.pointer (some ⟨D, 0, none⟩), .int .i64 first, .int .i64 at_] 72)
theorem jat_any (jb D : Nat) (first at_ : Int) (w : World) (h : JAt w jb D first at_) : Calls Tryd.prog 18 #[.pointer (some ⟨jb, 0, none⟩)] w fun e w' => e = .returned (.int .i64 at_) ∧ w' = w := by
  have c2 : w.cell? ⟨jb, 2, none⟩ = some (.int .i64 at_) := cell_of_row _ _ 2 _ _ (0, 0) h
  clear h
  go_enter Tryd.func18, Tryd.ntmps18
  go_wp2_with fail
  go_ret
  exact ⟨rfl, rfl⟩
theorem upM_same (m : Mp) (nm : ByteArray) (v : Option (List UInt8 × Int)) : upM m nm v nm = v := by unfold upM; rw [if_pos rfl]
theorem upM_up (m : Mp) (nm : ByteArray) (u v : Option (List UInt8 × Int)) : upM (upM m nm u) nm v = upM m nm v := by
  funext k
  unfold upM
  split <;> rfl
/-- What a journal's call leaves: the device and the journal itself. -/
def LeftJ (base D jb : Nat) (first at_ : Int) (m : Mp) (us room : Int) (n : Nat) (S : Nat → Prop) (v : Value) (w : World) (e : Ending) (w' : World) : Prop :=
  e = .returned v ∧ ∃ S', DvN w' base D m us room n S' ∧ JAt w' jb D first at_ ∧ ¬ S' jb ∧ Kept w w' (fun k => S k ∨ k = jb) (fun k => S' k ∨ k = jb)
theorem Kept.wide1 {w w' : World} {S S' : Nat → Prop} (j : Nat) (k : Kept w w' S S') : Kept w w' (fun i => S i ∨ i = j) (fun i => S' i ∨ i = j) :=
  ⟨k.os, k.tape, k.output, k.size, fun i hi hn => k.block i hi (fun h => hn (.inl h)), fun i hi ht => ht.elim (fun h => .inl (k.sub i hi h)) .inr⟩
theorem JAt.kept {w w' : World} {S S' : Nat → Prop} {jb D : Nat} {first at_ : Int} (h : JAt w jb D first at_) (k : Kept w w' S S') (hn : ¬ S jb) : JAt w' jb D first at_ := by
  have hlt : jb < w.heap.size := by
    rcases Nat.lt_or_ge jb w.heap.size with h1 | h1
    · exact h1
    · unfold JAt at h; rw [Array.getElem?_eq_none h1] at h; cases h
  exact (k.block jb hlt hn).trans h
theorem JAt.lt {w : World} {jb D : Nat} {first at_ : Int} (h : JAt w jb D first at_) : jb < w.heap.size := by
  rcases Nat.lt_or_ge jb w.heap.size with h1 | h1
  · exact h1
  · unfold JAt at h; rw [Array.getElem?_eq_none h1] at h; cases h
theorem own_same {w w' : World} {base e size n : Nat} {v : Value} {xs : List Value} (h : w.ownsRow base e size v n xs) (hb : ∀ k, v.ownBlock = some k → w'.heap[k]? = w.heap[k]?) : w'.ownsRow base e size v n xs := by
  refine ⟨h.1, ?_⟩
  rcases h.2 with h2 | ⟨g, cap, cur, hv, hb0, hg, hr⟩
  · exact .inl h2
  · exact .inr ⟨g, cap, cur, hv, hb0, (hb g (by rw [hv]; rfl)).trans hg, hr⟩
theorem DvAt.same {w w' : World} {base : Nat} {d : Dv} (h : DvAt w base d) (hb : ∀ k, d.has k → w'.heap[k]? = w.heap[k]?) : DvAt w' base d :=
  ⟨(hb _ (.inl rfl)).trans h.row, h.lo, own_same h.own (fun k hk => hb k (.inr (.inl (by
    cases hA : d.A with
    | none => rw [hA] at hk; simp [Value.ownBlock] at hk
    | some a => rw [hA] at hk; simp [Value.ownBlock] at hk; exact ⟨a, rfl, hk⟩)))), fun f hf => own_same (h.each f hf) (fun k hk => hb k (.inr (.inr ⟨f, hf, by
    unfold Lf.val at hk
    cases hA : f.A with
    | none => rw [hA] at hk; simp [Value.ownBlock] at hk
    | some a => rw [hA] at hk; simp [Value.ownBlock] at hk; exact ⟨a, rfl, hk⟩⟩))), h.two⟩
theorem DvN.same {w w' : World} {base D : Nat} {m : Mp} {us room : Int} {n : Nat} {S : Nat → Prop} (h : DvN w base D m us room n S) (hb : ∀ k, S k → w'.heap[k]? = w.heap[k]?) : DvN w' base D m us room n S := by
  obtain ⟨g, ⟨d, h1, e0, e1, e2, e3, e4, e5, rfl⟩, h2⟩ := h
  exact ⟨g, ⟨d, h1.same hb, e0, e1, e2, e3, e4, e5, rfl⟩, h2⟩
theorem keptJ (w : World) (jb j : Nat) (u : Value) (S : Nat → Prop) : Kept w (w.setCell ⟨jb, j, none⟩ u) (fun i => S i ∨ i = jb) (fun i => S i ∨ i = jb) := by
  have hb : Below 0 w (w.setCell ⟨jb, j, none⟩ u) := (Below.refl 0 w).setCell (Nat.zero_le _) u
  exact ⟨hb.os, hb.tape, hb.output, hb.size, fun k hk hn => heap_setCell_other w ⟨jb, j, none⟩ k u (fun e => hn (.inr e)), fun k _ h => h⟩
def newJ (m : Mp) (nm : ByteArray) (l : List UInt8) : List UInt8 := (match m nm with | none => [] | some v => v.1) ++ Fm.rec l
set_option maxHeartbeats 4000000 in
theorem jappend (base D jb : Nat) (first : Int) (at_ : Nat) (m : Mp) (us room : Int) (n : Nat) (S : Nat → Prop) (pA : Option Addr) (l : List UInt8) (k pc B : Nat) (w : World) (hj : JAt w jb D first at_) (hat : at_ < 99) (h : DvN w base D m us room n S) (hS : ¬ S jb) (hn : n ≤ 900000) (hk : k = l.length) (hp : Rd w B pA (l.map B8)) (hB : B ≤ w.heap.size) (hl : l.length ≤ 1000000) (hf : us + ((Fm.rec l).length : Int) ≤ room) (hbig : ∀ v, m (nmJ at_) = some v → v.1.length ≤ 100000) (hrl : (Fm.rec l).length ≤ 1000100) :
    Calls Tryd.prog 14 #[.pointer (some ⟨jb, 0, none⟩), .slice pA k pc] w (LeftJ base D jb first (if 2000 ≤ (newJ m (nmJ at_) l).length then (at_ : Int) + 1 else at_) (upM m (nmJ at_) (some (newJ m (nmJ at_) l, ((newJ m (nmJ at_) l).length : Int)))) (us + (Fm.rec l).length) room (n + 1) S (.int .i64 0) w) := by
  have HJ := Lib.hid hj
  have HD := Lib.hid h
  have HS := Lib.hid hS
  obtain ⟨q, hq⟩ : ∃ q, q = (Fm.rec l).length := ⟨_, rfl⟩
  have HQ := Lib.hid hq
  have BY : Hid (∀ W, Below w.heap.size w W → Calls Tryd.prog 17 #[.slice pA k pc] W fun e w' => ∃ A2 c2, e = .returned (.slice A2 q c2) ∧ Rd w' w'.heap.size A2 ((Fm.rec l).map B8) ∧ (∀ a, A2 = some a → W.heap.size ≤ a.block) ∧ Below W.heap.size W w') := Lib.hid (fun W hb => by
    have kk := bytes_calls pA l pc B W (hp.below (hb.mono hB)) (Nat.le_trans hB hb.size) hl
    rw [← hk] at kk
    refine kk.mono fun e w' hh => ?_
    obtain ⟨v', rfl, ho, hg⟩ := hh
    obtain ⟨A2, c2, rfl, _, hr⟩ := own_rd ho
    exact ⟨A2, c2, by rw [hq], hr, fun a ha => own_block_ge ho a.block (by rw [ha]; simp [Value.ownBlock]), Grew.new hg⟩)
  obtain ⟨m1, hm1⟩ : ∃ m1 : Mp, m1 = upM m (nmJ at_) (some (addM (m (nmJ at_)) (Fm.rec l))) := ⟨_, rfl⟩
  have hv1 : ∃ su, m1 (nmJ at_) = some (newJ m (nmJ at_) l, su) := by
    rw [hm1, upM_same]
    unfold newJ
    cases m (nmJ at_) with
    | none => exact ⟨0, rfl⟩
    | some v => exact ⟨v.2, rfl⟩
  obtain ⟨su, hv1⟩ := hv1
  obtain ⟨x, hx⟩ : ∃ x, x = newJ m (nmJ at_) l := ⟨_, rfl⟩
  rw [← hx] at hv1 ⊢
  have HV1 := Lib.hid hv1
  have hM2 : upM m1 (nmJ at_) (some (x, (x.length : Int))) = upM m (nmJ at_) (some (x, (x.length : Int))) := by rw [hm1, upM_up]
  have HM2 := Lib.hid hM2
  have hxl : x.length ≤ 1100100 := by
    rw [hx]
    unfold newJ
    rw [List.length_append]
    cases hv : m (nmJ at_) with
    | none => show 0 + _ ≤ _; omega
    | some v => have := hbig v hv; show v.1.length + _ ≤ _; omega
  have AP1 : Hid (∀ W S' A2 c2 B2, DvN W base D m us room n S' → Rd W B2 A2 ((Fm.rec l).map B8) → B2 ≤ W.heap.size → (∀ a, A2 = some a → ¬ S' a.block) → Calls Tryd.prog 27 #[.pointer (some ⟨D, 0, none⟩), .string (nmJ at_), .slice A2 q c2] W (LeftN base D m1 (us + q) room (n + 1) S' (.int .i64 0) W)) := Lib.hid (fun W S' A2 c2 B2 h hr hB hA => by
    have kk := appendN base D m us room n S' (nmJ at_) A2 (Fm.rec l) q c2 B2 W h (by omega) (nmJ_ne (by omega)) hf hq hr hB (fun _ => hA) (by omega)
    rw [← hm1, ← hq] at kk
    exact kk)
  have SY1 : Hid (∀ W S', DvN W base D m1 (us + q) room (n + 1) S' → Calls Tryd.prog 40 #[.pointer (some ⟨D, 0, none⟩), .string (nmJ at_)] W (LeftN base D (upM m (nmJ at_) (some (x, (x.length : Int)))) (us + q) room (n + 1) S' (.int .i64 0) W)) := Lib.hid (fun W S' h => by
    have kk := syncN base D m1 (us + q) room (n + 1) S' (nmJ at_) (x, su) W h (by omega) hv1
    rw [hM2] at kk
    exact kk)
  have RE1 : Hid (∀ W S', DvN W base D (upM m (nmJ at_) (some (x, (x.length : Int)))) (us + q) room (n + 1) S' → Calls Tryd.prog 20 #[.pointer (some ⟨D, 0, none⟩), .string (nmJ at_)] W (ReadOf x W)) := Lib.hid (fun W S' h => readN base D _ (us + q) room (n + 1) S' (nmJ at_) (x, (x.length : Int)) W h (by omega) (upM_same _ _ _))
  have HN := Lib.hid (name_any at_ (by omega))
  rw [← hq] at HQ ⊢
  obtain ⟨xl, hxl2⟩ : ∃ xl, xl = x.length := ⟨_, rfl⟩
  have hxe : x.length = xl := hxl2.symm
  have HXL := Lib.hid hxl2
  have hx8 : xl ≤ 1100100 := by omega
  obtain ⟨PO, hPO⟩ : ∃ PO, PO = LeftJ base D jb first (if 2000 ≤ x.length then (at_ : Int) + 1 else at_) (upM m (nmJ at_) (some (x, (x.length : Int)))) (us + q) room (n + 1) S (.int .i64 0) w := ⟨_, rfl⟩
  have HPO := Lib.hid hPO
  rw [← hPO]
  clear hPO hxl2 hxl
  have cj0 : w.cell? ⟨jb, 0, none⟩ = some (.pointer (some ⟨D, 0, none⟩)) := cell_of_row _ _ 0 _ _ (0, 0) hj; have cj2 : w.cell? ⟨jb, 2, none⟩ = some (.int .i64 (at_ : Int)) := cell_of_row _ _ 2 _ _ (0, 0) hj
  clear hj h hS hk hp hl hf hbig hrl hm1 hM2 hv1 hx hq
  go_enter Tryd.func14, Tryd.ntmps14
  go_upto_region 4 with (go_at_call 21; (with_reducible refine (HN.out _).mono ?_); rintro e wn ⟨rfl, hwn⟩; subst hwn)
  have hbw : Below wn.heap.size wn wn.drew := ⟨rfl, rfl, rfl, Nat.le_refl _, fun _ _ => rfl⟩
  have HDw : Hid (DvN wn.drew base D m us room n S) := Lib.hid (HD.out.below hbw)
  have HJw : Hid (JAt wn.drew jb D first at_) := Lib.hid HJ.out
  go_region_held3 (fun w' => w'.cell? ⟨jb, 0, none⟩ = some (.pointer (some ⟨D, 0, none⟩)))
    (first | (with_reducible assumption) | go_keep)
    ((first
      | (go_at_call 27; (with_reducible refine (AP1.out _ _ _ _ _ HD2.out HR2.out (Nat.le_refl _) HNA.out).mono ?_); rintro e w3 ⟨rfl, S3, hd3, hk3⟩; have HD3 := Lib.hid hd3; have HK3 := Lib.hid hk3; have cj3 : w3.cell? ⟨jb, 0, none⟩ = some (.pointer (some ⟨D, 0, none⟩)) := cell_of_row _ _ 0 _ _ (0, 0) (HJ2.out.kept hk3 HS.out); clear hd3 hk3)
      | (go_at_call 17; (with_reducible refine (BY.out _ hbw).mono ?_); rintro e w2 ⟨A2, c2, rfl, hr2, hge2, hb2⟩; have HB2 := Lib.hid hb2; have HR2 := Lib.hid hr2; have HD2 := Lib.hid (HDw.out.below hb2); have HJ2 := Lib.hid (show JAt w2 jb D first at_ from (hb2.block _ HJw.out.lt).trans HJw.out); have HNA := Lib.hid (fun (a : Addr) (ha : A2 = some a) (hs : S a.block) => (by have h1 := hge2 a ha; have h2 := HDw.out.lt _ hs; omega : False)); have cj2 : w2.cell? ⟨jb, 0, none⟩ = some (.pointer (some ⟨D, 0, none⟩)) := cell_of_row _ _ 0 _ _ (0, 0) HJ2.out; clear hge2 hr2 hb2)))
  have HJ3 : Hid (JAt w3 jb D first at_) := Lib.hid (HJ2.out.kept HK3.out HS.out)
  have HS3 : Hid (¬ S3 jb) := Lib.hid (fun h => HS.out (HK3.out.sub _ HJ2.out.lt h))
  have cj3 : w3.cell? ⟨jb, 0, none⟩ = some (.pointer (some ⟨D, 0, none⟩)) := cell_of_row _ _ 0 _ _ (0, 0) HJ3.out
  clear AP1 BY cj0 cj2
  go_upto_region 10 with (go_at_call 40; (with_reducible refine (SY1.out _ _ HD3.out).mono ?_); rintro e w4 ⟨rfl, S4, hd4, hk4⟩; have HD4 := Lib.hid hd4; have HK4 := Lib.hid hk4; have HJ4 := Lib.hid (HJ3.out.kept hk4 HS3.out); have HS4 := Lib.hid (fun h : S4 jb => HS3.out (hk4.sub _ HJ3.out.lt h)); have cj4 : w4.cell? ⟨jb, 0, none⟩ = some (.pointer (some ⟨D, 0, none⟩)) := cell_of_row _ _ 0 _ _ (0, 0) (HJ3.out.kept hk4 HS3.out); clear hd4 hk4)
  clear HD3 SY1 cj3
  go_upto_region 11 with (go_at_call 20; (with_reducible refine (RE1.out _ _ HD4.out).mono ?_); rintro e w5 ⟨A5, c5, rfl, _, hb5⟩; have HB5 := Lib.hid hb5; have HD5 := Lib.hid (HD4.out.below hb5); have HJ5 := Lib.hid (show JAt w5 jb D first at_ from (hb5.block _ HJ4.out.lt).trans HJ4.out); clear hb5)
  clear HD4 RE1 cj4
  have cj5 : w5.cell? ⟨jb, 2, none⟩ = some (.int .i64 (at_ : Int)) := cell_of_row _ _ 2 _ _ (0, 0) HJ5.out
  have fj5 : w5.frozen? ⟨jb, 2, none⟩ = false := by have h := HJ5.out; unfold JAt at h; simp [World.frozen?, h]
  have HKK : Hid (Kept wn w5 (fun i => S i ∨ i = jb) (fun i => S4 i ∨ i = jb)) := Lib.hid (((Kept.of (show Below wn.heap.size wn wn.drew from ⟨rfl, rfl, rfl, Nat.le_refl _, fun _ _ => rfl⟩) _).trans ((Kept.of HB2.out _).trans (HK3.out.trans (HK4.out.trans (Kept.of HB5.out _))))).wide1 jb)
  have hat2 : at_ ≤ 98 := by omega
  clear hat
  by_cases hfull : 2000 ≤ xl
  · have d1 : decide ((2000 : Int) ≤ (xl : Int)) = true := decide_eq_true (by omega)
    go_wp2_with fail
    rw [HPO.out, if_pos (by rw [hxe]; exact hfull)]
    exact ⟨rfl, S4, HD5.out.same (fun k hk => heap_setCell_other w5 ⟨jb, 2, none⟩ k _ (fun e => HS4.out (by have e2 : k = jb := e; rw [← e2]; exact hk))), heap_setCell_same w5 jb 2 _ _ _ HJ5.out, HS4.out, HKK.out.trans (keptJ _ _ _ _ _)⟩
  · have d1 : decide ((2000 : Int) ≤ (xl : Int)) = false := decide_eq_false (by omega)
    go_wp2_with fail
    rw [HPO.out, if_neg (by rw [hxe]; exact hfull)]
    exact ⟨rfl, S4, HD5.out, HJ5.out, HS4.out, HKK.out⟩
end Go.Proofs.YtbdiamhhlabojaaDoor
