/- The code's Parse: which policy a text is, or where it is none. -/
import Derived.Test.YtgiahfjndononaaDoorPoh
import Derived.Test.YtgiahfjndononaaDoorRp
namespace Go.Proofs.YtgiahfjndononaaDoor
open Go.RowKit
set_option linter.unusedVariables false
set_option linter.unusedSimpArgs false
set_option maxRecDepth 100000

def nilR : Rt := .mk 0 0 ⟨#[]⟩ ⟨#[]⟩ []
def Wm.endR : Wm.Res Rt → Wm.Res Rt
  | .bad e => .bad e
  | .ok t r => if (Wm.tok r).kind = 0 then .ok t [] else .bad (Wm.tok r).from_
def Wm.ansR (n : Nat) : Wm.Res Rt → Rt × Int × Int
  | .bad e => (nilR, (n : Int) - (e.length : Int), 2)
  | .ok t _ => if t.right = true then (t, -1, 0) else (nilR, 0, 1)
/-- What a text is: the policy, where it is none, and why. -/
def Wm.ans (L : List UInt8) : Rt × Int × Int :=
  if 2000 < L.length then (nilR, 0, 1)
  else Wm.ansR L.length (Wm.endR (Wm.pol (L.length + 1) L))
def AnsOf (a : Rt × Int × Int) (W : World) (e : Ending) (w' : World) : Prop :=
  ∃ cs, e = .returned (.tuple #[.agg cs.toArray, .int .i64 a.2.1, .int .i64 a.2.2]) ∧ RdP w' (fun b => W.heap.size ≤ b ∧ b < w'.heap.size) a.1 cs ∧ Below W.heap.size W w'
theorem PSt.at_cell {w : World} {P : Nat} {s : ByteArray} {L : List UInt8} {st : Wm.St} (h : PSt w P s L st) : ∃ a : Nat, w.cell? ⟨P, 2, none⟩ = some (.int .i64 (a : Int)) ∧ a + (match st with | .bad e => e.length | .at_ l => (Wm.tok l).from_.length) = s.size := by
  cases st with
  | bad e =>
    obtain ⟨nx, at0, kd, tx, n, hr, he, _⟩ := h
    unfold PRow at hr
    exact ⟨at0, cell_of_row _ _ 2 _ _ (0, 0) hr, he⟩
  | at_ l =>
    obtain ⟨⟨nx, at0, tx, n, h⟩, _⟩ := h
    have hr := h.row
    unfold PRow at hr
    exact ⟨at0, cell_of_row _ _ 2 _ _ (0, 0) hr, h.from_⟩
theorem set5 {W w : World} (hz : w.heap[W.heap.size]? = some (.cells #[.int .i64 0, .int .i64 0, .string ⟨#[]⟩, .string ⟨#[]⟩, .slice none 0 0] 24)) (hb : Below W.heap.size W w) (v0 v1 v2 v3 v4 : Value) :
    (((((w.setCell ⟨W.heap.size, 0, none⟩ (v0)).setCell ⟨W.heap.size, 1, none⟩ (v1)).setCell ⟨W.heap.size, 2, none⟩ (v2)).setCell ⟨W.heap.size, 3, none⟩ (v3)).setCell ⟨W.heap.size, 4, none⟩ (v4)).heap[W.heap.size]? = some (.cells #[v0, v1, v2, v3, v4] 24) ∧ Below W.heap.size W (((((w.setCell ⟨W.heap.size, 0, none⟩ (v0)).setCell ⟨W.heap.size, 1, none⟩ (v1)).setCell ⟨W.heap.size, 2, none⟩ (v2)).setCell ⟨W.heap.size, 3, none⟩ (v3)).setCell ⟨W.heap.size, 4, none⟩ (v4)) ∧ (∀ q, q ≠ W.heap.size → (((((w.setCell ⟨W.heap.size, 0, none⟩ (v0)).setCell ⟨W.heap.size, 1, none⟩ (v1)).setCell ⟨W.heap.size, 2, none⟩ (v2)).setCell ⟨W.heap.size, 3, none⟩ (v3)).setCell ⟨W.heap.size, 4, none⟩ (v4)).heap[q]? = w.heap[q]?) ∧ (((((w.setCell ⟨W.heap.size, 0, none⟩ (v0)).setCell ⟨W.heap.size, 1, none⟩ (v1)).setCell ⟨W.heap.size, 2, none⟩ (v2)).setCell ⟨W.heap.size, 3, none⟩ (v3)).setCell ⟨W.heap.size, 4, none⟩ (v4)).heap.size = w.heap.size := by
  refine ⟨heap_setCell_same _ _ 4 _ _ v4 (heap_setCell_same _ _ 3 _ _ v3 (heap_setCell_same _ _ 2 _ _ v2 (heap_setCell_same _ _ 1 _ _ v1 (heap_setCell_same _ _ 0 _ _ v0 hz)))), ?_, fun q hq => ?_, by simp⟩
  · exact ((((hb.setCell (Nat.le_refl _) _).setCell (Nat.le_refl _) _).setCell (Nat.le_refl _) _).setCell (Nat.le_refl _) _).setCell (Nat.le_refl _) _
  · exact (Below.heap_setCell _ _ _ _ (by simpa using hq)).trans ((Below.heap_setCell _ _ _ _ (by simpa using hq)).trans ((Below.heap_setCell _ _ _ _ (by simpa using hq)).trans ((Below.heap_setCell _ _ _ _ (by simpa using hq)).trans (Below.heap_setCell _ _ _ _ (by simpa using hq)))))
theorem grown_below {W w : World} {P : Nat} (h : W.grownBy w (some P)) {B : Nat} (hB : B ≤ W.heap.size) (hP : B ≤ P) : Below B W w := ⟨h.os, h.tape, h.output, h.size, fun k hk => h.block k (by omega) (by intro e; injection e with e; omega)⟩
/-- A result that lies in a cell, and two beside it. -/
theorem ans_nil {W w : World} {a : Rt × Int × Int} (ha : a.1 = nilR) (hb : Below W.heap.size W w) : ∃ cs, (Value.agg #[.int .i64 0, .int .i64 0, .string ⟨#[]⟩, .string ⟨#[]⟩, .slice none 0 0]) = .agg cs.toArray ∧ RdP w (fun b => W.heap.size ≤ b ∧ b < w.heap.size) a.1 cs ∧ Below W.heap.size W w :=
  ⟨rcs 0 0 ⟨#[]⟩ ⟨#[]⟩ none 0 0, rfl, by rw [ha]; exact RdP.leaf _ _ 0 0 ⟨#[]⟩ ⟨#[]⟩ (by omega) (by omega) (Nat.zero_le _) (Nat.zero_le _), hb⟩
set_option maxHeartbeats 16000000 in
theorem parse_any (s : ByteArray) (W : World) (hs : s.size ≤ 800000) : Calls Tryd.prog 9 #[.string s] W (AnsOf (Wm.ans s.data.toList) W) := by
  obtain ⟨L, hL⟩ : ∃ L, s.data.toList = L := ⟨_, rfl⟩
  have HLL := Lib.hid hL
  have hlen := list_len s L hL
  rw [hL]
  obtain ⟨sz, hsz⟩ : ∃ z, s.size = z := ⟨_, rfl⟩
  obtain ⟨a, ha⟩ : ∃ a, Wm.ans L = a := ⟨_, rfl⟩
  have HA := Lib.hid ha
  rw [ha]
  have HSZ := Lib.hid hsz
  have HLEN := Lib.hid hlen
  have HS := Lib.hid hs
  clear hL ha hlen hs
  by_cases hbig : 2000 < sz
  · have HE : Hid (a = (nilR, 0, 1)) := Lib.hid (by rw [← HA.out]; unfold Wm.ans; rw [if_pos (by rw [HLEN.out, HSZ.out]; exact hbig)])
    rw [HE.out]
    go_enter Tryd.func9, Tryd.ntmps9
    go_wp2_with fail
    have hb := (Below.refl W.heap.size W).alloc (Nat.le_refl _) (.cells #[.int .i64 0, .int .i64 0, .string ⟨#[]⟩, .string ⟨#[]⟩, .slice none 0 0] 24)
    have hrw := heap_alloc_new W (.cells #[.int .i64 0, .int .i64 0, .string ⟨#[]⟩, .string ⟨#[]⟩, .slice none 0 0] 24)
    have q0 : (W.alloc (.cells #[.int .i64 0, .int .i64 0, .string ⟨#[]⟩, .string ⟨#[]⟩, .slice none 0 0] 24)).cell? ⟨W.heap.size, 0, none⟩ = some (.int .i64 0) := cell_of_row _ _ 0 _ _ (0, 0) hrw
    have q1 : (W.alloc (.cells #[.int .i64 0, .int .i64 0, .string ⟨#[]⟩, .string ⟨#[]⟩, .slice none 0 0] 24)).cell? ⟨W.heap.size, 1, none⟩ = some (.int .i64 0) := cell_of_row _ _ 1 _ _ (0, 0) hrw
    have q2 : (W.alloc (.cells #[.int .i64 0, .int .i64 0, .string ⟨#[]⟩, .string ⟨#[]⟩, .slice none 0 0] 24)).cell? ⟨W.heap.size, 2, none⟩ = some (.string ⟨#[]⟩) := cell_of_row _ _ 2 _ _ (0, 0) hrw
    have q3 : (W.alloc (.cells #[.int .i64 0, .int .i64 0, .string ⟨#[]⟩, .string ⟨#[]⟩, .slice none 0 0] 24)).cell? ⟨W.heap.size, 3, none⟩ = some (.string ⟨#[]⟩) := cell_of_row _ _ 3 _ _ (0, 0) hrw
    have q4 : (W.alloc (.cells #[.int .i64 0, .int .i64 0, .string ⟨#[]⟩, .string ⟨#[]⟩, .slice none 0 0] 24)).cell? ⟨W.heap.size, 4, none⟩ = some (.slice none 0 0) := cell_of_row _ _ 4 _ _ (0, 0) hrw
    refine bodyPost_ret (v := .tuple #[.agg #[.int .i64 0, .int .i64 0, .string ⟨#[]⟩, .string ⟨#[]⟩, .slice none 0 0], .int .i64 0, .int .i64 1]) (by simp [results, Tryd.results9, go_sem, q0, q1, q2, q3, q4]) rfl ?_
    obtain ⟨cs, h1, h2, h3⟩ := ans_nil (a := (nilR, 0, 1)) rfl hb
    exact ⟨cs, by rw [h1], h2, h3⟩
  · have HNB := Lib.hid hbig
    have HWH : Hid (a = Wm.ansR L.length (Wm.endR (Wm.pol (L.length + 1) L))) := Lib.hid (by rw [← HA.out]; unfold Wm.ans; rw [if_neg (by rw [HLEN.out, HSZ.out]; exact hbig)])
    obtain ⟨W2, hW2⟩ : ∃ w, w = ((W.alloc (.cells #[.int .i64 0, .int .i64 0, .string ⟨#[]⟩, .string ⟨#[]⟩, .slice none 0 0] 24)).alloc (.cells #[.string s, .int .i64 0, .int .i64 0, .int .u8 0, .string ⟨#[]⟩, .int .i64 0, .bool false] 43)) := ⟨_, rfl⟩
    have hz2 : W2.heap.size = W.heap.size + 1 + 1 := by rw [hW2]; simp
    have hx2 : W2.heap[W.heap.size + 1]? = some (.cells #[.string s, .int .i64 0, .int .i64 0, .int .u8 0, .string ⟨#[]⟩, .int .i64 0, .bool false] 43) := by rw [hW2]; have := heap_alloc_new (W.alloc (.cells #[.int .i64 0, .int .i64 0, .string ⟨#[]⟩, .string ⟨#[]⟩, .slice none 0 0] 24)) (.cells #[.string s, .int .i64 0, .int .i64 0, .int .u8 0, .string ⟨#[]⟩, .int .i64 0, .bool false] 43); simpa using this
    have hq2 : W2.heap[W.heap.size]? = some (.cells #[.int .i64 0, .int .i64 0, .string ⟨#[]⟩, .string ⟨#[]⟩, .slice none 0 0] 24) := by rw [hW2]; exact (heap_alloc_old _ _ (by simp)).trans (heap_alloc_new W _)
    have hb2 : Below W.heap.size W W2 := by rw [hW2]; exact ((Below.refl _ _).alloc (Nat.le_refl _) _).alloc (by simp) _
    have HRD := Lib.hid (read_any s L (W.heap.size + 1) 0 0 0 0 ⟨#[]⟩ W2 HLL.out (show PRow W2 (W.heap.size + 1) s 0 0 0 ⟨#[]⟩ 0 false from hx2) (Nat.zero_le _) (by have := HS.out; omega))
    have HPO := Lib.hid (fun w (hw : PSt w (W.heap.size + 1) s L (.at_ L)) => policy_any (W.heap.size + 1) s L HLL.out HS.out (L.length + 1) (by have := HLEN.out; have := HS.out; omega) (.at_ L) w hw (fun l e => by injection e with e; rw [← e]; omega))
    have HB2 := Lib.hid hb2
    have HQ2 := Lib.hid hq2
    have HZ2 := Lib.hid hz2
    obtain ⟨res, hres⟩ : ∃ x, Wm.pol (L.length + 1) L = x := ⟨_, rfl⟩
    have HRES := Lib.hid hres
    have hos : Wm.onSt (Wm.pol (L.length + 1)) (.at_ L) = res := hres
    rw [hos] at HPO
    rw [hres] at HWH
    clear hz2 hx2 hb2 hq2 hres hos HA
    go_enter Tryd.func9, Tryd.ntmps9
    go_upto_region 4 with fail
    rw [← hW2]
    clear hW2
    go_upto_region 5 with (go_at_call 17; (with_reducible refine HRD.out.mono ?_); rintro e3 w3 ⟨rfl, hr3, hg3⟩; have HP3 : Hid (PSt w3 (W.heap.size + 1) s L (.at_ L)) := Lib.hid ⟨hr3, Wm.Suf.refl _⟩; have HG3 := Lib.hid hg3; clear hr3 hg3)
    have HPC := Lib.hid (HPO.out w3 HP3.out)
    clear HPO
    go_upto_region 6 with (go_at_call 18; (with_reducible refine HPC.out.mono ?_); rintro e4 w4 ⟨t4, cs4, rfl, hrd4, hp4, ht4, hg4⟩; obtain ⟨k4, n4, y4, v4, A4, m4, c4, rfl⟩ := hrd4.inv; have HT4 := Lib.hid ht4; have HRD4 := Lib.hid hrd4; have HP4 := Lib.hid hp4; have HG4 := Lib.hid (grown_trans HG3.out hg4); clear hrd4 hp4 ht4 hg4; simp only [rcs])
    have hb45 : Below w4.heap.size w4 (w4.alloc (.cells #[.int .i64 k4, .int .i64 n4, .string y4, .string v4, .slice A4 m4 c4] 24)) := (Below.refl _ _).alloc (Nat.le_refl _) _
    have hx5 : (w4.alloc (.cells #[.int .i64 k4, .int .i64 n4, .string y4, .string v4, .slice A4 m4 c4] 24)).heap[w4.heap.size]? = some (.cells #[.int .i64 k4, .int .i64 n4, .string y4, .string v4, .slice A4 m4 c4] 24) := heap_alloc_new w4 _
    have hzW : W.heap.size + 1 + 1 ≤ w4.heap.size := by have := HG4.out.size; have := HZ2.out; omega
    have hq5 : (w4.alloc (.cells #[.int .i64 k4, .int .i64 n4, .string y4, .string v4, .slice A4 m4 c4] 24)).heap[W.heap.size]? = some (.cells #[.int .i64 0, .int .i64 0, .string ⟨#[]⟩, .string ⟨#[]⟩, .slice none 0 0] 24) := (hb45.block _ (by omega)).trans ((HG4.out.block _ (by have := HZ2.out; omega) (by intro e; injection e with e; omega)).trans HQ2.out)
    have hp5 := HP4.out.below hb45 HP4.out.lt
    have hB5 : Below W.heap.size W (w4.alloc (.cells #[.int .i64 k4, .int .i64 n4, .string y4, .string v4, .slice A4 m4 c4] 24)) := (HB2.out.trans (grown_below HG4.out (by have := HZ2.out; omega) (Nat.le_succ _))).trans (hb45.mono (by omega))
    have hT5 : RdP (w4.alloc (.cells #[.int .i64 k4, .int .i64 n4, .string y4, .string v4, .slice A4 m4 c4] 24)) (fun b => W.heap.size + 1 + 1 ≤ b ∧ b < w4.heap.size) t4 (rcs k4 n4 y4 v4 A4 m4 c4) := (HRD4.out.heap fun b hb => hb45.block b hb.2).imp fun b hb => ⟨by have := HG3.out.size; have := HZ2.out; omega, hb.2⟩
    have hz5 : w4.heap.size < (w4.alloc (.cells #[.int .i64 k4, .int .i64 n4, .string y4, .string v4, .slice A4 m4 c4] 24)).heap.size := by simp
    generalize w4.alloc (.cells #[.int .i64 k4, .int .i64 n4, .string y4, .string v4, .slice A4 m4 c4] 24) = w5 at *
    generalize hw4z : w4.heap.size = z4 at *
    have d0 : w5.cell? ⟨z4, 0, none⟩ = some (.int .i64 k4) := cell_of_row _ _ 0 _ _ (0, 0) hx5
    have d1 : w5.cell? ⟨z4, 1, none⟩ = some (.int .i64 n4) := cell_of_row _ _ 1 _ _ (0, 0) hx5
    have d2 : w5.cell? ⟨z4, 2, none⟩ = some (.string y4) := cell_of_row _ _ 2 _ _ (0, 0) hx5
    have d3 : w5.cell? ⟨z4, 3, none⟩ = some (.string v4) := cell_of_row _ _ 3 _ _ (0, 0) hx5
    have d4 : w5.cell? ⟨z4, 4, none⟩ = some (.slice A4 m4 c4) := cell_of_row _ _ 4 _ _ (0, 0) hx5
    have df0 : w5.frozen? ⟨z4, 0, none⟩ = false := pfrz hx5
    have df1 : w5.frozen? ⟨z4, 1, none⟩ = false := pfrz hx5
    have df2 : w5.frozen? ⟨z4, 2, none⟩ = false := pfrz hx5
    have df3 : w5.frozen? ⟨z4, 3, none⟩ = false := pfrz hx5
    have df4 : w5.frozen? ⟨z4, 4, none⟩ = false := pfrz hx5
    have g0 : w5.cell? ⟨W.heap.size, 0, none⟩ = some (.int .i64 0) := cell_of_row _ _ 0 _ _ (0, 0) hq5
    have g1 : w5.cell? ⟨W.heap.size, 1, none⟩ = some (.int .i64 0) := cell_of_row _ _ 1 _ _ (0, 0) hq5
    have g2 : w5.cell? ⟨W.heap.size, 2, none⟩ = some (.string ⟨#[]⟩) := cell_of_row _ _ 2 _ _ (0, 0) hq5
    have g3 : w5.cell? ⟨W.heap.size, 3, none⟩ = some (.string ⟨#[]⟩) := cell_of_row _ _ 3 _ _ (0, 0) hq5
    have g4 : w5.cell? ⟨W.heap.size, 4, none⟩ = some (.slice none 0 0) := cell_of_row _ _ 4 _ _ (0, 0) hq5
    have gf0 : w5.frozen? ⟨W.heap.size, 0, none⟩ = false := pfrz hq5
    have gf1 : w5.frozen? ⟨W.heap.size, 1, none⟩ = false := pfrz hq5
    have gf2 : w5.frozen? ⟨W.heap.size, 2, none⟩ = false := pfrz hq5
    have gf3 : w5.frozen? ⟨W.heap.size, 3, none⟩ = false := pfrz hq5
    have gf4 : w5.frozen? ⟨W.heap.size, 4, none⟩ = false := pfrz hq5
    have HP5 := Lib.hid hp5
    have HB5 := Lib.hid hB5
    have HT5 := Lib.hid hT5
    have HQ5 := Lib.hid hq5
    have HZ5 := Lib.hid hz5
    have HX5 := Lib.hid hx5
    have HZW := Lib.hid hzW
    have hzne : W.heap.size ≠ z4 := by omega
    clear hp5 hB5 hT5 hq5 hx5 hb45 hw4z hz5 hzW HRD4 HP4 HG4 HPC HP3 HG3 HQ2 HB2 HZ2 HRD
    cases res with
    | bad e0 =>
      obtain ⟨kd, bd, c3x, c6x, _, hbx⟩ := HP5.out.kind
      have hbd := hbx e0 rfl
      subst hbd
      clear hbx
      obtain ⟨at5, c2x, hat⟩ := HP5.out.at_cell
      have HAT := Lib.hid hat
      clear hat
      have HAE : Hid (a = (nilR, (at5 : Int), 2)) := Lib.hid (by
        rw [HWH.out]
        have h1 := HAT.out
        have h2 := HLEN.out
        show ((nilR, (L.length : Int) - (e0.length : Int), (2 : Int)) : Rt × Int × Int) = _
        have h1 : at5 + e0.length = s.size := h1
        have h3 : (L.length : Int) - (e0.length : Int) = (at5 : Int) := by omega
        rw [h3])
      go_wp2_with fail
      go_region
      go_wp2_with fail
      have HS5 := set5 (W := W) HQ5.out HB5.out (.int .i64 0) (.int .i64 0) (.string ⟨#[]⟩) (.string ⟨#[]⟩) (.slice none 0 0)
      have hrw : (((((w5.setCell ⟨W.heap.size, 0, none⟩ (.int .i64 0)).setCell ⟨W.heap.size, 1, none⟩ (.int .i64 0)).setCell ⟨W.heap.size, 2, none⟩ (.string ⟨#[]⟩)).setCell ⟨W.heap.size, 3, none⟩ (.string ⟨#[]⟩)).setCell ⟨W.heap.size, 4, none⟩ (.slice none 0 0)).drew.heap[W.heap.size]? = some (.cells #[.int .i64 0, .int .i64 0, .string ⟨#[]⟩, .string ⟨#[]⟩, .slice none 0 0] 24) := HS5.1
      have q0 : (((((w5.setCell ⟨W.heap.size, 0, none⟩ (.int .i64 0)).setCell ⟨W.heap.size, 1, none⟩ (.int .i64 0)).setCell ⟨W.heap.size, 2, none⟩ (.string ⟨#[]⟩)).setCell ⟨W.heap.size, 3, none⟩ (.string ⟨#[]⟩)).setCell ⟨W.heap.size, 4, none⟩ (.slice none 0 0)).drew.cell? ⟨W.heap.size, 0, none⟩ = some (.int .i64 0) := cell_of_row _ _ 0 _ _ (0, 0) hrw
      have q1 : (((((w5.setCell ⟨W.heap.size, 0, none⟩ (.int .i64 0)).setCell ⟨W.heap.size, 1, none⟩ (.int .i64 0)).setCell ⟨W.heap.size, 2, none⟩ (.string ⟨#[]⟩)).setCell ⟨W.heap.size, 3, none⟩ (.string ⟨#[]⟩)).setCell ⟨W.heap.size, 4, none⟩ (.slice none 0 0)).drew.cell? ⟨W.heap.size, 1, none⟩ = some (.int .i64 0) := cell_of_row _ _ 1 _ _ (0, 0) hrw
      have q2 : (((((w5.setCell ⟨W.heap.size, 0, none⟩ (.int .i64 0)).setCell ⟨W.heap.size, 1, none⟩ (.int .i64 0)).setCell ⟨W.heap.size, 2, none⟩ (.string ⟨#[]⟩)).setCell ⟨W.heap.size, 3, none⟩ (.string ⟨#[]⟩)).setCell ⟨W.heap.size, 4, none⟩ (.slice none 0 0)).drew.cell? ⟨W.heap.size, 2, none⟩ = some (.string ⟨#[]⟩) := cell_of_row _ _ 2 _ _ (0, 0) hrw
      have q3 : (((((w5.setCell ⟨W.heap.size, 0, none⟩ (.int .i64 0)).setCell ⟨W.heap.size, 1, none⟩ (.int .i64 0)).setCell ⟨W.heap.size, 2, none⟩ (.string ⟨#[]⟩)).setCell ⟨W.heap.size, 3, none⟩ (.string ⟨#[]⟩)).setCell ⟨W.heap.size, 4, none⟩ (.slice none 0 0)).drew.cell? ⟨W.heap.size, 3, none⟩ = some (.string ⟨#[]⟩) := cell_of_row _ _ 3 _ _ (0, 0) hrw
      have q4 : (((((w5.setCell ⟨W.heap.size, 0, none⟩ (.int .i64 0)).setCell ⟨W.heap.size, 1, none⟩ (.int .i64 0)).setCell ⟨W.heap.size, 2, none⟩ (.string ⟨#[]⟩)).setCell ⟨W.heap.size, 3, none⟩ (.string ⟨#[]⟩)).setCell ⟨W.heap.size, 4, none⟩ (.slice none 0 0)).drew.cell? ⟨W.heap.size, 4, none⟩ = some (.slice none 0 0) := cell_of_row _ _ 4 _ _ (0, 0) hrw
      refine bodyPost_ret (v := .tuple #[.agg #[.int .i64 0, .int .i64 0, .string ⟨#[]⟩, .string ⟨#[]⟩, .slice none 0 0], .int .i64 (at5 : Int), .int .i64 2]) (by simp [results, Tryd.results9, go_sem, q0, q1, q2, q3, q4]) rfl ?_
      obtain rfl := HAE.out
      obtain ⟨cs, h1, h2, h3⟩ := ans_nil (a := (nilR, (at5 : Int), 2)) (w := (((((w5.setCell ⟨W.heap.size, 0, none⟩ (.int .i64 0)).setCell ⟨W.heap.size, 1, none⟩ (.int .i64 0)).setCell ⟨W.heap.size, 2, none⟩ (.string ⟨#[]⟩)).setCell ⟨W.heap.size, 3, none⟩ (.string ⟨#[]⟩)).setCell ⟨W.heap.size, 4, none⟩ (.slice none 0 0)).drew) rfl (HS5.2.1.trans (Below.refl _ _ |>.drew))
      exact ⟨cs, by rw [h1], h2, h3⟩
    | ok t0 r0 =>
      have hP50 := HP5.out
      change PSt w5 (W.heap.size + 1) s L (.at_ r0) at hP50
      obtain ⟨c3x, c6x⟩ := kind_code hP50
      have HTT := Lib.hid (HT4.out t0 r0 rfl)
      by_cases hk : (Wm.tok r0).kind = 0
      · have hcd := code_end.2 hk
        rw [hcd] at c3x
        have e1 : ((1 : Nat) : Int) = 1 := rfl
        rw [e1] at c3x
        have hRR : RdR w5 w5.heap.size t4 (rcs k4 n4 y4 v4 A4 m4 c4) := HT5.out.toR (fun b hb => Nat.lt_trans hb.2 HZ5.out)
        have HRI := Lib.hid (fun V (hV : Below w5.heap.size w5 V) => right_all hRR V hV (Below.size hV))
        have HAE : Hid (a = if t4.right = true then (t4, -1, 0) else (nilR, 0, 1)) := Lib.hid (by
          rw [HWH.out, HTT.out]
          show Wm.ansR L.length (if (Wm.tok r0).kind = 0 then _ else _) = _
          rw [if_pos hk]
          rfl)
        simp only [rcs] at HRI
        clear hk hcd hP50 hRR
        cases hri : t4.right
        · rw [hri] at HRI HAE
          have HAE2 : Hid (a = (nilR, 0, 1)) := Lib.hid (by rw [HAE.out]; rfl)
          go_wp2_with (go_at_call 19; (with_reducible refine (HRI.out _ (Below.refl _ _)).mono ?_); rintro e6 w6 ⟨rfl, hb6⟩; have HB6 := Lib.hid (HB5.out.trans (hb6.mono HB5.out.size)); have HB65 := Lib.hid hb6; have HQ6 := Lib.hid ((hb6.block _ (in_heap HQ5.out)).trans HQ5.out); have hx6 : w6.heap[z4]? = some (.cells #[.int .i64 k4, .int .i64 n4, .string y4, .string v4, .slice A4 m4 c4] 24) := (hb6.block _ HZ5.out).trans HX5.out; clear d0 d1 d2 d3 d4 df0 df1 df2 df3 df4 g0 g1 g2 g3 g4 gf0 gf1 gf2 gf3 gf4; have d0 : w6.cell? ⟨z4, 0, none⟩ = some (.int .i64 k4) := cell_of_row _ _ 0 _ _ (0, 0) hx6; have d1 : w6.cell? ⟨z4, 1, none⟩ = some (.int .i64 n4) := cell_of_row _ _ 1 _ _ (0, 0) hx6; have d2 : w6.cell? ⟨z4, 2, none⟩ = some (.string y4) := cell_of_row _ _ 2 _ _ (0, 0) hx6; have d3 : w6.cell? ⟨z4, 3, none⟩ = some (.string v4) := cell_of_row _ _ 3 _ _ (0, 0) hx6; have d4 : w6.cell? ⟨z4, 4, none⟩ = some (.slice A4 m4 c4) := cell_of_row _ _ 4 _ _ (0, 0) hx6; have df0 : w6.frozen? ⟨z4, 0, none⟩ = false := pfrz hx6; have df1 : w6.frozen? ⟨z4, 1, none⟩ = false := pfrz hx6; have df2 : w6.frozen? ⟨z4, 2, none⟩ = false := pfrz hx6; have df3 : w6.frozen? ⟨z4, 3, none⟩ = false := pfrz hx6; have df4 : w6.frozen? ⟨z4, 4, none⟩ = false := pfrz hx6;  have g0 : w6.cell? ⟨W.heap.size, 0, none⟩ = some (.int .i64 0) := cell_of_row _ _ 0 _ _ (0, 0) HQ6.out; have g1 : w6.cell? ⟨W.heap.size, 1, none⟩ = some (.int .i64 0) := cell_of_row _ _ 1 _ _ (0, 0) HQ6.out; have g2 : w6.cell? ⟨W.heap.size, 2, none⟩ = some (.string ⟨#[]⟩) := cell_of_row _ _ 2 _ _ (0, 0) HQ6.out; have g3 : w6.cell? ⟨W.heap.size, 3, none⟩ = some (.string ⟨#[]⟩) := cell_of_row _ _ 3 _ _ (0, 0) HQ6.out; have g4 : w6.cell? ⟨W.heap.size, 4, none⟩ = some (.slice none 0 0) := cell_of_row _ _ 4 _ _ (0, 0) HQ6.out; have gf0 : w6.frozen? ⟨W.heap.size, 0, none⟩ = false := pfrz HQ6.out; have gf1 : w6.frozen? ⟨W.heap.size, 1, none⟩ = false := pfrz HQ6.out; have gf2 : w6.frozen? ⟨W.heap.size, 2, none⟩ = false := pfrz HQ6.out; have gf3 : w6.frozen? ⟨W.heap.size, 3, none⟩ = false := pfrz HQ6.out; have gf4 : w6.frozen? ⟨W.heap.size, 4, none⟩ = false := pfrz HQ6.out;  clear hb6 hx6)
          have HS5 := set5 (W := W) HQ6.out HB6.out (.int .i64 0) (.int .i64 0) (.string ⟨#[]⟩) (.string ⟨#[]⟩) (.slice none 0 0)
          have hrw := HS5.1
          have q0 : (((((w6.setCell ⟨W.heap.size, 0, none⟩ (.int .i64 0)).setCell ⟨W.heap.size, 1, none⟩ (.int .i64 0)).setCell ⟨W.heap.size, 2, none⟩ (.string ⟨#[]⟩)).setCell ⟨W.heap.size, 3, none⟩ (.string ⟨#[]⟩)).setCell ⟨W.heap.size, 4, none⟩ (.slice none 0 0)).cell? ⟨W.heap.size, 0, none⟩ = some (.int .i64 0) := cell_of_row _ _ 0 _ _ (0, 0) hrw
          have q1 : (((((w6.setCell ⟨W.heap.size, 0, none⟩ (.int .i64 0)).setCell ⟨W.heap.size, 1, none⟩ (.int .i64 0)).setCell ⟨W.heap.size, 2, none⟩ (.string ⟨#[]⟩)).setCell ⟨W.heap.size, 3, none⟩ (.string ⟨#[]⟩)).setCell ⟨W.heap.size, 4, none⟩ (.slice none 0 0)).cell? ⟨W.heap.size, 1, none⟩ = some (.int .i64 0) := cell_of_row _ _ 1 _ _ (0, 0) hrw
          have q2 : (((((w6.setCell ⟨W.heap.size, 0, none⟩ (.int .i64 0)).setCell ⟨W.heap.size, 1, none⟩ (.int .i64 0)).setCell ⟨W.heap.size, 2, none⟩ (.string ⟨#[]⟩)).setCell ⟨W.heap.size, 3, none⟩ (.string ⟨#[]⟩)).setCell ⟨W.heap.size, 4, none⟩ (.slice none 0 0)).cell? ⟨W.heap.size, 2, none⟩ = some (.string ⟨#[]⟩) := cell_of_row _ _ 2 _ _ (0, 0) hrw
          have q3 : (((((w6.setCell ⟨W.heap.size, 0, none⟩ (.int .i64 0)).setCell ⟨W.heap.size, 1, none⟩ (.int .i64 0)).setCell ⟨W.heap.size, 2, none⟩ (.string ⟨#[]⟩)).setCell ⟨W.heap.size, 3, none⟩ (.string ⟨#[]⟩)).setCell ⟨W.heap.size, 4, none⟩ (.slice none 0 0)).cell? ⟨W.heap.size, 3, none⟩ = some (.string ⟨#[]⟩) := cell_of_row _ _ 3 _ _ (0, 0) hrw
          have q4 : (((((w6.setCell ⟨W.heap.size, 0, none⟩ (.int .i64 0)).setCell ⟨W.heap.size, 1, none⟩ (.int .i64 0)).setCell ⟨W.heap.size, 2, none⟩ (.string ⟨#[]⟩)).setCell ⟨W.heap.size, 3, none⟩ (.string ⟨#[]⟩)).setCell ⟨W.heap.size, 4, none⟩ (.slice none 0 0)).cell? ⟨W.heap.size, 4, none⟩ = some (.slice none 0 0) := cell_of_row _ _ 4 _ _ (0, 0) hrw
          refine bodyPost_ret (v := .tuple #[.agg #[.int .i64 0, .int .i64 0, .string ⟨#[]⟩, .string ⟨#[]⟩, .slice none 0 0], .int .i64 0, .int .i64 1]) (by simp [results, Tryd.results9, go_sem, q0, q1, q2, q3, q4]) rfl ?_
          obtain rfl := HAE2.out
          obtain ⟨cs, h1, h2, h3⟩ := ans_nil (a := (nilR, 0, 1)) (w := (((((w6.setCell ⟨W.heap.size, 0, none⟩ (.int .i64 0)).setCell ⟨W.heap.size, 1, none⟩ (.int .i64 0)).setCell ⟨W.heap.size, 2, none⟩ (.string ⟨#[]⟩)).setCell ⟨W.heap.size, 3, none⟩ (.string ⟨#[]⟩)).setCell ⟨W.heap.size, 4, none⟩ (.slice none 0 0))) rfl HS5.2.1
          exact ⟨cs, by rw [h1], h2, h3⟩
        · rw [hri] at HRI HAE
          have HAE2 : Hid (a = (t4, -1, 0)) := Lib.hid (by rw [HAE.out]; rfl)
          go_wp2_with (go_at_call 19; (with_reducible refine (HRI.out _ (Below.refl _ _)).mono ?_); rintro e6 w6 ⟨rfl, hb6⟩; have HB6 := Lib.hid (HB5.out.trans (hb6.mono HB5.out.size)); have HB65 := Lib.hid hb6; have HQ6 := Lib.hid ((hb6.block _ (in_heap HQ5.out)).trans HQ5.out); have hx6 : w6.heap[z4]? = some (.cells #[.int .i64 k4, .int .i64 n4, .string y4, .string v4, .slice A4 m4 c4] 24) := (hb6.block _ HZ5.out).trans HX5.out; clear d0 d1 d2 d3 d4 df0 df1 df2 df3 df4 g0 g1 g2 g3 g4 gf0 gf1 gf2 gf3 gf4; have d0 : w6.cell? ⟨z4, 0, none⟩ = some (.int .i64 k4) := cell_of_row _ _ 0 _ _ (0, 0) hx6; have d1 : w6.cell? ⟨z4, 1, none⟩ = some (.int .i64 n4) := cell_of_row _ _ 1 _ _ (0, 0) hx6; have d2 : w6.cell? ⟨z4, 2, none⟩ = some (.string y4) := cell_of_row _ _ 2 _ _ (0, 0) hx6; have d3 : w6.cell? ⟨z4, 3, none⟩ = some (.string v4) := cell_of_row _ _ 3 _ _ (0, 0) hx6; have d4 : w6.cell? ⟨z4, 4, none⟩ = some (.slice A4 m4 c4) := cell_of_row _ _ 4 _ _ (0, 0) hx6; have df0 : w6.frozen? ⟨z4, 0, none⟩ = false := pfrz hx6; have df1 : w6.frozen? ⟨z4, 1, none⟩ = false := pfrz hx6; have df2 : w6.frozen? ⟨z4, 2, none⟩ = false := pfrz hx6; have df3 : w6.frozen? ⟨z4, 3, none⟩ = false := pfrz hx6; have df4 : w6.frozen? ⟨z4, 4, none⟩ = false := pfrz hx6;  have g0 : w6.cell? ⟨W.heap.size, 0, none⟩ = some (.int .i64 0) := cell_of_row _ _ 0 _ _ (0, 0) HQ6.out; have g1 : w6.cell? ⟨W.heap.size, 1, none⟩ = some (.int .i64 0) := cell_of_row _ _ 1 _ _ (0, 0) HQ6.out; have g2 : w6.cell? ⟨W.heap.size, 2, none⟩ = some (.string ⟨#[]⟩) := cell_of_row _ _ 2 _ _ (0, 0) HQ6.out; have g3 : w6.cell? ⟨W.heap.size, 3, none⟩ = some (.string ⟨#[]⟩) := cell_of_row _ _ 3 _ _ (0, 0) HQ6.out; have g4 : w6.cell? ⟨W.heap.size, 4, none⟩ = some (.slice none 0 0) := cell_of_row _ _ 4 _ _ (0, 0) HQ6.out; have gf0 : w6.frozen? ⟨W.heap.size, 0, none⟩ = false := pfrz HQ6.out; have gf1 : w6.frozen? ⟨W.heap.size, 1, none⟩ = false := pfrz HQ6.out; have gf2 : w6.frozen? ⟨W.heap.size, 2, none⟩ = false := pfrz HQ6.out; have gf3 : w6.frozen? ⟨W.heap.size, 3, none⟩ = false := pfrz HQ6.out; have gf4 : w6.frozen? ⟨W.heap.size, 4, none⟩ = false := pfrz HQ6.out;  clear hb6 hx6)
          have HS5 := set5 (W := W) HQ6.out HB6.out (.int .i64 k4) (.int .i64 n4) (.string y4) (.string v4) (.slice A4 m4 c4)
          have hrw := HS5.1
          have q0 : (((((w6.setCell ⟨W.heap.size, 0, none⟩ (.int .i64 k4)).setCell ⟨W.heap.size, 1, none⟩ (.int .i64 n4)).setCell ⟨W.heap.size, 2, none⟩ (.string y4)).setCell ⟨W.heap.size, 3, none⟩ (.string v4)).setCell ⟨W.heap.size, 4, none⟩ (.slice A4 m4 c4)).cell? ⟨W.heap.size, 0, none⟩ = some (.int .i64 k4) := cell_of_row _ _ 0 _ _ (0, 0) hrw
          have q1 : (((((w6.setCell ⟨W.heap.size, 0, none⟩ (.int .i64 k4)).setCell ⟨W.heap.size, 1, none⟩ (.int .i64 n4)).setCell ⟨W.heap.size, 2, none⟩ (.string y4)).setCell ⟨W.heap.size, 3, none⟩ (.string v4)).setCell ⟨W.heap.size, 4, none⟩ (.slice A4 m4 c4)).cell? ⟨W.heap.size, 1, none⟩ = some (.int .i64 n4) := cell_of_row _ _ 1 _ _ (0, 0) hrw
          have q2 : (((((w6.setCell ⟨W.heap.size, 0, none⟩ (.int .i64 k4)).setCell ⟨W.heap.size, 1, none⟩ (.int .i64 n4)).setCell ⟨W.heap.size, 2, none⟩ (.string y4)).setCell ⟨W.heap.size, 3, none⟩ (.string v4)).setCell ⟨W.heap.size, 4, none⟩ (.slice A4 m4 c4)).cell? ⟨W.heap.size, 2, none⟩ = some (.string y4) := cell_of_row _ _ 2 _ _ (0, 0) hrw
          have q3 : (((((w6.setCell ⟨W.heap.size, 0, none⟩ (.int .i64 k4)).setCell ⟨W.heap.size, 1, none⟩ (.int .i64 n4)).setCell ⟨W.heap.size, 2, none⟩ (.string y4)).setCell ⟨W.heap.size, 3, none⟩ (.string v4)).setCell ⟨W.heap.size, 4, none⟩ (.slice A4 m4 c4)).cell? ⟨W.heap.size, 3, none⟩ = some (.string v4) := cell_of_row _ _ 3 _ _ (0, 0) hrw
          have q4 : (((((w6.setCell ⟨W.heap.size, 0, none⟩ (.int .i64 k4)).setCell ⟨W.heap.size, 1, none⟩ (.int .i64 n4)).setCell ⟨W.heap.size, 2, none⟩ (.string y4)).setCell ⟨W.heap.size, 3, none⟩ (.string v4)).setCell ⟨W.heap.size, 4, none⟩ (.slice A4 m4 c4)).cell? ⟨W.heap.size, 4, none⟩ = some (.slice A4 m4 c4) := cell_of_row _ _ 4 _ _ (0, 0) hrw
          refine bodyPost_ret (v := .tuple #[.agg #[.int .i64 k4, .int .i64 n4, .string y4, .string v4, .slice A4 m4 c4], .int .i64 (-1), .int .i64 0]) (by simp [results, Tryd.results9, go_sem, q0, q1, q2, q3, q4]) rfl ?_
          obtain rfl := HAE2.out
          refine ⟨rcs k4 n4 y4 v4 A4 m4 c4, rfl, ?_, HS5.2.1⟩
          refine (HT5.out.heap fun b hb => (HS5.2.2.1 b (by omega)).trans (HB65.out.block b (Nat.lt_trans hb.2 HZ5.out))).imp fun b hb => ⟨by omega, ?_⟩
          have h1 := HS5.2.2.2
          have h2 := HB65.out.size
          have h3 := HZ5.out
          rw [h1]
          omega
      · have hcd : (Wm.tok r0).code ≠ 1 := fun e => hk (code_end.1 e)
        have k1 : (((Wm.tok r0).code : Int) == 1) = false := by rw [beq_eq_false_iff_ne]; omega
        have k2 : ((Wm.tok r0).code == 1) = false := by rw [beq_eq_false_iff_ne]; omega
        have k3 : (((Wm.tok r0).code : Int) != 1) = true := by simp [bne, k1]
        have k4x : ((Wm.tok r0).code != 1) = true := by simp [bne, k2]
        obtain ⟨at5, c2x, hat0⟩ := hP50.at_cell
        have hat : at5 + (Wm.tok r0).from_.length = s.size := hat0
        clear hat0
        have HAT := Lib.hid hat
        have HAE : Hid (a = (nilR, (at5 : Int), 2)) := Lib.hid (by
          rw [HWH.out]
          have h1 := HAT.out
          have h2 := HLEN.out
          show Wm.ansR L.length (if (Wm.tok r0).kind = 0 then _ else _) = _
          rw [if_neg hk]
          show ((nilR, (L.length : Int) - ((Wm.tok r0).from_.length : Int), (2 : Int)) : Rt × Int × Int) = _
          have h1 : at5 + (Wm.tok r0).from_.length = s.size := h1
          have h3 : (L.length : Int) - ((Wm.tok r0).from_.length : Int) = (at5 : Int) := by omega
          rw [h3])
        clear hk hcd hP50 hat
        go_wp2_with fail
        go_region
        go_wp2_with fail
        have HS5 := set5 (W := W) HQ5.out HB5.out (.int .i64 0) (.int .i64 0) (.string ⟨#[]⟩) (.string ⟨#[]⟩) (.slice none 0 0)
        have hrw : (((((w5.setCell ⟨W.heap.size, 0, none⟩ (.int .i64 0)).setCell ⟨W.heap.size, 1, none⟩ (.int .i64 0)).setCell ⟨W.heap.size, 2, none⟩ (.string ⟨#[]⟩)).setCell ⟨W.heap.size, 3, none⟩ (.string ⟨#[]⟩)).setCell ⟨W.heap.size, 4, none⟩ (.slice none 0 0)).drew.heap[W.heap.size]? = some (.cells #[.int .i64 0, .int .i64 0, .string ⟨#[]⟩, .string ⟨#[]⟩, .slice none 0 0] 24) := HS5.1
        have q0 : (((((w5.setCell ⟨W.heap.size, 0, none⟩ (.int .i64 0)).setCell ⟨W.heap.size, 1, none⟩ (.int .i64 0)).setCell ⟨W.heap.size, 2, none⟩ (.string ⟨#[]⟩)).setCell ⟨W.heap.size, 3, none⟩ (.string ⟨#[]⟩)).setCell ⟨W.heap.size, 4, none⟩ (.slice none 0 0)).drew.cell? ⟨W.heap.size, 0, none⟩ = some (.int .i64 0) := cell_of_row _ _ 0 _ _ (0, 0) hrw
        have q1 : (((((w5.setCell ⟨W.heap.size, 0, none⟩ (.int .i64 0)).setCell ⟨W.heap.size, 1, none⟩ (.int .i64 0)).setCell ⟨W.heap.size, 2, none⟩ (.string ⟨#[]⟩)).setCell ⟨W.heap.size, 3, none⟩ (.string ⟨#[]⟩)).setCell ⟨W.heap.size, 4, none⟩ (.slice none 0 0)).drew.cell? ⟨W.heap.size, 1, none⟩ = some (.int .i64 0) := cell_of_row _ _ 1 _ _ (0, 0) hrw
        have q2 : (((((w5.setCell ⟨W.heap.size, 0, none⟩ (.int .i64 0)).setCell ⟨W.heap.size, 1, none⟩ (.int .i64 0)).setCell ⟨W.heap.size, 2, none⟩ (.string ⟨#[]⟩)).setCell ⟨W.heap.size, 3, none⟩ (.string ⟨#[]⟩)).setCell ⟨W.heap.size, 4, none⟩ (.slice none 0 0)).drew.cell? ⟨W.heap.size, 2, none⟩ = some (.string ⟨#[]⟩) := cell_of_row _ _ 2 _ _ (0, 0) hrw
        have q3 : (((((w5.setCell ⟨W.heap.size, 0, none⟩ (.int .i64 0)).setCell ⟨W.heap.size, 1, none⟩ (.int .i64 0)).setCell ⟨W.heap.size, 2, none⟩ (.string ⟨#[]⟩)).setCell ⟨W.heap.size, 3, none⟩ (.string ⟨#[]⟩)).setCell ⟨W.heap.size, 4, none⟩ (.slice none 0 0)).drew.cell? ⟨W.heap.size, 3, none⟩ = some (.string ⟨#[]⟩) := cell_of_row _ _ 3 _ _ (0, 0) hrw
        have q4 : (((((w5.setCell ⟨W.heap.size, 0, none⟩ (.int .i64 0)).setCell ⟨W.heap.size, 1, none⟩ (.int .i64 0)).setCell ⟨W.heap.size, 2, none⟩ (.string ⟨#[]⟩)).setCell ⟨W.heap.size, 3, none⟩ (.string ⟨#[]⟩)).setCell ⟨W.heap.size, 4, none⟩ (.slice none 0 0)).drew.cell? ⟨W.heap.size, 4, none⟩ = some (.slice none 0 0) := cell_of_row _ _ 4 _ _ (0, 0) hrw
        refine bodyPost_ret (v := .tuple #[.agg #[.int .i64 0, .int .i64 0, .string ⟨#[]⟩, .string ⟨#[]⟩, .slice none 0 0], .int .i64 (at5 : Int), .int .i64 2]) (by simp [results, Tryd.results9, go_sem, q0, q1, q2, q3, q4]) rfl ?_
        obtain rfl := HAE.out
        obtain ⟨cs, h1, h2, h3⟩ := ans_nil (a := (nilR, (at5 : Int), 2)) (w := (((((w5.setCell ⟨W.heap.size, 0, none⟩ (.int .i64 0)).setCell ⟨W.heap.size, 1, none⟩ (.int .i64 0)).setCell ⟨W.heap.size, 2, none⟩ (.string ⟨#[]⟩)).setCell ⟨W.heap.size, 3, none⟩ (.string ⟨#[]⟩)).setCell ⟨W.heap.size, 4, none⟩ (.slice none 0 0)).drew) rfl (HS5.2.1.trans (Below.refl _ _ |>.drew))
        exact ⟨cs, by rw [h1], h2, h3⟩
end Go.Proofs.YtgiahfjndononaaDoor
