/- The document's Parse, given its rule. -/
import Derived.Test.YtgiahfjndononaaDoorPpk
import Derived.Test.YtgiahfjndononaaDoorPoi
namespace Go.Proofs.YtgiahfjndononaaDoor
open Go.RowKit
set_option linter.unusedVariables false
set_option linter.unusedSimpArgs false
set_option maxRecDepth 100000

def Wm.badOf (s : ByteArray) : Wm.St → Int
  | .bad e => ((s.size - e.length : Nat) : Int)
  | .at_ _ => -1
theorem DSt.bad {w : World} {P : Nat} {s : ByteArray} {L : List UInt8} {st : Wm.St} (h : DSt w P s L st) : w.cell? ⟨P, 2, none⟩ = some (.int .i64 (Wm.badOf s st)) := by
  cases st with
  | bad e => obtain ⟨⟨a, ha, h⟩, h2⟩ := h; exact cell_of_row _ _ 2 _ _ (0, 0) h
  | at_ l => exact cell_of_row _ _ 2 _ _ (0, 0) h.1
/-- What holds behind the rule: the result's box, the parser, the node, what it tells. -/
structure PaSt (W w : World) (z4 : Nat) (s : ByteArray) (L : List UInt8) (st : Wm.St) (t : Rt) (cs : List Value) (nc : Array Value) : Prop where
  z : w.heap[W.heap.size]? = some (.cells #[.int .i64 0, .int .i64 0, .string ⟨#[]⟩, .string ⟨#[]⟩, .slice none 0 0] 24)
  x : w.heap[z4]? = some (.cells nc 24)
  r : DSt w (W.heap.size + 1) s L st
  t : RdP w (fun b => W.heap.size + 1 + 1 ≤ b ∧ b < z4) t cs
  b : Below W.heap.size W w
  l : W.heap.size + 1 < z4
section
variable {W w w' : World} {z4 : Nat} {s : ByteArray} {L : List UInt8} {st st' : Wm.St} {t : Rt} {cs : List Value} {nc : Array Value}
theorem PaSt.call (h : PaSt W w z4 s L st t cs nc) (hg : w.grownBy w' (some (W.heap.size + 1))) (hr : DSt w' (W.heap.size + 1) s L st') : PaSt W w' z4 s L st' t cs nc := by
  have hl := h.l
  have hx := in_heap h.x
  exact ⟨(hg.block _ (by omega) (by intro e; injection e with e; omega)).trans h.z, (hg.block _ hx (by intro e; injection e with e; omega)).trans h.x, hr, h.t.heap (fun b hb => hg.block b (by omega) (by intro e; injection e with e; omega)), h.b.trans (grown_below hg (by omega) (by omega)), h.l⟩
theorem PaSt.below (h : PaSt W w z4 s L st t cs nc) (hb : Below w.heap.size w w') : PaSt W w' z4 s L st t cs nc :=
  h.call (below_grownP hb) (h.r.below hb h.r.lt)
theorem PaSt.bad (h : PaSt W w z4 s L st t cs nc) : w.cell? ⟨W.heap.size + 1, 2, none⟩ = some (.int .i64 (Wm.badOf s st)) := h.r.bad
theorem PaSt.badv (h : PaSt W w z4 s L st t cs nc) {z : Int} (hz : Wm.badOf s st = z) : w.cell? ⟨W.heap.size + 1, 2, none⟩ = some (.int .i64 z) := hz ▸ h.bad
theorem PaSt.tree (h : PaSt W w z4 s L st t cs nc) : RdR w w.heap.size t cs := h.t.toR (fun b hb => Nat.lt_trans hb.2 (in_heap h.x))
end
set_option maxHeartbeats 16000000 in
theorem dparse_any (s : ByteArray) (W : World) (hs : s.size ≤ 800000) (HR : DRuleCalls (s.data.toList.length + 1) (W.heap.size + 1) s s.data.toList) : Calls Tryd.prog 10 #[.string s] W (AnsOf (Wm.ans s.data.toList) W) := by
  obtain ⟨L, hL⟩ : ∃ L, s.data.toList = L := ⟨_, rfl⟩
  have HLL := Lib.hid hL
  have hlen := list_len s L hL
  rw [hL] at HR ⊢
  obtain ⟨sz, hsz⟩ : ∃ z, s.size = z := ⟨_, rfl⟩
  obtain ⟨a, ha⟩ : ∃ a, Wm.ans L = a := ⟨_, rfl⟩
  have HA := Lib.hid ha
  rw [ha]
  have HSZ := Lib.hid hsz
  have HLEN := Lib.hid hlen
  have HS := Lib.hid hs
  clear hL ha hlen hs
  by_cases hbig : 2000 < sz
  · have HE : Hid (a = (nilR, 0, 1)) := Lib.hid (by rw [← HA.out]; unfold Wm.ans; rw [if_pos (by rw [HLEN.out, HSZ.out]; exact hbig)])
    rw [HE.out]
    clear HR
    go_enter Tryd.func10, Tryd.ntmps10
    go_wp2_with fail
    have hb := (Below.refl W.heap.size W).alloc (Nat.le_refl _) (.cells #[.int .i64 0, .int .i64 0, .string ⟨#[]⟩, .string ⟨#[]⟩, .slice none 0 0] 24)
    have hrw := heap_alloc_new W (.cells #[.int .i64 0, .int .i64 0, .string ⟨#[]⟩, .string ⟨#[]⟩, .slice none 0 0] 24)
    have q0 : (W.alloc (.cells #[.int .i64 0, .int .i64 0, .string ⟨#[]⟩, .string ⟨#[]⟩, .slice none 0 0] 24)).cell? ⟨W.heap.size, 0, none⟩ = some (.int .i64 0) := cell_of_row _ _ 0 _ _ (0, 0) hrw
    have q1 : (W.alloc (.cells #[.int .i64 0, .int .i64 0, .string ⟨#[]⟩, .string ⟨#[]⟩, .slice none 0 0] 24)).cell? ⟨W.heap.size, 1, none⟩ = some (.int .i64 0) := cell_of_row _ _ 1 _ _ (0, 0) hrw
    have q2 : (W.alloc (.cells #[.int .i64 0, .int .i64 0, .string ⟨#[]⟩, .string ⟨#[]⟩, .slice none 0 0] 24)).cell? ⟨W.heap.size, 2, none⟩ = some (.string ⟨#[]⟩) := cell_of_row _ _ 2 _ _ (0, 0) hrw
    have q3 : (W.alloc (.cells #[.int .i64 0, .int .i64 0, .string ⟨#[]⟩, .string ⟨#[]⟩, .slice none 0 0] 24)).cell? ⟨W.heap.size, 3, none⟩ = some (.string ⟨#[]⟩) := cell_of_row _ _ 3 _ _ (0, 0) hrw
    have q4 : (W.alloc (.cells #[.int .i64 0, .int .i64 0, .string ⟨#[]⟩, .string ⟨#[]⟩, .slice none 0 0] 24)).cell? ⟨W.heap.size, 4, none⟩ = some (.slice none 0 0) := cell_of_row _ _ 4 _ _ (0, 0) hrw
    refine bodyPost_ret (v := .tuple #[.agg #[.int .i64 0, .int .i64 0, .string ⟨#[]⟩, .string ⟨#[]⟩, .slice none 0 0], .int .i64 0, .int .i64 1]) (by simp [results, Tryd.results10, go_sem, q0, q1, q2, q3, q4]) rfl ?_
    obtain ⟨cs, h1, h2, h3⟩ := ans_nil (a := (nilR, 0, 1)) rfl hb
    exact ⟨cs, by rw [h1], h2, h3⟩
  · have HNB := Lib.hid hbig
    have HWH : Hid (a = Wm.ansR L.length (Wm.endR (Wm.pol (L.length + 1) L))) := Lib.hid (by rw [← HA.out]; unfold Wm.ans; rw [if_neg (by rw [HLEN.out, HSZ.out]; exact hbig)])
    obtain ⟨W2, hW2⟩ : ∃ w, w = ((W.alloc (.cells #[.int .i64 0, .int .i64 0, .string ⟨#[]⟩, .string ⟨#[]⟩, .slice none 0 0] 24)).alloc (.cells #[.string s, .int .i64 0, .int .i64 (-1)] 47)) := ⟨_, rfl⟩
    have hz2 : W2.heap.size = W.heap.size + 1 + 1 := by rw [hW2]; simp
    have hx2 : W2.heap[W.heap.size + 1]? = some (.cells #[.string s, .int .i64 0, .int .i64 (-1)] 47) := by rw [hW2]; have := heap_alloc_new (W.alloc (.cells #[.int .i64 0, .int .i64 0, .string ⟨#[]⟩, .string ⟨#[]⟩, .slice none 0 0] 24)) (.cells #[.string s, .int .i64 0, .int .i64 (-1)] 47); simpa using this
    have hq2 : W2.heap[W.heap.size]? = some (.cells #[.int .i64 0, .int .i64 0, .string ⟨#[]⟩, .string ⟨#[]⟩, .slice none 0 0] 24) := by rw [hW2]; exact (heap_alloc_old _ _ (by simp)).trans (heap_alloc_new W _)
    have hb2 : Below W.heap.size W W2 := by rw [hW2]; exact ((Below.refl _ _).alloc (Nat.le_refl _) _).alloc (by simp) _
    have hr2 : DSt W2 (W.heap.size + 1) s L (.at_ L) := ⟨by rw [show s.size - L.length = 0 from by have := HLEN.out; omega]; exact hx2, Wm.Suf.refl _⟩
    have HPC := Lib.hid (HR L W2 (Nat.lt_succ_self _) hr2)
    have HB2 := Lib.hid hb2
    have HQ2 := Lib.hid hq2
    have HZ2 := Lib.hid hz2
    obtain ⟨res, hres⟩ : ∃ x, Wm.pol (L.length + 1) L = x := ⟨_, rfl⟩
    rw [hres] at HWH HPC
    clear hz2 hx2 hb2 hq2 hres HA HR hr2
    go_enter Tryd.func10, Tryd.ntmps10
    go_upto_region 4 with fail
    rw [← hW2]
    clear hW2
    go_upto_region 5 with (go_at_call 20; (with_reducible refine HPC.out.mono ?_); rintro e4 w4 ⟨t4, cs4, rfl, hrd4, hp4, ht4, hg4⟩; obtain ⟨k4, n4, y4, v4, A4, m4, c4, rfl⟩ := hrd4.inv; have HT4 := Lib.hid ht4; have HRD4 := Lib.hid hrd4; have HP4 := Lib.hid hp4; have HG4 := Lib.hid hg4; clear hrd4 hp4 ht4 hg4; simp only [rcs])
    have hb45 : Below w4.heap.size w4 (w4.alloc (.cells #[.int .i64 k4, .int .i64 n4, .string y4, .string v4, .slice A4 m4 c4] 24)) := (Below.refl _ _).alloc (Nat.le_refl _) _
    have hzW : W.heap.size + 1 + 1 ≤ w4.heap.size := by have := HG4.out.size; have := HZ2.out; omega
    have hPA : PaSt W (w4.alloc (.cells #[.int .i64 k4, .int .i64 n4, .string y4, .string v4, .slice A4 m4 c4] 24)) w4.heap.size s L res.st t4 (rcs k4 n4 y4 v4 A4 m4 c4) #[.int .i64 k4, .int .i64 n4, .string y4, .string v4, .slice A4 m4 c4] := ⟨
      (hb45.block _ (by omega)).trans ((HG4.out.block _ (by have := HZ2.out; omega) (by intro e; injection e with e; omega)).trans HQ2.out),
      heap_alloc_new w4 _,
      HP4.out.below hb45 HP4.out.lt,
      (HRD4.out.heap fun b hb => hb45.block b hb.2).imp fun b hb => ⟨by have := HZ2.out; omega, hb.2⟩,
      (HB2.out.trans (grown_below HG4.out (by have := HZ2.out; omega) (Nat.le_succ _))).trans (hb45.mono (by omega)), by omega⟩
    generalize w4.alloc (.cells #[.int .i64 k4, .int .i64 n4, .string y4, .string v4, .slice A4 m4 c4] 24) = w5 at *
    generalize hw4z : w4.heap.size = z4 at *
    have HPA := Lib.hid hPA
    have HZW := Lib.hid hzW
    have hzne : W.heap.size ≠ z4 := by omega
    clear hPA hb45 hw4z hzW HRD4 HP4 HG4 HPC HQ2 HB2 HZ2
    have done0 := trivial
    cases res with
    | bad e0 =>
      have hpr : DSt w5 (W.heap.size + 1) s L (.bad e0) := HPA.out.r
      obtain ⟨⟨a5, ha5, hr5⟩, he5⟩ := hpr
      have HNX := Lib.hid (next_any s L (W.heap.size + 1) a5 _ w5 HLL.out hr5 ha5 (by have := HS.out; omega))
      unfold NextOf at HNX
      obtain ⟨at5, hat⟩ : ∃ z, s.size - e0.length = z := ⟨_, rfl⟩
      have HAT : Hid (Wm.badOf s (.bad e0) = (at5 : Int)) := Lib.hid (by rw [← hat]; rfl)
      have HAE : Hid (a = (nilR, (at5 : Int), 2)) := Lib.hid (by
        rw [HWH.out]
        have h2 := HLEN.out
        show ((nilR, (L.length : Int) - (e0.length : Int), (2 : Int)) : Rt × Int × Int) = _
        have h3 : (L.length : Int) - (e0.length : Int) = (at5 : Int) := by omega
        rw [h3])
      generalize Wm.tok (L.drop a5) = tk at HNX
      obtain ⟨kd, hkd⟩ : ∃ k, tk.kind = k := ⟨_, rfl⟩
      obtain ⟨sv, hsv⟩ : ∃ k, S8 tk.say = k := ⟨_, rfl⟩
      obtain ⟨fa, hfa⟩ : ∃ k, s.size - tk.from_.length = k := ⟨_, rfl⟩
      obtain ⟨ra, hra⟩ : ∃ k, s.size - tk.rest.length = k := ⟨_, rfl⟩
      rw [hkd, hsv, hfa, hra] at HNX
      clear hr5 ha5 he5 hat hkd hsv hfa hra
      have HX5 := Lib.hid HPA.out.x
      have HZ5 := Lib.hid HPA.out.z
      have d0 : w5.cell? ⟨z4, 0, none⟩ = some (.int .i64 k4) := cell_of_row _ _ 0 _ _ (0, 0) HX5.out
      have d1 : w5.cell? ⟨z4, 1, none⟩ = some (.int .i64 n4) := cell_of_row _ _ 1 _ _ (0, 0) HX5.out
      have d2 : w5.cell? ⟨z4, 2, none⟩ = some (.string y4) := cell_of_row _ _ 2 _ _ (0, 0) HX5.out
      have d3 : w5.cell? ⟨z4, 3, none⟩ = some (.string v4) := cell_of_row _ _ 3 _ _ (0, 0) HX5.out
      have d4 : w5.cell? ⟨z4, 4, none⟩ = some (.slice A4 m4 c4) := cell_of_row _ _ 4 _ _ (0, 0) HX5.out
      have df0 : w5.frozen? ⟨z4, 0, none⟩ = false := pfrz HX5.out
      have df1 : w5.frozen? ⟨z4, 1, none⟩ = false := pfrz HX5.out
      have df2 : w5.frozen? ⟨z4, 2, none⟩ = false := pfrz HX5.out
      have df3 : w5.frozen? ⟨z4, 3, none⟩ = false := pfrz HX5.out
      have df4 : w5.frozen? ⟨z4, 4, none⟩ = false := pfrz HX5.out
      have g0 : w5.cell? ⟨W.heap.size, 0, none⟩ = some (.int .i64 0) := cell_of_row _ _ 0 _ _ (0, 0) HZ5.out
      have g1 : w5.cell? ⟨W.heap.size, 1, none⟩ = some (.int .i64 0) := cell_of_row _ _ 1 _ _ (0, 0) HZ5.out
      have g2 : w5.cell? ⟨W.heap.size, 2, none⟩ = some (.string ⟨#[]⟩) := cell_of_row _ _ 2 _ _ (0, 0) HZ5.out
      have g3 : w5.cell? ⟨W.heap.size, 3, none⟩ = some (.string ⟨#[]⟩) := cell_of_row _ _ 3 _ _ (0, 0) HZ5.out
      have g4 : w5.cell? ⟨W.heap.size, 4, none⟩ = some (.slice none 0 0) := cell_of_row _ _ 4 _ _ (0, 0) HZ5.out
      have gf0 : w5.frozen? ⟨W.heap.size, 0, none⟩ = false := pfrz HZ5.out
      have gf1 : w5.frozen? ⟨W.heap.size, 1, none⟩ = false := pfrz HZ5.out
      have gf2 : w5.frozen? ⟨W.heap.size, 2, none⟩ = false := pfrz HZ5.out
      have gf3 : w5.frozen? ⟨W.heap.size, 3, none⟩ = false := pfrz HZ5.out
      have gf4 : w5.frozen? ⟨W.heap.size, 4, none⟩ = false := pfrz HZ5.out
      have p2 : w5.cell? ⟨W.heap.size + 1, 2, none⟩ = some (.int .i64 (at5)) := HPA.out.badv HAT.out
      have hnn : ¬ (at5 : Int) < 0 := by omega
      have HFL := Lib.hid (fun w (hw : DSt w (W.heap.size + 1) s L (.bad e0)) => dfail_any s L (W.heap.size + 1) (.bad e0) w HLL.out (by have := HS.out; omega) hw)
      by_cases hk : kd = 0
      · have k1 : ((kd : Int) != 0) = false := by simp [hk]
        have k2 : (kd != 0) = false := by simp [hk]
        clear hk
        go_wp2_with (have hd := done0; clear done0; go_at_call 21; (with_reducible refine HNX.out.mono ?_); rintro e6 w6 ⟨rfl, hb6⟩; have GS6 := Lib.hid (HPA.out.below hb6); clear hb6; clear d0 d1 d2 d3 d4 df0 df1 df2 df3 df4 g0 g1 g2 g3 g4 gf0 gf1 gf2 gf3 gf4 p2; have HX6 := Lib.hid GS6.out.x; have HZ6 := Lib.hid GS6.out.z; have d0 : w6.cell? ⟨z4, 0, none⟩ = some (.int .i64 k4) := cell_of_row _ _ 0 _ _ (0, 0) HX6.out; have d1 : w6.cell? ⟨z4, 1, none⟩ = some (.int .i64 n4) := cell_of_row _ _ 1 _ _ (0, 0) HX6.out; have d2 : w6.cell? ⟨z4, 2, none⟩ = some (.string y4) := cell_of_row _ _ 2 _ _ (0, 0) HX6.out; have d3 : w6.cell? ⟨z4, 3, none⟩ = some (.string v4) := cell_of_row _ _ 3 _ _ (0, 0) HX6.out; have d4 : w6.cell? ⟨z4, 4, none⟩ = some (.slice A4 m4 c4) := cell_of_row _ _ 4 _ _ (0, 0) HX6.out; have df0 : w6.frozen? ⟨z4, 0, none⟩ = false := pfrz HX6.out; have df1 : w6.frozen? ⟨z4, 1, none⟩ = false := pfrz HX6.out; have df2 : w6.frozen? ⟨z4, 2, none⟩ = false := pfrz HX6.out; have df3 : w6.frozen? ⟨z4, 3, none⟩ = false := pfrz HX6.out; have df4 : w6.frozen? ⟨z4, 4, none⟩ = false := pfrz HX6.out; have g0 : w6.cell? ⟨W.heap.size, 0, none⟩ = some (.int .i64 0) := cell_of_row _ _ 0 _ _ (0, 0) HZ6.out; have g1 : w6.cell? ⟨W.heap.size, 1, none⟩ = some (.int .i64 0) := cell_of_row _ _ 1 _ _ (0, 0) HZ6.out; have g2 : w6.cell? ⟨W.heap.size, 2, none⟩ = some (.string ⟨#[]⟩) := cell_of_row _ _ 2 _ _ (0, 0) HZ6.out; have g3 : w6.cell? ⟨W.heap.size, 3, none⟩ = some (.string ⟨#[]⟩) := cell_of_row _ _ 3 _ _ (0, 0) HZ6.out; have g4 : w6.cell? ⟨W.heap.size, 4, none⟩ = some (.slice none 0 0) := cell_of_row _ _ 4 _ _ (0, 0) HZ6.out; have gf0 : w6.frozen? ⟨W.heap.size, 0, none⟩ = false := pfrz HZ6.out; have gf1 : w6.frozen? ⟨W.heap.size, 1, none⟩ = false := pfrz HZ6.out; have gf2 : w6.frozen? ⟨W.heap.size, 2, none⟩ = false := pfrz HZ6.out; have gf3 : w6.frozen? ⟨W.heap.size, 3, none⟩ = false := pfrz HZ6.out; have gf4 : w6.frozen? ⟨W.heap.size, 4, none⟩ = false := pfrz HZ6.out; have p2 : w6.cell? ⟨W.heap.size + 1, 2, none⟩ = some (.int .i64 (at5)) := GS6.out.badv HAT.out; have done1 := trivial)
        go_region
        go_wp2_with fail
        have HS5 := set5 (W := W) GS6.out.z GS6.out.b (.int .i64 0) (.int .i64 0) (.string ⟨#[]⟩) (.string ⟨#[]⟩) (.slice none 0 0)
        have hrw : (((((w6.setCell ⟨W.heap.size, 0, none⟩ (.int .i64 0)).setCell ⟨W.heap.size, 1, none⟩ (.int .i64 0)).setCell ⟨W.heap.size, 2, none⟩ (.string ⟨#[]⟩)).setCell ⟨W.heap.size, 3, none⟩ (.string ⟨#[]⟩)).setCell ⟨W.heap.size, 4, none⟩ (.slice none 0 0)).drew.heap[W.heap.size]? = some (.cells #[.int .i64 0, .int .i64 0, .string ⟨#[]⟩, .string ⟨#[]⟩, .slice none 0 0] 24) := HS5.1
        have q0 : (((((w6.setCell ⟨W.heap.size, 0, none⟩ (.int .i64 0)).setCell ⟨W.heap.size, 1, none⟩ (.int .i64 0)).setCell ⟨W.heap.size, 2, none⟩ (.string ⟨#[]⟩)).setCell ⟨W.heap.size, 3, none⟩ (.string ⟨#[]⟩)).setCell ⟨W.heap.size, 4, none⟩ (.slice none 0 0)).drew.cell? ⟨W.heap.size, 0, none⟩ = some (.int .i64 0) := cell_of_row _ _ 0 _ _ (0, 0) hrw
        have q1 : (((((w6.setCell ⟨W.heap.size, 0, none⟩ (.int .i64 0)).setCell ⟨W.heap.size, 1, none⟩ (.int .i64 0)).setCell ⟨W.heap.size, 2, none⟩ (.string ⟨#[]⟩)).setCell ⟨W.heap.size, 3, none⟩ (.string ⟨#[]⟩)).setCell ⟨W.heap.size, 4, none⟩ (.slice none 0 0)).drew.cell? ⟨W.heap.size, 1, none⟩ = some (.int .i64 0) := cell_of_row _ _ 1 _ _ (0, 0) hrw
        have q2 : (((((w6.setCell ⟨W.heap.size, 0, none⟩ (.int .i64 0)).setCell ⟨W.heap.size, 1, none⟩ (.int .i64 0)).setCell ⟨W.heap.size, 2, none⟩ (.string ⟨#[]⟩)).setCell ⟨W.heap.size, 3, none⟩ (.string ⟨#[]⟩)).setCell ⟨W.heap.size, 4, none⟩ (.slice none 0 0)).drew.cell? ⟨W.heap.size, 2, none⟩ = some (.string ⟨#[]⟩) := cell_of_row _ _ 2 _ _ (0, 0) hrw
        have q3 : (((((w6.setCell ⟨W.heap.size, 0, none⟩ (.int .i64 0)).setCell ⟨W.heap.size, 1, none⟩ (.int .i64 0)).setCell ⟨W.heap.size, 2, none⟩ (.string ⟨#[]⟩)).setCell ⟨W.heap.size, 3, none⟩ (.string ⟨#[]⟩)).setCell ⟨W.heap.size, 4, none⟩ (.slice none 0 0)).drew.cell? ⟨W.heap.size, 3, none⟩ = some (.string ⟨#[]⟩) := cell_of_row _ _ 3 _ _ (0, 0) hrw
        have q4 : (((((w6.setCell ⟨W.heap.size, 0, none⟩ (.int .i64 0)).setCell ⟨W.heap.size, 1, none⟩ (.int .i64 0)).setCell ⟨W.heap.size, 2, none⟩ (.string ⟨#[]⟩)).setCell ⟨W.heap.size, 3, none⟩ (.string ⟨#[]⟩)).setCell ⟨W.heap.size, 4, none⟩ (.slice none 0 0)).drew.cell? ⟨W.heap.size, 4, none⟩ = some (.slice none 0 0) := cell_of_row _ _ 4 _ _ (0, 0) hrw
        refine bodyPost_ret (v := .tuple #[.agg #[.int .i64 0, .int .i64 0, .string ⟨#[]⟩, .string ⟨#[]⟩, .slice none 0 0], .int .i64 (at5 : Int), .int .i64 2]) (by simp [results, Tryd.results10, go_sem, q0, q1, q2, q3, q4]) rfl ?_
        obtain rfl := HAE.out
        obtain ⟨cs, h1, h2, h3⟩ := ans_nil (a := (nilR, (at5 : Int), 2)) (w := (((((w6.setCell ⟨W.heap.size, 0, none⟩ (.int .i64 0)).setCell ⟨W.heap.size, 1, none⟩ (.int .i64 0)).setCell ⟨W.heap.size, 2, none⟩ (.string ⟨#[]⟩)).setCell ⟨W.heap.size, 3, none⟩ (.string ⟨#[]⟩)).setCell ⟨W.heap.size, 4, none⟩ (.slice none 0 0)).drew) rfl (HS5.2.1.trans (Below.refl _ _ |>.drew))
        exact ⟨cs, by rw [h1], h2, h3⟩

      · have k0 : ((kd : Int) == 0) = false := by rw [beq_eq_false_iff_ne]; omega
        have k3 : (kd == 0) = false := by rw [beq_eq_false_iff_ne]; omega
        have k1 : ((kd : Int) != 0) = true := by simp [bne, k0]
        have k2 : (kd != 0) = true := by simp [bne, k3]
        clear hk
        go_wp2_with (first
          | (have hd := done1; clear done1; go_at_call 22; (with_reducible refine (HFL.out _ GS6.out.r).mono ?_); rintro e7 w7 ⟨rfl, hr7, hg7⟩; have GS7 := Lib.hid (GS6.out.call hg7 hr7); clear hr7 hg7; clear d0 d1 d2 d3 d4 df0 df1 df2 df3 df4 g0 g1 g2 g3 g4 gf0 gf1 gf2 gf3 gf4 p2; have HX7 := Lib.hid GS7.out.x; have HZ7 := Lib.hid GS7.out.z; have d0 : w7.cell? ⟨z4, 0, none⟩ = some (.int .i64 k4) := cell_of_row _ _ 0 _ _ (0, 0) HX7.out; have d1 : w7.cell? ⟨z4, 1, none⟩ = some (.int .i64 n4) := cell_of_row _ _ 1 _ _ (0, 0) HX7.out; have d2 : w7.cell? ⟨z4, 2, none⟩ = some (.string y4) := cell_of_row _ _ 2 _ _ (0, 0) HX7.out; have d3 : w7.cell? ⟨z4, 3, none⟩ = some (.string v4) := cell_of_row _ _ 3 _ _ (0, 0) HX7.out; have d4 : w7.cell? ⟨z4, 4, none⟩ = some (.slice A4 m4 c4) := cell_of_row _ _ 4 _ _ (0, 0) HX7.out; have df0 : w7.frozen? ⟨z4, 0, none⟩ = false := pfrz HX7.out; have df1 : w7.frozen? ⟨z4, 1, none⟩ = false := pfrz HX7.out; have df2 : w7.frozen? ⟨z4, 2, none⟩ = false := pfrz HX7.out; have df3 : w7.frozen? ⟨z4, 3, none⟩ = false := pfrz HX7.out; have df4 : w7.frozen? ⟨z4, 4, none⟩ = false := pfrz HX7.out; have g0 : w7.cell? ⟨W.heap.size, 0, none⟩ = some (.int .i64 0) := cell_of_row _ _ 0 _ _ (0, 0) HZ7.out; have g1 : w7.cell? ⟨W.heap.size, 1, none⟩ = some (.int .i64 0) := cell_of_row _ _ 1 _ _ (0, 0) HZ7.out; have g2 : w7.cell? ⟨W.heap.size, 2, none⟩ = some (.string ⟨#[]⟩) := cell_of_row _ _ 2 _ _ (0, 0) HZ7.out; have g3 : w7.cell? ⟨W.heap.size, 3, none⟩ = some (.string ⟨#[]⟩) := cell_of_row _ _ 3 _ _ (0, 0) HZ7.out; have g4 : w7.cell? ⟨W.heap.size, 4, none⟩ = some (.slice none 0 0) := cell_of_row _ _ 4 _ _ (0, 0) HZ7.out; have gf0 : w7.frozen? ⟨W.heap.size, 0, none⟩ = false := pfrz HZ7.out; have gf1 : w7.frozen? ⟨W.heap.size, 1, none⟩ = false := pfrz HZ7.out; have gf2 : w7.frozen? ⟨W.heap.size, 2, none⟩ = false := pfrz HZ7.out; have gf3 : w7.frozen? ⟨W.heap.size, 3, none⟩ = false := pfrz HZ7.out; have gf4 : w7.frozen? ⟨W.heap.size, 4, none⟩ = false := pfrz HZ7.out; have p2 : w7.cell? ⟨W.heap.size + 1, 2, none⟩ = some (.int .i64 (at5)) := GS7.out.badv HAT.out; have done2 := trivial)
          | (have hd := done0; clear done0; go_at_call 21; (with_reducible refine HNX.out.mono ?_); rintro e6 w6 ⟨rfl, hb6⟩; have GS6 := Lib.hid (HPA.out.below hb6); clear hb6; clear d0 d1 d2 d3 d4 df0 df1 df2 df3 df4 g0 g1 g2 g3 g4 gf0 gf1 gf2 gf3 gf4 p2; have HX6 := Lib.hid GS6.out.x; have HZ6 := Lib.hid GS6.out.z; have d0 : w6.cell? ⟨z4, 0, none⟩ = some (.int .i64 k4) := cell_of_row _ _ 0 _ _ (0, 0) HX6.out; have d1 : w6.cell? ⟨z4, 1, none⟩ = some (.int .i64 n4) := cell_of_row _ _ 1 _ _ (0, 0) HX6.out; have d2 : w6.cell? ⟨z4, 2, none⟩ = some (.string y4) := cell_of_row _ _ 2 _ _ (0, 0) HX6.out; have d3 : w6.cell? ⟨z4, 3, none⟩ = some (.string v4) := cell_of_row _ _ 3 _ _ (0, 0) HX6.out; have d4 : w6.cell? ⟨z4, 4, none⟩ = some (.slice A4 m4 c4) := cell_of_row _ _ 4 _ _ (0, 0) HX6.out; have df0 : w6.frozen? ⟨z4, 0, none⟩ = false := pfrz HX6.out; have df1 : w6.frozen? ⟨z4, 1, none⟩ = false := pfrz HX6.out; have df2 : w6.frozen? ⟨z4, 2, none⟩ = false := pfrz HX6.out; have df3 : w6.frozen? ⟨z4, 3, none⟩ = false := pfrz HX6.out; have df4 : w6.frozen? ⟨z4, 4, none⟩ = false := pfrz HX6.out; have g0 : w6.cell? ⟨W.heap.size, 0, none⟩ = some (.int .i64 0) := cell_of_row _ _ 0 _ _ (0, 0) HZ6.out; have g1 : w6.cell? ⟨W.heap.size, 1, none⟩ = some (.int .i64 0) := cell_of_row _ _ 1 _ _ (0, 0) HZ6.out; have g2 : w6.cell? ⟨W.heap.size, 2, none⟩ = some (.string ⟨#[]⟩) := cell_of_row _ _ 2 _ _ (0, 0) HZ6.out; have g3 : w6.cell? ⟨W.heap.size, 3, none⟩ = some (.string ⟨#[]⟩) := cell_of_row _ _ 3 _ _ (0, 0) HZ6.out; have g4 : w6.cell? ⟨W.heap.size, 4, none⟩ = some (.slice none 0 0) := cell_of_row _ _ 4 _ _ (0, 0) HZ6.out; have gf0 : w6.frozen? ⟨W.heap.size, 0, none⟩ = false := pfrz HZ6.out; have gf1 : w6.frozen? ⟨W.heap.size, 1, none⟩ = false := pfrz HZ6.out; have gf2 : w6.frozen? ⟨W.heap.size, 2, none⟩ = false := pfrz HZ6.out; have gf3 : w6.frozen? ⟨W.heap.size, 3, none⟩ = false := pfrz HZ6.out; have gf4 : w6.frozen? ⟨W.heap.size, 4, none⟩ = false := pfrz HZ6.out; have p2 : w6.cell? ⟨W.heap.size + 1, 2, none⟩ = some (.int .i64 (at5)) := GS6.out.badv HAT.out; have done1 := trivial))
        go_region
        go_wp2_with fail
        have HS5 := set5 (W := W) GS7.out.z GS7.out.b (.int .i64 0) (.int .i64 0) (.string ⟨#[]⟩) (.string ⟨#[]⟩) (.slice none 0 0)
        have hrw : (((((w7.setCell ⟨W.heap.size, 0, none⟩ (.int .i64 0)).setCell ⟨W.heap.size, 1, none⟩ (.int .i64 0)).setCell ⟨W.heap.size, 2, none⟩ (.string ⟨#[]⟩)).setCell ⟨W.heap.size, 3, none⟩ (.string ⟨#[]⟩)).setCell ⟨W.heap.size, 4, none⟩ (.slice none 0 0)).drew.heap[W.heap.size]? = some (.cells #[.int .i64 0, .int .i64 0, .string ⟨#[]⟩, .string ⟨#[]⟩, .slice none 0 0] 24) := HS5.1
        have q0 : (((((w7.setCell ⟨W.heap.size, 0, none⟩ (.int .i64 0)).setCell ⟨W.heap.size, 1, none⟩ (.int .i64 0)).setCell ⟨W.heap.size, 2, none⟩ (.string ⟨#[]⟩)).setCell ⟨W.heap.size, 3, none⟩ (.string ⟨#[]⟩)).setCell ⟨W.heap.size, 4, none⟩ (.slice none 0 0)).drew.cell? ⟨W.heap.size, 0, none⟩ = some (.int .i64 0) := cell_of_row _ _ 0 _ _ (0, 0) hrw
        have q1 : (((((w7.setCell ⟨W.heap.size, 0, none⟩ (.int .i64 0)).setCell ⟨W.heap.size, 1, none⟩ (.int .i64 0)).setCell ⟨W.heap.size, 2, none⟩ (.string ⟨#[]⟩)).setCell ⟨W.heap.size, 3, none⟩ (.string ⟨#[]⟩)).setCell ⟨W.heap.size, 4, none⟩ (.slice none 0 0)).drew.cell? ⟨W.heap.size, 1, none⟩ = some (.int .i64 0) := cell_of_row _ _ 1 _ _ (0, 0) hrw
        have q2 : (((((w7.setCell ⟨W.heap.size, 0, none⟩ (.int .i64 0)).setCell ⟨W.heap.size, 1, none⟩ (.int .i64 0)).setCell ⟨W.heap.size, 2, none⟩ (.string ⟨#[]⟩)).setCell ⟨W.heap.size, 3, none⟩ (.string ⟨#[]⟩)).setCell ⟨W.heap.size, 4, none⟩ (.slice none 0 0)).drew.cell? ⟨W.heap.size, 2, none⟩ = some (.string ⟨#[]⟩) := cell_of_row _ _ 2 _ _ (0, 0) hrw
        have q3 : (((((w7.setCell ⟨W.heap.size, 0, none⟩ (.int .i64 0)).setCell ⟨W.heap.size, 1, none⟩ (.int .i64 0)).setCell ⟨W.heap.size, 2, none⟩ (.string ⟨#[]⟩)).setCell ⟨W.heap.size, 3, none⟩ (.string ⟨#[]⟩)).setCell ⟨W.heap.size, 4, none⟩ (.slice none 0 0)).drew.cell? ⟨W.heap.size, 3, none⟩ = some (.string ⟨#[]⟩) := cell_of_row _ _ 3 _ _ (0, 0) hrw
        have q4 : (((((w7.setCell ⟨W.heap.size, 0, none⟩ (.int .i64 0)).setCell ⟨W.heap.size, 1, none⟩ (.int .i64 0)).setCell ⟨W.heap.size, 2, none⟩ (.string ⟨#[]⟩)).setCell ⟨W.heap.size, 3, none⟩ (.string ⟨#[]⟩)).setCell ⟨W.heap.size, 4, none⟩ (.slice none 0 0)).drew.cell? ⟨W.heap.size, 4, none⟩ = some (.slice none 0 0) := cell_of_row _ _ 4 _ _ (0, 0) hrw
        refine bodyPost_ret (v := .tuple #[.agg #[.int .i64 0, .int .i64 0, .string ⟨#[]⟩, .string ⟨#[]⟩, .slice none 0 0], .int .i64 (at5 : Int), .int .i64 2]) (by simp [results, Tryd.results10, go_sem, q0, q1, q2, q3, q4]) rfl ?_
        obtain rfl := HAE.out
        obtain ⟨cs, h1, h2, h3⟩ := ans_nil (a := (nilR, (at5 : Int), 2)) (w := (((((w7.setCell ⟨W.heap.size, 0, none⟩ (.int .i64 0)).setCell ⟨W.heap.size, 1, none⟩ (.int .i64 0)).setCell ⟨W.heap.size, 2, none⟩ (.string ⟨#[]⟩)).setCell ⟨W.heap.size, 3, none⟩ (.string ⟨#[]⟩)).setCell ⟨W.heap.size, 4, none⟩ (.slice none 0 0)).drew) rfl (HS5.2.1.trans (Below.refl _ _ |>.drew))
        exact ⟨cs, by rw [h1], h2, h3⟩

    | ok t0 r0 =>
      have hpr : DSt w5 (W.heap.size + 1) s L (.at_ r0) := HPA.out.r
      have hsf := hpr.2.len
      have hl2 := HLEN.out
      have hd5 : L.drop (s.size - r0.length) = r0 := by rw [← HLEN.out]; exact hpr.2.drop
      have HNX := Lib.hid (next_any s L (W.heap.size + 1) _ _ w5 HLL.out hpr.1 (by omega) (by have := HS.out; omega))
      rw [hd5] at HNX
      unfold NextOf at HNX
      obtain ⟨kd, hkd⟩ : ∃ k, (Wm.tok r0).kind = k := ⟨_, rfl⟩
      obtain ⟨sv, hsv⟩ : ∃ k, S8 (Wm.tok r0).say = k := ⟨_, rfl⟩
      obtain ⟨at5, hat⟩ : ∃ k, s.size - (Wm.tok r0).from_.length = k := ⟨_, rfl⟩
      obtain ⟨ra, hra⟩ : ∃ k, s.size - (Wm.tok r0).rest.length = k := ⟨_, rfl⟩
      rw [hkd, hsv, hat, hra] at HNX
      have HTT := Lib.hid (HT4.out t0 r0 rfl)
      have HPA2 : Hid (PaSt W w5 z4 s L (.at_ r0) t4 (rcs k4 n4 y4 v4 A4 m4 c4) #[.int .i64 k4, .int .i64 n4, .string y4, .string v4, .slice A4 m4 c4]) := Lib.hid HPA.out
      have HX5 := Lib.hid HPA2.out.x
      have HZ5 := Lib.hid HPA2.out.z
      have d0 : w5.cell? ⟨z4, 0, none⟩ = some (.int .i64 k4) := cell_of_row _ _ 0 _ _ (0, 0) HX5.out
      have d1 : w5.cell? ⟨z4, 1, none⟩ = some (.int .i64 n4) := cell_of_row _ _ 1 _ _ (0, 0) HX5.out
      have d2 : w5.cell? ⟨z4, 2, none⟩ = some (.string y4) := cell_of_row _ _ 2 _ _ (0, 0) HX5.out
      have d3 : w5.cell? ⟨z4, 3, none⟩ = some (.string v4) := cell_of_row _ _ 3 _ _ (0, 0) HX5.out
      have d4 : w5.cell? ⟨z4, 4, none⟩ = some (.slice A4 m4 c4) := cell_of_row _ _ 4 _ _ (0, 0) HX5.out
      have df0 : w5.frozen? ⟨z4, 0, none⟩ = false := pfrz HX5.out
      have df1 : w5.frozen? ⟨z4, 1, none⟩ = false := pfrz HX5.out
      have df2 : w5.frozen? ⟨z4, 2, none⟩ = false := pfrz HX5.out
      have df3 : w5.frozen? ⟨z4, 3, none⟩ = false := pfrz HX5.out
      have df4 : w5.frozen? ⟨z4, 4, none⟩ = false := pfrz HX5.out
      have g0 : w5.cell? ⟨W.heap.size, 0, none⟩ = some (.int .i64 0) := cell_of_row _ _ 0 _ _ (0, 0) HZ5.out
      have g1 : w5.cell? ⟨W.heap.size, 1, none⟩ = some (.int .i64 0) := cell_of_row _ _ 1 _ _ (0, 0) HZ5.out
      have g2 : w5.cell? ⟨W.heap.size, 2, none⟩ = some (.string ⟨#[]⟩) := cell_of_row _ _ 2 _ _ (0, 0) HZ5.out
      have g3 : w5.cell? ⟨W.heap.size, 3, none⟩ = some (.string ⟨#[]⟩) := cell_of_row _ _ 3 _ _ (0, 0) HZ5.out
      have g4 : w5.cell? ⟨W.heap.size, 4, none⟩ = some (.slice none 0 0) := cell_of_row _ _ 4 _ _ (0, 0) HZ5.out
      have gf0 : w5.frozen? ⟨W.heap.size, 0, none⟩ = false := pfrz HZ5.out
      have gf1 : w5.frozen? ⟨W.heap.size, 1, none⟩ = false := pfrz HZ5.out
      have gf2 : w5.frozen? ⟨W.heap.size, 2, none⟩ = false := pfrz HZ5.out
      have gf3 : w5.frozen? ⟨W.heap.size, 3, none⟩ = false := pfrz HZ5.out
      have gf4 : w5.frozen? ⟨W.heap.size, 4, none⟩ = false := pfrz HZ5.out
      have p2 : w5.cell? ⟨W.heap.size + 1, 2, none⟩ = some (.int .i64 (-1)) := HPA2.out.bad
      clear hpr hl2 hd5 hsv hra HPA
      by_cases hk : kd = 0
      · have k1 : ((kd : Int) != 0) = false := by simp [hk]
        have k2 : (kd != 0) = false := by simp [hk]
        have HAE : Hid (a = if t4.right = true then (t4, -1, 0) else (nilR, 0, 1)) := Lib.hid (by
          rw [HWH.out, HTT.out]
          show Wm.ansR L.length (if (Wm.tok r0).kind = 0 then _ else _) = _
          rw [if_pos (hkd.trans hk)]
          rfl)
        have HRI := Lib.hid (fun w6 (h : PaSt W w6 z4 s L (.at_ r0) t4 (rcs k4 n4 y4 v4 A4 m4 c4) #[.int .i64 k4, .int .i64 n4, .string y4, .string v4, .slice A4 m4 c4]) => refright_all h.tree w6 (Below.refl _ _) (Nat.le_refl _))
        simp only [rcs] at HRI
        clear hk hkd hsf hat
        cases hri : t4.right
        · rw [hri] at HRI HAE
          have HAE2 : Hid (a = (nilR, 0, 1)) := Lib.hid (by rw [HAE.out]; rfl)
          go_wp2_with (first
            | (have hd := done1; clear done1; go_at_call 15; (with_reducible refine (HRI.out _ GS6.out).mono ?_); rintro e7 w7 ⟨rfl, hb7⟩; have GS7 := Lib.hid (GS6.out.below hb7); clear hb7; clear d0 d1 d2 d3 d4 df0 df1 df2 df3 df4 g0 g1 g2 g3 g4 gf0 gf1 gf2 gf3 gf4 p2; have HX7 := Lib.hid GS7.out.x; have HZ7 := Lib.hid GS7.out.z; have d0 : w7.cell? ⟨z4, 0, none⟩ = some (.int .i64 k4) := cell_of_row _ _ 0 _ _ (0, 0) HX7.out; have d1 : w7.cell? ⟨z4, 1, none⟩ = some (.int .i64 n4) := cell_of_row _ _ 1 _ _ (0, 0) HX7.out; have d2 : w7.cell? ⟨z4, 2, none⟩ = some (.string y4) := cell_of_row _ _ 2 _ _ (0, 0) HX7.out; have d3 : w7.cell? ⟨z4, 3, none⟩ = some (.string v4) := cell_of_row _ _ 3 _ _ (0, 0) HX7.out; have d4 : w7.cell? ⟨z4, 4, none⟩ = some (.slice A4 m4 c4) := cell_of_row _ _ 4 _ _ (0, 0) HX7.out; have df0 : w7.frozen? ⟨z4, 0, none⟩ = false := pfrz HX7.out; have df1 : w7.frozen? ⟨z4, 1, none⟩ = false := pfrz HX7.out; have df2 : w7.frozen? ⟨z4, 2, none⟩ = false := pfrz HX7.out; have df3 : w7.frozen? ⟨z4, 3, none⟩ = false := pfrz HX7.out; have df4 : w7.frozen? ⟨z4, 4, none⟩ = false := pfrz HX7.out; have g0 : w7.cell? ⟨W.heap.size, 0, none⟩ = some (.int .i64 0) := cell_of_row _ _ 0 _ _ (0, 0) HZ7.out; have g1 : w7.cell? ⟨W.heap.size, 1, none⟩ = some (.int .i64 0) := cell_of_row _ _ 1 _ _ (0, 0) HZ7.out; have g2 : w7.cell? ⟨W.heap.size, 2, none⟩ = some (.string ⟨#[]⟩) := cell_of_row _ _ 2 _ _ (0, 0) HZ7.out; have g3 : w7.cell? ⟨W.heap.size, 3, none⟩ = some (.string ⟨#[]⟩) := cell_of_row _ _ 3 _ _ (0, 0) HZ7.out; have g4 : w7.cell? ⟨W.heap.size, 4, none⟩ = some (.slice none 0 0) := cell_of_row _ _ 4 _ _ (0, 0) HZ7.out; have gf0 : w7.frozen? ⟨W.heap.size, 0, none⟩ = false := pfrz HZ7.out; have gf1 : w7.frozen? ⟨W.heap.size, 1, none⟩ = false := pfrz HZ7.out; have gf2 : w7.frozen? ⟨W.heap.size, 2, none⟩ = false := pfrz HZ7.out; have gf3 : w7.frozen? ⟨W.heap.size, 3, none⟩ = false := pfrz HZ7.out; have gf4 : w7.frozen? ⟨W.heap.size, 4, none⟩ = false := pfrz HZ7.out; have p2 : w7.cell? ⟨W.heap.size + 1, 2, none⟩ = some (.int .i64 (-1)) := GS7.out.bad; have done2 := trivial)
            | (have hd := done0; clear done0; go_at_call 21; (with_reducible refine HNX.out.mono ?_); rintro e6 w6 ⟨rfl, hb6⟩; have GS6 := Lib.hid (HPA2.out.below hb6); clear hb6; clear d0 d1 d2 d3 d4 df0 df1 df2 df3 df4 g0 g1 g2 g3 g4 gf0 gf1 gf2 gf3 gf4 p2; have HX6 := Lib.hid GS6.out.x; have HZ6 := Lib.hid GS6.out.z; have d0 : w6.cell? ⟨z4, 0, none⟩ = some (.int .i64 k4) := cell_of_row _ _ 0 _ _ (0, 0) HX6.out; have d1 : w6.cell? ⟨z4, 1, none⟩ = some (.int .i64 n4) := cell_of_row _ _ 1 _ _ (0, 0) HX6.out; have d2 : w6.cell? ⟨z4, 2, none⟩ = some (.string y4) := cell_of_row _ _ 2 _ _ (0, 0) HX6.out; have d3 : w6.cell? ⟨z4, 3, none⟩ = some (.string v4) := cell_of_row _ _ 3 _ _ (0, 0) HX6.out; have d4 : w6.cell? ⟨z4, 4, none⟩ = some (.slice A4 m4 c4) := cell_of_row _ _ 4 _ _ (0, 0) HX6.out; have df0 : w6.frozen? ⟨z4, 0, none⟩ = false := pfrz HX6.out; have df1 : w6.frozen? ⟨z4, 1, none⟩ = false := pfrz HX6.out; have df2 : w6.frozen? ⟨z4, 2, none⟩ = false := pfrz HX6.out; have df3 : w6.frozen? ⟨z4, 3, none⟩ = false := pfrz HX6.out; have df4 : w6.frozen? ⟨z4, 4, none⟩ = false := pfrz HX6.out; have g0 : w6.cell? ⟨W.heap.size, 0, none⟩ = some (.int .i64 0) := cell_of_row _ _ 0 _ _ (0, 0) HZ6.out; have g1 : w6.cell? ⟨W.heap.size, 1, none⟩ = some (.int .i64 0) := cell_of_row _ _ 1 _ _ (0, 0) HZ6.out; have g2 : w6.cell? ⟨W.heap.size, 2, none⟩ = some (.string ⟨#[]⟩) := cell_of_row _ _ 2 _ _ (0, 0) HZ6.out; have g3 : w6.cell? ⟨W.heap.size, 3, none⟩ = some (.string ⟨#[]⟩) := cell_of_row _ _ 3 _ _ (0, 0) HZ6.out; have g4 : w6.cell? ⟨W.heap.size, 4, none⟩ = some (.slice none 0 0) := cell_of_row _ _ 4 _ _ (0, 0) HZ6.out; have gf0 : w6.frozen? ⟨W.heap.size, 0, none⟩ = false := pfrz HZ6.out; have gf1 : w6.frozen? ⟨W.heap.size, 1, none⟩ = false := pfrz HZ6.out; have gf2 : w6.frozen? ⟨W.heap.size, 2, none⟩ = false := pfrz HZ6.out; have gf3 : w6.frozen? ⟨W.heap.size, 3, none⟩ = false := pfrz HZ6.out; have gf4 : w6.frozen? ⟨W.heap.size, 4, none⟩ = false := pfrz HZ6.out; have p2 : w6.cell? ⟨W.heap.size + 1, 2, none⟩ = some (.int .i64 (-1)) := GS6.out.bad; have done1 := trivial))
          have HS5 := set5 (W := W) GS7.out.z GS7.out.b (.int .i64 0) (.int .i64 0) (.string ⟨#[]⟩) (.string ⟨#[]⟩) (.slice none 0 0)
          have hrw : (((((w7.setCell ⟨W.heap.size, 0, none⟩ (.int .i64 0)).setCell ⟨W.heap.size, 1, none⟩ (.int .i64 0)).setCell ⟨W.heap.size, 2, none⟩ (.string ⟨#[]⟩)).setCell ⟨W.heap.size, 3, none⟩ (.string ⟨#[]⟩)).setCell ⟨W.heap.size, 4, none⟩ (.slice none 0 0)).heap[W.heap.size]? = some (.cells #[.int .i64 0, .int .i64 0, .string ⟨#[]⟩, .string ⟨#[]⟩, .slice none 0 0] 24) := HS5.1
          have q0 : (((((w7.setCell ⟨W.heap.size, 0, none⟩ (.int .i64 0)).setCell ⟨W.heap.size, 1, none⟩ (.int .i64 0)).setCell ⟨W.heap.size, 2, none⟩ (.string ⟨#[]⟩)).setCell ⟨W.heap.size, 3, none⟩ (.string ⟨#[]⟩)).setCell ⟨W.heap.size, 4, none⟩ (.slice none 0 0)).cell? ⟨W.heap.size, 0, none⟩ = some (.int .i64 0) := cell_of_row _ _ 0 _ _ (0, 0) hrw
          have q1 : (((((w7.setCell ⟨W.heap.size, 0, none⟩ (.int .i64 0)).setCell ⟨W.heap.size, 1, none⟩ (.int .i64 0)).setCell ⟨W.heap.size, 2, none⟩ (.string ⟨#[]⟩)).setCell ⟨W.heap.size, 3, none⟩ (.string ⟨#[]⟩)).setCell ⟨W.heap.size, 4, none⟩ (.slice none 0 0)).cell? ⟨W.heap.size, 1, none⟩ = some (.int .i64 0) := cell_of_row _ _ 1 _ _ (0, 0) hrw
          have q2 : (((((w7.setCell ⟨W.heap.size, 0, none⟩ (.int .i64 0)).setCell ⟨W.heap.size, 1, none⟩ (.int .i64 0)).setCell ⟨W.heap.size, 2, none⟩ (.string ⟨#[]⟩)).setCell ⟨W.heap.size, 3, none⟩ (.string ⟨#[]⟩)).setCell ⟨W.heap.size, 4, none⟩ (.slice none 0 0)).cell? ⟨W.heap.size, 2, none⟩ = some (.string ⟨#[]⟩) := cell_of_row _ _ 2 _ _ (0, 0) hrw
          have q3 : (((((w7.setCell ⟨W.heap.size, 0, none⟩ (.int .i64 0)).setCell ⟨W.heap.size, 1, none⟩ (.int .i64 0)).setCell ⟨W.heap.size, 2, none⟩ (.string ⟨#[]⟩)).setCell ⟨W.heap.size, 3, none⟩ (.string ⟨#[]⟩)).setCell ⟨W.heap.size, 4, none⟩ (.slice none 0 0)).cell? ⟨W.heap.size, 3, none⟩ = some (.string ⟨#[]⟩) := cell_of_row _ _ 3 _ _ (0, 0) hrw
          have q4 : (((((w7.setCell ⟨W.heap.size, 0, none⟩ (.int .i64 0)).setCell ⟨W.heap.size, 1, none⟩ (.int .i64 0)).setCell ⟨W.heap.size, 2, none⟩ (.string ⟨#[]⟩)).setCell ⟨W.heap.size, 3, none⟩ (.string ⟨#[]⟩)).setCell ⟨W.heap.size, 4, none⟩ (.slice none 0 0)).cell? ⟨W.heap.size, 4, none⟩ = some (.slice none 0 0) := cell_of_row _ _ 4 _ _ (0, 0) hrw
          refine bodyPost_ret (v := .tuple #[.agg #[.int .i64 0, .int .i64 0, .string ⟨#[]⟩, .string ⟨#[]⟩, .slice none 0 0], .int .i64 0, .int .i64 1]) (by simp [results, Tryd.results10, go_sem, q0, q1, q2, q3, q4]) rfl ?_
          obtain rfl := HAE2.out
          obtain ⟨cs, h1, h2, h3⟩ := ans_nil (a := (nilR, 0, 1)) (w := (((((w7.setCell ⟨W.heap.size, 0, none⟩ (.int .i64 0)).setCell ⟨W.heap.size, 1, none⟩ (.int .i64 0)).setCell ⟨W.heap.size, 2, none⟩ (.string ⟨#[]⟩)).setCell ⟨W.heap.size, 3, none⟩ (.string ⟨#[]⟩)).setCell ⟨W.heap.size, 4, none⟩ (.slice none 0 0))) rfl (HS5.2.1)
          exact ⟨cs, by rw [h1], h2, h3⟩

        · rw [hri] at HRI HAE
          have HAE2 : Hid (a = (t4, -1, 0)) := Lib.hid (by rw [HAE.out]; rfl)
          go_wp2_with (first
            | (have hd := done1; clear done1; go_at_call 15; (with_reducible refine (HRI.out _ GS6.out).mono ?_); rintro e7 w7 ⟨rfl, hb7⟩; have GS7 := Lib.hid (GS6.out.below hb7); clear hb7; clear d0 d1 d2 d3 d4 df0 df1 df2 df3 df4 g0 g1 g2 g3 g4 gf0 gf1 gf2 gf3 gf4 p2; have HX7 := Lib.hid GS7.out.x; have HZ7 := Lib.hid GS7.out.z; have d0 : w7.cell? ⟨z4, 0, none⟩ = some (.int .i64 k4) := cell_of_row _ _ 0 _ _ (0, 0) HX7.out; have d1 : w7.cell? ⟨z4, 1, none⟩ = some (.int .i64 n4) := cell_of_row _ _ 1 _ _ (0, 0) HX7.out; have d2 : w7.cell? ⟨z4, 2, none⟩ = some (.string y4) := cell_of_row _ _ 2 _ _ (0, 0) HX7.out; have d3 : w7.cell? ⟨z4, 3, none⟩ = some (.string v4) := cell_of_row _ _ 3 _ _ (0, 0) HX7.out; have d4 : w7.cell? ⟨z4, 4, none⟩ = some (.slice A4 m4 c4) := cell_of_row _ _ 4 _ _ (0, 0) HX7.out; have df0 : w7.frozen? ⟨z4, 0, none⟩ = false := pfrz HX7.out; have df1 : w7.frozen? ⟨z4, 1, none⟩ = false := pfrz HX7.out; have df2 : w7.frozen? ⟨z4, 2, none⟩ = false := pfrz HX7.out; have df3 : w7.frozen? ⟨z4, 3, none⟩ = false := pfrz HX7.out; have df4 : w7.frozen? ⟨z4, 4, none⟩ = false := pfrz HX7.out; have g0 : w7.cell? ⟨W.heap.size, 0, none⟩ = some (.int .i64 0) := cell_of_row _ _ 0 _ _ (0, 0) HZ7.out; have g1 : w7.cell? ⟨W.heap.size, 1, none⟩ = some (.int .i64 0) := cell_of_row _ _ 1 _ _ (0, 0) HZ7.out; have g2 : w7.cell? ⟨W.heap.size, 2, none⟩ = some (.string ⟨#[]⟩) := cell_of_row _ _ 2 _ _ (0, 0) HZ7.out; have g3 : w7.cell? ⟨W.heap.size, 3, none⟩ = some (.string ⟨#[]⟩) := cell_of_row _ _ 3 _ _ (0, 0) HZ7.out; have g4 : w7.cell? ⟨W.heap.size, 4, none⟩ = some (.slice none 0 0) := cell_of_row _ _ 4 _ _ (0, 0) HZ7.out; have gf0 : w7.frozen? ⟨W.heap.size, 0, none⟩ = false := pfrz HZ7.out; have gf1 : w7.frozen? ⟨W.heap.size, 1, none⟩ = false := pfrz HZ7.out; have gf2 : w7.frozen? ⟨W.heap.size, 2, none⟩ = false := pfrz HZ7.out; have gf3 : w7.frozen? ⟨W.heap.size, 3, none⟩ = false := pfrz HZ7.out; have gf4 : w7.frozen? ⟨W.heap.size, 4, none⟩ = false := pfrz HZ7.out; have p2 : w7.cell? ⟨W.heap.size + 1, 2, none⟩ = some (.int .i64 (-1)) := GS7.out.bad; have done2 := trivial)
            | (have hd := done0; clear done0; go_at_call 21; (with_reducible refine HNX.out.mono ?_); rintro e6 w6 ⟨rfl, hb6⟩; have GS6 := Lib.hid (HPA2.out.below hb6); clear hb6; clear d0 d1 d2 d3 d4 df0 df1 df2 df3 df4 g0 g1 g2 g3 g4 gf0 gf1 gf2 gf3 gf4 p2; have HX6 := Lib.hid GS6.out.x; have HZ6 := Lib.hid GS6.out.z; have d0 : w6.cell? ⟨z4, 0, none⟩ = some (.int .i64 k4) := cell_of_row _ _ 0 _ _ (0, 0) HX6.out; have d1 : w6.cell? ⟨z4, 1, none⟩ = some (.int .i64 n4) := cell_of_row _ _ 1 _ _ (0, 0) HX6.out; have d2 : w6.cell? ⟨z4, 2, none⟩ = some (.string y4) := cell_of_row _ _ 2 _ _ (0, 0) HX6.out; have d3 : w6.cell? ⟨z4, 3, none⟩ = some (.string v4) := cell_of_row _ _ 3 _ _ (0, 0) HX6.out; have d4 : w6.cell? ⟨z4, 4, none⟩ = some (.slice A4 m4 c4) := cell_of_row _ _ 4 _ _ (0, 0) HX6.out; have df0 : w6.frozen? ⟨z4, 0, none⟩ = false := pfrz HX6.out; have df1 : w6.frozen? ⟨z4, 1, none⟩ = false := pfrz HX6.out; have df2 : w6.frozen? ⟨z4, 2, none⟩ = false := pfrz HX6.out; have df3 : w6.frozen? ⟨z4, 3, none⟩ = false := pfrz HX6.out; have df4 : w6.frozen? ⟨z4, 4, none⟩ = false := pfrz HX6.out; have g0 : w6.cell? ⟨W.heap.size, 0, none⟩ = some (.int .i64 0) := cell_of_row _ _ 0 _ _ (0, 0) HZ6.out; have g1 : w6.cell? ⟨W.heap.size, 1, none⟩ = some (.int .i64 0) := cell_of_row _ _ 1 _ _ (0, 0) HZ6.out; have g2 : w6.cell? ⟨W.heap.size, 2, none⟩ = some (.string ⟨#[]⟩) := cell_of_row _ _ 2 _ _ (0, 0) HZ6.out; have g3 : w6.cell? ⟨W.heap.size, 3, none⟩ = some (.string ⟨#[]⟩) := cell_of_row _ _ 3 _ _ (0, 0) HZ6.out; have g4 : w6.cell? ⟨W.heap.size, 4, none⟩ = some (.slice none 0 0) := cell_of_row _ _ 4 _ _ (0, 0) HZ6.out; have gf0 : w6.frozen? ⟨W.heap.size, 0, none⟩ = false := pfrz HZ6.out; have gf1 : w6.frozen? ⟨W.heap.size, 1, none⟩ = false := pfrz HZ6.out; have gf2 : w6.frozen? ⟨W.heap.size, 2, none⟩ = false := pfrz HZ6.out; have gf3 : w6.frozen? ⟨W.heap.size, 3, none⟩ = false := pfrz HZ6.out; have gf4 : w6.frozen? ⟨W.heap.size, 4, none⟩ = false := pfrz HZ6.out; have p2 : w6.cell? ⟨W.heap.size + 1, 2, none⟩ = some (.int .i64 (-1)) := GS6.out.bad; have done1 := trivial))
          have HS5 := set5 (W := W) GS7.out.z GS7.out.b (.int .i64 k4) (.int .i64 n4) (.string y4) (.string v4) (.slice A4 m4 c4)
          have hrw := HS5.1
          have q0 : (((((w7.setCell ⟨W.heap.size, 0, none⟩ (.int .i64 k4)).setCell ⟨W.heap.size, 1, none⟩ (.int .i64 n4)).setCell ⟨W.heap.size, 2, none⟩ (.string y4)).setCell ⟨W.heap.size, 3, none⟩ (.string v4)).setCell ⟨W.heap.size, 4, none⟩ (.slice A4 m4 c4)).cell? ⟨W.heap.size, 0, none⟩ = some (.int .i64 k4) := cell_of_row _ _ 0 _ _ (0, 0) hrw
          have q1 : (((((w7.setCell ⟨W.heap.size, 0, none⟩ (.int .i64 k4)).setCell ⟨W.heap.size, 1, none⟩ (.int .i64 n4)).setCell ⟨W.heap.size, 2, none⟩ (.string y4)).setCell ⟨W.heap.size, 3, none⟩ (.string v4)).setCell ⟨W.heap.size, 4, none⟩ (.slice A4 m4 c4)).cell? ⟨W.heap.size, 1, none⟩ = some (.int .i64 n4) := cell_of_row _ _ 1 _ _ (0, 0) hrw
          have q2 : (((((w7.setCell ⟨W.heap.size, 0, none⟩ (.int .i64 k4)).setCell ⟨W.heap.size, 1, none⟩ (.int .i64 n4)).setCell ⟨W.heap.size, 2, none⟩ (.string y4)).setCell ⟨W.heap.size, 3, none⟩ (.string v4)).setCell ⟨W.heap.size, 4, none⟩ (.slice A4 m4 c4)).cell? ⟨W.heap.size, 2, none⟩ = some (.string y4) := cell_of_row _ _ 2 _ _ (0, 0) hrw
          have q3 : (((((w7.setCell ⟨W.heap.size, 0, none⟩ (.int .i64 k4)).setCell ⟨W.heap.size, 1, none⟩ (.int .i64 n4)).setCell ⟨W.heap.size, 2, none⟩ (.string y4)).setCell ⟨W.heap.size, 3, none⟩ (.string v4)).setCell ⟨W.heap.size, 4, none⟩ (.slice A4 m4 c4)).cell? ⟨W.heap.size, 3, none⟩ = some (.string v4) := cell_of_row _ _ 3 _ _ (0, 0) hrw
          have q4 : (((((w7.setCell ⟨W.heap.size, 0, none⟩ (.int .i64 k4)).setCell ⟨W.heap.size, 1, none⟩ (.int .i64 n4)).setCell ⟨W.heap.size, 2, none⟩ (.string y4)).setCell ⟨W.heap.size, 3, none⟩ (.string v4)).setCell ⟨W.heap.size, 4, none⟩ (.slice A4 m4 c4)).cell? ⟨W.heap.size, 4, none⟩ = some (.slice A4 m4 c4) := cell_of_row _ _ 4 _ _ (0, 0) hrw
          refine bodyPost_ret (v := .tuple #[.agg #[.int .i64 k4, .int .i64 n4, .string y4, .string v4, .slice A4 m4 c4], .int .i64 (-1), .int .i64 0]) (by simp [results, Tryd.results10, go_sem, q0, q1, q2, q3, q4]) rfl ?_
          obtain rfl := HAE2.out
          refine ⟨(rcs k4 n4 y4 v4 A4 m4 c4), rfl, ?_, HS5.2.1⟩
          have hzw := HZW.out
          refine (GS7.out.t.heap fun b hb => HS5.2.2.1 b (by omega)).imp fun b hb => ⟨by omega, ?_⟩
          have h1 := HS5.2.2.2
          have h3 := in_heap GS7.out.x
          rw [h1]
          omega
      · have k0 : ((kd : Int) == 0) = false := by rw [beq_eq_false_iff_ne]; omega
        have k3 : (kd == 0) = false := by rw [beq_eq_false_iff_ne]; omega
        have k1 : ((kd : Int) != 0) = true := by simp [bne, k0]
        have k2 : (kd != 0) = true := by simp [bne, k3]
        have HAT : Hid (Wm.badOf s (.bad (Wm.tok r0).from_) = (at5 : Int)) := Lib.hid (by rw [← hat]; rfl)
        have HAE : Hid (a = (nilR, (at5 : Int), 2)) := Lib.hid (by
          rw [HWH.out]
          have h2 := HLEN.out
          show Wm.ansR L.length (if (Wm.tok r0).kind = 0 then _ else _) = _
          rw [if_neg (fun e => hk (hkd.symm.trans e))]
          show ((nilR, (L.length : Int) - ((Wm.tok r0).from_.length : Int), (2 : Int)) : Rt × Int × Int) = _
          have h1 := (Wm.tok_ok r0).froms.len
          have h3 : (L.length : Int) - ((Wm.tok r0).from_.length : Int) = (at5 : Int) := by omega
          rw [h3])
        have HFL := Lib.hid (fun w (hw : DSt w (W.heap.size + 1) s L (.at_ r0)) => dfail_any s L (W.heap.size + 1) (.at_ r0) w HLL.out (by have := HS.out; omega) hw)
        have hnn : ¬ (at5 : Int) < 0 := by omega
        clear hk hkd hsf hat
        go_wp2_with (first
          | (have hd := done1; clear done1; go_at_call 22; (with_reducible refine (HFL.out _ GS6.out.r).mono ?_); rintro e7 w7 ⟨rfl, hr7, hg7⟩; have GS7 := Lib.hid (GS6.out.call hg7 hr7); clear hr7 hg7; clear d0 d1 d2 d3 d4 df0 df1 df2 df3 df4 g0 g1 g2 g3 g4 gf0 gf1 gf2 gf3 gf4 p2; have HX7 := Lib.hid GS7.out.x; have HZ7 := Lib.hid GS7.out.z; have d0 : w7.cell? ⟨z4, 0, none⟩ = some (.int .i64 k4) := cell_of_row _ _ 0 _ _ (0, 0) HX7.out; have d1 : w7.cell? ⟨z4, 1, none⟩ = some (.int .i64 n4) := cell_of_row _ _ 1 _ _ (0, 0) HX7.out; have d2 : w7.cell? ⟨z4, 2, none⟩ = some (.string y4) := cell_of_row _ _ 2 _ _ (0, 0) HX7.out; have d3 : w7.cell? ⟨z4, 3, none⟩ = some (.string v4) := cell_of_row _ _ 3 _ _ (0, 0) HX7.out; have d4 : w7.cell? ⟨z4, 4, none⟩ = some (.slice A4 m4 c4) := cell_of_row _ _ 4 _ _ (0, 0) HX7.out; have df0 : w7.frozen? ⟨z4, 0, none⟩ = false := pfrz HX7.out; have df1 : w7.frozen? ⟨z4, 1, none⟩ = false := pfrz HX7.out; have df2 : w7.frozen? ⟨z4, 2, none⟩ = false := pfrz HX7.out; have df3 : w7.frozen? ⟨z4, 3, none⟩ = false := pfrz HX7.out; have df4 : w7.frozen? ⟨z4, 4, none⟩ = false := pfrz HX7.out; have g0 : w7.cell? ⟨W.heap.size, 0, none⟩ = some (.int .i64 0) := cell_of_row _ _ 0 _ _ (0, 0) HZ7.out; have g1 : w7.cell? ⟨W.heap.size, 1, none⟩ = some (.int .i64 0) := cell_of_row _ _ 1 _ _ (0, 0) HZ7.out; have g2 : w7.cell? ⟨W.heap.size, 2, none⟩ = some (.string ⟨#[]⟩) := cell_of_row _ _ 2 _ _ (0, 0) HZ7.out; have g3 : w7.cell? ⟨W.heap.size, 3, none⟩ = some (.string ⟨#[]⟩) := cell_of_row _ _ 3 _ _ (0, 0) HZ7.out; have g4 : w7.cell? ⟨W.heap.size, 4, none⟩ = some (.slice none 0 0) := cell_of_row _ _ 4 _ _ (0, 0) HZ7.out; have gf0 : w7.frozen? ⟨W.heap.size, 0, none⟩ = false := pfrz HZ7.out; have gf1 : w7.frozen? ⟨W.heap.size, 1, none⟩ = false := pfrz HZ7.out; have gf2 : w7.frozen? ⟨W.heap.size, 2, none⟩ = false := pfrz HZ7.out; have gf3 : w7.frozen? ⟨W.heap.size, 3, none⟩ = false := pfrz HZ7.out; have gf4 : w7.frozen? ⟨W.heap.size, 4, none⟩ = false := pfrz HZ7.out; have p2 : w7.cell? ⟨W.heap.size + 1, 2, none⟩ = some (.int .i64 (at5)) := GS7.out.badv HAT.out; have done2 := trivial)
          | (have hd := done0; clear done0; go_at_call 21; (with_reducible refine HNX.out.mono ?_); rintro e6 w6 ⟨rfl, hb6⟩; have GS6 := Lib.hid (HPA2.out.below hb6); clear hb6; clear d0 d1 d2 d3 d4 df0 df1 df2 df3 df4 g0 g1 g2 g3 g4 gf0 gf1 gf2 gf3 gf4 p2; have HX6 := Lib.hid GS6.out.x; have HZ6 := Lib.hid GS6.out.z; have d0 : w6.cell? ⟨z4, 0, none⟩ = some (.int .i64 k4) := cell_of_row _ _ 0 _ _ (0, 0) HX6.out; have d1 : w6.cell? ⟨z4, 1, none⟩ = some (.int .i64 n4) := cell_of_row _ _ 1 _ _ (0, 0) HX6.out; have d2 : w6.cell? ⟨z4, 2, none⟩ = some (.string y4) := cell_of_row _ _ 2 _ _ (0, 0) HX6.out; have d3 : w6.cell? ⟨z4, 3, none⟩ = some (.string v4) := cell_of_row _ _ 3 _ _ (0, 0) HX6.out; have d4 : w6.cell? ⟨z4, 4, none⟩ = some (.slice A4 m4 c4) := cell_of_row _ _ 4 _ _ (0, 0) HX6.out; have df0 : w6.frozen? ⟨z4, 0, none⟩ = false := pfrz HX6.out; have df1 : w6.frozen? ⟨z4, 1, none⟩ = false := pfrz HX6.out; have df2 : w6.frozen? ⟨z4, 2, none⟩ = false := pfrz HX6.out; have df3 : w6.frozen? ⟨z4, 3, none⟩ = false := pfrz HX6.out; have df4 : w6.frozen? ⟨z4, 4, none⟩ = false := pfrz HX6.out; have g0 : w6.cell? ⟨W.heap.size, 0, none⟩ = some (.int .i64 0) := cell_of_row _ _ 0 _ _ (0, 0) HZ6.out; have g1 : w6.cell? ⟨W.heap.size, 1, none⟩ = some (.int .i64 0) := cell_of_row _ _ 1 _ _ (0, 0) HZ6.out; have g2 : w6.cell? ⟨W.heap.size, 2, none⟩ = some (.string ⟨#[]⟩) := cell_of_row _ _ 2 _ _ (0, 0) HZ6.out; have g3 : w6.cell? ⟨W.heap.size, 3, none⟩ = some (.string ⟨#[]⟩) := cell_of_row _ _ 3 _ _ (0, 0) HZ6.out; have g4 : w6.cell? ⟨W.heap.size, 4, none⟩ = some (.slice none 0 0) := cell_of_row _ _ 4 _ _ (0, 0) HZ6.out; have gf0 : w6.frozen? ⟨W.heap.size, 0, none⟩ = false := pfrz HZ6.out; have gf1 : w6.frozen? ⟨W.heap.size, 1, none⟩ = false := pfrz HZ6.out; have gf2 : w6.frozen? ⟨W.heap.size, 2, none⟩ = false := pfrz HZ6.out; have gf3 : w6.frozen? ⟨W.heap.size, 3, none⟩ = false := pfrz HZ6.out; have gf4 : w6.frozen? ⟨W.heap.size, 4, none⟩ = false := pfrz HZ6.out; have p2 : w6.cell? ⟨W.heap.size + 1, 2, none⟩ = some (.int .i64 (-1)) := GS6.out.bad; have done1 := trivial))
        go_region
        go_wp2_with fail
        have HS5 := set5 (W := W) GS7.out.z GS7.out.b (.int .i64 0) (.int .i64 0) (.string ⟨#[]⟩) (.string ⟨#[]⟩) (.slice none 0 0)
        have hrw : (((((w7.setCell ⟨W.heap.size, 0, none⟩ (.int .i64 0)).setCell ⟨W.heap.size, 1, none⟩ (.int .i64 0)).setCell ⟨W.heap.size, 2, none⟩ (.string ⟨#[]⟩)).setCell ⟨W.heap.size, 3, none⟩ (.string ⟨#[]⟩)).setCell ⟨W.heap.size, 4, none⟩ (.slice none 0 0)).drew.heap[W.heap.size]? = some (.cells #[.int .i64 0, .int .i64 0, .string ⟨#[]⟩, .string ⟨#[]⟩, .slice none 0 0] 24) := HS5.1
        have q0 : (((((w7.setCell ⟨W.heap.size, 0, none⟩ (.int .i64 0)).setCell ⟨W.heap.size, 1, none⟩ (.int .i64 0)).setCell ⟨W.heap.size, 2, none⟩ (.string ⟨#[]⟩)).setCell ⟨W.heap.size, 3, none⟩ (.string ⟨#[]⟩)).setCell ⟨W.heap.size, 4, none⟩ (.slice none 0 0)).drew.cell? ⟨W.heap.size, 0, none⟩ = some (.int .i64 0) := cell_of_row _ _ 0 _ _ (0, 0) hrw
        have q1 : (((((w7.setCell ⟨W.heap.size, 0, none⟩ (.int .i64 0)).setCell ⟨W.heap.size, 1, none⟩ (.int .i64 0)).setCell ⟨W.heap.size, 2, none⟩ (.string ⟨#[]⟩)).setCell ⟨W.heap.size, 3, none⟩ (.string ⟨#[]⟩)).setCell ⟨W.heap.size, 4, none⟩ (.slice none 0 0)).drew.cell? ⟨W.heap.size, 1, none⟩ = some (.int .i64 0) := cell_of_row _ _ 1 _ _ (0, 0) hrw
        have q2 : (((((w7.setCell ⟨W.heap.size, 0, none⟩ (.int .i64 0)).setCell ⟨W.heap.size, 1, none⟩ (.int .i64 0)).setCell ⟨W.heap.size, 2, none⟩ (.string ⟨#[]⟩)).setCell ⟨W.heap.size, 3, none⟩ (.string ⟨#[]⟩)).setCell ⟨W.heap.size, 4, none⟩ (.slice none 0 0)).drew.cell? ⟨W.heap.size, 2, none⟩ = some (.string ⟨#[]⟩) := cell_of_row _ _ 2 _ _ (0, 0) hrw
        have q3 : (((((w7.setCell ⟨W.heap.size, 0, none⟩ (.int .i64 0)).setCell ⟨W.heap.size, 1, none⟩ (.int .i64 0)).setCell ⟨W.heap.size, 2, none⟩ (.string ⟨#[]⟩)).setCell ⟨W.heap.size, 3, none⟩ (.string ⟨#[]⟩)).setCell ⟨W.heap.size, 4, none⟩ (.slice none 0 0)).drew.cell? ⟨W.heap.size, 3, none⟩ = some (.string ⟨#[]⟩) := cell_of_row _ _ 3 _ _ (0, 0) hrw
        have q4 : (((((w7.setCell ⟨W.heap.size, 0, none⟩ (.int .i64 0)).setCell ⟨W.heap.size, 1, none⟩ (.int .i64 0)).setCell ⟨W.heap.size, 2, none⟩ (.string ⟨#[]⟩)).setCell ⟨W.heap.size, 3, none⟩ (.string ⟨#[]⟩)).setCell ⟨W.heap.size, 4, none⟩ (.slice none 0 0)).drew.cell? ⟨W.heap.size, 4, none⟩ = some (.slice none 0 0) := cell_of_row _ _ 4 _ _ (0, 0) hrw
        refine bodyPost_ret (v := .tuple #[.agg #[.int .i64 0, .int .i64 0, .string ⟨#[]⟩, .string ⟨#[]⟩, .slice none 0 0], .int .i64 (at5 : Int), .int .i64 2]) (by simp [results, Tryd.results10, go_sem, q0, q1, q2, q3, q4]) rfl ?_
        obtain rfl := HAE.out
        obtain ⟨cs, h1, h2, h3⟩ := ans_nil (a := (nilR, (at5 : Int), 2)) (w := (((((w7.setCell ⟨W.heap.size, 0, none⟩ (.int .i64 0)).setCell ⟨W.heap.size, 1, none⟩ (.int .i64 0)).setCell ⟨W.heap.size, 2, none⟩ (.string ⟨#[]⟩)).setCell ⟨W.heap.size, 3, none⟩ (.string ⟨#[]⟩)).setCell ⟨W.heap.size, 4, none⟩ (.slice none 0 0)).drew) rfl (HS5.2.1.trans (Below.refl _ _ |>.drew))
        exact ⟨cs, by rw [h1], h2, h3⟩

end Go.Proofs.YtgiahfjndononaaDoor
