/- A batch read: the code's Read. -/
import Derived.Test.YthkclgkbidhmbaaTb
import Derived.Test.YthkclgkbidhmbaaRg
import Derived.Test.YthkclgkbidhmbaaSk
namespace Go.Proofs.Ythkclgkbidhmbaa
open Go.RowKit
set_option linter.unusedVariables false
set_option maxRecDepth 100000

namespace Mi
theorem getAux_pos : ∀ (l : List UInt8) (i acc : Nat), (getAux i acc l).2.2 = true → i < (getAux i acc l).2.1
  | [], _, _, h => by simp [getAux] at h
  | c :: r, i, acc, h => by
    unfold getAux at h ⊢
    split at h
    · cases h
    · rename_i h1
      rw [if_neg h1]
      split at h
      · rename_i h2
        rw [if_pos h2]
        have := getAux_pos r _ _ h
        omega
      · rename_i h2
        rw [if_neg h2]
        split at h
        · cases h
        · rename_i h3
          rw [if_neg h3]
          simp
theorem get_pos (l : List UInt8) (h : (get l).2.2 = true) : 0 < (get l).2.1 := getAux_pos l 0 0 h
end Mi
namespace Rm
theorem wide_less (r : R) (h : (wide r).2.2 = false) : (wide r).2.1.length < r.1.length := by
  unfold wide at h ⊢
  split at h
  · rename_i hg
    rw [if_pos hg]
    have h1 := Mi.get_pos _ hg
    have h2 := Mi.get_len r.1
    simp only [List.length_drop]
    omega
  · cases h
theorem atl_less : ∀ (f n : Nat) (r : R) (acc : List (ByteArray × ByteArray)), (atl f n r acc).1.1.length ≤ r.1.length
  | 0, _, _, _ => Nat.le_refl _
  | f + 1, n, r, acc => by
    unfold atl
    split
    · exact Nat.le_trans (atl_less f _ _ _) (Nat.le_trans (text_bd _).2 (text_bd _).2)
    · exact Nat.le_refl _
/-- A span takes a byte at least; where there is none, nothing is left. -/
theorem span_less (r : R) : ((span r).2.2 = false ∧ (span r).2.1.length < r.1.length) ∨ (span r).2 = fail := by
  by_cases hc : (pa r).1.2 = false ∧ right (raw r) = true
  · have e : (span r).2 = (pa r).1 := by unfold span; rw [if_pos hc]
    rw [e]
    refine .inl ⟨hc.1, ?_⟩
    have ha := hc.1
    have h9 : (p9 r).2.2 = false := by unfold pa at ha; exact atl_stays _ _ _ _ ha
    have h8 : (p8 r).2.2 = false := by unfold p9 at h9; exact num_stays _ h9
    have h7 : (p7 r).2.2 = false := by unfold p8 at h8; exact flag_stays _ h8
    have h6 : (p6 r).2.2 = false := by unfold p7 at h7; exact num_stays _ h7
    have h5 : (p5 r).2.2 = false := by unfold p6 at h6; exact num_stays _ h6
    have h4 : (p4 r).2.2 = false := by unfold p5 at h5; exact text_stays _ h5
    have h3 : (p3 r).2.2 = false := by unfold p4 at h4; exact text_stays _ h4
    have h2 : (p2 r).2.2 = false := by unfold p3 at h3; exact wide_stays _ h3
    have h1 : (p1 r).2.2 = false := by unfold p2 at h2; exact wide_stays _ h2
    have h0 : (p0 r).2.2 = false := by unfold p1 at h1; exact wide_stays _ h1
    have b0 : (p0 r).2.1.length < r.1.length := by unfold p0 at h0 ⊢; exact wide_less r h0
    have b1 : (p1 r).2.1.length ≤ (p0 r).2.1.length := by unfold p1; exact wide_bd _
    have b2 : (p2 r).2.1.length ≤ (p1 r).2.1.length := by unfold p2; exact wide_bd _
    have b3 : (p3 r).2.1.length ≤ (p2 r).2.1.length := by unfold p3; exact wide_bd _
    have b4 : (p4 r).2.1.length ≤ (p3 r).2.1.length := by unfold p4; exact (text_bd _).2
    have b5 : (p5 r).2.1.length ≤ (p4 r).2.1.length := by unfold p5; exact (text_bd _).2
    have b6 : (p6 r).2.1.length ≤ (p5 r).2.1.length := by unfold p6; exact num_bd _
    have b7 : (p7 r).2.1.length ≤ (p6 r).2.1.length := by unfold p7; exact num_bd _
    have b8 : (p8 r).2.1.length ≤ (p7 r).2.1.length := by unfold p8; exact flag_bd _
    have b9 : (p9 r).2.1.length ≤ (p8 r).2.1.length := by unfold p9; exact num_bd _
    have ba : (pa r).1.1.length ≤ (p9 r).2.1.length := by unfold pa; exact atl_less _ _ _ _
    exact Nat.lt_of_le_of_lt (Nat.le_trans ba (Nat.le_trans b9 (Nat.le_trans b8 (Nat.le_trans b7 (Nat.le_trans b6 (Nat.le_trans b5 (Nat.le_trans b4 (Nat.le_trans b3 (Nat.le_trans b2 b1))))))))) b0
  · have e : (span r).2 = fail := by unfold span; rw [if_neg hc]
    exact .inr e
end Rm
namespace Bm
/-- As many spans as are told, as long as nothing is bad. -/
def rds : Nat → Rm.R → List Sp → Rm.R × List Sp
  | 0, r, acc => (r, acc)
  | n + 1, r, acc => if r.2 = false then rds n (Rm.span r).2 (acc ++ [(Rm.span r).1]) else (r, acc)
def body (l : List UInt8) : List UInt8 := l.take (l.length - 4)
def all (l : List UInt8) : Rm.R × List Sp := rds (Rm.num (body l, false)).1 (Rm.num (body l, false)).2 []
def rightS (l : List Sp) : Bool := decide (1 ≤ l.length) && (decide (l.length ≤ 50) && l.all right)
def okB (l : List UInt8) : Bool := decide (Ct.ok l) && ((!(all l).1.2 && (all l).1.1.isEmpty) && rightS (all l).2)
theorem rightL_eq (l : List Ls) : rightL l = rightS (l.map Ls.s) := by
  unfold rightL rightS
  rw [List.length_map, List.all_map]
  rfl
end Bm
def NoBatch (w : World) (e : Ending) (w' : World) : Prop := e = .returned (.tuple #[.slice none 0 0, .int .i64 2]) ∧ Below w.heap.size w w'
def YesBatch (l : List Sp) (w : World) (e : Ending) (w' : World) : Prop := ∃ (v : Value) (l' : List Ls), e = .returned (.tuple #[v, .int .i64 0]) ∧ OwnSps w' w.heap.size v l' ∧ l'.map Ls.s = l ∧ Below w.heap.size w w'
set_option maxHeartbeats 4000000 in
theorem done_any (g B : Nat) (r : Rm.R) (w : World) (h : RSt w B g r) :
    Calls Try.prog 78 #[.pointer (some ⟨g, 0, none⟩)] w fun e w' => e = .returned (.bool (!r.2 && r.1.isEmpty)) ∧ w = w' := by
  obtain ⟨⟨A, n, c, hx, hn, hr, hc⟩, hB⟩ := h
  obtain ⟨rest, bad⟩ := r
  simp only at hx hn
  have c0 : w.cell? ⟨g, 0, none⟩ = some (.slice A n c) := cell_of_row _ _ 0 _ _ (0, 0) hx
  have c1 : w.cell? ⟨g, 1, none⟩ = some (.bool bad) := cell_of_row _ _ 1 _ _ (0, 0) hx
  clear hx hr hc
  cases bad
  · rcases Nat.eq_zero_or_pos n with h0 | h0
    · have he : rest.isEmpty = true := by rw [List.isEmpty_iff, ← List.length_eq_zero_iff]; omega
      subst h0
      have HE := Lib.hid he
      clear hn he
      go_enter Try.func78, Try.ntmps78
      go_wp2_with fail
      go_ret
      exact ⟨by rw [HE.out] <;> rfl, rfl⟩
    · have he : rest.isEmpty = false := by rw [List.isEmpty_eq_false_iff]; intro e; rw [e] at hn; simp at hn; omega
      have HE := Lib.hid he
      have hb : ((n : Int) == 0) = false := by simp; omega
      clear hn he
      go_enter Try.func78, Try.ntmps78
      go_wp2_with fail
      go_ret
      exact ⟨by rw [HE.out] <;> rfl, rfl⟩
  · clear hn
    go_enter Try.func78, Try.ntmps78
    go_wp2_with fail
    go_ret
    exact ⟨rfl, rfl⟩
theorem OwnSps.grown {w w' : World} {base g : Nat} {v : Value} {l : List Ls} (h : OwnSps w base v l) (hg : w.grownBy w' (some g)) (hb : g < base) : OwnSps w' base v l :=
  ⟨own_grown h.own hg hb, fun x hx => ⟨own_grown (h.each x hx).own hg hb, (h.each x hx).ok⟩⟩
theorem grown_app {w0 w w' w2 : World} {g : Nat} {u v : Value} (h : w0.grownBy w (some g)) (hb : Below w.heap.size w w') (hg : Grew w' w2 u v) (hu : ∀ j, u.ownBlock = some j → g + 1 ≤ j) (hz : w0.heap.size ≤ g + 1) : w0.grownBy w2 (some g) :=
  ⟨hg.grown.os.trans (hb.os.trans h.os), hg.grown.tape.trans (hb.tape.trans h.tape), hg.grown.output.trans (hb.output.trans h.output), Nat.le_trans h.size (Nat.le_trans hb.size hg.grown.size), fun i hi hne => (hg.grown.block i (Nat.lt_of_lt_of_le hi (Nat.le_trans h.size hb.size)) (fun e => by have := hu i e.symm; omega)).trans ((hb.block i (Nat.lt_of_lt_of_le hi h.size)).trans (h.block i hi hne))⟩
theorem rst_app {w w' w2 : World} {B g : Nat} {r : Rm.R} {u v : Value} (h : RSt w B g r) (hb : Below w.heap.size w w') (hg : Grew w' w2 u v) (hu : ∀ j, u.ownBlock = some j → g + 1 ≤ j) : RSt w2 B g r :=
  (h.keep (row := none) ⟨hb.os, hb.tape, hb.output, hb.size, fun i hi _ => hb.block i hi⟩ (by simp) (fun j e => by cases e)).keep hg.grown (fun e => by have := hu g e; omega) (fun j e => by have := hu j e; have := h.lt; omega)
set_option maxHeartbeats 16000000 in
theorem readbatch_any (A : Option Addr) (l : List UInt8) (n c B : Nat) (w : World) (hn : n = l.length) (hb : Rd w B A (l.map B8)) (hB : B ≤ w.heap.size) (hc : n ≤ c ∧ c ≤ maxLen) (hl : n ≤ 500000) :
    (Bm.okB l = false → Calls Try.prog 49 #[.slice A n c] w (NoBatch w)) ∧ (Bm.okB l = true → Calls Try.prog 49 #[.slice A n c] w (YesBatch (Bm.all l).2 w)) := by
  have key : ∀ Q : Ending → World → Prop, (Bm.okB l = false → ∀ w', Below w.heap.size w w' → Q (.returned (.tuple #[.slice none 0 0, .int .i64 2])) w') → (Bm.okB l = true → ∀ v l' w', OwnSps w' w.heap.size v l' → l'.map Ls.s = (Bm.all l).2 → Below w.heap.size w w' → Q (.returned (.tuple #[v, .int .i64 0])) w') → Calls Try.prog 49 #[.slice A n c] w Q := by
    intro Q HQ0' HQ1'
    have HQ0 := Lib.hid HQ0'
    have HQ1 := Lib.hid HQ1'
    clear HQ0' HQ1'
    have HCUT := Lib.hid (cut_calls A l n c B w hn hb hc.1 (by omega))
    obtain ⟨hc1, hc2⟩ := hc
    by_cases hk : Ct.ok l
    · obtain ⟨m, hm⟩ : ∃ m, n = m + 4 := ⟨n - 4, by have := hk.1; omega⟩
      have hbody : Bm.body l = l.take m := by unfold Bm.body; rw [← hn]; congr 1; omega
      have htk := hb.take m
      rw [← List.map_take, ← hbody] at htk
      have hbl : m = (Bm.body l).length := by rw [hbody, List.length_take]; omega
      have HCX : Hid (Calls Try.prog 76 #[.slice A n c] w fun e w' => e = .returned (.tuple #[.slice A m c, .bool true]) ∧ Below w.heap.size w w' ∧ w'.heap.size = w.heap.size) := Lib.hid (HCUT.out.mono fun e w' h => by
        obtain ⟨⟨k, rfl⟩, h2⟩ := h
        rw [if_pos hk, show n - 4 = m by omega] at h2
        exact ⟨h2, below_draw3 w k, rfl⟩)
      rcases hnum : Rm.num (Bm.body l, false) with ⟨n0, r0⟩
      rcases hall : Bm.all l with ⟨rE, aE⟩
      have HAT : Hid (Bm.rds n0 r0 [] = (rE, aE)) := Lib.hid (by have h := hall; unfold Bm.all at h; rw [hnum] at h; exact h)
      have hn0 : n0 ≤ 9223372036854775807 := by have h := num_lt (Bm.body l, false); rw [hnum] at h; exact h
      have hr0 : r0.1.length ≤ m := by have h := num_bd (Bm.body l, false); rw [hnum] at h; rw [hbl]; exact h
      have HOK : Hid (Bm.okB l = ((!rE.2 && rE.1.isEmpty) && Bm.rightS aE)) := Lib.hid (by unfold Bm.okB; rw [hall, decide_eq_true hk]; rfl)
      rw [hall] at HQ1
      simp only at HQ1
      have HNUM : Hid (∀ W, Below w.heap.size w W → W.heap.size = w.heap.size → Calls Try.prog 77 #[.pointer (some ⟨W.heap.size, 0, none⟩)] (W.alloc (.cells #[.slice A m c, .bool false] 88)) fun e w' => e = .returned (.int .i64 (n0 : Int)) ∧ RSt w' B W.heap.size r0 ∧ (W.alloc (.cells #[.slice A m c, .bool false] 88)).grownBy w' (some W.heap.size)) := Lib.hid (fun W hW hz => by
        have h := num_any W.heap.size B (Bm.body l, false) (W.alloc (.cells #[.slice A m c, .bool false] 88)) ⟨⟨A, m, c, heap_alloc_new W _, hbl, (htk.below (hW.mono hB)).alloc (by omega) _, by omega, by omega, hc2⟩, by omega⟩
        rw [hnum] at h
        exact h)
      have HR0 := Lib.hid hr0
      have HN0 := Lib.hid hn0
      have hmn : m ≤ 500000 := by omega
      clear hn hb hm hbody htk hbl hnum hall hn0 hr0 hk HCUT
      go_enter Try.func49, Try.ntmps49
      go_wp2_with fail
      refine HCX.out.mono ?_
      rintro e w1 ⟨rfl, hb1, hz1⟩
      have HB1 := Lib.hid hb1
      have HZ1 := Lib.hid hz1
      have HNM := Lib.hid (HNUM.out w1 hb1 hz1)
      clear hb1 hz1 HNUM HCX
      have HW : Hid (Below w.heap.size w (w1.alloc (.cells #[.slice A m c, .bool false] 88))) := Lib.hid (HB1.out.alloc HB1.out.size _)
      have HZ : Hid ((w1.alloc (.cells #[.slice A m c, .bool false] 88)).heap.size = w1.heap.size + 1) := Lib.hid (by simp)
      go_wp2_with fail
      generalize w1.alloc (.cells #[.slice A m c, .bool false] 88) = W1 at *
      refine HNM.out.mono ?_
      rintro e w2 ⟨rfl, hr, hg⟩
      have HR := Lib.hid hr
      have HG0 := Lib.hid hg
      clear hr hg HNM
      go_wp2_with fail
      have hgz : w1.heap.size < W1.heap.size := by rw [HZ.out]; omega
      go_loopw [8, 7] (fun i v wr => ∃ (k : Nat) (r : Rm.R) (acc : List Ls), i = .int .i64 k ∧ Hid (k ≤ 9223372036854775807) ∧ Hid (Bm.rds k r (acc.map Ls.s) = (rE, aE)) ∧ Hid (acc.length + r.1.length ≤ m + 1 ∧ (r.2 = false → acc.length + r.1.length ≤ m)) ∧ Hid (RSt wr B w1.heap.size r) ∧ Hid (OwnSps wr (w1.heap.size + 1) v acc) ∧ Hid (W1.grownBy wr (some w1.heap.size))) (fun i _ _ => (intOf i).toNat)
      case atStart => exact ⟨n0, r0, [], rfl, HN0, HAT, Lib.hid ⟨by have := HR0.out; simp; omega, fun _ => by have := HR0.out; simp; omega⟩, HR, Lib.hid OwnSps.nil, HG0⟩
      case round =>
        obtain ⟨k, r, acc, rfl, HK, HAT2, HLN, HR2, HO, HG⟩ := hrel
        obtain ⟨rest, bad⟩ := r
        clear HR HG0 HAT HN0 HR0
        obtain ⟨vA, vc, hv, _, hrd⟩ := HO.out.rd
        obtain ⟨p, hp⟩ : ∃ p, p = acc.length := ⟨_, rfl⟩
        rw [← hp] at hv
        subst hv
        have HRDV := Lib.hid hrd
        have HQV := Lib.hid hp
        clear hrd hp
        have c1 : wr.cell? ⟨w1.heap.size, 1, none⟩ = some (.bool bad) := by obtain ⟨rA, rn, rc, hx, _⟩ := HR2.out.cell; exact cell_of_row _ _ 1 _ _ (0, 0) hx
        have hgr : w1.heap.size < wr.heap.size := Nat.lt_of_lt_of_le hgz HG.out.size
        by_cases hgo : 0 < k ∧ bad = false
        · obtain ⟨hk0, rfl⟩ := hgo
          have hd1 : decide ((0 : Int) < (k : Int)) = true := decide_eq_true (by omega)
          have hkm := HK.out
          have hk1 : (1 : Int) ≤ (k : Int) := by omega
          have hless := Rm.span_less (rest, false)
          rcases hs : Rm.span (rest, false) with ⟨s, r2⟩
          rw [hs] at hless
          simp only at hless
          have HAT3 : Hid (Bm.rds (k - 1) r2 (acc.map Ls.s ++ [s]) = (rE, aE)) := Lib.hid (by
            have h := HAT2.out
            obtain ⟨k', rfl⟩ : ∃ k', k = k' + 1 := ⟨k - 1, by omega⟩
            unfold Bm.rds at h
            rw [if_pos rfl, hs] at h
            exact h)
          have HLN2 : Hid (acc.length + 1 + r2.1.length ≤ m + 1 ∧ (r2.2 = false → acc.length + 1 + r2.1.length ≤ m)) := Lib.hid (by
            have h := HLN.out.2 rfl
            simp only at h
            rcases hless with ⟨h1, h2⟩ | h1
            · exact ⟨by omega, fun _ => by omega⟩
            · rw [h1]; exact ⟨by simp [Rm.fail]; omega, fun h => by cases h⟩)
          have hal : acc.length ≤ 1000000 := by have h := HLN.out.1; omega
          have HAL := Lib.hid hal
          have C := Lib.hid (readfrom_any w1.heap.size B (rest, false) wr HR2.out)
          rw [hs] at C
          obtain ⟨⟨x0, x1, x2, x3, x4, x5, x6, x7, x8, ats⟩, hsd⟩ : ∃ s', s' = s := ⟨s, rfl⟩
          subst hsd
          obtain ⟨q, hq⟩ : ∃ q, q = ats.length := ⟨_, rfl⟩
          have HQ := Lib.hid hq
          clear hs hless HAT2 HR2 hal hq
          go_wp2_with fail
          clear c1
          refine C.out.mono ?_
          rintro e u1 ⟨A5, c5, rfl, ho, hr, hg⟩
          have HG1 := Lib.hid (grown_trans HG.out hg)
          have HR3 := Lib.hid hr
          have HO1 := Lib.hid (HO.out.grown hg (by omega))
          have HX1 := Lib.hid (ho.mono (show w1.heap.size + 1 ≤ wr.heap.size by omega))
          have hx1 : w1.heap.size < u1.heap.size := Nat.lt_of_lt_of_le hgr hg.size
          clear ho hr hg C HO HG
          simp only [Ls.cells]
          rw [← HQ.out]
          have HBA : Hid (Below u1.heap.size u1 (u1.alloc (.cells #[.int .u64 x0, .int .u64 x1, .int .u64 x2, .int .u64 x3, .string x4, .string x5, .int .i64 x6, .int .i64 x7, .bool x8, .slice A5 q c5] 36))) := Lib.hid ((Below.refl _ _).alloc (Nat.le_refl _) _)
          have HRD : Hid (Rd (u1.alloc (.cells #[.int .u64 x0, .int .u64 x1, .int .u64 x2, .int .u64 x3, .string x4, .string x5, .int .i64 x6, .int .i64 x7, .bool x8, .slice A5 q c5] 36)) (u1.heap.size + 1) (some ⟨u1.heap.size, 0, none⟩) (Ls.mk ⟨x0, x1, x2, x3, x4, x5, x6, x7, x8, ats⟩ A5 c5).cells) := Lib.hid (by
            have h := Rd.lit u1 #[.int .u64 x0, .int .u64 x1, .int .u64 x2, .int .u64 x3, .string x4, .string x5, .int .i64 x6, .int .i64 x7, .bool x8, .slice A5 q c5] 36
            simp only [Ls.cells]
            rw [← HQ.out]
            exact h)
          have AP := Lib.hid (fun ty => appSp (ty := ty) (HO1.out.below HBA.out) (HX1.out.below HBA.out) HRD.out HAL.out (by have := HBA.out.size; omega))
          go_wp2_with (at_builtin; (refine wpList_app rfl (.tmp 28) (.tmp 30) _ _ rfl rfl rfl (AP.out _) ?_); rintro y3 w3 ⟨ho3, hg3⟩; have HO3 := Lib.hid ho3; have HGX := Lib.hid hg3; clear ho3 hg3)
          have HG3 : Hid (W1.grownBy w3 (some w1.heap.size)) := Lib.hid (grown_app HG1.out HBA.out HGX.out (own_block_ge (HO1.out.below HBA.out).own) (by have := HZ.out; omega))
          have HR4 : Hid (RSt w3 B w1.heap.size r2) := Lib.hid (rst_app HR3.out HBA.out HGX.out (own_block_ge (HO1.out.below HBA.out).own))
          go_roundw
          case rel => exact ⟨k - 1, r2, acc ++ [⟨⟨x0, x1, x2, x3, x4, x5, x6, x7, x8, ats⟩, A5, c5⟩], less_one hk0, Lib.hid (by have := HK.out; omega), Lib.hid (by rw [List.map_append]; exact HAT3.out), Lib.hid (by rw [List.length_append, List.length_singleton]; exact HLN2.out), HR4, HO3, HG3⟩
          case measure => simp [intOf]; omega
        · have hst : Bm.rds k (rest, bad) (acc.map Ls.s) = ((rest, bad), acc.map Ls.s) := by
            cases k with
            | zero => rfl
            | succ k => unfold Bm.rds; rw [if_neg (fun hh => hgo ⟨by omega, hh⟩)]
          have HRE : Hid (rE = (rest, bad) ∧ aE = acc.map Ls.s) := Lib.hid (by have h := HAT2.out; rw [hst] at h; injection h with h1 h2; exact ⟨h1.symm, h2.symm⟩)
          have HD := Lib.hid (done_any w1.heap.size B (rest, bad) wr HR2.out)
          have HBL : Hid (Below w.heap.size w wr) := Lib.hid (HW.out.grown HG.out (by have := HZ.out; have := HB1.out.size; omega) (fun j hj => by injection hj with hj; have := HB1.out.size; omega))
          have hrd := HRDV.out
          have hq := HQV.out
          have HBR := Lib.hid (batchright_any vA acc p vc wr.heap.size wr hq hrd (Nat.le_refl _) (by have := HLN.out.1; unfold maxLen; omega))
          rw [Bm.rightL_eq] at HBR
          have HF : Hid (Bm.okB l = ((!bad && rest.isEmpty) && Bm.rightS (acc.map Ls.s))) := Lib.hid (by rw [HOK.out, HRE.out.1, HRE.out.2])
          rw [HRE.out.2] at HQ1
          have hcc : (k = 0 ∧ bad = false) ∨ (k = 0 ∧ bad = true) ∨ (0 < k ∧ bad = true) := by
            cases bad <;> simp at hgo ⊢ <;> omega
          clear hgo hst HAT2 hq hrd HOK HRE
          have HK2 := Lib.hid (HBL.out)
          rcases hcc with ⟨rfl, rfl⟩ | ⟨rfl, rfl⟩ | ⟨hk0, rfl⟩
          · simp only [Bool.not_false, Bool.true_and] at HD HF
            cases hre : rest.isEmpty
            · rw [hre] at HD HF
              have HOF : Hid (Bm.okB l = false) := Lib.hid (by rw [HF.out]; rfl)
              clear hre HF
              go_wp2_with (go_at_call 78; (with_reducible refine (HD.out).mono ?_); rintro e x2 ⟨rfl, rfl⟩)
              exact HQ0.out HOF.out _ HBL.out
            · rw [hre] at HD HF
              cases hrs : Bm.rightS (acc.map Ls.s)
              · rw [hrs] at HBR HF
                have HOF : Hid (Bm.okB l = false) := Lib.hid (by rw [HF.out]; rfl)
                clear hre HF hrs
                go_wp2_with (first | (go_at_call 78; (with_reducible refine (HD.out).mono ?_); rintro e x2 ⟨rfl, rfl⟩) | (go_at_call 74; (with_reducible refine (HBR.out).mono ?_); rintro e x3 ⟨rfl, hb3⟩; have HB3 := Lib.hid (HBL.out.trans (hb3.mono HBL.out.size)); clear hb3))
                exact HQ0.out HOF.out _ HB3.out
              · rw [hrs] at HBR HF
                have HOF : Hid (Bm.okB l = true) := Lib.hid (by rw [HF.out]; rfl)
                clear hre HF hrs
                go_wp2_with (first | (go_at_call 78; (with_reducible refine (HD.out).mono ?_); rintro e x2 ⟨rfl, rfl⟩) | (go_at_call 74; (with_reducible refine (HBR.out).mono ?_); rintro e x3 ⟨rfl, hb3⟩; have HB3 := Lib.hid (HBL.out.trans (hb3.mono HBL.out.size)); have HO3 := Lib.hid (HO.out.below hb3); clear hb3))
                exact HQ1.out HOF.out _ acc _ (HO3.out.mono (by have := HB1.out.size; omega)) rfl HB3.out
          · simp only [Bool.not_true, Bool.false_and] at HD HF
            have HOF : Hid (Bm.okB l = false) := Lib.hid (by rw [HF.out])
            go_wp2_with (go_at_call 78; (with_reducible refine (HD.out).mono ?_); rintro e x2 ⟨rfl, rfl⟩)
            exact HQ0.out HOF.out _ HBL.out
          · simp only [Bool.not_true, Bool.false_and] at HD HF
            have HOF : Hid (Bm.okB l = false) := Lib.hid (by rw [HF.out])
            have hd1 : decide ((0 : Int) < (k : Int)) = true := decide_eq_true (by omega)
            go_wp2_with (go_at_call 78; (with_reducible refine (HD.out).mono ?_); rintro e x2 ⟨rfl, rfl⟩)
            exact HQ0.out HOF.out _ HBL.out
    · have HP : Hid (Bm.okB l = false) := Lib.hid (by unfold Bm.okB; rw [decide_eq_false hk]; rfl)
      have HCX : Hid (Calls Try.prog 76 #[.slice A n c] w fun e w' => e = .returned (.tuple #[.slice none 0 0, .bool false]) ∧ Below w.heap.size w w') := Lib.hid (HCUT.out.mono fun e w' h => by
        obtain ⟨⟨k, rfl⟩, h2⟩ := h
        rw [if_neg hk] at h2
        exact ⟨h2, below_draw3 w k⟩)
      clear hn hb hk HCUT
      go_enter Try.func49, Try.ntmps49
      go_wp2_with fail
      refine HCX.out.mono ?_
      rintro e w1 ⟨rfl, hb1⟩
      have HB1 := Lib.hid hb1
      clear hb1
      go_wp2_with fail
      exact HQ0.out HP.out _ HB1.out
  refine ⟨fun h => key _ (fun _ w' hb' => ⟨rfl, hb'⟩) (fun h2 => by rw [h] at h2; cases h2), fun h => key _ (fun h2 => by rw [h] at h2; cases h2) (fun _ v l' w' ho hm hb' => ⟨v, l', rfl, ho, hm, hb'⟩)⟩
end Go.Proofs.Ythkclgkbidhmbaa
