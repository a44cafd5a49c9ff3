/- edges.firsts: where the first right span of each name is. -/
import Derived.Test.YtobgnendfnmnpaaVk
import Derived.Test.YtobgnendfnmnpaaRi
import Derived.BigQuiet
import Derived.Deep.Cut
namespace Go.Proofs.Ytobgnendfnmnpaa
open Go.RowKit Go.Maps
set_option linter.unusedVariables false
set_option linter.unusedSimpArgs false
set_option maxRecDepth 100000

def nmOf (s : Sp) : Nm := (s.hi, s.lo, s.id)
/-- Where the first right span of a name is. -/
def fstN (l : List Sp) (u : Nm) : Option Nat := l.findIdx? (fun s => right s && decide (nmOf s = u))
theorem fst_step (l : List Ls) (k : Nat) (x : Ls) (hx : l[k]? = some x) :
    (((fstN ((l.take k).map Ls.s) (nmOf x.s)).isSome = true ∨ right x.s = false) → fstN ((l.take (k + 1)).map Ls.s) = fstN ((l.take k).map Ls.s)) ∧
      ((fstN ((l.take k).map Ls.s) (nmOf x.s)).isSome = false → right x.s = true → fstN ((l.take (k + 1)).map Ls.s) = fun u => if u = nmOf x.s then some k else fstN ((l.take k).map Ls.s) u) := by
  have hk := (List.getElem?_eq_some_iff.1 hx).1
  have e : (l.take (k + 1)).map Ls.s = (l.take k).map Ls.s ++ [x.s] := by rw [List.take_add_one, hx, List.map_append]; rfl
  have hl : ((l.take k).map Ls.s).length = k := by rw [List.length_map, List.length_take]; omega
  rw [e]
  have h0 : ∀ u, fstN ((l.take k).map Ls.s ++ [x.s]) u = (fstN ((l.take k).map Ls.s) u).or (if right x.s = true ∧ nmOf x.s = u then some k else none) := by
    intro u
    unfold fstN
    rw [List.findIdx?_append, hl]
    congr 1
    by_cases h : right x.s = true ∧ nmOf x.s = u
    · rw [if_pos h]
      simp [List.findIdx?_cons, h.1, h.2]
    · rw [if_neg h]
      simp [List.findIdx?_cons]
      intro a b; exact absurd ⟨a, b⟩ h
  constructor
  · rintro (h | h)
    · funext u
      rw [h0]
      by_cases hu : nmOf x.s = u
      · subst hu
        cases hf : fstN ((l.take k).map Ls.s) (nmOf x.s)
        · rw [hf] at h; cases h
        · rfl
      · rw [if_neg (fun h => hu h.2)]; simp
    · funext u
      rw [h0, if_neg (by rw [h]; simp)]; simp
  · intro h hr
    funext u
    rw [h0]
    by_cases hu : u = nmOf x.s
    · subst hu
      rw [if_pos rfl, if_pos ⟨hr, rfl⟩]
      cases hf : fstN ((l.take k).map Ls.s) (nmOf x.s)
      · rfl
      · rw [hf] at h; cases h
    · rw [if_neg hu, if_neg (fun h => hu h.2.symm)]; simp
set_option maxHeartbeats 16000000 in
theorem firsts_any (A : Option Addr) (n c : Nat) (l : List Ls) (B : Nat) (w : World) (hn : n = l.length) (hy : RdSps w B A l) (hB : B ≤ w.heap.size) (hsm : n ≤ 1000000) :
    Calls Try.prog 10 #[.slice A n c] w fun e w' => ∃ (g nn : Nat), e = .returned (.map (some g)) ∧ nn ≤ n ∧ w.heap.size ≤ g ∧ Below w.heap.size w w' ∧ MapNm w' g nn (fstN (l.map Ls.s)) := by
  have HY := Lib.hid hy
  have HN := Lib.hid hn
  clear hy hn
  have hmm := @run_makeMap Try.prog
  go_enter Try.func10, Try.ntmps10
  go_wp2
  have hM0 := MapNm.made w
  have HB0 := Lib.hid ((Below.refl w.heap.size w).alloc (Nat.le_refl _) (.map #[] 0))
  obtain ⟨g, hg⟩ : ∃ g, g = w.heap.size := ⟨_, rfl⟩
  have HG := Lib.hid hg
  rw [← hg] at hM0 ⊢
  clear hg
  go_loopw [12] (fun i wr => ∃ (k nn : Nat), k ≤ n ∧ i = .int .i64 k ∧ nn ≤ k ∧ Hid (MapNm wr g nn (fstN ((l.take k).map Ls.s))) ∧ Hid (Below w.heap.size w wr)) (fun i _ => n - (intOf i).toNat)
  case atStart => exact ⟨0, 0, Nat.zero_le _, rfl, Nat.le_refl _, Lib.hid hM0, HB0⟩
  case round =>
    obtain ⟨k, nn, hk, rfl, hnk, HM, HB⟩ := hrel
    have hws := HB.out.size
    by_cases hlt : k < n
    · obtain ⟨x, hx⟩ : ∃ x, l[k]? = some x := ⟨l[k]'(by rw [← HN.out]; exact hlt), List.getElem?_eq_getElem _⟩
      have HR := Lib.hid ((HY.out.below (HB.out.mono hB)))
      obtain ⟨b, rfl, hbb, hd, hxl⟩ := HR.out.at_ hx
      have HST := Lib.hid (fst_step l k x hx)
      have hxs : l[k]? = some x := hx
      obtain ⟨⟨x0, x1, x2, x3, x4, x5, x6, x7, x8, ats⟩, xA, xc⟩ := x
      obtain ⟨m, hm⟩ : ∃ m, m = ats.length := ⟨_, rfl⟩
      have d0 := hd 0 _ rfl
      have d1 := cell_far (hd 1 _ rfl) (by omega)
      have d2 := cell_far (hd 2 _ rfl) (by omega)
      have d3 := cell_far (hd 3 _ rfl) (by omega)
      have d4 := cell_far (hd 4 _ rfl) (by omega)
      have d5 := cell_far (hd 5 _ rfl) (by omega)
      have d6 := cell_far (hd 6 _ rfl) (by omega)
      have d7 := cell_far (hd 7 _ rfl) (by omega)
      have d8 := cell_far (hd 8 _ rfl) (by omega)
      have d9 : wr.cell? ⟨(b.add (k * 10)).block, (b.add (k * 10)).off + 9, none⟩ = some (.slice xA m xc) := by rw [hm]; exact cell_far (hd 9 _ rfl) (by omega)
      simp only [Nat.add_zero] at d0
      simp only at d1 d2 d3 d4 d5 d6 d7 d8
      have HMM := Lib.hid hm
      have HXL := Lib.hid hxl
      have HOK : Hid (Nm.ok (x0, x1, x2)) := Lib.hid ⟨hxl.ok.hi, hxl.ok.lo, hxl.ok.id⟩
      have i1 : (k : Int) < (n : Int) := by omega
      have i0 : (0 : Int) ≤ (k : Int) := by omega
      clear hd hx hxs hm hxl
      go_upto_region 6 with fail
      have hq5 := heap_alloc_new wr (.cells #[.int .u64 x0, .int .u64 x1, .int .u64 x2, .int .u64 x3, .string x4, .string x5, .int .i64 x6, .int .i64 x7, .bool x8, .slice xA m xc] 33)
      have hq5 := (Below.heap_alloc (wr.alloc (.cells #[.int .u64 x0, .int .u64 x1, .int .u64 x2, .int .u64 x3, .string x4, .string x5, .int .i64 x6, .int .i64 x7, .bool x8, .slice xA m xc] 33)) (.cells #[.int .u64 x0, .int .u64 x1, .int .u64 x2] 47) wr.heap.size (by simp)).trans hq5
      have hqn := heap_alloc_new (wr.alloc (.cells #[.int .u64 x0, .int .u64 x1, .int .u64 x2, .int .u64 x3, .string x4, .string x5, .int .i64 x6, .int .i64 x7, .bool x8, .slice xA m xc] 33)) (.cells #[.int .u64 x0, .int .u64 x1, .int .u64 x2] 47)
      have hsz : (wr.alloc (.cells #[.int .u64 x0, .int .u64 x1, .int .u64 x2, .int .u64 x3, .string x4, .string x5, .int .i64 x6, .int .i64 x7, .bool x8, .slice xA m xc] 33)).heap.size = wr.heap.size + 1 := by simp
      have hsz2 : ((wr.alloc (.cells #[.int .u64 x0, .int .u64 x1, .int .u64 x2, .int .u64 x3, .string x4, .string x5, .int .i64 x6, .int .i64 x7, .bool x8, .slice xA m xc] 33)).alloc (.cells #[.int .u64 x0, .int .u64 x1, .int .u64 x2] 47)).heap.size = wr.heap.size + 1 + 1 := by simp
      have hA1 := (((Below.refl wr.heap.size wr).alloc (Nat.le_refl _) (.cells #[.int .u64 x0, .int .u64 x1, .int .u64 x2, .int .u64 x3, .string x4, .string x5, .int .i64 x6, .int .i64 x7, .bool x8, .slice xA m xc] 33)).alloc (by simp) (.cells #[.int .u64 x0, .int .u64 x1, .int .u64 x2] 47))
      have HM5 : Hid (MapNm ((wr.alloc (.cells #[.int .u64 x0, .int .u64 x1, .int .u64 x2, .int .u64 x3, .string x4, .string x5, .int .i64 x6, .int .i64 x7, .bool x8, .slice xA m xc] 33)).alloc (.cells #[.int .u64 x0, .int .u64 x1, .int .u64 x2] 47)) g nn (fstN ((l.take k).map Ls.s))) := Lib.hid (HM.out.block (hA1.block g HM.out.lt))
      have HB5 : Hid (Below w.heap.size w ((wr.alloc (.cells #[.int .u64 x0, .int .u64 x1, .int .u64 x2, .int .u64 x3, .string x4, .string x5, .int .i64 x6, .int .i64 x7, .bool x8, .slice xA m xc] 33)).alloc (.cells #[.int .u64 x0, .int .u64 x1, .int .u64 x2] 47))) := Lib.hid (HB.out.trans (hA1.mono hws))
      have hgx : g < wr.heap.size := HM.out.lt
      have HX5 : Hid (RdL ((wr.alloc (.cells #[.int .u64 x0, .int .u64 x1, .int .u64 x2, .int .u64 x3, .string x4, .string x5, .int .i64 x6, .int .i64 x7, .bool x8, .slice xA m xc] 33)).alloc (.cells #[.int .u64 x0, .int .u64 x1, .int .u64 x2] 47)) B ⟨⟨x0, x1, x2, x3, x4, x5, x6, x7, x8, ats⟩, xA, xc⟩) := Lib.hid (HXL.out.below (hA1.mono (Nat.le_trans hB hws)))
      rw [hsz] at hqn
      clear d0 d1 d2 d3 d4 d5 d6 d7 d8 d9 hA1 hsz
      try rw [show (wr.alloc (.cells #[.int .u64 x0, .int .u64 x1, .int .u64 x2, .int .u64 x3, .string x4, .string x5, .int .i64 x6, .int .i64 x7, .bool x8, .slice xA m xc] 33)).heap.size = wr.heap.size + 1 from by simp]
      generalize (wr.alloc (.cells #[.int .u64 x0, .int .u64 x1, .int .u64 x2, .int .u64 x3, .string x4, .string x5, .int .i64 x6, .int .i64 x7, .bool x8, .slice xA m xc] 33)).alloc (.cells #[.int .u64 x0, .int .u64 x1, .int .u64 x2] 47) = w5 at *
      obtain ⟨gn, hgn⟩ : ∃ gn, gn = wr.heap.size + 1 := ⟨_, rfl⟩
      rw [← hgn] at hqn ⊢
      have HNQ := Lib.hid hqn
      have q0 : w5.cell? ⟨wr.heap.size, 0, none⟩ = some (.int .u64 x0) := cell_of_row _ _ 0 _ _ (0, 0) hq5
      have q1 : w5.cell? ⟨wr.heap.size, 1, none⟩ = some (.int .u64 x1) := cell_of_row _ _ 1 _ _ (0, 0) hq5
      have q2 : w5.cell? ⟨wr.heap.size, 2, none⟩ = some (.int .u64 x2) := cell_of_row _ _ 2 _ _ (0, 0) hq5
      have q3 : w5.cell? ⟨wr.heap.size, 3, none⟩ = some (.int .u64 x3) := cell_of_row _ _ 3 _ _ (0, 0) hq5
      have q4 : w5.cell? ⟨wr.heap.size, 4, none⟩ = some (.string x4) := cell_of_row _ _ 4 _ _ (0, 0) hq5
      have q5 : w5.cell? ⟨wr.heap.size, 5, none⟩ = some (.string x5) := cell_of_row _ _ 5 _ _ (0, 0) hq5
      have q6 : w5.cell? ⟨wr.heap.size, 6, none⟩ = some (.int .i64 x6) := cell_of_row _ _ 6 _ _ (0, 0) hq5
      have q7 : w5.cell? ⟨wr.heap.size, 7, none⟩ = some (.int .i64 x7) := cell_of_row _ _ 7 _ _ (0, 0) hq5
      have q8 : w5.cell? ⟨wr.heap.size, 8, none⟩ = some (.bool x8) := cell_of_row _ _ 8 _ _ (0, 0) hq5
      have q9 : w5.cell? ⟨wr.heap.size, 9, none⟩ = some (.slice xA m xc) := cell_of_row _ _ 9 _ _ (0, 0) hq5
      have n0 : w5.cell? ⟨gn, 0, none⟩ = some (.int .u64 x0) := cell_of_row _ _ 0 _ _ (0, 0) hqn
      have n1 : w5.cell? ⟨gn, 1, none⟩ = some (.int .u64 x1) := cell_of_row _ _ 1 _ _ (0, 0) hqn
      have n2 : w5.cell? ⟨gn, 2, none⟩ = some (.int .u64 x2) := cell_of_row _ _ 2 _ _ (0, 0) hqn
      generalize wr.heap.size = gx at *
      have hg5 : gn < w5.heap.size := by omega
      have hgm : g < w5.heap.size := by omega
      have hB5 : B ≤ w5.heap.size := Nat.le_trans hB HB5.out.size
      have RIC := Lib.hid (right_lit x0 x1 x2 x3 x4 x5 x6 x7 x8 ats xA xc m B w5 HMM.out HX5.out hB5)
      have hnk2 : nn ≤ 2000000 := by omega
      have hkk2 : k ≤ 2000000 := by omega
      clear hq5 hqn HB HM hgn hsz2 HR
      cases dm : (fstN ((l.take k).map Ls.s) (x0, x1, x2)).isSome
      · cases dr : right ⟨x0, x1, x2, x3, x4, x5, x6, x7, x8, ats⟩
        · have HS2 : Hid (fstN ((l.take (k + 1)).map Ls.s) = fstN ((l.take k).map Ls.s)) := Lib.hid (HST.out.1 (Or.inr dr))
          rw [dr] at RIC
          go_wp2_with (first
            | (at_lookup; refine wpList_nm HM5.out HOK.out rfl (.tmp 23) (.tmp 24) rfl rfl rfl ?_; intro cc hcc; rw [dm]; clear hcc)
            | (go_at_call 11; (with_reducible refine (RIC.out).mono ?_); rintro ex w6 ⟨rfl, hb6⟩; have HB6 := Lib.hid hb6; have hq6 := (hb6.block gn (by omega)).trans HNQ.out; have e0 : w6.cell? ⟨gn, 0, none⟩ = some (.int .u64 x0) := cell_of_row _ _ 0 _ _ (0, 0) hq6; have e1 : w6.cell? ⟨gn, 1, none⟩ = some (.int .u64 x1) := cell_of_row _ _ 1 _ _ (0, 0) hq6; have e2 : w6.cell? ⟨gn, 2, none⟩ = some (.int .u64 x2) := cell_of_row _ _ 2 _ _ (0, 0) hq6; clear hb6 hq6))
          have HM7 : Hid (MapNm w6 g nn (fstN ((l.take (k + 1)).map Ls.s))) := Lib.hid (by rw [HS2.out]; exact HM5.out.block (HB6.out.block g (by omega)))
          have HB7 : Hid (Below w.heap.size w w6) := Lib.hid (HB5.out.trans (HB6.out.mono HB5.out.size))
          go_roundw
          case rel => exact ⟨k + 1, nn, by omega, by go_num, by omega, HM7, HB7⟩
          case measure => simp [intOf]; omega
        · have HS2 : Hid (fstN ((l.take (k + 1)).map Ls.s) = fun u => if u = (x0, x1, x2) then some k else fstN ((l.take k).map Ls.s) u) := Lib.hid (HST.out.2 dm dr)
          rw [dr] at RIC
          go_wp2_with (first
            | (at_lookup; refine wpList_nm HM5.out HOK.out rfl (.tmp 23) (.tmp 24) rfl rfl rfl ?_; intro cc hcc; rw [dm]; clear hcc)
            | (go_at_call 11; (with_reducible refine (RIC.out).mono ?_); rintro ex w6 ⟨rfl, hb6⟩; have HB6 := Lib.hid hb6; have hq6 := (hb6.block gn (by omega)).trans HNQ.out; have e0 : w6.cell? ⟨gn, 0, none⟩ = some (.int .u64 x0) := cell_of_row _ _ 0 _ _ (0, 0) hq6; have e1 : w6.cell? ⟨gn, 1, none⟩ = some (.int .u64 x1) := cell_of_row _ _ 1 _ _ (0, 0) hq6; have e2 : w6.cell? ⟨gn, 2, none⟩ = some (.int .u64 x2) := cell_of_row _ _ 2 _ _ (0, 0) hq6; have HM6 := Lib.hid (HM5.out.block (hb6.block g (by omega))); clear hb6 hq6)
            | (at_mapUpdate; refine wpList_nm_put HM6.out HOK.out hnk2 hkk2 rfl (.tmp 34) (.tmp 35) (.tmp 36) rfl rfl rfl rfl ?_; intro w7 hm7 hg7; have HM7 := Lib.hid hm7; have HG7 := Lib.hid hg7; clear hm7 hg7))
          have HM8 : Hid (MapNm w7 g (nn + 1) (fstN ((l.take (k + 1)).map Ls.s))) := Lib.hid (by rw [HS2.out]; exact HM7.out)
          have HB8 : Hid (Below w.heap.size w w7) := Lib.hid ((HB5.out.trans (HB6.out.mono HB5.out.size)).grown HG7.out (Nat.le_trans HB5.out.size HB6.out.size) (fun j hj => by cases hj; exact Nat.le_of_eq HG.out.symm))
          go_roundw
          case rel => exact ⟨k + 1, nn + 1, by omega, by go_num, by omega, HM8, HB8⟩
          case measure => simp [intOf]; omega
      · have HS2 : Hid (fstN ((l.take (k + 1)).map Ls.s) = fstN ((l.take k).map Ls.s)) := Lib.hid (HST.out.1 (Or.inl dm))
        have HM7 : Hid (MapNm w5 g nn (fstN ((l.take (k + 1)).map Ls.s))) := Lib.hid (by rw [HS2.out]; exact HM5.out)
        go_wp2_with (at_lookup; refine wpList_nm HM5.out HOK.out rfl (.tmp 23) (.tmp 24) rfl rfl rfl ?_; intro cc hcc; rw [dm]; clear hcc)
        go_roundw
        case rel => exact ⟨k + 1, nn, by omega, by go_num, by omega, HM7, HB5⟩
        case measure => simp [intOf]; omega
    · obtain rfl : k = n := by omega
      have HTK : Hid (l.take k = l) := Lib.hid (List.take_of_length_le (by rw [← HN.out]; exact Nat.le_refl _))
      go_wp2_with fail
      go_ret
      exact ⟨_, _, rfl, hnk, Nat.le_of_eq HG.out.symm, HB.out, by have := HM.out; rwa [HTK.out] at this⟩
end Go.Proofs.Ytobgnendfnmnpaa
