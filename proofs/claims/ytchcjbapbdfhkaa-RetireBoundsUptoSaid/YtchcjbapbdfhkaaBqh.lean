/- retire.Choose. -/
import Derived.Test.YtchcjbapbdfhkaaBqg
namespace Go.Proofs.Ytchcjbapbdfhkaa
open Go.RowKit Go.Maps
set_option linter.unusedVariables false
set_option linter.unusedSimpArgs false
set_option maxRecDepth 100000

def lenV : Value → Nat
  | .slice _ n _ => n
  | _ => 0
/-- Rows of one's own of two types are never one block. -/
theorem own_keepT {w w' : World} {b1 b2 e1 e2 z1 z2 n1 n2 : Nat} {u u' v : Value} {xs ys : List Value} (h : w.ownsRow b1 e1 z1 v n1 xs) (hu : w.ownsRow b2 e2 z2 u n2 ys) (hne : e2 ≠ e1) (hg : Grew w w' u u') : w'.ownsRow b1 e1 z1 v n1 xs := by
  refine own_grew h hg ?_
  rcases hu.2 with ⟨rfl, _⟩ | ⟨g, cap, cur, rfl, _, hgg, _⟩
  · exact .inl rfl
  · exact .inr (own_not h hgg hne)
def ChooseOf (R : List Int) (w : World) (e : Ending) (w' : World) : Prop := ∃ v, e = .returned v ∧ w'.ownsRow w.heap.size 3 1 v (R).length ((R).map (Value.int .i64)) ∧ Below w.heap.size w w'
set_option maxHeartbeats 32000000 in
theorem choose_any (A : Option Addr) (n c B : Nat) (l : List Bl) (now keep budget : Int) (w : World) (hn : n = l.length) (hy : RdBls w B A l) (hB : B ≤ w.heap.size) (hl : n ≤ 1000) (hs : ∀ x ∈ l, x.l.length ≤ 120 ∧ ∀ e ∈ x.l, e.l.length ≤ 60) (hok : ∀ x ∈ l, x.ok) (hnow : -9223372036854775808 ≤ now ∧ now ≤ 9223372036854775807) :
    Calls Try.prog 42 #[.slice A n c, .int .i64 now, .int .i64 keep, .int .i64 budget] w (ChooseOf (choose l now keep budget) w) := by
  have HN := Lib.hid hn
  have HY := Lib.hid hy
  have HS := Lib.hid hs
  have HK := Lib.hid hok
  have HNW := Lib.hid hnow
  have HGL := Lib.hid (gone_len now keep l)
  obtain ⟨R, hR⟩ : ∃ R, R = choose l now keep budget := ⟨_, rfl⟩
  have HR := Lib.hid hR
  rw [← hR]
  clear hn hy hs hok hnow hR
  go_enter Try.func42, Try.ntmps42
  go_wp2_with fail
  go_loopw [18, 9, 10, 11] (fun iv gv ov tv wr => ∃ k t : Nat, iv = .int .i64 (k : Int) ∧ tv = .int .i64 (t : Int) ∧ k ≤ n ∧ Hid (t = totH (othL now keep (l.take k))) ∧ Hid (t ≤ 3000004 * k) ∧ Hid (wr.ownsRow w.heap.size 3 1 gv (goneL now keep (l.take k)).length ((goneL now keep (l.take k)).map (Value.int .i64))) ∧ Hid (wr.ownsRow w.heap.size 112 3 ov (othL now keep (l.take k)).length ((othL now keep (l.take k)).flatMap Hd.cells)) ∧ Hid (Below w.heap.size w wr)) (fun iv _ _ _ _ => n - (intOf iv).toNat)
  case atStart => exact ⟨0, 0, rfl, rfl, Nat.zero_le _, Lib.hid (by simp [othL, totH]), Lib.hid (Nat.zero_le _), Lib.hid (World.ownsRow_nil _ _ _ _), Lib.hid (World.ownsRow_nil _ _ _ _), Lib.hid (Below.refl _ _)⟩
  case round =>
    obtain ⟨k, t, rfl, rfl, hk, HT, HTB, HG, HO, HB⟩ := hrel
    have hws := HB.out.size
    have hgl := gone_len now keep (l.take k)
    have htl : (l.take k).length ≤ k := by rw [List.length_take]; omega
    by_cases hlt : k < n
    · obtain ⟨x, hx⟩ : ∃ x, l[k]? = some x := ⟨_, List.getElem?_eq_getElem (by rw [← HN.out]; exact hlt)⟩
      have hR := HY.out.below (HB.out.mono hB)
      have hsx := HS.out x (List.mem_of_getElem? hx)
      have hkx := HK.out x (List.mem_of_getElem? hx)
      have hbl := bkBytes_len (nu := x.nu) (bo := x.bo) (ti := x.ti) (l := x.l.map Le.ep) (by rw [List.length_map]; exact hsx.1) (fun e he => by
        obtain ⟨y, hy, rfl⟩ := List.mem_map.1 he
        show (y.l.map Ls.s).length ≤ 60
        rw [List.length_map]
        exact hsx.2 y hy)
      have hnot := fun h => gone_not (now := now) (keep := keep) hx h
      have hold := fun h => gone_old (now := now) (keep := keep) hx h
      obtain ⟨nu, bo, ti, es, eA, ec⟩ := x
      obtain ⟨m, hm⟩ : ∃ m, m = es.length := ⟨_, rfl⟩
      obtain ⟨a, ha, hab, c0, c1, c2, c3, hre⟩ := blcells hR hx m hm
      subst ha
      obtain ⟨sz, hsz⟩ : ∃ sz, sz = (bkBytes nu bo ti (es.map Le.ep)).length := ⟨_, rfl⟩
      have hszb : sz ≤ 3000004 := by rw [hsz]; exact hbl
      have HSZ : Hid ((Bl.mk nu bo ti es eA ec).hd = ⟨nu, bo, sz⟩) := Lib.hid (by unfold Bl.hd Bl.bytes; rw [hsz])
      have LEC := Lib.hid (fun W => lessR_any now bo W HNW.out hkx.bo)
      have hab2 : (a.add (k * 4)).block < wr.heap.size := by rw [block_add]; omega
      have HBA : Hid (Below wr.heap.size wr (wr.alloc (.cells #[.int .i64 nu, .int .i64 bo, .int .i64 ti, .slice eA m ec] 24))) := Lib.hid ((Below.refl _ _).alloc (Nat.le_refl _) _)
      have HB2 : Hid (Below w.heap.size w (wr.alloc (.cells #[.int .i64 nu, .int .i64 bo, .int .i64 ti, .slice eA m ec] 24))) := Lib.hid (HB.out.alloc hws _)
      have HX2 := Lib.hid (heap_alloc_new wr (.cells #[.int .i64 nu, .int .i64 bo, .int .i64 ti, .slice eA m ec] 24))
      have hz2 : (wr.alloc (.cells #[.int .i64 nu, .int .i64 bo, .int .i64 ti, .slice eA m ec] 24)).heap.size = wr.heap.size + 1 := by simp
      cases ho : tooOld now keep ⟨nu, bo, ti, es, eA, ec⟩
      · have hst := hnot ho
        have d1 : decide (keep < satR now bo) = false := ho
        have SZC := Lib.hid (size_blk nu bo ti eA es m ec B (wr.alloc (.cells #[.int .i64 nu, .int .i64 bo, .int .i64 ti, .slice eA m ec] 24)) hm (hre.below (HBA.out.mono (by omega))) (by rw [hz2]; omega) (by rw [hm]; exact hsx.1) hsx.2 hkx.eps)
        rw [← hsz] at SZC
        rw [HSZ.out] at hst
        have HST := Lib.hid hst
        generalize satR now bo = sv at *
        clear hx hR hsx hkx hbl hnot hold hm hre hsz ho hst
        have HG2 := Lib.hid (own_below HG.out HBA.out)
        have HO2 := Lib.hid (own_below HO.out HBA.out)
        have hol : (othL now keep (l.take k)).length ≤ 1000 := by omega
        have tw1 : IntKind.i64.wrap ((t : Int) + (sz : Int)) = ((t + sz : Nat) : Int) := by have := HTB.out; rw [IntKind.wrap_i64]; omega
        go_wp2_with (first
          | (go_at_call 75; (with_reducible refine (LEC.out _).mono ?_); rintro e w1 ⟨rfl, hw⟩; subst hw)
          | (go_at_call 26; (with_reducible refine SZC.out.mono ?_); rintro e w5 ⟨rfl, hb5⟩; have hX5 := (hb5.block wr.heap.size (by omega)).trans HX2.out; have e0 : w5.cell? ⟨wr.heap.size, 0, none⟩ = some (.int .i64 nu) := cell_of_row _ _ 0 _ _ (0, 0) hX5; have e1 : w5.cell? ⟨wr.heap.size, 1, none⟩ = some (.int .i64 bo) := cell_of_row _ _ 1 _ _ (0, 0) hX5; have HB5 := Lib.hid (HB2.out.trans (hb5.mono HB2.out.size)); have hBL := (Below.refl w5.heap.size w5).alloc (Nat.le_refl _) (.cells #[.int .i64 nu, .int .i64 bo, .int .i64 (sz : Int)] 112); have HBL := Lib.hid hBL; have HG5 := Lib.hid (own_below (own_below HG2.out hb5) hBL); have HO5 := Lib.hid (own_below (own_below HO2.out hb5) hBL); have APO := Lib.hid (fun ty => appQh (ty := ty) HO5.out ⟨nu, bo, sz⟩ (Rd.lit w5 #[.int .i64 nu, .int .i64 bo, .int .i64 (sz : Int)] 112) (by omega) (by have := HB5.out.size; simp; omega)); clear hb5 hX5 hBL)
          | (at_builtin; (refine wpList_app rfl (.tmp 35) (.tmp 42) _ _ rfl rfl rfl (APO.out _) ?_); rintro v9 w9 ⟨ho9, hg9⟩; have HO9 := Lib.hid ho9; have HG9 := Lib.hid (own_keepT HG5.out HO5.out (by decide) hg9); have HB9 := Lib.hid (hg9.below (HB5.out.trans (HBL.out.mono HB5.out.size)) (by have := HB5.out.size; simp; omega) (own_block_ge HO5.out)); clear ho9 hg9))
        go_roundw
        case rel => exact ⟨k + 1, t + sz, by go_num, by go_num, by omega, Lib.hid (by rw [HST.out.2, totH_app, ← HT.out]), Lib.hid (by have := HTB.out; omega), Lib.hid (by rw [HST.out.1]; exact HG9.out), Lib.hid (by rw [HST.out.2]; exact HO9.out), HB9⟩
        case measure => simp [intOf]; omega
      · have hst := hold ho
        have d1 : decide (keep < satR now bo) = true := ho
        have HST := Lib.hid hst
        generalize satR now bo = sv at *
        clear hx hR hsx hkx hbl hnot hold hm hre hsz ho hst
        have hBL := HBA.out.alloc (by omega) (.cells #[.int .i64 nu] 3)
        have HG2 := Lib.hid (own_below HG.out hBL)
        have HO2 := Lib.hid (own_below HO.out hBL)
        have hrd1 := Rd.one (wr.alloc (.cells #[.int .i64 nu, .int .i64 bo, .int .i64 ti, .slice eA m ec] 24)) (.int .i64 nu) 3
        rw [hz2] at hrd1
        have APG := Lib.hid (fun ty => appQi (ty := ty) HG2.out nu hrd1 (by omega) (by simp; omega))
        clear hrd1
        have HB3 := Lib.hid (HB.out.trans (hBL.mono hws))
        clear hBL
        go_wp2_with (first
          | (go_at_call 75; (with_reducible refine (LEC.out _).mono ?_); rintro e w1 ⟨rfl, hw⟩; subst hw)
          | (at_builtin; (refine wpList_app rfl (.tmp 28) (.tmp 31) _ _ rfl rfl rfl (APG.out _) ?_); rintro v9 w9 ⟨ho9, hg9⟩; have HG9 := Lib.hid ho9; have HO9 := Lib.hid (own_keepT HO2.out HG2.out (by decide) hg9); have HB9 := Lib.hid (hg9.below HB3.out (by simp; omega) (own_block_ge HG2.out)); clear ho9 hg9))
        go_roundw
        case rel => exact ⟨k + 1, t, by go_num, rfl, by omega, Lib.hid (by rw [HST.out.2, ← HT.out]), Lib.hid (by have := HTB.out; omega), Lib.hid (by rw [HST.out.1]; exact HG9.out), Lib.hid (by rw [HST.out.2]; exact HO9.out), HB9⟩
        case measure => simp [intOf]; omega
    · obtain rfl : k = n := by omega
      have htk : l.take k = l := List.take_of_length_le (by rw [← HN.out]; exact Nat.le_refl _)
      rw [htk] at HT HG HO hgl
      have HRR : Hid (goneL now keep l ++ letGo budget (othL now keep l).length (othL now keep l) = R) := Lib.hid (by rw [HR.out]; rfl)
      have hgl1 : (goneL now keep l).length + (othL now keep l).length ≤ 2000 := by have := HN.out; omega
      have htb : t ≤ 3000004000 := by have := HTB.out; omega
      clear htk hgl htl
      generalize goneL now keep l = G0 at *
      generalize othL now keep l = O0 at *
      generalize wr = wx at *
      go_wp2_with fail
      go_loopw [9, 10, 11] (fun gv ov tv wr => ∃ (G : List Int) (O : List Hd) (t : Nat), tv = .int .i64 (t : Int) ∧ t ≤ 3000004000 ∧ G.length + O.length ≤ 2000 ∧ lenV ov = O.length ∧ Hid (t = totH O) ∧ Hid (G ++ letGo budget O.length O = R) ∧ Hid (wr.ownsRow w.heap.size 3 1 gv (G).length ((G).map (Value.int .i64))) ∧ Hid (wr.ownsRow w.heap.size 112 3 ov (O).length ((O).flatMap Hd.cells)) ∧ Hid (Below w.heap.size w wr)) (fun _ ov _ _ => lenV ov)
      case atStart =>
        obtain ⟨_, _, h1, _, _⟩ := own_rd HO.out
        exact ⟨G0, O0, t, rfl, htb, hgl1, by rw [h1]; rfl, HT, HRR, HG, HO, HB⟩
      case round =>
        clear HT HTB HG HO HB HRR hgl1 htb
        obtain ⟨G, O, t2, rfl, htb, hgl1, hlv, HT, HRR, HG, HO, HB⟩ := hrel
        have hws := HB.out.size
        obtain ⟨A2, c2, hov, hc2, hrd⟩ := own_rd HO.out
        subst hov
        obtain ⟨q, hq⟩ : ∃ q, q = O.length := ⟨_, rfl⟩
        rw [← hq] at hgl1 hc2 ⊢
        by_cases h1 : budget < (t2 : Int)
        · have d1 : decide (budget < (t2 : Int)) = true := decide_eq_true h1
          by_cases h2 : 1 < q
          · have d2 : decide ((1 : Int) < (q : Int)) = true := decide_eq_true (by omega)
            have d3 : decide (1 < q) = true := decide_eq_true h2
            have hml : minAt O < O.length := mAt_lt O _ (Nat.le_refl _) (by omega)
            obtain ⟨m, hm⟩ : ∃ m, O[minAt O]? = some m := ⟨_, List.getElem?_eq_getElem hml⟩
            have HGO : Hid (letGo budget q O = m.nu :: letGo budget (q - 1) (O.eraseIdx (minAt O))) := Lib.hid (by
              have h := letGo_go (budget := budget) (f := q - 1) (by rw [← HT.out]; exact h1) (by omega) hm
              rwa [show q - 1 + 1 = q by omega] at h)
            have hte := totH_erase O _ m hm
            have hel : (O.eraseIdx (minAt O)).length = q - 1 := by rw [List.length_eraseIdx_of_lt hml, hq]
            obtain ⟨g, hA2, _, hbg, hgl2, _⟩ := own_parts HO.out (by omega)
            subst hA2
            have OLC := Lib.hid (oldest_any (some ⟨g, 0, none⟩) q c2 wr.heap.size O wr hq hrd (Nat.le_refl _) (by omega) (by omega))
            have HO' : Hid (wr.ownsRow w.heap.size 112 3 (.slice (some ⟨g, 0, none⟩) q c2) (O).length ((O).flatMap Hd.cells)) := Lib.hid (by rw [hq]; exact HO.out)
            obtain ⟨p, hp⟩ : ∃ p, p = minAt O := ⟨_, rfl⟩
            rw [← hp] at OLC hm HGO hte hel hml
            have hpq : p < q := by omega
            have CEL : Hid (∀ W : World, W.ownsRow w.heap.size 112 3 (.slice (some ⟨g, 0, none⟩) q c2) (O).length ((O).flatMap Hd.cells) → W.cell? ⟨g, p * 3, none⟩ = some (.int .i64 m.nu) ∧ W.cell? ⟨g, p * 3 + 2, none⟩ = some (.int .i64 (m.sz : Int))) := Lib.hid (fun W hW => by
              have hW' := hW
              rw [← hq] at hW'
              have g0 := flatMap_at Hd.cells 3 rhcells_len O p 0 (by omega)
              have g2 := flatMap_at Hd.cells 3 rhcells_len O p 2 (by omega)
              rw [hm] at g0 g2
              exact ⟨((own_cells hW' (p * 3) (by omega)).2.1).trans g0, ((own_cells hW' (p * 3 + 2) (by omega)).2.1).trans g2⟩)
            obtain ⟨mn, mb, ms⟩ := m
            simp only at HGO hte CEL
            have hadd : ∀ k : Nat, (⟨g, 0, none⟩ : Addr).add k = ⟨g, k, none⟩ := fun k => by rw [Addr.add_lit, Nat.zero_add]
            obtain ⟨t3, ht3⟩ : ∃ t3, t3 = totH (O.eraseIdx p) := ⟨_, rfl⟩
            have ht23 : t2 = ms + t3 := by rw [HT.out, hte, ht3]
            have tw : (t2 : Int) - (ms : Int) = (t3 : Int) := by omega
            have tw1 : IntKind.i64.wrap ((t2 : Int) - (ms : Int)) = (t3 : Int) := by rw [IntKind.wrap_i64]; omega
            have i0 : (0 : Int) ≤ (p : Int) := by omega
            have i1 : (p : Int) < (q : Int) := by omega
            have HT3 := Lib.hid ht3
            have HEL := Lib.hid hel
            have HQ := Lib.hid hq
            have HTW := Lib.hid ht23
            clear hm hte hel hp hml ht3 ht23 hrd hq hlv
            go_wp2_with (first
              | (go_at_call 77; (with_reducible refine DEC.out.mono ?_); rintro e w9 ⟨rfl, ho9, hg9⟩; have HO9 := Lib.hid ho9; have HG9 := Lib.hid (own_keepT HG5.out HO5.out (by decide) hg9); have HB9 := Lib.hid (hg9.below HB5.out (by have := HB5.out.size; omega) (own_block_ge HO5.out)); clear ho9 hg9)
              | (at_builtin; (refine wpList_app rfl (.tmp 58) (.tmp 64) _ _ rfl rfl rfl (APG.out _) ?_); rintro v5 w5 ⟨ho5, hg5⟩; have HG5 := Lib.hid ho5; have HO5 := Lib.hid (own_keepT HO4.out HG4.out (by decide) hg5); have HB5 := Lib.hid (hg5.below HB4.out (by have := HB4.out.size; omega) (own_block_ge HG4.out)); have hce := CEL.out _ HO5.out; have f2 := hce.2; have DEC := Lib.hid (rh_delete g q c2 p w.heap.size O w5 (by have h := HO5.out; rw [← HQ.out] at h; exact h) hpq (by omega)); clear ho5 hg5 hce)
              | (go_at_call 76; (with_reducible refine OLC.out.mono ?_); rintro e w3 ⟨rfl, hb3⟩; have hO3 := own_below HO'.out hb3; have hce := CEL.out _ hO3; have f0 := hce.1; have HB3 := Lib.hid (HB.out.trans (hb3.mono hws)); have hBL := (Below.refl w3.heap.size w3).alloc (Nat.le_refl _) (.cells #[.int .i64 mn] 3); have HO4 := Lib.hid (own_below hO3 hBL); have HG4 := Lib.hid (own_below (own_below HG.out hb3) hBL); have HB4 := Lib.hid (HB3.out.trans (hBL.mono HB3.out.size)); have APG := Lib.hid (fun ty => appQi (ty := ty) HG4.out mn (Rd.one w3 (.int .i64 mn) 3) (by omega) (by have := HB3.out.size; simp; omega)); clear hb3 hO3 hce hBL))
            go_roundw
            case rel => exact ⟨G ++ [mn], O.eraseIdx p, t3, by go_num, by have := HTW.out; omega, by rw [HEL.out, List.length_append]; simp; omega, by rw [HEL.out]; rfl, HT3, Lib.hid (by rw [HEL.out, List.append_assoc, ← HRR.out, ← HQ.out, HGO.out]; rfl), HG9, Lib.hid (by rw [HEL.out]; exact HO9.out), HB9⟩
            case measure => simp [lenV]; omega
          · have d2 : decide ((1 : Int) < (q : Int)) = false := decide_eq_false (by omega)
            have d3 : decide (1 < q) = false := decide_eq_false h2
            have HGS : Hid (letGo budget O.length O = []) := Lib.hid (letGo_stop (by omega))
            clear hrd
            go_wp2_with fail
            go_ret
            exact ⟨_, rfl, by have h := HRR.out; rw [HGS.out, List.append_nil] at h; rw [← h]; exact HG.out, HB.out⟩
        · have d1 : decide (budget < (t2 : Int)) = false := decide_eq_false h1
          have HGS : Hid (letGo budget O.length O = []) := Lib.hid (letGo_stop (by rw [← HT.out]; omega))
          clear hrd
          go_wp2_with fail
          go_ret
          exact ⟨_, rfl, by have h := HRR.out; rw [HGS.out, List.append_nil] at h; rw [← h]; exact HG.out, HB.out⟩
end Go.Proofs.Ytchcjbapbdfhkaa
