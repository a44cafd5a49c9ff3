/- search.all, Find, Count: which traces a query asks for. -/
import Derived.Test.YtmldelgbmadegaaBrf
import Derived.Test.YtmldelgbmadegaaBrg
import Derived.Test.YtmldelgbmadegaaCe
import Derived.Test.YtmldelgbmadegaaFe
namespace Go.Proofs.Ytmldelgbmadegaa
open Go.RowKit
set_option linter.unusedVariables false
set_option linter.unusedSimpArgs false
set_option maxRecDepth 100000

/-- The blocks are few enough for machines. -/
structure SmallBls (l : List Bl) : Prop where
  len : l.length ≤ 100000
  eps : (l.flatMap Bl.l).length ≤ 100000
  spans : ∀ x ∈ l, ∀ e ∈ x.l, e.l.length ≤ 100000 ∧ ∀ y ∈ e.l, y.s.ats.length ≤ 100000
def Qm.hitsE (q : Qm) (es : List Le) : List Tc := (es.filter q.hit).map trE
theorem hitsE_snoc (q : Qm) (es : List Le) (e : Le) : q.hitsE (es ++ [e]) = q.hitsE es ++ (if q.hit e = true then [trE e] else []) := by
  unfold Qm.hitsE
  rw [List.filter_append, List.map_append]
  congr 1
  by_cases h : q.hit e = true
  · rw [if_pos h, List.filter_cons_of_pos h]; rfl
  · rw [if_neg h, List.filter_cons_of_neg h]; rfl
theorem hitsE_len (q : Qm) (es : List Le) : (q.hitsE es).length ≤ es.length := by unfold Qm.hitsE; rw [List.length_map]; exact List.length_filter_le _ _
def epsTo (l : List Bl) (k : Nat) : List Le := (l.take k).flatMap Bl.l
theorem epsTo_step {l : List Bl} {k : Nat} {x : Bl} (h : l[k]? = some x) : epsTo l (k + 1) = epsTo l k ++ x.l := by
  unfold epsTo
  rw [List.take_add_one, h, List.flatMap_append]
  simp
theorem epsTo_len (l : List Bl) (k : Nat) : (epsTo l k).length ≤ (l.flatMap Bl.l).length := by
  unfold epsTo
  have h : l = l.take k ++ l.drop k := (List.take_append_drop k l).symm
  have h2 : (l.flatMap Bl.l).length = ((l.take k).flatMap Bl.l).length + ((l.drop k).flatMap Bl.l).length := by rw [← List.length_append, ← List.flatMap_append, ← h]
  omega
def AllOf (R : List Tc) (W : World) (e : Ending) (w' : World) : Prop := ∃ v, e = .returned v ∧ w'.ownsRow W.heap.size 28 2 v R.length (R.flatMap trC) ∧ Below W.heap.size W w'
set_option maxHeartbeats 16000000 in
theorem all_lit (sv op ky vl : ByteArray) (du : Int) (er : Bool) (A : Option Addr) (l : List Bl) (n c B : Nat) (W : World) (hn : n = l.length) (hy : RdBls W B A l) (hB : B ≤ W.heap.size) (hsm : SmallBls l) :
    Calls Try.prog 83 #[.slice A n c, .agg #[.string sv, .string op, .string ky, .string vl, .int .i64 du, .bool er]] W (AllOf (Qm.all ⟨sv, op, ky, vl, du, er⟩ l) W) := by
  have hb1 := (Below.refl W.heap.size W).alloc (Nat.le_refl _) (.cells #[.string sv, .string op, .string ky, .string vl, .int .i64 du, .bool er] 68)
  have hq1 := heap_alloc_new W (.cells #[.string sv, .string op, .string ky, .string vl, .int .i64 du, .bool er] 68)
  have hz1 : (W.alloc (.cells #[.string sv, .string op, .string ky, .string vl, .int .i64 du, .bool er] 68)).heap.size = W.heap.size + 1 := by simp
  obtain ⟨q, hq⟩ : ∃ q : Qm, q = ⟨sv, op, ky, vl, du, er⟩ := ⟨_, rfl⟩
  rw [← hq]
  have HQ1 : Hid ((W.alloc (.cells #[.string sv, .string op, .string ky, .string vl, .int .i64 du, .bool er] 68)).heap[W.heap.size]? = some (.cells q.cells.toArray 68)) := Lib.hid (by rw [hq]; exact hq1)
  have HN := Lib.hid hn
  have HY := Lib.hid (hy.below (hb1.mono hB))
  have HB1 := Lib.hid hb1
  have HZ1 := Lib.hid hz1
  have HSM := Lib.hid hsm
  have HAL : Hid (q.all l = setC (q.hitsE (epsTo l n))) := Lib.hid (by unfold epsTo; rw [List.take_of_length_le (by rw [hn]; exact Nat.le_refl _)]; rfl)
  generalize q.all l = R at *
  have hnl : n ≤ 100000 := by rw [hn]; exact hsm.len
  have hBz : B ≤ (W.alloc (.cells #[.string sv, .string op, .string ky, .string vl, .int .i64 du, .bool er] 68)).heap.size := by rw [hz1]; omega
  clear hb1 hq1 hz1 hq hn hy hsm
  go_enter Try.func83, Try.ntmps83
  go_wp2_with fail
  generalize W.alloc (.cells #[.string sv, .string op, .string ky, .string vl, .int .i64 du, .bool er] 68) = W1 at *
  go_loopw [5, 12] (fun v i wr => ∃ k : Nat, i = .int .i64 k ∧ k ≤ n ∧ Hid (wr.ownsRow W1.heap.size 28 2 v (q.hitsE (epsTo l k)).length ((q.hitsE (epsTo l k)).flatMap trC)) ∧ Hid (Below W1.heap.size W1 wr)) (fun _ i _ => n - (intOf i).toNat)
  case atStart => exact ⟨0, rfl, Nat.zero_le _, Lib.hid (World.ownsRow_nil _ _ _ _), Lib.hid (Below.refl _ _)⟩
  case round =>
    obtain ⟨k, rfl, hk, HO, HB⟩ := hrel
    by_cases hlt : k < n
    · obtain ⟨x, hx⟩ : ∃ x, l[k]? = some x := ⟨_, List.getElem?_eq_getElem (by rw [← HN.out]; exact hlt)⟩
      have hR := HY.out.below (HB.out.mono hBz)
      have hst := epsTo_step hx
      have hel := epsTo_len l (k + 1)
      have hsp := HSM.out.spans x (List.mem_of_getElem? hx)
      have hes := HSM.out.eps
      obtain ⟨nu, bo, ti, es, eA, ec⟩ := x
      obtain ⟨m, hm⟩ : ∃ m, m = es.length := ⟨_, rfl⟩
      obtain ⟨a, ha, hab, c0, c1, c2, c3, hre⟩ := blcells hR hx m hm
      subst ha
      simp only at hsp hst
      rw [hst, List.length_append, ← hm] at hel
      have hm5 : m ≤ 100000 := by omega
      have hcnt : (epsTo l k).length + m ≤ 100000 := by omega
      have HCNT := Lib.hid hcnt
      have HST := Lib.hid hst
      have HSP := Lib.hid hsp
      have HM := Lib.hid hm
      have hba := (Below.refl wr.heap.size wr).alloc (Nat.le_refl _) (.cells #[.int .i64 nu, .int .i64 bo, .int .i64 ti, .slice eA m ec] 24)
      have HBK := Lib.hid (HB.out.trans (hba.mono HB.out.size))
      have HRE := Lib.hid (hre.below (hba.mono (Nat.le_trans hBz HB.out.size)))
      have HOK := Lib.hid (own_below HO.out hba)
      have HLX := Lib.hid hx
      clear hx hR hst hel hsp hes hre hm hba hcnt
      go_wp2_with fail
      generalize wr.alloc (.cells #[.int .i64 nu, .int .i64 bo, .int .i64 ti, .slice eA m ec] 24) = wk at *
      go_loopw [5, 19] (fun v i wr => ∃ j : Nat, i = .int .i64 j ∧ j ≤ m ∧ Hid (wr.ownsRow W1.heap.size 28 2 v (q.hitsE (epsTo l k ++ es.take j)).length ((q.hitsE (epsTo l k ++ es.take j)).flatMap trC)) ∧ Hid (Below W1.heap.size W1 wr)) (fun _ i _ => m - (intOf i).toNat)
      case atStart => exact ⟨0, rfl, Nat.zero_le _, Lib.hid (by rw [List.take_zero, List.append_nil]; exact HOK.out), HBK⟩
      case round =>
        obtain ⟨j, rfl, hj, HOj, HBj⟩ := hrel
        by_cases hlt2 : j < m
        · obtain ⟨e, he⟩ : ∃ e, es[j]? = some e := ⟨_, List.getElem?_eq_getElem (by rw [← HM.out]; exact hlt2)⟩
          have hRj : RdEps wr B eA es := (HY.out.below (HBj.out.mono hBz)).each _ (List.mem_of_getElem? HLX.out)
          have hse := HSP.out e (List.mem_of_getElem? he)
          have hhit : q.hitsE (epsTo l k ++ es.take (j + 1)) = q.hitsE (epsTo l k ++ es.take j) ++ (if q.hit e = true then [trE e] else []) := by rw [← hitsE_snoc, List.append_assoc, List.take_add_one, he]; rfl
          obtain ⟨hq, hhq⟩ : ∃ b, q.hit e = b := ⟨_, rfl⟩
          rw [hhq] at hhit
          have hlen : (q.hitsE (epsTo l k ++ es.take j)).length ≤ 1000000 := by
            have h1 := hitsE_len q (epsTo l k ++ es.take j)
            rw [List.length_append, List.length_take] at h1
            have h2 := HCNT.out
            omega
          obtain ⟨th, tl, f, la, su, ls, sA, sc⟩ := e
          obtain ⟨sn, hsn⟩ : ∃ z, z = ls.length := ⟨_, rfl⟩
          obtain ⟨ae, hae, haeb, g0, g1, g2, g3, g4, g5, hrs⟩ := epcells hRj he sn hsn
          subst hae
          have hbe := (Below.refl wr.heap.size wr).alloc (Nat.le_refl _) (.cells #[.int .u64 th, .int .u64 tl, .int .i64 f, .int .i64 la, .bool su, .slice sA sn sc] 48)
          have hbx := heap_alloc_new wr (.cells #[.int .u64 th, .int .u64 tl, .int .i64 f, .int .i64 la, .bool su, .slice sA sn sc] 48)
          have HBE := Lib.hid (HBj.out.trans (hbe.mono HBj.out.size))
          have hany : (ls.any fun x => q.mt x.s) = hq := hhq
          have SPC := Lib.hid (spcontains_any q sA ls sn sc B W.heap.size (wr.alloc (.cells #[.int .u64 th, .int .u64 tl, .int .i64 f, .int .i64 la, .bool su, .slice sA sn sc] 48)) hsn (hrs.below (hbe.mono (Nat.le_trans hBz HBj.out.size))) (Nat.le_trans hBz (Nat.le_trans HBj.out.size hbe.size)) (by rw [hsn]; exact hse.1) hse.2 ((HBE.out.block _ (by rw [HZ1.out]; omega)).trans HQ1.out))
          rw [hany] at SPC
          have HOE := Lib.hid (own_below HOj.out hbe)
          have HBX := Lib.hid hbx
          have HHIT := Lib.hid hhit
          have HLEN := Lib.hid hlen
          clear he hRj hse hhit hhq hany hrs hbe hbx hsn hlen
          cases hq
          · go_wp2_with (go_at_call 111; (with_reducible refine SPC.out.mono ?_); rintro e1 w1 ⟨rfl, hb1⟩; have HB9 := Lib.hid (HBE.out.trans (hb1.mono HBE.out.size)); have HO9 := Lib.hid (own_below HOE.out hb1); clear hb1)
            go_roundw
            case rel => exact ⟨j + 1, by go_num, by omega, Lib.hid (by rw [HHIT.out, if_neg (by first | decide | simp), List.append_nil]; exact HO9.out), HB9⟩
            case measure => simp [intOf]; omega
          · go_wp2_with (first
              | (at_builtin; refine wpList_app rfl (.tmp 27) (.tmp 30) _ _ rfl rfl rfl (APP.out _) ?_; rintro v3 w3 ⟨ho3, hg3⟩; have HO3 := Lib.hid ho3; have HB3 := Lib.hid (hg3.below HB9.out HB9.out.size (own_block_ge HO9.out)); clear ho3 hg3)
              | (go_at_call 111; (with_reducible refine SPC.out.mono ?_); rintro e1 w1 ⟨rfl, hb1⟩; have HB9 := Lib.hid (HBE.out.trans (hb1.mono HBE.out.size)); have HO9 := Lib.hid (own_below HOE.out hb1); have hx1 := (hb1.block _ (in_heap HBX.out)).trans HBX.out; have x0 : w1.cell? ⟨wr.heap.size, 0, none⟩ = some (.int .u64 th) := cell_of_row _ _ 0 _ _ (0, 0) hx1; have x1 : w1.cell? ⟨wr.heap.size, 1, none⟩ = some (.int .u64 tl) := cell_of_row _ _ 1 _ _ (0, 0) hx1; have APP := Lib.hid (fun ty => appTr (ty := ty) HO9.out (th, tl) #[.int .u64 th, .int .u64 tl] rfl HLEN.out HB9.out.size); clear hb1 hx1))
            go_roundw
            case rel => exact ⟨j + 1, by go_num, by omega, Lib.hid (by rw [HHIT.out, if_pos (by first | rfl | trivial), List.length_append, List.flatMap_append]; exact HO3.out), HB3⟩
            case measure => simp [intOf]; omega
        · obtain rfl : j = m := by omega
          have HOF := HOj.out
          have htk : es.take j = es := List.take_of_length_le (by rw [HM.out]; exact Nat.le_refl _)
          rw [htk, ← HST.out] at HOF
          have HOF := Lib.hid HOF
          clear htk
          go_wp2_with fail
          go_roundw
          case rel => exact ⟨k + 1, by go_num, by omega, HOF, HBj⟩
          case measure => simp [intOf]; omega
    · obtain rfl : k = n := by omega
      have HH := Lib.hid HO.out
      obtain ⟨H, hH⟩ : ∃ H, q.hitsE (epsTo l k) = H := ⟨_, rfl⟩
      have hHl : H.length ≤ 1000000 := by rw [← hH]; have h1 := hitsE_len q (epsTo l k); have h2 := epsTo_len l k; have h3 := HSM.out.eps; omega
      rw [hH] at HH HAL
      obtain ⟨nh, hnh⟩ : ∃ z, H.length = z := ⟨_, rfl⟩
      rw [hnh] at HH hHl
      have HNH := Lib.hid hnh
      have HSO := Lib.hid (trsort_any HNH.out.symm HH.out HB.out.size hHl)
      have HCO := Lib.hid (fun (w : World) (u : Value) (l' : List Tc) (ho : w.ownsRow W1.heap.size 28 2 u nh (l'.flatMap trC)) (hl : nh = l'.length) (hs : SrtC l') (hz : W1.heap.size ≤ w.heap.size) => trcompact_any hl ho hs hz hHl)
      clear hH hnh HO hHl
      go_wp2_with (first
        | (go_at_call 114; (with_reducible refine (HCO.out _ _ lp HO9.out HL9.out HS9.out HZ9.out).mono ?_); rintro e8 w8 ⟨v8, rfl, ho8, hb8⟩; have HO8 := Lib.hid ho8; have HB8 := Lib.hid hb8; clear ho8 hb8)
        | (go_at_call 113; (with_reducible refine HSO.out.mono ?_); rintro e9 w9 ⟨lp, rfl, ho9, hp9, hs9, hb9⟩; have HO9 := Lib.hid ho9; have HP9 := Lib.hid hp9; have HS9 := Lib.hid hs9; have HB9 := Lib.hid hb9; have HL9 : Hid (nh = lp.length) := Lib.hid (by rw [hp9.length_eq]; exact HNH.out.symm); have HZ9 := Lib.hid (Nat.le_trans HB.out.size hb9.size); clear ho9 hp9 hs9 hb9))
      go_ret
      have hz1 := HZ1.out
      refine ⟨_, rfl, ?_, (HB1.out.trans ((HB.out.trans (HB9.out.trans HB8.out)).mono (by omega)))⟩
      have e : setC lp = R := by rw [HAL.out]; exact setC_eq (fun x => HP9.out.mem_iff)
      rw [← e]
      exact own_mono HO8.out (by omega)
end Go.Proofs.Ytmldelgbmadegaa
