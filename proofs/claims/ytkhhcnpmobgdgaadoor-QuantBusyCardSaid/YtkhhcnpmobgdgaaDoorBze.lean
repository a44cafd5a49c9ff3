/- quant.Busy. -/
import Derived.Test.YtkhhcnpmobgdgaaDoorBzd
import Derived.Test.YtkhhcnpmobgdgaaDoorYd
namespace Go.Proofs.YtkhhcnpmobgdgaaDoor
open Go.RowKit Go.Maps
set_option linter.unusedVariables false
set_option linter.unusedSimpArgs false
set_option maxRecDepth 100000

def lenVz : Value → Nat | .slice _ n _ => n | _ => 0
theorem plus_bd (a b : Int) : 0 ≤ Bm.plus a b ∧ Bm.plus a b ≤ 9223372036854775807 := by unfold Bm.plus; split <;> omega
theorem bump_bd {k : Bk2} {c e : Int} : ∀ {l : List Bz}, (∀ b ∈ l, (0 ≤ b.ct ∧ b.ct ≤ 9223372036854775807) ∧ (0 ≤ b.er ∧ b.er ≤ 9223372036854775807)) → ∀ b ∈ bumpB k c e l, (0 ≤ b.ct ∧ b.ct ≤ 9223372036854775807) ∧ (0 ≤ b.er ∧ b.er ≤ 9223372036854775807)
  | [], h, b, hb => by simp [bumpB] at hb; subst hb; exact ⟨plus_bd _ _, plus_bd _ _⟩
  | a :: t, h, b, hb => by
    unfold bumpB at hb
    split at hb
    · rcases List.mem_cons.1 hb with rfl | hb
      · exact ⟨plus_bd _ _, plus_bd _ _⟩
      · exact h b (List.mem_cons_of_mem _ hb)
    · rcases List.mem_cons.1 hb with rfl | hb
      · exact h b List.mem_cons_self
      · exact bump_bd (fun x hx => h x (List.mem_cons_of_mem _ hx)) b hb
theorem agg_bd (lv : Int) (l : List Rw) : ∀ b ∈ aggB lv l, (0 ≤ b.ct ∧ b.ct ≤ 9223372036854775807) ∧ (0 ≤ b.er ∧ b.er ≤ 9223372036854775807) := by
  unfold aggB
  have : ∀ (r : List Rw) (a : List Bz), (∀ b ∈ a, (0 ≤ b.ct ∧ b.ct ≤ 9223372036854775807) ∧ (0 ≤ b.er ∧ b.er ≤ 9223372036854775807)) → ∀ b ∈ r.foldl (stepB lv) a, (0 ≤ b.ct ∧ b.ct ≤ 9223372036854775807) ∧ (0 ≤ b.er ∧ b.er ≤ 9223372036854775807) := by
    intro r
    induction r with
    | nil => intro a h; exact h
    | cons x r ih =>
      intro a h
      rw [List.foldl_cons]
      refine ih _ ?_
      unfold stepB
      split
      · exact bump_bd h
      · exact h
  exact this l [] (fun b hb => by cases hb)
theorem take_agg (lv : Int) {l : List Rw} {k : Nat} {r : Rw} (h : l[k]? = some r) : aggB lv (l.take (k + 1)) = stepB lv (aggB lv (l.take k)) r := by
  rw [List.take_add_one, h, ← aggB_snoc]; rfl
/-- The first so many. -/
def topB (n : Int) (l : List Bz) : List Bz := l.take n.toNat
theorem topB_min (n : Int) (l : List Bz) : topB n l = l.take (min l.length n.toNat) := by
  unfold topB
  rcases Nat.le_total l.length n.toNat with h | h
  · rw [Nat.min_eq_left h, List.take_of_length_le h, List.take_length]
  · rw [Nat.min_eq_right h]
theorem rdZ_take {w : World} {B : Nat} {A : Option Addr} {L : List Bz} {j : Nat} (hr : Rd w B A (L.flatMap Bz.cells)) : Rd w B A ((L.take j).flatMap Bz.cells) := fun h0 => by
  have he : L.flatMap Bz.cells = (L.take j).flatMap Bz.cells ++ (L.drop j).flatMap Bz.cells := by rw [← List.flatMap_append, List.take_append_drop]
  rw [he] at hr
  obtain ⟨a, h1, h2, h3⟩ := hr (by rw [List.length_append]; omega)
  refine ⟨a, h1, h2, fun i u hu => h3 i u ?_⟩
  rw [List.getElem?_append_left]
  · exact hu
  · exact (List.getElem?_eq_some_iff.1 hu).1
set_option maxHeartbeats 32000000 in
theorem busy_any (A : Option Addr) (l : List Rw) (n c B : Nat) (lv mx : Int) (w : World) (hn : n = l.length) (hr : Rd w B A (l.flatMap Rw.cells)) (hB : B ≤ w.heap.size) (hok : okRz l) (hsz : ∀ r ∈ l, r.k.sv.size ≤ 60 ∧ r.k.op.size ≤ 60) (hsm : n ≤ 1000) :
    Calls Tryd.prog 30 #[.slice A n c, .int .i64 lv, .int .i64 mx] w fun e w' => ∃ v', e = .returned v' ∧ w'.ownsRow w.heap.size 61 4 v' (topB mx (srtB (aggB lv l))).length ((topB mx (srtB (aggB lv l))).flatMap Bz.cells) ∧ Below w.heap.size w w' := by
  have HR := Lib.hid hr
  have HN := Lib.hid hn
  have HOKL := Lib.hid hok
  have HSZ := Lib.hid hsz
  clear hr hn hok hsz
  have hmm := @run_makeMap Tryd.prog
  obtain ⟨base, hbase⟩ : ∃ base, base = w.heap.size := ⟨_, rfl⟩
  have HBASE := Lib.hid hbase
  have hM0 := MapBz.made w
  have HB0 := Lib.hid ((Below.refl w.heap.size w).alloc (Nat.le_refl _) (.map #[] 0))
  rw [← hbase] at hM0 HB0 hB ⊢
  obtain ⟨gm, hgm⟩ : ∃ gm, gm = base := ⟨_, rfl⟩
  have HGM := Lib.hid hgm
  go_enter Tryd.func30, Tryd.ntmps30
  go_upto_region 4 with fail
  rw [← hbase]
  obtain ⟨W0, hW0⟩ : ∃ W0, W0 = w.alloc (.map #[] 0) := ⟨_, rfl⟩
  rw [← hW0] at hM0 HB0 ⊢
  rw [← hgm] at hM0 ⊢
  clear hW0 hgm hbase
  go_loopw [7, 17] (fun sv vk wr => ∃ k nq nn : Nat, vk = .int .i64 (k : Int) ∧ k ≤ n ∧ lenVz sv = nq ∧ nn ≤ k ∧ Hid (wr.ownsRow base 61 4 sv nq ((aggB lv (l.take k)).flatMap Bz.cells)) ∧ Hid (nq = (aggB lv (l.take k)).length) ∧ Hid (MapBz wr gm nn (plcB (aggB lv (l.take k)))) ∧ Hid (Below base w wr)) (fun _ vk _ => n - (intOf vk).toNat)
  case atStart => exact ⟨0, 0, 0, rfl, Nat.zero_le _, rfl, Nat.le_refl _, Lib.hid (World.ownsRow_nil _ _ _ _), Lib.hid rfl, Lib.hid hM0, HB0⟩
  case round =>
    obtain ⟨k, nq, nn, rfl, hk, hlv, hnn, HO, HNQ0, HM, HB⟩ := hrel
    obtain ⟨zA, zc, rfl, hzc, hzr⟩ := own_rd HO.out
    have HZC := Lib.hid hzc
    have HWS := Lib.hid (show base ≤ wr.heap.size from by have := HB.out.size; have := HBASE.out; omega)
    have HNA := Lib.hid (show nq ≤ k from by rw [HNQ0.out]; exact Nat.le_trans (aggB_len lv _) (by rw [List.length_take]; omega))
    clear hlv hzc hzr
    by_cases hlt : k < n
    · obtain ⟨r, hr⟩ : ∃ r, l[k]? = some r := ⟨_, List.getElem?_eq_getElem (by rw [← HN.out]; exact hlt)⟩
      have hrm := List.mem_of_getElem? hr
      have HKEY : Hid (Bk2.ok (r.k.sv, r.k.op)) := Lib.hid (by have h := HSZ.out r hrm; exact ⟨by show r.k.sv.size ≤ maxLen; unfold maxLen; omega, by show r.k.op.size ≤ maxLen; unfold maxLen; omega⟩)
      have HOC := Lib.hid (HOKL.out r hrm)
      have HSTEP := Lib.hid (take_agg lv hr)
      obtain ⟨a, ha, _, d0, d1, d2, d3, d4, d5, d6, d7, d8, d9, d10, d11, d12, d13⟩ := row_cells (HR.out.below (HB.out.mono hB)) hr
      subst ha
      obtain ⟨⟨flv, fwi, fsv, fop⟩, fct⟩ := r
      simp only at d0 d1 d2 d3 d4 d5 d6 d7 d8 d9 d10 d11 d12 d13
      unfold stepB at HSTEP
      simp only at HSTEP HKEY HOC
      obtain ⟨o0, ho0⟩ : ∃ o, o = fct.getD 0 0 := ⟨_, rfl⟩
      obtain ⟨o1, ho1⟩ : ∃ o, o = fct.getD 1 0 := ⟨_, rfl⟩
      obtain ⟨o2, ho2⟩ : ∃ o, o = fct.getD 2 0 := ⟨_, rfl⟩
      obtain ⟨o3, ho3⟩ : ∃ o, o = fct.getD 3 0 := ⟨_, rfl⟩
      obtain ⟨o4, ho4⟩ : ∃ o, o = fct.getD 4 0 := ⟨_, rfl⟩
      obtain ⟨o5, ho5⟩ : ∃ o, o = fct.getD 5 0 := ⟨_, rfl⟩
      obtain ⟨o6, ho6⟩ : ∃ o, o = fct.getD 6 0 := ⟨_, rfl⟩
      obtain ⟨o7, ho7⟩ : ∃ o, o = fct.getD 7 0 := ⟨_, rfl⟩
      obtain ⟨o8, ho8⟩ : ∃ o, o = fct.getD 8 0 := ⟨_, rfl⟩
      obtain ⟨o9, ho9⟩ : ∃ o, o = fct.getD 9 0 := ⟨_, rfl⟩
      rw [← ho0] at d4
      rw [← ho1] at d5
      rw [← ho2] at d6
      rw [← ho3] at d7
      rw [← ho4] at d8
      rw [← ho5] at d9
      rw [← ho6] at d10
      rw [← ho7] at d11
      rw [← ho8] at d12
      rw [← ho9] at d13
      rw [← ho0, ← ho1] at HSTEP
      have hoc0 := HOC.out 0
      have hoc1 := HOC.out 1
      rw [← ho0] at hoc0
      rw [← ho1] at hoc1
      have HO01 := Lib.hid (And.intro hoc0 hoc1)
      have i1 : (k : Int) < (n : Int) := by omega
      have i0 : (0 : Int) ≤ (k : Int) := by omega
      have HKN := Lib.hid (show k + 1 ≤ n from hlt)
      clear hr hrm hlt HOC hoc0 hoc1 ho0 ho1 ho2 ho3 ho4 ho5 ho6 ho7 ho8 ho9
      go_upto_region 6 with fail
      obtain ⟨gx, hgx⟩ : ∃ gx, gx = wr.heap.size := ⟨_, rfl⟩
      obtain ⟨w5, hw5⟩ : ∃ w5, w5 = wr.alloc (.cells #[.int .i64 flv, .int .i64 fwi, .string fsv, .string fop, .int .i64 o0, .int .i64 o1, .int .i64 o2, .int .i64 o3, .int .i64 o4, .int .i64 o5, .int .i64 o6, .int .i64 o7, .int .i64 o8, .int .i64 o9] 48) := ⟨_, rfl⟩
      rw [← hw5, ← hgx]
      have hb5 : Below wr.heap.size wr w5 := by rw [hw5]; exact (Below.refl wr.heap.size wr).alloc (Nat.le_refl _) _
      have HX5 := Lib.hid (show w5.heap[gx]? = some (.cells #[.int .i64 flv, .int .i64 fwi, .string fsv, .string fop, .int .i64 o0, .int .i64 o1, .int .i64 o2, .int .i64 o3, .int .i64 o4, .int .i64 o5, .int .i64 o6, .int .i64 o7, .int .i64 o8, .int .i64 o9] 48 (0, 0)) from by rw [hw5, hgx]; exact heap_alloc_new wr _)
      have hs5 : w5.heap.size = gx + 1 := by rw [hw5, hgx]; simp
      have HS5 := Lib.hid hs5
      have HO5 := Lib.hid (own_below HO.out hb5)
      have HM5 : Hid (MapBz w5 gm nn (plcB (aggB lv (l.take k)))) := Lib.hid (HM.out.block (hb5.block gm HM.out.lt))
      have HB5 := Lib.hid (HB.out.trans (hb5.mono HWS.out))
      have HGX := Lib.hid (show base ≤ gx from by rw [hgx]; exact HWS.out)
      clear d0 d1 d2 d3 d4 d5 d6 d7 d8 d9 d10 d11 d12 d13 hw5 hb5 hs5 hgx HO HM HB HWS
      have x0 : w5.cell? ⟨gx, 0, none⟩ = some (.int .i64 flv) := cell_of_row _ _ 0 _ _ (0, 0) HX5.out
      have x2 : w5.cell? ⟨gx, 2, none⟩ = some (.string fsv) := cell_of_row _ _ 2 _ _ (0, 0) HX5.out
      have x3 : w5.cell? ⟨gx, 3, none⟩ = some (.string fop) := cell_of_row _ _ 3 _ _ (0, 0) HX5.out
      by_cases hl : flv = lv
      · subst hl
        rw [if_pos rfl] at HSTEP
        go_upto_region 8 with fail
        obtain ⟨w7, hw7⟩ : ∃ w7, w7 = w5.alloc (.cells #[.string fsv, .string fop] 76) := ⟨_, rfl⟩
        obtain ⟨gn, hgn⟩ : ∃ gn, gn = w5.heap.size := ⟨_, rfl⟩
        rw [← hw7, ← hgn]
        have hb7 : Below w5.heap.size w5 w7 := by rw [hw7]; exact (Below.refl w5.heap.size w5).alloc (Nat.le_refl _) _
        have hq7 : w7.heap[gn]? = some (.cells #[.string fsv, .string fop] 76 (0, 0)) := by rw [hw7, hgn]; exact heap_alloc_new w5 _
        have HQ7 := Lib.hid hq7
        have n0 : w7.cell? ⟨gn, 0, none⟩ = some (.string fsv) := cell_of_row _ _ 0 _ _ (0, 0) hq7
        have n1 : w7.cell? ⟨gn, 1, none⟩ = some (.string fop) := cell_of_row _ _ 1 _ _ (0, 0) hq7
        have HX7 := Lib.hid ((hb7.block gx (by have := HS5.out; omega)).trans HX5.out)
        have x2 : w7.cell? ⟨gx, 2, none⟩ = some (.string fsv) := cell_of_row _ _ 2 _ _ (0, 0) HX7.out
        have x3 : w7.cell? ⟨gx, 3, none⟩ = some (.string fop) := cell_of_row _ _ 3 _ _ (0, 0) HX7.out
        have HO7 := Lib.hid (own_below HO5.out hb7)
        have HM7 : Hid (MapBz w7 gm nn (plcB (aggB flv (l.take k)))) := Lib.hid (HM5.out.block (hb7.block gm HM5.out.lt))
        have HB7 := Lib.hid (HB5.out.trans (hb7.mono (by have := HS5.out; have := HGX.out; omega)))
        have HS7 := Lib.hid (show gx < w7.heap.size ∧ base ≤ w7.heap.size from by have := hb7.size; have := HS5.out; have := HGX.out; omega)
        clear hw7 hgn hb7 hq7 x0 HX5 HO5 HM5 HB5 HS5
        rcases hpl : plcB (aggB flv (l.take k)) (fsv, fop) with _ | i
        · have dm : (plcB (aggB flv (l.take k)) (fsv, fop)).isSome = false := by rw [hpl]; rfl
          have HPL := Lib.hid hpl
          have hnk2 : nn ≤ 2000000 := by omega
          have hkk2 : nq ≤ 2000000 := by have := HNA.out; omega
          clear hpl
          go_upto_region 12 with (first
            | (at_lookup; refine wpList_bz HM7.out HKEY.out rfl (.tmp 31) (.tmp 32) rfl rfl rfl ?_; intro cc hcc; rw [dm]; clear hcc)
            | (at_mapUpdate; refine wpList_bz_put HM7.out HKEY.out hnk2 hkk2 rfl (.tmp 40) (.tmp 41) (.tmp 42) rfl rfl rfl rfl ?_; intro w11 hm11 hg11; have HM11 := Lib.hid hm11; have HG11 := Lib.hid hg11; clear hm11 hg11))
          have hgrow : ∀ b, b < w7.heap.size → b ≠ gm → w11.heap[b]? = w7.heap[b]? := fun b hb hne => HG11.out.block b hb (fun h => hne (Option.some.inj h))
          have hxm : gx ≠ gm := fun h => by
            have h1 := HX7.out
            obtain ⟨_, ⟨es, clock, h2, _⟩, _⟩ := HM7.out
            rw [h, h2] at h1; cases h1
          have HX11 := Lib.hid ((hgrow gx HS7.out.1 hxm).trans HX7.out)
          have x2 : w11.cell? ⟨gx, 2, none⟩ = some (.string fsv) := cell_of_row _ _ 2 _ _ (0, 0) HX11.out
          have x3 : w11.cell? ⟨gx, 3, none⟩ = some (.string fop) := cell_of_row _ _ 3 _ _ (0, 0) HX11.out
          have HO11 := Lib.hid (show w11.ownsRow base 61 4 (.slice zA nq zc) nq ((aggB flv (l.take k)).flatMap Bz.cells) from HO7.out.kept (row := some gm) HG11.out (.inr (fun h => by
            rcases zA with _ | a'
            · simp [Value.ownBlock] at h
            · simp only [Value.ownBlock, Option.some.injEq] at h
              exact own_notmap (k := 0) HO7.out HM7.out a' rfl h)))
          have HB11 := Lib.hid (HB7.out.grown HG11.out HS7.out.2 (fun j hj => by injection hj with hj; rw [← hj, HGM.out]; exact Nat.le_refl _))
          have HS11 := Lib.hid (show base ≤ w11.heap.size ∧ gx < w11.heap.size from by have := HG11.out.size; have := HS7.out; omega)
          clear hgrow HX7 HO7 HB7 HS7 HQ7 n0 n1 HM7
          have hbl : Below w11.heap.size w11 (w11.alloc (.cells #[.string fsv, .string fop, .int .i64 0, .int .i64 0] 61)) := (Below.refl w11.heap.size w11).alloc (Nat.le_refl _) _
          have APP := Lib.hid (fun ty => appZ (ty := ty) (own_below HO11.out hbl) (K := [Bz.mk fsv fop 0 0]) (m := 1) (c := 1) (Rd.lit w11 #[.string fsv, .string fop, .int .i64 0, .int .i64 0] 61) rfl (by have := HNA.out; omega) (by have := HS11.out; simp; omega))
          go_upto_region 13 with (at_builtin; refine wpList_app rfl _ _ _ _ rfl rfl rfl (APP.out _) ?_; rintro v12 wt ⟨ho12, hg12⟩; have HO12 := Lib.hid ho12; have HG12 := Lib.hid hg12; clear ho12 hg12)
          obtain ⟨tA, cq, rfl, _, _⟩ := own_rd HO12.out
          obtain ⟨ga, rfl, hga, hgl⟩ := own_place HO12.out (by omega)
          have HGA := Lib.hid hga
          have HOT := HO12
          have hown : ∀ b, Value.ownBlock (.slice zA nq zc) = some b → base ≤ b := own_block_ge HO11.out
          have HBT := Lib.hid (HG12.out.below (HB11.out.trans (hbl.mono HS11.out.1)) (by have := HS11.out; simp; omega) hown)
          have hxb : Value.ownBlock (.slice zA nq zc) ≠ some gx := fun h => by
            rcases zA with _ | a'
            · simp [Value.ownBlock] at h
            · simp only [Value.ownBlock, Option.some.injEq] at h
              exact own_kind HO11.out HX11.out (by decide) a' rfl h
          have hxm2 : Value.ownBlock (.slice zA nq zc) ≠ some gm := fun h => by
            rcases zA with _ | a'
            · simp [Value.ownBlock] at h
            · simp only [Value.ownBlock, Option.some.injEq] at h
              exact own_notmap (k := 0) HO11.out HM11.out a' rfl h
          have HXT := Lib.hid (show wt.heap[gx]? = some (.cells #[.int .i64 flv, .int .i64 fwi, .string fsv, .string fop, .int .i64 o0, .int .i64 o1, .int .i64 o2, .int .i64 o3, .int .i64 o4, .int .i64 o5, .int .i64 o6, .int .i64 o7, .int .i64 o8, .int .i64 o9] 48 (0, 0)) from (HG12.out.grown.block gx (by have := HS11.out; simp; omega) (fun h => hxb h.symm)).trans ((hbl.block gx HS11.out.2).trans HX11.out))
          have HMT : Hid (MapBz wt gm (nn + 1) (fun u => if u = (fsv, fop) then some nq else plcB (aggB flv (l.take k)) u)) := Lib.hid (HM11.out.block ((HG12.out.grown.block gm (by have := HM11.out.lt; simp; omega) (fun h => hxm2 h.symm)).trans (hbl.block gm HM11.out.lt)))
          have HFM : Hid ((fun u => if u = (fsv, fop) then some nq else plcB (aggB flv (l.take k)) u) = plcB (aggB flv (l.take (k + 1)))) := Lib.hid (by
            funext u
            rw [HSTEP.out, plc_bump, HPL.out, HNQ0.out])
          generalize hfm : (fun u => if u = (fsv, fop) then some nq else plcB (aggB flv (l.take k)) u) = fm at HMT HFM
          have HAT : Hid ((aggB flv (l.take k) ++ [Bz.mk fsv fop 0 0])[nq]? = some ⟨fsv, fop, 0, 0⟩) := Lib.hid (by rw [HNQ0.out]; simp)
          obtain ⟨i, hi⟩ : ∃ i, i = nq := ⟨_, rfl⟩
          have HIE := Lib.hid hi
          rw [← hi] at HAT
          obtain ⟨nq', hnq'⟩ : ∃ q, q = nq + 1 := ⟨_, rfl⟩
          rw [← hnq'] at HOT ⊢
          have HIL := Lib.hid (show i < nq' from by omega)
          have HNQ : Hid (nq' = (aggB flv (l.take k) ++ [Bz.mk fsv fop 0 0]).length) := Lib.hid (by rw [List.length_append, ← HNQ0.out]; exact hnq')
          rw [← hi]
          obtain ⟨nn', hnn'⟩ : ∃ q, q = nn + 1 := ⟨_, rfl⟩
          rw [← hnn'] at HMT
          have HNN' := Lib.hid (show nn' ≤ k + 1 from by omega)
          have HOT : Hid (wt.ownsRow base 61 4 (.slice (some ⟨ga, 0, none⟩) nq' cq) nq' ((aggB flv (l.take k) ++ [Bz.mk fsv fop 0 0]).flatMap Bz.cells)) := HOT
          obtain ⟨xs, xo, xc, xe, hx1, hx2, hx3, hx4⟩ : ∃ (xs xo : ByteArray) (xc xe : Int), fsv = xs ∧ fop = xo ∧ (0 : Int) = xc ∧ (0 : Int) = xe := ⟨_, _, _, _, rfl, rfl, rfl, rfl⟩
          have HAT : Hid ((aggB flv (l.take k) ++ [Bz.mk fsv fop 0 0])[i]? = some ⟨xs, xo, xc, xe⟩) := Lib.hid (by rw [← hx1, ← hx2, ← hx3, ← hx4]; exact HAT.out)
          have HXX := Lib.hid (And.intro hx1 (And.intro hx2 (And.intro hx3 hx4)))
          have HBD := Lib.hid (show (-9223372036854775808 ≤ xc ∧ xc ≤ 9223372036854775807) ∧ (-9223372036854775808 ≤ xe ∧ xe ≤ 9223372036854775807) ∧ (-9223372036854775808 ≤ o0 ∧ o0 ≤ 9223372036854775807) ∧ (-9223372036854775808 ≤ o1 ∧ o1 ≤ 9223372036854775807) from by have := HO01.out; omega)
          have hnb : nq' ≤ 1001 := by have := HNA.out; omega
          clear hi hnq' hnn' hfm hx1 hx2 hx3 hx4 hbl APP HO11 HX11 HB11 HS11 HM11 HG11 HG12 hown hxb hxm2 hxm x2 x3 dm hga hgl HO12 hnk2 hkk2
          have hil : i < nq' := HIL.out
          have ii0 : (0 : Int) ≤ (i : Int) := by omega
          have ii1 : (i : Int) < (nq' : Int) := by omega
          have hadd : ∀ q : Nat, (⟨ga, 0, none⟩ : Addr).add q = ⟨ga, q, none⟩ := fun q => by rw [Addr.add_lit, Nat.zero_add]
          have hxg : ga ≠ gx := own_kind HOT.out HXT.out (by decide) _ rfl
          have hmg : ga ≠ gm := own_notmap (k := 0) HOT.out HMT.out _ rfl
          have s0 := own_setZ HOT.out (i := i * 4 + 2) (by omega) (.int .i64 (Bm.plus xc o0))
          have c2 : wt.cell? ⟨ga, i * 4 + 2, none⟩ = some (.int .i64 xc) := by rw [s0.2.1, flatMap_at _ 4 bzcells_len _ i 2 (by omega), HAT.out]; rfl
          have z2 := s0.1
          have x4 : wt.cell? ⟨gx, 4, none⟩ = some (.int .i64 o0) := cell_of_row _ _ 4 _ _ (0, 0) HXT.out
          have HO13 := Lib.hid (show (wt.setCell ⟨ga, i * 4 + 2, none⟩ (.int .i64 (Bm.plus xc o0))).ownsRow base 61 4 (.slice (some ⟨ga, 0, none⟩) nq' cq) nq' (((aggB flv (l.take k) ++ [Bz.mk fsv fop 0 0]).set i (Bz.mk xs xo (Bm.plus xc o0) xe)).flatMap Bz.cells) from by
            have h := s0.2.2
            rwa [set_bz (aggB flv (l.take k) ++ [Bz.mk fsv fop 0 0]) i 2 ⟨xs, xo, xc, xe⟩ ⟨xs, xo, Bm.plus xc o0, xe⟩ _ HAT.out (by decide) (fun q hq hne => by rcases (show q = 0 ∨ q = 1 ∨ q = 3 by omega) with rfl | rfl | rfl <;> rfl) rfl] at h)
          have PL := fun W' => Lib.hid (plus_any xc o0 W' HBD.out.1.1 HBD.out.1.2 HBD.out.2.2.1.1 HBD.out.2.2.1.2)
          generalize hp2 : Bm.plus xc o0 = p2 at *
          have HP2 := Lib.hid hp2
          clear s0 hp2
          go_upto_region 13 with fail
          go_still_tail 13, (by kernel_rfl)
          still_call ((PL _).out.mono fun _ _ hh => ⟨hh.1, hh.2.symm⟩)
          repeat still_step
          refine wpStill_nil ?_
          change wpList _ _ _ _ _ wt.drew
          obtain ⟨we2, hwe2⟩ : ∃ we, we = wt.drew := ⟨_, rfl⟩
          rw [← hwe2]
          have d2 : we2.cell? ⟨ga, i * 4 + 2, none⟩ = some (.int .i64 xc) := by rw [hwe2]; exact c2
          have y2 : we2.frozen? ⟨ga, i * 4 + 2, none⟩ = false := by rw [hwe2]; exact z2
          have HWE2 := Lib.hid hwe2
          clear hwe2
          go_upto_region 14 with fail
          obtain ⟨w13, hw13⟩ : ∃ w13, w13 = we2.setCell ⟨ga, i * 4 + 2, none⟩ (.int .i64 p2) := ⟨_, rfl⟩
          rw [← hw13]
          have HOU := Lib.hid (show w13.ownsRow base 61 4 (.slice (some ⟨ga, 0, none⟩) nq' cq) nq' (((aggB flv (l.take k) ++ [Bz.mk fsv fop 0 0]).set i (Bz.mk xs xo p2 xe)).flatMap Bz.cells) from by rw [hw13, HWE2.out]; exact HO13.out)
          have HXU := Lib.hid (show w13.heap[gx]? = some (.cells #[.int .i64 flv, .int .i64 fwi, .string fsv, .string fop, .int .i64 o0, .int .i64 o1, .int .i64 o2, .int .i64 o3, .int .i64 o4, .int .i64 o5, .int .i64 o6, .int .i64 o7, .int .i64 o8, .int .i64 o9] 48 (0, 0)) from by rw [hw13, HWE2.out]; exact (Below.heap_setCell wt.drew _ _ gx (by simpa using fun h => hxg h.symm)).trans HXT.out)
          have HMU : Hid (MapBz w13 gm nn' fm) := Lib.hid (HMT.out.block (by rw [hw13, HWE2.out]; exact (Below.heap_setCell wt.drew _ _ gm (by simpa using fun h => hmg h.symm))))
          have HBU := Lib.hid (show Below base w w13 from by rw [hw13, HWE2.out]; exact (show Below base w wt.drew from ⟨HBT.out.os, HBT.out.tape, HBT.out.output, HBT.out.size, HBT.out.block⟩).setCell (by have := HGA.out; simpa using this) _)
          have HAU := Lib.hid (show ((aggB flv (l.take k) ++ [Bz.mk fsv fop 0 0]).set i (Bz.mk xs xo p2 xe))[i]? = some ⟨xs, xo, p2, xe⟩ from by rw [List.getElem?_set_self (by have := HNQ.out; omega)])
          clear hw13 d2 y2 c2 z2 x4 HO13 PL HOT HXT HMT HBT
          have s1 := own_setZ HOU.out (i := i * 4 + 3) (by omega) (.int .i64 (Bm.plus xe o1))
          have c3 : w13.cell? ⟨ga, i * 4 + 3, none⟩ = some (.int .i64 xe) := by rw [s1.2.1, flatMap_at _ 4 bzcells_len _ i 3 (by omega), HAU.out]; rfl
          have z3 := s1.1
          have x5 : w13.cell? ⟨gx, 5, none⟩ = some (.int .i64 o1) := cell_of_row _ _ 5 _ _ (0, 0) HXU.out
          have HO14 := Lib.hid (show (w13.setCell ⟨ga, i * 4 + 3, none⟩ (.int .i64 (Bm.plus xe o1))).ownsRow base 61 4 (.slice (some ⟨ga, 0, none⟩) nq' cq) nq' ((((aggB flv (l.take k) ++ [Bz.mk fsv fop 0 0]).set i (Bz.mk xs xo p2 xe)).set i (Bz.mk xs xo p2 (Bm.plus xe o1))).flatMap Bz.cells) from by
            have h := s1.2.2
            rwa [set_bz _ i 3 ⟨xs, xo, p2, xe⟩ ⟨xs, xo, p2, Bm.plus xe o1⟩ _ HAU.out (by decide) (fun q hq hne => by rcases (show q = 0 ∨ q = 1 ∨ q = 2 by omega) with rfl | rfl | rfl <;> rfl) rfl] at h)
          have PL := fun W' => Lib.hid (plus_any xe o1 W' HBD.out.2.1.1 HBD.out.2.1.2 HBD.out.2.2.2.1 HBD.out.2.2.2.2)
          generalize hp3 : Bm.plus xe o1 = p3 at *
          have HP3 := Lib.hid hp3
          clear s1 hp3
          go_still_tail 13, (by kernel_rfl)
          still_call ((PL _).out.mono fun _ _ hh => ⟨hh.1, hh.2.symm⟩)
          repeat still_step
          refine wpStill_nil ?_
          change wpList _ _ _ _ _ w13.drew
          obtain ⟨we3, hwe3⟩ : ∃ we, we = w13.drew := ⟨_, rfl⟩
          rw [← hwe3]
          have d3 : we3.cell? ⟨ga, i * 4 + 3, none⟩ = some (.int .i64 xe) := by rw [hwe3]; exact c3
          have y3 : we3.frozen? ⟨ga, i * 4 + 3, none⟩ = false := by rw [hwe3]; exact z3
          have HWE3 := Lib.hid hwe3
          clear hwe3
          go_upto_region 15 with fail
          obtain ⟨w14, hw14⟩ : ∃ w14, w14 = we3.setCell ⟨ga, i * 4 + 3, none⟩ (.int .i64 p3) := ⟨_, rfl⟩
          rw [← hw14]
          have HNEW : Hid ((((aggB flv (l.take k) ++ [Bz.mk fsv fop 0 0]).set i (Bz.mk xs xo p2 xe)).set i (Bz.mk xs xo p2 p3)) = aggB flv (l.take (k + 1))) := Lib.hid (by
            rw [List.set_set, HSTEP.out, ← HP2.out, ← HP3.out]
            obtain ⟨q1, q2, q3, q4⟩ := HXX.out
            rw [bump_miss HPL.out, HIE.out, HNQ0.out, ← q1, ← q2, ← q3, ← q4]
            simp)
          have HOV := Lib.hid (show w14.ownsRow base 61 4 (.slice (some ⟨ga, 0, none⟩) nq' cq) nq' ((aggB flv (l.take (k + 1))).flatMap Bz.cells) from by rw [hw14, HWE3.out, ← HNEW.out]; exact HO14.out)
          have HMV : Hid (MapBz w14 gm nn' (plcB (aggB flv (l.take (k + 1))))) := Lib.hid (by rw [← HFM.out]; exact HMU.out.block (by rw [hw14, HWE3.out]; exact (Below.heap_setCell w13.drew _ _ gm (by simpa using fun h => hmg h.symm))))
          have HBV := Lib.hid (show Below base w w14 from by rw [hw14, HWE3.out]; exact (show Below base w w13.drew from ⟨HBU.out.os, HBU.out.tape, HBU.out.output, HBU.out.size, HBU.out.block⟩).setCell (by have := HGA.out; simpa using this) _)
          have HLN : Hid (nq' = (aggB flv (l.take (k + 1))).length) := Lib.hid (by rw [← HNEW.out, List.length_set, List.length_set]; exact HNQ.out)
          clear hw14 d3 y3 c3 z3 x5 HO14 PL HOU HXU HMU HBU hadd
          go_wp2_with fail
          go_roundw
          case rel => exact ⟨k + 1, nq', nn', by go_num, HKN.out, rfl, HNN'.out, HOV, HLN, HMV, HBV⟩
          case measure => have := HKN.out; simp [intOf]; omega
        · have dm : (plcB (aggB flv (l.take k)) (fsv, fop)).isSome = true := by rw [hpl]; rfl
          have HPL := Lib.hid hpl
          obtain ⟨b, hb1, hb2, hb3, hb4⟩ := bump_hit (c := o0) (e := o1) hpl
          have hnq0 : 0 < nq := by rw [HNQ0.out]; omega
          obtain ⟨ga, hzA, hga, hgl⟩ := own_place HO7.out hnq0
          subst hzA
          have HGA := Lib.hid hga
          have HIL := Lib.hid (show i < nq from by rw [HNQ0.out]; exact hb3)
          have HNQ := HNQ0
          obtain ⟨nn', hnn'⟩ : ∃ q, q = nn := ⟨_, rfl⟩
          have HNN' := Lib.hid (show nn' ≤ k + 1 from by omega)
          have HFM : Hid (plcB (aggB flv (l.take k)) = plcB (aggB flv (l.take (k + 1)))) := Lib.hid (by
            funext u
            rw [HSTEP.out, plc_bump, HPL.out]
            by_cases hu : u = (fsv, fop)
            · rw [if_pos hu, hu, HPL.out]
            · rw [if_neg hu])
          have hbd := agg_bd flv (l.take k) b (List.mem_of_getElem? hb1)
          obtain ⟨xs, xo, xc, xe⟩ := b
          have HAT := Lib.hid hb1
          have HBD := Lib.hid (show (-9223372036854775808 ≤ xc ∧ xc ≤ 9223372036854775807) ∧ (-9223372036854775808 ≤ xe ∧ xe ≤ 9223372036854775807) ∧ (-9223372036854775808 ≤ o0 ∧ o0 ≤ 9223372036854775807) ∧ (-9223372036854775808 ≤ o1 ∧ o1 ≤ 9223372036854775807) from by have := HO01.out; simp only at hbd; omega)
          have HXX : Hid (xs = fsv ∧ xo = fop) := Lib.hid (by injection hb2 with h1 h2; exact ⟨h1, h2⟩)
          have HB4 := Lib.hid hb4
          have hnb : nq ≤ 1001 := by have := HNA.out; omega
          clear hpl hb1 hb2 hb3 hb4 hnq0 hga hgl hbd
          go_upto_region 13 with (at_lookup; refine wpList_bz HM7.out HKEY.out rfl (.tmp 31) (.tmp 32) rfl rfl rfl ?_; intro cc hcc; rw [dm]; have hci := hcc i HPL.out; subst hci; clear hcc)
          obtain ⟨fm, hfm⟩ : ∃ fm, fm = plcB (aggB flv (l.take k)) := ⟨_, rfl⟩
          rw [← hfm] at HFM HM7
          rw [← hnn'] at HM7
          have HMT := HM7
          have HOT := HO7
          have HXT := HX7
          have HBT := HB7
          obtain ⟨cq, hcq⟩ : ∃ cq, cq = zc := ⟨_, rfl⟩
          rw [← hcq] at HOT ⊢
          obtain ⟨wt, hwt⟩ : ∃ wt, wt = w7 := ⟨_, rfl⟩
          rw [← hwt] at HMT HOT HXT HBT ⊢
          clear hfm hnn' hcq hwt HM7 HO7 HX7 HB7 HS7 HQ7 n0 n1 x2 x3 dm HZC
          have hil : i < nq := HIL.out
          have ii0 : (0 : Int) ≤ (i : Int) := by omega
          have ii1 : (i : Int) < (nq : Int) := by omega
          have hadd : ∀ q : Nat, (⟨ga, 0, none⟩ : Addr).add q = ⟨ga, q, none⟩ := fun q => by rw [Addr.add_lit, Nat.zero_add]
          have hxg : ga ≠ gx := own_kind HOT.out HXT.out (by decide) _ rfl
          have hmg : ga ≠ gm := own_notmap (k := 0) HOT.out HMT.out _ rfl
          have s0 := own_setZ HOT.out (i := i * 4 + 2) (by omega) (.int .i64 (Bm.plus xc o0))
          have c2 : wt.cell? ⟨ga, i * 4 + 2, none⟩ = some (.int .i64 xc) := by rw [s0.2.1, flatMap_at _ 4 bzcells_len _ i 2 (by omega), HAT.out]; rfl
          have z2 := s0.1
          have x4 : wt.cell? ⟨gx, 4, none⟩ = some (.int .i64 o0) := cell_of_row _ _ 4 _ _ (0, 0) HXT.out
          have HO13 := Lib.hid (show (wt.setCell ⟨ga, i * 4 + 2, none⟩ (.int .i64 (Bm.plus xc o0))).ownsRow base 61 4 (.slice (some ⟨ga, 0, none⟩) nq cq) nq (((aggB flv (l.take k)).set i (Bz.mk xs xo (Bm.plus xc o0) xe)).flatMap Bz.cells) from by
            have h := s0.2.2
            rwa [set_bz (aggB flv (l.take k)) i 2 ⟨xs, xo, xc, xe⟩ ⟨xs, xo, Bm.plus xc o0, xe⟩ _ HAT.out (by decide) (fun q hq hne => by rcases (show q = 0 ∨ q = 1 ∨ q = 3 by omega) with rfl | rfl | rfl <;> rfl) rfl] at h)
          have PL := fun W' => Lib.hid (plus_any xc o0 W' HBD.out.1.1 HBD.out.1.2 HBD.out.2.2.1.1 HBD.out.2.2.1.2)
          generalize hp2 : Bm.plus xc o0 = p2 at *
          have HP2 := Lib.hid hp2
          clear s0 hp2
          go_upto_region 13 with fail
          go_still_tail 13, (by kernel_rfl)
          still_call ((PL _).out.mono fun _ _ hh => ⟨hh.1, hh.2.symm⟩)
          repeat still_step
          refine wpStill_nil ?_
          change wpList _ _ _ _ _ wt.drew
          obtain ⟨we2, hwe2⟩ : ∃ we, we = wt.drew := ⟨_, rfl⟩
          rw [← hwe2]
          have d2 : we2.cell? ⟨ga, i * 4 + 2, none⟩ = some (.int .i64 xc) := by rw [hwe2]; exact c2
          have y2 : we2.frozen? ⟨ga, i * 4 + 2, none⟩ = false := by rw [hwe2]; exact z2
          have HWE2 := Lib.hid hwe2
          clear hwe2
          go_upto_region 14 with fail
          obtain ⟨w13, hw13⟩ : ∃ w13, w13 = we2.setCell ⟨ga, i * 4 + 2, none⟩ (.int .i64 p2) := ⟨_, rfl⟩
          rw [← hw13]
          have HOU := Lib.hid (show w13.ownsRow base 61 4 (.slice (some ⟨ga, 0, none⟩) nq cq) nq (((aggB flv (l.take k)).set i (Bz.mk xs xo p2 xe)).flatMap Bz.cells) from by rw [hw13, HWE2.out]; exact HO13.out)
          have HXU := Lib.hid (show w13.heap[gx]? = some (.cells #[.int .i64 flv, .int .i64 fwi, .string fsv, .string fop, .int .i64 o0, .int .i64 o1, .int .i64 o2, .int .i64 o3, .int .i64 o4, .int .i64 o5, .int .i64 o6, .int .i64 o7, .int .i64 o8, .int .i64 o9] 48 (0, 0)) from by rw [hw13, HWE2.out]; exact (Below.heap_setCell wt.drew _ _ gx (by simpa using fun h => hxg h.symm)).trans HXT.out)
          have HMU : Hid (MapBz w13 gm nn' fm) := Lib.hid (HMT.out.block (by rw [hw13, HWE2.out]; exact (Below.heap_setCell wt.drew _ _ gm (by simpa using fun h => hmg h.symm))))
          have HBU := Lib.hid (show Below base w w13 from by rw [hw13, HWE2.out]; exact (show Below base w wt.drew from ⟨HBT.out.os, HBT.out.tape, HBT.out.output, HBT.out.size, HBT.out.block⟩).setCell (by have := HGA.out; simpa using this) _)
          have HAU := Lib.hid (show ((aggB flv (l.take k)).set i (Bz.mk xs xo p2 xe))[i]? = some ⟨xs, xo, p2, xe⟩ from by rw [List.getElem?_set_self (by have := HNQ.out; omega)])
          clear hw13 d2 y2 c2 z2 x4 HO13 PL HOT HXT HMT HBT
          have s1 := own_setZ HOU.out (i := i * 4 + 3) (by omega) (.int .i64 (Bm.plus xe o1))
          have c3 : w13.cell? ⟨ga, i * 4 + 3, none⟩ = some (.int .i64 xe) := by rw [s1.2.1, flatMap_at _ 4 bzcells_len _ i 3 (by omega), HAU.out]; rfl
          have z3 := s1.1
          have x5 : w13.cell? ⟨gx, 5, none⟩ = some (.int .i64 o1) := cell_of_row _ _ 5 _ _ (0, 0) HXU.out
          have HO14 := Lib.hid (show (w13.setCell ⟨ga, i * 4 + 3, none⟩ (.int .i64 (Bm.plus xe o1))).ownsRow base 61 4 (.slice (some ⟨ga, 0, none⟩) nq cq) nq ((((aggB flv (l.take k)).set i (Bz.mk xs xo p2 xe)).set i (Bz.mk xs xo p2 (Bm.plus xe o1))).flatMap Bz.cells) from by
            have h := s1.2.2
            rwa [set_bz _ i 3 ⟨xs, xo, p2, xe⟩ ⟨xs, xo, p2, Bm.plus xe o1⟩ _ HAU.out (by decide) (fun q hq hne => by rcases (show q = 0 ∨ q = 1 ∨ q = 2 by omega) with rfl | rfl | rfl <;> rfl) rfl] at h)
          have PL := fun W' => Lib.hid (plus_any xe o1 W' HBD.out.2.1.1 HBD.out.2.1.2 HBD.out.2.2.2.1 HBD.out.2.2.2.2)
          generalize hp3 : Bm.plus xe o1 = p3 at *
          have HP3 := Lib.hid hp3
          clear s1 hp3
          go_still_tail 13, (by kernel_rfl)
          still_call ((PL _).out.mono fun _ _ hh => ⟨hh.1, hh.2.symm⟩)
          repeat still_step
          refine wpStill_nil ?_
          change wpList _ _ _ _ _ w13.drew
          obtain ⟨we3, hwe3⟩ : ∃ we, we = w13.drew := ⟨_, rfl⟩
          rw [← hwe3]
          have d3 : we3.cell? ⟨ga, i * 4 + 3, none⟩ = some (.int .i64 xe) := by rw [hwe3]; exact c3
          have y3 : we3.frozen? ⟨ga, i * 4 + 3, none⟩ = false := by rw [hwe3]; exact z3
          have HWE3 := Lib.hid hwe3
          clear hwe3
          go_upto_region 15 with fail
          obtain ⟨w14, hw14⟩ : ∃ w14, w14 = we3.setCell ⟨ga, i * 4 + 3, none⟩ (.int .i64 p3) := ⟨_, rfl⟩
          rw [← hw14]
          have HNEW : Hid ((((aggB flv (l.take k)).set i (Bz.mk xs xo p2 xe)).set i (Bz.mk xs xo p2 p3)) = aggB flv (l.take (k + 1))) := Lib.hid (by
            rw [List.set_set, HSTEP.out, ← HP2.out, ← HP3.out]
            rw [HP2.out, HP3.out, HB4.out]
            obtain ⟨q1, q2⟩ := HXX.out
            subst q1 q2
            rfl)
          have HOV := Lib.hid (show w14.ownsRow base 61 4 (.slice (some ⟨ga, 0, none⟩) nq cq) nq ((aggB flv (l.take (k + 1))).flatMap Bz.cells) from by rw [hw14, HWE3.out, ← HNEW.out]; exact HO14.out)
          have HMV : Hid (MapBz w14 gm nn' (plcB (aggB flv (l.take (k + 1))))) := Lib.hid (by rw [← HFM.out]; exact HMU.out.block (by rw [hw14, HWE3.out]; exact (Below.heap_setCell w13.drew _ _ gm (by simpa using fun h => hmg h.symm))))
          have HBV := Lib.hid (show Below base w w14 from by rw [hw14, HWE3.out]; exact (show Below base w w13.drew from ⟨HBU.out.os, HBU.out.tape, HBU.out.output, HBU.out.size, HBU.out.block⟩).setCell (by have := HGA.out; simpa using this) _)
          have HLN : Hid (nq = (aggB flv (l.take (k + 1))).length) := Lib.hid (by rw [← HNEW.out, List.length_set, List.length_set]; exact HNQ.out)
          clear hw14 d3 y3 c3 z3 x5 HO14 PL HOU HXU HMU HBU hadd
          go_wp2_with fail
          go_roundw
          case rel => exact ⟨k + 1, nq, nn', by go_num, HKN.out, rfl, HNN'.out, HOV, HLN, HMV, HBV⟩
          case measure => have := HKN.out; simp [intOf]; omega
      · have hne : (flv == lv) = false := beq_eq_false_iff_ne.2 hl
        rw [if_neg hl] at HSTEP
        have HOV := Lib.hid (show w5.ownsRow base 61 4 (.slice zA nq zc) nq ((aggB lv (l.take (k + 1))).flatMap Bz.cells) from by rw [HSTEP.out]; exact HO5.out)
        have HLN : Hid (nq = (aggB lv (l.take (k + 1))).length) := Lib.hid (by rw [HSTEP.out]; exact HNQ0.out)
        have HMV : Hid (MapBz w5 gm nn (plcB (aggB lv (l.take (k + 1))))) := Lib.hid (by rw [HSTEP.out]; exact HM5.out)
        clear hl HO5 HM5 HNQ0
        go_wp2_with fail
        go_roundw
        case rel => exact ⟨k + 1, nq, nn, by go_num, HKN.out, rfl, by omega, HOV, HLN, HMV, HB5⟩
        case measure => have := HKN.out; simp [intOf]; omega
    · obtain rfl : k = n := by omega
      have htk : l.take k = l := List.take_of_length_le (by rw [← HN.out]; exact Nat.le_refl _)
      rw [htk] at HO HNQ0 HM
      have SO := Lib.hid (bzsort_any HNQ0.out HO.out (aggB_one lv l) HWS.out (by have := HNA.out; omega))
      obtain ⟨S, hS⟩ : ∃ S, S = srtB (aggB lv l) := ⟨_, rfl⟩
      rw [← hS] at SO
      have HSE := Lib.hid hS
      have HSL := Lib.hid (show nq = S.length from by rw [hS, srtB_len]; exact HNQ0.out)
      clear hS htk hlt
      go_upto_region 17 with (go_at_call 45; (with_reducible refine SO.out.mono ?_); rintro ex w8 ⟨rfl, ho8, hb8⟩; have HO8 := Lib.hid ho8; have HB8 := Lib.hid (HB.out.trans hb8); clear ho8 hb8)
      obtain ⟨j, hj⟩ : ∃ j : Nat, j = min nq mx.toNat := ⟨_, rfl⟩
      have hjle : j ≤ nq := by omega
      have HJT := Lib.hid (show topB mx S = S.take j from by rw [topB_min, hj, HSL.out])
      have HJL := Lib.hid (show (S.take j).length = j from by rw [List.length_take, ← HSL.out]; omega)
      have CL := Lib.hid (fun cc => bz_clone zA (S.take j) j cc w8.heap.size w8 HJL.out.symm (rdZ_take (Rd.of_own HO8.out)) (Nat.le_refl _) (by have := HNA.out; omega))
      have j0 : (0 : Int) ≤ (j : Int) := by omega
      have j1 : (j : Int) ≤ (nq : Int) := by omega
      have j2 : (nq : Int) ≤ (zc : Int) := by have := HZC.out; omega
      have j3 : nq ≤ zc := HZC.out
      have j4 : (j : Int) ≤ (zc : Int) := by omega
      have j5 : j ≤ zc := by omega
      have e1 : min (nq : Int) (max mx 0) = (j : Int) := by omega
      have HBW8 := Lib.hid (show base ≤ w8.heap.size from by have := HB8.out.size; have := HBASE.out; omega)
      clear hj SO HO HM HB HNQ0
      go_wp2_with (go_at_call 47; (with_reducible refine (CL.out _).mono ?_); rintro ex w9 ⟨v9, rfl, ho9, hb9⟩)
      go_ret
      refine ⟨v9, rfl, ?_, HB8.out.trans (hb9.mono HBW8.out)⟩
      rw [← HSE.out, HJT.out, HJL.out]
      exact own_mono ho9 HBW8.out
end Go.Proofs.YtkhhcnpmobgdgaaDoor
