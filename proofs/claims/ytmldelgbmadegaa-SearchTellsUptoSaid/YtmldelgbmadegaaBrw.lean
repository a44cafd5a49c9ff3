/- The document's all: where a trace goes in. -/
import Derived.Test.YtmldelgbmadegaaBrv
import Derived.Test.YtmldelgbmadegaaBrm
import Derived.Test.YtmldelgbmadegaaBs
namespace Go.Proofs.Ytmldelgbmadegaa
open Go.RowKit
set_option linter.unusedVariables false
set_option linter.unusedSimpArgs false
set_option maxRecDepth 100000

/-- Many traces more. -/
theorem appTrs {w : World} {ty : TypeId} {base n m c : Nat} {v : Value} {A : Option Addr} {L K : List Tc} (h : w.ownsRow base 28 2 v n (L.flatMap trC)) {B : Nat} (hr : Rd w B A (K.flatMap trC)) (hm : m = K.length) (hs : n + m ≤ 1000000) (hbase : base ≤ w.heap.size) :
    ∃ v' w', (Builtin.append_ #[76, 76] ty #[v, .slice A m c]).run Try.prog w = .ok v' w' ∧ w'.ownsRow base 28 2 v' (n + m) ((L ++ K).flatMap trC) ∧ Grew w w' v v' := by
  obtain ⟨i0, hi, hz0, hz1, hz2⟩ := info_parts infoTr
  obtain ⟨v', w', r1, r2, r3⟩ := run_append_rd (P := Try.prog) w base 76 ty 28 i0 _ 2 16 Try.underlying76 hi hz0 hz1 hz2 rfl v n (L.flatMap trC) h B A m c (K.flatMap trC) (by rw [flatMap_len _ 2 trc_len, hm]) hr (trc_one K) (by unfold maxLen; omega) (by omega) hbase
  exact ⟨v', w', r1, by rw [List.flatMap_append]; exact r2, r3⟩
theorem GOESN {N : Nat} : PI.Goes (fun a b => Below N a b) := ⟨fun w => Below.refl _ w, fun _ _ _ h q => h.trans q⟩
def DnF (SL S1 S2 : Value) (p d bx N : Nat) (th tl : Int) (D : List Tc) : Nat → Value → World → Prop
  | 0, u, _ => u = SL
  | 1, u, _ => u = .int .i64 (p : Int)
  | 2, u, _ => u = S1
  | 3, u, w => w.ownsRow N 28 2 u p ((D.take p).flatMap trC)
  | 4, u, _ => u = .pointer (some ⟨bx, 0, none⟩)
  | 5, u, _ => u = .agg #[.int .u64 th, .int .u64 tl]
  | 6, u, w => ∃ z, u = .slice (some ⟨z, 0, none⟩) 1 1 ∧ w.heap[z]? = some (.cells #[.int .u64 th, .int .u64 tl] 28) ∧ N ≤ z
  | 7, u, w => w.ownsRow N 28 2 u (p + 1) ((D.take p ++ [(th, tl)]).flatMap trC)
  | 8, u, _ => u = SL
  | 9, u, _ => u = .int .i64 (p : Int)
  | 10, u, _ => u = S2
  | 11, u, w => w.ownsRow N 28 2 u (d + 1) ((D.take p ++ [(th, tl)] ++ D.drop p).flatMap trC)
  | 12, u, w => w.ownsRow N 28 2 u (d + 1) ((D.take p ++ [(th, tl)] ++ D.drop p).flatMap trC)
  | _, _, _ => True
theorem DnF.other {i : Nat} {u : Value} {SL S1 S2 : Value} {p d bx N : Nat} {th tl : Int} {D : List Tc} {w w' : World} (h : DnF SL S1 S2 p d bx N th tl D i u w) (hi : ¬ (i = 3 ∨ i = 6 ∨ i = 7 ∨ i = 11 ∨ i = 12)) : DnF SL S1 S2 p d bx N th tl D i u w' := by
  match i, h, hi with
  | 0, h, hi => exact h
  | 1, h, hi => exact h
  | 2, h, hi => exact h
  | 3, h, hi => exact absurd (by decide) hi
  | 4, h, hi => exact h
  | 5, h, hi => exact h
  | 6, h, hi => exact absurd (by decide) hi
  | 7, h, hi => exact absurd (by decide) hi
  | 8, h, hi => exact h
  | 9, h, hi => exact h
  | 10, h, hi => exact h
  | 11, h, hi => exact absurd (by decide) hi
  | 12, h, hi => exact absurd (by decide) hi
  | _ + 13, h, hi => trivial
set_option maxHeartbeats 64000000 in
theorem dall_lit (sv op ky vl : ByteArray) (du : Int) (er : Bool) (A : Option Addr) (l : List Bl) (n c B : Nat) (W : World) (hn : n = l.length) (hy : RdBls W B A l) (hB : B ≤ W.heap.size) (hsm : SmallBls l) :
    Calls Try.prog 85 #[.slice A n c, .agg #[.string sv, .string op, .string ky, .string vl, .int .i64 du, .bool er]] W (AllOf (Qm.all ⟨sv, op, ky, vl, du, er⟩ l) W) := by
  have hb1 := (Below.refl W.heap.size W).alloc (Nat.le_refl _) (.cells #[.string sv, .string op, .string ky, .string vl, .int .i64 du, .bool er] 68)
  have hq1 := heap_alloc_new W (.cells #[.string sv, .string op, .string ky, .string vl, .int .i64 du, .bool er] 68)
  have hz1 : (W.alloc (.cells #[.string sv, .string op, .string ky, .string vl, .int .i64 du, .bool er] 68)).heap.size = W.heap.size + 1 := by simp
  obtain ⟨q, hq⟩ : ∃ q : Qm, q = ⟨sv, op, ky, vl, du, er⟩ := ⟨_, rfl⟩
  rw [← hq]
  have HQL := Lib.hid hq
  have HQ1 := Lib.hid hq1
  have HN := Lib.hid hn
  have HY := Lib.hid (hy.below (hb1.mono hB))
  have HB1 := Lib.hid hb1
  have HZ1 := Lib.hid hz1
  have HSM := Lib.hid hsm
  have HAL : Hid (q.all l = setC (q.hitsE (epsTo l n))) := Lib.hid (by unfold epsTo; rw [List.take_of_length_le (by rw [hn]; exact Nat.le_refl _)]; rfl)
  generalize q.all l = R at *
  have hnl : n ≤ 100000 := by rw [hn]; exact hsm.len
  have hBz : B ≤ (W.alloc (.cells #[.string sv, .string op, .string ky, .string vl, .int .i64 du, .bool er] 68)).heap.size := by rw [hz1]; omega
  clear hb1 hq1 hz1 hq hn hy hsm
  go_enter Try.func85, Try.ntmps85
  go_wp2_with fail
  generalize W.alloc (.cells #[.string sv, .string op, .string ky, .string vl, .int .i64 du, .bool er] 68) = W1 at *
  go_loopw [5, 6] (fun v i wr => ∃ k : Nat, i = .int .i64 k ∧ k ≤ n ∧ Hid (wr.ownsRow W1.heap.size 28 2 v (setC (q.hitsE (epsTo l k))).length ((setC (q.hitsE (epsTo l k))).flatMap trC)) ∧ Hid (Below W1.heap.size W1 wr)) (fun _ i _ => n - (intOf i).toNat)
  case atStart => exact ⟨0, rfl, Nat.zero_le _, Lib.hid (World.ownsRow_nil _ _ _ _), Lib.hid (Below.refl _ _)⟩
  case round =>
    obtain ⟨k, rfl, hk, HO, HB⟩ := hrel
    by_cases hlt : k < n
    · obtain ⟨x, hx⟩ : ∃ x, l[k]? = some x := ⟨_, List.getElem?_eq_getElem (by rw [← HN.out]; exact hlt)⟩
      have hst := epsTo_step hx
      have hel := epsTo_len l (k + 1)
      have hes := HSM.out.eps
      have hsp := HSM.out.spans x (List.mem_of_getElem? hx)
      obtain ⟨nu, bo, ti, es, eA, ec⟩ := x
      simp only at hst hsp
      obtain ⟨m, hm⟩ : ∃ m, m = es.length := ⟨_, rfl⟩
      rw [hst, List.length_append, ← hm] at hel
      have hm5 : m ≤ 100000 := by omega
      have hcnt : (epsTo l k).length + m ≤ 100000 := by omega
      have HCNT := Lib.hid hcnt
      have HST := Lib.hid hst
      have HSP := Lib.hid hsp
      have HM := Lib.hid hm
      have HLX := Lib.hid hx
      clear hx hst hel hes hm hcnt hsp
      go_wp2_with fail
      go_loopw [5, 7] (fun v i wr => ∃ j : Nat, i = .int .i64 j ∧ j ≤ m ∧ Hid (wr.ownsRow W1.heap.size 28 2 v (setC (q.hitsE (epsTo l k ++ es.take j))).length ((setC (q.hitsE (epsTo l k ++ es.take j))).flatMap trC)) ∧ Hid (Below W1.heap.size W1 wr)) (fun _ i _ => m - (intOf i).toNat)
      case atStart => exact ⟨0, rfl, Nat.zero_le _, Lib.hid (by rw [List.take_zero, List.append_nil]; exact HO.out), HB⟩
      case round =>
        obtain ⟨j, rfl, hj, HOj, HBj⟩ := hrel
        obtain ⟨a, ha, hab, c0, c1, c2, c3, hre⟩ := blcells (HY.out.below (HBj.out.mono hBz)) HLX.out m HM.out
        subst ha
        by_cases hlt2 : j < m
        · have dj : decide ((j : Int) < (m : Int)) = true := decide_eq_true (by omega)
          obtain ⟨e, he⟩ : ∃ e, es[j]? = some e := ⟨_, List.getElem?_eq_getElem (by rw [← HM.out]; exact hlt2)⟩
          have hfold : setC (q.hitsE (epsTo l k ++ es.take (j + 1))) = if q.hit e = true then insC (trE e) (setC (q.hitsE (epsTo l k ++ es.take j))) else setC (q.hitsE (epsTo l k ++ es.take j)) := by
            rw [List.take_add_one, he, ← List.append_assoc]
            show setC (q.hitsE ((epsTo l k ++ es.take j) ++ [e])) = _
            rw [hitsE_snoc]
            by_cases hh : q.hit e = true
            · rw [if_pos hh, if_pos hh, setC_snoc]
            · rw [if_neg hh, if_neg hh, List.append_nil]
          have hlen : (setC (q.hitsE (epsTo l k ++ es.take j))).length ≤ 100000 := by
            have h0 := setC_len (q.hitsE (epsTo l k ++ es.take j))
            have h1 := hitsE_len q (epsTo l k ++ es.take j)
            rw [List.length_append, List.length_take] at h1
            have h2 := HCNT.out
            omega
          have HIA := Lib.hid (fun p (h1 : p ≤ (setC (q.hitsE (epsTo l k ++ es.take j))).length) h2 h3 => insC_at (trE e) (setC (q.hitsE (epsTo l k ++ es.take j))) (setC_inc _) p h1 h2 h3)
          have hse := HSP.out e (List.mem_of_getElem? he)
          obtain ⟨th, tl, f, la, su, ls, sA, sc⟩ := e
          obtain ⟨sn, hsn⟩ : ∃ z, z = ls.length := ⟨_, rfl⟩
          obtain ⟨ae, hae, haeb, g0, g1, g2, g3, g4, g5, hrs⟩ := epcells hre he sn hsn
          subst hae
          have hsn5 : sn ≤ 100000 := by rw [hsn]; exact hse.1
          have HSA := Lib.hid hse.2
          have hbe := (Below.refl wr.heap.size wr).alloc (Nat.le_refl _) (.cells #[.int .u64 th, .int .u64 tl, .int .i64 f, .int .i64 la, .bool su, .slice sA sn sc] 48)
          have HBX := Lib.hid (heap_alloc_new wr (.cells #[.int .u64 th, .int .u64 tl, .int .i64 f, .int .i64 la, .bool su, .slice sA sn sc] 48))
          have HBE := Lib.hid (HBj.out.trans (hbe.mono HBj.out.size))
          have HOE := Lib.hid (own_below HOj.out hbe)
          have HRS := Lib.hid ((hrs.below (hbe.mono (Nat.le_trans hBz HBj.out.size))).more (B' := (wr.alloc (.cells #[.int .u64 th, .int .u64 tl, .int .i64 f, .int .i64 la, .bool su, .slice sA sn sc] 48)).heap.size) (Nat.le_trans hBz (Nat.le_trans HBj.out.size hbe.size)))
          have HQE := Lib.hid ((HBE.out.block _ (by rw [HZ1.out]; omega)).trans HQ1.out)
          have hze : wr.heap.size < (wr.alloc (.cells #[.int .u64 th, .int .u64 tl, .int .i64 f, .int .i64 la, .bool su, .slice sA sn sc] 48)).heap.size := by simp
          have HSN := Lib.hid hsn
          have HFD := Lib.hid hfold
          have hlen6 := hlen
          clear he hrs hbe hre hsn hfold hse hlen
          generalize setC (q.hitsE (epsTo l k ++ es.take j)) = D at *
          obtain ⟨d, hd⟩ : ∃ d, D.length = d := ⟨_, rfl⟩
          rw [hd] at HOE hlen6
          have HDd := Lib.hid hd
          clear hd
          obtain ⟨Ad, cd, hv, hcd, hrd⟩ := own_rd HOE.out
          have hcap : cd ≤ maxLen := by
            have h := HOE.out
            rw [hv] at h
            exact (own_capq h).2
          simp only [maxLen] at hcap
          subst hv
          have HROW := Lib.hid hrd
          clear hrd
          go_wp2_with fail
          generalize hwe : wr.alloc (.cells #[.int .u64 th, .int .u64 tl, .int .i64 f, .int .i64 la, .bool su, .slice sA sn sc] 48) = we at *
          clear g0 g1 g2 g3 g4 g5
          clear hwe
          generalize hbx : wr.heap.size = bx at *
          clear hbx
          go_loopw [9, 10] (fun b i wr => ∃ (bb : Bool) (r : Nat), b = .bool bb ∧ i = .int .i64 r ∧ r ≤ sn ∧ Hid (bb = (ls.take r).any (fun x => q.mt x.s)) ∧ Hid (Below we.heap.size we wr)) (fun _ i _ => sn - (intOf i).toNat)
          case atStart => exact ⟨_, 0, rfl, rfl, Nat.zero_le _, Lib.hid (by simp), Lib.hid (Below.refl _ _)⟩
          case round =>
            obtain ⟨bb, r, rfl, rfl, hr, HBB, HB3⟩ := hrel
            have hx9 := (HB3.out.block _ (in_heap HBX.out)).trans HBX.out
            have x5 : wr.cell? ⟨bx, 5, none⟩ = some (.slice sA sn sc) := cell_of_row _ _ 5 _ _ (0, 0) hx9
            clear hx9
            by_cases hltr : r < sn
            · have dr : decide ((r : Int) < (sn : Int)) = true := decide_eq_true (by omega)
              obtain ⟨y, hy⟩ : ∃ x, ls[r]? = some x := ⟨_, List.getElem?_eq_getElem (by rw [← HSN.out]; exact hltr)⟩
              have HST2 : Hid ((ls.take (r + 1)).any (fun x => q.mt x.s) = ((ls.take r).any (fun x => q.mt x.s) || q.mt y.s)) := Lib.hid (by rw [List.take_add_one, hy]; simp)
              cases bb
              · obtain ⟨asp, ha1, ha2, w3s, ha4⟩ := (HRS.out.below HB3.out).at_ hy
                subst ha1
                have HDM := Lib.hid (fun V (hV : Below wr.heap.size wr V) => dmatch_any q y we.heap.size V ⟨ha4.rd.below (hV.mono HB3.out.size), ha4.cap, ha4.ok⟩ (Nat.le_trans HB3.out.size hV.size) (HSA.out y (List.mem_of_getElem? hy)))
                have hq9 := (HB3.out.block _ (in_heap HQE.out)).trans HQE.out
                have p0 : wr.cell? ⟨W.heap.size, 0, none⟩ = some (.string sv) := cell_of_row _ _ 0 _ _ (0, 0) hq9
                have p1 : wr.cell? ⟨W.heap.size, 1, none⟩ = some (.string op) := cell_of_row _ _ 1 _ _ (0, 0) hq9
                have p2 : wr.cell? ⟨W.heap.size, 2, none⟩ = some (.string ky) := cell_of_row _ _ 2 _ _ (0, 0) hq9
                have p3 : wr.cell? ⟨W.heap.size, 3, none⟩ = some (.string vl) := cell_of_row _ _ 3 _ _ (0, 0) hq9
                have p4 : wr.cell? ⟨W.heap.size, 4, none⟩ = some (.int .i64 du) := cell_of_row _ _ 4 _ _ (0, 0) hq9
                have p5 : wr.cell? ⟨W.heap.size, 5, none⟩ = some (.bool er) := cell_of_row _ _ 5 _ _ (0, 0) hq9
                have HNX : Hid (q.mt y.s = (ls.take (r + 1)).any (fun x => q.mt x.s)) := Lib.hid (by rw [HST2.out, ← HBB.out, Bool.false_or])
                generalize q.mt y.s = my at *
                obtain ⟨⟨s0, s1, s2, s3, s4, s5, s6, s7, s8, sat⟩, s9, s10⟩ := y
                simp only [Ls.cells] at *
                generalize sat.length = sm at *
                have r0 : wr.cell? (asp.add (r * 10)) = some (.int .u64 s0) := w3s 0 _ rfl
                have r1 : wr.cell? ⟨(asp.add (r * 10)).block, (asp.add (r * 10)).off + 1, none⟩ = some (.int .u64 s1) := cell_far (w3s 1 _ rfl) (by omega)
                have r2 : wr.cell? ⟨(asp.add (r * 10)).block, (asp.add (r * 10)).off + 2, none⟩ = some (.int .u64 s2) := cell_far (w3s 2 _ rfl) (by omega)
                have r3 : wr.cell? ⟨(asp.add (r * 10)).block, (asp.add (r * 10)).off + 3, none⟩ = some (.int .u64 s3) := cell_far (w3s 3 _ rfl) (by omega)
                have r4 : wr.cell? ⟨(asp.add (r * 10)).block, (asp.add (r * 10)).off + 4, none⟩ = some (.string s4) := cell_far (w3s 4 _ rfl) (by omega)
                have r5 : wr.cell? ⟨(asp.add (r * 10)).block, (asp.add (r * 10)).off + 5, none⟩ = some (.string s5) := cell_far (w3s 5 _ rfl) (by omega)
                have r6 : wr.cell? ⟨(asp.add (r * 10)).block, (asp.add (r * 10)).off + 6, none⟩ = some (.int .i64 s6) := cell_far (w3s 6 _ rfl) (by omega)
                have r7 : wr.cell? ⟨(asp.add (r * 10)).block, (asp.add (r * 10)).off + 7, none⟩ = some (.int .i64 s7) := cell_far (w3s 7 _ rfl) (by omega)
                have r8 : wr.cell? ⟨(asp.add (r * 10)).block, (asp.add (r * 10)).off + 8, none⟩ = some (.bool s8) := cell_far (w3s 8 _ rfl) (by omega)
                have r9 : wr.cell? ⟨(asp.add (r * 10)).block, (asp.add (r * 10)).off + 9, none⟩ = some (.slice s9 sm s10) := cell_far (w3s 9 _ rfl) (by omega)
                rw [HQL.out] at HDM
                simp only [Qm.cells] at HDM
                clear hy ha2 w3s ha4 hq9
                go_wp2_with fail
                go_still_tail 8, (by kernel_rfl)
                change wpList _ _ _ _ _ wr.drew
                have HBd := Lib.hid (HB3.out.drew)
                have HDM2 := Lib.hid (HDM.out wr.drew ⟨rfl, rfl, rfl, Nat.le_refl _, fun _ _ => rfl⟩)
                generalize wr.drew = wd at *
                go_wp2_with (go_at_call 45; (with_reducible refine (HDM2.out).mono ?_); rintro e6 w6 ⟨rfl, hb6⟩; have HB6 := Lib.hid (HBd.out.trans (hb6.mono HBd.out.size)); clear hb6)
                go_roundw
                case rel => exact ⟨my, r + 1, rfl, by go_num, by omega, HNX, HB6⟩
                case measure => simp [intOf]; omega
              · have HNX : Hid (true = (ls.take (r + 1)).any (fun x => q.mt x.s)) := Lib.hid (by rw [HST2.out, ← HBB.out, Bool.true_or])
                clear hy
                go_wp2_with fail
                go_region
                go_wp2_with fail
                have HBd := Lib.hid (HB3.out.drew)
                go_roundw
                case rel => exact ⟨true, r + 1, rfl, by go_num, by omega, HNX, HBd⟩
                case measure => simp [intOf]; omega
            · obtain rfl : r = sn := by omega
              have dr : decide ((r : Int) < (r : Int)) = false := decide_eq_false (by omega)
              have hbb := HBB.out
              rw [List.take_of_length_le (by rw [HSN.out]; exact Nat.le_refl _)] at hbb
              have HBB := Lib.hid (show bb = q.hit ⟨th, tl, f, la, su, ls, sA, sc⟩ from hbb)
              clear hbb
              go_wp2_with fail
              go_loopw [11] (fun i wr => ∃ p : Nat, i = .int .i64 p ∧ p ≤ d ∧ Hid (∀ i x, i < p → D[i]? = some x → ltC x ((th, tl) : Tc)) ∧ Hid (Below we.heap.size we wr)) (fun i _ => d - (intOf i).toNat)
              case atStart => exact ⟨0, rfl, Nat.zero_le _, Lib.hid (fun i x hi => absurd hi (Nat.not_lt_zero _)), HB3⟩
              case round =>
                obtain ⟨p, rfl, hp, HLS, HB4⟩ := hrel
                have hx9 := (HB4.out.block _ (in_heap HBX.out)).trans HBX.out
                have x0 : wr.cell? ⟨bx, 0, none⟩ = some (.int .u64 th) := cell_of_row _ _ 0 _ _ (0, 0) hx9
                have x1 : wr.cell? ⟨bx, 1, none⟩ = some (.int .u64 tl) := cell_of_row _ _ 1 _ _ (0, 0) hx9
                clear hx9
                by_cases hlt4 : p < d
                · have dp : decide ((p : Int) < (d : Int)) = true := decide_eq_true (by omega)
                  obtain ⟨y, hy⟩ : ∃ x, D[p]? = some x := ⟨_, List.getElem?_eq_getElem (by rw [HDd.out]; exact hlt4)⟩
                  have HYD := Lib.hid hy
                  obtain ⟨ad, had, hadb, y0, y1⟩ := tr_at (HROW.out.below HB4.out) hy
                  subst had
                  have HLT := Lib.hid (fun W => dlessT_lit y.1 y.2 th tl W)
                  have hdec := ltC_dec y ((th, tl) : Tc)
                  simp only at hdec
                  rw [hdec] at HLT
                  have i1 : (p : Int) < (d : Int) := by omega
                  clear hy hdec
                  by_cases hl : ltC y ((th, tl) : Tc)
                  · rw [decide_eq_true hl] at HLT
                    have HLS2 : Hid (∀ i x, i < p + 1 → D[i]? = some x → ltC x ((th, tl) : Tc)) := Lib.hid (fun i x hi hx => by
                      rcases Nat.lt_or_ge i p with g | g
                      · exact HLS.out i x g hx
                      · obtain rfl : i = p := by omega
                        rw [HYD.out] at hx
                        obtain rfl := Option.some.inj hx
                        exact hl)
                    clear hl
                    go_wp2_with fail
                    go_still_tail 11, (by kernel_rfl)
                    change wpList _ _ _ _ _ wr.drew
                    have HBd := Lib.hid (HB4.out.drew)
                    generalize wr.drew = wd at *
                    go_wp2_with (go_at_call 32; (with_reducible refine (HLT.out _).mono ?_); rintro e6 w6 ⟨rfl, hb6⟩; have HB6 := Lib.hid (HBd.out.trans (hb6.mono HBd.out.size)); clear hb6)
                    go_roundw
                    case rel => exact ⟨p + 1, by go_num, by omega, HLS2, HB6⟩
                    case measure => simp [intOf]; omega
                  · rw [decide_eq_false hl] at HLT
                    have HNL := Lib.hid hl
                    clear hl
                    go_wp2_with fail
                    go_still_tail 11, (by kernel_rfl)
                    change wpList _ _ _ _ _ wr.drew
                    have HBd := Lib.hid (HB4.out.drew)
                    generalize wr.drew = wd at *
                    go_wp2_with (go_at_call 32; (with_reducible refine (HLT.out _).mono ?_); rintro e6 w6 ⟨rfl, hb6⟩; have HB6 := Lib.hid (HBd.out.trans (hb6.mono HBd.out.size)); clear hb6)
                    have HB4 := HB6
                    clear HB6 x0 x1 y0 y1
                    have hx9 := (HB4.out.block _ (in_heap HBX.out)).trans HBX.out
                    have x0 : w6.cell? ⟨bx, 0, none⟩ = some (.int .u64 th) := cell_of_row _ _ 0 _ _ (0, 0) hx9
                    have x1 : w6.cell? ⟨bx, 1, none⟩ = some (.int .u64 tl) := cell_of_row _ _ 1 _ _ (0, 0) hx9
                    clear hx9
                    obtain ⟨ad2, had2, _, y0, y1⟩ := tr_at (HROW.out.below HB4.out) HYD.out
                    obtain rfl := Option.some.inj had2
                    clear had2
                    cases bb
                    · have HO9 := Lib.hid (own_below HOE.out HB4.out)
                      have HBX9 := Lib.hid (HBE.out.trans (HB4.out.mono HBE.out.size).drew)
                      have HSAME : Hid (setC (q.hitsE (epsTo l k ++ es.take (j + 1))) = D) := Lib.hid (by rw [HFD.out, ← HBB.out]; rfl)
                      go_wp2_with fail
                      go_region
                      go_wp2_with fail
                      go_roundw
                      case rel => exact ⟨j + 1, by go_num, by omega, Lib.hid (by rw [HSAME.out, HDd.out]; exact HO9.out), HBX9⟩
                      case measure => simp [intOf]; omega
                    · have hins := HIA.out p (by rw [HDd.out]; omega) (fun i x hi hx => HLS.out i x hi hx) (fun x hx => by rw [HYD.out] at hx; obtain rfl := Option.some.inj hx; exact HNL.out)
                      have HIN := Lib.hid hins
                      clear hins
                      have kp : ((p : Int) == (d : Int)) = false := by rw [beq_eq_false_iff_ne]; omega
                      rcases (show ((y.1 == th) = false) ∨ ((y.1 == th) = true ∧ (y.2 == tl) = false) ∨ ((y.1 == th) = true ∧ (y.2 == tl) = true) from by cases (y.1 == th) <;> cases (y.2 == tl) <;> simp) with q1 | ⟨q1, q2⟩ | ⟨q1, q2⟩
                      · have HNE := Lib.hid (show y ≠ ((th, tl) : Tc) from fun e => by rw [e] at q1; simp at q1)
                        rcases HOE.out.2 with ⟨hv0, hd0⟩ | ⟨g, cap, cur, hv1, hg1, hb1', hc1', hm1', hcs1, ht1⟩
                        · exfalso
                          injection hv0 with e1 e2 e3
                          omega
                        · injection hv1 with e1 e2 e3
                          obtain rfl := Option.some.inj e1
                          subst e3
                          clear hg1 hb1' hc1' hm1' hcs1 ht1 e1
                          have hda : (⟨g, 0, none⟩ : Addr).add (p * 2) = ⟨g, p * 2, none⟩ := by rw [Addr.add_lit, Nat.zero_add]
                          simp only [hda] at y0 y1
                          have HINS : Hid (setC (q.hitsE (epsTo l k ++ es.take (j + 1))) = D.take p ++ [(th, tl)] ++ D.drop p) := Lib.hid (by rw [HFD.out, if_pos HBB.out.symm]; exact HIN.out.trans ((if_neg (by rw [HYD.out]; intro h; exact HNE.out (Option.some.inj h))).trans (by rw [List.append_assoc]; rfl)))
                          go_wp2_with fail
                          go_region
                          go_wp2_with fail
                          obtain ⟨wN, hwN⟩ : ∃ w, w = w6.drew.drew := ⟨_, rfl⟩
                          have HB9 := Lib.hid (show Below W1.heap.size W1 wN from by rw [hwN]; exact (HBE.out.trans (HB4.out.mono HBE.out.size)).drew.drew)
                          have HW9 := Lib.hid (show Below we.heap.size we wN from by rw [hwN]; exact HB4.out.drew.drew)
                          obtain ⟨N, hNd⟩ : ∃ n, n = wN.heap.size := ⟨_, rfl⟩
                          have hN : N ≤ wN.heap.size := Nat.le_of_eq hNd
                          have HDd2 := HDd.out
                          have hDd : D.length = d := HDd2
                          have t1 : (p : Int) ≤ (cd : Int) := by omega
                          have t2 : p ≤ cd := by omega
                          have t3 : (cd = 0) = False := by simp; omega
                          have t4 : (p : Int) ≤ (d : Int) := by omega
                          have t6 : (d : Int) ≤ (cd : Int) := by omega
                          have t7 : (⟨g, 0, none⟩ : Addr).add (p * 2) = ⟨g, p * 2, none⟩ := by rw [Addr.add_lit, Nat.zero_add]
                          have t8 : d ≤ cd := by omega
                          have t9 : (cd = p) = False := by simp; omega
                          have t10 : ((p : Int) < 0) = False := by simp
                          have t11 : p ≤ d := by omega
                          have t12 : (cd - p = 0) = False := by simp; omega
                          have HRD := Lib.hid (show ∀ V, Below N wN V → Rd V N (some ⟨g, 0, none⟩) ((D.take p).flatMap trC) ∧ Rd V N (some ⟨g, p * 2, none⟩) ((D.drop p).flatMap trC) ∧ V.cell? ⟨bx, 0, none⟩ = some (.int .u64 th) ∧ V.cell? ⟨bx, 1, none⟩ = some (.int .u64 tl) from fun V hV => by
                            have hW := HW9.out.trans (hV.mono (by rw [hNd]; exact HW9.out.size))
                            have hr := ((HROW.out.below hW).more (B' := N) (by rw [hNd]; exact HW9.out.size))
                            have hx := (hW.block _ (in_heap HBX.out)).trans HBX.out
                            refine ⟨?_, ?_, cell_of_row _ _ 0 _ _ (0, 0) hx, cell_of_row _ _ 1 _ _ (0, 0) hx⟩
                            · rw [← flatT_take]; exact hr.take _
                            · rw [← flatT_drop]
                              intro h
                              obtain ⟨a, ha, hab, hc⟩ := hr (by rw [List.length_drop] at h; omega)
                              obtain rfl := Option.some.inj ha
                              exact ⟨_, rfl, hab, fun j u hu => by
                                rw [List.getElem?_drop] at hu
                                have := hc _ u hu
                                rw [Addr.add_lit, Nat.zero_add] at this
                                rw [Addr.add_lit]
                                exact this⟩)
                          refine PI.wp_region_persG (R := fun a b => Below N a b) (G := fun _ _ => True) (I := fun _ _ _ => True) [(2, 0), (2, 1), (3, 2), (5, 4), (6, 5), (7, 3), (7, 6), (10, 8), (10, 9), (11, 7), (11, 10), (12, 11)] [12] (by kernel_rfl) (PI.formed_of (by kernel_rfl)) GOESN (fun _ => trivial) (DnF (.slice (some ⟨g, 0, none⟩) d cd) (.slice (some ⟨g, 0, none⟩) p cd) (.slice (some ⟨g, p * 2, none⟩) (d - p) (cd - p)) p d bx N th tl D) trivial ?_ ?_
                          · rw [← hwN]
                            intro i o ho
                            rcases i with _ | _ | _ | _ | _ | _ | _ | _ | _ | _ | _ | _ | _ | i
                            · obtain rfl := Option.some.inj (show some _ = some o from ho)
                              refine PI.shown_val rfl fun a w3 L0 hr T => ?_
                              have h1 : a.eval (.tmp 5) = .slice (some ⟨g, 0, none⟩) d cd := T.was 5 (by kernel_rfl)
                              exact ⟨.slice (some ⟨g, 0, none⟩) d cd, w3, by simp only [execOp, h1]; simp [go_sem], PI.Post.pure GOESN rfl trivial⟩
                            · obtain rfl := Option.some.inj (show some _ = some o from ho)
                              refine PI.shown_val rfl fun a w3 L0 hr T => ?_
                              have h1 : a.eval (.tmp 11) = .int .i64 (p : Int) := T.was 11 (by kernel_rfl)
                              exact ⟨.int .i64 (p : Int), w3, by simp only [execOp, h1]; simp [go_sem], PI.Post.pure GOESN rfl trivial⟩
                            · obtain rfl := Option.some.inj (show some _ = some o from ho)
                              refine PI.shown_val rfl fun a w3 L0 hr T => ?_
                              have h1 : a.eval (.tmp 84) = .slice (some ⟨g, 0, none⟩) d cd := T.at_ 0 84 (by kernel_rfl) (by kernel_rfl) (by kernel_rfl)
                              have h2 : a.eval (.tmp 85) = .int .i64 (p : Int) := T.at_ 1 85 (by kernel_rfl) (by kernel_rfl) (by kernel_rfl)
                              exact ⟨.slice (some ⟨g, 0, none⟩) p cd, w3, by simp only [execOp, h1, h2, Option.map]; simp [go_sem, t1, t2, t3, t9, t10], PI.Post.pure GOESN rfl trivial⟩
                            · obtain rfl := Option.some.inj (show some _ = some o from ho)
                              refine PI.shown_val rfl fun a w3 L0 hr T => ?_
                              have h1 : a.eval (.tmp 86) = .slice (some ⟨g, 0, none⟩) p cd := T.at_ 2 86 (by kernel_rfl) (by kernel_rfl) (by kernel_rfl)
                              have h0 : a.eval (.const (.slice none 0 0)) = .slice none 0 0 := rfl
                              have hsz : N ≤ w3.heap.size := Nat.le_trans hN hr.size
                              obtain ⟨v9, w9, e9, ho9, hg9⟩ := appTrs (ty := 76) (c := cd) (n := 0) (L := []) (World.ownsRow_nil w3 N 28 2) (K := D.take p) ((HRD.out w3 hr).1) (m := p) (by rw [List.length_take, hDd]; omega) (by omega) hsz
                              have hb9 : Below w3.heap.size w3 w9 := hg9.below (Below.refl _ _) (Nat.le_refl _) (fun k hk => by simp [Value.ownBlock] at hk)
                              refine ⟨v9, w9, by simp only [execOp, resolve, invoke, builtin, Sem.run_bind, Sem.run_pure, Result.andThen_ok, List.map_toArray, List.map_cons, List.map_nil, h0, h1, e9], hb9.mono hsz, (by rw [Nat.zero_add, List.nil_append] at ho9; exact ho9), fun _ _ h => h, fun j u hj hLj hnd hw h => ?_, trivial⟩
                              by_cases hjr : j = 3 ∨ j = 6 ∨ j = 7 ∨ j = 11 ∨ j = 12
                              · rcases hjr with rfl | rfl | rfl | rfl | rfl
                                · exact absurd rfl hj
                                · obtain ⟨z, h1, h2, h3⟩ := h; exact ⟨z, h1, (hb9.block z (in_heap h2)).trans h2, h3⟩
                                · exact absurd (T.shut_ 7 3 (by kernel_rfl) hLj) (by rw [T.yetNot]; decide)
                                · exact absurd (T.shut_ 7 3 (by kernel_rfl) (T.shut_ 11 7 (by kernel_rfl) hLj)) (by rw [T.yetNot]; decide)
                                · exact absurd (T.shut_ 7 3 (by kernel_rfl) (T.shut_ 11 7 (by kernel_rfl) (T.shut_ 12 11 (by kernel_rfl) hLj))) (by rw [T.yetNot]; decide)
                              · exact DnF.other h hjr
                            · obtain rfl := Option.some.inj (show some _ = some o from ho)
                              refine PI.shown_val rfl fun a w3 L0 hr T => ?_
                              have h1 : a.eval (.tmp 8) = .pointer (some ⟨bx, 0, none⟩) := T.was 8 (by kernel_rfl)
                              exact ⟨.pointer (some ⟨bx, 0, none⟩), w3, by simp only [execOp, h1]; simp [go_sem], PI.Post.pure GOESN rfl trivial⟩
                            · obtain rfl := Option.some.inj (show some _ = some o from ho)
                              refine PI.shown_val rfl fun a w3 L0 hr T => ?_
                              have h1 : a.eval (.tmp 88) = .pointer (some ⟨bx, 0, none⟩) := T.at_ 4 88 (by kernel_rfl) (by kernel_rfl) (by kernel_rfl)
                              obtain ⟨z0, z1⟩ := (HRD.out w3 hr).2.2
                              exact ⟨.agg #[.int .u64 th, .int .u64 tl], w3, by simp only [execOp, h1]; simp [go_sem, z0, z1], PI.Post.pure GOESN rfl trivial⟩
                            · obtain rfl := Option.some.inj (show some _ = some o from ho)
                              refine PI.shown_val rfl fun a w3 L0 hr T => ?_
                              have h1 : a.eval (.tmp 89) = .agg #[.int .u64 th, .int .u64 tl] := T.at_ 5 89 (by kernel_rfl) (by kernel_rfl) (by kernel_rfl)
                              have hsz : N ≤ w3.heap.size := Nat.le_trans hN hr.size
                              have hb9 : Below w3.heap.size w3 (w3.alloc (.cells #[.int .u64 th, .int .u64 tl] 28)) := (Below.refl _ _).alloc (Nat.le_refl _) _
                              refine ⟨.slice (some ⟨w3.heap.size, 0, none⟩) 1 1, w3.alloc (.cells #[.int .u64 th, .int .u64 tl] 28), by simp only [execOp, List.map_toArray, List.map_cons, List.map_nil, h1]; simp [go_sem], hb9.mono hsz, ⟨w3.heap.size, rfl, heap_alloc_new _ _, hsz⟩, fun _ _ h => h, fun j u hj hLj hnd hw h => ?_, trivial⟩
                              by_cases hjr : j = 3 ∨ j = 6 ∨ j = 7 ∨ j = 11 ∨ j = 12
                              · rcases hjr with rfl | rfl | rfl | rfl | rfl
                                · exact own_below h hb9
                                · exact absurd rfl hj
                                · exact absurd (T.shut_ 7 6 (by kernel_rfl) hLj) (by rw [T.yetNot]; decide)
                                · exact absurd (T.shut_ 7 6 (by kernel_rfl) (T.shut_ 11 7 (by kernel_rfl) hLj)) (by rw [T.yetNot]; decide)
                                · exact absurd (T.shut_ 7 6 (by kernel_rfl) (T.shut_ 11 7 (by kernel_rfl) (T.shut_ 12 11 (by kernel_rfl) hLj))) (by rw [T.yetNot]; decide)
                              · exact DnF.other h hjr
                            · obtain rfl := Option.some.inj (show some _ = some o from ho)
                              refine PI.shown_val rfl fun a w3 L0 hr T => ?_
                              have h1 : w3.ownsRow N 28 2 (a.eval (.tmp 87)) p ((D.take p).flatMap trC) := T.at_ 3 87 (by kernel_rfl) (by kernel_rfl) (by kernel_rfl)
                              obtain ⟨z, h2, h3, h4⟩ := T.at_ 6 90 (by kernel_rfl) (by kernel_rfl) (by kernel_rfl)
                              have hsz : N ≤ w3.heap.size := Nat.le_trans hN hr.size
                              have hrz : Rd w3 (z + 1) (some ⟨z, 0, none⟩) (([(th, tl)] : List Tc).flatMap trC) := fun _ => ⟨_, rfl, Nat.lt_succ_self _, fun j u hu => by
                                rw [Addr.add_lit, Nat.zero_add, cell_of_row _ z j _ _ (0, 0) h3]
                                simpa [trC] using hu⟩
                              obtain ⟨v9, w9, e9, ho9, hg9⟩ := appTrs (ty := 76) (c := 1) h1 (K := [(th, tl)]) hrz (m := 1) rfl (by omega) hsz
                              have hb9 : Below N w3 w9 := hg9.below (Below.refl _ _) hsz (own_block_ge h1)
                              refine ⟨v9, w9, by simp only [execOp, resolve, invoke, builtin, Sem.run_bind, Sem.run_pure, Result.andThen_ok, List.map_toArray, List.map_cons, List.map_nil, h2, e9], hb9, ho9, fun _ _ h => h, fun j u hj hLj hnd hw h => ?_, trivial⟩
                              by_cases hjr : j = 3 ∨ j = 6 ∨ j = 7 ∨ j = 11 ∨ j = 12
                              · rcases hjr with rfl | rfl | rfl | rfl | rfl
                                · simp [PI.needB] at hnd
                                · simp [PI.needB] at hnd
                                · exact absurd rfl hj
                                · exact absurd (T.shut_ 11 7 (by kernel_rfl) hLj) (by rw [T.yetNot]; decide)
                                · exact absurd (T.shut_ 11 7 (by kernel_rfl) (T.shut_ 12 11 (by kernel_rfl) hLj)) (by rw [T.yetNot]; decide)
                              · exact DnF.other h hjr
                            · obtain rfl := Option.some.inj (show some _ = some o from ho)
                              refine PI.shown_val rfl fun a w3 L0 hr T => ?_
                              have h1 : a.eval (.tmp 5) = .slice (some ⟨g, 0, none⟩) d cd := T.was 5 (by kernel_rfl)
                              exact ⟨.slice (some ⟨g, 0, none⟩) d cd, w3, by simp only [execOp, h1]; simp [go_sem], PI.Post.pure GOESN rfl trivial⟩
                            · obtain rfl := Option.some.inj (show some _ = some o from ho)
                              refine PI.shown_val rfl fun a w3 L0 hr T => ?_
                              have h1 : a.eval (.tmp 11) = .int .i64 (p : Int) := T.was 11 (by kernel_rfl)
                              exact ⟨.int .i64 (p : Int), w3, by simp only [execOp, h1]; simp [go_sem], PI.Post.pure GOESN rfl trivial⟩
                            · obtain rfl := Option.some.inj (show some _ = some o from ho)
                              refine PI.shown_val rfl fun a w3 L0 hr T => ?_
                              have h1 : a.eval (.tmp 92) = .slice (some ⟨g, 0, none⟩) d cd := T.at_ 8 92 (by kernel_rfl) (by kernel_rfl) (by kernel_rfl)
                              have h2 : a.eval (.tmp 93) = .int .i64 (p : Int) := T.at_ 9 93 (by kernel_rfl) (by kernel_rfl) (by kernel_rfl)
                              exact ⟨.slice (some ⟨g, p * 2, none⟩) (d - p) (cd - p), w3, by simp only [execOp, h1, h2, Option.map]; simp [go_sem, t1, t2, t3, t4, t6, t7, t8, t9, t10, t11, t12], PI.Post.pure GOESN rfl trivial⟩
                            · obtain rfl := Option.some.inj (show some _ = some o from ho)
                              refine PI.shown_val rfl fun a w3 L0 hr T => ?_
                              have h1 : w3.ownsRow N 28 2 (a.eval (.tmp 91)) (p + 1) ((D.take p ++ [(th, tl)]).flatMap trC) := T.at_ 7 91 (by kernel_rfl) (by kernel_rfl) (by kernel_rfl)
                              have h2 : a.eval (.tmp 94) = .slice (some ⟨g, p * 2, none⟩) (d - p) (cd - p) := T.at_ 10 94 (by kernel_rfl) (by kernel_rfl) (by kernel_rfl)
                              have hL7 : L0 7 = true := T.done _ (Array.mem_of_getElem? (i := 0) rfl) rfl
                              have hsz : N ≤ w3.heap.size := Nat.le_trans hN hr.size
                              obtain ⟨v9, w9, e9, ho9, hg9⟩ := appTrs (ty := 76) (c := (cd - p)) h1 (K := D.drop p) ((HRD.out w3 hr).2.1) (m := (d - p)) (by rw [List.length_drop, hDd]; try omega) (by omega) hsz
                              have hb9 : Below N w3 w9 := hg9.below (Below.refl _ _) hsz (own_block_ge h1)
                              refine ⟨v9, w9, by simp only [execOp, resolve, invoke, builtin, Sem.run_bind, Sem.run_pure, Result.andThen_ok, List.map_toArray, List.map_cons, List.map_nil, h2, e9], hb9, by (have e1 : p + 1 + ((d - p)) = d + 1 := by omega); rw [e1] at ho9; exact ho9, fun _ _ h => h, fun j u hj hLj hnd hw h => ?_, trivial⟩
                              by_cases hjr : j = 3 ∨ j = 6 ∨ j = 7 ∨ j = 11 ∨ j = 12
                              · rcases hjr with rfl | rfl | rfl | rfl | rfl
                                · simp [PI.needB, hL7] at hnd
                                · simp [PI.needB, hL7] at hnd
                                · simp [PI.needB] at hnd
                                · exact absurd rfl hj
                                · exact absurd (T.shut_ 12 11 (by kernel_rfl) hLj) (by rw [T.yetNot]; decide)
                              · exact DnF.other h hjr
                            · obtain rfl := Option.some.inj (show some _ = some o from ho)
                              refine PI.shown_val rfl fun a w3 L0 hr T => ?_
                              have h1 : w3.ownsRow N 28 2 (a.eval (.tmp 95)) (d + 1) ((D.take p ++ [(th, tl)] ++ D.drop p).flatMap trC) := T.at_ 11 95 (by kernel_rfl) (by kernel_rfl) (by kernel_rfl)
                              exact ⟨a.eval (.tmp 95), w3, by simp only [execOp]; simp [go_sem], PI.Post.pure GOESN h1 trivial⟩
                            · cases ho
                          · rw [← hwN]
                            intro x w9 hr hf he _
                            have h1 := hf 12 _ 5 rfl rfl (by decide)
                            change w9.ownsRow N 28 2 (x 12) (d + 1) ((D.take p ++ [(th, tl)] ++ D.drop p).flatMap trC) at h1
                            have HBX9 := Lib.hid (HB9.out.trans (hr.mono (by rw [hNd]; exact HB9.out.size)))
                            have HO9 := Lib.hid (own_mono (base' := W1.heap.size) h1 (by rw [hNd]; exact HB9.out.size))
                            obtain ⟨A9, c9, hv9, _, _⟩ := own_rd h1
                            rw [hv9] at HO9
                            simp only [PI.putAll, Act.put, List.setIfInBounds_toArray, List.set_cons_zero, List.set_cons_succ]
                            rw [hv9]
                            clear hf he h1 hr hv9
                            go_wp2_with fail
                            go_roundw
                            case rel => exact ⟨j + 1, by go_num, by omega, Lib.hid (by rw [HINS.out, show (D.take p ++ [(th, tl)] ++ D.drop p).length = d + 1 from by simp [hDd] <;> omega]; exact HO9.out), HBX9⟩
                            case measure => simp [intOf]; omega
                      · have HNE := Lib.hid (show y ≠ ((th, tl) : Tc) from fun e => by rw [e] at q2; simp at q2)
                        rcases HOE.out.2 with ⟨hv0, hd0⟩ | ⟨g, cap, cur, hv1, hg1, hb1', hc1', hm1', hcs1, ht1⟩
                        · exfalso
                          injection hv0 with e1 e2 e3
                          omega
                        · injection hv1 with e1 e2 e3
                          obtain rfl := Option.some.inj e1
                          subst e3
                          clear hg1 hb1' hc1' hm1' hcs1 ht1 e1
                          have hda : (⟨g, 0, none⟩ : Addr).add (p * 2) = ⟨g, p * 2, none⟩ := by rw [Addr.add_lit, Nat.zero_add]
                          simp only [hda] at y0 y1
                          have HINS : Hid (setC (q.hitsE (epsTo l k ++ es.take (j + 1))) = D.take p ++ [(th, tl)] ++ D.drop p) := Lib.hid (by rw [HFD.out, if_pos HBB.out.symm]; exact HIN.out.trans ((if_neg (by rw [HYD.out]; intro h; exact HNE.out (Option.some.inj h))).trans (by rw [List.append_assoc]; rfl)))
                          go_wp2_with fail
                          go_region
                          go_wp2_with fail
                          obtain ⟨wN, hwN⟩ : ∃ w, w = w6.drew.drew := ⟨_, rfl⟩
                          have HB9 := Lib.hid (show Below W1.heap.size W1 wN from by rw [hwN]; exact (HBE.out.trans (HB4.out.mono HBE.out.size)).drew.drew)
                          have HW9 := Lib.hid (show Below we.heap.size we wN from by rw [hwN]; exact HB4.out.drew.drew)
                          obtain ⟨N, hNd⟩ : ∃ n, n = wN.heap.size := ⟨_, rfl⟩
                          have hN : N ≤ wN.heap.size := Nat.le_of_eq hNd
                          have HDd2 := HDd.out
                          have hDd : D.length = d := HDd2
                          have t1 : (p : Int) ≤ (cd : Int) := by omega
                          have t2 : p ≤ cd := by omega
                          have t3 : (cd = 0) = False := by simp; omega
                          have t4 : (p : Int) ≤ (d : Int) := by omega
                          have t6 : (d : Int) ≤ (cd : Int) := by omega
                          have t7 : (⟨g, 0, none⟩ : Addr).add (p * 2) = ⟨g, p * 2, none⟩ := by rw [Addr.add_lit, Nat.zero_add]
                          have t8 : d ≤ cd := by omega
                          have t9 : (cd = p) = False := by simp; omega
                          have t10 : ((p : Int) < 0) = False := by simp
                          have t11 : p ≤ d := by omega
                          have t12 : (cd - p = 0) = False := by simp; omega
                          have HRD := Lib.hid (show ∀ V, Below N wN V → Rd V N (some ⟨g, 0, none⟩) ((D.take p).flatMap trC) ∧ Rd V N (some ⟨g, p * 2, none⟩) ((D.drop p).flatMap trC) ∧ V.cell? ⟨bx, 0, none⟩ = some (.int .u64 th) ∧ V.cell? ⟨bx, 1, none⟩ = some (.int .u64 tl) from fun V hV => by
                            have hW := HW9.out.trans (hV.mono (by rw [hNd]; exact HW9.out.size))
                            have hr := ((HROW.out.below hW).more (B' := N) (by rw [hNd]; exact HW9.out.size))
                            have hx := (hW.block _ (in_heap HBX.out)).trans HBX.out
                            refine ⟨?_, ?_, cell_of_row _ _ 0 _ _ (0, 0) hx, cell_of_row _ _ 1 _ _ (0, 0) hx⟩
                            · rw [← flatT_take]; exact hr.take _
                            · rw [← flatT_drop]
                              intro h
                              obtain ⟨a, ha, hab, hc⟩ := hr (by rw [List.length_drop] at h; omega)
                              obtain rfl := Option.some.inj ha
                              exact ⟨_, rfl, hab, fun j u hu => by
                                rw [List.getElem?_drop] at hu
                                have := hc _ u hu
                                rw [Addr.add_lit, Nat.zero_add] at this
                                rw [Addr.add_lit]
                                exact this⟩)
                          refine PI.wp_region_persG (R := fun a b => Below N a b) (G := fun _ _ => True) (I := fun _ _ _ => True) [(2, 0), (2, 1), (3, 2), (5, 4), (6, 5), (7, 3), (7, 6), (10, 8), (10, 9), (11, 7), (11, 10), (12, 11)] [12] (by kernel_rfl) (PI.formed_of (by kernel_rfl)) GOESN (fun _ => trivial) (DnF (.slice (some ⟨g, 0, none⟩) d cd) (.slice (some ⟨g, 0, none⟩) p cd) (.slice (some ⟨g, p * 2, none⟩) (d - p) (cd - p)) p d bx N th tl D) trivial ?_ ?_
                          · rw [← hwN]
                            intro i o ho
                            rcases i with _ | _ | _ | _ | _ | _ | _ | _ | _ | _ | _ | _ | _ | i
                            · obtain rfl := Option.some.inj (show some _ = some o from ho)
                              refine PI.shown_val rfl fun a w3 L0 hr T => ?_
                              have h1 : a.eval (.tmp 5) = .slice (some ⟨g, 0, none⟩) d cd := T.was 5 (by kernel_rfl)
                              exact ⟨.slice (some ⟨g, 0, none⟩) d cd, w3, by simp only [execOp, h1]; simp [go_sem], PI.Post.pure GOESN rfl trivial⟩
                            · obtain rfl := Option.some.inj (show some _ = some o from ho)
                              refine PI.shown_val rfl fun a w3 L0 hr T => ?_
                              have h1 : a.eval (.tmp 11) = .int .i64 (p : Int) := T.was 11 (by kernel_rfl)
                              exact ⟨.int .i64 (p : Int), w3, by simp only [execOp, h1]; simp [go_sem], PI.Post.pure GOESN rfl trivial⟩
                            · obtain rfl := Option.some.inj (show some _ = some o from ho)
                              refine PI.shown_val rfl fun a w3 L0 hr T => ?_
                              have h1 : a.eval (.tmp 84) = .slice (some ⟨g, 0, none⟩) d cd := T.at_ 0 84 (by kernel_rfl) (by kernel_rfl) (by kernel_rfl)
                              have h2 : a.eval (.tmp 85) = .int .i64 (p : Int) := T.at_ 1 85 (by kernel_rfl) (by kernel_rfl) (by kernel_rfl)
                              exact ⟨.slice (some ⟨g, 0, none⟩) p cd, w3, by simp only [execOp, h1, h2, Option.map]; simp [go_sem, t1, t2, t3, t9, t10], PI.Post.pure GOESN rfl trivial⟩
                            · obtain rfl := Option.some.inj (show some _ = some o from ho)
                              refine PI.shown_val rfl fun a w3 L0 hr T => ?_
                              have h1 : a.eval (.tmp 86) = .slice (some ⟨g, 0, none⟩) p cd := T.at_ 2 86 (by kernel_rfl) (by kernel_rfl) (by kernel_rfl)
                              have h0 : a.eval (.const (.slice none 0 0)) = .slice none 0 0 := rfl
                              have hsz : N ≤ w3.heap.size := Nat.le_trans hN hr.size
                              obtain ⟨v9, w9, e9, ho9, hg9⟩ := appTrs (ty := 76) (c := cd) (n := 0) (L := []) (World.ownsRow_nil w3 N 28 2) (K := D.take p) ((HRD.out w3 hr).1) (m := p) (by rw [List.length_take, hDd]; omega) (by omega) hsz
                              have hb9 : Below w3.heap.size w3 w9 := hg9.below (Below.refl _ _) (Nat.le_refl _) (fun k hk => by simp [Value.ownBlock] at hk)
                              refine ⟨v9, w9, by simp only [execOp, resolve, invoke, builtin, Sem.run_bind, Sem.run_pure, Result.andThen_ok, List.map_toArray, List.map_cons, List.map_nil, h0, h1, e9], hb9.mono hsz, (by rw [Nat.zero_add, List.nil_append] at ho9; exact ho9), fun _ _ h => h, fun j u hj hLj hnd hw h => ?_, trivial⟩
                              by_cases hjr : j = 3 ∨ j = 6 ∨ j = 7 ∨ j = 11 ∨ j = 12
                              · rcases hjr with rfl | rfl | rfl | rfl | rfl
                                · exact absurd rfl hj
                                · obtain ⟨z, h1, h2, h3⟩ := h; exact ⟨z, h1, (hb9.block z (in_heap h2)).trans h2, h3⟩
                                · exact absurd (T.shut_ 7 3 (by kernel_rfl) hLj) (by rw [T.yetNot]; decide)
                                · exact absurd (T.shut_ 7 3 (by kernel_rfl) (T.shut_ 11 7 (by kernel_rfl) hLj)) (by rw [T.yetNot]; decide)
                                · exact absurd (T.shut_ 7 3 (by kernel_rfl) (T.shut_ 11 7 (by kernel_rfl) (T.shut_ 12 11 (by kernel_rfl) hLj))) (by rw [T.yetNot]; decide)
                              · exact DnF.other h hjr
                            · obtain rfl := Option.some.inj (show some _ = some o from ho)
                              refine PI.shown_val rfl fun a w3 L0 hr T => ?_
                              have h1 : a.eval (.tmp 8) = .pointer (some ⟨bx, 0, none⟩) := T.was 8 (by kernel_rfl)
                              exact ⟨.pointer (some ⟨bx, 0, none⟩), w3, by simp only [execOp, h1]; simp [go_sem], PI.Post.pure GOESN rfl trivial⟩
                            · obtain rfl := Option.some.inj (show some _ = some o from ho)
                              refine PI.shown_val rfl fun a w3 L0 hr T => ?_
                              have h1 : a.eval (.tmp 88) = .pointer (some ⟨bx, 0, none⟩) := T.at_ 4 88 (by kernel_rfl) (by kernel_rfl) (by kernel_rfl)
                              obtain ⟨z0, z1⟩ := (HRD.out w3 hr).2.2
                              exact ⟨.agg #[.int .u64 th, .int .u64 tl], w3, by simp only [execOp, h1]; simp [go_sem, z0, z1], PI.Post.pure GOESN rfl trivial⟩
                            · obtain rfl := Option.some.inj (show some _ = some o from ho)
                              refine PI.shown_val rfl fun a w3 L0 hr T => ?_
                              have h1 : a.eval (.tmp 89) = .agg #[.int .u64 th, .int .u64 tl] := T.at_ 5 89 (by kernel_rfl) (by kernel_rfl) (by kernel_rfl)
                              have hsz : N ≤ w3.heap.size := Nat.le_trans hN hr.size
                              have hb9 : Below w3.heap.size w3 (w3.alloc (.cells #[.int .u64 th, .int .u64 tl] 28)) := (Below.refl _ _).alloc (Nat.le_refl _) _
                              refine ⟨.slice (some ⟨w3.heap.size, 0, none⟩) 1 1, w3.alloc (.cells #[.int .u64 th, .int .u64 tl] 28), by simp only [execOp, List.map_toArray, List.map_cons, List.map_nil, h1]; simp [go_sem], hb9.mono hsz, ⟨w3.heap.size, rfl, heap_alloc_new _ _, hsz⟩, fun _ _ h => h, fun j u hj hLj hnd hw h => ?_, trivial⟩
                              by_cases hjr : j = 3 ∨ j = 6 ∨ j = 7 ∨ j = 11 ∨ j = 12
                              · rcases hjr with rfl | rfl | rfl | rfl | rfl
                                · exact own_below h hb9
                                · exact absurd rfl hj
                                · exact absurd (T.shut_ 7 6 (by kernel_rfl) hLj) (by rw [T.yetNot]; decide)
                                · exact absurd (T.shut_ 7 6 (by kernel_rfl) (T.shut_ 11 7 (by kernel_rfl) hLj)) (by rw [T.yetNot]; decide)
                                · exact absurd (T.shut_ 7 6 (by kernel_rfl) (T.shut_ 11 7 (by kernel_rfl) (T.shut_ 12 11 (by kernel_rfl) hLj))) (by rw [T.yetNot]; decide)
                              · exact DnF.other h hjr
                            · obtain rfl := Option.some.inj (show some _ = some o from ho)
                              refine PI.shown_val rfl fun a w3 L0 hr T => ?_
                              have h1 : w3.ownsRow N 28 2 (a.eval (.tmp 87)) p ((D.take p).flatMap trC) := T.at_ 3 87 (by kernel_rfl) (by kernel_rfl) (by kernel_rfl)
                              obtain ⟨z, h2, h3, h4⟩ := T.at_ 6 90 (by kernel_rfl) (by kernel_rfl) (by kernel_rfl)
                              have hsz : N ≤ w3.heap.size := Nat.le_trans hN hr.size
                              have hrz : Rd w3 (z + 1) (some ⟨z, 0, none⟩) (([(th, tl)] : List Tc).flatMap trC) := fun _ => ⟨_, rfl, Nat.lt_succ_self _, fun j u hu => by
                                rw [Addr.add_lit, Nat.zero_add, cell_of_row _ z j _ _ (0, 0) h3]
                                simpa [trC] using hu⟩
                              obtain ⟨v9, w9, e9, ho9, hg9⟩ := appTrs (ty := 76) (c := 1) h1 (K := [(th, tl)]) hrz (m := 1) rfl (by omega) hsz
                              have hb9 : Below N w3 w9 := hg9.below (Below.refl _ _) hsz (own_block_ge h1)
                              refine ⟨v9, w9, by simp only [execOp, resolve, invoke, builtin, Sem.run_bind, Sem.run_pure, Result.andThen_ok, List.map_toArray, List.map_cons, List.map_nil, h2, e9], hb9, ho9, fun _ _ h => h, fun j u hj hLj hnd hw h => ?_, trivial⟩
                              by_cases hjr : j = 3 ∨ j = 6 ∨ j = 7 ∨ j = 11 ∨ j = 12
                              · rcases hjr with rfl | rfl | rfl | rfl | rfl
                                · simp [PI.needB] at hnd
                                · simp [PI.needB] at hnd
                                · exact absurd rfl hj
                                · exact absurd (T.shut_ 11 7 (by kernel_rfl) hLj) (by rw [T.yetNot]; decide)
                                · exact absurd (T.shut_ 11 7 (by kernel_rfl) (T.shut_ 12 11 (by kernel_rfl) hLj)) (by rw [T.yetNot]; decide)
                              · exact DnF.other h hjr
                            · obtain rfl := Option.some.inj (show some _ = some o from ho)
                              refine PI.shown_val rfl fun a w3 L0 hr T => ?_
                              have h1 : a.eval (.tmp 5) = .slice (some ⟨g, 0, none⟩) d cd := T.was 5 (by kernel_rfl)
                              exact ⟨.slice (some ⟨g, 0, none⟩) d cd, w3, by simp only [execOp, h1]; simp [go_sem], PI.Post.pure GOESN rfl trivial⟩
                            · obtain rfl := Option.some.inj (show some _ = some o from ho)
                              refine PI.shown_val rfl fun a w3 L0 hr T => ?_
                              have h1 : a.eval (.tmp 11) = .int .i64 (p : Int) := T.was 11 (by kernel_rfl)
                              exact ⟨.int .i64 (p : Int), w3, by simp only [execOp, h1]; simp [go_sem], PI.Post.pure GOESN rfl trivial⟩
                            · obtain rfl := Option.some.inj (show some _ = some o from ho)
                              refine PI.shown_val rfl fun a w3 L0 hr T => ?_
                              have h1 : a.eval (.tmp 92) = .slice (some ⟨g, 0, none⟩) d cd := T.at_ 8 92 (by kernel_rfl) (by kernel_rfl) (by kernel_rfl)
                              have h2 : a.eval (.tmp 93) = .int .i64 (p : Int) := T.at_ 9 93 (by kernel_rfl) (by kernel_rfl) (by kernel_rfl)
                              exact ⟨.slice (some ⟨g, p * 2, none⟩) (d - p) (cd - p), w3, by simp only [execOp, h1, h2, Option.map]; simp [go_sem, t1, t2, t3, t4, t6, t7, t8, t9, t10, t11, t12], PI.Post.pure GOESN rfl trivial⟩
                            · obtain rfl := Option.some.inj (show some _ = some o from ho)
                              refine PI.shown_val rfl fun a w3 L0 hr T => ?_
                              have h1 : w3.ownsRow N 28 2 (a.eval (.tmp 91)) (p + 1) ((D.take p ++ [(th, tl)]).flatMap trC) := T.at_ 7 91 (by kernel_rfl) (by kernel_rfl) (by kernel_rfl)
                              have h2 : a.eval (.tmp 94) = .slice (some ⟨g, p * 2, none⟩) (d - p) (cd - p) := T.at_ 10 94 (by kernel_rfl) (by kernel_rfl) (by kernel_rfl)
                              have hL7 : L0 7 = true := T.done _ (Array.mem_of_getElem? (i := 0) rfl) rfl
                              have hsz : N ≤ w3.heap.size := Nat.le_trans hN hr.size
                              obtain ⟨v9, w9, e9, ho9, hg9⟩ := appTrs (ty := 76) (c := (cd - p)) h1 (K := D.drop p) ((HRD.out w3 hr).2.1) (m := (d - p)) (by rw [List.length_drop, hDd]; try omega) (by omega) hsz
                              have hb9 : Below N w3 w9 := hg9.below (Below.refl _ _) hsz (own_block_ge h1)
                              refine ⟨v9, w9, by simp only [execOp, resolve, invoke, builtin, Sem.run_bind, Sem.run_pure, Result.andThen_ok, List.map_toArray, List.map_cons, List.map_nil, h2, e9], hb9, by (have e1 : p + 1 + ((d - p)) = d + 1 := by omega); rw [e1] at ho9; exact ho9, fun _ _ h => h, fun j u hj hLj hnd hw h => ?_, trivial⟩
                              by_cases hjr : j = 3 ∨ j = 6 ∨ j = 7 ∨ j = 11 ∨ j = 12
                              · rcases hjr with rfl | rfl | rfl | rfl | rfl
                                · simp [PI.needB, hL7] at hnd
                                · simp [PI.needB, hL7] at hnd
                                · simp [PI.needB] at hnd
                                · exact absurd rfl hj
                                · exact absurd (T.shut_ 12 11 (by kernel_rfl) hLj) (by rw [T.yetNot]; decide)
                              · exact DnF.other h hjr
                            · obtain rfl := Option.some.inj (show some _ = some o from ho)
                              refine PI.shown_val rfl fun a w3 L0 hr T => ?_
                              have h1 : w3.ownsRow N 28 2 (a.eval (.tmp 95)) (d + 1) ((D.take p ++ [(th, tl)] ++ D.drop p).flatMap trC) := T.at_ 11 95 (by kernel_rfl) (by kernel_rfl) (by kernel_rfl)
                              exact ⟨a.eval (.tmp 95), w3, by simp only [execOp]; simp [go_sem], PI.Post.pure GOESN h1 trivial⟩
                            · cases ho
                          · rw [← hwN]
                            intro x w9 hr hf he _
                            have h1 := hf 12 _ 5 rfl rfl (by decide)
                            change w9.ownsRow N 28 2 (x 12) (d + 1) ((D.take p ++ [(th, tl)] ++ D.drop p).flatMap trC) at h1
                            have HBX9 := Lib.hid (HB9.out.trans (hr.mono (by rw [hNd]; exact HB9.out.size)))
                            have HO9 := Lib.hid (own_mono (base' := W1.heap.size) h1 (by rw [hNd]; exact HB9.out.size))
                            obtain ⟨A9, c9, hv9, _, _⟩ := own_rd h1
                            rw [hv9] at HO9
                            simp only [PI.putAll, Act.put, List.setIfInBounds_toArray, List.set_cons_zero, List.set_cons_succ]
                            rw [hv9]
                            clear hf he h1 hr hv9
                            go_wp2_with fail
                            go_roundw
                            case rel => exact ⟨j + 1, by go_num, by omega, Lib.hid (by rw [HINS.out, show (D.take p ++ [(th, tl)] ++ D.drop p).length = d + 1 from by simp [hDd] <;> omega]; exact HO9.out), HBX9⟩
                            case measure => simp [intOf]; omega
                      · have HEQ := Lib.hid (show y = ((th, tl) : Tc) from Prod.ext (beq_iff_eq.1 q1) (beq_iff_eq.1 q2))
                        have HO9 := Lib.hid (own_below HOE.out HB4.out)
                        have HBX9 := Lib.hid (HBE.out.trans (HB4.out.mono HBE.out.size).drew)
                        have HSAME : Hid (setC (q.hitsE (epsTo l k ++ es.take (j + 1))) = D) := Lib.hid (by rw [HFD.out, if_pos HBB.out.symm]; exact HIN.out.trans (if_pos (by rw [HYD.out, HEQ.out]; rfl)))
                        go_wp2_with fail
                        go_region
                        go_wp2_with fail
                        go_roundw
                        case rel => exact ⟨j + 1, by go_num, by omega, Lib.hid (by rw [HSAME.out, HDd.out]; exact HO9.out), HBX9⟩
                        case measure => simp [intOf]; omega
                · obtain rfl : p = d := by omega
                  have dp : decide ((p : Int) < (p : Int)) = false := decide_eq_false (by omega)
                  go_wp2_with fail
                  go_region
                  go_wp2_with fail
                  have HB4 := Lib.hid HB4.out.drew
                  cases bb
                  · have HO9 := Lib.hid (own_below HOE.out HB4.out)
                    have HBX9 := Lib.hid (HBE.out.trans (HB4.out.mono HBE.out.size).drew)
                    have HSAME : Hid (setC (q.hitsE (epsTo l k ++ es.take (j + 1))) = D) := Lib.hid (by rw [HFD.out, ← HBB.out]; rfl)
                    go_wp2_with fail
                    go_region
                    go_wp2_with fail
                    go_roundw
                    case rel => exact ⟨j + 1, by go_num, by omega, Lib.hid (by rw [HSAME.out, HDd.out]; exact HO9.out), HBX9⟩
                    case measure => simp [intOf]; omega
                  · have hins := HIA.out p (by rw [HDd.out]; omega) (fun i x hi hx => HLS.out i x hi hx) (fun x hx => by rw [List.getElem?_eq_none (by rw [HDd.out]; exact Nat.le_refl _)] at hx; cases hx)
                    rw [if_neg (by rw [List.getElem?_eq_none (by rw [HDd.out]; exact Nat.le_refl _)]; intro h; cases h)] at hins
                    have HIN := Lib.hid hins
                    clear hins
                    rcases HOE.out.2 with ⟨hv0, hd0⟩ | ⟨g, cap, cur, hv1, hg1, hb1', hc1', hm1', hcs1, ht1⟩
                    · injection hv0 with e1 e2 e3
                      subst e1 e3
                      have hp0 : p = 0 := by omega
                      have HINS : Hid (setC (q.hitsE (epsTo l k ++ es.take (j + 1))) = D.take p ++ [(th, tl)] ++ D.drop p) := Lib.hid (by rw [HFD.out, if_pos HBB.out.symm]; exact HIN.out.trans (by rw [List.append_assoc]; rfl))
                      go_wp2_with fail
                      go_region
                      go_wp2_with fail
                      obtain ⟨wN, hwN⟩ : ∃ w, w = wr.drew.drew.drew := ⟨_, rfl⟩
                      have HB9 := Lib.hid (show Below W1.heap.size W1 wN from by rw [hwN]; exact (HBE.out.trans (HB4.out.mono HBE.out.size)).drew.drew)
                      have HW9 := Lib.hid (show Below we.heap.size we wN from by rw [hwN]; exact HB4.out.drew.drew)
                      obtain ⟨N, hNd⟩ : ∃ n, n = wN.heap.size := ⟨_, rfl⟩
                      have hN : N ≤ wN.heap.size := Nat.le_of_eq hNd
                      have HDd2 := HDd.out
                      have hDd : D.length = p := HDd2
                      have HRD := Lib.hid (show ∀ V, Below N wN V → Rd V N none ((D.take p).flatMap trC) ∧ Rd V N none ((D.drop p).flatMap trC) ∧ V.cell? ⟨bx, 0, none⟩ = some (.int .u64 th) ∧ V.cell? ⟨bx, 1, none⟩ = some (.int .u64 tl) from fun V hV => by
                        have hW := HW9.out.trans (hV.mono (by rw [hNd]; exact HW9.out.size))
                        have hr := ((HROW.out.below hW).more (B' := N) (by rw [hNd]; exact HW9.out.size))
                        have hx := (hW.block _ (in_heap HBX.out)).trans HBX.out
                        refine ⟨?_, ?_, cell_of_row _ _ 0 _ _ (0, 0) hx, cell_of_row _ _ 1 _ _ (0, 0) hx⟩
                        · rw [← flatT_take]; exact hr.take _
                        · rw [List.drop_eq_nil_of_le (by omega)]; exact fun h => by simp at h)
                      refine PI.wp_region_persG (R := fun a b => Below N a b) (G := fun _ _ => True) (I := fun _ _ _ => True) [(2, 0), (2, 1), (3, 2), (5, 4), (6, 5), (7, 3), (7, 6), (10, 8), (10, 9), (11, 7), (11, 10), (12, 11)] [12] (by kernel_rfl) (PI.formed_of (by kernel_rfl)) GOESN (fun _ => trivial) (DnF (.slice none p 0) (.slice none p 0) (.slice none (p - p) (0 - p)) p p bx N th tl D) trivial ?_ ?_
                      · rw [← hwN]
                        intro i o ho
                        rcases i with _ | _ | _ | _ | _ | _ | _ | _ | _ | _ | _ | _ | _ | i
                        · obtain rfl := Option.some.inj (show some _ = some o from ho)
                          refine PI.shown_val rfl fun a w3 L0 hr T => ?_
                          have h1 : a.eval (.tmp 5) = .slice none p 0 := T.was 5 (by kernel_rfl)
                          exact ⟨.slice none p 0, w3, by simp only [execOp, h1]; simp [go_sem], PI.Post.pure GOESN rfl trivial⟩
                        · obtain rfl := Option.some.inj (show some _ = some o from ho)
                          refine PI.shown_val rfl fun a w3 L0 hr T => ?_
                          have h1 : a.eval (.tmp 11) = .int .i64 (p : Int) := T.was 11 (by kernel_rfl)
                          exact ⟨.int .i64 (p : Int), w3, by simp only [execOp, h1]; simp [go_sem], PI.Post.pure GOESN rfl trivial⟩
                        · obtain rfl := Option.some.inj (show some _ = some o from ho)
                          refine PI.shown_val rfl fun a w3 L0 hr T => ?_
                          have h1 : a.eval (.tmp 84) = .slice none p 0 := T.at_ 0 84 (by kernel_rfl) (by kernel_rfl) (by kernel_rfl)
                          have h2 : a.eval (.tmp 85) = .int .i64 (p : Int) := T.at_ 1 85 (by kernel_rfl) (by kernel_rfl) (by kernel_rfl)
                          exact ⟨.slice none p 0, w3, by simp only [execOp, h1, h2, Option.map]; simp [go_sem, hp0], PI.Post.pure GOESN rfl trivial⟩
                        · obtain rfl := Option.some.inj (show some _ = some o from ho)
                          refine PI.shown_val rfl fun a w3 L0 hr T => ?_
                          have h1 : a.eval (.tmp 86) = .slice none p 0 := T.at_ 2 86 (by kernel_rfl) (by kernel_rfl) (by kernel_rfl)
                          have h0 : a.eval (.const (.slice none 0 0)) = .slice none 0 0 := rfl
                          have hsz : N ≤ w3.heap.size := Nat.le_trans hN hr.size
                          obtain ⟨v9, w9, e9, ho9, hg9⟩ := appTrs (ty := 76) (c := 0) (n := 0) (L := []) (World.ownsRow_nil w3 N 28 2) (K := D.take p) ((HRD.out w3 hr).1) (m := p) (by rw [List.length_take, hDd]; omega) (by omega) hsz
                          have hb9 : Below w3.heap.size w3 w9 := hg9.below (Below.refl _ _) (Nat.le_refl _) (fun k hk => by simp [Value.ownBlock] at hk)
                          refine ⟨v9, w9, by simp only [execOp, resolve, invoke, builtin, Sem.run_bind, Sem.run_pure, Result.andThen_ok, List.map_toArray, List.map_cons, List.map_nil, h0, h1, e9], hb9.mono hsz, (by rw [Nat.zero_add, List.nil_append] at ho9; exact ho9), fun _ _ h => h, fun j u hj hLj hnd hw h => ?_, trivial⟩
                          by_cases hjr : j = 3 ∨ j = 6 ∨ j = 7 ∨ j = 11 ∨ j = 12
                          · rcases hjr with rfl | rfl | rfl | rfl | rfl
                            · exact absurd rfl hj
                            · obtain ⟨z, h1, h2, h3⟩ := h; exact ⟨z, h1, (hb9.block z (in_heap h2)).trans h2, h3⟩
                            · exact absurd (T.shut_ 7 3 (by kernel_rfl) hLj) (by rw [T.yetNot]; decide)
                            · exact absurd (T.shut_ 7 3 (by kernel_rfl) (T.shut_ 11 7 (by kernel_rfl) hLj)) (by rw [T.yetNot]; decide)
                            · exact absurd (T.shut_ 7 3 (by kernel_rfl) (T.shut_ 11 7 (by kernel_rfl) (T.shut_ 12 11 (by kernel_rfl) hLj))) (by rw [T.yetNot]; decide)
                          · exact DnF.other h hjr
                        · obtain rfl := Option.some.inj (show some _ = some o from ho)
                          refine PI.shown_val rfl fun a w3 L0 hr T => ?_
                          have h1 : a.eval (.tmp 8) = .pointer (some ⟨bx, 0, none⟩) := T.was 8 (by kernel_rfl)
                          exact ⟨.pointer (some ⟨bx, 0, none⟩), w3, by simp only [execOp, h1]; simp [go_sem], PI.Post.pure GOESN rfl trivial⟩
                        · obtain rfl := Option.some.inj (show some _ = some o from ho)
                          refine PI.shown_val rfl fun a w3 L0 hr T => ?_
                          have h1 : a.eval (.tmp 88) = .pointer (some ⟨bx, 0, none⟩) := T.at_ 4 88 (by kernel_rfl) (by kernel_rfl) (by kernel_rfl)
                          obtain ⟨z0, z1⟩ := (HRD.out w3 hr).2.2
                          exact ⟨.agg #[.int .u64 th, .int .u64 tl], w3, by simp only [execOp, h1]; simp [go_sem, z0, z1], PI.Post.pure GOESN rfl trivial⟩
                        · obtain rfl := Option.some.inj (show some _ = some o from ho)
                          refine PI.shown_val rfl fun a w3 L0 hr T => ?_
                          have h1 : a.eval (.tmp 89) = .agg #[.int .u64 th, .int .u64 tl] := T.at_ 5 89 (by kernel_rfl) (by kernel_rfl) (by kernel_rfl)
                          have hsz : N ≤ w3.heap.size := Nat.le_trans hN hr.size
                          have hb9 : Below w3.heap.size w3 (w3.alloc (.cells #[.int .u64 th, .int .u64 tl] 28)) := (Below.refl _ _).alloc (Nat.le_refl _) _
                          refine ⟨.slice (some ⟨w3.heap.size, 0, none⟩) 1 1, w3.alloc (.cells #[.int .u64 th, .int .u64 tl] 28), by simp only [execOp, List.map_toArray, List.map_cons, List.map_nil, h1]; simp [go_sem], hb9.mono hsz, ⟨w3.heap.size, rfl, heap_alloc_new _ _, hsz⟩, fun _ _ h => h, fun j u hj hLj hnd hw h => ?_, trivial⟩
                          by_cases hjr : j = 3 ∨ j = 6 ∨ j = 7 ∨ j = 11 ∨ j = 12
                          · rcases hjr with rfl | rfl | rfl | rfl | rfl
                            · exact own_below h hb9
                            · exact absurd rfl hj
                            · exact absurd (T.shut_ 7 6 (by kernel_rfl) hLj) (by rw [T.yetNot]; decide)
                            · exact absurd (T.shut_ 7 6 (by kernel_rfl) (T.shut_ 11 7 (by kernel_rfl) hLj)) (by rw [T.yetNot]; decide)
                            · exact absurd (T.shut_ 7 6 (by kernel_rfl) (T.shut_ 11 7 (by kernel_rfl) (T.shut_ 12 11 (by kernel_rfl) hLj))) (by rw [T.yetNot]; decide)
                          · exact DnF.other h hjr
                        · obtain rfl := Option.some.inj (show some _ = some o from ho)
                          refine PI.shown_val rfl fun a w3 L0 hr T => ?_
                          have h1 : w3.ownsRow N 28 2 (a.eval (.tmp 87)) p ((D.take p).flatMap trC) := T.at_ 3 87 (by kernel_rfl) (by kernel_rfl) (by kernel_rfl)
                          obtain ⟨z, h2, h3, h4⟩ := T.at_ 6 90 (by kernel_rfl) (by kernel_rfl) (by kernel_rfl)
                          have hsz : N ≤ w3.heap.size := Nat.le_trans hN hr.size
                          have hrz : Rd w3 (z + 1) (some ⟨z, 0, none⟩) (([(th, tl)] : List Tc).flatMap trC) := fun _ => ⟨_, rfl, Nat.lt_succ_self _, fun j u hu => by
                            rw [Addr.add_lit, Nat.zero_add, cell_of_row _ z j _ _ (0, 0) h3]
                            simpa [trC] using hu⟩
                          obtain ⟨v9, w9, e9, ho9, hg9⟩ := appTrs (ty := 76) (c := 1) h1 (K := [(th, tl)]) hrz (m := 1) rfl (by omega) hsz
                          have hb9 : Below N w3 w9 := hg9.below (Below.refl _ _) hsz (own_block_ge h1)
                          refine ⟨v9, w9, by simp only [execOp, resolve, invoke, builtin, Sem.run_bind, Sem.run_pure, Result.andThen_ok, List.map_toArray, List.map_cons, List.map_nil, h2, e9], hb9, ho9, fun _ _ h => h, fun j u hj hLj hnd hw h => ?_, trivial⟩
                          by_cases hjr : j = 3 ∨ j = 6 ∨ j = 7 ∨ j = 11 ∨ j = 12
                          · rcases hjr with rfl | rfl | rfl | rfl | rfl
                            · simp [PI.needB] at hnd
                            · simp [PI.needB] at hnd
                            · exact absurd rfl hj
                            · exact absurd (T.shut_ 11 7 (by kernel_rfl) hLj) (by rw [T.yetNot]; decide)
                            · exact absurd (T.shut_ 11 7 (by kernel_rfl) (T.shut_ 12 11 (by kernel_rfl) hLj)) (by rw [T.yetNot]; decide)
                          · exact DnF.other h hjr
                        · obtain rfl := Option.some.inj (show some _ = some o from ho)
                          refine PI.shown_val rfl fun a w3 L0 hr T => ?_
                          have h1 : a.eval (.tmp 5) = .slice none p 0 := T.was 5 (by kernel_rfl)
                          exact ⟨.slice none p 0, w3, by simp only [execOp, h1]; simp [go_sem], PI.Post.pure GOESN rfl trivial⟩
                        · obtain rfl := Option.some.inj (show some _ = some o from ho)
                          refine PI.shown_val rfl fun a w3 L0 hr T => ?_
                          have h1 : a.eval (.tmp 11) = .int .i64 (p : Int) := T.was 11 (by kernel_rfl)
                          exact ⟨.int .i64 (p : Int), w3, by simp only [execOp, h1]; simp [go_sem], PI.Post.pure GOESN rfl trivial⟩
                        · obtain rfl := Option.some.inj (show some _ = some o from ho)
                          refine PI.shown_val rfl fun a w3 L0 hr T => ?_
                          have h1 : a.eval (.tmp 92) = .slice none p 0 := T.at_ 8 92 (by kernel_rfl) (by kernel_rfl) (by kernel_rfl)
                          have h2 : a.eval (.tmp 93) = .int .i64 (p : Int) := T.at_ 9 93 (by kernel_rfl) (by kernel_rfl) (by kernel_rfl)
                          exact ⟨.slice none (p - p) (0 - p), w3, by simp only [execOp, h1, h2, Option.map]; simp [go_sem, hp0], PI.Post.pure GOESN rfl trivial⟩
                        · obtain rfl := Option.some.inj (show some _ = some o from ho)
                          refine PI.shown_val rfl fun a w3 L0 hr T => ?_
                          have h1 : w3.ownsRow N 28 2 (a.eval (.tmp 91)) (p + 1) ((D.take p ++ [(th, tl)]).flatMap trC) := T.at_ 7 91 (by kernel_rfl) (by kernel_rfl) (by kernel_rfl)
                          have h2 : a.eval (.tmp 94) = .slice none (p - p) (0 - p) := T.at_ 10 94 (by kernel_rfl) (by kernel_rfl) (by kernel_rfl)
                          have hL7 : L0 7 = true := T.done _ (Array.mem_of_getElem? (i := 0) rfl) rfl
                          have hsz : N ≤ w3.heap.size := Nat.le_trans hN hr.size
                          obtain ⟨v9, w9, e9, ho9, hg9⟩ := appTrs (ty := 76) (c := (0 - p)) h1 (K := D.drop p) ((HRD.out w3 hr).2.1) (m := (p - p)) (by rw [List.length_drop, hDd]; try omega) (by omega) hsz
                          have hb9 : Below N w3 w9 := hg9.below (Below.refl _ _) hsz (own_block_ge h1)
                          refine ⟨v9, w9, by simp only [execOp, resolve, invoke, builtin, Sem.run_bind, Sem.run_pure, Result.andThen_ok, List.map_toArray, List.map_cons, List.map_nil, h2, e9], hb9, by (have e1 : p + 1 + ((p - p)) = p + 1 := by omega); rw [e1] at ho9; exact ho9, fun _ _ h => h, fun j u hj hLj hnd hw h => ?_, trivial⟩
                          by_cases hjr : j = 3 ∨ j = 6 ∨ j = 7 ∨ j = 11 ∨ j = 12
                          · rcases hjr with rfl | rfl | rfl | rfl | rfl
                            · simp [PI.needB, hL7] at hnd
                            · simp [PI.needB, hL7] at hnd
                            · simp [PI.needB] at hnd
                            · exact absurd rfl hj
                            · exact absurd (T.shut_ 12 11 (by kernel_rfl) hLj) (by rw [T.yetNot]; decide)
                          · exact DnF.other h hjr
                        · obtain rfl := Option.some.inj (show some _ = some o from ho)
                          refine PI.shown_val rfl fun a w3 L0 hr T => ?_
                          have h1 : w3.ownsRow N 28 2 (a.eval (.tmp 95)) (p + 1) ((D.take p ++ [(th, tl)] ++ D.drop p).flatMap trC) := T.at_ 11 95 (by kernel_rfl) (by kernel_rfl) (by kernel_rfl)
                          exact ⟨a.eval (.tmp 95), w3, by simp only [execOp]; simp [go_sem], PI.Post.pure GOESN h1 trivial⟩
                        · cases ho
                      · rw [← hwN]
                        intro x w9 hr hf he _
                        have h1 := hf 12 _ 5 rfl rfl (by decide)
                        change w9.ownsRow N 28 2 (x 12) (p + 1) ((D.take p ++ [(th, tl)] ++ D.drop p).flatMap trC) at h1
                        have HBX9 := Lib.hid (HB9.out.trans (hr.mono (by rw [hNd]; exact HB9.out.size)))
                        have HO9 := Lib.hid (own_mono (base' := W1.heap.size) h1 (by rw [hNd]; exact HB9.out.size))
                        obtain ⟨A9, c9, hv9, _, _⟩ := own_rd h1
                        rw [hv9] at HO9
                        simp only [PI.putAll, Act.put, List.setIfInBounds_toArray, List.set_cons_zero, List.set_cons_succ]
                        rw [hv9]
                        clear hf he h1 hr hv9
                        go_wp2_with fail
                        go_roundw
                        case rel => exact ⟨j + 1, by go_num, by omega, Lib.hid (by rw [HINS.out, show (D.take p ++ [(th, tl)] ++ D.drop p).length = p + 1 from by simp [hDd] <;> omega]; exact HO9.out), HBX9⟩
                        case measure => simp [intOf]; omega
                    · injection hv1 with e1 e2 e3
                      subst e1 e3
                      clear hg1 hb1' hc1' hm1' hcs1 ht1
                      by_cases hcp : cd = p
                      · have HCP := Lib.hid hcp
                        by_cases hc0 : cd = 0
                        · have HC0 := Lib.hid hc0
                          clear hcp hc0
                          have HINS : Hid (setC (q.hitsE (epsTo l k ++ es.take (j + 1))) = D.take p ++ [(th, tl)] ++ D.drop p) := Lib.hid (by rw [HFD.out, if_pos HBB.out.symm]; exact HIN.out.trans (by rw [List.append_assoc]; rfl))
                          go_wp2_with fail
                          go_region
                          go_wp2_with fail
                          obtain ⟨wN, hwN⟩ : ∃ w, w = wr.drew.drew.drew := ⟨_, rfl⟩
                          have HB9 := Lib.hid (show Below W1.heap.size W1 wN from by rw [hwN]; exact (HBE.out.trans (HB4.out.mono HBE.out.size)).drew.drew)
                          have HW9 := Lib.hid (show Below we.heap.size we wN from by rw [hwN]; exact HB4.out.drew.drew)
                          obtain ⟨N, hNd⟩ : ∃ n, n = wN.heap.size := ⟨_, rfl⟩
                          have hN : N ≤ wN.heap.size := Nat.le_of_eq hNd
                          have HDd2 := HDd.out
                          have hDd : D.length = p := HDd2
                          have hcp := HCP.out
                          have hc0 := HC0.out
                          have t1 : (p : Int) ≤ (cd : Int) := by omega
                          have t2 : p ≤ cd := by omega
                          have t3 : (cd = 0) = True := by simp; omega
                          have t4 : (p : Int) ≤ (p : Int) := by omega
                          have t6 : (p : Int) ≤ (cd : Int) := by omega
                          have t7 : (⟨g, 0, none⟩ : Addr).add (p * 2) = ⟨g, p * 2, none⟩ := by rw [Addr.add_lit, Nat.zero_add]
                          have t8 : p ≤ cd := by omega
                          have t9 : (cd = p) = True := by simp; omega
                          have t10 : ((p : Int) < 0) = False := by simp
                          have t11 : p ≤ p := by omega
                          have t12 : (cd - p = 0) = True := by simp; omega
                          clear hcp hc0
                          have HRD := Lib.hid (show ∀ V, Below N wN V → Rd V N (some ⟨g, 0, none⟩) ((D.take p).flatMap trC) ∧ Rd V N (some ⟨g, 0, none⟩) ((D.drop p).flatMap trC) ∧ V.cell? ⟨bx, 0, none⟩ = some (.int .u64 th) ∧ V.cell? ⟨bx, 1, none⟩ = some (.int .u64 tl) from fun V hV => by
                            have hW := HW9.out.trans (hV.mono (by rw [hNd]; exact HW9.out.size))
                            have hr := ((HROW.out.below hW).more (B' := N) (by rw [hNd]; exact HW9.out.size))
                            have hx := (hW.block _ (in_heap HBX.out)).trans HBX.out
                            refine ⟨?_, ?_, cell_of_row _ _ 0 _ _ (0, 0) hx, cell_of_row _ _ 1 _ _ (0, 0) hx⟩
                            · rw [← flatT_take]; exact hr.take _
                            · rw [List.drop_eq_nil_of_le (by omega)]; exact fun h => by simp at h)
                          refine PI.wp_region_persG (R := fun a b => Below N a b) (G := fun _ _ => True) (I := fun _ _ _ => True) [(2, 0), (2, 1), (3, 2), (5, 4), (6, 5), (7, 3), (7, 6), (10, 8), (10, 9), (11, 7), (11, 10), (12, 11)] [12] (by kernel_rfl) (PI.formed_of (by kernel_rfl)) GOESN (fun _ => trivial) (DnF (.slice (some ⟨g, 0, none⟩) p cd) (.slice (some ⟨g, 0, none⟩) p cd) (.slice (some ⟨g, 0, none⟩) (p - p) (cd - p)) p p bx N th tl D) trivial ?_ ?_
                          · rw [← hwN]
                            intro i o ho
                            rcases i with _ | _ | _ | _ | _ | _ | _ | _ | _ | _ | _ | _ | _ | i
                            · obtain rfl := Option.some.inj (show some _ = some o from ho)
                              refine PI.shown_val rfl fun a w3 L0 hr T => ?_
                              have h1 : a.eval (.tmp 5) = .slice (some ⟨g, 0, none⟩) p cd := T.was 5 (by kernel_rfl)
                              exact ⟨.slice (some ⟨g, 0, none⟩) p cd, w3, by simp only [execOp, h1]; simp [go_sem], PI.Post.pure GOESN rfl trivial⟩
                            · obtain rfl := Option.some.inj (show some _ = some o from ho)
                              refine PI.shown_val rfl fun a w3 L0 hr T => ?_
                              have h1 : a.eval (.tmp 11) = .int .i64 (p : Int) := T.was 11 (by kernel_rfl)
                              exact ⟨.int .i64 (p : Int), w3, by simp only [execOp, h1]; simp [go_sem], PI.Post.pure GOESN rfl trivial⟩
                            · obtain rfl := Option.some.inj (show some _ = some o from ho)
                              refine PI.shown_val rfl fun a w3 L0 hr T => ?_
                              have h1 : a.eval (.tmp 84) = .slice (some ⟨g, 0, none⟩) p cd := T.at_ 0 84 (by kernel_rfl) (by kernel_rfl) (by kernel_rfl)
                              have h2 : a.eval (.tmp 85) = .int .i64 (p : Int) := T.at_ 1 85 (by kernel_rfl) (by kernel_rfl) (by kernel_rfl)
                              exact ⟨.slice (some ⟨g, 0, none⟩) p cd, w3, by simp only [execOp, h1, h2, Option.map]; simp [go_sem, t2, t10, HC0.out, (show p = 0 from by have g1 := HC0.out; have g2 := HCP.out; omega)], PI.Post.pure GOESN rfl trivial⟩
                            · obtain rfl := Option.some.inj (show some _ = some o from ho)
                              refine PI.shown_val rfl fun a w3 L0 hr T => ?_
                              have h1 : a.eval (.tmp 86) = .slice (some ⟨g, 0, none⟩) p cd := T.at_ 2 86 (by kernel_rfl) (by kernel_rfl) (by kernel_rfl)
                              have h0 : a.eval (.const (.slice none 0 0)) = .slice none 0 0 := rfl
                              have hsz : N ≤ w3.heap.size := Nat.le_trans hN hr.size
                              obtain ⟨v9, w9, e9, ho9, hg9⟩ := appTrs (ty := 76) (c := cd) (n := 0) (L := []) (World.ownsRow_nil w3 N 28 2) (K := D.take p) ((HRD.out w3 hr).1) (m := p) (by rw [List.length_take, hDd]; omega) (by omega) hsz
                              have hb9 : Below w3.heap.size w3 w9 := hg9.below (Below.refl _ _) (Nat.le_refl _) (fun k hk => by simp [Value.ownBlock] at hk)
                              refine ⟨v9, w9, by simp only [execOp, resolve, invoke, builtin, Sem.run_bind, Sem.run_pure, Result.andThen_ok, List.map_toArray, List.map_cons, List.map_nil, h0, h1, e9], hb9.mono hsz, (by rw [Nat.zero_add, List.nil_append] at ho9; exact ho9), fun _ _ h => h, fun j u hj hLj hnd hw h => ?_, trivial⟩
                              by_cases hjr : j = 3 ∨ j = 6 ∨ j = 7 ∨ j = 11 ∨ j = 12
                              · rcases hjr with rfl | rfl | rfl | rfl | rfl
                                · exact absurd rfl hj
                                · obtain ⟨z, h1, h2, h3⟩ := h; exact ⟨z, h1, (hb9.block z (in_heap h2)).trans h2, h3⟩
                                · exact absurd (T.shut_ 7 3 (by kernel_rfl) hLj) (by rw [T.yetNot]; decide)
                                · exact absurd (T.shut_ 7 3 (by kernel_rfl) (T.shut_ 11 7 (by kernel_rfl) hLj)) (by rw [T.yetNot]; decide)
                                · exact absurd (T.shut_ 7 3 (by kernel_rfl) (T.shut_ 11 7 (by kernel_rfl) (T.shut_ 12 11 (by kernel_rfl) hLj))) (by rw [T.yetNot]; decide)
                              · exact DnF.other h hjr
                            · obtain rfl := Option.some.inj (show some _ = some o from ho)
                              refine PI.shown_val rfl fun a w3 L0 hr T => ?_
                              have h1 : a.eval (.tmp 8) = .pointer (some ⟨bx, 0, none⟩) := T.was 8 (by kernel_rfl)
                              exact ⟨.pointer (some ⟨bx, 0, none⟩), w3, by simp only [execOp, h1]; simp [go_sem], PI.Post.pure GOESN rfl trivial⟩
                            · obtain rfl := Option.some.inj (show some _ = some o from ho)
                              refine PI.shown_val rfl fun a w3 L0 hr T => ?_
                              have h1 : a.eval (.tmp 88) = .pointer (some ⟨bx, 0, none⟩) := T.at_ 4 88 (by kernel_rfl) (by kernel_rfl) (by kernel_rfl)
                              obtain ⟨z0, z1⟩ := (HRD.out w3 hr).2.2
                              exact ⟨.agg #[.int .u64 th, .int .u64 tl], w3, by simp only [execOp, h1]; simp [go_sem, z0, z1], PI.Post.pure GOESN rfl trivial⟩
                            · obtain rfl := Option.some.inj (show some _ = some o from ho)
                              refine PI.shown_val rfl fun a w3 L0 hr T => ?_
                              have h1 : a.eval (.tmp 89) = .agg #[.int .u64 th, .int .u64 tl] := T.at_ 5 89 (by kernel_rfl) (by kernel_rfl) (by kernel_rfl)
                              have hsz : N ≤ w3.heap.size := Nat.le_trans hN hr.size
                              have hb9 : Below w3.heap.size w3 (w3.alloc (.cells #[.int .u64 th, .int .u64 tl] 28)) := (Below.refl _ _).alloc (Nat.le_refl _) _
                              refine ⟨.slice (some ⟨w3.heap.size, 0, none⟩) 1 1, w3.alloc (.cells #[.int .u64 th, .int .u64 tl] 28), by simp only [execOp, List.map_toArray, List.map_cons, List.map_nil, h1]; simp [go_sem], hb9.mono hsz, ⟨w3.heap.size, rfl, heap_alloc_new _ _, hsz⟩, fun _ _ h => h, fun j u hj hLj hnd hw h => ?_, trivial⟩
                              by_cases hjr : j = 3 ∨ j = 6 ∨ j = 7 ∨ j = 11 ∨ j = 12
                              · rcases hjr with rfl | rfl | rfl | rfl | rfl
                                · exact own_below h hb9
                                · exact absurd rfl hj
                                · exact absurd (T.shut_ 7 6 (by kernel_rfl) hLj) (by rw [T.yetNot]; decide)
                                · exact absurd (T.shut_ 7 6 (by kernel_rfl) (T.shut_ 11 7 (by kernel_rfl) hLj)) (by rw [T.yetNot]; decide)
                                · exact absurd (T.shut_ 7 6 (by kernel_rfl) (T.shut_ 11 7 (by kernel_rfl) (T.shut_ 12 11 (by kernel_rfl) hLj))) (by rw [T.yetNot]; decide)
                              · exact DnF.other h hjr
                            · obtain rfl := Option.some.inj (show some _ = some o from ho)
                              refine PI.shown_val rfl fun a w3 L0 hr T => ?_
                              have h1 : w3.ownsRow N 28 2 (a.eval (.tmp 87)) p ((D.take p).flatMap trC) := T.at_ 3 87 (by kernel_rfl) (by kernel_rfl) (by kernel_rfl)
                              obtain ⟨z, h2, h3, h4⟩ := T.at_ 6 90 (by kernel_rfl) (by kernel_rfl) (by kernel_rfl)
                              have hsz : N ≤ w3.heap.size := Nat.le_trans hN hr.size
                              have hrz : Rd w3 (z + 1) (some ⟨z, 0, none⟩) (([(th, tl)] : List Tc).flatMap trC) := fun _ => ⟨_, rfl, Nat.lt_succ_self _, fun j u hu => by
                                rw [Addr.add_lit, Nat.zero_add, cell_of_row _ z j _ _ (0, 0) h3]
                                simpa [trC] using hu⟩
                              obtain ⟨v9, w9, e9, ho9, hg9⟩ := appTrs (ty := 76) (c := 1) h1 (K := [(th, tl)]) hrz (m := 1) rfl (by omega) hsz
                              have hb9 : Below N w3 w9 := hg9.below (Below.refl _ _) hsz (own_block_ge h1)
                              refine ⟨v9, w9, by simp only [execOp, resolve, invoke, builtin, Sem.run_bind, Sem.run_pure, Result.andThen_ok, List.map_toArray, List.map_cons, List.map_nil, h2, e9], hb9, ho9, fun _ _ h => h, fun j u hj hLj hnd hw h => ?_, trivial⟩
                              by_cases hjr : j = 3 ∨ j = 6 ∨ j = 7 ∨ j = 11 ∨ j = 12
                              · rcases hjr with rfl | rfl | rfl | rfl | rfl
                                · simp [PI.needB] at hnd
                                · simp [PI.needB] at hnd
                                · exact absurd rfl hj
                                · exact absurd (T.shut_ 11 7 (by kernel_rfl) hLj) (by rw [T.yetNot]; decide)
                                · exact absurd (T.shut_ 11 7 (by kernel_rfl) (T.shut_ 12 11 (by kernel_rfl) hLj)) (by rw [T.yetNot]; decide)
                              · exact DnF.other h hjr
                            · obtain rfl := Option.some.inj (show some _ = some o from ho)
                              refine PI.shown_val rfl fun a w3 L0 hr T => ?_
                              have h1 : a.eval (.tmp 5) = .slice (some ⟨g, 0, none⟩) p cd := T.was 5 (by kernel_rfl)
                              exact ⟨.slice (some ⟨g, 0, none⟩) p cd, w3, by simp only [execOp, h1]; simp [go_sem], PI.Post.pure GOESN rfl trivial⟩
                            · obtain rfl := Option.some.inj (show some _ = some o from ho)
                              refine PI.shown_val rfl fun a w3 L0 hr T => ?_
                              have h1 : a.eval (.tmp 11) = .int .i64 (p : Int) := T.was 11 (by kernel_rfl)
                              exact ⟨.int .i64 (p : Int), w3, by simp only [execOp, h1]; simp [go_sem], PI.Post.pure GOESN rfl trivial⟩
                            · obtain rfl := Option.some.inj (show some _ = some o from ho)
                              refine PI.shown_val rfl fun a w3 L0 hr T => ?_
                              have h1 : a.eval (.tmp 92) = .slice (some ⟨g, 0, none⟩) p cd := T.at_ 8 92 (by kernel_rfl) (by kernel_rfl) (by kernel_rfl)
                              have h2 : a.eval (.tmp 93) = .int .i64 (p : Int) := T.at_ 9 93 (by kernel_rfl) (by kernel_rfl) (by kernel_rfl)
                              exact ⟨.slice (some ⟨g, 0, none⟩) (p - p) (cd - p), w3, by simp only [execOp, h1, h2, Option.map]; simp [go_sem, t1, t2, t3, t4, t6, t7, t8, t9, t10, t11, t12], PI.Post.pure GOESN rfl trivial⟩
                            · obtain rfl := Option.some.inj (show some _ = some o from ho)
                              refine PI.shown_val rfl fun a w3 L0 hr T => ?_
                              have h1 : w3.ownsRow N 28 2 (a.eval (.tmp 91)) (p + 1) ((D.take p ++ [(th, tl)]).flatMap trC) := T.at_ 7 91 (by kernel_rfl) (by kernel_rfl) (by kernel_rfl)
                              have h2 : a.eval (.tmp 94) = .slice (some ⟨g, 0, none⟩) (p - p) (cd - p) := T.at_ 10 94 (by kernel_rfl) (by kernel_rfl) (by kernel_rfl)
                              have hL7 : L0 7 = true := T.done _ (Array.mem_of_getElem? (i := 0) rfl) rfl
                              have hsz : N ≤ w3.heap.size := Nat.le_trans hN hr.size
                              obtain ⟨v9, w9, e9, ho9, hg9⟩ := appTrs (ty := 76) (c := (cd - p)) h1 (K := D.drop p) ((HRD.out w3 hr).2.1) (m := (p - p)) (by rw [List.length_drop, hDd]; try omega) (by omega) hsz
                              have hb9 : Below N w3 w9 := hg9.below (Below.refl _ _) hsz (own_block_ge h1)
                              refine ⟨v9, w9, by simp only [execOp, resolve, invoke, builtin, Sem.run_bind, Sem.run_pure, Result.andThen_ok, List.map_toArray, List.map_cons, List.map_nil, h2, e9], hb9, by (have e1 : p + 1 + ((p - p)) = p + 1 := by omega); rw [e1] at ho9; exact ho9, fun _ _ h => h, fun j u hj hLj hnd hw h => ?_, trivial⟩
                              by_cases hjr : j = 3 ∨ j = 6 ∨ j = 7 ∨ j = 11 ∨ j = 12
                              · rcases hjr with rfl | rfl | rfl | rfl | rfl
                                · simp [PI.needB, hL7] at hnd
                                · simp [PI.needB, hL7] at hnd
                                · simp [PI.needB] at hnd
                                · exact absurd rfl hj
                                · exact absurd (T.shut_ 12 11 (by kernel_rfl) hLj) (by rw [T.yetNot]; decide)
                              · exact DnF.other h hjr
                            · obtain rfl := Option.some.inj (show some _ = some o from ho)
                              refine PI.shown_val rfl fun a w3 L0 hr T => ?_
                              have h1 : w3.ownsRow N 28 2 (a.eval (.tmp 95)) (p + 1) ((D.take p ++ [(th, tl)] ++ D.drop p).flatMap trC) := T.at_ 11 95 (by kernel_rfl) (by kernel_rfl) (by kernel_rfl)
                              exact ⟨a.eval (.tmp 95), w3, by simp only [execOp]; simp [go_sem], PI.Post.pure GOESN h1 trivial⟩
                            · cases ho
                          · rw [← hwN]
                            intro x w9 hr hf he _
                            have h1 := hf 12 _ 5 rfl rfl (by decide)
                            change w9.ownsRow N 28 2 (x 12) (p + 1) ((D.take p ++ [(th, tl)] ++ D.drop p).flatMap trC) at h1
                            have HBX9 := Lib.hid (HB9.out.trans (hr.mono (by rw [hNd]; exact HB9.out.size)))
                            have HO9 := Lib.hid (own_mono (base' := W1.heap.size) h1 (by rw [hNd]; exact HB9.out.size))
                            obtain ⟨A9, c9, hv9, _, _⟩ := own_rd h1
                            rw [hv9] at HO9
                            simp only [PI.putAll, Act.put, List.setIfInBounds_toArray, List.set_cons_zero, List.set_cons_succ]
                            rw [hv9]
                            clear hf he h1 hr hv9
                            go_wp2_with fail
                            go_roundw
                            case rel => exact ⟨j + 1, by go_num, by omega, Lib.hid (by rw [HINS.out, show (D.take p ++ [(th, tl)] ++ D.drop p).length = p + 1 from by simp [hDd] <;> omega]; exact HO9.out), HBX9⟩
                            case measure => simp [intOf]; omega
                        · have HC0 := Lib.hid hc0
                          clear hcp hc0
                          have HINS : Hid (setC (q.hitsE (epsTo l k ++ es.take (j + 1))) = D.take p ++ [(th, tl)] ++ D.drop p) := Lib.hid (by rw [HFD.out, if_pos HBB.out.symm]; exact HIN.out.trans (by rw [List.append_assoc]; rfl))
                          go_wp2_with fail
                          go_region
                          go_wp2_with fail
                          obtain ⟨wN, hwN⟩ : ∃ w, w = wr.drew.drew.drew := ⟨_, rfl⟩
                          have HB9 := Lib.hid (show Below W1.heap.size W1 wN from by rw [hwN]; exact (HBE.out.trans (HB4.out.mono HBE.out.size)).drew.drew)
                          have HW9 := Lib.hid (show Below we.heap.size we wN from by rw [hwN]; exact HB4.out.drew.drew)
                          obtain ⟨N, hNd⟩ : ∃ n, n = wN.heap.size := ⟨_, rfl⟩
                          have hN : N ≤ wN.heap.size := Nat.le_of_eq hNd
                          have HDd2 := HDd.out
                          have hDd : D.length = p := HDd2
                          have hcp := HCP.out
                          have hc0 := HC0.out
                          have t1 : (p : Int) ≤ (cd : Int) := by omega
                          have t2 : p ≤ cd := by omega
                          have t3 : (cd = 0) = False := by simp; omega
                          have t4 : (p : Int) ≤ (p : Int) := by omega
                          have t6 : (p : Int) ≤ (cd : Int) := by omega
                          have t7 : (⟨g, 0, none⟩ : Addr).add (p * 2) = ⟨g, p * 2, none⟩ := by rw [Addr.add_lit, Nat.zero_add]
                          have t8 : p ≤ cd := by omega
                          have t9 : (cd = p) = True := by simp; omega
                          have t10 : ((p : Int) < 0) = False := by simp
                          have t11 : p ≤ p := by omega
                          have t12 : (cd - p = 0) = True := by simp; omega
                          clear hcp hc0
                          have HRD := Lib.hid (show ∀ V, Below N wN V → Rd V N (some ⟨g, 0, none⟩) ((D.take p).flatMap trC) ∧ Rd V N (some ⟨g, 0, none⟩) ((D.drop p).flatMap trC) ∧ V.cell? ⟨bx, 0, none⟩ = some (.int .u64 th) ∧ V.cell? ⟨bx, 1, none⟩ = some (.int .u64 tl) from fun V hV => by
                            have hW := HW9.out.trans (hV.mono (by rw [hNd]; exact HW9.out.size))
                            have hr := ((HROW.out.below hW).more (B' := N) (by rw [hNd]; exact HW9.out.size))
                            have hx := (hW.block _ (in_heap HBX.out)).trans HBX.out
                            refine ⟨?_, ?_, cell_of_row _ _ 0 _ _ (0, 0) hx, cell_of_row _ _ 1 _ _ (0, 0) hx⟩
                            · rw [← flatT_take]; exact hr.take _
                            · rw [List.drop_eq_nil_of_le (by omega)]; exact fun h => by simp at h)
                          refine PI.wp_region_persG (R := fun a b => Below N a b) (G := fun _ _ => True) (I := fun _ _ _ => True) [(2, 0), (2, 1), (3, 2), (5, 4), (6, 5), (7, 3), (7, 6), (10, 8), (10, 9), (11, 7), (11, 10), (12, 11)] [12] (by kernel_rfl) (PI.formed_of (by kernel_rfl)) GOESN (fun _ => trivial) (DnF (.slice (some ⟨g, 0, none⟩) p cd) (.slice (some ⟨g, 0, none⟩) p cd) (.slice (some ⟨g, 0, none⟩) (p - p) (cd - p)) p p bx N th tl D) trivial ?_ ?_
                          · rw [← hwN]
                            intro i o ho
                            rcases i with _ | _ | _ | _ | _ | _ | _ | _ | _ | _ | _ | _ | _ | i
                            · obtain rfl := Option.some.inj (show some _ = some o from ho)
                              refine PI.shown_val rfl fun a w3 L0 hr T => ?_
                              have h1 : a.eval (.tmp 5) = .slice (some ⟨g, 0, none⟩) p cd := T.was 5 (by kernel_rfl)
                              exact ⟨.slice (some ⟨g, 0, none⟩) p cd, w3, by simp only [execOp, h1]; simp [go_sem], PI.Post.pure GOESN rfl trivial⟩
                            · obtain rfl := Option.some.inj (show some _ = some o from ho)
                              refine PI.shown_val rfl fun a w3 L0 hr T => ?_
                              have h1 : a.eval (.tmp 11) = .int .i64 (p : Int) := T.was 11 (by kernel_rfl)
                              exact ⟨.int .i64 (p : Int), w3, by simp only [execOp, h1]; simp [go_sem], PI.Post.pure GOESN rfl trivial⟩
                            · obtain rfl := Option.some.inj (show some _ = some o from ho)
                              refine PI.shown_val rfl fun a w3 L0 hr T => ?_
                              have h1 : a.eval (.tmp 84) = .slice (some ⟨g, 0, none⟩) p cd := T.at_ 0 84 (by kernel_rfl) (by kernel_rfl) (by kernel_rfl)
                              have h2 : a.eval (.tmp 85) = .int .i64 (p : Int) := T.at_ 1 85 (by kernel_rfl) (by kernel_rfl) (by kernel_rfl)
                              exact ⟨.slice (some ⟨g, 0, none⟩) p cd, w3, by simp only [execOp, h1, h2, Option.map]; simp [go_sem, t1, t2, t3, t9, t10], PI.Post.pure GOESN rfl trivial⟩
                            · obtain rfl := Option.some.inj (show some _ = some o from ho)
                              refine PI.shown_val rfl fun a w3 L0 hr T => ?_
                              have h1 : a.eval (.tmp 86) = .slice (some ⟨g, 0, none⟩) p cd := T.at_ 2 86 (by kernel_rfl) (by kernel_rfl) (by kernel_rfl)
                              have h0 : a.eval (.const (.slice none 0 0)) = .slice none 0 0 := rfl
                              have hsz : N ≤ w3.heap.size := Nat.le_trans hN hr.size
                              obtain ⟨v9, w9, e9, ho9, hg9⟩ := appTrs (ty := 76) (c := cd) (n := 0) (L := []) (World.ownsRow_nil w3 N 28 2) (K := D.take p) ((HRD.out w3 hr).1) (m := p) (by rw [List.length_take, hDd]; omega) (by omega) hsz
                              have hb9 : Below w3.heap.size w3 w9 := hg9.below (Below.refl _ _) (Nat.le_refl _) (fun k hk => by simp [Value.ownBlock] at hk)
                              refine ⟨v9, w9, by simp only [execOp, resolve, invoke, builtin, Sem.run_bind, Sem.run_pure, Result.andThen_ok, List.map_toArray, List.map_cons, List.map_nil, h0, h1, e9], hb9.mono hsz, (by rw [Nat.zero_add, List.nil_append] at ho9; exact ho9), fun _ _ h => h, fun j u hj hLj hnd hw h => ?_, trivial⟩
                              by_cases hjr : j = 3 ∨ j = 6 ∨ j = 7 ∨ j = 11 ∨ j = 12
                              · rcases hjr with rfl | rfl | rfl | rfl | rfl
                                · exact absurd rfl hj
                                · obtain ⟨z, h1, h2, h3⟩ := h; exact ⟨z, h1, (hb9.block z (in_heap h2)).trans h2, h3⟩
                                · exact absurd (T.shut_ 7 3 (by kernel_rfl) hLj) (by rw [T.yetNot]; decide)
                                · exact absurd (T.shut_ 7 3 (by kernel_rfl) (T.shut_ 11 7 (by kernel_rfl) hLj)) (by rw [T.yetNot]; decide)
                                · exact absurd (T.shut_ 7 3 (by kernel_rfl) (T.shut_ 11 7 (by kernel_rfl) (T.shut_ 12 11 (by kernel_rfl) hLj))) (by rw [T.yetNot]; decide)
                              · exact DnF.other h hjr
                            · obtain rfl := Option.some.inj (show some _ = some o from ho)
                              refine PI.shown_val rfl fun a w3 L0 hr T => ?_
                              have h1 : a.eval (.tmp 8) = .pointer (some ⟨bx, 0, none⟩) := T.was 8 (by kernel_rfl)
                              exact ⟨.pointer (some ⟨bx, 0, none⟩), w3, by simp only [execOp, h1]; simp [go_sem], PI.Post.pure GOESN rfl trivial⟩
                            · obtain rfl := Option.some.inj (show some _ = some o from ho)
                              refine PI.shown_val rfl fun a w3 L0 hr T => ?_
                              have h1 : a.eval (.tmp 88) = .pointer (some ⟨bx, 0, none⟩) := T.at_ 4 88 (by kernel_rfl) (by kernel_rfl) (by kernel_rfl)
                              obtain ⟨z0, z1⟩ := (HRD.out w3 hr).2.2
                              exact ⟨.agg #[.int .u64 th, .int .u64 tl], w3, by simp only [execOp, h1]; simp [go_sem, z0, z1], PI.Post.pure GOESN rfl trivial⟩
                            · obtain rfl := Option.some.inj (show some _ = some o from ho)
                              refine PI.shown_val rfl fun a w3 L0 hr T => ?_
                              have h1 : a.eval (.tmp 89) = .agg #[.int .u64 th, .int .u64 tl] := T.at_ 5 89 (by kernel_rfl) (by kernel_rfl) (by kernel_rfl)
                              have hsz : N ≤ w3.heap.size := Nat.le_trans hN hr.size
                              have hb9 : Below w3.heap.size w3 (w3.alloc (.cells #[.int .u64 th, .int .u64 tl] 28)) := (Below.refl _ _).alloc (Nat.le_refl _) _
                              refine ⟨.slice (some ⟨w3.heap.size, 0, none⟩) 1 1, w3.alloc (.cells #[.int .u64 th, .int .u64 tl] 28), by simp only [execOp, List.map_toArray, List.map_cons, List.map_nil, h1]; simp [go_sem], hb9.mono hsz, ⟨w3.heap.size, rfl, heap_alloc_new _ _, hsz⟩, fun _ _ h => h, fun j u hj hLj hnd hw h => ?_, trivial⟩
                              by_cases hjr : j = 3 ∨ j = 6 ∨ j = 7 ∨ j = 11 ∨ j = 12
                              · rcases hjr with rfl | rfl | rfl | rfl | rfl
                                · exact own_below h hb9
                                · exact absurd rfl hj
                                · exact absurd (T.shut_ 7 6 (by kernel_rfl) hLj) (by rw [T.yetNot]; decide)
                                · exact absurd (T.shut_ 7 6 (by kernel_rfl) (T.shut_ 11 7 (by kernel_rfl) hLj)) (by rw [T.yetNot]; decide)
                                · exact absurd (T.shut_ 7 6 (by kernel_rfl) (T.shut_ 11 7 (by kernel_rfl) (T.shut_ 12 11 (by kernel_rfl) hLj))) (by rw [T.yetNot]; decide)
                              · exact DnF.other h hjr
                            · obtain rfl := Option.some.inj (show some _ = some o from ho)
                              refine PI.shown_val rfl fun a w3 L0 hr T => ?_
                              have h1 : w3.ownsRow N 28 2 (a.eval (.tmp 87)) p ((D.take p).flatMap trC) := T.at_ 3 87 (by kernel_rfl) (by kernel_rfl) (by kernel_rfl)
                              obtain ⟨z, h2, h3, h4⟩ := T.at_ 6 90 (by kernel_rfl) (by kernel_rfl) (by kernel_rfl)
                              have hsz : N ≤ w3.heap.size := Nat.le_trans hN hr.size
                              have hrz : Rd w3 (z + 1) (some ⟨z, 0, none⟩) (([(th, tl)] : List Tc).flatMap trC) := fun _ => ⟨_, rfl, Nat.lt_succ_self _, fun j u hu => by
                                rw [Addr.add_lit, Nat.zero_add, cell_of_row _ z j _ _ (0, 0) h3]
                                simpa [trC] using hu⟩
                              obtain ⟨v9, w9, e9, ho9, hg9⟩ := appTrs (ty := 76) (c := 1) h1 (K := [(th, tl)]) hrz (m := 1) rfl (by omega) hsz
                              have hb9 : Below N w3 w9 := hg9.below (Below.refl _ _) hsz (own_block_ge h1)
                              refine ⟨v9, w9, by simp only [execOp, resolve, invoke, builtin, Sem.run_bind, Sem.run_pure, Result.andThen_ok, List.map_toArray, List.map_cons, List.map_nil, h2, e9], hb9, ho9, fun _ _ h => h, fun j u hj hLj hnd hw h => ?_, trivial⟩
                              by_cases hjr : j = 3 ∨ j = 6 ∨ j = 7 ∨ j = 11 ∨ j = 12
                              · rcases hjr with rfl | rfl | rfl | rfl | rfl
                                · simp [PI.needB] at hnd
                                · simp [PI.needB] at hnd
                                · exact absurd rfl hj
                                · exact absurd (T.shut_ 11 7 (by kernel_rfl) hLj) (by rw [T.yetNot]; decide)
                                · exact absurd (T.shut_ 11 7 (by kernel_rfl) (T.shut_ 12 11 (by kernel_rfl) hLj)) (by rw [T.yetNot]; decide)
                              · exact DnF.other h hjr
                            · obtain rfl := Option.some.inj (show some _ = some o from ho)
                              refine PI.shown_val rfl fun a w3 L0 hr T => ?_
                              have h1 : a.eval (.tmp 5) = .slice (some ⟨g, 0, none⟩) p cd := T.was 5 (by kernel_rfl)
                              exact ⟨.slice (some ⟨g, 0, none⟩) p cd, w3, by simp only [execOp, h1]; simp [go_sem], PI.Post.pure GOESN rfl trivial⟩
                            · obtain rfl := Option.some.inj (show some _ = some o from ho)
                              refine PI.shown_val rfl fun a w3 L0 hr T => ?_
                              have h1 : a.eval (.tmp 11) = .int .i64 (p : Int) := T.was 11 (by kernel_rfl)
                              exact ⟨.int .i64 (p : Int), w3, by simp only [execOp, h1]; simp [go_sem], PI.Post.pure GOESN rfl trivial⟩
                            · obtain rfl := Option.some.inj (show some _ = some o from ho)
                              refine PI.shown_val rfl fun a w3 L0 hr T => ?_
                              have h1 : a.eval (.tmp 92) = .slice (some ⟨g, 0, none⟩) p cd := T.at_ 8 92 (by kernel_rfl) (by kernel_rfl) (by kernel_rfl)
                              have h2 : a.eval (.tmp 93) = .int .i64 (p : Int) := T.at_ 9 93 (by kernel_rfl) (by kernel_rfl) (by kernel_rfl)
                              exact ⟨.slice (some ⟨g, 0, none⟩) (p - p) (cd - p), w3, by simp only [execOp, h1, h2, Option.map]; simp [go_sem, t1, t2, t3, t4, t6, t7, t8, t9, t10, t11, t12], PI.Post.pure GOESN rfl trivial⟩
                            · obtain rfl := Option.some.inj (show some _ = some o from ho)
                              refine PI.shown_val rfl fun a w3 L0 hr T => ?_
                              have h1 : w3.ownsRow N 28 2 (a.eval (.tmp 91)) (p + 1) ((D.take p ++ [(th, tl)]).flatMap trC) := T.at_ 7 91 (by kernel_rfl) (by kernel_rfl) (by kernel_rfl)
                              have h2 : a.eval (.tmp 94) = .slice (some ⟨g, 0, none⟩) (p - p) (cd - p) := T.at_ 10 94 (by kernel_rfl) (by kernel_rfl) (by kernel_rfl)
                              have hL7 : L0 7 = true := T.done _ (Array.mem_of_getElem? (i := 0) rfl) rfl
                              have hsz : N ≤ w3.heap.size := Nat.le_trans hN hr.size
                              obtain ⟨v9, w9, e9, ho9, hg9⟩ := appTrs (ty := 76) (c := (cd - p)) h1 (K := D.drop p) ((HRD.out w3 hr).2.1) (m := (p - p)) (by rw [List.length_drop, hDd]; try omega) (by omega) hsz
                              have hb9 : Below N w3 w9 := hg9.below (Below.refl _ _) hsz (own_block_ge h1)
                              refine ⟨v9, w9, by simp only [execOp, resolve, invoke, builtin, Sem.run_bind, Sem.run_pure, Result.andThen_ok, List.map_toArray, List.map_cons, List.map_nil, h2, e9], hb9, by (have e1 : p + 1 + ((p - p)) = p + 1 := by omega); rw [e1] at ho9; exact ho9, fun _ _ h => h, fun j u hj hLj hnd hw h => ?_, trivial⟩
                              by_cases hjr : j = 3 ∨ j = 6 ∨ j = 7 ∨ j = 11 ∨ j = 12
                              · rcases hjr with rfl | rfl | rfl | rfl | rfl
                                · simp [PI.needB, hL7] at hnd
                                · simp [PI.needB, hL7] at hnd
                                · simp [PI.needB] at hnd
                                · exact absurd rfl hj
                                · exact absurd (T.shut_ 12 11 (by kernel_rfl) hLj) (by rw [T.yetNot]; decide)
                              · exact DnF.other h hjr
                            · obtain rfl := Option.some.inj (show some _ = some o from ho)
                              refine PI.shown_val rfl fun a w3 L0 hr T => ?_
                              have h1 : w3.ownsRow N 28 2 (a.eval (.tmp 95)) (p + 1) ((D.take p ++ [(th, tl)] ++ D.drop p).flatMap trC) := T.at_ 11 95 (by kernel_rfl) (by kernel_rfl) (by kernel_rfl)
                              exact ⟨a.eval (.tmp 95), w3, by simp only [execOp]; simp [go_sem], PI.Post.pure GOESN h1 trivial⟩
                            · cases ho
                          · rw [← hwN]
                            intro x w9 hr hf he _
                            have h1 := hf 12 _ 5 rfl rfl (by decide)
                            change w9.ownsRow N 28 2 (x 12) (p + 1) ((D.take p ++ [(th, tl)] ++ D.drop p).flatMap trC) at h1
                            have HBX9 := Lib.hid (HB9.out.trans (hr.mono (by rw [hNd]; exact HB9.out.size)))
                            have HO9 := Lib.hid (own_mono (base' := W1.heap.size) h1 (by rw [hNd]; exact HB9.out.size))
                            obtain ⟨A9, c9, hv9, _, _⟩ := own_rd h1
                            rw [hv9] at HO9
                            simp only [PI.putAll, Act.put, List.setIfInBounds_toArray, List.set_cons_zero, List.set_cons_succ]
                            rw [hv9]
                            clear hf he h1 hr hv9
                            go_wp2_with fail
                            go_roundw
                            case rel => exact ⟨j + 1, by go_num, by omega, Lib.hid (by rw [HINS.out, show (D.take p ++ [(th, tl)] ++ D.drop p).length = p + 1 from by simp [hDd] <;> omega]; exact HO9.out), HBX9⟩
                            case measure => simp [intOf]; omega
                      · have HINS : Hid (setC (q.hitsE (epsTo l k ++ es.take (j + 1))) = D.take p ++ [(th, tl)] ++ D.drop p) := Lib.hid (by rw [HFD.out, if_pos HBB.out.symm]; exact HIN.out.trans (by rw [List.append_assoc]; rfl))
                        go_wp2_with fail
                        go_region
                        go_wp2_with fail
                        obtain ⟨wN, hwN⟩ : ∃ w, w = wr.drew.drew.drew := ⟨_, rfl⟩
                        have HB9 := Lib.hid (show Below W1.heap.size W1 wN from by rw [hwN]; exact (HBE.out.trans (HB4.out.mono HBE.out.size)).drew.drew)
                        have HW9 := Lib.hid (show Below we.heap.size we wN from by rw [hwN]; exact HB4.out.drew.drew)
                        obtain ⟨N, hNd⟩ : ∃ n, n = wN.heap.size := ⟨_, rfl⟩
                        have hN : N ≤ wN.heap.size := Nat.le_of_eq hNd
                        have HDd2 := HDd.out
                        have hDd : D.length = p := HDd2
                        have t1 : (p : Int) ≤ (cd : Int) := by omega
                        have t2 : p ≤ cd := by omega
                        have t3 : (cd = 0) = False := by simp; omega
                        have t4 : (p : Int) ≤ (p : Int) := by omega
                        have t6 : (p : Int) ≤ (cd : Int) := by omega
                        have t7 : (⟨g, 0, none⟩ : Addr).add (p * 2) = ⟨g, p * 2, none⟩ := by rw [Addr.add_lit, Nat.zero_add]
                        have t8 : p ≤ cd := by omega
                        have t9 : (cd = p) = False := by simp; omega
                        have t10 : ((p : Int) < 0) = False := by simp
                        have t11 : p ≤ p := by omega
                        have t12 : (cd - p = 0) = False := by simp; omega
                        have HRD := Lib.hid (show ∀ V, Below N wN V → Rd V N (some ⟨g, 0, none⟩) ((D.take p).flatMap trC) ∧ Rd V N (some ⟨g, p * 2, none⟩) ((D.drop p).flatMap trC) ∧ V.cell? ⟨bx, 0, none⟩ = some (.int .u64 th) ∧ V.cell? ⟨bx, 1, none⟩ = some (.int .u64 tl) from fun V hV => by
                          have hW := HW9.out.trans (hV.mono (by rw [hNd]; exact HW9.out.size))
                          have hr := ((HROW.out.below hW).more (B' := N) (by rw [hNd]; exact HW9.out.size))
                          have hx := (hW.block _ (in_heap HBX.out)).trans HBX.out
                          refine ⟨?_, ?_, cell_of_row _ _ 0 _ _ (0, 0) hx, cell_of_row _ _ 1 _ _ (0, 0) hx⟩
                          · rw [← flatT_take]; exact hr.take _
                          · rw [List.drop_eq_nil_of_le (by omega)]; exact fun h => by simp at h)
                        refine PI.wp_region_persG (R := fun a b => Below N a b) (G := fun _ _ => True) (I := fun _ _ _ => True) [(2, 0), (2, 1), (3, 2), (5, 4), (6, 5), (7, 3), (7, 6), (10, 8), (10, 9), (11, 7), (11, 10), (12, 11)] [12] (by kernel_rfl) (PI.formed_of (by kernel_rfl)) GOESN (fun _ => trivial) (DnF (.slice (some ⟨g, 0, none⟩) p cd) (.slice (some ⟨g, 0, none⟩) p cd) (.slice (some ⟨g, p * 2, none⟩) (p - p) (cd - p)) p p bx N th tl D) trivial ?_ ?_
                        · rw [← hwN]
                          intro i o ho
                          rcases i with _ | _ | _ | _ | _ | _ | _ | _ | _ | _ | _ | _ | _ | i
                          · obtain rfl := Option.some.inj (show some _ = some o from ho)
                            refine PI.shown_val rfl fun a w3 L0 hr T => ?_
                            have h1 : a.eval (.tmp 5) = .slice (some ⟨g, 0, none⟩) p cd := T.was 5 (by kernel_rfl)
                            exact ⟨.slice (some ⟨g, 0, none⟩) p cd, w3, by simp only [execOp, h1]; simp [go_sem], PI.Post.pure GOESN rfl trivial⟩
                          · obtain rfl := Option.some.inj (show some _ = some o from ho)
                            refine PI.shown_val rfl fun a w3 L0 hr T => ?_
                            have h1 : a.eval (.tmp 11) = .int .i64 (p : Int) := T.was 11 (by kernel_rfl)
                            exact ⟨.int .i64 (p : Int), w3, by simp only [execOp, h1]; simp [go_sem], PI.Post.pure GOESN rfl trivial⟩
                          · obtain rfl := Option.some.inj (show some _ = some o from ho)
                            refine PI.shown_val rfl fun a w3 L0 hr T => ?_
                            have h1 : a.eval (.tmp 84) = .slice (some ⟨g, 0, none⟩) p cd := T.at_ 0 84 (by kernel_rfl) (by kernel_rfl) (by kernel_rfl)
                            have h2 : a.eval (.tmp 85) = .int .i64 (p : Int) := T.at_ 1 85 (by kernel_rfl) (by kernel_rfl) (by kernel_rfl)
                            exact ⟨.slice (some ⟨g, 0, none⟩) p cd, w3, by simp only [execOp, h1, h2, Option.map]; simp [go_sem, t1, t2, t3, t9, t10], PI.Post.pure GOESN rfl trivial⟩
                          · obtain rfl := Option.some.inj (show some _ = some o from ho)
                            refine PI.shown_val rfl fun a w3 L0 hr T => ?_
                            have h1 : a.eval (.tmp 86) = .slice (some ⟨g, 0, none⟩) p cd := T.at_ 2 86 (by kernel_rfl) (by kernel_rfl) (by kernel_rfl)
                            have h0 : a.eval (.const (.slice none 0 0)) = .slice none 0 0 := rfl
                            have hsz : N ≤ w3.heap.size := Nat.le_trans hN hr.size
                            obtain ⟨v9, w9, e9, ho9, hg9⟩ := appTrs (ty := 76) (c := cd) (n := 0) (L := []) (World.ownsRow_nil w3 N 28 2) (K := D.take p) ((HRD.out w3 hr).1) (m := p) (by rw [List.length_take, hDd]; omega) (by omega) hsz
                            have hb9 : Below w3.heap.size w3 w9 := hg9.below (Below.refl _ _) (Nat.le_refl _) (fun k hk => by simp [Value.ownBlock] at hk)
                            refine ⟨v9, w9, by simp only [execOp, resolve, invoke, builtin, Sem.run_bind, Sem.run_pure, Result.andThen_ok, List.map_toArray, List.map_cons, List.map_nil, h0, h1, e9], hb9.mono hsz, (by rw [Nat.zero_add, List.nil_append] at ho9; exact ho9), fun _ _ h => h, fun j u hj hLj hnd hw h => ?_, trivial⟩
                            by_cases hjr : j = 3 ∨ j = 6 ∨ j = 7 ∨ j = 11 ∨ j = 12
                            · rcases hjr with rfl | rfl | rfl | rfl | rfl
                              · exact absurd rfl hj
                              · obtain ⟨z, h1, h2, h3⟩ := h; exact ⟨z, h1, (hb9.block z (in_heap h2)).trans h2, h3⟩
                              · exact absurd (T.shut_ 7 3 (by kernel_rfl) hLj) (by rw [T.yetNot]; decide)
                              · exact absurd (T.shut_ 7 3 (by kernel_rfl) (T.shut_ 11 7 (by kernel_rfl) hLj)) (by rw [T.yetNot]; decide)
                              · exact absurd (T.shut_ 7 3 (by kernel_rfl) (T.shut_ 11 7 (by kernel_rfl) (T.shut_ 12 11 (by kernel_rfl) hLj))) (by rw [T.yetNot]; decide)
                            · exact DnF.other h hjr
                          · obtain rfl := Option.some.inj (show some _ = some o from ho)
                            refine PI.shown_val rfl fun a w3 L0 hr T => ?_
                            have h1 : a.eval (.tmp 8) = .pointer (some ⟨bx, 0, none⟩) := T.was 8 (by kernel_rfl)
                            exact ⟨.pointer (some ⟨bx, 0, none⟩), w3, by simp only [execOp, h1]; simp [go_sem], PI.Post.pure GOESN rfl trivial⟩
                          · obtain rfl := Option.some.inj (show some _ = some o from ho)
                            refine PI.shown_val rfl fun a w3 L0 hr T => ?_
                            have h1 : a.eval (.tmp 88) = .pointer (some ⟨bx, 0, none⟩) := T.at_ 4 88 (by kernel_rfl) (by kernel_rfl) (by kernel_rfl)
                            obtain ⟨z0, z1⟩ := (HRD.out w3 hr).2.2
                            exact ⟨.agg #[.int .u64 th, .int .u64 tl], w3, by simp only [execOp, h1]; simp [go_sem, z0, z1], PI.Post.pure GOESN rfl trivial⟩
                          · obtain rfl := Option.some.inj (show some _ = some o from ho)
                            refine PI.shown_val rfl fun a w3 L0 hr T => ?_
                            have h1 : a.eval (.tmp 89) = .agg #[.int .u64 th, .int .u64 tl] := T.at_ 5 89 (by kernel_rfl) (by kernel_rfl) (by kernel_rfl)
                            have hsz : N ≤ w3.heap.size := Nat.le_trans hN hr.size
                            have hb9 : Below w3.heap.size w3 (w3.alloc (.cells #[.int .u64 th, .int .u64 tl] 28)) := (Below.refl _ _).alloc (Nat.le_refl _) _
                            refine ⟨.slice (some ⟨w3.heap.size, 0, none⟩) 1 1, w3.alloc (.cells #[.int .u64 th, .int .u64 tl] 28), by simp only [execOp, List.map_toArray, List.map_cons, List.map_nil, h1]; simp [go_sem], hb9.mono hsz, ⟨w3.heap.size, rfl, heap_alloc_new _ _, hsz⟩, fun _ _ h => h, fun j u hj hLj hnd hw h => ?_, trivial⟩
                            by_cases hjr : j = 3 ∨ j = 6 ∨ j = 7 ∨ j = 11 ∨ j = 12
                            · rcases hjr with rfl | rfl | rfl | rfl | rfl
                              · exact own_below h hb9
                              · exact absurd rfl hj
                              · exact absurd (T.shut_ 7 6 (by kernel_rfl) hLj) (by rw [T.yetNot]; decide)
                              · exact absurd (T.shut_ 7 6 (by kernel_rfl) (T.shut_ 11 7 (by kernel_rfl) hLj)) (by rw [T.yetNot]; decide)
                              · exact absurd (T.shut_ 7 6 (by kernel_rfl) (T.shut_ 11 7 (by kernel_rfl) (T.shut_ 12 11 (by kernel_rfl) hLj))) (by rw [T.yetNot]; decide)
                            · exact DnF.other h hjr
                          · obtain rfl := Option.some.inj (show some _ = some o from ho)
                            refine PI.shown_val rfl fun a w3 L0 hr T => ?_
                            have h1 : w3.ownsRow N 28 2 (a.eval (.tmp 87)) p ((D.take p).flatMap trC) := T.at_ 3 87 (by kernel_rfl) (by kernel_rfl) (by kernel_rfl)
                            obtain ⟨z, h2, h3, h4⟩ := T.at_ 6 90 (by kernel_rfl) (by kernel_rfl) (by kernel_rfl)
                            have hsz : N ≤ w3.heap.size := Nat.le_trans hN hr.size
                            have hrz : Rd w3 (z + 1) (some ⟨z, 0, none⟩) (([(th, tl)] : List Tc).flatMap trC) := fun _ => ⟨_, rfl, Nat.lt_succ_self _, fun j u hu => by
                              rw [Addr.add_lit, Nat.zero_add, cell_of_row _ z j _ _ (0, 0) h3]
                              simpa [trC] using hu⟩
                            obtain ⟨v9, w9, e9, ho9, hg9⟩ := appTrs (ty := 76) (c := 1) h1 (K := [(th, tl)]) hrz (m := 1) rfl (by omega) hsz
                            have hb9 : Below N w3 w9 := hg9.below (Below.refl _ _) hsz (own_block_ge h1)
                            refine ⟨v9, w9, by simp only [execOp, resolve, invoke, builtin, Sem.run_bind, Sem.run_pure, Result.andThen_ok, List.map_toArray, List.map_cons, List.map_nil, h2, e9], hb9, ho9, fun _ _ h => h, fun j u hj hLj hnd hw h => ?_, trivial⟩
                            by_cases hjr : j = 3 ∨ j = 6 ∨ j = 7 ∨ j = 11 ∨ j = 12
                            · rcases hjr with rfl | rfl | rfl | rfl | rfl
                              · simp [PI.needB] at hnd
                              · simp [PI.needB] at hnd
                              · exact absurd rfl hj
                              · exact absurd (T.shut_ 11 7 (by kernel_rfl) hLj) (by rw [T.yetNot]; decide)
                              · exact absurd (T.shut_ 11 7 (by kernel_rfl) (T.shut_ 12 11 (by kernel_rfl) hLj)) (by rw [T.yetNot]; decide)
                            · exact DnF.other h hjr
                          · obtain rfl := Option.some.inj (show some _ = some o from ho)
                            refine PI.shown_val rfl fun a w3 L0 hr T => ?_
                            have h1 : a.eval (.tmp 5) = .slice (some ⟨g, 0, none⟩) p cd := T.was 5 (by kernel_rfl)
                            exact ⟨.slice (some ⟨g, 0, none⟩) p cd, w3, by simp only [execOp, h1]; simp [go_sem], PI.Post.pure GOESN rfl trivial⟩
                          · obtain rfl := Option.some.inj (show some _ = some o from ho)
                            refine PI.shown_val rfl fun a w3 L0 hr T => ?_
                            have h1 : a.eval (.tmp 11) = .int .i64 (p : Int) := T.was 11 (by kernel_rfl)
                            exact ⟨.int .i64 (p : Int), w3, by simp only [execOp, h1]; simp [go_sem], PI.Post.pure GOESN rfl trivial⟩
                          · obtain rfl := Option.some.inj (show some _ = some o from ho)
                            refine PI.shown_val rfl fun a w3 L0 hr T => ?_
                            have h1 : a.eval (.tmp 92) = .slice (some ⟨g, 0, none⟩) p cd := T.at_ 8 92 (by kernel_rfl) (by kernel_rfl) (by kernel_rfl)
                            have h2 : a.eval (.tmp 93) = .int .i64 (p : Int) := T.at_ 9 93 (by kernel_rfl) (by kernel_rfl) (by kernel_rfl)
                            exact ⟨.slice (some ⟨g, p * 2, none⟩) (p - p) (cd - p), w3, by simp only [execOp, h1, h2, Option.map]; simp [go_sem, t1, t2, t3, t4, t6, t7, t8, t9, t10, t11, t12], PI.Post.pure GOESN rfl trivial⟩
                          · obtain rfl := Option.some.inj (show some _ = some o from ho)
                            refine PI.shown_val rfl fun a w3 L0 hr T => ?_
                            have h1 : w3.ownsRow N 28 2 (a.eval (.tmp 91)) (p + 1) ((D.take p ++ [(th, tl)]).flatMap trC) := T.at_ 7 91 (by kernel_rfl) (by kernel_rfl) (by kernel_rfl)
                            have h2 : a.eval (.tmp 94) = .slice (some ⟨g, p * 2, none⟩) (p - p) (cd - p) := T.at_ 10 94 (by kernel_rfl) (by kernel_rfl) (by kernel_rfl)
                            have hL7 : L0 7 = true := T.done _ (Array.mem_of_getElem? (i := 0) rfl) rfl
                            have hsz : N ≤ w3.heap.size := Nat.le_trans hN hr.size
                            obtain ⟨v9, w9, e9, ho9, hg9⟩ := appTrs (ty := 76) (c := (cd - p)) h1 (K := D.drop p) ((HRD.out w3 hr).2.1) (m := (p - p)) (by rw [List.length_drop, hDd]; try omega) (by omega) hsz
                            have hb9 : Below N w3 w9 := hg9.below (Below.refl _ _) hsz (own_block_ge h1)
                            refine ⟨v9, w9, by simp only [execOp, resolve, invoke, builtin, Sem.run_bind, Sem.run_pure, Result.andThen_ok, List.map_toArray, List.map_cons, List.map_nil, h2, e9], hb9, by (have e1 : p + 1 + ((p - p)) = p + 1 := by omega); rw [e1] at ho9; exact ho9, fun _ _ h => h, fun j u hj hLj hnd hw h => ?_, trivial⟩
                            by_cases hjr : j = 3 ∨ j = 6 ∨ j = 7 ∨ j = 11 ∨ j = 12
                            · rcases hjr with rfl | rfl | rfl | rfl | rfl
                              · simp [PI.needB, hL7] at hnd
                              · simp [PI.needB, hL7] at hnd
                              · simp [PI.needB] at hnd
                              · exact absurd rfl hj
                              · exact absurd (T.shut_ 12 11 (by kernel_rfl) hLj) (by rw [T.yetNot]; decide)
                            · exact DnF.other h hjr
                          · obtain rfl := Option.some.inj (show some _ = some o from ho)
                            refine PI.shown_val rfl fun a w3 L0 hr T => ?_
                            have h1 : w3.ownsRow N 28 2 (a.eval (.tmp 95)) (p + 1) ((D.take p ++ [(th, tl)] ++ D.drop p).flatMap trC) := T.at_ 11 95 (by kernel_rfl) (by kernel_rfl) (by kernel_rfl)
                            exact ⟨a.eval (.tmp 95), w3, by simp only [execOp]; simp [go_sem], PI.Post.pure GOESN h1 trivial⟩
                          · cases ho
                        · rw [← hwN]
                          intro x w9 hr hf he _
                          have h1 := hf 12 _ 5 rfl rfl (by decide)
                          change w9.ownsRow N 28 2 (x 12) (p + 1) ((D.take p ++ [(th, tl)] ++ D.drop p).flatMap trC) at h1
                          have HBX9 := Lib.hid (HB9.out.trans (hr.mono (by rw [hNd]; exact HB9.out.size)))
                          have HO9 := Lib.hid (own_mono (base' := W1.heap.size) h1 (by rw [hNd]; exact HB9.out.size))
                          obtain ⟨A9, c9, hv9, _, _⟩ := own_rd h1
                          rw [hv9] at HO9
                          simp only [PI.putAll, Act.put, List.setIfInBounds_toArray, List.set_cons_zero, List.set_cons_succ]
                          rw [hv9]
                          clear hf he h1 hr hv9
                          go_wp2_with fail
                          go_roundw
                          case rel => exact ⟨j + 1, by go_num, by omega, Lib.hid (by rw [HINS.out, show (D.take p ++ [(th, tl)] ++ D.drop p).length = p + 1 from by simp [hDd] <;> omega]; exact HO9.out), HBX9⟩
                          case measure => simp [intOf]; omega


        · obtain rfl : j = m := by omega
          have dj : decide ((j : Int) < (j : Int)) = false := decide_eq_false (by omega)
          have HOF := HOj.out
          have htk : es.take j = es := List.take_of_length_le (by rw [HM.out]; exact Nat.le_refl _)
          rw [htk, ← HST.out] at HOF
          have HOF := Lib.hid HOF
          clear htk
          go_wp2_with fail
          go_roundw
          case rel => exact ⟨k + 1, by go_num, by omega, HOF, HBj⟩
          case measure => simp [intOf]; omega
    · obtain rfl : k = n := by omega
      have HOF := HO.out
      rw [← HAL.out] at HOF
      have HOF := Lib.hid HOF
      obtain ⟨Ad, cd, hv, hcd, hrd⟩ := own_rd HOF.out
      clear hrd
      go_wp2_with fail
      go_ret
      have hz1 := HZ1.out
      exact ⟨_, rfl, own_mono HOF.out (by omega), HB1.out.trans (HB.out.mono (by omega))⟩
end Go.Proofs.Ytmldelgbmadegaa
