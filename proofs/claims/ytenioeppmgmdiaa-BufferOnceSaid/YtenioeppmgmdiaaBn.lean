/- BufferOnce: each trace is open once, in the order in which they came; as many spans wait as were put. -/
import Derived.Test.YtenioeppmgmdiaaIp
import Derived.Test.YtenioeppmgmdiaaPb
import Derived.Test.YtenioeppmgmdiaaFe
import Derived.Test.YtenioeppmgmdiaaSe
import Derived.Test.YtenioeppmgmdiaaAl16
import Derived.Test.YtenioeppmgmdiaaDa
namespace Go.Proofs.Ytenioeppmgmdiaa
open Go.RowKit
set_option linter.unusedVariables false
set_option linter.unusedSimpArgs false
set_option maxRecDepth 100000

theorem rplain {w : World} {B : Nat} {A : Option Addr} {xs : List Value} (h : Rd w B A xs) (hl : 0 < xs.length) : ∃ b off, A = some ⟨b, off, none⟩ ∧ b < B ∧ ∀ j u, xs[j]? = some u → w.cell? ⟨b, off + j, none⟩ = some u := by
  obtain ⟨a, ha, hb, hc⟩ := h hl
  have h00 := hc 0 _ (List.getElem?_eq_getElem hl)
  obtain ⟨b, off, spot⟩ := a
  have hs : spot = none := by
    rcases spot with _ | s
    · rfl
    · simp [Addr.add, World.cell?] at h00
      split at h00 <;> simp at h00
  subst hs
  refine ⟨b, off, ha, hb, fun j u hu => ?_⟩
  have h1 := hc j u hu
  rwa [addr_plain] at h1
def TrC (t : Int × Int) : List Value := [.int .u64 t.1, .int .u64 t.2]
theorem trc_len (t : Int × Int) : (TrC t).length = 2 := rfl
theorem infoTr : (Try.prog.info? 27).map (fun i => (i.zero, i.size, i.bytes)) = some (some (.agg #[.int .u64 0, .int .u64 0]), 2, 16) := by kernel_rfl
theorem trow_cell {w : World} {base g p oc : Nat} {ts : List (Int × Int)} (h : w.ownsRow base 27 2 (.slice (some ⟨g, 0, none⟩) p oc) p (ts.flatMap TrC)) {k : Nat} {t : Int × Int} (ht : ts[k]? = some t) (hk : k < p) : w.cell? ⟨g, k * 2, none⟩ = some (.int .u64 t.1) ∧ w.cell? ⟨g, k * 2 + 1, none⟩ = some (.int .u64 t.2) := by
  constructor
  · have h1 := (own_setk h (i := k * 2 + 0) (by omega) (.bool true)).2.1
    rw [flatMap_at _ 2 trc_len ts k 0 (by omega), ht] at h1
    exact h1
  · have h1 := (own_setk h (i := k * 2 + 1) (by omega) (.bool true)).2.1
    rw [flatMap_at _ 2 trc_len ts k 1 (by omega), ht] at h1
    exact h1
theorem OwnEps.apartT {w w' : World} {base base' n : Nat} {u v v' : Value} {l : List Le} {xs : List Value} (h : OwnEps w base u l) (hv : w.ownsRow base' 27 2 v n xs) (hg : Grew w w' v v') : OwnEps w' base u l :=
  ⟨own_grew h.own hg (own_apart h.own hv (by decide)), fun e he => OwnSps.grew (h.each e he) hv hg (by decide) (by decide)⟩
def BnF (XA A sA : Option Addr) (base p xcc n c sn sc k ab ao sb so : Nat) (b : Bool) (CS : Array Value) (LP : List Ep) : Nat → Value → World → Prop
  | 0, v, _ => v = .slice XA p xcc
  | 1, v, _ => v = .slice A n c
  | 2, v, _ => v = .int .i64 (k : Int)
  | 3, v, _ => v = .pointer (some ⟨ab, ao + k * 10, none⟩)
  | 4, v, _ => v = .agg CS
  | 5, v, _ => v = .int .i64 (k : Int)
  | 6, v, _ => v = .slice sA sn sc
  | 7, v, _ => v = .int .i64 (k : Int)
  | 8, v, _ => v = .pointer (some ⟨sb, so + k, none⟩)
  | 9, v, _ => v = .bool b
  | 10, v, w => ∃ (a : Option Addr) (k : Nat) (l' : List Le), v = .slice a l'.length k ∧ OwnEps w base v l' ∧ l'.map Le.ep = LP
  | 11, v, w => ∃ (a : Option Addr) (k : Nat) (l' : List Le), v = .slice a l'.length k ∧ OwnEps w base v l' ∧ l'.map Le.ep = LP
  | _, _, _ => True
theorem BnF.keep {XA A sA : Option Addr} {base p xcc n c sn sc k ab ao sb so : Nat} {b : Bool} {CS : Array Value} {LP : List Ep} {w w' : World} {i : Nat} {v : Value} (hb : Below w.heap.size w w') (h : BnF XA A sA base p xcc n c sn sc k ab ao sb so b CS LP i v w) : BnF XA A sA base p xcc n c sn sc k ab ao sb so b CS LP i v w' := by
  match i, h with
  | 0, h => exact h
  | 1, h => exact h
  | 2, h => exact h
  | 3, h => exact h
  | 4, h => exact h
  | 5, h => exact h
  | 6, h => exact h
  | 7, h => exact h
  | 8, h => exact h
  | 9, h => exact h
  | 10, h => obtain ⟨a, k, l, h1, h3, h4⟩ := h; exact ⟨a, k, l, h1, h3.below hb, h4⟩
  | 11, h => obtain ⟨a, k, l, h1, h3, h4⟩ := h; exact ⟨a, k, l, h1, h3.below hb, h4⟩
  | _ + 12, h => trivial
set_option maxHeartbeats 64000000 in
theorem once16 (A sA : Option Addr) (l : List Ls) (sure : List Bool) (n c sn sc : Nat) (w : World)
    (hn : n = l.length) (hy : RdSps w w.heap.size A l) (hl : n ≤ maxLen) (hs : sn = sure.length) (hsr : Rd w w.heap.size sA (sure.map Value.bool)) :
    Calls Try.prog 7 #[.slice A n c, .slice sA sn sc] w fun e w' => e = .returned (.bool true) ∧ Below w.heap.size w w' := by
  have HFW : Hid (∀ W, Below w.heap.size w W → Calls Try.prog 10 #[.slice A n c] W fun e w' => e = .returned (.bool (fewAll l)) ∧ Below W.heap.size W w') := Lib.hid (fun W hW => fewall_any A l n c w.heap.size W hn (hy.below hW) hW.size hl)
  have HN := Lib.hid hn
  have HY := Lib.hid hy
  have HS := Lib.hid hs
  have HSR := Lib.hid hsr
  clear hn hy hl hs hsr
  cases hfw : fewAll l
  · rw [hfw] at HFW
    go_enter Try.func7, Try.ntmps7
    go_wp2_with fail
    refine (alive16_calls _).mono ?_
    rintro e w1 ⟨rfl, hb1⟩
    have HB1 := Lib.hid hb1
    clear hb1
    go_wp2_with fail
    refine (HFW.out w1 HB1.out).mono ?_
    rintro e w2 ⟨rfl, hb2⟩
    have HB2 := Lib.hid (HB1.out.trans (hb2.mono HB1.out.size))
    clear hb2
    go_wp2_with fail
    go_ret
    exact ⟨rfl, HB2.out⟩
  rw [hfw] at HFW
  by_cases hsn : sn < n
  · have e1 : decide (sn < n) = true := decide_eq_true hsn
    have e2 : decide ((sn : Int) < (n : Int)) = true := decide_eq_true (by omega)
    have HSN := Lib.hid hsn
    clear hsn
    go_enter Try.func7, Try.ntmps7
    go_wp2_with fail
    refine (alive16_calls _).mono ?_
    rintro e w1 ⟨rfl, hb1⟩
    have HB1 := Lib.hid hb1
    clear hb1
    go_wp2_with fail
    refine (HFW.out w1 HB1.out).mono ?_
    rintro e w2 ⟨rfl, hb2⟩
    have HB2 := Lib.hid (HB1.out.trans (hb2.mono HB1.out.size))
    clear hb2
    go_wp2_with fail
    go_ret
    exact ⟨rfl, HB2.out⟩
  have hn60 : n ≤ 60 := by rw [HN.out]; exact fewAll_len hfw
  have HAT : Hid (∀ x ∈ (l.map Ls.s), x.ats.length ≤ 100000) := Lib.hid (fun x hx => by
    obtain ⟨y, hy, rfl⟩ := List.mem_map.1 hx
    exact Nat.le_trans (fewAll_ats hfw y hy) (by omega))
  have e1 : decide (sn < n) = false := decide_eq_false hsn
  have e2 : decide ((sn : Int) < (n : Int)) = false := decide_eq_false (by omega)
  have hns : n ≤ sn := by omega
  clear hsn hfw
  go_enter Try.func7, Try.ntmps7
  go_wp2_with fail
  refine (alive16_calls _).mono ?_
  rintro e w1 ⟨rfl, hb1⟩
  have HB1 := Lib.hid hb1
  clear hb1
  go_wp2_with fail
  refine (HFW.out w1 HB1.out).mono ?_
  rintro e w2 ⟨rfl, hb2⟩
  have HB2 : Hid (Below w.heap.size w w2) := Lib.hid (HB1.out.trans (hb2.mono HB1.out.size))
  clear hb2 HB1 HFW
  go_wp2_with fail
  go_loopw [6, 7, 8, 9] (fun x nn od0 i wr => ∃ (k p q xcc : Nat) (XA : Option Addr) (xl : List Le) (oA : Option Addr) (oc : Nat), od0 = .slice oA p oc ∧ i = .int .i64 k ∧ x = .slice XA p xcc ∧ nn = .int .i64 q ∧ k ≤ n ∧ q ≤ k ∧ p ≤ k ∧ Hid (p = xl.length) ∧ Hid (q = cntE xl) ∧ Hid (OwnEps wr w2.heap.size (.slice XA p xcc) xl) ∧ Hid (Inv16 (l.map Ls.s) sure k (xl.map Le.ep) ∧ Small (l.map Ls.s) k (xl.map Le.ep)) ∧ Hid (wr.ownsRow w2.heap.size 27 2 (.slice oA p oc) p (((xl.map Le.ep).map tre).flatMap TrC)) ∧ Hid (Below w2.heap.size w2 wr)) (fun _ _ _ i _ => n - (intOf i).toNat)
  case atStart => exact ⟨0, 0, 0, 0, none, [], none, 0, rfl, rfl, rfl, rfl, Nat.zero_le _, Nat.le_refl _, Nat.le_refl _, Lib.hid rfl, Lib.hid rfl, Lib.hid OwnEps.nil, Lib.hid ⟨Inv16.nil, Small.nil _⟩, Lib.hid (World.ownsRow_nil _ _ _ _), Lib.hid (Below.refl _ _)⟩
  case round =>
    obtain ⟨k, p, q, xcc, XA, xl, oA, oc, rfl, rfl, rfl, rfl, hk, hq, hp, HP, HQ, HX, HI, HO, HB⟩ := hrel
    have HBW : Hid (Below w.heap.size w wr) := Lib.hid (HB2.out.trans (HB.out.mono HB2.out.size))
    by_cases hlt : k < n
    · obtain ⟨y, hy⟩ : ∃ y, l[k]? = some y := ⟨_, List.getElem?_eq_getElem (by rw [← HN.out]; exact hlt)⟩
      obtain ⟨b, hbk⟩ : ∃ b, sure[k]? = some b := ⟨_, List.getElem?_eq_getElem (by rw [← HS.out]; omega)⟩
      obtain ⟨ab, ao, hA, hab, hcA⟩ := rplain HY.out.rd (by rw [flatMap_len _ 10 cells_len, ← HN.out]; omega)
      subst hA
      obtain ⟨sb, so, hA, hsb, hcS⟩ := rplain HSR.out (by rw [List.length_map, ← HS.out]; omega)
      subst hA
      have HAL : Hid (∀ W3, Below w.heap.size w W3 → ∀ i e, l[i]? = some e → ∀ j v, e.cells[j]? = some v → W3.cell? ⟨ab, ao + i * 10 + j, none⟩ = some v) := Lib.hid (fun W3 h3 i e he j v hv => by
        rw [Nat.add_assoc, h3.cell (p := ⟨ab, ao + (i * 10 + j), none⟩) hab]
        refine hcA _ _ ?_
        have hj : j < 10 := by
          rcases Nat.lt_or_ge j 10 with h | h
          · exact h
          · rw [List.getElem?_eq_none (by rw [cells_len]; exact h)] at hv; cases hv
        rw [flatMap_at _ 10 cells_len l i j hj, he]
        exact hv)
      obtain ⟨⟨x0, x1, x2, x3, x4, x5, x6, x7, x8, ats⟩, xA, xc⟩ := y
      obtain ⟨m, hm⟩ : ∃ m, m = ats.length := ⟨_, rfl⟩
      have HM := Lib.hid hm
      have hm20 : m ≤ 100000 := by rw [hm]; exact HAT.out ⟨x0, x1, x2, x3, x4, x5, x6, x7, x8, ats⟩ (List.mem_map.2 ⟨_, List.mem_of_getElem? hy, rfl⟩)
      have HYK := Lib.hid hy
      have HLK : Hid ((l.map Ls.s)[k]? = some ⟨x0, x1, x2, x3, x4, x5, x6, x7, x8, ats⟩) := Lib.hid (by rw [List.getElem?_map, hy]; rfl)
      have HBK := Lib.hid hbk
      have HYR : Hid (RdL w w.heap.size ⟨⟨x0, x1, x2, x3, x4, x5, x6, x7, x8, ats⟩, xA, xc⟩) := Lib.hid (HY.out.each _ (List.mem_of_getElem? hy))
      have HCE : Hid (∀ W3, Below w.heap.size w W3 → ∀ j v, ([.int .u64 x0, .int .u64 x1, .int .u64 x2, .int .u64 x3, .string x4, .string x5, .int .i64 x6, .int .i64 x7, .bool x8, .slice xA m xc] : List Value)[j]? = some v → W3.cell? ⟨ab, ao + k * 10 + j, none⟩ = some v) := Lib.hid (fun W3 h3 j v hv => HAL.out W3 h3 k _ HYK.out j v (by rw [HM.out] at hv; exact hv))
      have HSB : Hid (∀ W3, Below w.heap.size w W3 → W3.cell? ⟨sb, so + k, none⟩ = some (.bool b)) := Lib.hid (fun W3 h3 => by
        rw [h3.cell (p := ⟨sb, so + k, none⟩) hsb]
        exact hcS k _ (by rw [List.getElem?_map, HBK.out]; rfl))
      have HMD : Hid (ModE xl) := Lib.hid (HI.out.2.mod rfl (by omega) HAT.out)
      obtain ⟨W, hW⟩ : ∃ W, W = wr.drew := ⟨_, rfl⟩
      have hWr : Below wr.heap.size wr W := by rw [hW]; exact ⟨rfl, rfl, rfl, Nat.le_refl _, fun _ _ => rfl⟩
      have HBD : Hid (Below w.heap.size w W) := Lib.hid (HBW.out.trans (hWr.mono HBW.out.size))
      have hwW : w.heap.size ≤ W.heap.size := HBD.out.size
      have HWW : Hid (∀ W3, Below W.heap.size W W3 → Below w.heap.size w W3) := Lib.hid (fun W3 h3 => HBD.out.trans (h3.mono HBD.out.size))
      have HXW : Hid (RdEps W W.heap.size XA xl) := Lib.hid (by
        obtain ⟨A9, c9, hv9, _, hr9⟩ := (HX.out.below hWr).rd
        injection hv9 with hv9 _ _
        subst hv9
        exact hr9)
      have HOW : Hid (W.ownsRow w2.heap.size 27 2 (.slice oA p oc) p (((xl.map Le.ep).map tre).flatMap TrC)) := Lib.hid (own_below HO.out hWr)
      have HB2W : Hid (Below w2.heap.size w2 W) := Lib.hid (HB.out.trans (hWr.mono HB.out.size))
      obtain ⟨LP, hLP⟩ : ∃ LP, LP = putE (xl.map Le.ep) ⟨x0, x1, x2, x3, x4, x5, x6, x7, x8, ats⟩ k b := ⟨_, rfl⟩
      obtain ⟨I1, I2, I3⟩ := HI.out.1.step HLK.out HBK.out
      have I4 := HI.out.2.step (List.mem_of_getElem? HLK.out) (k : Int) b
      rw [← hLP] at I1 I2 I3 I4
      have HI1 := Lib.hid (And.intro I1 I4)
      have HI2 := Lib.hid I2
      have HI3 : Hid (cntP LP = q + (if th (l.map Ls.s) (trs ⟨x0, x1, x2, x3, x4, x5, x6, x7, x8, ats⟩) x2 k = true then 0 else 1)) := Lib.hid (by rw [I3, HQ.out, cnt_map]; rfl)
      have HLP := Lib.hid hLP
      have i1 : (k : Int) < (n : Int) := by omega
      have i2 : (0 : Int) ≤ (k : Int) := by omega
      have i3 : k < n := hlt
      have i4 : decide ((k : Int) < (n : Int)) = true := decide_eq_true i1
      have j1 : (k : Int) < (sn : Int) := by omega
      have j3 : k < sn := by omega
      have j4 : decide ((k : Int) < (sn : Int)) = true := decide_eq_true j1
      have ad0 := addr_plain ab ao (k * 10)
      have ad1 := addr_plain sb so k
      clear hy hbk hab hcA hsb hcS hm hWr I1 I2 I3 I4 hLP HO HX HB HBW
      go_wp2_with fail
      refine PI.wp_region_persG (R := (fun w w' => Below w.heap.size w w')) (G := fun _ _ => True) (I := fun _ _ _ => True) [(3, 1), (3, 2), (4, 3), (8, 6), (8, 7), (9, 8), (10, 0), (10, 4), (10, 5), (10, 9), (11, 10)] [11] (by kernel_rfl) (PI.formed_of (by kernel_rfl)) ⟨fun w => Below.refl _ w, fun _ _ _ h k => h.trans (k.mono h.size)⟩ (fun _ => trivial) (BnF XA (some ⟨ab, ao, none⟩) (some ⟨sb, so, none⟩) w2.heap.size p xcc n c sn sc k ab ao sb so b #[.int .u64 x0, .int .u64 x1, .int .u64 x2, .int .u64 x3, .string x4, .string x5, .int .i64 x6, .int .i64 x7, .bool x8, .slice xA m xc] LP) trivial ?_ ?_
      · rw [← hW, HLP.out]
        intro i o ho
        rcases i with _ | _ | _ | _ | _ | _ | _ | _ | _ | _ | _ | _ | i
        · obtain rfl := Option.some.inj (show some _ = some o from ho)
          refine PI.shown_val rfl fun a w8 L0 hr T => ?_
          have h1 : a.eval (.tmp 6) = .slice XA p xcc := T.was 6 (by kernel_rfl)
          exact ⟨.slice XA p xcc, w8, by simp only [execOp, h1]; simp [go_sem], PI.Post.pure ⟨fun w => Below.refl _ w, fun _ _ _ h k => h.trans (k.mono h.size)⟩ rfl trivial⟩
        · obtain rfl := Option.some.inj (show some _ = some o from ho)
          refine PI.shown_val rfl fun a w8 L0 hr T => ?_
          have h1 : a.eval (.tmp 0) = .slice (some ⟨ab, ao, none⟩) n c := T.was 0 (by kernel_rfl)
          exact ⟨.slice (some ⟨ab, ao, none⟩) n c, w8, by simp only [execOp, h1]; simp [go_sem], PI.Post.pure ⟨fun w => Below.refl _ w, fun _ _ _ h k => h.trans (k.mono h.size)⟩ rfl trivial⟩
        · obtain rfl := Option.some.inj (show some _ = some o from ho)
          refine PI.shown_val rfl fun a w8 L0 hr T => ?_
          have h1 : a.eval (.tmp 9) = .int .i64 (k : Int) := T.was 9 (by kernel_rfl)
          exact ⟨.int .i64 (k : Int), w8, by simp only [execOp, h1]; simp [go_sem], PI.Post.pure ⟨fun w => Below.refl _ w, fun _ _ _ h k => h.trans (k.mono h.size)⟩ rfl trivial⟩
        · obtain rfl := Option.some.inj (show some _ = some o from ho)
          refine PI.shown_val rfl fun a w8 L0 hr T => ?_
          have h0 : a.eval (.tmp 41) = .slice (some ⟨ab, ao, none⟩) n c := T.at_ 1 41 (by kernel_rfl) (by kernel_rfl) (by kernel_rfl)
          have h1 : a.eval (.tmp 42) = .int .i64 (k : Int) := T.at_ 2 42 (by kernel_rfl) (by kernel_rfl) (by kernel_rfl)
          exact ⟨.pointer (some ⟨ab, ao + k * 10, none⟩), w8, by simp only [execOp, h0, h1]; simp [go_sem, i1, i2, i3, i4, ad0], PI.Post.pure ⟨fun w => Below.refl _ w, fun _ _ _ h k => h.trans (k.mono h.size)⟩ rfl trivial⟩
        · obtain rfl := Option.some.inj (show some _ = some o from ho)
          refine PI.shown_val rfl fun a w8 L0 hr T => ?_
          have h2 : a.eval (.tmp 43) = .pointer (some ⟨ab, ao + k * 10, none⟩) := T.at_ 3 43 (by kernel_rfl) (by kernel_rfl) (by kernel_rfl)
          have v0 : w8.cell? ⟨ab, ao + k * 10, none⟩ = some (.int .u64 x0) := HCE.out w8 (HWW.out w8 hr) 0 _ rfl
          have v1 : w8.cell? ⟨ab, ao + k * 10 + 1, none⟩ = some (.int .u64 x1) := HCE.out w8 (HWW.out w8 hr) 1 _ rfl
          have v2 : w8.cell? ⟨ab, ao + k * 10 + 2, none⟩ = some (.int .u64 x2) := HCE.out w8 (HWW.out w8 hr) 2 _ rfl
          have v3 : w8.cell? ⟨ab, ao + k * 10 + 3, none⟩ = some (.int .u64 x3) := HCE.out w8 (HWW.out w8 hr) 3 _ rfl
          have v4 : w8.cell? ⟨ab, ao + k * 10 + 4, none⟩ = some (.string x4) := HCE.out w8 (HWW.out w8 hr) 4 _ rfl
          have v5 : w8.cell? ⟨ab, ao + k * 10 + 5, none⟩ = some (.string x5) := HCE.out w8 (HWW.out w8 hr) 5 _ rfl
          have v6 : w8.cell? ⟨ab, ao + k * 10 + 6, none⟩ = some (.int .i64 x6) := HCE.out w8 (HWW.out w8 hr) 6 _ rfl
          have v7 : w8.cell? ⟨ab, ao + k * 10 + 7, none⟩ = some (.int .i64 x7) := HCE.out w8 (HWW.out w8 hr) 7 _ rfl
          have v8 : w8.cell? ⟨ab, ao + k * 10 + 8, none⟩ = some (.bool x8) := HCE.out w8 (HWW.out w8 hr) 8 _ rfl
          have v9 : w8.cell? ⟨ab, ao + k * 10 + 9, none⟩ = some (.slice xA m xc) := HCE.out w8 (HWW.out w8 hr) 9 _ rfl
          exact ⟨.agg #[.int .u64 x0, .int .u64 x1, .int .u64 x2, .int .u64 x3, .string x4, .string x5, .int .i64 x6, .int .i64 x7, .bool x8, .slice xA m xc], w8, by simp only [execOp, h2]; simp [go_sem, v0, v1, v2, v3, v4, v5, v6, v7, v8, v9], PI.Post.pure ⟨fun w => Below.refl _ w, fun _ _ _ h k => h.trans (k.mono h.size)⟩ rfl trivial⟩
        · obtain rfl := Option.some.inj (show some _ = some o from ho)
          refine PI.shown_val rfl fun a w8 L0 hr T => ?_
          have h1 : a.eval (.tmp 9) = .int .i64 (k : Int) := T.was 9 (by kernel_rfl)
          exact ⟨.int .i64 (k : Int), w8, by simp only [execOp, h1]; simp [go_sem], PI.Post.pure ⟨fun w => Below.refl _ w, fun _ _ _ h k => h.trans (k.mono h.size)⟩ rfl trivial⟩
        · obtain rfl := Option.some.inj (show some _ = some o from ho)
          refine PI.shown_val rfl fun a w8 L0 hr T => ?_
          have h1 : a.eval (.tmp 1) = .slice (some ⟨sb, so, none⟩) sn sc := T.was 1 (by kernel_rfl)
          exact ⟨.slice (some ⟨sb, so, none⟩) sn sc, w8, by simp only [execOp, h1]; simp [go_sem], PI.Post.pure ⟨fun w => Below.refl _ w, fun _ _ _ h k => h.trans (k.mono h.size)⟩ rfl trivial⟩
        · obtain rfl := Option.some.inj (show some _ = some o from ho)
          refine PI.shown_val rfl fun a w8 L0 hr T => ?_
          have h1 : a.eval (.tmp 9) = .int .i64 (k : Int) := T.was 9 (by kernel_rfl)
          exact ⟨.int .i64 (k : Int), w8, by simp only [execOp, h1]; simp [go_sem], PI.Post.pure ⟨fun w => Below.refl _ w, fun _ _ _ h k => h.trans (k.mono h.size)⟩ rfl trivial⟩
        · obtain rfl := Option.some.inj (show some _ = some o from ho)
          refine PI.shown_val rfl fun a w8 L0 hr T => ?_
          have h0 : a.eval (.tmp 46) = .slice (some ⟨sb, so, none⟩) sn sc := T.at_ 6 46 (by kernel_rfl) (by kernel_rfl) (by kernel_rfl)
          have h1 : a.eval (.tmp 47) = .int .i64 (k : Int) := T.at_ 7 47 (by kernel_rfl) (by kernel_rfl) (by kernel_rfl)
          exact ⟨.pointer (some ⟨sb, so + k, none⟩), w8, by simp only [execOp, h0, h1]; simp [go_sem, j1, i2, j3, j4, ad1], PI.Post.pure ⟨fun w => Below.refl _ w, fun _ _ _ h k => h.trans (k.mono h.size)⟩ rfl trivial⟩
        · obtain rfl := Option.some.inj (show some _ = some o from ho)
          refine PI.shown_val rfl fun a w8 L0 hr T => ?_
          have h2 : a.eval (.tmp 48) = .pointer (some ⟨sb, so + k, none⟩) := T.at_ 8 48 (by kernel_rfl) (by kernel_rfl) (by kernel_rfl)
          have v0 : w8.cell? ⟨sb, so + k, none⟩ = some (.bool b) := HSB.out w8 (HWW.out w8 hr)
          exact ⟨.bool b, w8, by simp only [execOp, h2]; simp [go_sem, v0], PI.Post.pure ⟨fun w => Below.refl _ w, fun _ _ _ h k => h.trans (k.mono h.size)⟩ rfl trivial⟩
        · obtain rfl := Option.some.inj (show some _ = some o from ho)
          refine PI.shown_call rfl 27 fun a w8 L0 hr T => ?_
          have h0 : a.eval (.tmp 40) = .slice XA p xcc := T.at_ 0 40 (by kernel_rfl) (by kernel_rfl) (by kernel_rfl)
          have h4 : a.eval (.tmp 44) = .agg #[.int .u64 x0, .int .u64 x1, .int .u64 x2, .int .u64 x3, .string x4, .string x5, .int .i64 x6, .int .i64 x7, .bool x8, .slice xA m xc] := T.at_ 4 44 (by kernel_rfl) (by kernel_rfl) (by kernel_rfl)
          have h5 : a.eval (.tmp 45) = .int .i64 (k : Int) := T.at_ 5 45 (by kernel_rfl) (by kernel_rfl) (by kernel_rfl)
          have h9 : a.eval (.tmp 49) = .bool b := T.at_ 9 49 (by kernel_rfl) (by kernel_rfl) (by kernel_rfl)
          refine ⟨#[.slice XA p xcc, .agg #[.int .u64 x0, .int .u64 x1, .int .u64 x2, .int .u64 x3, .string x4, .string x5, .int .i64 x6, .int .i64 x7, .bool x8, .slice xA m xc], .int .i64 (k : Int), .bool b], by simp only [execOp, resolve, List.map_toArray, List.map_cons, List.map_nil, h0, h4, h5, h9]; simp [go_sem, Act.eval], ?_⟩
          have hw28 : w2.heap.size ≤ w8.heap.size := Nat.le_trans HB2W.out.size hr.size
          refine (put_any XA xl p xcc x0 x1 x2 x3 x4 x5 x6 x7 x8 ats xA m xc (k : Int) b w8.heap.size w8 HP.out ((HXW.out.below hr).more hr.size) (Nat.le_refl _) HM.out ((HYR.out.below (HWW.out w8 hr)).more (Nat.le_trans hwW hr.size)) HMD.out hm20).mono fun e w9 hh => ?_
          obtain ⟨v9, l9, rfl, ho9, hm9, hb9⟩ := hh
          obtain ⟨A9, c9, rfl, _, hr9⟩ := ho9.rd
          exact ⟨_, rfl, hb9, ⟨A9, c9, l9, rfl, ho9.mono hw28, hm9⟩, fun _ _ h => h, fun j v _ _ _ _ h => h.keep hb9, trivial⟩
        · obtain rfl := Option.some.inj (show some _ = some o from ho)
          refine PI.shown_val rfl fun a w8 L0 hr T => ?_
          have h1 : BnF XA (some ⟨ab, ao, none⟩) (some ⟨sb, so, none⟩) w2.heap.size p xcc n c sn sc k ab ao sb so b #[.int .u64 x0, .int .u64 x1, .int .u64 x2, .int .u64 x3, .string x4, .string x5, .int .i64 x6, .int .i64 x7, .bool x8, .slice xA m xc] (putE (xl.map Le.ep) ⟨x0, x1, x2, x3, x4, x5, x6, x7, x8, ats⟩ k b) 10 (a.eval (.tmp 50)) w8 := T.at_ 10 50 (by kernel_rfl) (by kernel_rfl) (by kernel_rfl)
          exact ⟨a.eval (.tmp 50), w8, by simp only [execOp]; simp [go_sem], PI.Post.pure ⟨fun w => Below.refl _ w, fun _ _ _ h k => h.trans (k.mono h.size)⟩ h1 trivial⟩
        · cases ho
      · rw [← hW]
        intro x w9 hr hf he _
        obtain ⟨A4, c4, l4, hx11, hr4, hm4⟩ : ∃ (a : Option Addr) (k : Nat) (l' : List Le), x 11 = .slice a l'.length k ∧ OwnEps w9 w2.heap.size (x 11) l' ∧ l'.map Le.ep = LP := hf 11 _ 6 rfl rfl (by decide)
        have HB9 : Hid (Below w.heap.size w w9) := Lib.hid (HBD.out.trans (hr.mono HBD.out.size))
        have HB29 : Hid (Below w2.heap.size w2 w9) := Lib.hid (HB2W.out.trans (hr.mono HB2W.out.size))
        have HO9 : Hid (w9.ownsRow w2.heap.size 27 2 (.slice oA p oc) p (((xl.map Le.ep).map tre).flatMap TrC)) := Lib.hid (own_below HOW.out hr)
        have HM4 := Lib.hid hm4
        obtain ⟨p4, hp4⟩ : ∃ p4, p4 = l4.length := ⟨_, rfl⟩
        have HP4 := Lib.hid hp4
        rw [← hp4] at hx11
        rw [hx11] at hr4
        have HR4 := Lib.hid hr4
        simp only [PI.putAll, Act.put, List.setIfInBounds_toArray, List.set_cons_zero, List.set_cons_succ]
        rw [hx11]
        clear hf he hr4 hm4 hp4 hx11 hr hW HBD HWW HXW HOW HB2W
        go_wp2_with fail
        go_loopw [10, 11, 12] (fun tb0 kb0 kk wr => ∃ (j : Nat) (tb kb : Bool), kk = .int .i64 j ∧ tb0 = .bool tb ∧ kb0 = .bool kb ∧ j ≤ k ∧ Hid (th (l.map Ls.s) (trs ⟨x0, x1, x2, x3, x4, x5, x6, x7, x8, ats⟩) x2 j = tb) ∧ Hid (kn (l.map Ls.s) (trs ⟨x0, x1, x2, x3, x4, x5, x6, x7, x8, ats⟩) j = kb) ∧ Hid (Below w9.heap.size w9 wr)) (fun _ _ kk _ => k - (intOf kk).toNat)
        case atStart => exact ⟨0, false, false, rfl, rfl, rfl, Nat.zero_le _, Lib.hid rfl, Lib.hid rfl, Lib.hid (Below.refl _ _)⟩
        case round =>
          obtain ⟨j, tb, kb, rfl, rfl, rfl, hj, HT, HK, HBJ⟩ := hrel
          have HBWJ : Hid (Below w.heap.size w wr) := Lib.hid (HB9.out.trans (HBJ.out.mono HB9.out.size))
          have hx0 : wr.cell? ⟨ab, ao + k * 10, none⟩ = some (.int .u64 x0) := HCE.out wr HBWJ.out 0 _ rfl
          have hx1 : wr.cell? ⟨ab, ao + k * 10 + 1, none⟩ = some (.int .u64 x1) := HCE.out wr HBWJ.out 1 _ rfl
          have hx2 : wr.cell? ⟨ab, ao + k * 10 + 2, none⟩ = some (.int .u64 x2) := HCE.out wr HBWJ.out 2 _ rfl
          by_cases hjk : j < k
          · obtain ⟨z, hz⟩ : ∃ z, l[j]? = some z := ⟨_, List.getElem?_eq_getElem (by rw [← HN.out]; omega)⟩
            have HZL : Hid ((l.map Ls.s)[j]? = some z.s) := Lib.hid (by rw [List.getElem?_map, hz]; rfl)
            have hz0 := HAL.out wr HBWJ.out j _ hz 0 _ rfl
            have hz1 := HAL.out wr HBWJ.out j _ hz 1 _ rfl
            have hz2 := HAL.out wr HBWJ.out j _ hz 2 _ rfl
            obtain ⟨⟨z0, z1, z2, z3, z4, z5, z6, z7, z8, zats⟩, zA, zc⟩ := z
            simp only [Nat.add_zero] at hz0 hz1 hz2 HZL
            have ad2 := addr_plain ab ao (j * 10)
            have hjn : j < n := by omega
            have TS : Hid (th (l.map Ls.s) (trs ⟨x0, x1, x2, x3, x4, x5, x6, x7, x8, ats⟩) x2 (j + 1) = (tb || (decide (trs ⟨z0, z1, z2, z3, z4, z5, z6, z7, z8, zats⟩ = trs ⟨x0, x1, x2, x3, x4, x5, x6, x7, x8, ats⟩) && (z2 == x2)))) := Lib.hid (by rw [th_step HZL.out, HT.out])
            have KS : Hid (kn (l.map Ls.s) (trs ⟨x0, x1, x2, x3, x4, x5, x6, x7, x8, ats⟩) (j + 1) = (kb || decide (trs ⟨z0, z1, z2, z3, z4, z5, z6, z7, z8, zats⟩ = trs ⟨x0, x1, x2, x3, x4, x5, x6, x7, x8, ats⟩))) := Lib.hid (by rw [kn_step HZL.out, HK.out])
            have hcc : (((z0 == x0) = false ∨ ((z0 == x0) = true ∧ (z1 == x1) = false)) ∧ Hid (decide (trs ⟨z0, z1, z2, z3, z4, z5, z6, z7, z8, zats⟩ = trs ⟨x0, x1, x2, x3, x4, x5, x6, x7, x8, ats⟩) = false)) ∨ ((z0 == x0) = true ∧ (z1 == x1) = true ∧ Hid (decide (trs ⟨z0, z1, z2, z3, z4, z5, z6, z7, z8, zats⟩ = trs ⟨x0, x1, x2, x3, x4, x5, x6, x7, x8, ats⟩) = true)) := by
              by_cases h1 : z0 = x0
              · by_cases h2 : z1 = x1
                · right; subst h1 h2; exact ⟨by simp, by simp, Lib.hid (decide_eq_true rfl)⟩
                · left; exact ⟨.inr ⟨by simpa using h1, by simpa using h2⟩, Lib.hid (decide_eq_false (fun hh => h2 (congrArg Prod.snd hh)))⟩
              · left; exact ⟨.inl (by simpa using h1), Lib.hid (decide_eq_false (fun hh => h1 (congrArg Prod.fst hh)))⟩
            have htk : tb = true → kb = true := fun hh => by
              subst hh
              have := th_kn HT.out
              rw [HK.out] at this
              exact this
            clear hz HZL
            cases kb
            · have : tb = false := by
                cases tb with
                | false => rfl
                | true => exact absurd (htk rfl) (by decide)
              subst this
              clear htk
              rcases hcc with ⟨g1 | ⟨g1, g2⟩, HD⟩ | ⟨g1, g2, HD⟩
              · go_wp2_with fail
                go_quiet (fail)
                go_wp2_with fail
                go_quiet (fail)
                go_wp2_with fail
                go_roundw
                case rel => exact ⟨j + 1, false, false, by go_num, rfl, rfl, by omega, Lib.hid (by rw [TS.out, HD.out]; rfl), Lib.hid (by rw [KS.out, HD.out]; rfl), Lib.hid (drewND HBJ.out _)⟩
                case measure => simp [intOf]; omega
              · go_wp2_with fail
                go_quiet (fail)
                go_wp2_with fail
                go_quiet (fail)
                go_wp2_with fail
                go_roundw
                case rel => exact ⟨j + 1, false, false, by go_num, rfl, rfl, by omega, Lib.hid (by rw [TS.out, HD.out]; rfl), Lib.hid (by rw [KS.out, HD.out]; rfl), Lib.hid (drewND HBJ.out _)⟩
                case measure => simp [intOf]; omega
              · cases g3 : (z2 == x2)
                · go_wp2_with fail
                  go_quiet (fail)
                  go_wp2_with fail
                  go_quiet (fail)
                  go_wp2_with fail
                  go_roundw
                  case rel => exact ⟨j + 1, false, true, by go_num, rfl, rfl, by omega, Lib.hid (by rw [TS.out, HD.out, g3]; rfl), Lib.hid (by rw [KS.out, HD.out]; rfl), Lib.hid (drewND HBJ.out _)⟩
                  case measure => simp [intOf]; omega
                · go_wp2_with fail
                  go_quiet (fail)
                  go_wp2_with fail
                  go_quiet (fail)
                  go_wp2_with fail
                  go_roundw
                  case rel => exact ⟨j + 1, true, true, by go_num, rfl, rfl, by omega, Lib.hid (by rw [TS.out, HD.out, g3]; rfl), Lib.hid (by rw [KS.out, HD.out]; rfl), Lib.hid (drewND HBJ.out _)⟩
                  case measure => simp [intOf]; omega
            · clear htk
              cases tb
              · rcases hcc with ⟨g1 | ⟨g1, g2⟩, HD⟩ | ⟨g1, g2, HD⟩
                · go_wp2_with fail
                  go_quiet (fail)
                  go_wp2_with fail
                  go_quiet (fail)
                  go_wp2_with fail
                  go_roundw
                  case rel => exact ⟨j + 1, false, true, by go_num, rfl, rfl, by omega, Lib.hid (by rw [TS.out, HD.out]; rfl), Lib.hid (by rw [KS.out]; rfl), Lib.hid (drewND HBJ.out _)⟩
                  case measure => simp [intOf]; omega
                · go_wp2_with fail
                  go_quiet (fail)
                  go_wp2_with fail
                  go_quiet (fail)
                  go_wp2_with fail
                  go_roundw
                  case rel => exact ⟨j + 1, false, true, by go_num, rfl, rfl, by omega, Lib.hid (by rw [TS.out, HD.out]; rfl), Lib.hid (by rw [KS.out]; rfl), Lib.hid (drewND HBJ.out _)⟩
                  case measure => simp [intOf]; omega
                · cases g3 : (z2 == x2)
                  · go_wp2_with fail
                    go_quiet (fail)
                    go_wp2_with fail
                    go_quiet (fail)
                    go_wp2_with fail
                    go_roundw
                    case rel => exact ⟨j + 1, false, true, by go_num, rfl, rfl, by omega, Lib.hid (by rw [TS.out, HD.out, g3]; rfl), Lib.hid (by rw [KS.out]; rfl), Lib.hid (drewND HBJ.out _)⟩
                    case measure => simp [intOf]; omega
                  · go_wp2_with fail
                    go_quiet (fail)
                    go_wp2_with fail
                    go_quiet (fail)
                    go_wp2_with fail
                    go_roundw
                    case rel => exact ⟨j + 1, true, true, by go_num, rfl, rfl, by omega, Lib.hid (by rw [TS.out, HD.out, g3]; rfl), Lib.hid (by rw [KS.out]; rfl), Lib.hid (drewND HBJ.out _)⟩
                    case measure => simp [intOf]; omega
              · clear hcc hz0 hz1 hz2 hx0 hx1 hx2
                go_wp2_with fail
                go_quiet (fail)
                go_wp2_with fail
                go_quiet (fail)
                go_wp2_with fail
                go_roundw
                case rel => exact ⟨j + 1, true, true, by go_num, rfl, rfl, by omega, Lib.hid (by rw [TS.out]; rfl), Lib.hid (by rw [KS.out]; rfl), Lib.hid (drewND HBJ.out _)⟩
                case measure => simp [intOf]; omega
          · obtain rfl : j = k := by omega
            have HXJ : Hid (OwnEps wr w2.heap.size (.slice A4 p4 c4) l4) := Lib.hid (HR4.out.below HBJ.out)
            have HOJ : Hid (wr.ownsRow w2.heap.size 27 2 (.slice oA p oc) p (((xl.map Le.ep).map tre).flatMap TrC)) := Lib.hid (own_below HO9.out HBJ.out)
            have HB2J : Hid (Below w2.heap.size w2 wr) := Lib.hid (HB29.out.trans (HBJ.out.mono HB29.out.size))
            obtain ⟨cN, hcN⟩ : ∃ cN : Int, cN = (cntE l4 : Int) := ⟨_, rfl⟩
            have HMQ : Hid (ModE l4) := Lib.hid (HI1.out.2.mod HM4.out (by omega) HAT.out)
            have HCN : Hid (∀ W5, OwnEps W5 w2.heap.size (.slice A4 p4 c4) l4 → Calls Try.prog 24 #[.slice A4 p4 c4] W5 fun e w' => e = .returned (.int .i64 cN) ∧ Below W5.heap.size W5 w') := Lib.hid (fun W5 h5 => by
              obtain ⟨A9, c9, hv9, _, hr9⟩ := h5.rd
              injection hv9 with hv9 _ _
              subst hv9
              rw [hcN]
              exact count_any A4 l4 p4 c4 W5.heap.size W5 HP4.out hr9 (Nat.le_refl _) HMQ.out)
            have hcL : cN = (cntP LP : Int) := by rw [hcN, ← HM4.out, cnt_map]; rfl
            have hp4 : p4 = LP.length := by rw [HP4.out, ← HM4.out, List.length_map]
            have HIN : Hid (Inv16 (l.map Ls.s) sure (j + 1) (l4.map Le.ep) ∧ Small (l.map Ls.s) (j + 1) (l4.map Le.ep)) := Lib.hid (by rw [HM4.out]; exact HI1.out)
            have htk : tb = true → kb = true := fun hh => by
              subst hh
              have := th_kn HT.out
              rw [HK.out] at this
              exact this
            have HX0 := Lib.hid hx0
            have HX1 := Lib.hid hx1
            clear hx0 hx1 hx2
            cases kb
            · have : tb = false := by
                cases tb with
                | false => rfl
                | true => exact absurd (htk rfl) (by decide)
              subst this
              clear htk
              have h2 := HI2.out
              rw [HK.out] at h2
              simp only [if_true, Bool.false_eq_true, if_false, List.append_nil] at h2
              have h3 := HI3.out
              rw [HT.out] at h3
              simp only [if_true, Bool.false_eq_true, if_false, Nat.add_zero] at h3
              have hl2 := congrArg List.length h2
              simp only [List.length_map, List.length_append, List.length_cons, List.length_nil] at hl2
              have hxp := HP.out
              obtain rfl : p + 1 = p4 := by omega
              have HCQ : Hid (q + 1 = cntE l4) := Lib.hid (by have h := hcN; rw [hcL, h3] at h; omega)
              obtain rfl : cN = (q : Int) + 1 := by have e := hcL; rw [h3] at e; omega
              have HFL : Hid (((l4.map Le.ep).map tre).flatMap TrC = ((xl.map Le.ep).map tre).flatMap TrC ++ [.int .u64 x0, .int .u64 x1]) := Lib.hid (by rw [HM4.out, h2]; rw [List.flatMap_append]; rfl)
              clear h2 h3 hl2 hcN hcL hp4 hxp
              have hx0 := HX0.out
              have hx1 := HX1.out
              have hbz : Below wr.heap.size wr (wr.alloc (.cells #[.int .u64 x0, .int .u64 x1] 27)) := (Below.refl _ _).alloc (Nat.le_refl _) _
              have HOZ : Hid ((wr.alloc (.cells #[.int .u64 x0, .int .u64 x1] 27)).ownsRow w2.heap.size 27 2 (.slice oA p oc) p (((xl.map Le.ep).map tre).flatMap TrC)) := Lib.hid (own_below HOJ.out hbz)
              have HXZ : Hid (OwnEps (wr.alloc (.cells #[.int .u64 x0, .int .u64 x1] 27)) w2.heap.size (.slice A4 (p + 1) c4) l4) := Lib.hid (HXJ.out.below hbz)
              have HBZ : Hid (Below w2.heap.size w2 (wr.alloc (.cells #[.int .u64 x0, .int .u64 x1] 27))) := Lib.hid (HB2J.out.trans (hbz.mono HB2J.out.size))
              have HE9 : Hid (Rd (wr.alloc (.cells #[.int .u64 x0, .int .u64 x1] 27)) (wr.heap.size + 1) (some ⟨wr.heap.size, 0, none⟩) [.int .u64 x0, .int .u64 x1]) := Lib.hid (Rd.lit wr _ _)
              obtain ⟨i0, hi9, hz0, hz1, hz2⟩ := info_parts infoTr
              have APZ := Lib.hid (fun ty => run_append_rd (P := Try.prog) (wr.alloc (.cells #[.int .u64 x0, .int .u64 x1] 27)) w2.heap.size 54 ty 27 i0 _ 2 16 Try.underlying54 hi9 hz0 hz1 hz2 rfl (.slice oA p oc) p (((xl.map Le.ep).map tre).flatMap TrC) HOZ.out (wr.heap.size + 1) (some ⟨wr.heap.size, 0, none⟩) 1 1 [.int .u64 x0, .int .u64 x1] rfl HE9.out (by intro u hu; simp only [List.mem_cons, List.not_mem_nil, or_false] at hu; rcases hu with rfl | rfl <;> rfl) (by unfold maxLen; omega) (by omega) HBZ.out.size)
              clear hbz hi9 hz0 hz1 hz2
              go_wp2_with (first
                | (at_builtin; (refine wpList_app rfl (.tmp 99) (.tmp 105) _ _ rfl rfl rfl (APZ.out _) ?_); rintro v5 w5 ⟨ho5, hg5⟩; have HX5 : Hid (OwnEps w5 w2.heap.size (.slice A4 (p + 1) c4) l4) := Lib.hid (OwnEps.apartT HXZ.out HOZ.out hg5); have HB25 : Hid (Below w2.heap.size w2 w5) := Lib.hid (hg5.below HBZ.out HBZ.out.size (own_block_ge HOZ.out)); obtain ⟨A5, c5, rfl, _, _⟩ := own_rd ho5; have HO5 := Lib.hid ho5; clear ho5 hg5)
                | (go_at_call 24; (with_reducible refine (HCN.out _ HX5.out).mono ?_); rintro e w6 ⟨rfl, hb6⟩; have HB6 := Lib.hid hb6; clear hb6))
              go_roundw
              case rel => exact ⟨j + 1, (p + 1), (q + 1), c4, A4, l4, A5, c5, rfl, by go_num, rfl, by first | rfl | go_num, by omega, by omega, by omega, HP4, HCQ, Lib.hid (HX5.out.below HB6.out), HIN, Lib.hid (by have h := own_below HO5.out HB6.out; rw [HFL.out]; exact h), Lib.hid (HB25.out.trans (HB6.out.mono HB25.out.size))⟩
              case measure => simp [intOf]; omega
            · clear htk
              cases tb
              · have h2 := HI2.out
                rw [HK.out] at h2
                simp only [if_true, Bool.false_eq_true, if_false, List.append_nil] at h2
                have h3 := HI3.out
                rw [HT.out] at h3
                simp only [if_true, Bool.false_eq_true, if_false, Nat.add_zero] at h3
                have hl2 := congrArg List.length h2
                simp only [List.length_map, List.length_append, List.length_cons, List.length_nil] at hl2
                have hxp := HP.out
                obtain rfl : p = p4 := by omega
                have HCQ : Hid (q + 1 = cntE l4) := Lib.hid (by have h := hcN; rw [hcL, h3] at h; omega)
                obtain rfl : cN = (q : Int) + 1 := by have e := hcL; rw [h3] at e; omega
                have HFL : Hid (((l4.map Le.ep).map tre).flatMap TrC = ((xl.map Le.ep).map tre).flatMap TrC) := Lib.hid (by rw [HM4.out, h2])
                clear h2 h3 hl2 hcN hcL hp4 hxp
                clear HX0 HX1
                go_wp2_with (go_at_call 24; (with_reducible refine (HCN.out _ HXJ.out).mono ?_); rintro e w6 ⟨rfl, hb6⟩; have HB6 := Lib.hid hb6; clear hb6)
                go_roundw
                case rel => exact ⟨j + 1, p, (q + 1), c4, A4, l4, oA, oc, rfl, by go_num, rfl, by first | rfl | go_num, by omega, by omega, by omega, HP4, HCQ, Lib.hid (HXJ.out.below HB6.out), HIN, Lib.hid (by have h := own_below HOJ.out HB6.out; rw [HFL.out]; exact h), Lib.hid (HB2J.out.trans (HB6.out.mono HB2J.out.size))⟩
                case measure => simp [intOf]; omega
              · have h2 := HI2.out
                rw [HK.out] at h2
                simp only [if_true, Bool.false_eq_true, if_false, List.append_nil] at h2
                have h3 := HI3.out
                rw [HT.out] at h3
                simp only [if_true, Bool.false_eq_true, if_false, Nat.add_zero] at h3
                have hl2 := congrArg List.length h2
                simp only [List.length_map, List.length_append, List.length_cons, List.length_nil] at hl2
                have hxp := HP.out
                obtain rfl : p = p4 := by omega
                have HCQ : Hid (q = cntE l4) := Lib.hid (by have h := hcN; rw [hcL, h3] at h; omega)
                obtain rfl : cN = (q : Int) := by have e := hcL; rw [h3] at e; omega
                have HFL : Hid (((l4.map Le.ep).map tre).flatMap TrC = ((xl.map Le.ep).map tre).flatMap TrC) := Lib.hid (by rw [HM4.out, h2])
                clear h2 h3 hl2 hcN hcL hp4 hxp
                clear HX0 HX1
                go_wp2_with (go_at_call 24; (with_reducible refine (HCN.out _ HXJ.out).mono ?_); rintro e w6 ⟨rfl, hb6⟩; have HB6 := Lib.hid hb6; clear hb6)
                go_roundw
                case rel => exact ⟨j + 1, p, q, c4, A4, l4, oA, oc, rfl, by go_num, rfl, by first | rfl | go_num, by omega, by omega, by omega, HP4, HCQ, Lib.hid (HXJ.out.below HB6.out), HIN, Lib.hid (by have h := own_below HOJ.out HB6.out; rw [HFL.out]; exact h), Lib.hid (HB2J.out.trans (HB6.out.mono HB2J.out.size))⟩
                case measure => simp [intOf]; omega
    · obtain rfl : k = n := by omega
      generalize wr = w3 at *
      clear hk hq hlt
      go_wp2_with fail
      go_loopw [13] (fun ii wr => ∃ (i : Nat), ii = .int .i64 i ∧ i ≤ p ∧ Hid (Below w3.heap.size w3 wr)) (fun ii _ => p - (intOf ii).toNat)
      case atStart => exact ⟨0, rfl, Nat.zero_le _, Lib.hid (Below.refl _ _)⟩
      case round =>
        obtain ⟨i, rfl, hi, HBI⟩ := hrel
        have HBWI : Hid (Below w.heap.size w wr) := Lib.hid (HBW.out.trans (HBI.out.mono HBW.out.size))
        by_cases hip : i < p
        · obtain ⟨e, he⟩ : ∃ e, xl[i]? = some e := ⟨_, List.getElem?_eq_getElem (by rw [← HP.out]; exact hip)⟩
          obtain ⟨xg, xc', hv⟩ := own_form (n := 0) HX.out (by rw [← HP.out]; omega)
          rw [← HP.out] at hv
          simp only [Value.slice.injEq, true_and] at hv
          obtain ⟨rfl, rfl⟩ := hv
          obtain ⟨og, oc', hv, _⟩ := HO.out.form (by omega)
          simp only [Value.slice.injEq, true_and] at hv
          obtain ⟨rfl, rfl⟩ := hv
          have HXI : Hid (OwnEps wr w2.heap.size (.slice (some ⟨xg, 0, none⟩) p xcc) xl) := Lib.hid (HX.out.below HBI.out)
          have HOI : Hid (wr.ownsRow w2.heap.size 27 2 (.slice (some ⟨og, 0, none⟩) p oc) p (((xl.map Le.ep).map tre).flatMap TrC)) := Lib.hid (own_below HO.out HBI.out)
          have hah := HI.out.1.a e.ep (List.mem_of_getElem? (show (xl.map Le.ep)[i]? = some e.ep by rw [List.getElem?_map, he]; rfl))
          have HTS : Hid (((xl.map Le.ep).map tre)[i]? = some (tre e.ep)) := Lib.hid (by rw [List.getElem?_map, List.getElem?_map, he]; rfl)
          have HEI := Lib.hid he
          obtain ⟨th_, tl_, f, la, su, els, eA, ec⟩ := e
          have HAH : Hid (scan (l.map Ls.s) sure (th_, tl_) k = (f, la, su)) := Lib.hid hah.1
          have HTI : Hid (((xl.map Le.ep).map tre)[i]? = some (th_, tl_)) := Lib.hid HTS.out
          clear hah he HTS
          generalize wr = w4 at *
          go_wp2_with fail
          go_loopw [14, 15, 16, 17] (fun fi0 la0 an0 jj wr => ∃ (j : Nat) (fi lst : Int) (an : Bool), jj = .int .i64 j ∧ fi0 = .int .i64 fi ∧ la0 = .int .i64 lst ∧ an0 = .bool an ∧ j ≤ k ∧ -1 ≤ fi ∧ fi ≤ 60 ∧ Hid (scan (l.map Ls.s) sure (th_, tl_) j = (fi, lst, an)) ∧ Hid (Below w4.heap.size w4 wr)) (fun _ _ _ jj _ => k - (intOf jj).toNat)
          case atStart => exact ⟨0, -1, -1, false, rfl, rfl, rfl, rfl, Nat.zero_le _, by omega, by omega, Lib.hid rfl, Lib.hid (Below.refl _ _)⟩
          case round =>
            obtain ⟨j, fi, lst, an, rfl, rfl, rfl, rfl, hj, hf1, hf2, HSC, HBJ⟩ := hrel
            have HBWJ : Hid (Below w.heap.size w wr) := Lib.hid (HBWI.out.trans (HBJ.out.mono HBWI.out.size))
            have hoc := trow_cell (own_below HOI.out HBJ.out) HTI.out hip
            have ho0 : wr.cell? ⟨og, i * 2, none⟩ = some (.int .u64 th_) := hoc.1
            have ho1 : wr.cell? ⟨og, i * 2 + 1, none⟩ = some (.int .u64 tl_) := hoc.2
            clear hoc
            by_cases hjk : j < k
            · obtain ⟨z, hz⟩ : ∃ z, l[j]? = some z := ⟨_, List.getElem?_eq_getElem (by rw [← HN.out]; omega)⟩
              obtain ⟨b, hbk⟩ : ∃ b, sure[j]? = some b := ⟨_, List.getElem?_eq_getElem (by rw [← HS.out]; omega)⟩
              obtain ⟨ab, ao, hA, hab, hcA⟩ := rplain HY.out.rd (by rw [flatMap_len _ 10 cells_len, ← HN.out]; omega)
              subst hA
              obtain ⟨sb, so, hA, hsb, hcS⟩ := rplain HSR.out (by rw [List.length_map, ← HS.out]; omega)
              subst hA
              have HZL : Hid ((l.map Ls.s)[j]? = some z.s) := Lib.hid (by rw [List.getElem?_map, hz]; rfl)
              have hzc : ∀ q v, q < 10 → z.cells[q]? = some v → wr.cell? ⟨ab, ao + j * 10 + q, none⟩ = some v := fun q v hq hv => by
                rw [Nat.add_assoc, HBWJ.out.cell (p := ⟨ab, ao + (j * 10 + q), none⟩) hab]
                refine hcA _ _ ?_
                rw [flatMap_at _ 10 cells_len l j q hq, hz]
                exact hv
              have hz0 := hzc 0 _ (by omega) rfl
              have hz1 := hzc 1 _ (by omega) rfl
              have hsj : wr.cell? ⟨sb, so + j, none⟩ = some (.bool b) := by
                rw [HBWJ.out.cell (p := ⟨sb, so + j, none⟩) hsb]
                exact hcS j _ (by rw [List.getElem?_map, hbk]; rfl)
              obtain ⟨⟨z0, z1, z2, z3, z4, z5, z6, z7, z8, zats⟩, zA, zc⟩ := z
              simp only [Nat.add_zero] at hz0 hz1 HZL
              have ad2 := addr_plain ab ao (j * 10)
              have ad3 := addr_plain sb so j
              have STEP : Hid (scan (l.map Ls.s) sure (th_, tl_) (j + 1) = if trs ⟨z0, z1, z2, z3, z4, z5, z6, z7, z8, zats⟩ = (th_, tl_) then (if fi < 0 then (j : Int) else fi, (j : Int), an || b) else (fi, lst, an)) := Lib.hid (by rw [scan_step HZL.out hbk, HSC.out])
              have hjs : j < sn := by omega
              have hcc : (((z0 == th_) = false ∨ ((z0 == th_) = true ∧ (z1 == tl_) = false)) ∧ Hid (¬ trs ⟨z0, z1, z2, z3, z4, z5, z6, z7, z8, zats⟩ = (th_, tl_))) ∨ ((z0 == th_) = true ∧ (z1 == tl_) = true ∧ Hid (trs ⟨z0, z1, z2, z3, z4, z5, z6, z7, z8, zats⟩ = (th_, tl_))) := by
                by_cases h1 : z0 = th_
                · by_cases h2 : z1 = tl_
                  · right; subst h1 h2; exact ⟨by simp, by simp, Lib.hid rfl⟩
                  · left; exact ⟨.inr ⟨by simpa using h1, by simpa using h2⟩, Lib.hid (fun hh => h2 (congrArg Prod.snd hh))⟩
                · left; exact ⟨.inl (by simpa using h1), Lib.hid (fun hh => h1 (congrArg Prod.fst hh))⟩
              clear hz HZL hzc hab hcA hsb hcS hbk
              rcases hcc with ⟨g1 | ⟨g1, g2⟩, HD⟩ | ⟨g1, g2, HD⟩
              · go_wp2_with fail
                go_quiet (fail)
                go_wp2_with fail
                go_roundw
                case rel => exact ⟨j + 1, fi, lst, an, by go_num, rfl, rfl, rfl, by omega, by omega, by omega, Lib.hid (by rw [STEP.out, if_neg HD.out]), Lib.hid (drewND HBJ.out _)⟩
                case measure => simp [intOf]; omega
              · go_wp2_with fail
                go_quiet (fail)
                go_wp2_with fail
                go_roundw
                case rel => exact ⟨j + 1, fi, lst, an, by go_num, rfl, rfl, rfl, by omega, by omega, by omega, Lib.hid (by rw [STEP.out, if_neg HD.out]), Lib.hid (drewND HBJ.out _)⟩
                case measure => simp [intOf]; omega
              · by_cases hneg : fi < 0
                · have dn : decide (fi < 0) = true := decide_eq_true hneg
                  have HNG := Lib.hid hneg
                  clear hneg
                  cases an
                  · go_wp2_with fail
                    go_quiet (fail)
                    go_wp2_with fail
                    go_roundw
                    case rel => exact ⟨j + 1, (j : Int), (j : Int), b, by go_num, rfl, rfl, rfl, by omega, by omega, by omega, Lib.hid (by rw [STEP.out, if_pos HD.out, if_pos HNG.out]; rfl), Lib.hid (drewND HBJ.out _)⟩
                    case measure => simp [intOf]; omega
                  · go_wp2_with fail
                    go_quiet (fail)
                    go_wp2_with fail
                    go_roundw
                    case rel => exact ⟨j + 1, (j : Int), (j : Int), true, by go_num, rfl, rfl, rfl, by omega, by omega, by omega, Lib.hid (by rw [STEP.out, if_pos HD.out, if_pos HNG.out]; rfl), Lib.hid (drewND HBJ.out _)⟩
                    case measure => simp [intOf]; omega
                · have dn : decide (fi < 0) = false := decide_eq_false hneg
                  have HNG := Lib.hid hneg
                  clear hneg
                  cases an
                  · go_wp2_with fail
                    go_quiet (fail)
                    go_wp2_with fail
                    go_roundw
                    case rel => exact ⟨j + 1, fi, (j : Int), b, by go_num, rfl, rfl, rfl, by omega, by omega, by omega, Lib.hid (by rw [STEP.out, if_pos HD.out, if_neg (by have := HNG.out; omega)]; rfl), Lib.hid (drewND HBJ.out _)⟩
                    case measure => simp [intOf]; omega
                  · go_wp2_with fail
                    go_quiet (fail)
                    go_wp2_with fail
                    go_roundw
                    case rel => exact ⟨j + 1, fi, (j : Int), true, by go_num, rfl, rfl, rfl, by omega, by omega, by omega, Lib.hid (by rw [STEP.out, if_pos HD.out, if_neg (by have := HNG.out; omega)]; rfl), Lib.hid (drewND HBJ.out _)⟩
                    case measure => simp [intOf]; omega
            · obtain rfl : j = k := by omega
              obtain ⟨hfi, hfl, hfs⟩ : f = fi ∧ la = lst ∧ su = an := by
                have h := HAH.out.symm.trans HSC.out
                simp only [Prod.mk.injEq] at h
                exact h
              subst hfi hfl hfs
              have HXJ : Hid (OwnEps wr w2.heap.size (.slice (some ⟨xg, 0, none⟩) p xcc) xl) := Lib.hid (HXI.out.below HBJ.out)
              have c0 : wr.cell? ⟨xg, i * 6, none⟩ = some (.int .u64 th_) := by exact (own_ecell HXJ.out HP.out HEI.out 0 (by omega)).2
              have c1 : wr.cell? ⟨xg, i * 6 + 1, none⟩ = some (.int .u64 tl_) := by exact (own_ecell HXJ.out HP.out HEI.out 1 (by omega)).2
              have c2 : wr.cell? ⟨xg, i * 6 + 2, none⟩ = some (.int .i64 f) := by exact (own_ecell HXJ.out HP.out HEI.out 2 (by omega)).2
              have c3 : wr.cell? ⟨xg, i * 6 + 3, none⟩ = some (.int .i64 la) := by exact (own_ecell HXJ.out HP.out HEI.out 3 (by omega)).2
              have c4 : wr.cell? ⟨xg, i * 6 + 4, none⟩ = some (.bool su) := by exact (own_ecell HXJ.out HP.out HEI.out 4 (by omega)).2
              have HBIJ : Hid (Below w3.heap.size w3 wr) := Lib.hid (HBI.out.trans (HBJ.out.mono HBI.out.size))
              go_wp2_with fail
              go_quiet (fail)
              go_wp2_with fail
              go_roundw
              case rel => exact ⟨i + 1, by go_num, by omega, Lib.hid (drewND HBIJ.out _)⟩
              case measure => simp [intOf]; omega
        · obtain rfl : i = p := by omega
          go_wp2_with fail
          go_ret
          exact ⟨rfl, HBWI.out⟩
end Go.Proofs.Ytenioeppmgmdiaa
