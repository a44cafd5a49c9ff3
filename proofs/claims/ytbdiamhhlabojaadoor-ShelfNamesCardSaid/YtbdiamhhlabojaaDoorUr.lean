/- device.Crash. -/
import Derived.Test.YtbdiamhhlabojaaDoorUn
import Derived.Deep.RegionHeld3
import Derived.Deep.DeepCutAuto
namespace Go.Proofs.YtbdiamhhlabojaaDoor
open Go.RowKit
set_option linter.unusedVariables false
set_option linter.unusedSimpArgs false
set_option maxRecDepth 100000

/-- How long a file is behind a crash. -/
def cutE (p : Int) (x : Lg) : Int := x.2.2 + min (max p 0) ((x.2.1.length : Int) - x.2.2)
def crashX (p : Int) (x : Lg) : Lg := (x.1, x.2.1.take (cutE p x).toNat, cutE p x)
def crashN (ps : List Int) : Nat → List Lg → List Lg
  | _, [] => []
  | i, x :: r => crashX (ps.getD i 0) x :: crashN ps (i + 1) r
theorem crashN_len (ps : List Int) : ∀ (i : Nat) (l : List Lg), (crashN ps i l).length = l.length
  | _, [] => rfl
  | i, x :: r => by unfold crashN; rw [List.length_cons, crashN_len, List.length_cons]
theorem crashN_at (ps : List Int) : ∀ (l : List Lg) (i k : Nat) (x : Lg), l[k]? = some x → (crashN ps i l)[k]? = some (crashX (ps.getD (i + k) 0) x)
  | [], i, k, x, h => by simp at h
  | y :: r, i, 0, x, h => by simp at h; subst h; rfl
  | y :: r, i, k + 1, x, h => by
    unfold crashN
    rw [List.getElem?_cons_succ, crashN_at ps r (i + 1) k x (by simpa using h)]
    congr 3; omega
def sureOk (x : Lg) : Prop := 0 ≤ x.2.2 ∧ x.2.2 ≤ (x.2.1.length : Int)
theorem cutE_ok {p : Int} {x : Lg} (h : sureOk x) : 0 ≤ cutE p x ∧ cutE p x ≤ (x.2.1.length : Int) := by
  obtain ⟨h1, h2⟩ := h
  unfold cutE
  omega
def sumD (L : List Lg) : Int := (L.map fun x => (x.2.1.length : Int)).sum
/-- Those ahead of i are cut. -/
def crashAt (ps : List Int) (L : List Lg) (i : Nat) : List Lg := (crashN ps 0 L).take i ++ L.drop i
theorem crashAt_zero (ps : List Int) (L : List Lg) : crashAt ps L 0 = L := by simp [crashAt]
theorem crashAt_all (ps : List Int) (L : List Lg) (n : Nat) (hn : n = L.length) : crashAt ps L n = crashN ps 0 L := by
  subst hn
  unfold crashAt
  rw [List.drop_length, List.append_nil, List.take_of_length_le (by rw [crashN_len]; omega)]
theorem crashAt_at {ps : List Int} {L : List Lg} {i : Nat} {x : Lg} (h : L[i]? = some x) : (crashAt ps L i)[i]? = some x := by
  have hi := (List.getElem?_eq_some_iff.1 h).1
  unfold crashAt
  rw [List.getElem?_append_right (by rw [List.length_take]; omega), List.length_take, crashN_len, Nat.min_eq_left (by omega), Nat.sub_self, List.getElem?_drop]
  exact h
theorem crashAt_succ {ps : List Int} {L : List Lg} {i : Nat} {x : Lg} (h : L[i]? = some x) : crashAt ps L (i + 1) = (crashAt ps L i).set i (crashX (ps.getD i 0) x) := by
  have hi := (List.getElem?_eq_some_iff.1 h).1
  have hc := crashN_at ps L 0 i x h
  rw [Nat.zero_add] at hc
  have hl : ((crashN ps 0 L).take i).length = i := by rw [List.length_take, crashN_len]; omega
  have hd : L.drop i = x :: L.drop (i + 1) := by
    obtain ⟨h2, h3⟩ := List.getElem?_eq_some_iff.1 h
    rw [← h3]; exact List.drop_eq_getElem_cons h2
  unfold crashAt
  rw [List.set_append_right _ _ (by omega), hl, Nat.sub_self, hd, List.set_cons_zero, List.take_add_one, hc]
  simp
theorem sumD_set {L : List Lg} {i : Nat} {x y : Lg} (h : L[i]? = some x) : sumD (L.set i y) = sumD L + (y.2.1.length : Int) - (x.2.1.length : Int) := by
  induction L generalizing i with
  | nil => simp at h
  | cons a r ih =>
    cases i with
    | zero => simp at h; subst h; rw [List.set_cons_zero]; unfold sumD; simp; omega
    | succ i =>
      rw [List.set_cons_succ]
      have := ih (i := i) (by simpa using h)
      unfold sumD at this ⊢
      simp only [List.map_cons, List.sum_cons]
      omega
theorem sumD_mem {L : List Lg} {x : Lg} (h : x ∈ L) : (x.2.1.length : Int) ≤ sumD L := by
  induction L with
  | nil => cases h
  | cons a r ih =>
    have hn : ∀ l : List Lg, 0 ≤ sumD l := fun l => by
      induction l with
      | nil => simp [sumD]
      | cons y r ih => unfold sumD at ih ⊢; simp only [List.map_cons, List.sum_cons]; omega
    have h1 : sumD (a :: r) = (a.2.1.length : Int) + sumD r := by unfold sumD; simp
    rcases List.mem_cons.1 h with rfl | h
    · have := hn r; omega
    · have := ih h; omega
theorem own_cut {w : World} {base n : Nat} {f : Lf} (h : OwnD w base f) (hn : n ≤ f.da.length) : OwnD w base { f with da := f.da.take n } := by
  unfold OwnD Lf.val at h ⊢
  show World.ownsRow w base _ 1 (.slice f.A (f.da.take n).length f.c) (f.da.take n).length ((f.da.take n).map B8)
  have hl : (f.da.take n).length = n := by rw [List.length_take]; omega
  rw [hl]
  rcases h.2 with ⟨hv, h0⟩ | ⟨g, cap, cur, hv, _⟩
  · injection hv with h1 h2 h3
    have hn0 : n = 0 := by omega
    have hd0 : f.da = [] := List.length_eq_zero_iff.1 h2
    subst hn0
    rw [hd0] at h ⊢
    exact h
  · injection hv with h1 h2 h3
    rw [h1] at h ⊢
    have := own_less h hn
    rw [Nat.mul_one, ← List.map_take] at this
    exact this
def CrashOf (base : Nat) (d : Dv) (ps : List Int) (w : World) (e : Ending) (w' : World) : Prop :=
  ∃ d' : Dv, Went base d d' (.tuple #[]) w e w' ∧ d'.D = d.D ∧ d'.room = d.room ∧ d'.us = sumD (crashN ps 0 (d.fs.map Lf.lg)) ∧ d'.fu = false ∧ d'.lf = d.lf ∧ d'.fs.map Lf.lg = crashN ps 0 (d.fs.map Lf.lg)
structure CrI (base : Nat) (d : Dv) (ps : List Int) (w : World) (i : Nat) (di : Dv) (wr : World) : Prop where
  at_ : DvAt wr base di
  D : di.D = d.D
  room : di.room = d.room
  us : di.us = sumD (crashAt ps (d.fs.map Lf.lg) i)
  fu : di.fu = false
  lf : di.lf = d.lf
  L : di.fs.map Lf.lg = crashAt ps (d.fs.map Lf.lg) i
  k : Kept w wr d.has di.has
  ub : di.us ≤ 4611686018427387904
set_option maxHeartbeats 8000000 in
theorem crash_any (base : Nat) (d : Dv) (pA : Option Addr) (ps : List Int) (m pc B : Nat) (w : World) (h : DvAt w base d) (hsm : d.fs.length ≤ 100000) (hsu : ∀ f ∈ d.fs, sureOk f.lg) (hus : d.us = sumD (d.fs.map Lf.lg)) (hbig : d.us ≤ 4611686018427387904)
    (hm : m = ps.length) (hms : m ≤ 100000) (hp : Rd w B pA (ps.map (Value.int .i64))) (hB : B ≤ w.heap.size) (hpA : ∀ a, pA = some a → ¬ d.has a.block) (hpw : ∀ p ∈ ps, -9223372036854775808 ≤ p ∧ p ≤ 9223372036854775807) :
    Calls Tryd.prog 15 #[.pointer (some ⟨d.D, 0, none⟩), .slice pA m pc] w (CrashOf base d ps w) := by
  obtain ⟨n, hn⟩ : ∃ n, n = d.fs.length := ⟨_, rfl⟩
  obtain ⟨dA, hdA⟩ : ∃ dA, dA = d.A := ⟨_, rfl⟩
  have c2 := h.c2
  rw [← hn, ← hdA] at c2
  have c3 := h.c3
  have f3 := h.fz 3
  obtain ⟨s1, s2⟩ := h.setFu false
  have HI0 : Hid (CrI base d ps w 0 { d with fu := false } (w.setCell ⟨d.D, 3, none⟩ (.bool false))) := Lib.hid ⟨s1, rfl, rfl, by rw [crashAt_zero]; exact hus, rfl, rfl, by rw [crashAt_zero], s2, hbig⟩
  have HSU := Lib.hid hsu
  have HP := Lib.hid hp
  have HPA := Lib.hid hpA
  have HPW := Lib.hid hpw
  have HM := Lib.hid hm
  have HN := Lib.hid hn
  have HUS : Hid (sumD (d.fs.map Lf.lg) ≤ 4611686018427387904) := Lib.hid (by rw [← hus]; exact hbig)
  have hn5 : n ≤ 100000 := by omega
  clear h s1 s2 hsu hp hpA hpw hm hn hdA hus hsm
  go_enter Tryd.func15, Tryd.ntmps15
  go_wp2_with fail
  go_loopw [18] (fun iv wr => ∃ (i : Nat) (di : Dv), iv = .int .i64 i ∧ i ≤ n ∧ Hid (CrI base d ps w i di wr)) (fun iv _ => n - (intOf iv).toNat)
  case atStart => exact ⟨0, _, rfl, Nat.zero_le _, HI0⟩
  case round =>
    obtain ⟨i, di, rfl, hi, HC⟩ := hrel
    clear HI0
    by_cases hlt : i < n
    · obtain ⟨f0, hf0⟩ : ∃ f0, d.fs[i]? = some f0 := ⟨_, List.getElem?_eq_getElem (by rw [← HN.out]; exact hlt)⟩
      have hL : (d.fs.map Lf.lg)[i]? = some f0.lg := by rw [List.getElem?_map, hf0]; rfl
      obtain ⟨f, hfi, g1, g2, g3⟩ := at_of (l := di.fs) (by rw [HC.out.L]; exact crashAt_at hL)
      have hfl : f.lg = f0.lg := by unfold Lf.lg; rw [g1, g2, g3]; rfl
      rw [← hfl] at hL
      have hso : sureOk f.lg := by rw [hfl]; exact HSU.out f0 (List.mem_of_getElem? hf0)
      have hq9 : (f.da.length : Int) ≤ 4611686018427387904 := by
        have h1 := sumD_mem (List.mem_of_getElem? hL)
        have h2 : (f.lg.2.1.length : Int) = (f.da.length : Int) := rfl
        have := HUS.out
        omega
      obtain ⟨sn, hsn⟩ : ∃ sn : Nat, f.su = (sn : Int) := ⟨f.su.toNat, by have := hso.1; show f.su = _; have h2 : f.lg.2.2 = f.su := rfl; omega⟩
      obtain ⟨q, hq⟩ : ∃ q, q = f.da.length := ⟨_, rfl⟩
      have hsq : sn ≤ q := by have h1 := hso.2; have h2 : f.lg.2.2 = f.su := rfl; have h3 : f.lg.2.1.length = q := hq.symm; omega
      have hce := cutE_ok (p := ps.getD i 0) hso
      obtain ⟨eN, heN⟩ : ∃ eN : Nat, (eN : Int) = cutE (ps.getD i 0) f.lg := ⟨(cutE (ps.getD i 0) f.lg).toNat, by omega⟩
      have hcut : cutE (ps.getD i 0) f.lg = (sn : Int) + min (max (ps.getD i 0) 0) ((q : Int) - (sn : Int)) := by
        unfold cutE
        have h2 : f.lg.2.2 = (sn : Int) := hsn
        have h3 : f.lg.2.1.length = q := hq.symm
        rw [h2, h3]
      obtain ⟨pn, hpn⟩ : ∃ pn : Nat, pn = eN - sn := ⟨_, rfl⟩
      have hpe : sn + pn = eN ∧ eN ≤ q := by have h3 : f.lg.2.1.length = q := hq.symm; omega
      have HPN : Hid ((pn : Int) = min (max (ps.getD i 0) 0) ((q : Int) - (sn : Int))) := Lib.hid (by omega)
      have hin : i < di.fs.length := (List.getElem?_eq_some_iff.1 hfi).1
      have hdl : n = di.fs.length := by
        have h1 := congrArg List.length HC.out.L
        rw [List.length_map] at h1
        unfold crashAt at h1
        rw [List.length_append, List.length_take, crashN_len, List.length_drop, List.length_map, ← HN.out] at h1
        omega
      obtain ⟨g, hA⟩ : ∃ g, di.A = some ⟨g, 0, none⟩ := by
        obtain ⟨g, hA, _⟩ := own_parts HC.out.at_.own (by omega)
        exact ⟨g, hA⟩
      have c2 := HC.out.at_.c2
      rw [hA, ← hdl, HC.out.D] at c2
      have c1 := HC.out.at_.c1
      have f1 := HC.out.at_.fz 1
      rw [HC.out.D] at c1 f1
      have hr := Rd.of_own HC.out.at_.own
      rw [hA] at hr
      obtain ⟨a, ha, hab, x0, x1, x2⟩ := file_cells hr hfi q hq
      injection ha with ha
      subst ha
      rw [Addr.add_lit, Nat.zero_add] at x0 x1 x2
      rw [hsn] at x2
      have HFI := Lib.hid hfi
      have HL := Lib.hid hL
      have HA := Lib.hid hA
      have HQ := Lib.hid hq
      have HSN := Lib.hid hsn
      have HEN := Lib.hid heN
      have i0 : (0 : Int) ≤ (i : Int) := by omega
      have i1 : (i : Int) < (n : Int) := by omega
      have hq8 : (q : Int) ≤ 4611686018427387904 := by omega
      have iqs : (q : Int) - (sn : Int) = ((q - sn : Nat) : Int) := by omega
      clear hfi hL hA hq hsn heN hf0 hso hce hcut hfl hr g1 g2 g3 hpn hq9 hdl hin
      go_upto_if 30 with fail
      go_cut [6] (fun v6 wx => v6 = .int .i64 (pn : Int) ∧ Hid (∃ k, wx = wr.drewN k))
      case first =>
        by_cases him : i < m
        · obtain ⟨p, hp⟩ : ∃ p, ps[i]? = some p := ⟨_, List.getElem?_eq_getElem (by rw [← HM.out]; exact him)⟩
          have hpr := HPW.out p (List.mem_of_getElem? hp)
          have hpd : ps.getD i 0 = p := by rw [List.getD_eq_getElem?_getD, hp]; rfl
          rw [hpd] at HPN
          obtain ⟨pa, hpa, hpb, hpc⟩ := (HC.out.k.rd HP.out hB (fun _ => HPA.out)) (by rw [List.length_map, ← HM.out]; omega)
          subst hpa
          have y0 : wr.cell? (pa.add i) = some (.int .i64 p) := hpc i _ (by rw [List.getElem?_map, hp]; rfl)
          have d1 : ((i : Int) < (m : Int)) := by omega
          have d2 : decide ((i : Int) < (m : Int)) = true := decide_eq_true (by omega)
          clear hp hpd hpc
          have iw1 : IntKind.i64.wrap ((q : Int) - (sn : Int)) = (q : Int) - (sn : Int) := by rw [IntKind.wrap_i64]; omega
          have hcase : (p < 0 ∧ pn = 0) ∨ (p = 0 ∧ pn = 0) ∨ (0 < p ∧ p ≤ (q : Int) - (sn : Int) ∧ (pn : Int) = p) ∨ (0 < p ∧ (q : Int) - (sn : Int) < p ∧ (pn : Int) = (q : Int) - (sn : Int)) := by have := HPN.out; omega
          clear iqs
          obtain ⟨z, hz⟩ : ∃ z, z = (q : Int) - (sn : Int) := ⟨_, rfl⟩
          have iz : (q : Int) - (sn : Int) = z := hz.symm
          have iz2 : IntKind.i64.wrap z = z := by rw [IntKind.wrap_i64]; omega
          have z0 : 0 ≤ z := by omega
          rw [← hz] at hcase
          clear hz iw1 HPN
          rcases hcase with ⟨b1, b2⟩ | ⟨b1, b2⟩ | ⟨b1, b2, b3⟩ | ⟨b1, b2, b3⟩
          · subst b2
            have b4 : max p 0 = 0 := by omega
            have b5 : min (0 : Int) z = 0 := by omega
            go_upto_region 8 with fail
            go_region_held3 (fun w' => w'.cell? (pa.add i) = some (.int .i64 p) ∧ w'.cell? ⟨g, i * 3 + 1, none⟩ = some (.slice f.A q f.c) ∧ w'.cell? ⟨g, i * 3 + 2, none⟩ = some (.int .i64 (sn : Int)))
              (go_keep)
              (fail)
            go_wp2_with fail
            go_meet
            exact ⟨rfl, Lib.hid ⟨1, rfl⟩⟩
          · subst b2
            subst b1
            have b4 : max (0 : Int) 0 = 0 := by omega
            have b5 : min (0 : Int) z = 0 := by omega
            go_upto_region 8 with fail
            go_region_held3 (fun w' => w'.cell? (pa.add i) = some (.int .i64 0) ∧ w'.cell? ⟨g, i * 3 + 1, none⟩ = some (.slice f.A q f.c) ∧ w'.cell? ⟨g, i * 3 + 2, none⟩ = some (.int .i64 (sn : Int)))
              (go_keep)
              (fail)
            go_wp2_with fail
            go_meet
            exact ⟨rfl, Lib.hid ⟨1, rfl⟩⟩
          · have b4 : max p 0 = p := by omega
            have b5 : min p z = p := by omega
            go_upto_region 8 with fail
            go_region_held3 (fun w' => w'.cell? (pa.add i) = some (.int .i64 p) ∧ w'.cell? ⟨g, i * 3 + 1, none⟩ = some (.slice f.A q f.c) ∧ w'.cell? ⟨g, i * 3 + 2, none⟩ = some (.int .i64 (sn : Int)))
              (go_keep)
              (fail)
            go_wp2_with fail
            go_meet
            exact ⟨by rw [b3], Lib.hid ⟨1, rfl⟩⟩
          · have b4 : max p 0 = p := by omega
            have b5 : min p z = z := by omega
            go_upto_region 8 with fail
            go_region_held3 (fun w' => w'.cell? (pa.add i) = some (.int .i64 p) ∧ w'.cell? ⟨g, i * 3 + 1, none⟩ = some (.slice f.A q f.c) ∧ w'.cell? ⟨g, i * 3 + 2, none⟩ = some (.int .i64 (sn : Int)))
              (go_keep)
              (fail)
            go_wp2_with fail
            go_meet
            exact ⟨by rw [b3], Lib.hid ⟨1, rfl⟩⟩
        · have hpd : ps.getD i 0 = 0 := by rw [List.getD_eq_getElem?_getD, List.getElem?_eq_none (by rw [← HM.out]; omega)]; rfl
          have hp0 : pn = 0 := by have := HPN.out; rw [hpd] at this; omega
          subst hp0
          have d2 : decide ((i : Int) < (m : Int)) = false := decide_eq_false (by omega)
          go_wp2_with fail
          go_meet
          exact ⟨rfl, Lib.hid ⟨0, rfl⟩⟩
      case rest =>
        obtain ⟨rfl, HKQ⟩ := hcut
        obtain ⟨kq, rfl⟩ := HKQ.out
        have HZ : Hid (DvAt (wr.drewN kq) base di) := Lib.hid (HC.out.at_.below ⟨rfl, rfl, rfl, Nat.le_refl _, fun _ _ => rfl⟩)
        have HKZ : Hid (Kept w (wr.drewN kq) d.has di.has) := Lib.hid (HC.out.k.trans (Kept.drewN _ _ _))
        have HCD : Hid (di.D = d.D ∧ di.room = d.room ∧ di.us = sumD (crashAt ps (d.fs.map Lf.lg) i) ∧ di.fu = false ∧ di.lf = d.lf ∧ di.fs.map Lf.lg = crashAt ps (d.fs.map Lf.lg) i ∧ di.us ≤ 4611686018427387904) := Lib.hid ⟨HC.out.D, HC.out.room, HC.out.us, HC.out.fu, HC.out.lf, HC.out.L, HC.out.ub⟩
        have c2z : (wr.drewN kq).cell? ⟨d.D, 2, none⟩ = _ := c2
        have c1z : (wr.drewN kq).cell? ⟨d.D, 1, none⟩ = _ := c1
        have f1z : (wr.drewN kq).frozen? ⟨d.D, 1, none⟩ = false := f1
        have x1z : (wr.drewN kq).cell? ⟨g, i * 3 + 1, none⟩ = _ := x1
        have x2z : (wr.drewN kq).cell? ⟨g, i * 3 + 2, none⟩ = _ := x2
        clear HC HKQ c2 c1 f1 x0 x1 x2 iqs hab
        generalize wr.drewN kq = wz at *
        have ie : (sn : Int) + (pn : Int) = (eN : Int) := by omega
        have eb : eN ≤ q := hpe.2
        obtain ⟨dl, hdl⟩ : ∃ dl, dl = (eN : Int) - (q : Int) := ⟨_, rfl⟩
        have idl : (eN : Int) - (q : Int) = dl := hdl.symm
        have hdb : -4611686018427387904 ≤ dl ∧ dl ≤ 0 := by omega
        have HUB : Hid (0 ≤ di.us + dl ∧ di.us + dl ≤ 4611686018427387904) := Lib.hid (by
          have h1 := sumD_mem (List.mem_of_getElem? (crashAt_at (ps := ps) HL.out))
          have h2 : (f.lg.2.1.length : Int) = (q : Int) := by rw [HQ.out]; rfl
          have h3 := HCD.out.2.2.1
          have h4 := HCD.out.2.2.2.2.2.2
          omega)
        have AD := Lib.hid (addI_any d.D di.us dl (di.us + dl) wz.drew c1z f1z rfl (by have := HUB.out; omega))
        obtain ⟨s1, s2⟩ := HZ.out.setUs (di.us + dl)
        have HS1 : Hid (DvAt (wz.setCell ⟨d.D, 1, none⟩ (.int .i64 (di.us + dl))).drew base { di with us := di.us + dl }) := Lib.hid (by
          rw [← HCD.out.1]
          exact s1.below ⟨rfl, rfl, rfl, Nat.le_refl _, fun _ _ => rfl⟩)
        have HS2 : Hid (Kept wz (wz.setCell ⟨d.D, 1, none⟩ (.int .i64 (di.us + dl))).drew di.has ({ di with us := di.us + dl } : Dv).has) := Lib.hid (by
          rw [← HCD.out.1]
          exact s2.drew)
        have HDL := Lib.hid hdl
        clear s1 s2 hdl
        go_upto_region 10 with fail
        go_still_tail 10, (by kernel_rfl)
        change wpList _ _ _ _ _ wz.drew
        go_upto_region 11 with (go_at_call 41; (with_reducible refine AD.out.mono ?_); rintro e w2 ⟨rfl, hw2⟩)
        subst hw2
        have hDg : d.D ≠ g := fun e => HZ.out.neA _ HA.out (by rw [HCD.out.1]; exact e.symm)
        have y1 : (wz.setCell ⟨d.D, 1, none⟩ (.int .i64 (di.us + dl))).drew.cell? ⟨g, i * 3 + 1, none⟩ = some (.slice f.A q f.c) := Eq.trans (World.cell?_of_block (w := wz) (heap_setCell_other wz ⟨d.D, 1, none⟩ g _ (fun e => hDg e.symm))) x1z
        have y2 : (wz.setCell ⟨d.D, 1, none⟩ (.int .i64 (di.us + dl))).drew.cell? ⟨g, i * 3 + 2, none⟩ = some (.int .i64 (sn : Int)) := Eq.trans (World.cell?_of_block (w := wz) (heap_setCell_other wz ⟨d.D, 1, none⟩ g _ (fun e => hDg e.symm))) x2z
        generalize (wz.setCell ⟨d.D, 1, none⟩ (.int .i64 (di.us + dl))).drew = W2 at *
        have hfm : f ∈ di.fs := List.mem_of_getElem? HFI.out
        have HOW := Lib.hid (HS1.out.each f hfm)
        have HQL : Hid (q ≤ f.c) := Lib.hid (by have := own_capq HOW.out; rw [HQ.out]; exact this.1)
        have hqc := HQL.out
        have hqs : f.A = none → q = 0 ∧ f.c = 0 := fun e => by
          rcases HOW.out.2 with ⟨hv, h0⟩ | ⟨g2, cap, cur, hv, _⟩
          · unfold Lf.val at hv; injection hv with _ h1 h2; rw [HQ.out]; exact ⟨h1, h2⟩
          · unfold Lf.val at hv; injection hv with h1 _ _; rw [e] at h1; cases h1
        clear x1z x2z c1z f1z hfm
        have HRD := Lib.hid (HS1.out.redata (i := i) (f := f) (y := { f with da := f.da.take eN }) (w2 := W2) HA.out HFI.out rfl ⟨(Grew.refl _ _).grown, .inl (by unfold Lf.val; show (Value.slice f.A _ _).ownBlock = (Value.slice f.A _ _).ownBlock; cases f.A <;> rfl)⟩ (own_cut HOW.out (by rw [← HQ.out]; exact eb)))
        have f1g : W2.frozen? ⟨g, i * 3 + 1, none⟩ = false := HRD.out.2.2
        have hlen : (f.da.take eN).length = eN := by rw [List.length_take, ← HQ.out]; omega
        have HLN := Lib.hid hlen
        clear hlen
        have HFIN : Hid (∀ v, v = (.slice f.A eN f.c : Value) → CrI base d ps w (i + 1) { di with us := di.us + dl, fs := di.fs.set i ⟨f.nm, f.da.take eN, (eN : Int), f.A, f.c⟩ } ((W2.setCell ⟨g, i * 3 + 1, none⟩ v).setCell ⟨g, i * 3 + 2, none⟩ (.int .i64 (eN : Int))) ∧ (W2.setCell ⟨g, i * 3 + 1, none⟩ v).frozen? ⟨g, i * 3 + 2, none⟩ = false ∧ (W2.setCell ⟨g, i * 3 + 1, none⟩ v).cell? ⟨g, i * 3 + 2, none⟩ = some (.int .i64 (sn : Int))) := Lib.hid (by
          intro v hv
          have hyv : v = (⟨f.nm, f.da.take eN, f.su, f.A, f.c⟩ : Lf).val := by rw [hv]; unfold Lf.val; rw [HLN.out]
          rw [← hyv] at HRD
          obtain ⟨r1, r2, _⟩ := HRD.out
          have hil : i < di.fs.length := (List.getElem?_eq_some_iff.1 HFI.out).1
          have hi2 : (di.fs.set i ⟨f.nm, f.da.take eN, f.su, f.A, f.c⟩)[i]? = some ⟨f.nm, f.da.take eN, f.su, f.A, f.c⟩ := by rw [List.getElem?_set_self hil]
          obtain ⟨t1, t2, t3⟩ := r1.resure HA.out hi2 (eN : Int)
          rw [List.set_set] at t1 t2
          obtain ⟨k1, k2, k3, k4, k5, k6, k7⟩ := HCD.out
          have hcr := crashAt_succ HL.out (ps := ps)
          have hcx : crashX (ps.getD i 0) f.lg = (f.nm, f.da.take eN, (eN : Int)) := by
            unfold crashX
            rw [← HEN.out, Int.toNat_natCast]
            rfl
          have hus : di.us + dl = sumD (crashAt ps (d.fs.map Lf.lg) (i + 1)) := by
            rw [hcr, sumD_set (crashAt_at HL.out), hcx, k3, HDL.out]
            have h2 : (f.lg.2.1.length : Int) = (q : Int) := by rw [HQ.out]; rfl
            have h3 : ((f.da.take eN).length : Int) = (eN : Int) := by rw [HLN.out]
            show _ = _ + ((f.da.take eN).length : Int) - _
            omega
          refine ⟨⟨t1, k1, k2, hus, k4, k5, ?_, ((HKZ.out.trans HS2.out).trans r2).trans t2, HUB.out.2⟩, t3, ?_⟩
          · show (di.fs.set i _).map Lf.lg = _
            rw [List.map_set, k6, hcr, hcx]
            rfl
          · have ho := Rd.of_own r1.own
            have hA9 := HA.out
            obtain ⟨a, ha, _, _, _, x2⟩ := file_cells ho hi2 _ rfl
            have ha2 : di.A = some a := ha
            rw [hA9] at ha2
            injection ha2 with ha2
            subst ha2
            rw [Addr.add_lit, Nat.zero_add] at x2
            rw [x2]
            show some (Value.int .i64 f.su) = _
            rw [HSN.out])
        have hin1 : i + 1 ≤ n := by omega
        cases hfA : f.A with
        | none =>
          obtain ⟨rfl, hc0⟩ := hqs hfA
          have he0 : eN = 0 := by omega
          subst he0
          rw [hfA, hc0] at y1 HFIN
          obtain ⟨z1, z2, z3⟩ := HFIN.out _ rfl
          have HZ1 := Lib.hid z1
          clear z1 HRD HFIN
          go_upto_region 12 with fail
          go_wp2_with fail
          go_roundw
          case rel => exact ⟨i + 1, _, by go_num, hin1, HZ1⟩
          case measure => simp [intOf]; omega
        | some fa =>
          rw [hfA] at y1 HFIN
          obtain ⟨z1, z2, z3⟩ := HFIN.out _ rfl
          have HZ1 := Lib.hid z1
          clear z1 hqs HRD HFIN
          go_upto_region 12 with fail
          go_wp2_with fail
          go_roundw
          case rel => exact ⟨i + 1, _, by go_num, hin1, HZ1⟩
          case measure => simp [intOf]; omega
    · obtain rfl : i = n := Nat.le_antisymm hi (Nat.le_of_not_lt hlt)
      have dlt : decide ((i : Int) < (i : Int)) = false := decide_eq_false (by omega)
      go_wp2_with fail
      go_end0
      have h := HC.out
      have hca := crashAt_all ps (d.fs.map Lf.lg) i (by rw [List.length_map]; exact HN.out)
      exact ⟨di, ⟨rfl, h.at_, h.k⟩, h.D, h.room, by rw [h.us, hca], h.fu, h.lf, by rw [h.L, hca]⟩
end Go.Proofs.YtbdiamhhlabojaaDoor
