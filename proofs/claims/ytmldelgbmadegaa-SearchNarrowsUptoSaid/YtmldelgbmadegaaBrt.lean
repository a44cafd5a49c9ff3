/- Are all of one list in another one? How many traces have spans? -/
import Derived.Test.YtmldelgbmadegaaBrm
namespace Go.Proofs.Ytmldelgbmadegaa
open Go.RowKit
set_option linter.unusedVariables false
set_option linter.unusedSimpArgs false
set_option maxRecDepth 100000

theorem incC_idx {l : List Tc} (h : IncC l) : ∀ {i j : Nat} {x y : Tc}, i < j → l[i]? = some x → l[j]? = some y → ltC x y := by
  induction l with
  | nil => intro i j x y _ hx; simp at hx
  | cons a l ih =>
    intro i j x y hij hx hy
    cases j with
    | zero => omega
    | succ j =>
      cases i with
      | zero =>
        simp at hx hy
        subst hx
        exact h.above y (List.mem_of_getElem? hy)
      | succ i => exact ih h.tail (i := i) (j := j) (by omega) (by simpa using hx) (by simpa using hy)
/-- What within holds: those that came were found. -/
def WInv (a b : List Tc) (i k : Nat) : Prop := ∀ p x, a[p]? = some x → x ∈ b.take i → p < k
theorem WInv.zero (a b : List Tc) : WInv a b 0 0 := fun p x _ h => by simp at h
theorem WInv.hit {a b : List Tc} {i k : Nat} {y : Tc} (h : WInv a b i k) (ha : IncC a) (hb : b[i]? = some y) (hk : a[k]? = some y) : WInv a b (i + 1) (k + 1) := fun p x hx hm => by
  rcases (mem_take_succ hb x).1 hm with e | e
  · have := h p x hx e; omega
  · subst e
    rcases Nat.lt_or_ge k p with g | g
    · exact absurd (incC_idx ha g hk hx) (ltC_irr _)
    · omega
theorem WInv.miss {a b : List Tc} {i k : Nat} {y z : Tc} (h : WInv a b i k) (ha : IncC a) (hbi : IncC b) (hsub : ∀ x ∈ a, x ∈ b) (hb : b[i]? = some y) (hk : a[k]? = some z) (hne : z ≠ y) : WInv a b (i + 1) k := fun p x hx hm => by
  rcases (mem_take_succ hb x).1 hm with e | e
  · exact h p x hx e
  · subst e
    rcases Nat.lt_trichotomy p k with g | g | g
    · exact g
    · subst g
      rw [hk] at hx
      exact absurd (Option.some.inj hx) hne
    · exfalso
      have hlt := incC_idx ha g hk hx
      obtain ⟨r, hr⟩ := List.getElem?_of_mem (hsub z (List.mem_of_getElem? hk))
      have hri : r < i := by
        rcases Nat.lt_trichotomy r i with c | c | c
        · exact c
        · subst c
          rw [hr] at hb
          exact absurd (Option.some.inj hb) hne
        · exact absurd (incC_idx hbi c hb hr) (ltC_asym hlt)
      have := h k z hk (by
        rw [List.mem_iff_getElem?]
        exact ⟨r, by rw [List.getElem?_take_of_lt hri]; exact hr⟩)
      omega
theorem WInv.fin {a b : List Tc} {k : Nat} (h : WInv a b b.length k) (hsub : ∀ x ∈ a, x ∈ b) (hk : k ≤ a.length) : k = a.length := by
  rcases Nat.lt_or_ge k a.length with g | g
  · have hx : a[k]? = some a[k] := List.getElem?_eq_getElem g
    have := h k _ hx (by rw [List.take_length]; exact hsub _ (List.mem_of_getElem? hx))
    omega
  · omega
set_option maxHeartbeats 8000000 in
theorem within_any (A1 A2 : Option Addr) (a b : List Tc) (n1 n2 c1 c2 B : Nat) (w : World) (hn1 : n1 = a.length) (hn2 : n2 = b.length) (h1 : Rd w B A1 (a.flatMap trC)) (h2 : Rd w B A2 (b.flatMap trC)) (hB : B ≤ w.heap.size) (hl1 : n1 ≤ 1000000) (hl2 : n2 ≤ 1000000) (ha : IncC a) (hb : IncC b) (hsub : ∀ x ∈ a, x ∈ b) :
    Calls Try.prog 51 #[.slice A1 n1 c1, .slice A2 n2 c2] w fun e w' => e = .returned (.bool true) ∧ Below w.heap.size w w' := by
  have HN1 := Lib.hid hn1
  have HN2 := Lib.hid hn2
  have H1 := Lib.hid h1
  have H2 := Lib.hid h2
  have HA := Lib.hid ha
  have HBI := Lib.hid hb
  have HSUB := Lib.hid hsub
  clear hn1 hn2 h1 h2 ha hb hsub
  go_enter Try.func51, Try.ntmps51
  go_wp2_with fail
  go_loopw [5, 6] (fun kv i wr => ∃ k j : Nat, kv = .int .i64 k ∧ i = .int .i64 j ∧ k ≤ n1 ∧ j ≤ n2 ∧ Hid (WInv a b j k) ∧ Hid (Below w.heap.size w wr)) (fun _ i _ => n2 - (intOf i).toNat)
  case atStart => exact ⟨0, 0, rfl, rfl, Nat.zero_le _, Nat.zero_le _, Lib.hid (WInv.zero a b), Lib.hid (Below.refl _ _)⟩
  case round =>
    obtain ⟨k, j, rfl, rfl, hk, hj, HW, HB⟩ := hrel
    by_cases hlt : j < n2
    · have d1 : decide ((j : Int) < (n2 : Int)) = true := decide_eq_true (by omega)
      by_cases hkt : k < n1
      · have d2 : decide ((k : Int) < (n1 : Int)) = true := decide_eq_true (by omega)
        obtain ⟨x, hx⟩ : ∃ x, a[k]? = some x := ⟨_, List.getElem?_eq_getElem (by rw [← HN1.out]; exact hkt)⟩
        obtain ⟨y, hy⟩ : ∃ x, b[j]? = some x := ⟨_, List.getElem?_eq_getElem (by rw [← HN2.out]; exact hlt)⟩
        obtain ⟨a1, ha1, hab1, c0, c1⟩ := tr_at (H1.out.below (HB.out.mono hB)) hx
        obtain ⟨a2, ha2, hab2, d0, d1'⟩ := tr_at (H2.out.below (HB.out.mono hB)) hy
        subst ha1 ha2
        have HX := Lib.hid hx
        have HY := Lib.hid hy
        clear hx hy
        rcases (show ((x.1 == y.1) = false) ∨ ((x.1 == y.1) = true ∧ (x.2 == y.2) = false) ∨ ((x.1 == y.1) = true ∧ (x.2 == y.2) = true) from by cases (x.1 == y.1) <;> cases (x.2 == y.2) <;> simp) with g1 | ⟨g1, g2⟩ | ⟨g1, g2⟩
        · have HW2 := Lib.hid (HW.out.miss HA.out HBI.out HSUB.out HY.out HX.out (fun e => by rw [e] at g1; simp at g1))
          go_wp2_with fail
          go_region
          go_wp2_with fail
          go_roundw
          case rel => exact ⟨k, j + 1, rfl, by go_num, hk, by omega, HW2, Lib.hid HB.out.drew⟩
          case measure => simp [intOf]; omega
        · have HW2 := Lib.hid (HW.out.miss HA.out HBI.out HSUB.out HY.out HX.out (fun e => by rw [e] at g2; simp at g2))
          go_wp2_with fail
          go_region
          go_wp2_with fail
          go_roundw
          case rel => exact ⟨k, j + 1, rfl, by go_num, hk, by omega, HW2, Lib.hid HB.out.drew⟩
          case measure => simp [intOf]; omega
        · have hxy : x = y := Prod.ext (beq_iff_eq.1 g1) (beq_iff_eq.1 g2)
          have HW2 := Lib.hid (HW.out.hit HA.out HY.out (hxy ▸ HX.out))
          clear hxy
          go_wp2_with fail
          go_region
          go_wp2_with fail
          go_roundw
          case rel => exact ⟨k + 1, j + 1, by go_num, by go_num, by omega, by omega, HW2, Lib.hid HB.out.drew⟩
          case measure => simp [intOf]; omega
      · obtain rfl : k = n1 := by omega
        have d2 : decide ((k : Int) < (k : Int)) = false := decide_eq_false (by omega)
        go_wp2_with fail
        go_ret
        exact ⟨rfl, HB.out⟩
    · obtain rfl : j = n2 := by omega
      have d1 : decide ((j : Int) < (j : Int)) = false := decide_eq_false (by omega)
      obtain rfl : k = n1 := by
        have h := HW.out
        rw [HN2.out] at h
        rw [HN1.out]
        exact h.fin HSUB.out (by rw [← HN1.out]; exact hk)
      go_wp2_with fail
      go_ret
      exact ⟨rfl, HB.out⟩
/-- A list in which each stands once is as long as all that are in it. -/
theorem insC_new {t : Tc} {l : List Tc} (h : t ∉ l) : (insC t l).length = l.length + 1 := by
  induction l with
  | nil => rfl
  | cons y r ih =>
    unfold insC
    have h1 : t ≠ y := fun e => h (by rw [e]; exact List.mem_cons_self ..)
    have h2 : t ∉ r := fun e => h (List.mem_cons_of_mem _ e)
    split
    · rw [List.length_cons, ih h2, List.length_cons]
    · rw [if_neg (fun e => h1 e.symm)]; rfl
/-- The traces with spans that came, each once, in the order in which they came. -/
def addD (D : List Tc) (e : Le) : List Tc := if e.l = [] ∨ trE e ∈ D then D else D ++ [trE e]
structure DInv (es : List Le) (D : List Tc) : Prop where
  len : (setC D).length = D.length
  mem : ∀ x, x ∈ D ↔ ∃ e ∈ es, e.l ≠ [] ∧ trE e = x
theorem DInv.nil : DInv [] [] := ⟨rfl, fun x => by simp⟩
theorem DInv.step {es : List Le} {D : List Tc} {e : Le} (h : DInv es D) : DInv (es ++ [e]) (addD D e) := by
  unfold addD
  by_cases hc : e.l = [] ∨ trE e ∈ D
  · rw [if_pos hc]
    refine ⟨h.len, fun x => ?_⟩
    rw [h.mem]
    constructor
    · rintro ⟨e', h1, h2, h3⟩
      exact ⟨e', List.mem_append_left _ h1, h2, h3⟩
    · rintro ⟨e', h1, h2, h3⟩
      rcases List.mem_append.1 h1 with g | g
      · exact ⟨e', g, h2, h3⟩
      · obtain rfl := List.mem_singleton.1 g
        rcases hc with hc | hc
        · exact absurd hc h2
        · rw [h3] at hc
          exact (h.mem x).1 hc
  · rw [if_neg hc]
    have hc1 : e.l ≠ [] := fun g => hc (.inl g)
    have hc2 : trE e ∉ D := fun g => hc (.inr g)
    refine ⟨?_, fun x => ?_⟩
    · rw [setC_snoc, insC_new (fun g => hc2 ((setC_mem _ _).1 g)), h.len, List.length_append, List.length_singleton]
    · rw [List.mem_append, h.mem, List.mem_singleton]
      constructor
      · rintro (⟨e', h1, h2, h3⟩ | rfl)
        · exact ⟨e', List.mem_append_left _ h1, h2, h3⟩
        · exact ⟨e, List.mem_append_right _ (List.mem_singleton.2 rfl), hc1, rfl⟩
      · rintro ⟨e', h1, h2, h3⟩
        rcases List.mem_append.1 h1 with g | g
        · exact .inl ⟨e', g, h2, h3⟩
        · obtain rfl := List.mem_singleton.1 g
          exact .inr h3.symm
def foldD (es : List Le) : List Tc := es.foldl addD []
theorem foldD_snoc (es : List Le) (e : Le) : foldD (es ++ [e]) = addD (foldD es) e := by unfold foldD; rw [List.foldl_append]; rfl
theorem foldD_inv : ∀ (n : Nat) (es : List Le), es.length = n → DInv es (foldD es)
  | 0, es, h => by rw [List.eq_nil_of_length_eq_zero h]; exact DInv.nil
  | n + 1, es, h => by
    have hne : es ≠ [] := fun e => by rw [e] at h; simp at h
    have e := (List.dropLast_concat_getLast hne).symm
    rw [e, foldD_snoc]
    exact (foldD_inv n _ (by rw [List.length_dropLast, h]; rfl)).step
theorem mt_q0 (s : Sp) : q0.mt s = true := by
  unfold Qm.mt q0
  simp [nilB_nil]
theorem foldD_len (l : List Bl) : (foldD (l.flatMap Bl.l)).length = (q0.all l).length := by
  have h := foldD_inv _ (l.flatMap Bl.l) rfl
  rw [← h.len]
  unfold Qm.all Qm.hits
  rw [setC_eq]
  intro x
  rw [h.mem, List.mem_map]
  constructor
  · rintro ⟨e, h1, h2, h3⟩
    refine ⟨e, List.mem_filter.2 ⟨h1, ?_⟩, h3⟩
    unfold Qm.hit
    obtain ⟨y, r, hy⟩ := List.exists_cons_of_ne_nil h2
    rw [hy, List.any_cons, mt_q0, Bool.true_or]
  · rintro ⟨e, h1, h3⟩
    obtain ⟨h1, h2⟩ := List.mem_filter.1 h1
    refine ⟨e, h1, fun g => ?_, h3⟩
    unfold Qm.hit at h2
    rw [g] at h2
    cases h2
theorem addD_len (D : List Tc) (e : Le) : (addD D e).length ≤ D.length + 1 := by unfold addD; split <;> simp
theorem foldD_le (es : List Le) : (foldD es).length ≤ es.length := by
  have : ∀ (es : List Le) (D : List Tc), (es.foldl addD D).length ≤ D.length + es.length := by
    intro es
    induction es with
    | nil => intro D; simp
    | cons e r ih =>
      intro D
      have h1 := ih (addD D e)
      have h2 := addD_len D e
      rw [List.foldl_cons, List.length_cons]
      omega
  have h := this es []
  unfold foldD
  simpa using h
theorem memD_step {D : List Tc} {r : Nat} {x t : Tc} (hx : D[r]? = some x) : decide (t ∈ D.take (r + 1)) = (decide (t ∈ D.take r) || decide (x = t)) := by
  rw [Bool.eq_iff_iff]
  simp only [Bool.or_eq_true, decide_eq_true_eq]
  rw [mem_take_succ hx]
  exact ⟨fun h => h.elim .inl (fun e => .inr e.symm), fun h => h.elim .inl (fun e => .inr e.symm)⟩
set_option maxHeartbeats 16000000 in
theorem spanned_any (A : Option Addr) (l : List Bl) (n c B : Nat) (W : World) (hn : n = l.length) (hy : RdBls W B A l) (hB : B ≤ W.heap.size) (hsm : SmallBls l) :
    Calls Try.prog 52 #[.slice A n c] W fun e w' => e = .returned (.int .i64 ((q0.all l).length : Int)) ∧ Below W.heap.size W w' := by
  have HN := Lib.hid hn
  have HY := Lib.hid hy
  have HSM := Lib.hid hsm
  have HAL : Hid ((q0.all l).length = (foldD (epsTo l n)).length) := Lib.hid (by unfold epsTo; rw [List.take_of_length_le (by rw [hn]; exact Nat.le_refl _)]; exact (foldD_len l).symm)
  generalize (q0.all l).length = R at *
  have hnl : n ≤ 100000 := by rw [hn]; exact hsm.len
  clear hn hy hsm
  go_enter Try.func52, Try.ntmps52
  go_wp2_with fail
  go_loopw [3, 4] (fun v i wr => ∃ k : Nat, i = .int .i64 k ∧ k ≤ n ∧ Hid (wr.ownsRow W.heap.size 28 2 v (foldD (epsTo l k)).length ((foldD (epsTo l k)).flatMap trC)) ∧ Hid (Below W.heap.size W wr)) (fun _ i _ => n - (intOf i).toNat)
  case atStart => exact ⟨0, rfl, Nat.zero_le _, Lib.hid (World.ownsRow_nil _ _ _ _), Lib.hid (Below.refl _ _)⟩
  case round =>
    obtain ⟨k, rfl, hk, HO, HB⟩ := hrel
    by_cases hlt : k < n
    · obtain ⟨x, hx⟩ : ∃ x, l[k]? = some x := ⟨_, List.getElem?_eq_getElem (by rw [← HN.out]; exact hlt)⟩
      have hst := epsTo_step hx
      have hel := epsTo_len l (k + 1)
      have hes := HSM.out.eps
      have hsp := HSM.out.spans x (List.mem_of_getElem? hx)
      obtain ⟨nu, bo, ti, es, eA, ec⟩ := x
      simp only at hst hsp
      obtain ⟨m, hm⟩ : ∃ m, m = es.length := ⟨_, rfl⟩
      rw [hst, List.length_append, ← hm] at hel
      have hm5 : m ≤ 100000 := by omega
      have hcnt : (epsTo l k).length + m ≤ 100000 := by omega
      have HCNT := Lib.hid hcnt
      have HST := Lib.hid hst
      have HSP := Lib.hid hsp
      have HM := Lib.hid hm
      have HLX := Lib.hid hx
      clear hx hst hel hes hm hcnt hsp
      go_wp2_with fail
      go_loopw [3, 5] (fun v i wr => ∃ j : Nat, i = .int .i64 j ∧ j ≤ m ∧ Hid (wr.ownsRow W.heap.size 28 2 v (foldD (epsTo l k ++ es.take j)).length ((foldD (epsTo l k ++ es.take j)).flatMap trC)) ∧ Hid (Below W.heap.size W wr)) (fun _ i _ => m - (intOf i).toNat)
      case atStart => exact ⟨0, rfl, Nat.zero_le _, Lib.hid (by rw [List.take_zero, List.append_nil]; exact HO.out), HB⟩
      case round =>
        obtain ⟨j, rfl, hj, HOj, HBj⟩ := hrel
        obtain ⟨a, ha, hab, c0, c1, c2, c3, hre⟩ := blcells (HY.out.below (HBj.out.mono hB)) HLX.out m HM.out
        subst ha
        by_cases hlt2 : j < m
        · have dj : decide ((j : Int) < (m : Int)) = true := decide_eq_true (by omega)
          obtain ⟨e, he⟩ : ∃ e, es[j]? = some e := ⟨_, List.getElem?_eq_getElem (by rw [← HM.out]; exact hlt2)⟩
          have hfold : foldD (epsTo l k ++ es.take (j + 1)) = addD (foldD (epsTo l k ++ es.take j)) e := by rw [← foldD_snoc, List.append_assoc, List.take_add_one, he]; rfl
          have hlen : (foldD (epsTo l k ++ es.take j)).length ≤ 1000000 := by
            have h1 := foldD_le (epsTo l k ++ es.take j)
            rw [List.length_append, List.length_take] at h1
            have h2 := HCNT.out
            omega
          have hse := (HSP.out e (List.mem_of_getElem? he)).1
          obtain ⟨th, tl, f, la, su, ls, sA, sc⟩ := e
          obtain ⟨sn, hsn⟩ : ∃ z, z = ls.length := ⟨_, rfl⟩
          obtain ⟨ae, hae, haeb, g0, g1, g2, g3, g4, g5, hrs⟩ := epcells hre he sn hsn
          subst hae
          have hsn5 : sn ≤ 100000 := by rw [hsn]; exact hse
          have hbe := (Below.refl wr.heap.size wr).alloc (Nat.le_refl _) (.cells #[.int .u64 th, .int .u64 tl, .int .i64 f, .int .i64 la, .bool su, .slice sA sn sc] 48)
          have HBX := Lib.hid (heap_alloc_new wr (.cells #[.int .u64 th, .int .u64 tl, .int .i64 f, .int .i64 la, .bool su, .slice sA sn sc] 48))
          have HBE := Lib.hid (HBj.out.trans (hbe.mono HBj.out.size))
          have HOE := Lib.hid (own_below HOj.out hbe)
          have hze : wr.heap.size < (wr.alloc (.cells #[.int .u64 th, .int .u64 tl, .int .i64 f, .int .i64 la, .bool su, .slice sA sn sc] 48)).heap.size := by simp
          have HLEN := Lib.hid hlen
          have HSN := Lib.hid hsn
          have HFD := Lib.hid hfold
          clear he hrs hbe hre hsn hlen hfold hse
          generalize foldD (epsTo l k ++ es.take j) = D at *
          obtain ⟨d, hd⟩ : ∃ d, D.length = d := ⟨_, rfl⟩
          rw [hd] at HOE HLEN
          have HD := Lib.hid hd
          clear hd
          obtain ⟨Ad, cd, hv, hcd, hrd⟩ := own_rd HOE.out
          subst hv
          have HRD := Lib.hid hrd
          clear hrd
          have hd6 := HLEN.out
          go_wp2_with fail
          generalize hwe : wr.alloc (.cells #[.int .u64 th, .int .u64 tl, .int .i64 f, .int .i64 la, .bool su, .slice sA sn sc] 48) = we at *
          clear g0 g1 g2 g3 g4 g5
          obtain ⟨bx, hbx⟩ : ∃ bx, wr.heap.size = bx := ⟨_, rfl⟩
          rw [hbx] at HBX hze
          clear hwe
          go_loopw [7, 8] (fun b i wr => ∃ (bb : Bool) (r : Nat), b = .bool bb ∧ i = .int .i64 r ∧ r ≤ d ∧ Hid (bb = (decide (sn = 0) || decide (((th, tl) : Tc) ∈ D.take r))) ∧ Hid (Below we.heap.size we wr)) (fun _ i _ => d - (intOf i).toNat)
          case atStart => exact ⟨_, 0, rfl, rfl, Nat.zero_le _, Lib.hid (by rw [Bool.eq_iff_iff]; simp), Lib.hid (Below.refl _ _)⟩
          case round =>
            obtain ⟨bb, r, rfl, rfl, hr, HBB, HB3⟩ := hrel
            have hx9 := (HB3.out.block _ (in_heap HBX.out)).trans HBX.out
            have x0 : wr.cell? ⟨bx, 0, none⟩ = some (.int .u64 th) := cell_of_row _ _ 0 _ _ (0, 0) hx9
            have x1 : wr.cell? ⟨bx, 1, none⟩ = some (.int .u64 tl) := cell_of_row _ _ 1 _ _ (0, 0) hx9
            clear hx9
            by_cases hltr : r < d
            · obtain ⟨y, hy⟩ : ∃ x, D[r]? = some x := ⟨_, List.getElem?_eq_getElem (by rw [HD.out]; exact hltr)⟩
              have HSTP := Lib.hid (memD_step (t := ((th, tl) : Tc)) hy)
              cases bb
              · obtain ⟨ad, had, hadb, y0, y1⟩ := tr_at (HRD.out.below HB3.out) hy
                subst had
                have hnb : (decide (sn = 0) || decide (((th, tl) : Tc) ∈ D.take r)) = false := HBB.out.symm
                clear hy
                rcases (show ((y.1 == th) = false) ∨ ((y.1 == th) = true ∧ (y.2 == tl) = false) ∨ ((y.1 == th) = true ∧ (y.2 == tl) = true) from by cases (y.1 == th) <;> cases (y.2 == tl) <;> simp) with q1 | ⟨q1, q2⟩ | ⟨q1, q2⟩
                · have hne : y ≠ ((th, tl) : Tc) := fun e => by rw [e] at q1; simp at q1
                  have HNX : Hid (false = (decide (sn = 0) || decide (((th, tl) : Tc) ∈ D.take (r + 1)))) := Lib.hid (by rw [HSTP.out, decide_eq_false hne, Bool.or_false]; exact hnb.symm)
                  clear hnb hne
                  go_wp2_with fail
                  go_region
                  go_wp2_with fail
                  go_roundw
                  case rel => exact ⟨false, r + 1, rfl, by go_num, by omega, HNX, Lib.hid HB3.out.drew⟩
                  case measure => simp [intOf]; omega
                · have hne : y ≠ ((th, tl) : Tc) := fun e => by rw [e] at q2; simp at q2
                  have HNX : Hid (false = (decide (sn = 0) || decide (((th, tl) : Tc) ∈ D.take (r + 1)))) := Lib.hid (by rw [HSTP.out, decide_eq_false hne, Bool.or_false]; exact hnb.symm)
                  clear hnb hne
                  go_wp2_with fail
                  go_region
                  go_wp2_with fail
                  go_roundw
                  case rel => exact ⟨false, r + 1, rfl, by go_num, by omega, HNX, Lib.hid HB3.out.drew⟩
                  case measure => simp [intOf]; omega
                · have hne : y = ((th, tl) : Tc) := Prod.ext (beq_iff_eq.1 q1) (beq_iff_eq.1 q2)
                  have HNX : Hid (true = (decide (sn = 0) || decide (((th, tl) : Tc) ∈ D.take (r + 1)))) := Lib.hid (by rw [HSTP.out, decide_eq_true hne, Bool.or_true, Bool.or_true])
                  clear hnb hne
                  go_wp2_with fail
                  go_region
                  go_wp2_with fail
                  go_roundw
                  case rel => exact ⟨true, r + 1, rfl, by go_num, by omega, HNX, Lib.hid HB3.out.drew⟩
                  case measure => simp [intOf]; omega
              · have HNX : Hid (true = (decide (sn = 0) || decide (((th, tl) : Tc) ∈ D.take (r + 1)))) := Lib.hid (by rw [HSTP.out, ← Bool.or_assoc, ← HBB.out, Bool.true_or])
                clear hy
                go_wp2_with fail
                go_region
                go_wp2_with fail
                go_roundw
                case rel => exact ⟨true, r + 1, rfl, by go_num, by omega, HNX, Lib.hid HB3.out.drew⟩
                case measure => simp [intOf]; omega
            · obtain rfl : r = d := by omega
              have hbb := HBB.out
              rw [List.take_of_length_le (by rw [HD.out]; exact Nat.le_refl _)] at hbb
              have HB9 := Lib.hid (HBE.out.trans (HB3.out.mono HBE.out.size))
              have HO9 := Lib.hid (own_below HOE.out HB3.out)
              have hnil : (ls = []) ↔ sn = 0 := by rw [HSN.out]; exact List.length_eq_zero_iff.symm
              cases bb
              · have HADD : Hid (foldD (epsTo l k ++ es.take (j + 1)) = D ++ [((th, tl) : Tc)]) := Lib.hid (by
                  rw [HFD.out]
                  unfold addD
                  refine if_neg ?_
                  rintro (h | h)
                  · rw [show decide (sn = 0) = true from decide_eq_true (hnil.1 h)] at hbb; cases hbb
                  · rw [show decide (((th, tl) : Tc) ∈ D) = true from decide_eq_true h, Bool.or_true] at hbb; cases hbb)
                have APP := Lib.hid (fun ty => appTr (ty := ty) HO9.out ((th, tl) : Tc) #[.int .u64 th, .int .u64 tl] rfl HLEN.out HB9.out.size)
                clear hbb hnil
                go_wp2_with (at_builtin; refine wpList_app rfl (.tmp 55) (.tmp 58) _ _ rfl rfl rfl (APP.out _) ?_; rintro v4 w4 ⟨ho4, hg4⟩; have HO4 := Lib.hid ho4; have HB4 := Lib.hid (hg4.below HB9.out HB9.out.size (own_block_ge HO9.out)); clear ho4 hg4)
                go_roundw
                case rel => exact ⟨j + 1, by go_num, by omega, Lib.hid (by rw [HADD.out, List.length_append, HD.out, List.flatMap_append]; exact HO4.out), HB4⟩
                case measure => simp [intOf]; omega
              · have HADD : Hid (foldD (epsTo l k ++ es.take (j + 1)) = D) := Lib.hid (by
                  rw [HFD.out]
                  unfold addD
                  refine if_pos ?_
                  have h := hbb.symm
                  rw [Bool.or_eq_true, decide_eq_true_eq, decide_eq_true_eq] at h
                  exact h.elim (fun h => .inl (hnil.2 h)) .inr)
                clear hbb hnil
                go_wp2_with fail
                go_roundw
                case rel => exact ⟨j + 1, by go_num, by omega, Lib.hid (by rw [HADD.out, HD.out]; exact HO9.out), HB9⟩
                case measure => simp [intOf]; omega
        · obtain rfl : j = m := by omega
          have dj : decide ((j : Int) < (j : Int)) = false := decide_eq_false (by omega)
          have HOF := HOj.out
          have htk : es.take j = es := List.take_of_length_le (by rw [HM.out]; exact Nat.le_refl _)
          rw [htk, ← HST.out] at HOF
          have HOF := Lib.hid HOF
          clear htk
          go_wp2_with fail
          go_roundw
          case rel => exact ⟨k + 1, by go_num, by omega, HOF, HBj⟩
          case measure => simp [intOf]; omega
    · obtain rfl : k = n := by omega
      have HOF := HO.out
      have hle := foldD_le (epsTo l k)
      have hl2 := epsTo_len l k
      have hl3 := HSM.out.eps
      generalize foldD (epsTo l k) = D at *
      obtain ⟨Ad, cd, hv, hcd, hrd⟩ := own_rd HOF
      subst hv
      have hD : D.length ≤ 100000 := by omega
      clear hrd hle hl2 hl3 HOF
      go_wp2_with fail
      go_ret
      exact ⟨by rw [HAL.out] <;> rfl, HB.out⟩
end Go.Proofs.Ytmldelgbmadegaa
