/- tree.named: of each span the place of the first other one that it names. -/
import Derived.Test.YtgldjjmpjaegfaaSyh
import Derived.Test.YtgldjjmpjaegfaaSyj
namespace Go.Proofs.Ytgldjjmpjaegfaa
open Go.RowKit Go.Maps
set_option linter.unusedVariables false
set_option linter.unusedSimpArgs false
set_option maxRecDepth 100000

def encZ (z : Int) : Value := .int .i64 z
def idT (l : List Ls) (k : Nat) : List Int := (l.take k).map fun x => x.s.id
theorem idT_len (l : List Ls) (k : Nat) (h : k ≤ l.length) : (idT l k).length = k := by unfold idT; rw [List.length_map, List.length_take]; omega
theorem idT_step {l : List Ls} {k : Nat} {x : Ls} (hx : l[k]? = some x) : idT l (k + 1) = idT l k ++ [x.s.id] := by unfold idT; rw [List.take_add_one, hx, List.map_append]; rfl
theorem idT_all (l : List Ls) : idT l l.length = l.map fun x => x.s.id := by unfold idT; rw [List.take_length]
def fmap (l : List Ls) (j k : Nat) : Int → Option Nat := fun u => (plc (idT l k) u)[j]?
theorem fmap_step0 {l : List Ls} {k : Nat} {x : Ls} (hx : l[k]? = some x) (h : (fmap l 0 k x.s.id).isSome = false) : (∀ u, (if u = x.s.id then some k else fmap l 0 k u) = fmap l 0 (k + 1) u) ∧ ∀ u, fmap l 1 k u = fmap l 1 (k + 1) u := by
  have hk := (List.getElem?_eq_some_iff.1 hx).1
  have hl := idT_len l k (by omega)
  have e : plc (idT l k) x.s.id = [] := by
    unfold fmap at h
    cases hp : plc (idT l k) x.s.id with
    | nil => rfl
    | cons a r => rw [hp] at h; simp at h
  unfold fmap
  rw [idT_step hx]
  refine ⟨fun u => ?_, fun u => ?_⟩ <;> rw [plc_append, hl]
  · by_cases hu : u = x.s.id
    · subst hu; rw [if_pos rfl, if_pos rfl, e]; rfl
    · rw [if_neg hu, if_neg hu, List.append_nil]
  · by_cases hu : u = x.s.id
    · subst hu; rw [if_pos rfl, e]; rfl
    · rw [if_neg hu, List.append_nil]
theorem fmap_step1 {l : List Ls} {k : Nat} {x : Ls} (hx : l[k]? = some x) (h : (fmap l 0 k x.s.id).isSome = true) (h1 : (fmap l 1 k x.s.id).isSome = false) : (∀ u, fmap l 0 k u = fmap l 0 (k + 1) u) ∧ ∀ u, (if u = x.s.id then some k else fmap l 1 k u) = fmap l 1 (k + 1) u := by
  have hk := (List.getElem?_eq_some_iff.1 hx).1
  have hl := idT_len l k (by omega)
  obtain ⟨y, e⟩ : ∃ y, plc (idT l k) x.s.id = [y] := by
    unfold fmap at h h1
    cases hp : plc (idT l k) x.s.id with
    | nil => rw [hp] at h; simp at h
    | cons a r => cases r with
      | nil => exact ⟨a, rfl⟩
      | cons b r => rw [hp] at h1; simp at h1
  unfold fmap
  rw [idT_step hx]
  refine ⟨fun u => ?_, fun u => ?_⟩ <;> rw [plc_append, hl]
  · by_cases hu : u = x.s.id
    · subst hu; rw [if_pos rfl, e]; rfl
    · rw [if_neg hu, List.append_nil]
  · by_cases hu : u = x.s.id
    · subst hu; rw [if_pos rfl, if_pos rfl, e]; rfl
    · rw [if_neg hu, if_neg hu, List.append_nil]
theorem fmap_step2 {l : List Ls} {k : Nat} {x : Ls} (hx : l[k]? = some x) (h1 : (fmap l 1 k x.s.id).isSome = true) : (∀ u, fmap l 0 k u = fmap l 0 (k + 1) u) ∧ ∀ u, fmap l 1 k u = fmap l 1 (k + 1) u := by
  have hk := (List.getElem?_eq_some_iff.1 hx).1
  have hl := idT_len l k (by omega)
  obtain ⟨y, z, r, e⟩ : ∃ y z r, plc (idT l k) x.s.id = y :: z :: r := by
    unfold fmap at h1
    cases hp : plc (idT l k) x.s.id with
    | nil => rw [hp] at h1; simp at h1
    | cons a r => cases r with
      | nil => rw [hp] at h1; simp at h1
      | cons b r => exact ⟨a, b, r, rfl⟩
  unfold fmap
  rw [idT_step hx]
  refine ⟨fun u => ?_, fun u => ?_⟩ <;> rw [plc_append, hl]
  · by_cases hu : u = x.s.id
    · subst hu; rw [if_pos rfl, e]; rfl
    · rw [if_neg hu, List.append_nil]
  · by_cases hu : u = x.s.id
    · subst hu; rw [if_pos rfl, e]; rfl
    · rw [if_neg hu, List.append_nil]
theorem make_intN (n : Nat) (hn : n ≤ 100000) (W : World) :
    ∃ W', (Instr.makeSlice 26 (.int .i64 (n : Int)) (.int .i64 (n : Int))).run Try.prog W = .ok (.slice (some ⟨W.heap.size, 0, none⟩) n n) W' ∧ W'.ownsRow W.heap.size 3 1 (.slice (some ⟨W.heap.size, 0, none⟩) n n) n ((List.replicate n (0 : Int)).map encZ) ∧ Below W.heap.size W W' ∧ W'.heap.size = W.heap.size + 1 := by
  obtain ⟨i0, hi, hz0, hz1, hz2⟩ := info_parts info_int
  obtain ⟨W', h1, h2, h3, h4⟩ := make_rep 26 3 i0 _ 8 Try.underlying26 hi hz0 hz1 hz2 (by decide) rfl n hn W
  exact ⟨W', h1, by rw [List.map_replicate]; exact h2, h3, h4⟩
set_option maxHeartbeats 16000000 in
theorem named_any (l : List Ls) (A : Option Addr) (n c B : Nat) (w : World) (hS : RdSps w B A l) (hB : B ≤ w.heap.size) (hn : n = l.length) (hsm : n ≤ 100000) :
    Calls Try.prog 30 #[.slice A n c] w fun e w' => ∃ g, e = .returned (.slice (some ⟨g, 0, none⟩) n n) ∧ w'.ownsRow w.heap.size 3 1 (.slice (some ⟨g, 0, none⟩) n n) n ((namedM l).map encZ) ∧ Below w.heap.size w w' := by
  have HSs := Lib.hid hS
  have HBB := Lib.hid hB
  have HN := Lib.hid hn
  clear hS hB hn
  have hmm := @run_makeMap Try.prog
  have hM1 : MapU ((w.alloc (.map #[] 0)).alloc (.map #[] 0)) w.heap.size 0 (fmap l 0 0) := ((MapU.made w).block (Below.heap_alloc _ _ _ (by simp))).congr (fun _ => rfl)
  have hM2 : MapU ((w.alloc (.map #[] 0)).alloc (.map #[] 0)) (w.heap.size + 1) 0 (fmap l 1 0) := by
    have h := MapU.made (w.alloc (.map #[] 0))
    have e : (w.alloc (.map #[] 0)).heap.size = w.heap.size + 1 := by simp
    rw [e] at h
    exact h.congr (fun _ => rfl)
  have hB0 : Below w.heap.size w ((w.alloc (.map #[] 0)).alloc (.map #[] 0)) := ((Below.refl w.heap.size w).alloc (Nat.le_refl _) (.map #[] 0)).alloc (by simp) (.map #[] 0)
  go_enter Try.func30, Try.ntmps30
  go_upto_region 4 with fail
  obtain ⟨g1, hg1⟩ : ∃ g1, g1 = w.heap.size := ⟨_, rfl⟩
  obtain ⟨g2, hg2⟩ : ∃ g2, g2 = w.heap.size + 1 := ⟨_, rfl⟩
  rw [← hg2] at hM2 ⊢
  rw [← hg1] at hM1 hB0 ⊢
  have HG := Lib.hid (And.intro hg1 hg2)
  have HM1 := Lib.hid hM1
  have HM2 := Lib.hid hM2
  have HB0 := Lib.hid hB0
  rw [← hg1] at HBB
  clear hM1 hM2 hB0 hg1 hg2 hmm
  generalize (w.alloc (.map #[] 0)).alloc (.map #[] 0) = wm at *
  go_loopw [20] (fun i wq => ∃ (k n1 n2 : Nat), i = .int .i64 (k : Int) ∧ k ≤ n ∧ n1 ≤ k ∧ n2 ≤ k ∧ Hid (MapU wq g1 n1 (fmap l 0 k)) ∧ Hid (MapU wq g2 n2 (fmap l 1 k)) ∧ Hid (Below g1 w wq)) (fun i _ => n - (intOf i).toNat)
  case atStart => exact ⟨0, 0, 0, rfl, Nat.zero_le _, Nat.le_refl _, Nat.le_refl _, HM1, HM2, HB0⟩
  clear HM1 HM2 HB0
  case round =>
    obtain ⟨k, n1, n2, rfl, hk, hn1, hn2, HM1, HM2, HB⟩ := hrel
    have hws := HB.out.size
    rw [← HG.out.1] at hws
    by_cases hlt : k < n
    · have HLT := Lib.hid hlt
      have i1 : (k : Int) < (n : Int) := by omega
      have i0 : (0 : Int) ≤ (k : Int) := by omega
      obtain ⟨x, hx⟩ : ∃ x, l[k]? = some x := ⟨_, List.getElem?_eq_getElem (by rw [← HN.out]; exact hlt)⟩
      have HX := Lib.hid hx
      obtain ⟨a, ha, hab, hc, hRL⟩ := (HSs.out.below (HB.out.mono HBB.out)).at_ hx
      subst ha
      have hok := hRL.ok
      obtain ⟨⟨xh, xlo, xi, xp, xs, xo, xt, xd, xe, xa⟩, xA, xc⟩ := x
      obtain ⟨mm, hmm2⟩ : ∃ mm, mm = xa.length := ⟨_, rfl⟩
      have c0 : wr.cell? (a.add (k * 10)) = some (.int .u64 xh) := hc 0 _ rfl
      have c1 : wr.cell? (⟨(a.add (k * 10)).block, (a.add (k * 10)).off + 1, none⟩) = some (.int .u64 xlo) := cell_far (hc 1 _ rfl) (by omega)
      have c2 : wr.cell? (⟨(a.add (k * 10)).block, (a.add (k * 10)).off + 2, none⟩) = some (.int .u64 xi) := cell_far (hc 2 _ rfl) (by omega)
      have c3 : wr.cell? (⟨(a.add (k * 10)).block, (a.add (k * 10)).off + 3, none⟩) = some (.int .u64 xp) := cell_far (hc 3 _ rfl) (by omega)
      have c4 : wr.cell? (⟨(a.add (k * 10)).block, (a.add (k * 10)).off + 4, none⟩) = some (.string xs) := cell_far (hc 4 _ rfl) (by omega)
      have c5 : wr.cell? (⟨(a.add (k * 10)).block, (a.add (k * 10)).off + 5, none⟩) = some (.string xo) := cell_far (hc 5 _ rfl) (by omega)
      have c6 : wr.cell? (⟨(a.add (k * 10)).block, (a.add (k * 10)).off + 6, none⟩) = some (.int .i64 xt) := cell_far (hc 6 _ rfl) (by omega)
      have c7 : wr.cell? (⟨(a.add (k * 10)).block, (a.add (k * 10)).off + 7, none⟩) = some (.int .i64 xd) := cell_far (hc 7 _ rfl) (by omega)
      have c8 : wr.cell? (⟨(a.add (k * 10)).block, (a.add (k * 10)).off + 8, none⟩) = some (.bool xe) := cell_far (hc 8 _ rfl) (by omega)
      have c9 : wr.cell? (⟨(a.add (k * 10)).block, (a.add (k * 10)).off + 9, none⟩) = some (.slice xA mm xc) := by rw [hmm2]; exact cell_far (hc 9 _ rfl) (by omega)
      have hid := hok.id
      simp only at hid
      clear hc hx hok hRL hab hmm2 hlt
      go_upto_region 6 with fail
      have hq5 := heap_alloc_new wr (.cells #[.int .u64 xh, .int .u64 xlo, .int .u64 xi, .int .u64 xp, .string xs, .string xo, .int .i64 xt, .int .i64 xd, .bool xe, .slice xA mm xc] 34)
      have HB5 := Lib.hid (HB.out.alloc hws (.cells #[.int .u64 xh, .int .u64 xlo, .int .u64 xi, .int .u64 xp, .string xs, .string xo, .int .i64 xt, .int .i64 xd, .bool xe, .slice xA mm xc] 34))
      have HM15 := Lib.hid (HM1.out.block (Below.heap_alloc wr (.cells #[.int .u64 xh, .int .u64 xlo, .int .u64 xi, .int .u64 xp, .string xs, .string xo, .int .i64 xt, .int .i64 xd, .bool xe, .slice xA mm xc] 34) _ HM1.out.lt))
      have HM25 := Lib.hid (HM2.out.block (Below.heap_alloc wr (.cells #[.int .u64 xh, .int .u64 xlo, .int .u64 xi, .int .u64 xp, .string xs, .string xo, .int .i64 xt, .int .i64 xd, .bool xe, .slice xA mm xc] 34) _ HM2.out.lt))
      have hs5 : (wr.alloc (.cells #[.int .u64 xh, .int .u64 xlo, .int .u64 xi, .int .u64 xp, .string xs, .string xo, .int .i64 xt, .int .i64 xd, .bool xe, .slice xA mm xc] 34)).heap.size = wr.heap.size + 1 := by simp
      clear c0 c1 c2 c3 c4 c5 c6 c7 c8 c9
      have d1 : (wr.alloc (.cells #[.int .u64 xh, .int .u64 xlo, .int .u64 xi, .int .u64 xp, .string xs, .string xo, .int .i64 xt, .int .i64 xd, .bool xe, .slice xA mm xc] 34)).cell? ⟨wr.heap.size, 2, none⟩ = some (.int .u64 xi) := cell_of_row _ _ 2 _ _ (0, 0) hq5
      have d2 : (wr.alloc (.cells #[.int .u64 xh, .int .u64 xlo, .int .u64 xi, .int .u64 xp, .string xs, .string xo, .int .i64 xt, .int .i64 xd, .bool xe, .slice xA mm xc] 34)).cell? ⟨wr.heap.size, 3, none⟩ = some (.int .u64 xp) := cell_of_row _ _ 3 _ _ (0, 0) hq5
      have hgx : g1 < wr.heap.size := HM1.out.lt
      have hgy : g2 < wr.heap.size := HM2.out.lt
      generalize wr.alloc (.cells #[.int .u64 xh, .int .u64 xlo, .int .u64 xi, .int .u64 xp, .string xs, .string xo, .int .i64 xt, .int .i64 xd, .bool xe, .slice xA mm xc] 34) = w5 at *
      generalize wr.heap.size = gx at *
      clear hq5 HB HM1 HM2
      have hk6 : (k : Int) < 1000000 := by omega
      have HGG := Lib.hid (And.intro hgx hgy)
      obtain ⟨t0, ht0⟩ : ∃ t0 : Nat, (fmap l 0 k xi).getD 0 = t0 := ⟨_, rfl⟩
      obtain ⟨t1, ht1⟩ : ∃ t1 : Nat, (fmap l 1 k xi).getD 0 = t1 := ⟨_, rfl⟩
      have HT0 := Lib.hid (show (((fmap l 0 k xi).getD 0 : Nat) : Int) = (t0 : Int) from by rw [ht0])
      have HT1 := Lib.hid (show (((fmap l 1 k xi).getD 0 : Nat) : Int) = (t1 : Int) from by rw [ht1])
      clear ht0 ht1
      cases h0 : (fmap l 0 k xi).isSome
      · have HF := Lib.hid (fmap_step0 HX.out h0)
        have H0 := Lib.hid h0
        clear h0
        have P6 : ∀ w6, MapU w6 g1 (n1 + 1) (fun u => if u = xi then some k else fmap l 0 k u) → w5.grownBy w6 (some g1) → Hid (MapU w6 g1 (n1 + 1) (fmap l 0 (k + 1))) ∧ Hid (MapU w6 g2 n2 (fmap l 1 (k + 1))) ∧ Hid (Below g1 w w6) := fun w6 hm6 hgr6 =>
          ⟨Lib.hid (hm6.congr HF.out.1), Lib.hid ((HM25.out.block (hgr6.block g2 (by have := HGG.out; omega) (fun e => by injection e with e; have := HG.out; omega))).congr HF.out.2), Lib.hid (HB5.out.grown hgr6 (by omega) (fun r hr => by injection hr with hr; omega))⟩
        go_wp2_with (first
          | (at_lookup; (refine wpList_mapu HM15.out hid H0.out HT0.out rfl (.tmp 26) (.tmp 28) rfl rfl rfl ?_))
          | (at_mapUpdate; (refine wpList_mapu_put HM15.out hid (by omega) (show k ≤ 2000000 by omega) rfl (.tmp 34) (.tmp 36) (.tmp 37) (by rfl) (by rfl) (by rfl) (by rfl) ?_); intro w6 hm6 hgr6; obtain ⟨HM6, HM26, HB6⟩ := P6 w6 hm6 hgr6; clear hm6 hgr6))
        go_roundw
        case rel => exact ⟨k + 1, n1 + 1, n2, by go_num, HLT.out, by omega, by omega, HM6, HM26, HB6⟩
        case measure => have := HLT.out; simp [intOf]; omega
      · cases h1 : (fmap l 1 k xi).isSome
        · have HF := Lib.hid (fmap_step1 HX.out h0 h1)
          have H0 := Lib.hid h0
          have H1 := Lib.hid h1
          clear h0 h1
          have P6 : ∀ w6, MapU w6 g2 (n2 + 1) (fun u => if u = xi then some k else fmap l 1 k u) → w5.grownBy w6 (some g2) → Hid (MapU w6 g2 (n2 + 1) (fmap l 1 (k + 1))) ∧ Hid (MapU w6 g1 n1 (fmap l 0 (k + 1))) ∧ Hid (Below g1 w w6) := fun w6 hm6 hgr6 =>
            ⟨Lib.hid (hm6.congr HF.out.2), Lib.hid ((HM15.out.block (hgr6.block g1 (by have := HGG.out; omega) (fun e => by injection e with e; have := HG.out; omega))).congr HF.out.1), Lib.hid (HB5.out.grown hgr6 (by omega) (fun r hr => by injection hr with hr; have := HG.out; omega))⟩
          go_wp2_with (first
            | (at_lookup; (refine wpList_mapu HM15.out hid H0.out HT0.out rfl (.tmp 26) (.tmp 28) rfl rfl rfl ?_))
            | (at_lookup; (refine wpList_mapu HM25.out hid H1.out HT1.out rfl (.tmp 39) (.tmp 41) rfl rfl rfl ?_))
            | (at_mapUpdate; (refine wpList_mapu_put HM25.out hid (by omega) (show k ≤ 2000000 by omega) rfl (.tmp 47) (.tmp 49) (.tmp 50) (by rfl) (by rfl) (by rfl) (by rfl) ?_); intro w6 hm6 hgr6; obtain ⟨HM6, HM16, HB6⟩ := P6 w6 hm6 hgr6; clear hm6 hgr6))
          go_roundw
          case rel => exact ⟨k + 1, n1, n2 + 1, by go_num, HLT.out, by omega, by omega, HM16, HM6, HB6⟩
          case measure => have := HLT.out; simp [intOf]; omega
        · have HF := Lib.hid (fmap_step2 HX.out h1)
          have H0 := Lib.hid h0
          have H1 := Lib.hid h1
          clear h0 h1
          go_wp2_with (first
            | (at_lookup; (refine wpList_mapu HM15.out hid H0.out HT0.out rfl (.tmp 26) (.tmp 28) rfl rfl rfl ?_))
            | (at_lookup; (refine wpList_mapu HM25.out hid H1.out HT1.out rfl (.tmp 39) (.tmp 41) rfl rfl rfl ?_)))
          go_roundw
          case rel => exact ⟨k + 1, n1, n2, by go_num, HLT.out, by omega, by omega, Lib.hid (HM15.out.congr HF.out.1), Lib.hid (HM25.out.congr HF.out.2), HB5⟩
          case measure => have := HLT.out; simp [intOf]; omega
    · obtain rfl : k = n := by omega
      obtain ⟨W5, hrun, hown, hbl, hsz⟩ := make_intN k hsm wr
      have hg1 := HM1.out.lt
      have hg2 := HM2.out.lt
      have HOW := Lib.hid (own_mono hown (base' := g1) (by omega))
      have HB5 := Lib.hid (HB.out.trans (hbl.mono hws))
      have HM15 := Lib.hid (HM1.out.block (hbl.block _ hg1))
      have HM25 := Lib.hid (HM2.out.block (hbl.block _ hg2))
      clear hown hbl hsz hlt hk hg1 hg2 hws
      go_upto_region 15 with fail
      generalize hgh : wr.heap.size = gh at *
      clear hrun hgh HM1 HM2 HB
      go_loopw [57] (fun i wq => ∃ (q : Nat) (R : List Int), i = .int .i64 (q : Int) ∧ q ≤ k ∧ Hid (∀ r, r < q → R[r]? = (namedM l)[r]?) ∧ Hid (wq.ownsRow g1 3 1 (.slice (some ⟨gh, 0, none⟩) k k) k (R.map encZ)) ∧ Hid (MapU wq g1 n1 (fmap l 0 k)) ∧ Hid (MapU wq g2 n2 (fmap l 1 k)) ∧ Hid (Below g1 w wq)) (fun i _ => k - (intOf i).toNat)
      case atStart => exact ⟨0, _, rfl, Nat.zero_le _, Lib.hid (fun r hr => by omega), HOW, HM15, HM25, HB5⟩
      clear HOW HM15 HM25 HB5
      case round =>
        obtain ⟨q, R, rfl, hq, HRQ, HRO, HM1, HM2, HB⟩ := hrel
        have hws := HB.out.size
        rw [← HG.out.1] at hws
        by_cases hlt : q < k
        · have HLT := Lib.hid hlt
          have i1 : (q : Int) < (k : Int) := by omega
          have i0 : (0 : Int) ≤ (q : Int) := by omega
          obtain ⟨x, hx⟩ : ∃ x, l[q]? = some x := ⟨_, List.getElem?_eq_getElem (by rw [← HN.out]; exact hlt)⟩
          have HX := Lib.hid hx
          obtain ⟨a, ha, hab, hc, hRL⟩ := (HSs.out.below (HB.out.mono HBB.out)).at_ hx
          subst ha
          have hok := hRL.ok
          obtain ⟨⟨xh, xlo, xi, xp, xs, xo, xt, xd, xe, xa⟩, xA, xc⟩ := x
          obtain ⟨mm, hmm2⟩ : ∃ mm, mm = xa.length := ⟨_, rfl⟩
          have c0 : wr.cell? (a.add (q * 10)) = some (.int .u64 xh) := hc 0 _ rfl
          have c1 : wr.cell? (⟨(a.add (q * 10)).block, (a.add (q * 10)).off + 1, none⟩) = some (.int .u64 xlo) := cell_far (hc 1 _ rfl) (by omega)
          have c2 : wr.cell? (⟨(a.add (q * 10)).block, (a.add (q * 10)).off + 2, none⟩) = some (.int .u64 xi) := cell_far (hc 2 _ rfl) (by omega)
          have c3 : wr.cell? (⟨(a.add (q * 10)).block, (a.add (q * 10)).off + 3, none⟩) = some (.int .u64 xp) := cell_far (hc 3 _ rfl) (by omega)
          have c4 : wr.cell? (⟨(a.add (q * 10)).block, (a.add (q * 10)).off + 4, none⟩) = some (.string xs) := cell_far (hc 4 _ rfl) (by omega)
          have c5 : wr.cell? (⟨(a.add (q * 10)).block, (a.add (q * 10)).off + 5, none⟩) = some (.string xo) := cell_far (hc 5 _ rfl) (by omega)
          have c6 : wr.cell? (⟨(a.add (q * 10)).block, (a.add (q * 10)).off + 6, none⟩) = some (.int .i64 xt) := cell_far (hc 6 _ rfl) (by omega)
          have c7 : wr.cell? (⟨(a.add (q * 10)).block, (a.add (q * 10)).off + 7, none⟩) = some (.int .i64 xd) := cell_far (hc 7 _ rfl) (by omega)
          have c8 : wr.cell? (⟨(a.add (q * 10)).block, (a.add (q * 10)).off + 8, none⟩) = some (.bool xe) := cell_far (hc 8 _ rfl) (by omega)
          have c9 : wr.cell? (⟨(a.add (q * 10)).block, (a.add (q * 10)).off + 9, none⟩) = some (.slice xA mm xc) := by rw [hmm2]; exact cell_far (hc 9 _ rfl) (by omega)
          have hid := hok.pa
          simp only at hid
          clear hc hok hRL hab hmm2 hlt
          obtain ⟨z, hz⟩ : ∃ z, R[q]? = some z := ⟨_, List.getElem?_eq_getElem (by have := HRO.out.1; rw [List.length_map] at this; omega)⟩
          have HZ := Lib.hid hz
          have hNM : (namedM l)[q]? = some (plO (if fmap l 0 k xp = some q then fmap l 1 k xp else fmap l 0 k xp)) := by
            rw [namedM_at hx]
            unfold namedO fmap
            rw [HN.out, idT_all]
          have HNM := Lib.hid hNM
          clear hx hz hNM
          go_upto_region 17 with fail
          have hq5 := heap_alloc_new wr (.cells #[.int .u64 xh, .int .u64 xlo, .int .u64 xi, .int .u64 xp, .string xs, .string xo, .int .i64 xt, .int .i64 xd, .bool xe, .slice xA mm xc] 34)
          have HB5 := Lib.hid (HB.out.alloc hws (.cells #[.int .u64 xh, .int .u64 xlo, .int .u64 xi, .int .u64 xp, .string xs, .string xo, .int .i64 xt, .int .i64 xd, .bool xe, .slice xA mm xc] 34))
          have HM15 := Lib.hid (HM1.out.block (Below.heap_alloc wr (.cells #[.int .u64 xh, .int .u64 xlo, .int .u64 xi, .int .u64 xp, .string xs, .string xo, .int .i64 xt, .int .i64 xd, .bool xe, .slice xA mm xc] 34) _ HM1.out.lt))
          have HM25 := Lib.hid (HM2.out.block (Below.heap_alloc wr (.cells #[.int .u64 xh, .int .u64 xlo, .int .u64 xi, .int .u64 xp, .string xs, .string xo, .int .i64 xt, .int .i64 xd, .bool xe, .slice xA mm xc] 34) _ HM2.out.lt))
          have hs5 : (wr.alloc (.cells #[.int .u64 xh, .int .u64 xlo, .int .u64 xi, .int .u64 xp, .string xs, .string xo, .int .i64 xt, .int .i64 xd, .bool xe, .slice xA mm xc] 34)).heap.size = wr.heap.size + 1 := by simp
          clear c0 c1 c2 c3 c4 c5 c6 c7 c8 c9
          have d1 : (wr.alloc (.cells #[.int .u64 xh, .int .u64 xlo, .int .u64 xi, .int .u64 xp, .string xs, .string xo, .int .i64 xt, .int .i64 xd, .bool xe, .slice xA mm xc] 34)).cell? ⟨wr.heap.size, 2, none⟩ = some (.int .u64 xi) := cell_of_row _ _ 2 _ _ (0, 0) hq5
          have d2 : (wr.alloc (.cells #[.int .u64 xh, .int .u64 xlo, .int .u64 xi, .int .u64 xp, .string xs, .string xo, .int .i64 xt, .int .i64 xd, .bool xe, .slice xA mm xc] 34)).cell? ⟨wr.heap.size, 3, none⟩ = some (.int .u64 xp) := cell_of_row _ _ 3 _ _ (0, 0) hq5
          have hRO5 := own_below HRO.out ((Below.refl wr.heap.size wr).alloc (Nat.le_refl _) (.cells #[.int .u64 xh, .int .u64 xlo, .int .u64 xi, .int .u64 xp, .string xs, .string xo, .int .i64 xt, .int .i64 xd, .bool xe, .slice xA mm xc] 34))
          have hgx : g1 < wr.heap.size := HM1.out.lt
          have hgy : g2 < wr.heap.size := HM2.out.lt
          generalize wr.alloc (.cells #[.int .u64 xh, .int .u64 xlo, .int .u64 xi, .int .u64 xp, .string xs, .string xo, .int .i64 xt, .int .i64 xd, .bool xe, .slice xA mm xc] 34) = w5 at *
          generalize wr.heap.size = gx at *
          clear hq5 HB HM1 HM2 HRO
          have hk6 : (k : Int) < 1000000 := by omega
          have HRO5 := Lib.hid hRO5
          have HGG := Lib.hid (And.intro hgx hgy)
          have PS : ∀ v : Int, w5.frozen? ⟨gh, q, none⟩ = false ∧ w5.cell? ⟨gh, q, none⟩ = some (.int .i64 z) ∧ Hid ((w5.setCell ⟨gh, q, none⟩ (.int .i64 v)).ownsRow g1 3 1 (.slice (some ⟨gh, 0, none⟩) k k) k ((R.set q v).map encZ)) ∧ Hid (MapU (w5.setCell ⟨gh, q, none⟩ (.int .i64 v)) g1 n1 (fmap l 0 k)) ∧ Hid (MapU (w5.setCell ⟨gh, q, none⟩ (.int .i64 v)) g2 n2 (fmap l 1 k)) ∧ Hid (Below g1 w (w5.setCell ⟨gh, q, none⟩ (.int .i64 v))) := fun v => by
            obtain ⟨h1, h2, h3, h4⟩ := own_set HRO5.out HLT.out (.int .i64 v)
            refine ⟨h1, by rw [h2, List.getElem?_map, HZ.out]; rfl, Lib.hid (by rw [List.map_set]; exact h3), Lib.hid (HM15.out.block (h4.grown.block g1 (by omega) (fun e => (HM15.out.not_own HRO5.out) e.symm))), Lib.hid (HM25.out.block (h4.grown.block g2 (by omega) (fun e => (HM25.out.not_own HRO5.out) e.symm))), Lib.hid (h4.below HB5.out (by omega) (own_block_ge HRO5.out))⟩
          have PN : ∀ v : Int, (namedM l)[q]? = some v → ∀ r, r < q + 1 → (R.set q v)[r]? = (namedM l)[r]? := fun v hv r hr => by
            by_cases e : r = q
            · subst e; rw [List.getElem?_set_self (by exact (List.getElem?_eq_some_iff.1 HZ.out).1), hv]
            · rw [List.getElem?_set_ne (fun h => e h.symm)]; exact HRQ.out r (by omega)
          have HPN := Lib.hid PN
          clear PN hRO5
          cases hm0 : fmap l 0 k xp with
          | none =>
            have HV := Lib.hid (HPN.out (-1) (by rw [HNM.out]; rw [hm0, if_neg (by simp)]; rfl))
            have H0 := Lib.hid (show (fmap l 0 k xp).isSome = false from by rw [hm0]; rfl)
            have HT0 := Lib.hid (show (((fmap l 0 k xp).getD 0 : Nat) : Int) = ((0 : Nat) : Int) from by rw [hm0]; rfl)
            obtain ⟨s1, s2, HS3, HS4, HS5, HS6⟩ := PS (-1)
            clear PS
            clear hm0
            go_wp2_with (at_lookup; (refine wpList_mapu HM15.out hid H0.out HT0.out rfl (.tmp 63) (.tmp 65) (by rfl) (by rfl) (by rfl) ?_))
            go_roundw
            case rel => exact ⟨q + 1, R.set q (-1), by go_num, HLT.out, HV, HS3, HS4, HS5, HS6⟩
            case measure => have := HLT.out; simp [intOf]; omega
          | some j =>
            by_cases hjq : j = q
            · subst hjq
              cases hm1 : fmap l 1 k xp with
              | none =>
                have HV := Lib.hid (HPN.out (-1) (by rw [HNM.out]; rw [hm0, if_pos rfl, hm1]; rfl))
                have H0 := Lib.hid (show (fmap l 0 k xp).isSome = true from by rw [hm0]; rfl)
                have HT0 := Lib.hid (show (((fmap l 0 k xp).getD 0 : Nat) : Int) = ((j : Nat) : Int) from by rw [hm0]; rfl)
                obtain ⟨s1, s2, HS3, HS4, HS5, HS6⟩ := PS (-1)
                clear PS
                have H1 := Lib.hid (show (fmap l 1 k xp).isSome = false from by rw [hm1]; rfl)
                have HT1 := Lib.hid (show (((fmap l 1 k xp).getD 0 : Nat) : Int) = ((0 : Nat) : Int) from by rw [hm1]; rfl)
                clear hm1
                clear hm0
                go_wp2_with (first | (at_lookup; (refine wpList_mapu HM15.out hid H0.out HT0.out rfl (.tmp 63) (.tmp 65) (by rfl) (by rfl) (by rfl) ?_)) | (at_lookup; (refine wpList_mapu HM25.out hid H1.out HT1.out rfl (.tmp 76) (.tmp 78) (by rfl) (by rfl) (by rfl) ?_)))
                go_roundw
                case rel => exact ⟨j + 1, R.set j (-1), by go_num, HLT.out, HV, HS3, HS4, HS5, HS6⟩
                case measure => have := HLT.out; simp [intOf]; omega
              | some j2 =>
                have HV := Lib.hid (HPN.out ((j2 : Int)) (by rw [HNM.out]; rw [hm0, if_pos rfl, hm1]; rfl))
                have H0 := Lib.hid (show (fmap l 0 k xp).isSome = true from by rw [hm0]; rfl)
                have HT0 := Lib.hid (show (((fmap l 0 k xp).getD 0 : Nat) : Int) = ((j : Nat) : Int) from by rw [hm0]; rfl)
                obtain ⟨s1, s2, HS3, HS4, HS5, HS6⟩ := PS ((j2 : Int))
                clear PS
                have H1 := Lib.hid (show (fmap l 1 k xp).isSome = true from by rw [hm1]; rfl)
                have HT1 := Lib.hid (show (((fmap l 1 k xp).getD 0 : Nat) : Int) = ((j2 : Nat) : Int) from by rw [hm1]; rfl)
                clear hm1
                clear hm0
                go_wp2_with (first | (at_lookup; (refine wpList_mapu HM15.out hid H0.out HT0.out rfl (.tmp 63) (.tmp 65) (by rfl) (by rfl) (by rfl) ?_)) | (at_lookup; (refine wpList_mapu HM25.out hid H1.out HT1.out rfl (.tmp 76) (.tmp 78) (by rfl) (by rfl) (by rfl) ?_)))
                go_roundw
                case rel => exact ⟨j + 1, R.set j ((j2 : Int)), by go_num, HLT.out, HV, HS3, HS4, HS5, HS6⟩
                case measure => have := HLT.out; simp [intOf]; omega
            · have b1 : ((j : Int) == (q : Int)) = false := beq_eq_false_iff_ne.2 (by omega)
              have b2 : (j == q) = false := beq_eq_false_iff_ne.2 hjq
              have HV := Lib.hid (HPN.out ((j : Int)) (by rw [HNM.out]; rw [hm0, if_neg (by simpa using hjq)]; rfl))
              have H0 := Lib.hid (show (fmap l 0 k xp).isSome = true from by rw [hm0]; rfl)
              have HT0 := Lib.hid (show (((fmap l 0 k xp).getD 0 : Nat) : Int) = ((j : Nat) : Int) from by rw [hm0]; rfl)
              obtain ⟨s1, s2, HS3, HS4, HS5, HS6⟩ := PS ((j : Int))
              clear PS
              clear hm0
              go_wp2_with (at_lookup; (refine wpList_mapu HM15.out hid H0.out HT0.out rfl (.tmp 63) (.tmp 65) (by rfl) (by rfl) (by rfl) ?_))
              go_roundw
              case rel => exact ⟨q + 1, R.set q ((j : Int)), by go_num, HLT.out, HV, HS3, HS4, HS5, HS6⟩
              case measure => have := HLT.out; simp [intOf]; omega
        · obtain rfl : q = k := by omega
          go_wp2_with fail
          go_ret
          have hR : R = namedM l := by
            apply List.ext_getElem?
            intro r
            by_cases hr : r < q
            · exact HRQ.out r hr
            · have h1 := HRO.out.1
              rw [List.length_map] at h1
              have h2 := namedM_len l
              have h3 := HN.out
              rw [List.getElem?_eq_none (by omega), List.getElem?_eq_none (by omega)]
          exact ⟨gh, rfl, by rw [← hR, ← HG.out.1]; exact HRO.out, by rw [← HG.out.1]; exact HB.out⟩
end Go.Proofs.Ytgldjjmpjaegfaa
