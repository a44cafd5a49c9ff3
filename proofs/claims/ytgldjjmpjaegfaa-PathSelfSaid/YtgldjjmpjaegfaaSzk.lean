/- The document's Depths, Sizes, walked. -/
import Derived.Test.YtgldjjmpjaegfaaSzj
namespace Go.Proofs.Ytgldjjmpjaegfaa
open Go.RowKit Go.Maps
set_option linter.unusedVariables false
set_option linter.unusedSimpArgs false
set_option maxRecDepth 100000

theorem Sy.Fo.olen {l : List Ls} {n : Nat} {P : List Int} {M O : List Nat} (h : Sy.Fo l n P M O) : O.length = n := by
  have h1 := h.len
  have h2 := Sy.sub_len (List.range n) O List.nodup_range fun x hx => (h.mem x).2 (List.mem_range.1 hx)
  rw [List.length_range] at h2
  omega
theorem refroot_any (l : List Ls) (A : Option Addr) (n c B : Nat) (P : List Int) (M O : List Nat) (g : Nat → Nat) (A1 : Option Addr) (c1 : Nat) (w : World) (hS : RdSps w B A l) (hB : B ≤ w.heap.size) (hsm : n ≤ 500) (hF : Sy.Fo l n P M O) (hg : Sy.Dg P n g) (hrd : Rd w B A1 (P.map encZ)) :
    Calls Try.prog 34 #[.slice A n c, .slice A1 n c1, .int .i64 (-1), .int .i64 0] w fun e w' => ∃ A5 c5 A6 c6, e = .returned (.tuple #[.slice A5 n c5, .slice A6 n c6]) ∧ KO w' w.heap.size [.slice A5 n c5, .slice A6 n c6] [O, O.map g] ∧ Below w.heap.size w w' := by
  have hof : Sy.ofZ n (-1) = n := by unfold Sy.ofZ; rw [if_pos rfl]
  have hhd : hdZ (-1) = [] := by unfold hdZ; rw [if_pos rfl]
  have hlo := hF.len
  have hol := hF.olen
  refine (refbelow_any l A n c B P A1 c1 M O hF g (fun x => by have := hg.le x; omega) (by omega) O.length (-1) O 0 w hS hrd hB (.inl rfl) (by rw [hof]; exact hF.run) (Nat.le_refl _) (by omega) (by omega) (fun _ y hy => ?_) (fun h => by omega) (fun x hx y hy => ?_)).mono ?_
  · rw [hof] at hy
    obtain ⟨h1, h2⟩ := (Sy.kid_mem hF.all).1 hy
    exact hg.root y h1 h2
  · rw [hhd, List.nil_append] at hx
    exact hg.down hF.all ((hF.mem x).1 hx) hy
  · rintro ex w' ⟨v1, v2, rfl, hk, hb⟩
    rw [hhd, List.nil_append] at hk
    obtain ⟨⟨A5, c5, e5⟩, h6⟩ := hk.own 0 v1 O rfl rfl
    obtain ⟨⟨A6, c6, e6⟩, h7⟩ := hk.own 1 v2 (O.map g) rfl rfl
    rw [hol] at e5
    rw [List.length_map, hol] at e6
    subst e5 e6
    exact ⟨A5, c5, A6, c6, rfl, hk, hb⟩
set_option maxHeartbeats 16000000 in
theorem refdepths_any (l : List Ls) (A : Option Addr) (n c B : Nat) (w : World) (hS : RdSps w B A l) (hB : B ≤ w.heap.size) (hn : n = l.length) (hsm : n ≤ 500) :
    Calls Try.prog 18 #[.slice A n c] w fun e w' => ∃ (A' : Option Addr) (c' : Nat) (P : List Int) (M O : List Nat) (g : Nat → Nat) (D : List Nat), e = .returned (.slice A' n c') ∧ Sy.Fo l n P M O ∧ Sy.Dg P n g ∧ D.length = n ∧ (∀ x, x < n → D[x]? = some (g x)) ∧ w'.ownsRow w.heap.size 3 1 (.slice A' n c') n (D.map encN) ∧ Below w.heap.size w w' := by
  have PC := Lib.hid (refparents_any l A n c B w hS hB hn (by omega))
  have HS := Lib.hid hS
  have HB := Lib.hid hB
  have HN := Lib.hid hn
  have BC : Hid (∀ (w1 : World) (A1 : Option Addr) (c1 : Nat) (P : List Int), Sy.ParOf (namedM l) P → w1.ownsRow w.heap.size 3 1 (.slice A1 n c1) n (P.map encZ) → Below w.heap.size w w1 → ∃ M O g, (Sy.Fo l n P M O ∧ Sy.Dg P n g) ∧ Calls Try.prog 34 #[.slice A n c, .slice A1 n c1, .int .i64 (-1), .int .i64 0] w1 fun e w' => ∃ A5 c5 A6 c6, e = .returned (.tuple #[.slice A5 n c5, .slice A6 n c6]) ∧ KO w' w1.heap.size [.slice A5 n c5, .slice A6 n c6] [O, O.map g] ∧ Below w1.heap.size w1 w') := Lib.hid (fun w1 A1 c1 P hP ho1 hb1 => by
    obtain ⟨M, hM⟩ := Sy.bys_ex l
    have hF := Sy.fo_of HN.out hP hM
    obtain ⟨O, hO⟩ : ∃ O, O = Sy.ordM (kidsL P n M) n (M.filter fun i => parN P n i == n) := ⟨_, rfl⟩
    rw [← hO] at hF
    obtain ⟨g, hg⟩ := hF.dep
    refine ⟨M, O, g, ⟨hF, hg⟩, ?_⟩
    obtain ⟨A9, c9, e9, _, hrd⟩ := own_rd ho1
    injection e9 with e9 e10 e11
    subst e9
    exact refroot_any l A n c w1.heap.size P M O g A1 c1 w1 ((HS.out.below (hb1.mono HB.out)).more (Nat.le_trans HB.out hb1.size)) (Nat.le_refl _) hsm hF hg hrd)
  clear hS hB hn
  go_enter Try.func18, Try.ntmps18
  go_upto_region 2 with (first
    | (go_at_call 14; (with_reducible refine PC.out.mono ?_); rintro ex w1 ⟨A1, c1, P, rfl, hp1, ho1, hb1⟩; obtain ⟨M, O, g, hF, BC2⟩ := BC.out w1 A1 c1 P hp1 ho1 hb1; have HF := Lib.hid hF; have BC3 := Lib.hid BC2; have HB1 := Lib.hid hb1; clear BC2 hp1 ho1 hb1 hF)
    | (go_at_call 34; (with_reducible refine BC3.out.mono ?_); rintro ex w2 ⟨A5, c5, A6, c6, rfl, hk2, hb2⟩; have HK2 := Lib.hid hk2; have HB2 := Lib.hid hb2; clear hk2 hb2))
  clear PC BC BC3
  have HBW := Lib.hid (show Below w.heap.size w w2 from HB1.out.trans (HB2.out.mono HB1.out.size))
  obtain ⟨b2, hb2⟩ : ∃ b2, b2 = w2.heap.size := ⟨_, rfl⟩
  obtain ⟨Wa, hra, hoa, hba, hsa⟩ := make_intN n (by omega) w2
  have hoa2 : Wa.ownsRow b2 3 1 (.slice (some ⟨w2.heap.size, 0, none⟩) n n) n ((List.replicate n 0).map encN) := by
    have e : (List.replicate n (0 : Int)).map encZ = (List.replicate n 0).map encN := by rw [List.map_replicate, List.map_replicate]; rfl
    rw [← e, hb2]; exact hoa
  have HOA := Lib.hid hoa2
  have HBA := Lib.hid (show Below b2 w2 Wa from by rw [hb2]; exact hba)
  have HSB := Lib.hid (show ∀ W, Below b2 w2 W → b2 ≤ W.heap.size from fun W h => by have := h.size; omega)
  have HKQ := Lib.hid (show ∀ W, Below b2 w2 W → KO W w1.heap.size [.slice A5 n c5, .slice A6 n c6] [O, O.map g] from fun W h => HK2.out.below (by rw [← hb2]; exact h))
  have HBQ := Lib.hid (show ∀ W, Below b2 w2 W → Below w.heap.size w W from fun W h => HBW.out.trans (h.mono (by rw [hb2]; exact HBW.out.size)))
  have HBL := Lib.hid (show w.heap.size ≤ b2 from by rw [hb2]; exact HBW.out.size)
  clear hb2 hoa hoa2 hba hsa HK2 HBW HB1 HB2
  go_upto_region 4 with fail
  generalize w2.heap.size = ga at *
  clear hra
  go_loopw [6] (fun vi wq => ∃ (i : Nat) (D : List Nat), vi = .int .i64 (i : Int) ∧ Hid (i ≤ n) ∧ Hid (D.length = n ∧ ∀ j x : Nat, j < i → O[j]? = some x → D[x]? = some (g x)) ∧ Hid (wq.ownsRow b2 3 1 (.slice (some ⟨ga, 0, none⟩) n n) n (D.map encN)) ∧ Hid (Below b2 w2 wq)) (fun vi _ => n - (intOf vi).toNat)
  case atStart => exact ⟨0, _, rfl, Lib.hid (Nat.zero_le _), Lib.hid ⟨by simp, fun j x hj => by omega⟩, HOA, HBA⟩
  clear HOA HBA
  case round =>
    obtain ⟨i, D, rfl, HI, HD, HOA, HBA⟩ := hrel
    by_cases hlt : i < n
    · as_aux_lemma =>
      have d0 : decide ((i : Int) < (n : Int)) = true := decide_eq_true (by omega)
      have d1 : decide (i < n) = true := decide_eq_true hlt
      have i0 : (0 : Int) ≤ (i : Int) := by omega
      have i1 : (i : Int) < (n : Int) := by omega
      obtain ⟨i9, hi9⟩ : ∃ i9, i9 = i + 1 := ⟨_, rfl⟩
      have e1 : IntKind.i64.wrap ((i : Int) + 1) = (i9 : Int) := by rw [IntKind.wrap_i64] <;> omega
      obtain ⟨x, hx⟩ : ∃ x, O[i]? = some x := ⟨_, List.getElem?_eq_getElem (by rw [HF.out.1.olen]; exact hlt)⟩
      have hxn : x < n := (HF.out.1.mem x).1 (List.mem_of_getElem? hx)
      have ho5 := ((HKQ.out _ HBA.out).own 0 _ _ rfl rfl).2
      have ho6 := ((HKQ.out _ HBA.out).own 1 _ _ rfl rfl).2
      rw [HF.out.1.olen] at ho5
      rw [List.length_map, HF.out.1.olen] at ho6
      obtain ⟨g5, rfl, _, _, _, _, _, _⟩ := own_parts ho5 (by omega)
      obtain ⟨g6, rfl, _, _, _, _, _, _⟩ := own_parts ho6 (by omega)
      obtain ⟨y, hy⟩ : ∃ y, y = g x := ⟨_, rfl⟩
      obtain ⟨p0, _⟩ := own_atN ho5 hx
      obtain ⟨p1, _⟩ := own_atN ho6 (show (O.map g)[i]? = some y by rw [List.getElem?_map, hx, hy]; rfl)
      have i2 : (0 : Int) ≤ (x : Int) := by omega
      have i3 : (x : Int) < (n : Int) := by omega
      have hset := own_setN HOA.out hxn y
      have s := own_setq HOA.out (i := x) (by omega) (.int .i64 (y : Int))
      have hfz := s.1
      obtain ⟨u0, hu0⟩ := Option.isSome_iff_exists.1 (own_cells HOA.out x (by omega)).2.2
      have hb3 := s.2.2.2.below HBA.out (HSB.out _ HBA.out) (own_block_ge HOA.out)
      have HDN : Hid ((D.set x y).length = n ∧ ∀ j x' : Nat, j < i9 → O[j]? = some x' → (D.set x y)[x']? = some (g x')) := Lib.hid (by
        refine ⟨by rw [List.length_set]; exact HD.out.1, fun j x' hj hx' => ?_⟩
        by_cases e : x = x'
        · subst e
          rw [List.getElem?_set_self (by rw [HD.out.1]; exact hxn), hy]
        · rw [List.getElem?_set_ne e]
          rcases Nat.lt_or_ge j i with h | h
          · exact HD.out.2 j x' h hx'
          · rw [show j = i by omega, hx] at hx'
            exact absurd (by injection hx') e)
      have HO3 := Lib.hid hset
      have HB3 := Lib.hid hb3
      have HI9 := Lib.hid hi9
      have HLT := Lib.hid hlt
      have a5 : (⟨g5, 0, none⟩ : Addr).add i = ⟨g5, i, none⟩ := by rw [Addr.add_lit, Nat.zero_add]
      clear hi9 hlt hx hxn ho5 ho6 hy hset s hb3
      go_upto_region 6 with fail
      go_region
      go_wp2_with fail
      go_roundw
      case rel => exact ⟨i9, _, by first | rfl | go_num, Lib.hid (by have := HLT.out; have := HI9.out; omega), HDN, Lib.hid (own_drewY HO3.out), Lib.hid (HB3.out.trans ⟨rfl, rfl, rfl, Nat.le_refl _, fun _ _ => rfl⟩)⟩
      case measure => have := HLT.out; have := HI9.out; simp [intOf]; omega
    · as_aux_lemma =>
      obtain rfl : n = i := by have := HI.out; omega
      have d0 : decide ((n : Int) < (n : Int)) = false := decide_eq_false (by omega)
      have d1 : decide (n < n) = false := decide_eq_false (by omega)
      clear hlt
      go_wp2_with fail
      go_ret
      refine ⟨some ⟨ga, 0, none⟩, n, P, M, O, g, D, rfl, HF.out.1, HF.out.2, HD.out.1, fun x hx => ?_, own_mono HOA.out HBL.out, HBQ.out _ HBA.out⟩
      obtain ⟨j, hj⟩ := List.getElem?_of_mem ((HF.out.1.mem x).2 hx)
      exact HD.out.2 j x (by have := (List.getElem?_eq_some_iff.1 hj).1; rw [HF.out.1.olen] at this; exact this) hj
set_option maxHeartbeats 16000000 in
theorem refsizes_any (l : List Ls) (A : Option Addr) (n c B : Nat) (w : World) (hS : RdSps w B A l) (hB : B ≤ w.heap.size) (hn : n = l.length) (hsm : n ≤ 500) :
    Calls Try.prog 20 #[.slice A n c] w fun e w' => ∃ (A' : Option Addr) (c' : Nat) (P : List Int) (M O Z : List Nat), e = .returned (.slice A' n c') ∧ Sy.Fo l n P M O ∧ Z.length = n ∧ (∀ x, x < n → ∃ Bx, Sy.Run (fun x => M.filter fun q => parN P n q == x) (M.filter fun q => parN P n q == x) Bx ∧ Z[x]? = some (Bx.length + 1)) ∧ w'.ownsRow w.heap.size 3 1 (.slice A' n c') n (Z.map encN) ∧ Below w.heap.size w w' := by
  have PC := Lib.hid (refparents_any l A n c B w hS hB hn (by omega))
  have HS := Lib.hid hS
  have HB := Lib.hid hB
  have HN := Lib.hid hn
  clear hS hB hn
  go_enter Try.func20, Try.ntmps20
  go_upto_region 2 with (go_at_call 14; (with_reducible refine PC.out.mono ?_); rintro ex w1 ⟨A1, c1, P, rfl, hp1, ho1, hb1⟩; have HP1 := Lib.hid hp1; have HO1 := Lib.hid ho1; have HB1 := Lib.hid hb1; clear hp1 ho1 hb1)
  clear PC
  obtain ⟨M, hM⟩ := Sy.bys_ex l
  have hF := Sy.fo_of HN.out HP1.out hM
  obtain ⟨O, hO⟩ : ∃ O, O = Sy.ordM (kidsL P n M) n (M.filter fun i => parN P n i == n) := ⟨_, rfl⟩
  rw [← hO] at hF
  obtain ⟨g, hg⟩ := hF.dep
  have HF := Lib.hid hF
  have HG := Lib.hid hg
  clear hM hF hO hg HP1
  obtain ⟨b1, hb1⟩ : ∃ b1, b1 = w1.heap.size := ⟨_, rfl⟩
  have HBC := Lib.hid (show ∀ (W : World) (x : Nat), Below b1 w1 W → x < n → ∃ Bx, Sy.Run (fun x => M.filter fun q => parN P n q == x) (M.filter fun q => parN P n q == x) Bx ∧ Bx.length < n ∧ Hid (Calls Try.prog 34 #[.slice A n c, .slice A1 n c1, .int .i64 (x : Int), .int .i64 0] W fun e w' => ∃ A5 c5 A6 c6 n5 n6, e = .returned (.tuple #[.slice A5 n5 c5, .slice A6 n6 c6]) ∧ Hid (n5 = Bx.length + 1) ∧ Below W.heap.size W w') from fun W x hW hx => by
    obtain ⟨Bx, hB, hBl, hBn⟩ := HF.out.sub hx
    refine ⟨Bx, hB, hBl, Lib.hid ?_⟩
    have hof : Sy.ofZ n (x : Int) = x := by unfold Sy.ofZ; rw [if_neg (by omega)]; rfl
    have hhd : hdZ (x : Int) = [x] := by unfold hdZ; rw [if_neg (by omega)]; rfl
    obtain ⟨A9, c9, e9, _, hrd⟩ := own_rd HO1.out
    injection e9 with e9 e10 e11
    subst e9
    have hall : ∀ a ∈ x :: Bx, a < n := fun a ha => by
      rcases List.mem_cons.1 ha with e | e
      · rw [e]; exact hx
      · exact hBn a e
    have hge : ∀ a ∈ x :: Bx, g x ≤ g a := fun a ha => by
      have hr : Sy.Run (fun x => M.filter fun q => parN P n q == x) [x] (x :: Bx) := .cons (by rw [List.append_nil]; exact hB)
      exact hr.ge (c := g x) (fun s hs => by rw [List.mem_singleton] at hs; rw [hs]; exact Nat.le_refl _) (fun a ha y hy => HG.out.down HF.out.all (hall a ha) hy) a ha
    refine (refbelow_any l A n c w1.heap.size P A1 c1 M O HF.out (fun y => g y - g x) (fun y => by have := HG.out.le y; omega) (by omega) Bx.length (x : Int) Bx 0 W ((HS.out.below ((HB1.out.mono HB.out).trans (hW.mono (by have := HB1.out.size; have := HB.out; omega)))).more (Nat.le_trans HB.out HB1.out.size)) (hrd.below (by rw [← hb1]; exact hW)) hW.size (.inr ⟨by omega, by omega⟩) (by rw [hof]; exact hB) (Nat.le_refl _) (by omega) (by omega) (fun h => by omega) (fun _ => by rw [show ((x : Int)).toNat = x from rfl]; omega) (fun a ha y hy => ?_)).mono ?_
    · rw [hhd] at ha
      have ha2 : a ∈ x :: Bx := ha
      have h1 := HG.out.down HF.out.all (hall a ha2) hy
      have h2 := hge a ha2
      omega
    · rintro ex w' ⟨v1, v2, rfl, hk, hb⟩
      rw [hhd] at hk
      obtain ⟨⟨A5, c5, e5⟩, _⟩ := hk.own 0 v1 _ rfl rfl
      obtain ⟨⟨A6, c6, e6⟩, _⟩ := hk.own 1 v2 _ rfl rfl
      subst e5 e6
      exact ⟨A5, c5, A6, c6, _, _, rfl, Lib.hid (by simp), hb⟩)
  obtain ⟨Wa, hra, hoa, hba, hsa⟩ := make_intN n (by omega) w1
  have hoa2 : Wa.ownsRow b1 3 1 (.slice (some ⟨w1.heap.size, 0, none⟩) n n) n ((List.replicate n 0).map encN) := by
    have e : (List.replicate n (0 : Int)).map encZ = (List.replicate n 0).map encN := by rw [List.map_replicate, List.map_replicate]; rfl
    rw [← e, hb1]; exact hoa
  have HOA := Lib.hid hoa2
  have HBA := Lib.hid (show Below b1 w1 Wa from by rw [hb1]; exact hba)
  have HSB := Lib.hid (show ∀ W, Below b1 w1 W → b1 ≤ W.heap.size from fun W h => by have := h.size; omega)
  have HBQ := Lib.hid (show ∀ W, Below b1 w1 W → Below w.heap.size w W from fun W h => HB1.out.trans (h.mono (by rw [hb1]; exact HB1.out.size)))
  have HBL := Lib.hid (show w.heap.size ≤ b1 from by rw [hb1]; exact HB1.out.size)
  clear hb1 hoa hoa2 hba hsa HB1 HO1
  go_upto_region 4 with fail
  generalize w1.heap.size = ga at *
  clear hra
  go_loopw [5] (fun vi wq => ∃ (i : Nat) (Z : List Nat), vi = .int .i64 (i : Int) ∧ Hid (i ≤ n) ∧ Hid (Z.length = n ∧ ∀ x, x < i → ∃ Bx, Sy.Run (fun x => M.filter fun q => parN P n q == x) (M.filter fun q => parN P n q == x) Bx ∧ Z[x]? = some (Bx.length + 1)) ∧ Hid (wq.ownsRow b1 3 1 (.slice (some ⟨ga, 0, none⟩) n n) n (Z.map encN)) ∧ Hid (Below b1 w1 wq)) (fun vi _ => n - (intOf vi).toNat)
  case atStart => exact ⟨0, _, rfl, Lib.hid (Nat.zero_le _), Lib.hid ⟨by simp, fun j hj => by omega⟩, HOA, HBA⟩
  clear HOA HBA
  case round =>
    obtain ⟨i, Z, rfl, HI, HZ, HOA, HBA⟩ := hrel
    by_cases hlt : i < n
    · as_aux_lemma =>
      have d0 : decide ((i : Int) < (n : Int)) = true := decide_eq_true (by omega)
      have d1 : decide (i < n) = true := decide_eq_true hlt
      have i0 : (0 : Int) ≤ (i : Int) := by omega
      have i1 : (i : Int) < (n : Int) := by omega
      obtain ⟨i9, hi9⟩ : ∃ i9, i9 = i + 1 := ⟨_, rfl⟩
      have e1 : IntKind.i64.wrap ((i : Int) + 1) = (i9 : Int) := by rw [IntKind.wrap_i64] <;> omega
      obtain ⟨Bx, hRun, hBl, BC⟩ := HBC.out wr i HBA.out hlt
      have HRUN := Lib.hid hRun
      have HBLN := Lib.hid hBl
      have HI9 := Lib.hid hi9
      have HLT := Lib.hid hlt
      clear hi9 hlt hRun hBl
      go_upto_region 7 with (go_at_call 34; (with_reducible refine BC.out.mono ?_); rintro ex w5 ⟨A5, c5, A6, c6, n5, n6, rfl, hn5, hb5⟩; have HB5 := Lib.hid hb5; have HN5 := hn5; clear hb5 hn5)
      clear BC
      have HO5 := Lib.hid (own_below HOA.out HB5.out)
      have HB6 := Lib.hid (HBA.out.trans (HB5.out.mono (HSB.out _ HBA.out)))
      have hset := own_setN HO5.out HLT.out n5
      have s := own_setq HO5.out (i := i) (by have := HLT.out; omega) (.int .i64 (n5 : Int))
      have hfz := s.1
      obtain ⟨u0, hu0⟩ := Option.isSome_iff_exists.1 (own_cells HO5.out i (by have := HLT.out; omega)).2.2
      have hb3 := s.2.2.2.below HB6.out (HSB.out _ HB6.out) (own_block_ge HO5.out)
      have HZN : Hid ((Z.set i n5).length = n ∧ ∀ x, x < i9 → ∃ Bx, Sy.Run (fun x => M.filter fun q => parN P n q == x) (M.filter fun q => parN P n q == x) Bx ∧ (Z.set i n5)[x]? = some (Bx.length + 1)) := Lib.hid (by
        refine ⟨by rw [List.length_set]; exact HZ.out.1, fun x hx => ?_⟩
        by_cases e : i = x
        · subst e
          exact ⟨Bx, HRUN.out, by rw [List.getElem?_set_self (by rw [HZ.out.1]; exact HLT.out), HN5.out]⟩
        · rw [List.getElem?_set_ne e]
          exact HZ.out.2 x (by have := HI9.out; omega))
      have HO3 := Lib.hid hset
      have HB3 := Lib.hid hb3
      clear hset s hb3
      go_wp2_with fail
      go_roundw
      case rel => exact ⟨i9, _, by first | rfl | go_num, Lib.hid (by have := HLT.out; have := HI9.out; omega), HZN, HO3, HB3⟩
      case measure => have := HLT.out; have := HI9.out; simp [intOf]; omega
    · as_aux_lemma =>
      obtain rfl : n = i := by have := HI.out; omega
      have d0 : decide ((n : Int) < (n : Int)) = false := decide_eq_false (by omega)
      have d1 : decide (n < n) = false := decide_eq_false (by omega)
      clear hlt
      go_wp2_with fail
      go_ret
      exact ⟨some ⟨ga, 0, none⟩, n, P, M, O, Z, rfl, HF.out, HZ.out.1, HZ.out.2, own_mono HOA.out HBL.out, HBQ.out _ HBA.out⟩
end Go.Proofs.Ytgldjjmpjaegfaa
