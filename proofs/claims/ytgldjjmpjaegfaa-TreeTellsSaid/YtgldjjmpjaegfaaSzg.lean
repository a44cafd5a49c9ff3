/- The document's kids, walked. -/
import Derived.Test.YtgldjjmpjaegfaaSzf
import Derived.Test.YtgldjjmpjaegfaaSze
import Derived.Test.YtgldjjmpjaegfaaBs
namespace Go.Proofs.Ytgldjjmpjaegfaa
open Go.RowKit Go.Maps
set_option linter.unusedVariables false
set_option linter.unusedSimpArgs false
set_option maxRecDepth 100000

theorem PI.ToldG.doneI {ops : Array Oper} {a0 : Act} {R : World → World → Prop} {G : Nat → World → Prop} {FF : Nat → Value → World → Prop} {nd : List (Nat × Nat)} {I : (Nat → Bool) → Act → World → Prop} {L : Nat → Bool} {i : Nat} {o : Oper} {a : Act} {w : World} (T : PI.ToldG ops a0 R G FF nd I L i o a w) (j : Nat) (h : (o.after.any fun e => Region.binds .any e && e.on == j) = true) : L j = true := by
  obtain ⟨e, he, hb, rfl⟩ := PI.after_of h
  exact T.done e he hb
theorem GOESI {N : Nat} : PI.Goes (fun a b => Below N a b) := ⟨fun w => Below.refl _ w, fun _ _ _ h q => h.trans q⟩
def InF (A' A3 : Option Addr) (n c p N e : Nat) (L : List Nat) : Nat → Value → World → Prop
  | 0, u, _ => u = .slice A' n c
  | 1, u, _ => u = .int .i64 (p : Int)
  | 2, u, _ => u = .slice A' p c
  | 3, u, w => w.ownsRow N 3 1 u (p) ((L.take p).map encN)
  | 4, u, _ => u = .int .i64 (e : Int)
  | 5, u, w => w.ownsRow N 3 1 u (1) (([e]).map encN)
  | 6, u, w => w.ownsRow N 3 1 u (p + 1) ((L.take p ++ [e]).map encN)
  | 7, u, _ => u = .slice A' n c
  | 8, u, _ => u = .int .i64 (p : Int)
  | 9, u, _ => u = .slice A3 (n - p) (c - p)
  | 10, u, w => w.ownsRow N 3 1 u (n + 1) ((L.take p ++ [e] ++ L.drop p).map encN)
  | 11, u, w => w.ownsRow N 3 1 u (n + 1) ((L.take p ++ [e] ++ L.drop p).map encN)
  | _, _, _ => True
theorem InF.keep {A' A3 : Option Addr} {n c p N e : Nat} {L : List Nat} {i : Nat} {u : Value} {w w' : World} (h : InF A' A3 n c p N e L i u w) (hr : ∀ m xs, w.ownsRow N 3 1 u m xs → w'.ownsRow N 3 1 u m xs) : InF A' A3 n c p N e L i u w' := by
  match i, h with
  | 0, h => exact h
  | 1, h => exact h
  | 2, h => exact h
  | 3, h => exact hr _ _ h
  | 4, h => exact h
  | 5, h => exact hr _ _ h
  | 6, h => exact hr _ _ h
  | 7, h => exact h
  | 8, h => exact h
  | 9, h => exact h
  | 10, h => exact hr _ _ h
  | 11, h => exact hr _ _ h
  | _ + 12, h => trivial
theorem InF.other {A' A3 : Option Addr} {n c p N e : Nat} {L : List Nat} {i : Nat} {u : Value} {w w' : World} (h : InF A' A3 n c p N e L i u w) (hi : ¬ (i = 3 ∨ i = 5 ∨ i = 6 ∨ i = 10 ∨ i = 11)) : InF A' A3 n c p N e L i u w' := by
  match i, h, hi with
  | 0, h, hi => exact h
  | 1, h, hi => exact h
  | 2, h, hi => exact h
  | 3, h, hi => exact absurd (by decide) hi
  | 4, h, hi => exact h
  | 5, h, hi => exact absurd (by decide) hi
  | 6, h, hi => exact absurd (by decide) hi
  | 7, h, hi => exact h
  | 8, h, hi => exact h
  | 9, h, hi => exact h
  | 10, h, hi => exact absurd (by decide) hi
  | 11, h, hi => exact absurd (by decide) hi
  | _ + 12, h, hi => trivial
theorem rdN_take {w : World} {B : Nat} {A : Option Addr} {L : List Nat} {j : Nat} (hr : Rd w B A (L.map encN)) : Rd w B A ((L.take j).map encN) := fun h0 => by
  rw [List.length_map, List.length_take] at h0
  obtain ⟨a, h1, h2, h3⟩ := hr (by rw [List.length_map]; omega)
  refine ⟨a, h1, h2, fun i u hu => h3 i u ?_⟩
  rw [List.map_take, List.getElem?_take] at hu
  split at hu
  · exact hu
  · cases hu
theorem rdN_drop {w : World} {B : Nat} {a : Addr} {L : List Nat} {j : Nat} (hj : j ≤ L.length) (hr : Rd w B (some a) (L.map encN)) : Rd w B (some (a.add j)) ((L.drop j).map encN) := fun h0 => by
  rw [List.length_map, List.length_drop] at h0
  obtain ⟨a', h1, h2, h3⟩ := hr (by rw [List.length_map]; omega)
  injection h1 with h1
  subst h1
  refine ⟨_, rfl, by unfold Addr.add; split <;> exact h2, fun i u hu => ?_⟩
  rw [List.map_drop, List.getElem?_drop] at hu
  have h4 := h3 (j + i) u hu
  rw [add_add]
  exact h4

set_option maxHeartbeats 16000000 in
theorem refkids_any (l : List Ls) (A : Option Addr) (sn sc B : Nat) (P : List Int) (pA : Option Addr) (pc : Nat) (z : Int) (w : World) (hS : RdSps w B A l) (hP : Rd w B pA (P.map encZ)) (hB : B ≤ w.heap.size) (hn : sn = l.length) (hpl : P.length = sn) (hsm : sn ≤ 1000) :
    Calls Try.prog 39 #[.slice A sn sc, .slice pA sn pc, .int .i64 z] w fun e w' => ∃ A' c' K, e = .returned (.slice A' K.length c') ∧ Sy.KidS (stS l) P z sn K ∧ w'.ownsRow w.heap.size 3 1 (.slice A' K.length c') K.length (K.map encN) ∧ Below w.heap.size w w' := by
  have HN := Lib.hid hn
  have HPL := Lib.hid hpl
  obtain ⟨b0, hb0⟩ : ∃ b0, b0 = w.heap.size := ⟨_, rfl⟩
  have HSQ := Lib.hid (show ∀ W, Below b0 w W → RdSps W B A l from fun W h => hS.below (h.mono (by rw [hb0]; exact hB)))
  have HPQ := Lib.hid (show ∀ W, Below b0 w W → Rd W B pA (P.map encZ) from fun W h => hP.below (h.mono (by rw [hb0]; exact hB)))
  have HSB := Lib.hid (show ∀ W, Below b0 w W → b0 ≤ W.heap.size from fun W h => by have := h.size; omega)
  rw [← hb0]
  clear hS hP hB hn hpl hb0
  go_enter Try.func39, Try.ntmps39
  go_upto_region 3 with fail
  go_loopw [7, 8] (fun vo vi wq => ∃ (i n c : Nat) (A' : Option Addr) (L : List Nat), vi = .int .i64 (i : Int) ∧ vo = .slice A' n c ∧ Hid (i ≤ sn) ∧ Hid (L.length = n) ∧ Hid (Sy.KidS (stS l) P z i L) ∧ Hid (wq.ownsRow b0 3 1 (.slice A' n c) n (L.map encN)) ∧ Hid (Below b0 w wq)) (fun _ vi _ => sn - (intOf vi).toNat)
  case atStart => exact ⟨0, 0, 0, none, [], rfl, rfl, Lib.hid (Nat.zero_le _), Lib.hid rfl, Lib.hid (Sy.KidS.start _ _ _), Lib.hid (World.ownsRow_nil _ _ _ _), Lib.hid (Below.refl _ _)⟩
  case round =>
    obtain ⟨e, n, c, A', L, rfl, rfl, HI, HL, HK, HROW, HB⟩ := hrel
    by_cases hlt : e < sn
    · have d0 : decide ((e : Int) < (sn : Int)) = true := decide_eq_true (by omega)
      have d1 : decide (e < sn) = true := decide_eq_true hlt
      have i0 : (0 : Int) ≤ (e : Int) := by omega
      have i1 : (e : Int) < (sn : Int) := by omega
      obtain ⟨e9, he9⟩ : ∃ e9, e9 = e + 1 := ⟨_, rfl⟩
      have e1 : IntKind.i64.wrap ((e : Int) + 1) = (e9 : Int) := by rw [IntKind.wrap_i64] <;> omega
      obtain ⟨y, hy⟩ : ∃ y, P[e]? = some y := ⟨_, List.getElem?_eq_getElem (by rw [HPL.out]; exact hlt)⟩
      obtain ⟨ap, hap, hapb, hpc⟩ := (HPQ.out _ HB.out) (by rw [List.length_map, HPL.out]; omega)
      subst hap
      have xp : wr.cell? (ap.add e) = some (.int .i64 y) := hpc e _ (by rw [List.getElem?_map, hy]; rfl)
      have HE9 := Lib.hid he9
      have HLT := Lib.hid hlt
      by_cases hyz : y = z
      · subst hyz
        have HPE := Lib.hid hy
        clear he9 hlt hy hpc hapb
        go_upto_region 7 with fail
        clear d0 d1 xp
        generalize wr = wz at *
        go_loopw [9] (fun vk wq => ∃ (k : Nat), vk = .int .i64 (k : Int) ∧ Hid (k ≤ n) ∧ Hid (∀ j x, k ≤ j → L[j]? = some x → stS l e < stS l x) ∧ Hid (Below wz.heap.size wz wq)) (fun vk _ => (intOf vk).toNat)
        case atStart => exact ⟨n, rfl, Lib.hid (Nat.le_refl _), Lib.hid (fun j x hj hx => by have := (List.getElem?_eq_some_iff.1 hx).1; have := HL.out; omega), Lib.hid (Below.refl _ _)⟩
        case round =>
          obtain ⟨p, rfl, HKN, HUP, HBQ⟩ := hrel
          have HB2 := Lib.hid (HB.out.trans (HBQ.out.mono (HSB.out _ HB.out)))
          have HROW2 := Lib.hid (own_below HROW.out HBQ.out)
          have hex : ∃ x, l[e]? = some x := ⟨_, List.getElem?_eq_getElem (by rw [← HN.out]; exact HLT.out)⟩
          obtain ⟨xe, hxe⟩ := hex
          have hse := stS_at hxe
          rcases (show p = 0 ∨ (0 < p ∧ ∃ x, L[p - 1]? = some x) from by
            rcases Nat.eq_zero_or_pos p with h | h
            · exact .inl h
            · exact .inr ⟨h, _, List.getElem?_eq_getElem (by have := HKN.out; have := HL.out; omega)⟩) with hp | ⟨hp, x, hx⟩
          · as_aux_lemma =>
            have HK2 := Lib.hid (HK.out.ins HPE.out (by omega) HUP.out (.inl hp))
            have HPN : Hid (p ≤ n) := Lib.hid (by omega)
            have d2 : decide ((0 : Int) < (p : Int)) = false := decide_eq_false (by omega)
            have d3 : decide (0 < p) = false := decide_eq_false (by omega)
            clear hxe hse hp
            go_upto_region 7 with fail
            refine wp_region_quiet_lex (by kernel_rfl) (by kernel_rfl) ?_
            repeat (go_big_quiet_step (fail))
            refine wpQuiet_nil ?_
            intro _ hw'
            obtain ⟨nq, hw''⟩ := hw'
            subst hw''
            go_upto_region 9 with fail
            obtain ⟨W0, hW0⟩ : ∃ W0, W0 = wr.drewN nq := ⟨_, rfl⟩
            have HROW3 : Hid (W0.ownsRow b0 3 1 (.slice A' n c) n (L.map encN)) := Lib.hid (by rw [hW0]; exact HROW2.out)
            have HB3 : Hid (Below b0 w W0) := Lib.hid (by rw [hW0]; exact HB2.out.trans ⟨rfl, rfl, rfl, Nat.le_refl _, fun _ _ => rfl⟩)
            have HLN : Hid (L.length = n ∧ p ≤ n ∧ n ≤ 100000) := Lib.hid (by have := HPN.out; have := HK.out.len; have := HL.out; have := HLT.out; omega)
            have HCAP : Hid (n ≤ c ∧ c ≤ maxLen) := Lib.hid (own_capq HROW3.out)
            rw [← hW0]
            clear hW0 HROW2 HROW HB2 HB HBQ HKN
            have HROW := HROW3
            clear HROW3
            obtain ⟨W, hW⟩ : ∃ W, W = W0.drew := ⟨_, rfl⟩
            obtain ⟨N, hN⟩ : ∃ N, N = W.heap.size := ⟨_, rfl⟩
            have hNW : N = W0.heap.size := by rw [hN, hW]; rfl
            obtain ⟨A3, hA3⟩ : ∃ A3 : Option Addr, A3 = (if c = p then A' else A'.map (·.add p)) := ⟨_, rfl⟩
            have HRD : Hid (∀ w3, Below N W w3 → Rd w3 N A' ((L.take p).map encN) ∧ Rd w3 N A3 ((L.drop p).map encN)) := Lib.hid (fun w3 hW3 => by
              obtain ⟨A4, c4, e4, _, hr4⟩ := own_rd HROW.out
              injection e4 with e4
              subst e4
              have h5 : Rd W0.drew N A' (L.map encN) := by rw [hNW]; exact hr4.below ⟨rfl, rfl, rfl, Nat.le_refl _, fun _ _ => rfl⟩
              have h4 : Rd w3 N A' (L.map encN) := by rw [← hW] at h5; exact h5.below hW3
              refine ⟨rdN_take h4, ?_⟩
              rw [hA3]
              by_cases hc : c = p
              · rw [if_pos hc, List.drop_of_length_le (by have := HLN.out; have := HCAP.out; omega)]
                exact Rd.nil
              · rw [if_neg hc]
                rcases hAA : A' with _ | a
                · have hz := HROW.out.2
                  rw [hAA] at hz
                  rcases hz with ⟨h0, _⟩ | ⟨_, _, _, h0, _⟩
                  · injection h0 with _ h1 h2; have := HLN.out; omega
                  · injection h0 with h0; cases h0
                · rw [hAA] at h4
                  exact rdN_drop (by have := HLN.out; omega) h4)
            have HA3 := Lib.hid hA3
            have HWW := Lib.hid hW
            have HNN := Lib.hid hN
            have HNW := Lib.hid hNW
            have p0 : (p : Int) ≤ (n : Int) := by have := HLN.out; omega
            have p1 : p ≤ n := HLN.out.2.1
            have p2 : n ≤ c := HCAP.out.1
            have p3 : (0 : Int) ≤ (p : Int) := by omega
            have p4 : (p : Int) ≤ (c : Int) := by omega
            have p5 : (n : Int) ≤ (c : Int) := by omega
            have p6 : p ≤ c := by omega
            clear hA3 hN hW hNW
            refine PI.wp_region_persG (R := fun a b => Below N a b) (G := fun _ _ => True) (I := PI.RI [(3, 48), (5, 50), (6, 51), (10, 55)] [(6, 3), (3, 6), (10, 6), (6, 10), (10, 3), (3, 10)]) [(2, 0), (2, 1), (3, 2), (5, 4), (6, 3), (6, 5), (9, 7), (9, 8), (10, 6), (10, 9), (11, 10)] [11] (by kernel_rfl) (PI.formed_of (by kernel_rfl)) GOESI (fun _ => trivial) (InF A' A3 n c p N e L) (PI.RI.start (n := 57) (by decide) rfl) ?_ ?_
            · rw [← HWW.out]
              intro i o ho
              rcases i with _ | _ | _ | _ | _ | _ | _ | _ | _ | _ | _ | _ | i
              · obtain rfl := Option.some.inj (show some _ = some o from ho)
                refine PI.shown_val rfl fun a w3 L0 hr T => ?_
                have h1 : a.eval (.tmp 7) = .slice A' n c := T.was 7 (by kernel_rfl)
                exact ⟨.slice A' n c, w3, by simp only [execOp, h1]; simp [go_sem], PI.Post.pure GOESI rfl (PI.RI.pure T.inv _ (by decide) (Nat.le_refl _))⟩
              · obtain rfl := Option.some.inj (show some _ = some o from ho)
                refine PI.shown_val rfl fun a w3 L0 hr T => ?_
                have h1 : a.eval (.tmp 9) = .int .i64 (p : Int) := T.was 9 (by kernel_rfl)
                exact ⟨.int .i64 (p : Int), w3, by simp only [execOp, h1]; simp [go_sem], PI.Post.pure GOESI rfl (PI.RI.pure T.inv _ (by decide) (Nat.le_refl _))⟩
              · obtain rfl := Option.some.inj (show some _ = some o from ho)
                refine PI.shown_val rfl fun a w3 L0 hr T => ?_
                have h1 : a.eval (.tmp 45) = .slice A' n c := T.at_ 0 45 (by kernel_rfl) (by kernel_rfl) (by kernel_rfl)
                have h2 : a.eval (.tmp 46) = .int .i64 (p : Int) := T.at_ 1 46 (by kernel_rfl) (by kernel_rfl) (by kernel_rfl)
                exact ⟨.slice A' p c, w3, by simp only [execOp, h1, h2, Option.map]; rcases A' with _ | a' <;> simp [go_sem, p0, p1, p2, p3, p4, p5, p6], PI.Post.pure GOESI rfl (PI.RI.pure T.inv _ (by decide) (Nat.le_refl _))⟩
              · obtain rfl := Option.some.inj (show some _ = some o from ho)
                refine PI.shown_val rfl fun a w3 L0 hr T => ?_
                have h1 : a.eval (.tmp 47) = .slice A' p c := T.at_ 2 47 (by kernel_rfl) (by kernel_rfl) (by kernel_rfl)
                have h0 : a.eval (.const (.slice none 0 0)) = .slice none 0 0 := rfl
                have hsz : N ≤ w3.heap.size := by rw [HNN.out]; exact hr.size
                obtain ⟨v4, w4, e4, ho4, hg4⟩ := appIs (ty := 26) (c := c) (base := w3.heap.size) (n := 0) (xs := []) (World.ownsRow_nil w3 _ 3 1) (L := L.take p) ((HRD.out w3 hr).1) (m := p) (by rw [List.length_take]; have := HLN.out; omega) (by have := HLN.out; omega) (Nat.le_refl _)
                rw [Nat.zero_add, List.nil_append] at ho4
                have hb4 := hg4.new
                exact ⟨v4, w4, by simp only [execOp, resolve, invoke, builtin, Sem.run_bind, Sem.run_pure, Result.andThen_ok, List.map_toArray, List.map_cons, List.map_nil, h0, h1, e4], hb4.mono hsz, own_mono ho4 hsz, fun _ _ h => h, fun j v _ _ _ _ h => h.keep (fun m xs ho => own_below ho hb4), PI.RI.row T.inv (by decide) (by decide) [] (by decide) (by decide) (fun j hj => by cases hj) hb4.size (fun b hvb => ⟨own_block_lt ho4 b hvb, .inl (own_block_ge ho4 b hvb)⟩)⟩
              · obtain rfl := Option.some.inj (show some _ = some o from ho)
                refine PI.shown_val rfl fun a w3 L0 hr T => ?_
                have h1 : a.eval (.tmp 8) = .int .i64 (e : Int) := T.was 8 (by kernel_rfl)
                exact ⟨.int .i64 (e : Int), w3, by simp only [execOp, h1]; simp [go_sem], PI.Post.pure GOESI rfl (PI.RI.pure T.inv _ (by decide) (Nat.le_refl _))⟩
              · obtain rfl := Option.some.inj (show some _ = some o from ho)
                refine PI.shown_val rfl fun a w3 L0 hr T => ?_
                have h1 : a.eval (.tmp 49) = .int .i64 (e : Int) := T.at_ 4 49 (by kernel_rfl) (by kernel_rfl) (by kernel_rfl)
                have hsz : N ≤ w3.heap.size := by rw [HNN.out]; exact hr.size
                have ho4 : (w3.alloc (.cells #[.int .i64 (e : Int)] 3)).ownsRow N 3 1 (.slice (some ⟨w3.heap.size, 0, none⟩) 1 1) 1 (([e] : List Nat).map encN) := World.ownsRow_lit (base := N) (e := 3) (size := 1) w3 #[.int .i64 (e : Int)] 1 hsz (by decide) rfl
                have hb4 := (Below.refl w3.heap.size w3).alloc (Nat.le_refl _) (.cells #[.int .i64 (e : Int)] 3)
                have h1b := h1
                simp only [Act.eval, Array.getD_eq_getD_getElem?] at h1b
                exact ⟨.slice (some ⟨w3.heap.size, 0, none⟩) 1 1, _, by (simp only [execOp]; first | (simp [go_sem, h1b]; done) | (simp [go_sem, h1b]; rfl)), hb4.mono hsz, ho4, fun _ _ h => h, fun j v _ _ _ _ h => h.keep (fun m xs ho => own_below ho hb4), PI.RI.row T.inv (by decide) (by decide) [] (by decide) (by decide) (fun j hj => by cases hj) hb4.size (fun b hvb => ⟨own_block_lt ho4 b hvb, .inl (by injection hvb with hvb; rw [← hvb]; exact Nat.le_refl _)⟩)⟩
              · obtain rfl := Option.some.inj (show some _ = some o from ho)
                refine PI.shown_val rfl fun a w3 L0 hr T => ?_
                have h1 : w3.ownsRow N 3 1 (a.eval (.tmp 48)) (p) ((L.take p).map encN) := T.at_ 3 48 (by kernel_rfl) (by kernel_rfl) (by kernel_rfl)
                have h2 : w3.ownsRow N 3 1 (a.eval (.tmp 50)) (1) (([e]).map encN) := T.at_ 5 50 (by kernel_rfl) (by kernel_rfl) (by kernel_rfl)
                have hsz : N ≤ w3.heap.size := by rw [HNN.out]; exact hr.size
                obtain ⟨A5, c5, hv5, _, hrd5⟩ := own_rd h2
                obtain ⟨v4, w4, e4, ho4, hg4⟩ := appIs (ty := 26) (c := c5) h1 (L := [e]) hrd5 (m := 1) rfl (by have := HLN.out; omega) hsz
                rw [← List.map_append] at ho4
                have HI := T.inv
                have hge := own_block_ge h1
                have hL : L0 3 = true := T.doneI 3 (by kernel_rfl)
                refine ⟨v4, w4, by simp only [execOp, resolve, invoke, builtin, Sem.run_bind, Sem.run_pure, Result.andThen_ok, List.map_toArray, List.map_cons, List.map_nil, hv5, e4], hg4.below (Below.refl _ _) hsz hge, ho4, fun _ _ h => h, fun j v hj hLj hnd hvj h => ?_, PI.RI.row HI (by decide) (by decide) [(3, 48)] (by decide) (by decide) (fun j hj => by rw [List.mem_singleton] at hj; subst hj; exact hL) hg4.grown.size (fun b hvb => ⟨own_block_lt ho4 b hvb, by
                  rcases hg4.blk with hk | ⟨g, hk, hk2⟩
                  · exact .inr ⟨_, List.mem_singleton.2 rfl, by rw [← hvb, hk]; rfl⟩
                  · rw [hk] at hvb; injection hvb with hvb; exact .inl (by omega)⟩)⟩
                by_cases hjr : j = 3 ∨ j = 5 ∨ j = 6 ∨ j = 10 ∨ j = 11
                · rcases hjr with rfl | rfl | rfl | rfl | rfl
                  · simp [PI.needB] at hnd
                  · simp [PI.needB] at hnd
                  · exact absurd rfl hj
                  · exact absurd (T.shut_ 10 6 (by kernel_rfl) hLj) (by rw [T.yetNot]; decide)
                  · exact absurd (T.shut_ 11 6 (by kernel_rfl) hLj) (by rw [T.yetNot]; decide)
                · exact InF.other h hjr
              · obtain rfl := Option.some.inj (show some _ = some o from ho)
                refine PI.shown_val rfl fun a w3 L0 hr T => ?_
                have h1 : a.eval (.tmp 7) = .slice A' n c := T.was 7 (by kernel_rfl)
                exact ⟨.slice A' n c, w3, by simp only [execOp, h1]; simp [go_sem], PI.Post.pure GOESI rfl (PI.RI.pure T.inv _ (by decide) (Nat.le_refl _))⟩
              · obtain rfl := Option.some.inj (show some _ = some o from ho)
                refine PI.shown_val rfl fun a w3 L0 hr T => ?_
                have h1 : a.eval (.tmp 9) = .int .i64 (p : Int) := T.was 9 (by kernel_rfl)
                exact ⟨.int .i64 (p : Int), w3, by simp only [execOp, h1]; simp [go_sem], PI.Post.pure GOESI rfl (PI.RI.pure T.inv _ (by decide) (Nat.le_refl _))⟩
              · obtain rfl := Option.some.inj (show some _ = some o from ho)
                refine PI.shown_val rfl fun a w3 L0 hr T => ?_
                have h1 : a.eval (.tmp 52) = .slice A' n c := T.at_ 7 52 (by kernel_rfl) (by kernel_rfl) (by kernel_rfl)
                have h2 : a.eval (.tmp 53) = .int .i64 (p : Int) := T.at_ 8 53 (by kernel_rfl) (by kernel_rfl) (by kernel_rfl)
                exact ⟨.slice A3 (n - p) (c - p), w3, by simp only [execOp, h1, h2, Option.map]; rw [HA3.out]; rcases A' with _ | a' <;> simp [go_sem, p0, p1, p2, p3, p4, p5, p6], PI.Post.pure GOESI rfl (PI.RI.pure T.inv _ (by decide) (Nat.le_refl _))⟩
              · obtain rfl := Option.some.inj (show some _ = some o from ho)
                refine PI.shown_val rfl fun a w3 L0 hr T => ?_
                have h1 : w3.ownsRow N 3 1 (a.eval (.tmp 51)) (p + 1) ((L.take p ++ [e]).map encN) := T.at_ 6 51 (by kernel_rfl) (by kernel_rfl) (by kernel_rfl)
                have h2 : a.eval (.tmp 54) = .slice A3 (n - p) (c - p) := T.at_ 9 54 (by kernel_rfl) (by kernel_rfl) (by kernel_rfl)
                have hsz : N ≤ w3.heap.size := by rw [HNN.out]; exact hr.size
                obtain ⟨v4, w4, e4, ho4, hg4⟩ := appIs (ty := 26) (c := c - p) h1 (L := L.drop p) ((HRD.out w3 hr).2) (m := n - p) (by rw [List.length_drop]; have := HLN.out; omega) (by have := HLN.out; omega) hsz
                rw [show p + 1 + (n - p) = n + 1 by omega, ← List.map_append] at ho4
                have HI := T.inv
                have hge := own_block_ge h1
                have hL : L0 6 = true := T.doneI 6 (by kernel_rfl)
                refine ⟨v4, w4, by simp only [execOp, resolve, invoke, builtin, Sem.run_bind, Sem.run_pure, Result.andThen_ok, List.map_toArray, List.map_cons, List.map_nil, h2, e4], hg4.below (Below.refl _ _) hsz hge, ho4, fun _ _ h => h, fun j v hj hLj hnd hvj h => ?_, PI.RI.row HI (by decide) (by decide) [(6, 51)] (by decide) (by decide) (fun j hj => by rw [List.mem_singleton] at hj; subst hj; exact hL) hg4.grown.size (fun b hvb => ⟨own_block_lt ho4 b hvb, by
                  rcases hg4.blk with hk | ⟨g, hk, hk2⟩
                  · exact .inr ⟨_, List.mem_singleton.2 rfl, by rw [← hvb, hk]; rfl⟩
                  · rw [hk] at hvb; injection hvb with hvb; exact .inl (by omega)⟩)⟩
                by_cases hjr : j = 3 ∨ j = 5 ∨ j = 6 ∨ j = 10 ∨ j = 11
                · rcases hjr with rfl | rfl | rfl | rfl | rfl
                  · simp [PI.needB, hL] at hnd
                  · simp [PI.needB, hL] at hnd
                  · simp [PI.needB] at hnd
                  · exact absurd rfl hj
                  · exact absurd (T.shut_ 11 10 (by kernel_rfl) hLj) (by rw [T.yetNot]; decide)
                · exact InF.other h hjr
              · obtain rfl := Option.some.inj (show some _ = some o from ho)
                refine PI.shown_val rfl fun a w3 L0 hr T => ?_
                have h1 : w3.ownsRow N 3 1 (a.eval (.tmp 55)) (n + 1) ((L.take p ++ [e] ++ L.drop p).map encN) := T.at_ 10 55 (by kernel_rfl) (by kernel_rfl) (by kernel_rfl)
                exact ⟨a.eval (.tmp 55), w3, by simp only [execOp]; simp [go_sem], PI.Post.pure GOESI h1 (PI.RI.pure T.inv _ (by decide) (Nat.le_refl _))⟩
              · cases ho
            · rw [← HWW.out]
              intro x9 w9 hr hf he _
              have h1 := hf 11 _ 7 rfl rfl (by decide)
              change w9.ownsRow N 3 1 (x9 11) (n + 1) ((L.take p ++ [e] ++ L.drop p).map encN) at h1
              obtain ⟨A9, c9, hv9, hc9, _⟩ := own_rd h1
              rw [hv9] at h1
              have HB9 := Lib.hid (show Below N W0 w9 from by have h2 := hr; rw [HWW.out] at h2; exact (show Below N W0 W0.drew from ⟨rfl, rfl, rfl, Nat.le_refl _, fun _ _ => rfl⟩).trans h2)
              have HO9 := Lib.hid h1
              simp only [PI.putAll, Act.put, List.setIfInBounds_toArray, List.set_cons_zero, List.set_cons_succ]
              rw [hv9]
              clear hf he h1 hr hv9 hc9
              have HLE := Lib.hid (show b0 ≤ N from by rw [HNW.out]; have := HB3.out.size; exact HSB.out _ HB3.out)
              go_wp2_with fail
              go_roundw
              case rel => exact ⟨e9, n + 1, c9, A9, _, by first | rfl | go_num, rfl, Lib.hid (by have := HLT.out; have := HE9.out; omega), Lib.hid (by simp only [List.length_append, List.length_take, List.length_drop, List.length_cons, List.length_nil]; have := HLN.out; omega), by rw [HE9.out]; exact HK2, Lib.hid (own_mono HO9.out HLE.out), Lib.hid (HB3.out.trans (HB9.out.mono HLE.out))⟩
              case measure => have := HLT.out; have := HE9.out; simp [intOf]; omega
          · have hxl := (HK.out.mem x).1 (List.mem_of_getElem? hx)
            have hxs : x < sn := by have := HLT.out; omega
            obtain ⟨xx, hxx⟩ : ∃ xx, l[x]? = some xx := ⟨_, List.getElem?_eq_getElem (by rw [← HN.out]; exact hxs)⟩
            have hsx := stS_at hxx
            have hsp := HSQ.out _ HB2.out
            obtain ⟨aa, haa, haab, hca, hra⟩ := hsp.at_ hxe
            obtain ⟨ab, hab2, habb, hcb, hrb⟩ := hsp.at_ hxx
            rw [haa] at hab2
            obtain rfl : aa = ab := by injection hab2
            subst haa
            obtain ⟨u, hu⟩ : ∃ u, u = stS l e := ⟨_, rfl⟩
            obtain ⟨v, hv⟩ : ∃ v, v = stS l x := ⟨_, rfl⟩
            have c1 : wr.cell? ⟨(aa.add (e * 10)).block, (aa.add (e * 10)).off + 6, none⟩ = some (.int .i64 u) := by rw [hu, hse]; exact cell_far (hca 6 _ rfl) (by decide)
            have c2 : wr.cell? ⟨(aa.add (x * 10)).block, (aa.add (x * 10)).off + 6, none⟩ = some (.int .i64 v) := by rw [hv, hsx]; exact cell_far (hcb 6 _ rfl) (by decide)
            obtain ⟨g, rfl, _, _, _, _, _, _⟩ := own_parts HROW2.out (by have := HKN.out; omega)
            obtain ⟨pm, hpm⟩ : ∃ pm, pm = p - 1 := ⟨_, rfl⟩
            rw [← hpm] at hx
            obtain ⟨c3, _⟩ := own_atN HROW2.out hx
            have e2 : IntKind.i64.wrap ((p : Int) - 1) = (pm : Int) := by have := HKN.out; have := HK.out.len; have := HL.out; have := HLT.out; rw [IntKind.wrap_i64] <;> omega
            have d2 : decide ((0 : Int) < (p : Int)) = true := decide_eq_true (by omega)
            have d3 : decide (0 < p) = true := decide_eq_true hp
            have j0 : (0 : Int) ≤ (pm : Int) := by omega
            have j1 : (pm : Int) < (n : Int) := by have := HKN.out; omega
            have j2 : (0 : Int) ≤ (x : Int) := by omega
            have j3 : (x : Int) < (sn : Int) := by omega
            have HPM := Lib.hid (And.intro hpm hp)
            have HU := Lib.hid (And.intro hu hv)
            have HX := Lib.hid hx
            clear hpm hp hu hv hrb hcb hra hca haab habb hab2 hsp hsx hxx hxs hxl hse hxe hx
            by_cases hlo : u < v
            · as_aux_lemma =>
              have d4 : decide (u < v) = true := decide_eq_true hlo
              have HUP2 := Lib.hid (show ∀ j x, pm ≤ j → L[j]? = some x → stS l e < stS l x from fun j x' hj hx' => by
                rcases Nat.lt_or_ge j p with h | h
                · have : j = pm := by have := HPM.out; omega
                  subst this
                  rw [HX.out] at hx'
                  injection hx' with hx'
                  rw [← hx', ← HU.out.1, ← HU.out.2]; exact hlo
                · exact HUP.out j x' h hx')
              clear hlo
              go_upto_region 7 with fail
              refine wp_region_quiet_lex (by kernel_rfl) (by kernel_rfl) ?_
              repeat (go_big_quiet_step (fail))
              refine wpQuiet_nil ?_
              intro _ hw'
              obtain ⟨nq, hw''⟩ := hw'
              subst hw''
              go_wp2_with fail
              go_roundw
              case rel => exact ⟨pm, by first | rfl | go_num, Lib.hid (by have := HPM.out; have := HKN.out; omega), HUP2, Lib.hid (HBQ.out.trans ⟨rfl, rfl, rfl, Nat.le_refl _, fun _ _ => rfl⟩)⟩
              case measure => have := HPM.out; simp [intOf]; omega
            · as_aux_lemma =>
              have d4 : decide (u < v) = false := decide_eq_false hlo
              have HUP2 : Hid (p = 0 ∨ ∃ x, L[p - 1]? = some x ∧ stS l x ≤ stS l e) := Lib.hid (.inr ⟨x, by rw [← HPM.out.1]; exact HX.out, by rw [← HU.out.1, ← HU.out.2]; omega⟩)
              have HPN : Hid (p ≤ n) := Lib.hid HKN.out
              have HK2 := Lib.hid (HK.out.ins HPE.out (by have := HKN.out; have := HL.out; omega) HUP.out HUP2.out)
              clear hlo
              go_upto_region 7 with fail
              refine wp_region_quiet_lex (by kernel_rfl) (by kernel_rfl) ?_
              repeat (go_big_quiet_step (fail))
              refine wpQuiet_nil ?_
              intro _ hw'
              obtain ⟨nq, hw''⟩ := hw'
              subst hw''
              go_upto_region 9 with fail
              obtain ⟨W0, hW0⟩ : ∃ W0, W0 = wr.drewN nq := ⟨_, rfl⟩
              have HROW3 : Hid (W0.ownsRow b0 3 1 (.slice (some ⟨g, 0, none⟩) n c) n (L.map encN)) := Lib.hid (by rw [hW0]; exact HROW2.out)
              have HB3 : Hid (Below b0 w W0) := Lib.hid (by rw [hW0]; exact HB2.out.trans ⟨rfl, rfl, rfl, Nat.le_refl _, fun _ _ => rfl⟩)
              have HLN : Hid (L.length = n ∧ p ≤ n ∧ n ≤ 100000) := Lib.hid (by have := HPN.out; have := HK.out.len; have := HL.out; have := HLT.out; omega)
              have HCAP : Hid (n ≤ c ∧ c ≤ maxLen) := Lib.hid (own_capq HROW3.out)
              rw [← hW0]
              clear hW0 HROW2 HROW HB2 HB HBQ HKN
              obtain ⟨A', hA9⟩ : ∃ A' : Option Addr, A' = some ⟨g, 0, none⟩ := ⟨_, rfl⟩
              rw [← hA9] at HROW3 ⊢
              clear hA9 c3
              have HROW := HROW3
              clear HROW3
              obtain ⟨W, hW⟩ : ∃ W, W = W0.drew := ⟨_, rfl⟩
              obtain ⟨N, hN⟩ : ∃ N, N = W.heap.size := ⟨_, rfl⟩
              have hNW : N = W0.heap.size := by rw [hN, hW]; rfl
              obtain ⟨A3, hA3⟩ : ∃ A3 : Option Addr, A3 = (if c = p then A' else A'.map (·.add p)) := ⟨_, rfl⟩
              have HRD : Hid (∀ w3, Below N W w3 → Rd w3 N A' ((L.take p).map encN) ∧ Rd w3 N A3 ((L.drop p).map encN)) := Lib.hid (fun w3 hW3 => by
                obtain ⟨A4, c4, e4, _, hr4⟩ := own_rd HROW.out
                injection e4 with e4
                subst e4
                have h5 : Rd W0.drew N A' (L.map encN) := by rw [hNW]; exact hr4.below ⟨rfl, rfl, rfl, Nat.le_refl _, fun _ _ => rfl⟩
                have h4 : Rd w3 N A' (L.map encN) := by rw [← hW] at h5; exact h5.below hW3
                refine ⟨rdN_take h4, ?_⟩
                rw [hA3]
                by_cases hc : c = p
                · rw [if_pos hc, List.drop_of_length_le (by have := HLN.out; have := HCAP.out; omega)]
                  exact Rd.nil
                · rw [if_neg hc]
                  rcases hAA : A' with _ | a
                  · have hz := HROW.out.2
                    rw [hAA] at hz
                    rcases hz with ⟨h0, _⟩ | ⟨_, _, _, h0, _⟩
                    · injection h0 with _ h1 h2; have := HLN.out; omega
                    · injection h0 with h0; cases h0
                  · rw [hAA] at h4
                    exact rdN_drop (by have := HLN.out; omega) h4)
              have HA3 := Lib.hid hA3
              have HWW := Lib.hid hW
              have HNN := Lib.hid hN
              have HNW := Lib.hid hNW
              have p0 : (p : Int) ≤ (n : Int) := by have := HLN.out; omega
              have p1 : p ≤ n := HLN.out.2.1
              have p2 : n ≤ c := HCAP.out.1
              have p3 : (0 : Int) ≤ (p : Int) := by omega
              have p4 : (p : Int) ≤ (c : Int) := by omega
              have p5 : (n : Int) ≤ (c : Int) := by omega
              have p6 : p ≤ c := by omega
              clear hA3 hN hW hNW
              refine PI.wp_region_persG (R := fun a b => Below N a b) (G := fun _ _ => True) (I := PI.RI [(3, 48), (5, 50), (6, 51), (10, 55)] [(6, 3), (3, 6), (10, 6), (6, 10), (10, 3), (3, 10)]) [(2, 0), (2, 1), (3, 2), (5, 4), (6, 3), (6, 5), (9, 7), (9, 8), (10, 6), (10, 9), (11, 10)] [11] (by kernel_rfl) (PI.formed_of (by kernel_rfl)) GOESI (fun _ => trivial) (InF A' A3 n c p N e L) (PI.RI.start (n := 57) (by decide) rfl) ?_ ?_
              · rw [← HWW.out]
                intro i o ho
                rcases i with _ | _ | _ | _ | _ | _ | _ | _ | _ | _ | _ | _ | i
                · obtain rfl := Option.some.inj (show some _ = some o from ho)
                  refine PI.shown_val rfl fun a w3 L0 hr T => ?_
                  have h1 : a.eval (.tmp 7) = .slice A' n c := T.was 7 (by kernel_rfl)
                  exact ⟨.slice A' n c, w3, by simp only [execOp, h1]; simp [go_sem], PI.Post.pure GOESI rfl (PI.RI.pure T.inv _ (by decide) (Nat.le_refl _))⟩
                · obtain rfl := Option.some.inj (show some _ = some o from ho)
                  refine PI.shown_val rfl fun a w3 L0 hr T => ?_
                  have h1 : a.eval (.tmp 9) = .int .i64 (p : Int) := T.was 9 (by kernel_rfl)
                  exact ⟨.int .i64 (p : Int), w3, by simp only [execOp, h1]; simp [go_sem], PI.Post.pure GOESI rfl (PI.RI.pure T.inv _ (by decide) (Nat.le_refl _))⟩
                · obtain rfl := Option.some.inj (show some _ = some o from ho)
                  refine PI.shown_val rfl fun a w3 L0 hr T => ?_
                  have h1 : a.eval (.tmp 45) = .slice A' n c := T.at_ 0 45 (by kernel_rfl) (by kernel_rfl) (by kernel_rfl)
                  have h2 : a.eval (.tmp 46) = .int .i64 (p : Int) := T.at_ 1 46 (by kernel_rfl) (by kernel_rfl) (by kernel_rfl)
                  exact ⟨.slice A' p c, w3, by simp only [execOp, h1, h2, Option.map]; rcases A' with _ | a' <;> simp [go_sem, p0, p1, p2, p3, p4, p5, p6], PI.Post.pure GOESI rfl (PI.RI.pure T.inv _ (by decide) (Nat.le_refl _))⟩
                · obtain rfl := Option.some.inj (show some _ = some o from ho)
                  refine PI.shown_val rfl fun a w3 L0 hr T => ?_
                  have h1 : a.eval (.tmp 47) = .slice A' p c := T.at_ 2 47 (by kernel_rfl) (by kernel_rfl) (by kernel_rfl)
                  have h0 : a.eval (.const (.slice none 0 0)) = .slice none 0 0 := rfl
                  have hsz : N ≤ w3.heap.size := by rw [HNN.out]; exact hr.size
                  obtain ⟨v4, w4, e4, ho4, hg4⟩ := appIs (ty := 26) (c := c) (base := w3.heap.size) (n := 0) (xs := []) (World.ownsRow_nil w3 _ 3 1) (L := L.take p) ((HRD.out w3 hr).1) (m := p) (by rw [List.length_take]; have := HLN.out; omega) (by have := HLN.out; omega) (Nat.le_refl _)
                  rw [Nat.zero_add, List.nil_append] at ho4
                  have hb4 := hg4.new
                  exact ⟨v4, w4, by simp only [execOp, resolve, invoke, builtin, Sem.run_bind, Sem.run_pure, Result.andThen_ok, List.map_toArray, List.map_cons, List.map_nil, h0, h1, e4], hb4.mono hsz, own_mono ho4 hsz, fun _ _ h => h, fun j v _ _ _ _ h => h.keep (fun m xs ho => own_below ho hb4), PI.RI.row T.inv (by decide) (by decide) [] (by decide) (by decide) (fun j hj => by cases hj) hb4.size (fun b hvb => ⟨own_block_lt ho4 b hvb, .inl (own_block_ge ho4 b hvb)⟩)⟩
                · obtain rfl := Option.some.inj (show some _ = some o from ho)
                  refine PI.shown_val rfl fun a w3 L0 hr T => ?_
                  have h1 : a.eval (.tmp 8) = .int .i64 (e : Int) := T.was 8 (by kernel_rfl)
                  exact ⟨.int .i64 (e : Int), w3, by simp only [execOp, h1]; simp [go_sem], PI.Post.pure GOESI rfl (PI.RI.pure T.inv _ (by decide) (Nat.le_refl _))⟩
                · obtain rfl := Option.some.inj (show some _ = some o from ho)
                  refine PI.shown_val rfl fun a w3 L0 hr T => ?_
                  have h1 : a.eval (.tmp 49) = .int .i64 (e : Int) := T.at_ 4 49 (by kernel_rfl) (by kernel_rfl) (by kernel_rfl)
                  have hsz : N ≤ w3.heap.size := by rw [HNN.out]; exact hr.size
                  have ho4 : (w3.alloc (.cells #[.int .i64 (e : Int)] 3)).ownsRow N 3 1 (.slice (some ⟨w3.heap.size, 0, none⟩) 1 1) 1 (([e] : List Nat).map encN) := World.ownsRow_lit (base := N) (e := 3) (size := 1) w3 #[.int .i64 (e : Int)] 1 hsz (by decide) rfl
                  have hb4 := (Below.refl w3.heap.size w3).alloc (Nat.le_refl _) (.cells #[.int .i64 (e : Int)] 3)
                  have h1b := h1
                  simp only [Act.eval, Array.getD_eq_getD_getElem?] at h1b
                  exact ⟨.slice (some ⟨w3.heap.size, 0, none⟩) 1 1, _, by (simp only [execOp]; first | (simp [go_sem, h1b]; done) | (simp [go_sem, h1b]; rfl)), hb4.mono hsz, ho4, fun _ _ h => h, fun j v _ _ _ _ h => h.keep (fun m xs ho => own_below ho hb4), PI.RI.row T.inv (by decide) (by decide) [] (by decide) (by decide) (fun j hj => by cases hj) hb4.size (fun b hvb => ⟨own_block_lt ho4 b hvb, .inl (by injection hvb with hvb; rw [← hvb]; exact Nat.le_refl _)⟩)⟩
                · obtain rfl := Option.some.inj (show some _ = some o from ho)
                  refine PI.shown_val rfl fun a w3 L0 hr T => ?_
                  have h1 : w3.ownsRow N 3 1 (a.eval (.tmp 48)) (p) ((L.take p).map encN) := T.at_ 3 48 (by kernel_rfl) (by kernel_rfl) (by kernel_rfl)
                  have h2 : w3.ownsRow N 3 1 (a.eval (.tmp 50)) (1) (([e]).map encN) := T.at_ 5 50 (by kernel_rfl) (by kernel_rfl) (by kernel_rfl)
                  have hsz : N ≤ w3.heap.size := by rw [HNN.out]; exact hr.size
                  obtain ⟨A5, c5, hv5, _, hrd5⟩ := own_rd h2
                  obtain ⟨v4, w4, e4, ho4, hg4⟩ := appIs (ty := 26) (c := c5) h1 (L := [e]) hrd5 (m := 1) rfl (by have := HLN.out; omega) hsz
                  rw [← List.map_append] at ho4
                  have HI := T.inv
                  have hge := own_block_ge h1
                  have hL : L0 3 = true := T.doneI 3 (by kernel_rfl)
                  refine ⟨v4, w4, by simp only [execOp, resolve, invoke, builtin, Sem.run_bind, Sem.run_pure, Result.andThen_ok, List.map_toArray, List.map_cons, List.map_nil, hv5, e4], hg4.below (Below.refl _ _) hsz hge, ho4, fun _ _ h => h, fun j v hj hLj hnd hvj h => ?_, PI.RI.row HI (by decide) (by decide) [(3, 48)] (by decide) (by decide) (fun j hj => by rw [List.mem_singleton] at hj; subst hj; exact hL) hg4.grown.size (fun b hvb => ⟨own_block_lt ho4 b hvb, by
                    rcases hg4.blk with hk | ⟨g, hk, hk2⟩
                    · exact .inr ⟨_, List.mem_singleton.2 rfl, by rw [← hvb, hk]; rfl⟩
                    · rw [hk] at hvb; injection hvb with hvb; exact .inl (by omega)⟩)⟩
                  by_cases hjr : j = 3 ∨ j = 5 ∨ j = 6 ∨ j = 10 ∨ j = 11
                  · rcases hjr with rfl | rfl | rfl | rfl | rfl
                    · simp [PI.needB] at hnd
                    · simp [PI.needB] at hnd
                    · exact absurd rfl hj
                    · exact absurd (T.shut_ 10 6 (by kernel_rfl) hLj) (by rw [T.yetNot]; decide)
                    · exact absurd (T.shut_ 11 6 (by kernel_rfl) hLj) (by rw [T.yetNot]; decide)
                  · exact InF.other h hjr
                · obtain rfl := Option.some.inj (show some _ = some o from ho)
                  refine PI.shown_val rfl fun a w3 L0 hr T => ?_
                  have h1 : a.eval (.tmp 7) = .slice A' n c := T.was 7 (by kernel_rfl)
                  exact ⟨.slice A' n c, w3, by simp only [execOp, h1]; simp [go_sem], PI.Post.pure GOESI rfl (PI.RI.pure T.inv _ (by decide) (Nat.le_refl _))⟩
                · obtain rfl := Option.some.inj (show some _ = some o from ho)
                  refine PI.shown_val rfl fun a w3 L0 hr T => ?_
                  have h1 : a.eval (.tmp 9) = .int .i64 (p : Int) := T.was 9 (by kernel_rfl)
                  exact ⟨.int .i64 (p : Int), w3, by simp only [execOp, h1]; simp [go_sem], PI.Post.pure GOESI rfl (PI.RI.pure T.inv _ (by decide) (Nat.le_refl _))⟩
                · obtain rfl := Option.some.inj (show some _ = some o from ho)
                  refine PI.shown_val rfl fun a w3 L0 hr T => ?_
                  have h1 : a.eval (.tmp 52) = .slice A' n c := T.at_ 7 52 (by kernel_rfl) (by kernel_rfl) (by kernel_rfl)
                  have h2 : a.eval (.tmp 53) = .int .i64 (p : Int) := T.at_ 8 53 (by kernel_rfl) (by kernel_rfl) (by kernel_rfl)
                  exact ⟨.slice A3 (n - p) (c - p), w3, by simp only [execOp, h1, h2, Option.map]; rw [HA3.out]; rcases A' with _ | a' <;> simp [go_sem, p0, p1, p2, p3, p4, p5, p6], PI.Post.pure GOESI rfl (PI.RI.pure T.inv _ (by decide) (Nat.le_refl _))⟩
                · obtain rfl := Option.some.inj (show some _ = some o from ho)
                  refine PI.shown_val rfl fun a w3 L0 hr T => ?_
                  have h1 : w3.ownsRow N 3 1 (a.eval (.tmp 51)) (p + 1) ((L.take p ++ [e]).map encN) := T.at_ 6 51 (by kernel_rfl) (by kernel_rfl) (by kernel_rfl)
                  have h2 : a.eval (.tmp 54) = .slice A3 (n - p) (c - p) := T.at_ 9 54 (by kernel_rfl) (by kernel_rfl) (by kernel_rfl)
                  have hsz : N ≤ w3.heap.size := by rw [HNN.out]; exact hr.size
                  obtain ⟨v4, w4, e4, ho4, hg4⟩ := appIs (ty := 26) (c := c - p) h1 (L := L.drop p) ((HRD.out w3 hr).2) (m := n - p) (by rw [List.length_drop]; have := HLN.out; omega) (by have := HLN.out; omega) hsz
                  rw [show p + 1 + (n - p) = n + 1 by omega, ← List.map_append] at ho4
                  have HI := T.inv
                  have hge := own_block_ge h1
                  have hL : L0 6 = true := T.doneI 6 (by kernel_rfl)
                  refine ⟨v4, w4, by simp only [execOp, resolve, invoke, builtin, Sem.run_bind, Sem.run_pure, Result.andThen_ok, List.map_toArray, List.map_cons, List.map_nil, h2, e4], hg4.below (Below.refl _ _) hsz hge, ho4, fun _ _ h => h, fun j v hj hLj hnd hvj h => ?_, PI.RI.row HI (by decide) (by decide) [(6, 51)] (by decide) (by decide) (fun j hj => by rw [List.mem_singleton] at hj; subst hj; exact hL) hg4.grown.size (fun b hvb => ⟨own_block_lt ho4 b hvb, by
                    rcases hg4.blk with hk | ⟨g, hk, hk2⟩
                    · exact .inr ⟨_, List.mem_singleton.2 rfl, by rw [← hvb, hk]; rfl⟩
                    · rw [hk] at hvb; injection hvb with hvb; exact .inl (by omega)⟩)⟩
                  by_cases hjr : j = 3 ∨ j = 5 ∨ j = 6 ∨ j = 10 ∨ j = 11
                  · rcases hjr with rfl | rfl | rfl | rfl | rfl
                    · simp [PI.needB, hL] at hnd
                    · simp [PI.needB, hL] at hnd
                    · simp [PI.needB] at hnd
                    · exact absurd rfl hj
                    · exact absurd (T.shut_ 11 10 (by kernel_rfl) hLj) (by rw [T.yetNot]; decide)
                  · exact InF.other h hjr
                · obtain rfl := Option.some.inj (show some _ = some o from ho)
                  refine PI.shown_val rfl fun a w3 L0 hr T => ?_
                  have h1 : w3.ownsRow N 3 1 (a.eval (.tmp 55)) (n + 1) ((L.take p ++ [e] ++ L.drop p).map encN) := T.at_ 10 55 (by kernel_rfl) (by kernel_rfl) (by kernel_rfl)
                  exact ⟨a.eval (.tmp 55), w3, by simp only [execOp]; simp [go_sem], PI.Post.pure GOESI h1 (PI.RI.pure T.inv _ (by decide) (Nat.le_refl _))⟩
                · cases ho
              · rw [← HWW.out]
                intro x9 w9 hr hf he _
                have h1 := hf 11 _ 7 rfl rfl (by decide)
                change w9.ownsRow N 3 1 (x9 11) (n + 1) ((L.take p ++ [e] ++ L.drop p).map encN) at h1
                obtain ⟨A9, c9, hv9, hc9, _⟩ := own_rd h1
                rw [hv9] at h1
                have HB9 := Lib.hid (show Below N W0 w9 from by have h2 := hr; rw [HWW.out] at h2; exact (show Below N W0 W0.drew from ⟨rfl, rfl, rfl, Nat.le_refl _, fun _ _ => rfl⟩).trans h2)
                have HO9 := Lib.hid h1
                simp only [PI.putAll, Act.put, List.setIfInBounds_toArray, List.set_cons_zero, List.set_cons_succ]
                rw [hv9]
                clear hf he h1 hr hv9 hc9
                have HLE := Lib.hid (show b0 ≤ N from by rw [HNW.out]; have := HB3.out.size; exact HSB.out _ HB3.out)
                go_wp2_with fail
                go_roundw
                case rel => exact ⟨e9, n + 1, c9, A9, _, by first | rfl | go_num, rfl, Lib.hid (by have := HLT.out; have := HE9.out; omega), Lib.hid (by simp only [List.length_append, List.length_take, List.length_drop, List.length_cons, List.length_nil]; have := HLN.out; omega), by rw [HE9.out]; exact HK2, Lib.hid (own_mono HO9.out HLE.out), Lib.hid (HB3.out.trans (HB9.out.mono HLE.out))⟩
                case measure => have := HLT.out; have := HE9.out; simp [intOf]; omega
      · as_aux_lemma =>
        have HK2 := Lib.hid (HK.out.skip (by rw [hy]; exact fun e => hyz (by injection e)))
        have f1 : (y == z) = false := beq_eq_false_iff_ne.2 hyz
        have f2 : (y != z) = true := by simp [bne, f1]
        clear he9 hlt hy hpc hapb hyz
        go_wp2_with fail
        go_roundw
        case rel => exact ⟨e9, n, c, A', L, by first | rfl | go_num, rfl, Lib.hid (by have := HLT.out; have := HE9.out; omega), HL, by rw [HE9.out]; exact HK2, HROW, HB⟩
        case measure => have := HLT.out; have := HE9.out; simp [intOf]; omega
    · as_aux_lemma =>
      obtain rfl : sn = e := by have := HI.out; omega
      have d0 : decide ((sn : Int) < (sn : Int)) = false := decide_eq_false (by omega)
      have d1 : decide (sn < sn) = false := decide_eq_false (by omega)
      clear hlt
      go_wp2_with fail
      go_ret
      have hl := HL.out
      subst hl
      exact ⟨A', c, L, rfl, HK.out, HROW.out, HB.out⟩
end Go.Proofs.Ytgldjjmpjaegfaa
