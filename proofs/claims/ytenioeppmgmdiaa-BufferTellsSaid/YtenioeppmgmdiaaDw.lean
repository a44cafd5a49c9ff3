/- Rows of episodes of one's own whose spans are somebody else's; the document's Close. -/
import Derived.Test.YtenioeppmgmdiaaDv
namespace Go.Proofs.Ytenioeppmgmdiaa
open Go.RowKit
set_option linter.unusedVariables false
set_option linter.unusedSimpArgs false
set_option maxRecDepth 100000

structure RowEps (w : World) (base B : Nat) (v : Value) (l : List Le) : Prop where
  own : w.ownsRow base 30 6 v l.length (l.flatMap Le.cells)
  each : ∀ e ∈ l, RdSps w B e.A e.l
section
variable {w w' : World} {base B : Nat} {v u v' : Value} {l m : List Le}
theorem RowEps.below (h : RowEps w base B v l) (hb : Below w.heap.size w w') (hB : B ≤ w.heap.size) : RowEps w' base B v l := ⟨own_below h.own hb, fun x hx => (h.each x hx).below (hb.mono hB)⟩
theorem RowEps.nil (w : World) (base B : Nat) : RowEps w base B (.slice none 0 0) [] := ⟨World.ownsRow_nil _ _ _ _, fun _ h => by cases h⟩
theorem RowEps.rd (h : RowEps w base B v l) (hB : B ≤ w.heap.size) : ∃ A c, v = .slice A l.length c ∧ l.length ≤ c ∧ RdEps w w.heap.size A l := by
  obtain ⟨A, c, hv, hc, hr⟩ := own_rd h.own
  exact ⟨A, c, hv, hc, hr, fun x hx => (h.each x hx).more hB⟩
theorem appRow {ty : TypeId} {xs : List Le} (k c : Nat) (hm : k = xs.length) (h : RowEps w base B v l) (hx : ∀ e ∈ xs, RdSps w B e.A e.l) {B' : Nat} {A : Option Addr} (hr : Rd w B' A (xs.flatMap Le.cells)) (hl : l.length ≤ 1000000) (hxl : k ≤ 1000000) (hbase : base ≤ w.heap.size) (hB : B ≤ base) :
    ∃ v' w', (Builtin.append_ #[39, 39] ty #[v, .slice A k c]).run Try.prog w = .ok v' w' ∧ (RowEps w' base B v' (l ++ xs) ∧ Grew w w' v v') := by
  obtain ⟨i0, hi, hz0, hz1, hz2⟩ := info_parts infoEp
  obtain ⟨v', w', r1, r2, r3⟩ := run_append_rd (P := Try.prog) w base 39 ty 30 i0 _ 6 64 Try.underlying39 hi hz0 hz1 hz2 rfl v l.length (l.flatMap Le.cells) h.own B' A k c (xs.flatMap Le.cells) (by rw [flatMap_len _ 6 ecells_len, hm]) hr (ecells_one xs) (by unfold maxLen; omega) (by omega) hbase
  have hb := (r3.below (Below.refl base w) hbase (own_block_ge h.own)).mono hB
  refine ⟨v', w', r1, ⟨by rw [List.length_append, List.flatMap_append, ← hm]; exact r2, fun y hy => ?_⟩, r3⟩
  rcases List.mem_append.1 hy with hy | hy
  · exact (h.each y hy).below hb
  · exact (hx y hy).below hb
theorem RowEps.beside (h : RowEps w base B u l) (hv : RowEps w base B v m) (hg : Grew w w' v v') (ht : Two u v) (hbase : base ≤ w.heap.size) (hB : B ≤ base) : RowEps w' base B u l :=
  ⟨own_grew h.own hg (by
    cases hvb : v.ownBlock with
    | none => exact .inl rfl
    | some b => exact .inr (fun he => ht b he hvb)), fun e he => (h.each e he).below ((hg.below (Below.refl base w) hbase (own_block_ge hv.own)).mono hB)⟩
theorem Two.grewR (h : RowEps w base B u l) (hg : Grew w w' v v') (ht : Two u v) : Two u v' := fun b hb hvb => by
  rcases hg.blk with hk | ⟨g, hk, hk2⟩
  · rw [hk] at hvb
    exact ht b hb hvb
  · rw [hk] at hvb
    injection hvb with hvb
    have := own_block_lt h.own b hb
    omega
end
def DCloseOf (L : List Ep) (now idle age : Int) (B : Nat) (w : World) (e : Ending) (w' : World) : Prop :=
  ∃ (u v : Value) (l m : List Le), e = .returned (.tuple #[u, v]) ∧ RowEps w' w.heap.size B u l ∧ RowEps w' w.heap.size B v m ∧ l.map Le.ep = L.filter (fun e => !goneE now idle age e) ∧ m.map Le.ep = L.filter (goneE now idle age) ∧ Below w.heap.size w w'
set_option maxHeartbeats 16000000 in
theorem dclose_any (A : Option Addr) (l : List Le) (n c B : Nat) (now idle age : Int) (w : World) (hn : n = l.length) (hy : RdEps w B A l) (hB : B ≤ w.heap.size) (hl : n ≤ 100000) (ho : ∀ e ∈ l, e.ok) (hnow : -9223372036854775808 ≤ now ∧ now ≤ 9223372036854775807) :
    Calls Try.prog 23 #[.slice A n c, .int .i64 now, .int .i64 idle, .int .i64 age] w (DCloseOf (l.map Le.ep) now idle age B w) := by
  have HN := Lib.hid hn
  have HY := Lib.hid hy
  have HOK := Lib.hid ho
  have HNOW := Lib.hid hnow
  clear hn hy ho hnow
  go_enter Try.func23, Try.ntmps23
  go_wp2_with fail
  go_loopw [12, 10, 11] (fun i u v wr => ∃ (k : Nat) (lu lv : List Le), i = .int .i64 k ∧ k ≤ n ∧ Hid (RowEps wr w.heap.size B u lu) ∧ Hid (RowEps wr w.heap.size B v lv) ∧ Hid (Two u v) ∧ Hid (lu.map Le.ep = ((l.map Le.ep).take k).filter (fun e => !goneE now idle age e) ∧ lv.map Le.ep = ((l.map Le.ep).take k).filter (goneE now idle age)) ∧ Hid (Below w.heap.size w wr)) (fun i _ _ _ => n - (intOf i).toNat)
  case atStart => exact ⟨0, [], [], rfl, Nat.zero_le _, Lib.hid (RowEps.nil _ _ _), Lib.hid (RowEps.nil _ _ _), Lib.hid (fun b hb => by cases hb), Lib.hid ⟨by simp, by simp⟩, Lib.hid (Below.refl _ _)⟩
  case round =>
    obtain ⟨k, lu, lv, rfl, hk, HU, HV, HT, HM, HB⟩ := hrel
    by_cases hlt : k < n
    · obtain ⟨e, he⟩ : ∃ e, l[k]? = some e := ⟨_, List.getElem?_eq_getElem (by rw [← HN.out]; exact hlt)⟩
      have hok := HOK.out e (List.mem_of_getElem? he)
      have hep : (l.map Le.ep)[k]? = some e.ep := by rw [List.getElem?_map, he]; rfl
      obtain ⟨th, tl, f, la, su, ls, eA, ec⟩ := e
      obtain ⟨q, hq⟩ : ∃ q, q = ls.length := ⟨_, rfl⟩
      have hBr : B ≤ wr.heap.size := Nat.le_trans hB HB.out.size
      obtain ⟨a, ha, hab, c0, c1, c2, c3, c4, c5, hrd⟩ := epcells (HY.out.below (HB.out.mono hB)) he q hq
      subst ha
      have hfl : -9223372036854775808 ≤ f ∧ f ≤ 9223372036854775807 := ⟨hok.f.1, hok.f.2⟩
      have hla : -9223372036854775808 ≤ la ∧ la ≤ 9223372036854775807 := ⟨hok.la.1, hok.la.2⟩
      have HL1 : Hid (∀ W, Calls Try.prog 42 #[.int .i64 la, .int .i64 now, .int .i64 idle] W fun e w' => e = .returned (.bool (decide (idle ≤ satS now la))) ∧ W = w') := Lib.hid (fun W => dlong_any la now idle W hla HNOW.out)
      have HL2 : Hid (∀ W, Calls Try.prog 42 #[.int .i64 f, .int .i64 now, .int .i64 age] W fun e w' => e = .returned (.bool (decide (age ≤ satS now f))) ∧ W = w') := Lib.hid (fun W => dlong_any f now age W hfl HNOW.out)
      have hll : lu.length ≤ 1000000 ∧ lv.length ≤ 1000000 := by
        have h1 := congrArg List.length HM.out.1
        have h2 := congrArg List.length HM.out.2
        have h3 := List.length_filter_le (fun e => !goneE now idle age e) ((l.map Le.ep).take k)
        have h4 := List.length_filter_le (goneE now idle age) ((l.map Le.ep).take k)
        simp only [List.length_map, List.length_take] at h1 h2 h3 h4
        have := HN.out
        omega
      have hbA : Below wr.heap.size wr (wr.alloc (.cells #[.int .u64 th, .int .u64 tl, .int .i64 f, .int .i64 la, .bool su, .slice eA q ec] 30)) := (Below.refl _ _).alloc (Nat.le_refl _) _
      have HBZ := Lib.hid (HB.out.trans (hbA.mono HB.out.size))
      have HUZ := Lib.hid (HU.out.below hbA hBr)
      have HVZ := Lib.hid (HV.out.below hbA hBr)
      have HSZ : Hid (w.heap.size ≤ (wr.alloc (.cells #[.int .u64 th, .int .u64 tl, .int .i64 f, .int .i64 la, .bool su, .slice eA q ec] 30)).heap.size) := Lib.hid HBZ.out.size
      have hrdA : Rd (wr.alloc (.cells #[.int .u64 th, .int .u64 tl, .int .i64 f, .int .i64 la, .bool su, .slice eA q ec] 30)) (wr.heap.size + 1) (some ⟨wr.heap.size, 0, none⟩) ([Le.mk th tl f la su ls eA ec].flatMap Le.cells) := by
        rw [List.flatMap_cons, List.flatMap_nil, List.append_nil, Le.lit_cells _ _ _ _ _ _ _ _ q hq]
        exact Rd.lit wr _ _
      have hxA : ∀ e ∈ [Le.mk th tl f la su ls eA ec], RdSps (wr.alloc (.cells #[.int .u64 th, .int .u64 tl, .int .i64 f, .int .i64 la, .bool su, .slice eA q ec] 30)) B e.A e.l := fun e he => by
        rw [List.mem_singleton] at he
        subst he
        exact hrd.below (hbA.mono hBr)
      have APU := Lib.hid (fun ty => appRow (ty := ty) 1 1 rfl HUZ.out hxA hrdA hll.1 (by omega) HSZ.out hB)
      have APV := Lib.hid (fun ty => appRow (ty := ty) 1 1 rfl HVZ.out hxA hrdA hll.2 (by omega) HSZ.out hB)
      have hcases : (idle ≤ satS now la) ∨ (¬ idle ≤ satS now la ∧ age ≤ satS now f) ∨ (¬ idle ≤ satS now la ∧ ¬ age ≤ satS now f) := by omega
      have HGO : Hid (goneE now idle age ⟨th, tl, f, la, su, ls.map Ls.s⟩ = (decide (idle ≤ satS now la) || decide (age ≤ satS now f))) := Lib.hid rfl
      have HEP := Lib.hid hep
      clear hep he hq hrd hok hfl hla hll hrdA hxA hbA
      generalize satS now la = s1 at *
      generalize satS now f = s2 at *
      rcases hcases with h1 | ⟨h1, h2⟩ | ⟨h1, h2⟩
      · have d1 : decide (idle ≤ s1) = true := decide_eq_true h1
        have HGQ : Hid (goneE now idle age ⟨th, tl, f, la, su, ls.map Ls.s⟩ = true) := Lib.hid (by rw [HGO.out, d1]; simp)
        clear HGO
        rw [d1] at HL1
        go_wp2_with (first
          | (at_builtin; (refine wpList_app rfl (.tmp 37) (.tmp 42) _ _ rfl rfl rfl (APV.out _) ?_); rintro v5 w5 ⟨ho5, hg5⟩; have HO5 := Lib.hid ho5; have HG5 := Lib.hid hg5; clear ho5 hg5)
          | (go_at_call 42; (with_reducible refine (HL1.out _).mono ?_); rintro e wN ⟨rfl, rfl⟩; have done2 := trivial))
        go_roundw
        case rel =>
          refine ⟨k + 1, lu, lv ++ [⟨th, tl, f, la, su, ls, eA, ec⟩], by go_num, by omega, Lib.hid (HUZ.out.beside HVZ.out HG5.out HT.out HSZ.out hB), HO5, Lib.hid (Two.grewR HUZ.out HG5.out HT.out), Lib.hid ⟨?_, ?_⟩, Lib.hid (HG5.out.below HBZ.out HSZ.out (own_block_ge HVZ.out.own))⟩
          · rw [List.take_add_one, HEP.out, List.filter_append, ← HM.out.1]
            simp [Le.ep, HGQ.out]
          · rw [List.take_add_one, HEP.out, List.filter_append, ← HM.out.2, List.map_append]
            simp [Le.ep, HGQ.out]
        case measure => simp [intOf]; omega
      · have d1 : decide (idle ≤ s1) = false := decide_eq_false h1
        have d2 : decide (age ≤ s2) = true := decide_eq_true h2
        have HGQ : Hid (goneE now idle age ⟨th, tl, f, la, su, ls.map Ls.s⟩ = true) := Lib.hid (by rw [HGO.out, d1, d2]; simp)
        clear HGO
        rw [d1] at HL1
        rw [d2] at HL2
        go_wp2_with (first
          | (at_builtin; (refine wpList_app rfl (.tmp 37) (.tmp 42) _ _ rfl rfl rfl (APV.out _) ?_); rintro v5 w5 ⟨ho5, hg5⟩; have HO5 := Lib.hid ho5; have HG5 := Lib.hid hg5; clear ho5 hg5)
          | (have hd := done2; go_at_call 42; (with_reducible refine (HL2.out _).mono ?_); rintro e wN ⟨rfl, rfl⟩)
          | (go_at_call 42; (with_reducible refine (HL1.out _).mono ?_); rintro e wN ⟨rfl, rfl⟩; have done2 := trivial))
        go_roundw
        case rel =>
          refine ⟨k + 1, lu, lv ++ [⟨th, tl, f, la, su, ls, eA, ec⟩], by go_num, by omega, Lib.hid (HUZ.out.beside HVZ.out HG5.out HT.out HSZ.out hB), HO5, Lib.hid (Two.grewR HUZ.out HG5.out HT.out), Lib.hid ⟨?_, ?_⟩, Lib.hid (HG5.out.below HBZ.out HSZ.out (own_block_ge HVZ.out.own))⟩
          · rw [List.take_add_one, HEP.out, List.filter_append, ← HM.out.1]
            simp [Le.ep, HGQ.out]
          · rw [List.take_add_one, HEP.out, List.filter_append, ← HM.out.2, List.map_append]
            simp [Le.ep, HGQ.out]
        case measure => simp [intOf]; omega
      · have d1 : decide (idle ≤ s1) = false := decide_eq_false h1
        have d2 : decide (age ≤ s2) = false := decide_eq_false h2
        have HGQ : Hid (goneE now idle age ⟨th, tl, f, la, su, ls.map Ls.s⟩ = false) := Lib.hid (by rw [HGO.out, d1, d2]; simp)
        clear HGO
        rw [d1] at HL1
        rw [d2] at HL2
        go_wp2_with (first
          | (at_builtin; (refine wpList_app rfl (.tmp 44) (.tmp 49) _ _ rfl rfl rfl (APU.out _) ?_); rintro v5 w5 ⟨ho5, hg5⟩; have HO5 := Lib.hid ho5; have HG5 := Lib.hid hg5; clear ho5 hg5)
          | (have hd := done2; go_at_call 42; (with_reducible refine (HL2.out _).mono ?_); rintro e wN ⟨rfl, rfl⟩)
          | (go_at_call 42; (with_reducible refine (HL1.out _).mono ?_); rintro e wN ⟨rfl, rfl⟩; have done2 := trivial))
        go_roundw
        case rel =>
          refine ⟨k + 1, lu ++ [⟨th, tl, f, la, su, ls, eA, ec⟩], lv, by go_num, by omega, HO5, Lib.hid (HVZ.out.beside HUZ.out HG5.out HT.out.symm HSZ.out hB), Lib.hid (Two.symm (Two.grewR HVZ.out HG5.out HT.out.symm)), Lib.hid ⟨?_, ?_⟩, Lib.hid (HG5.out.below HBZ.out HSZ.out (own_block_ge HUZ.out.own))⟩
          · rw [List.take_add_one, HEP.out, List.filter_append, ← HM.out.1, List.map_append]
            simp [Le.ep, HGQ.out]
          · rw [List.take_add_one, HEP.out, List.filter_append, ← HM.out.2]
            simp [Le.ep, HGQ.out]
        case measure => simp [intOf]; omega
    · obtain rfl : k = n := by omega
      have HF : Hid ((l.map Le.ep).take k = l.map Le.ep) := Lib.hid (List.take_of_length_le (by rw [List.length_map, ← HN.out]; exact Nat.le_refl _))
      rw [HF.out] at HM
      go_wp2_with fail
      go_ret2
      exact ⟨_, _, lu, lv, rfl, HU.out, HV.out, HM.out.1, HM.out.2, HB.out⟩
end Go.Proofs.Ytenioeppmgmdiaa
