/- ints.Less; buffer.Close. -/
import Derived.Test.YtenioeppmgmdiaaAl16
import Derived.Test.YtenioeppmgmdiaaOe
namespace Go.Proofs.Ytenioeppmgmdiaa
open Go.RowKit
set_option linter.unusedVariables false
set_option linter.unusedSimpArgs false
set_option maxRecDepth 100000

/-- One number less another, the greatest or the least where it is too great. -/
def satS (a b : Int) : Int := if 0 < b ∧ a < -9223372036854775808 + b then -9223372036854775808 else if b < 0 ∧ 9223372036854775807 + b < a then 9223372036854775807 else a - b
set_option maxHeartbeats 4000000 in
theorem less_any (a b : Int) (w : World) (ha : -9223372036854775808 ≤ a ∧ a ≤ 9223372036854775807) (hb : -9223372036854775808 ≤ b ∧ b ≤ 9223372036854775807) :
    Calls Try.prog 41 #[.int .i64 a, .int .i64 b] w fun e w' => e = .returned (.int .i64 (satS a b)) ∧ w = w' := by
  obtain ⟨a1, a2⟩ := ha
  obtain ⟨b1, b2⟩ := hb
  have hc : (0 < b ∧ a < -9223372036854775808 + b) ∨ (0 < b ∧ ¬ a < -9223372036854775808 + b) ∨ (b < 0 ∧ 9223372036854775807 + b < a) ∨ (b < 0 ∧ ¬ 9223372036854775807 + b < a) ∨ b = 0 := by omega
  rcases hc with ⟨h1, h2⟩ | ⟨h1, h2⟩ | ⟨h1, h2⟩ | ⟨h1, h2⟩ | rfl
  · have HQ : Hid (satS a b = -9223372036854775808) := Lib.hid (by unfold satS; rw [if_pos ⟨h1, h2⟩])
    have d1 : decide (0 < b) = true := decide_eq_true h1
    have d2 : decide (a < -9223372036854775808 + b) = true := decide_eq_true h2
    rw [HQ.out]
    go_enter Try.func41, Try.ntmps41
    go_wp2_with fail
    go_ret
    exact ⟨rfl, rfl⟩
  · have HQ : Hid (satS a b = a - b) := Lib.hid (by unfold satS; rw [if_neg (by omega), if_neg (by omega)])
    have d1 : decide (0 < b) = true := decide_eq_true h1
    have d2 : decide (a < -9223372036854775808 + b) = false := decide_eq_false h2
    have d3 : decide (b < 0) = false := decide_eq_false (by omega)
    rw [HQ.out]
    go_enter Try.func41, Try.ntmps41
    go_wp2_with fail
    go_ret
    exact ⟨rfl, rfl⟩
  · have HQ : Hid (satS a b = 9223372036854775807) := Lib.hid (by unfold satS; rw [if_neg (by omega), if_pos ⟨h1, h2⟩])
    have d1 : decide (0 < b) = false := decide_eq_false (by omega)
    have d3 : decide (b < 0) = true := decide_eq_true h1
    have d2 : decide (9223372036854775807 + b < a) = true := decide_eq_true h2
    rw [HQ.out]
    go_enter Try.func41, Try.ntmps41
    go_wp2_with fail
    go_ret
    exact ⟨rfl, rfl⟩
  · have HQ : Hid (satS a b = a - b) := Lib.hid (by unfold satS; rw [if_neg (by omega), if_neg (by omega)])
    have d1 : decide (0 < b) = false := decide_eq_false (by omega)
    have d3 : decide (b < 0) = true := decide_eq_true h1
    have d2 : decide (9223372036854775807 + b < a) = false := decide_eq_false h2
    rw [HQ.out]
    go_enter Try.func41, Try.ntmps41
    go_wp2_with fail
    go_ret
    exact ⟨rfl, rfl⟩
  · have HQ : Hid (satS a 0 = a) := Lib.hid (by unfold satS; rw [if_neg (by omega), if_neg (by omega)]; omega)
    rw [HQ.out]
    go_enter Try.func41, Try.ntmps41
    go_wp2_with fail
    go_ret
    exact ⟨rfl, rfl⟩
/-- Two rows of one's own that are not one block. -/
def Two (u v : Value) : Prop := ∀ b, u.ownBlock = some b → v.ownBlock ≠ some b
theorem OwnEps.beside {w w' : World} {base : Nat} {u v v' : Value} {l m : List Le} (h : OwnEps w base u l) (hv : OwnEps w base v m) (hg : Grew w w' v v') (ht : Two u v) : OwnEps w' base u l :=
  ⟨own_grew h.own hg (by
    cases hvb : v.ownBlock with
    | none => exact .inl rfl
    | some b => exact .inr (fun he => ht b he hvb)), fun e he => OwnSps.grew (h.each e he) hv.own hg (by decide) (by decide)⟩
theorem Two.grew {w w' : World} {base : Nat} {u v v' : Value} {l : List Le} (h : OwnEps w base u l) (hg : Grew w w' v v') (ht : Two u v) : Two u v' := fun b hb hvb => by
  rcases hg.blk with hk | ⟨g, hk, hk2⟩
  · rw [hk] at hvb
    exact ht b hb hvb
  · rw [hk] at hvb
    injection hvb with hvb
    have := own_block_lt h.own b hb
    omega
theorem Two.symm {u v : Value} (h : Two u v) : Two v u := fun b hb hub => h b hub hb
def goneE (now idle age : Int) (e : Ep) : Bool := decide (idle ≤ satS now e.la) || decide (age ≤ satS now e.f)
def CloseOf (L : List Ep) (now idle age : Int) (w : World) (e : Ending) (w' : World) : Prop :=
  ∃ (u v : Value) (l m : List Le), e = .returned (.tuple #[u, v]) ∧ OwnEps w' w.heap.size u l ∧ OwnEps w' w.heap.size v m ∧ l.map Le.ep = L.filter (fun e => !goneE now idle age e) ∧ m.map Le.ep = L.filter (goneE now idle age) ∧ Below w.heap.size w w'
set_option maxHeartbeats 16000000 in
theorem close_any (A : Option Addr) (l : List Le) (n c B : Nat) (now idle age : Int) (w : World) (hn : n = l.length) (hy : RdEps w B A l) (hB : B ≤ w.heap.size) (hg : ModE l) (ho : ∀ e ∈ l, e.ok) (hnow : -9223372036854775808 ≤ now ∧ now ≤ 9223372036854775807) :
    Calls Try.prog 22 #[.slice A n c, .int .i64 now, .int .i64 idle, .int .i64 age] w (CloseOf (l.map Le.ep) now idle age w) := by
  have HN := Lib.hid hn
  have HY := Lib.hid hy
  obtain ⟨hgl, hge⟩ := hg
  have hn1 : n ≤ 100000 := by omega
  have HGE := Lib.hid hge
  have HOK := Lib.hid ho
  have HNOW := Lib.hid hnow
  clear hn hy hgl hge ho hnow
  go_enter Try.func22, Try.ntmps22
  go_wp2_with fail
  go_loopw [17, 10, 11] (fun i u v wr => ∃ (k : Nat) (lu lv : List Le), i = .int .i64 k ∧ k ≤ n ∧ Hid (OwnEps wr w.heap.size u lu) ∧ Hid (OwnEps wr w.heap.size v lv) ∧ Hid (Two u v) ∧ Hid (lu.map Le.ep = ((l.map Le.ep).take k).filter (fun e => !goneE now idle age e) ∧ lv.map Le.ep = ((l.map Le.ep).take k).filter (goneE now idle age)) ∧ Hid (Below w.heap.size w wr)) (fun i _ _ _ => n - (intOf i).toNat)
  case atStart => exact ⟨0, [], [], rfl, Nat.zero_le _, Lib.hid OwnEps.nil, Lib.hid OwnEps.nil, Lib.hid (fun b hb => by cases hb), Lib.hid ⟨by simp, by simp⟩, Lib.hid (Below.refl _ _)⟩
  case round =>
    obtain ⟨k, lu, lv, rfl, hk, HU, HV, HT, HM, HB⟩ := hrel
    by_cases hlt : k < n
    · obtain ⟨e, he⟩ : ∃ e, l[k]? = some e := ⟨_, List.getElem?_eq_getElem (by rw [← HN.out]; exact hlt)⟩
      obtain ⟨hql, hqa⟩ := HGE.out e (List.mem_of_getElem? he)
      have hok := HOK.out e (List.mem_of_getElem? he)
      have hep : (l.map Le.ep)[k]? = some e.ep := by rw [List.getElem?_map, he]; rfl
      obtain ⟨th, tl, f, la, su, ls, eA, ec⟩ := e
      obtain ⟨q, hq⟩ : ∃ q, q = ls.length := ⟨_, rfl⟩
      simp only at hql hqa
      rw [← hq] at hql
      have hBr : B ≤ wr.heap.size := Nat.le_trans hB HB.out.size
      obtain ⟨a, ha, hab, c0, c1, c2, c3, c4, c5, hrd⟩ := epcells (HY.out.below (HB.out.mono hB)) he q hq
      subst ha
      have hfl : -9223372036854775808 ≤ f ∧ f ≤ 9223372036854775807 := ⟨hok.f.1, hok.f.2⟩
      have hla : -9223372036854775808 ≤ la ∧ la ≤ 9223372036854775807 := ⟨hok.la.1, hok.la.2⟩
      have CPY := Lib.hid (epcopy_any th tl f la su eA ls q ec B (wr.alloc (.cells #[.int .u64 th, .int .u64 tl, .int .i64 f, .int .i64 la, .bool su, .slice eA q ec] 30)) hq (hrd.below ((Below.refl _ _).alloc hBr _)) (Nat.le_trans hBr (by simp)) (by omega) hqa)
      have HBA : Hid (Below wr.heap.size wr (wr.alloc (.cells #[.int .u64 th, .int .u64 tl, .int .i64 f, .int .i64 la, .bool su, .slice eA q ec] 30))) := Lib.hid ((Below.refl _ _).alloc (Nat.le_refl _) _)
      have HSA : Hid ((wr.alloc (.cells #[.int .u64 th, .int .u64 tl, .int .i64 f, .int .i64 la, .bool su, .slice eA q ec] 30)).heap.size = wr.heap.size + 1) := Lib.hid (by simp)
      have HNA := Lib.hid (heap_alloc_new wr (.cells #[.int .u64 th, .int .u64 tl, .int .i64 f, .int .i64 la, .bool su, .slice eA q ec] 30))
      have HL1 : Hid (∀ W, Calls Try.prog 41 #[.int .i64 now, .int .i64 la] W fun e w' => e = .returned (.int .i64 (satS now la)) ∧ W = w') := Lib.hid (fun W => less_any now la W HNOW.out hla)
      have HL2 : Hid (∀ W, Calls Try.prog 41 #[.int .i64 now, .int .i64 f] W fun e w' => e = .returned (.int .i64 (satS now f)) ∧ W = w') := Lib.hid (fun W => less_any now f W HNOW.out hfl)
      have hll : lu.length ≤ 1000000 ∧ lv.length ≤ 1000000 := by
        have h1 := congrArg List.length HM.out.1
        have h2 := congrArg List.length HM.out.2
        have h3 := List.length_filter_le (fun e => !goneE now idle age e) ((l.map Le.ep).take k)
        have h4 := List.length_filter_le (goneE now idle age) ((l.map Le.ep).take k)
        simp only [List.length_map, List.length_take] at h1 h2 h3 h4
        have := HN.out
        omega
      have HLL := Lib.hid hll
      have hcases : (idle ≤ satS now la) ∨ (¬ idle ≤ satS now la ∧ age ≤ satS now f) ∨ (¬ idle ≤ satS now la ∧ ¬ age ≤ satS now f) := by omega
      have HGO : Hid (goneE now idle age ⟨th, tl, f, la, su, ls.map Ls.s⟩ = (decide (idle ≤ satS now la) || decide (age ≤ satS now f))) := Lib.hid rfl
      have HEP := Lib.hid hep
      clear hep he hq hrd hqa hok hfl hla hll
      generalize satS now la = s1 at *
      generalize satS now f = s2 at *
      rcases hcases with h1 | ⟨h1, h2⟩ | ⟨h1, h2⟩
      · have d1 : decide (idle ≤ s1) = true := decide_eq_true h1
        have HGQ : Hid (goneE now idle age ⟨th, tl, f, la, su, ls.map Ls.s⟩ = true) := Lib.hid (by rw [HGO.out, d1]; simp)
        clear HGO
        go_wp2_with (first
          | (have hd := done1; at_builtin; (refine wpList_app rfl (.tmp 37) (.tmp 39) _ _ rfl rfl rfl (AP.out _) ?_); rintro v5 w5 ⟨ho5, hg5⟩; have HO5 := Lib.hid ho5; have HG5 := Lib.hid hg5; clear ho5 hg5)
          | (go_at_call 40; (with_reducible refine (CPY.out).mono ?_); rintro e w3 ⟨A2, n2, c2, l2, rfl, hn2, ho3, hm2, hb3⟩; have hw3 : wr.heap.size < w3.heap.size := (by have h := hb3.size; rw [HSA.out] at h; omega); have hO3 : w3.heap[wr.heap.size]? = some (.cells #[.int .u64 th, .int .u64 tl, .int .i64 f, .int .i64 la, .bool su, .slice eA q ec] 30) := (hb3.block _ (by rw [HSA.out]; omega)).trans HNA.out; have hO4 : (w3.alloc (.cells #[.int .u64 th, .int .u64 tl, .int .i64 f, .int .i64 la, .bool su, .slice A2 n2 c2] 30)).heap[wr.heap.size]? = some (.cells #[.int .u64 th, .int .u64 tl, .int .i64 f, .int .i64 la, .bool su, .slice eA q ec] 30) := (heap_alloc_old w3 _ hw3).trans hO3; have o0 : (w3.alloc (.cells #[.int .u64 th, .int .u64 tl, .int .i64 f, .int .i64 la, .bool su, .slice A2 n2 c2] 30)).cell? ⟨wr.heap.size, 0, none⟩ = some (.int .u64 th) := cell_of_row _ _ 0 _ _ (0, 0) hO4; have o1 : (w3.alloc (.cells #[.int .u64 th, .int .u64 tl, .int .i64 f, .int .i64 la, .bool su, .slice A2 n2 c2] 30)).cell? ⟨wr.heap.size, 1, none⟩ = some (.int .u64 tl) := cell_of_row _ _ 1 _ _ (0, 0) hO4; have o2 : (w3.alloc (.cells #[.int .u64 th, .int .u64 tl, .int .i64 f, .int .i64 la, .bool su, .slice A2 n2 c2] 30)).cell? ⟨wr.heap.size, 2, none⟩ = some (.int .i64 f) := cell_of_row _ _ 2 _ _ (0, 0) hO4; have o3 : (w3.alloc (.cells #[.int .u64 th, .int .u64 tl, .int .i64 f, .int .i64 la, .bool su, .slice A2 n2 c2] 30)).cell? ⟨wr.heap.size, 3, none⟩ = some (.int .i64 la) := cell_of_row _ _ 3 _ _ (0, 0) hO4; have o4 : (w3.alloc (.cells #[.int .u64 th, .int .u64 tl, .int .i64 f, .int .i64 la, .bool su, .slice A2 n2 c2] 30)).cell? ⟨wr.heap.size, 4, none⟩ = some (.bool su) := cell_of_row _ _ 4 _ _ (0, 0) hO4; have o5 : (w3.alloc (.cells #[.int .u64 th, .int .u64 tl, .int .i64 f, .int .i64 la, .bool su, .slice A2 n2 c2] 30)).cell? ⟨wr.heap.size, 5, none⟩ = some (.slice eA q ec) := cell_of_row _ _ 5 _ _ (0, 0) hO4; have g0 : (w3.alloc (.cells #[.int .u64 th, .int .u64 tl, .int .i64 f, .int .i64 la, .bool su, .slice A2 n2 c2] 30)).cell? ⟨w3.heap.size, 0, none⟩ = some (.int .u64 th) := cell_of_row _ _ 0 _ _ (0, 0) (heap_alloc_new w3 _); have g1 : (w3.alloc (.cells #[.int .u64 th, .int .u64 tl, .int .i64 f, .int .i64 la, .bool su, .slice A2 n2 c2] 30)).cell? ⟨w3.heap.size, 1, none⟩ = some (.int .u64 tl) := cell_of_row _ _ 1 _ _ (0, 0) (heap_alloc_new w3 _); have g2 : (w3.alloc (.cells #[.int .u64 th, .int .u64 tl, .int .i64 f, .int .i64 la, .bool su, .slice A2 n2 c2] 30)).cell? ⟨w3.heap.size, 2, none⟩ = some (.int .i64 f) := cell_of_row _ _ 2 _ _ (0, 0) (heap_alloc_new w3 _); have g3 : (w3.alloc (.cells #[.int .u64 th, .int .u64 tl, .int .i64 f, .int .i64 la, .bool su, .slice A2 n2 c2] 30)).cell? ⟨w3.heap.size, 3, none⟩ = some (.int .i64 la) := cell_of_row _ _ 3 _ _ (0, 0) (heap_alloc_new w3 _); have g4 : (w3.alloc (.cells #[.int .u64 th, .int .u64 tl, .int .i64 f, .int .i64 la, .bool su, .slice A2 n2 c2] 30)).cell? ⟨w3.heap.size, 4, none⟩ = some (.bool su) := cell_of_row _ _ 4 _ _ (0, 0) (heap_alloc_new w3 _); have g5 : (w3.alloc (.cells #[.int .u64 th, .int .u64 tl, .int .i64 f, .int .i64 la, .bool su, .slice A2 n2 c2] 30)).cell? ⟨w3.heap.size, 5, none⟩ = some (.slice A2 n2 c2) := cell_of_row _ _ 5 _ _ (0, 0) (heap_alloc_new w3 _); have hb31 := HBA.out.trans (hb3.mono (by rw [HSA.out]; omega)); have hbX : Below wr.heap.size wr (w3.alloc (.cells #[.int .u64 th, .int .u64 tl, .int .i64 f, .int .i64 la, .bool su, .slice A2 n2 c2] 30)) := hb31.alloc hb31.size _; have hbZ : Below wr.heap.size wr ((w3.alloc (.cells #[.int .u64 th, .int .u64 tl, .int .i64 f, .int .i64 la, .bool su, .slice A2 n2 c2] 30)).alloc (.cells #[.int .u64 th, .int .u64 tl, .int .i64 f, .int .i64 la, .bool su, .slice A2 n2 c2] 30)) := hbX.alloc hbX.size _; have hbase : w.heap.size ≤ (wr.alloc (.cells #[.int .u64 th, .int .u64 tl, .int .i64 f, .int .i64 la, .bool su, .slice eA q ec] 30)).heap.size := (by rw [HSA.out]; have := HB.out.size; omega); have hoE : OwnSps ((w3.alloc (.cells #[.int .u64 th, .int .u64 tl, .int .i64 f, .int .i64 la, .bool su, .slice A2 n2 c2] 30)).alloc (.cells #[.int .u64 th, .int .u64 tl, .int .i64 f, .int .i64 la, .bool su, .slice A2 n2 c2] 30)) w.heap.size (.slice A2 n2 c2) l2 := ((ho3.mono hbase).below ((Below.refl _ _).alloc (Nat.le_refl _) _)).below ((Below.refl _ _).alloc (Nat.le_refl _) _); have hn2' : n2 = l2.length := (by rw [hn2, ← hm2, List.length_map]); have hsX : (w3.alloc (.cells #[.int .u64 th, .int .u64 tl, .int .i64 f, .int .i64 la, .bool su, .slice A2 n2 c2] 30)).heap.size = w3.heap.size + 1 := (by simp); have hrdZ := Rd.lit (w3.alloc (.cells #[.int .u64 th, .int .u64 tl, .int .i64 f, .int .i64 la, .bool su, .slice A2 n2 c2] 30)) #[.int .u64 th, .int .u64 tl, .int .i64 f, .int .i64 la, .bool su, .slice A2 n2 c2] 30; rw [hsX] at hrdZ; have HOZ := Lib.hid (HV.out.below hbZ); have HTZ := Lib.hid (HU.out.below hbZ); have AP := Lib.hid (fun ty => appEp (ty := ty) (xs := [⟨th, tl, f, la, su, l2, A2, c2⟩]) 1 1 rfl HOZ.out (fun e he => by rw [List.mem_singleton] at he; subst he; show OwnSps _ _ (.slice A2 l2.length c2) l2; rw [← hn2']; exact hoE) (by rw [List.flatMap_cons, List.flatMap_nil, List.append_nil, Le.lit_cells _ _ _ _ _ _ _ _ n2 hn2']; exact hrdZ) HLL.out.2 (by omega) (Nat.le_trans HB.out.size hbZ.size)); have HBZ := Lib.hid (HB.out.trans (hbZ.mono HB.out.size)); have HSZ := Lib.hid hbZ.size; have HM2 := Lib.hid hm2; clear hO3 hO4 hb31 hbX hbZ hbase hoE hn2' hsX hrdZ ho3 hb3 hn2 hm2; have done1 := trivial)
          | (go_at_call 41; (with_reducible refine (HL1.out _).mono ?_); rintro e wN ⟨rfl, rfl⟩))
        go_roundw
        case rel =>
          refine ⟨k + 1, lu, lv ++ [⟨th, tl, f, la, su, l2, A2, c2⟩], by go_num, by omega, Lib.hid (HTZ.out.beside HOZ.out HG5.out HT.out), HO5, Lib.hid (HT.out.grew HTZ.out HG5.out), Lib.hid ⟨?_, ?_⟩, Lib.hid (HG5.out.below HBZ.out (Nat.le_trans HB.out.size HSZ.out) (own_block_ge HOZ.out.own))⟩
          · rw [List.take_add_one, HEP.out, List.filter_append, ← HM.out.1]
            simp [Le.ep, HGQ.out]
          · rw [List.take_add_one, HEP.out, List.filter_append, ← HM.out.2, List.map_append]
            simp [Le.ep, HGQ.out, HM2.out]
        case measure => simp [intOf]; omega
      · have d1 : decide (idle ≤ s1) = false := decide_eq_false h1
        have d2 : decide (age ≤ s2) = true := decide_eq_true h2
        have HGQ : Hid (goneE now idle age ⟨th, tl, f, la, su, ls.map Ls.s⟩ = true) := Lib.hid (by rw [HGO.out, d1, d2]; simp)
        clear HGO
        go_wp2_with (first
          | (have hd := done1; at_builtin; (refine wpList_app rfl (.tmp 37) (.tmp 39) _ _ rfl rfl rfl (AP.out _) ?_); rintro v5 w5 ⟨ho5, hg5⟩; have HO5 := Lib.hid ho5; have HG5 := Lib.hid hg5; clear ho5 hg5)
          | (go_at_call 40; (with_reducible refine (CPY.out).mono ?_); rintro e w3 ⟨A2, n2, c2, l2, rfl, hn2, ho3, hm2, hb3⟩; have hw3 : wr.heap.size < w3.heap.size := (by have h := hb3.size; rw [HSA.out] at h; omega); have hO3 : w3.heap[wr.heap.size]? = some (.cells #[.int .u64 th, .int .u64 tl, .int .i64 f, .int .i64 la, .bool su, .slice eA q ec] 30) := (hb3.block _ (by rw [HSA.out]; omega)).trans HNA.out; have hO4 : (w3.alloc (.cells #[.int .u64 th, .int .u64 tl, .int .i64 f, .int .i64 la, .bool su, .slice A2 n2 c2] 30)).heap[wr.heap.size]? = some (.cells #[.int .u64 th, .int .u64 tl, .int .i64 f, .int .i64 la, .bool su, .slice eA q ec] 30) := (heap_alloc_old w3 _ hw3).trans hO3; have o0 : (w3.alloc (.cells #[.int .u64 th, .int .u64 tl, .int .i64 f, .int .i64 la, .bool su, .slice A2 n2 c2] 30)).cell? ⟨wr.heap.size, 0, none⟩ = some (.int .u64 th) := cell_of_row _ _ 0 _ _ (0, 0) hO4; have o1 : (w3.alloc (.cells #[.int .u64 th, .int .u64 tl, .int .i64 f, .int .i64 la, .bool su, .slice A2 n2 c2] 30)).cell? ⟨wr.heap.size, 1, none⟩ = some (.int .u64 tl) := cell_of_row _ _ 1 _ _ (0, 0) hO4; have o2 : (w3.alloc (.cells #[.int .u64 th, .int .u64 tl, .int .i64 f, .int .i64 la, .bool su, .slice A2 n2 c2] 30)).cell? ⟨wr.heap.size, 2, none⟩ = some (.int .i64 f) := cell_of_row _ _ 2 _ _ (0, 0) hO4; have o3 : (w3.alloc (.cells #[.int .u64 th, .int .u64 tl, .int .i64 f, .int .i64 la, .bool su, .slice A2 n2 c2] 30)).cell? ⟨wr.heap.size, 3, none⟩ = some (.int .i64 la) := cell_of_row _ _ 3 _ _ (0, 0) hO4; have o4 : (w3.alloc (.cells #[.int .u64 th, .int .u64 tl, .int .i64 f, .int .i64 la, .bool su, .slice A2 n2 c2] 30)).cell? ⟨wr.heap.size, 4, none⟩ = some (.bool su) := cell_of_row _ _ 4 _ _ (0, 0) hO4; have o5 : (w3.alloc (.cells #[.int .u64 th, .int .u64 tl, .int .i64 f, .int .i64 la, .bool su, .slice A2 n2 c2] 30)).cell? ⟨wr.heap.size, 5, none⟩ = some (.slice eA q ec) := cell_of_row _ _ 5 _ _ (0, 0) hO4; have g0 : (w3.alloc (.cells #[.int .u64 th, .int .u64 tl, .int .i64 f, .int .i64 la, .bool su, .slice A2 n2 c2] 30)).cell? ⟨w3.heap.size, 0, none⟩ = some (.int .u64 th) := cell_of_row _ _ 0 _ _ (0, 0) (heap_alloc_new w3 _); have g1 : (w3.alloc (.cells #[.int .u64 th, .int .u64 tl, .int .i64 f, .int .i64 la, .bool su, .slice A2 n2 c2] 30)).cell? ⟨w3.heap.size, 1, none⟩ = some (.int .u64 tl) := cell_of_row _ _ 1 _ _ (0, 0) (heap_alloc_new w3 _); have g2 : (w3.alloc (.cells #[.int .u64 th, .int .u64 tl, .int .i64 f, .int .i64 la, .bool su, .slice A2 n2 c2] 30)).cell? ⟨w3.heap.size, 2, none⟩ = some (.int .i64 f) := cell_of_row _ _ 2 _ _ (0, 0) (heap_alloc_new w3 _); have g3 : (w3.alloc (.cells #[.int .u64 th, .int .u64 tl, .int .i64 f, .int .i64 la, .bool su, .slice A2 n2 c2] 30)).cell? ⟨w3.heap.size, 3, none⟩ = some (.int .i64 la) := cell_of_row _ _ 3 _ _ (0, 0) (heap_alloc_new w3 _); have g4 : (w3.alloc (.cells #[.int .u64 th, .int .u64 tl, .int .i64 f, .int .i64 la, .bool su, .slice A2 n2 c2] 30)).cell? ⟨w3.heap.size, 4, none⟩ = some (.bool su) := cell_of_row _ _ 4 _ _ (0, 0) (heap_alloc_new w3 _); have g5 : (w3.alloc (.cells #[.int .u64 th, .int .u64 tl, .int .i64 f, .int .i64 la, .bool su, .slice A2 n2 c2] 30)).cell? ⟨w3.heap.size, 5, none⟩ = some (.slice A2 n2 c2) := cell_of_row _ _ 5 _ _ (0, 0) (heap_alloc_new w3 _); have hb31 := HBA.out.trans (hb3.mono (by rw [HSA.out]; omega)); have hbX : Below wr.heap.size wr (w3.alloc (.cells #[.int .u64 th, .int .u64 tl, .int .i64 f, .int .i64 la, .bool su, .slice A2 n2 c2] 30)) := hb31.alloc hb31.size _; have hbZ : Below wr.heap.size wr ((w3.alloc (.cells #[.int .u64 th, .int .u64 tl, .int .i64 f, .int .i64 la, .bool su, .slice A2 n2 c2] 30)).alloc (.cells #[.int .u64 th, .int .u64 tl, .int .i64 f, .int .i64 la, .bool su, .slice A2 n2 c2] 30)) := hbX.alloc hbX.size _; have hbase : w.heap.size ≤ (wr.alloc (.cells #[.int .u64 th, .int .u64 tl, .int .i64 f, .int .i64 la, .bool su, .slice eA q ec] 30)).heap.size := (by rw [HSA.out]; have := HB.out.size; omega); have hoE : OwnSps ((w3.alloc (.cells #[.int .u64 th, .int .u64 tl, .int .i64 f, .int .i64 la, .bool su, .slice A2 n2 c2] 30)).alloc (.cells #[.int .u64 th, .int .u64 tl, .int .i64 f, .int .i64 la, .bool su, .slice A2 n2 c2] 30)) w.heap.size (.slice A2 n2 c2) l2 := ((ho3.mono hbase).below ((Below.refl _ _).alloc (Nat.le_refl _) _)).below ((Below.refl _ _).alloc (Nat.le_refl _) _); have hn2' : n2 = l2.length := (by rw [hn2, ← hm2, List.length_map]); have hsX : (w3.alloc (.cells #[.int .u64 th, .int .u64 tl, .int .i64 f, .int .i64 la, .bool su, .slice A2 n2 c2] 30)).heap.size = w3.heap.size + 1 := (by simp); have hrdZ := Rd.lit (w3.alloc (.cells #[.int .u64 th, .int .u64 tl, .int .i64 f, .int .i64 la, .bool su, .slice A2 n2 c2] 30)) #[.int .u64 th, .int .u64 tl, .int .i64 f, .int .i64 la, .bool su, .slice A2 n2 c2] 30; rw [hsX] at hrdZ; have HOZ := Lib.hid (HV.out.below hbZ); have HTZ := Lib.hid (HU.out.below hbZ); have AP := Lib.hid (fun ty => appEp (ty := ty) (xs := [⟨th, tl, f, la, su, l2, A2, c2⟩]) 1 1 rfl HOZ.out (fun e he => by rw [List.mem_singleton] at he; subst he; show OwnSps _ _ (.slice A2 l2.length c2) l2; rw [← hn2']; exact hoE) (by rw [List.flatMap_cons, List.flatMap_nil, List.append_nil, Le.lit_cells _ _ _ _ _ _ _ _ n2 hn2']; exact hrdZ) HLL.out.2 (by omega) (Nat.le_trans HB.out.size hbZ.size)); have HBZ := Lib.hid (HB.out.trans (hbZ.mono HB.out.size)); have HSZ := Lib.hid hbZ.size; have HM2 := Lib.hid hm2; clear hO3 hO4 hb31 hbX hbZ hbase hoE hn2' hsX hrdZ ho3 hb3 hn2 hm2; have done1 := trivial)
          | (have hd := done2; go_at_call 41; (with_reducible refine (HL2.out _).mono ?_); rintro e wN ⟨rfl, rfl⟩)
          | (go_at_call 41; (with_reducible refine (HL1.out _).mono ?_); rintro e wN ⟨rfl, rfl⟩; have done2 := trivial))
        go_roundw
        case rel =>
          refine ⟨k + 1, lu, lv ++ [⟨th, tl, f, la, su, l2, A2, c2⟩], by go_num, by omega, Lib.hid (HTZ.out.beside HOZ.out HG5.out HT.out), HO5, Lib.hid (HT.out.grew HTZ.out HG5.out), Lib.hid ⟨?_, ?_⟩, Lib.hid (HG5.out.below HBZ.out (Nat.le_trans HB.out.size HSZ.out) (own_block_ge HOZ.out.own))⟩
          · rw [List.take_add_one, HEP.out, List.filter_append, ← HM.out.1]
            simp [Le.ep, HGQ.out]
          · rw [List.take_add_one, HEP.out, List.filter_append, ← HM.out.2, List.map_append]
            simp [Le.ep, HGQ.out, HM2.out]
        case measure => simp [intOf]; omega
      · have d1 : decide (idle ≤ s1) = false := decide_eq_false h1
        have d2 : decide (age ≤ s2) = false := decide_eq_false h2
        have HGQ : Hid (goneE now idle age ⟨th, tl, f, la, su, ls.map Ls.s⟩ = false) := Lib.hid (by rw [HGO.out, d1, d2]; simp)
        clear HGO
        go_wp2_with (first
          | (have hd := done1; at_builtin; (refine wpList_app rfl (.tmp 41) (.tmp 43) _ _ rfl rfl rfl (AP.out _) ?_); rintro v5 w5 ⟨ho5, hg5⟩; have HO5 := Lib.hid ho5; have HG5 := Lib.hid hg5; clear ho5 hg5)
          | (go_at_call 40; (with_reducible refine (CPY.out).mono ?_); rintro e w3 ⟨A2, n2, c2, l2, rfl, hn2, ho3, hm2, hb3⟩; have hw3 : wr.heap.size < w3.heap.size := (by have h := hb3.size; rw [HSA.out] at h; omega); have hO3 : w3.heap[wr.heap.size]? = some (.cells #[.int .u64 th, .int .u64 tl, .int .i64 f, .int .i64 la, .bool su, .slice eA q ec] 30) := (hb3.block _ (by rw [HSA.out]; omega)).trans HNA.out; have hO4 : (w3.alloc (.cells #[.int .u64 th, .int .u64 tl, .int .i64 f, .int .i64 la, .bool su, .slice A2 n2 c2] 30)).heap[wr.heap.size]? = some (.cells #[.int .u64 th, .int .u64 tl, .int .i64 f, .int .i64 la, .bool su, .slice eA q ec] 30) := (heap_alloc_old w3 _ hw3).trans hO3; have o0 : (w3.alloc (.cells #[.int .u64 th, .int .u64 tl, .int .i64 f, .int .i64 la, .bool su, .slice A2 n2 c2] 30)).cell? ⟨wr.heap.size, 0, none⟩ = some (.int .u64 th) := cell_of_row _ _ 0 _ _ (0, 0) hO4; have o1 : (w3.alloc (.cells #[.int .u64 th, .int .u64 tl, .int .i64 f, .int .i64 la, .bool su, .slice A2 n2 c2] 30)).cell? ⟨wr.heap.size, 1, none⟩ = some (.int .u64 tl) := cell_of_row _ _ 1 _ _ (0, 0) hO4; have o2 : (w3.alloc (.cells #[.int .u64 th, .int .u64 tl, .int .i64 f, .int .i64 la, .bool su, .slice A2 n2 c2] 30)).cell? ⟨wr.heap.size, 2, none⟩ = some (.int .i64 f) := cell_of_row _ _ 2 _ _ (0, 0) hO4; have o3 : (w3.alloc (.cells #[.int .u64 th, .int .u64 tl, .int .i64 f, .int .i64 la, .bool su, .slice A2 n2 c2] 30)).cell? ⟨wr.heap.size, 3, none⟩ = some (.int .i64 la) := cell_of_row _ _ 3 _ _ (0, 0) hO4; have o4 : (w3.alloc (.cells #[.int .u64 th, .int .u64 tl, .int .i64 f, .int .i64 la, .bool su, .slice A2 n2 c2] 30)).cell? ⟨wr.heap.size, 4, none⟩ = some (.bool su) := cell_of_row _ _ 4 _ _ (0, 0) hO4; have o5 : (w3.alloc (.cells #[.int .u64 th, .int .u64 tl, .int .i64 f, .int .i64 la, .bool su, .slice A2 n2 c2] 30)).cell? ⟨wr.heap.size, 5, none⟩ = some (.slice eA q ec) := cell_of_row _ _ 5 _ _ (0, 0) hO4; have g0 : (w3.alloc (.cells #[.int .u64 th, .int .u64 tl, .int .i64 f, .int .i64 la, .bool su, .slice A2 n2 c2] 30)).cell? ⟨w3.heap.size, 0, none⟩ = some (.int .u64 th) := cell_of_row _ _ 0 _ _ (0, 0) (heap_alloc_new w3 _); have g1 : (w3.alloc (.cells #[.int .u64 th, .int .u64 tl, .int .i64 f, .int .i64 la, .bool su, .slice A2 n2 c2] 30)).cell? ⟨w3.heap.size, 1, none⟩ = some (.int .u64 tl) := cell_of_row _ _ 1 _ _ (0, 0) (heap_alloc_new w3 _); have g2 : (w3.alloc (.cells #[.int .u64 th, .int .u64 tl, .int .i64 f, .int .i64 la, .bool su, .slice A2 n2 c2] 30)).cell? ⟨w3.heap.size, 2, none⟩ = some (.int .i64 f) := cell_of_row _ _ 2 _ _ (0, 0) (heap_alloc_new w3 _); have g3 : (w3.alloc (.cells #[.int .u64 th, .int .u64 tl, .int .i64 f, .int .i64 la, .bool su, .slice A2 n2 c2] 30)).cell? ⟨w3.heap.size, 3, none⟩ = some (.int .i64 la) := cell_of_row _ _ 3 _ _ (0, 0) (heap_alloc_new w3 _); have g4 : (w3.alloc (.cells #[.int .u64 th, .int .u64 tl, .int .i64 f, .int .i64 la, .bool su, .slice A2 n2 c2] 30)).cell? ⟨w3.heap.size, 4, none⟩ = some (.bool su) := cell_of_row _ _ 4 _ _ (0, 0) (heap_alloc_new w3 _); have g5 : (w3.alloc (.cells #[.int .u64 th, .int .u64 tl, .int .i64 f, .int .i64 la, .bool su, .slice A2 n2 c2] 30)).cell? ⟨w3.heap.size, 5, none⟩ = some (.slice A2 n2 c2) := cell_of_row _ _ 5 _ _ (0, 0) (heap_alloc_new w3 _); have hb31 := HBA.out.trans (hb3.mono (by rw [HSA.out]; omega)); have hbX : Below wr.heap.size wr (w3.alloc (.cells #[.int .u64 th, .int .u64 tl, .int .i64 f, .int .i64 la, .bool su, .slice A2 n2 c2] 30)) := hb31.alloc hb31.size _; have hbZ : Below wr.heap.size wr ((w3.alloc (.cells #[.int .u64 th, .int .u64 tl, .int .i64 f, .int .i64 la, .bool su, .slice A2 n2 c2] 30)).alloc (.cells #[.int .u64 th, .int .u64 tl, .int .i64 f, .int .i64 la, .bool su, .slice A2 n2 c2] 30)) := hbX.alloc hbX.size _; have hbase : w.heap.size ≤ (wr.alloc (.cells #[.int .u64 th, .int .u64 tl, .int .i64 f, .int .i64 la, .bool su, .slice eA q ec] 30)).heap.size := (by rw [HSA.out]; have := HB.out.size; omega); have hoE : OwnSps ((w3.alloc (.cells #[.int .u64 th, .int .u64 tl, .int .i64 f, .int .i64 la, .bool su, .slice A2 n2 c2] 30)).alloc (.cells #[.int .u64 th, .int .u64 tl, .int .i64 f, .int .i64 la, .bool su, .slice A2 n2 c2] 30)) w.heap.size (.slice A2 n2 c2) l2 := ((ho3.mono hbase).below ((Below.refl _ _).alloc (Nat.le_refl _) _)).below ((Below.refl _ _).alloc (Nat.le_refl _) _); have hn2' : n2 = l2.length := (by rw [hn2, ← hm2, List.length_map]); have hsX : (w3.alloc (.cells #[.int .u64 th, .int .u64 tl, .int .i64 f, .int .i64 la, .bool su, .slice A2 n2 c2] 30)).heap.size = w3.heap.size + 1 := (by simp); have hrdZ := Rd.lit (w3.alloc (.cells #[.int .u64 th, .int .u64 tl, .int .i64 f, .int .i64 la, .bool su, .slice A2 n2 c2] 30)) #[.int .u64 th, .int .u64 tl, .int .i64 f, .int .i64 la, .bool su, .slice A2 n2 c2] 30; rw [hsX] at hrdZ; have HOZ := Lib.hid (HU.out.below hbZ); have HTZ := Lib.hid (HV.out.below hbZ); have AP := Lib.hid (fun ty => appEp (ty := ty) (xs := [⟨th, tl, f, la, su, l2, A2, c2⟩]) 1 1 rfl HOZ.out (fun e he => by rw [List.mem_singleton] at he; subst he; show OwnSps _ _ (.slice A2 l2.length c2) l2; rw [← hn2']; exact hoE) (by rw [List.flatMap_cons, List.flatMap_nil, List.append_nil, Le.lit_cells _ _ _ _ _ _ _ _ n2 hn2']; exact hrdZ) HLL.out.1 (by omega) (Nat.le_trans HB.out.size hbZ.size)); have HBZ := Lib.hid (HB.out.trans (hbZ.mono HB.out.size)); have HSZ := Lib.hid hbZ.size; have HM2 := Lib.hid hm2; clear hO3 hO4 hb31 hbX hbZ hbase hoE hn2' hsX hrdZ ho3 hb3 hn2 hm2; have done1 := trivial)
          | (have hd := done2; go_at_call 41; (with_reducible refine (HL2.out _).mono ?_); rintro e wN ⟨rfl, rfl⟩)
          | (go_at_call 41; (with_reducible refine (HL1.out _).mono ?_); rintro e wN ⟨rfl, rfl⟩; have done2 := trivial))
        go_roundw
        case rel =>
          refine ⟨k + 1, lu ++ [⟨th, tl, f, la, su, l2, A2, c2⟩], lv, by go_num, by omega, HO5, Lib.hid (HTZ.out.beside HOZ.out HG5.out HT.out.symm), Lib.hid (Two.symm (HT.out.symm.grew HTZ.out HG5.out)), Lib.hid ⟨?_, ?_⟩, Lib.hid (HG5.out.below HBZ.out (Nat.le_trans HB.out.size HSZ.out) (own_block_ge HOZ.out.own))⟩
          · rw [List.take_add_one, HEP.out, List.filter_append, ← HM.out.1, List.map_append]
            simp [Le.ep, HGQ.out, HM2.out]
          · rw [List.take_add_one, HEP.out, List.filter_append, ← HM.out.2]
            simp [Le.ep, HGQ.out]
        case measure => simp [intOf]; omega
    · obtain rfl : k = n := by omega
      have HF : Hid ((l.map Le.ep).take k = l.map Le.ep) := Lib.hid (List.take_of_length_le (by rw [List.length_map, ← HN.out]; exact Nat.le_refl _))
      rw [HF.out] at HM
      go_wp2_with fail
      go_ret2
      exact ⟨_, _, lu, lv, rfl, HU.out, HV.out, HM.out.1, HM.out.2, HB.out⟩
end Go.Proofs.Ytenioeppmgmdiaa
