/- Copies of episodes. -/
import Derived.Test.YtmldelgbmadegaaEo
import Derived.OwnWalk
namespace Go.Proofs.Ytmldelgbmadegaa
open Go.RowKit
set_option linter.unusedVariables false
set_option linter.unusedSimpArgs false
set_option maxRecDepth 100000

/-- What an episode says. -/
structure Ep where
  hi : Int
  lo : Int
  f : Int
  la : Int
  su : Bool
  l : List Sp
def Le.ep (e : Le) : Ep := ⟨e.hi, e.lo, e.f, e.la, e.su, e.l.map Ls.s⟩
/-- None of them too great to be copied. -/
def ModE (l : List Le) : Prop := l.length ≤ 100000 ∧ ∀ e ∈ l, e.l.length ≤ 90000 ∧ ∀ x ∈ e.l, x.s.ats.length ≤ 100000
/-- What copies of episodes are. -/
def CopiesE (l : List Ep) (w : World) (e : Ending) (w' : World) : Prop := ∃ (v : Value) (l' : List Le), e = .returned v ∧ OwnEps w' w.heap.size v l' ∧ l'.map Le.ep = l ∧ Below w.heap.size w w'
theorem Le.lit_cells (th tl f la : Int) (su : Bool) (l : List Ls) (A : Option Addr) (c n : Nat) (hn : n = l.length) : (Le.mk th tl f la su l A c).cells = [.int .u64 th, .int .u64 tl, .int .i64 f, .int .i64 la, .bool su, .slice A n c] := by subst hn; rfl
/-- An episode's cells, by number. -/
theorem epcells {w : World} {B : Nat} {A : Option Addr} {l : List Le} (h : RdEps w B A l) {k : Nat} {th tl f la : Int} {su : Bool} {ls : List Ls} {eA : Option Addr} {ec : Nat} (he : l[k]? = some ⟨th, tl, f, la, su, ls, eA, ec⟩) (m : Nat) (hm : m = ls.length) :
    ∃ a, A = some a ∧ a.block < B ∧ w.cell? (a.add (k * 6)) = some (.int .u64 th) ∧ w.cell? ⟨(a.add (k * 6)).block, (a.add (k * 6)).off + 1, none⟩ = some (.int .u64 tl) ∧ w.cell? ⟨(a.add (k * 6)).block, (a.add (k * 6)).off + 2, none⟩ = some (.int .i64 f) ∧ w.cell? ⟨(a.add (k * 6)).block, (a.add (k * 6)).off + 3, none⟩ = some (.int .i64 la) ∧ w.cell? ⟨(a.add (k * 6)).block, (a.add (k * 6)).off + 4, none⟩ = some (.bool su) ∧ w.cell? ⟨(a.add (k * 6)).block, (a.add (k * 6)).off + 5, none⟩ = some (.slice eA m ec) ∧ RdSps w B eA ls := by
  obtain ⟨a, ha, hab, hc, hl2⟩ := h.at_ he
  have c0 := hc 0 _ rfl
  simp only [Nat.add_zero] at c0
  exact ⟨a, ha, hab, c0, cell_far (hc 1 _ rfl) (by omega), cell_far (hc 2 _ rfl) (by omega), cell_far (hc 3 _ rfl) (by omega), cell_far (hc 4 _ rfl) (by omega), by rw [hm]; exact cell_far (hc 5 _ rfl) (by omega), hl2⟩

set_option maxHeartbeats 8000000 in
theorem ecopies_any (A : Option Addr) (l : List Le) (n c B : Nat) (w : World) (hn : n = l.length) (hy : RdEps w B A l) (hB : B ≤ w.heap.size) (hg : ModE l) :
    Calls Try.prog 66 #[.slice A n c] w (CopiesE (l.map Le.ep) w) := by
  obtain ⟨i0, hi, hz0, hz1, hz2⟩ := info_parts infoEp
  have HN := Lib.hid hn
  have HY := Lib.hid hy
  obtain ⟨hl, ha⟩ := hg
  rw [← hn] at hl
  have HA := Lib.hid ha
  have ML : maxLen = 9223372036854775807 := by decide
  have hbyt : i0.bytes * n ≤ 281474976710656 := by rw [hz2]; omega
  have hml : n ≤ maxLen := by rw [ML]; omega
  have HI := Lib.hid (And.intro hi (And.intro hz0 (And.intro hz1 (And.intro hbyt hml))))
  clear hn hy ha hi hz0 hz1 hz2 hbyt hml ML
  go_enter Try.func66, Try.ntmps66
  go_wp2_with (at_make; refine wpList_make_own _ rfl _ _ 22 rfl w.heap.size 48 i0 _ 6 Try.underlying22 HI.out.1 HI.out.2.1 HI.out.2.2.1 .i64 .i64 _ n rfl rfl rfl HI.out.2.2.2.1 HI.out.2.2.2.2 (Nat.le_refl _) ?_; intro w0 hown0 hgrow0)
  have HB0 := Lib.hid (grown_below hgrow0)
  have HO0 : Hid (OwnEps w0 w.heap.size (.slice (some ⟨w.heap.size, 0, none⟩) 0 n) []) := Lib.hid ⟨hown0, fun _ h => by cases h⟩
  clear hown0 hgrow0 HI
  go_loopw [3, 11] (fun v i wr => ∃ (k : Nat) (l' : List Le), i = .int .i64 k ∧ k ≤ n ∧ Hid (OwnEps wr w.heap.size v l' ∧ l'.map Le.ep = (l.take k).map Le.ep) ∧ Hid (Below w.heap.size w wr)) (fun _ i _ => n - (intOf i).toNat)
  case atStart => exact ⟨0, [], rfl, Nat.zero_le _, Lib.hid ⟨HO0.out, rfl⟩, HB0⟩
  case round =>
    obtain ⟨k, l', rfl, hk, HO, HB⟩ := hrel
    by_cases hlt : k < n
    · obtain ⟨x, hx⟩ : ∃ x, l[k]? = some x := ⟨_, List.getElem?_eq_getElem (by rw [← HN.out]; exact hlt)⟩
      have HR : Hid (RdEps wr B A l) := Lib.hid (HY.out.below (HB.out.mono hB))
      have hBr : B ≤ wr.heap.size := Nat.le_trans hB HB.out.size
      obtain ⟨hln, hat⟩ := HA.out x (List.mem_of_getElem? hx)
      obtain ⟨th, tl, f, la, su, ls, eA, ec⟩ := x
      obtain ⟨m, hm⟩ : ∃ m, m = ls.length := ⟨_, rfl⟩
      simp only at hln hat
      rw [← hm] at hln
      obtain ⟨a, ha, hab, c0, c1, c2, c3, c4, c5, hl2⟩ := epcells HR.out hx m hm
      subst ha
      have hll : l'.length ≤ 1000000 := by
        have h1 := congrArg List.length HO.out.2
        simp only [List.length_map, List.length_take] at h1
        have := HN.out
        omega
      have HX := Lib.hid hx
      have CP := Lib.hid (epcopy_any th tl f la su eA ls m ec B (wr.alloc (.cells #[.int .u64 th, .int .u64 tl, .int .i64 f, .int .i64 la, .bool su, .slice eA m ec] 48)) hm (hl2.below ((Below.refl _ _).alloc hBr _)) (Nat.le_trans hBr (by simp)) (by omega) hat)
      have hab2 : (a.add (k * 6)).block < wr.heap.size := by rw [block_add]; omega
      have hsz : (wr.alloc (.cells #[.int .u64 th, .int .u64 tl, .int .i64 f, .int .i64 la, .bool su, .slice eA m ec] 48)).heap.size = wr.heap.size + 1 := by simp
      have HSZ := Lib.hid hsz
      have HBA : Hid (Below wr.heap.size wr (wr.alloc (.cells #[.int .u64 th, .int .u64 tl, .int .i64 f, .int .i64 la, .bool su, .slice eA m ec] 48))) := Lib.hid ((Below.refl _ _).alloc (Nat.le_refl _) _)
      clear hl2 hx hm hsz hat
      go_wp2_with (first
        | (go_at_call 78; (with_reducible refine (CP.out).mono ?_); rintro e w2 ⟨A2, n2, c2, l2, rfl, hn2, ho2, hm2, hb2⟩; have HO2 := Lib.hid ho2; have HM2 := Lib.hid hm2; have HN2 := Lib.hid (show n2 = l2.length by rw [hn2, ← hm2, List.length_map]); have HB2 := Lib.hid (HBA.out.trans (hb2.mono (by rw [HSZ.out]; exact Nat.le_succ _))); clear ho2 hb2 hn2 hm2)
        | (at_builtin; go_loud (refine wpList_app rfl (.tmp 15) (.tmp 18) _ _ rfl rfl rfl (appEp (xs := [⟨th, tl, f, la, su, l2, A2, c2⟩]) 1 1 rfl (HO.out.1.below (HB2.out.trans ((Below.refl _ _).alloc HB2.out.size _))) (fun e he => by
            rw [List.mem_singleton] at he
            subst he
            show OwnSps _ _ (.slice A2 l2.length c2) l2
            rw [← HN2.out]
            exact ((HO2.out.mono (by rw [HSZ.out]; exact Nat.le_trans HB.out.size (Nat.le_succ _))).below ((Below.refl _ _).alloc (Nat.le_refl _) _))) (B := w2.heap.size + 1) (by rw [List.flatMap_cons, List.flatMap_nil, List.append_nil, Le.lit_cells _ _ _ _ _ _ _ _ n2 HN2.out]; exact Rd.lit w2 _ _) hll (by omega) (Nat.le_trans HB.out.size (Nat.le_trans HB2.out.size (by simp)))) ?_; rintro v3 w3 ⟨ho3, hg3⟩; have HO3 := Lib.hid ho3; have HG3 := Lib.hid hg3; clear ho3 hg3)))
      go_roundw
      case rel =>
        refine ⟨k + 1, l' ++ [⟨th, tl, f, la, su, l2, A2, c2⟩], by go_num, by omega, Lib.hid ⟨HO3.out, ?_⟩, Lib.hid ?_⟩
        · rw [List.map_append, HO.out.2, List.take_add_one, HX.out]
          simp [Le.ep, HM2.out]
        · exact HG3.out.below (HB.out.trans ((HB2.out.mono HB.out.size).trans ((Below.refl _ _).alloc (Nat.le_trans HB.out.size HB2.out.size) _))) (Nat.le_trans HB.out.size (Nat.le_trans HB2.out.size (by simp))) (own_block_ge HO.out.1.own)
      case measure => simp [intOf]; omega
    · obtain rfl : k = n := by omega
      go_wp2_with fail
      go_ret
      refine ⟨_, l', rfl, HO.out.1, ?_, HB.out⟩
      have h := HO.out.2
      rwa [List.take_of_length_le (by rw [← HN.out]; exact Nat.le_refl _)] at h
end Go.Proofs.Ytmldelgbmadegaa
