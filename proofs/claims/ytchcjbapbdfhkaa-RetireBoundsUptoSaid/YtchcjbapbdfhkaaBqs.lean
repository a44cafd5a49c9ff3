/- The document's less; rows of blocks that are one's own. -/
import Derived.Test.YtchcjbapbdfhkaaBqh
import Derived.Test.YtchcjbapbdfhkaaBqo
import Derived.BigQuiet
import Derived.Test.YtchcjbapbdfhkaaBqi
namespace Go.Proofs.Ytchcjbapbdfhkaa
open Go.RowKit Go.Maps
set_option linter.unusedVariables false
set_option linter.unusedSimpArgs false
set_option maxRecDepth 100000

set_option maxHeartbeats 4000000 in
theorem dlessR_any (a b : Int) (w : World) (ha : -9223372036854775808 ≤ a ∧ a ≤ 9223372036854775807) (hb : -9223372036854775808 ≤ b ∧ b ≤ 9223372036854775807) :
    Calls Try.prog 78 #[.int .i64 a, .int .i64 b] w fun e w' => e = .returned (.int .i64 (satR a b)) ∧ w = w' := by
  obtain ⟨a1, a2⟩ := ha
  obtain ⟨b1, b2⟩ := hb
  have hc : (0 < b ∧ a < -9223372036854775808 + b) ∨ (0 < b ∧ ¬ a < -9223372036854775808 + b) ∨ (b < 0 ∧ 9223372036854775807 + b < a) ∨ (b < 0 ∧ ¬ 9223372036854775807 + b < a) ∨ b = 0 := by omega
  rcases hc with ⟨h1, h2⟩ | ⟨h1, h2⟩ | ⟨h1, h2⟩ | ⟨h1, h2⟩ | rfl
  · have HQ : Hid (satR a b = -9223372036854775808) := Lib.hid (by unfold satR; rw [if_pos ⟨h1, h2⟩])
    have d1 : decide (0 < b) = true := decide_eq_true h1
    have d2 : decide (a < -9223372036854775808 + b) = true := decide_eq_true h2
    rw [HQ.out]
    go_enter Try.func78, Try.ntmps78
    go_wp2_with fail
    go_ret
    exact ⟨rfl, rfl⟩
  · have HQ : Hid (satR a b = a - b) := Lib.hid (by unfold satR; rw [if_neg (by omega), if_neg (by omega)])
    have d1 : decide (0 < b) = true := decide_eq_true h1
    have d2 : decide (a < -9223372036854775808 + b) = false := decide_eq_false h2
    have d3 : decide (b < 0) = false := decide_eq_false (by omega)
    rw [HQ.out]
    go_enter Try.func78, Try.ntmps78
    go_wp2_with fail
    go_ret
    exact ⟨rfl, rfl⟩
  · have HQ : Hid (satR a b = 9223372036854775807) := Lib.hid (by unfold satR; rw [if_neg (by omega), if_pos ⟨h1, h2⟩])
    have d1 : decide (0 < b) = false := decide_eq_false (by omega)
    have d3 : decide (b < 0) = true := decide_eq_true h1
    have d2 : decide (9223372036854775807 + b < a) = true := decide_eq_true h2
    rw [HQ.out]
    go_enter Try.func78, Try.ntmps78
    go_wp2_with fail
    go_ret
    exact ⟨rfl, rfl⟩
  · have HQ : Hid (satR a b = a - b) := Lib.hid (by unfold satR; rw [if_neg (by omega), if_neg (by omega)])
    have d1 : decide (0 < b) = false := decide_eq_false (by omega)
    have d3 : decide (b < 0) = true := decide_eq_true h1
    have d2 : decide (9223372036854775807 + b < a) = false := decide_eq_false h2
    rw [HQ.out]
    go_enter Try.func78, Try.ntmps78
    go_wp2_with fail
    go_ret
    exact ⟨rfl, rfl⟩
  · have HQ : Hid (satR a 0 = a) := Lib.hid (by unfold satR; rw [if_neg (by omega), if_neg (by omega)]; omega)
    rw [HQ.out]
    go_enter Try.func78, Try.ntmps78
    go_wp2_with fail
    go_ret
    exact ⟨rfl, rfl⟩
theorem bl_info : (Try.prog.info? 24).map (fun i => (i.zero, i.size, i.bytes)) = some (some (.agg #[.int .i64 0, .int .i64 0, .int .i64 0, .slice none 0 0]), 4, 48) := by kernel_rfl
theorem bl_one1 (x : Bl) : ∀ u ∈ x.cells, u.oneCell' = true := by
  intro u hu
  simp only [Bl.cells, List.mem_cons, List.not_mem_nil, or_false] at hu
  rcases hu with rfl | rfl | rfl | rfl <;> rfl
theorem bl_one (l : List Bl) : ∀ u ∈ l.flatMap Bl.cells, u.oneCell' = true := fun u hu => by
  obtain ⟨e, _, hu⟩ := List.mem_flatMap.1 hu
  exact bl_one1 e u hu
theorem appBl1 {w : World} {ty : TypeId} {base : Nat} {v : Value} {l : List Bl} (hown : w.ownsRow base 24 4 v l.length (l.flatMap Bl.cells)) {B : Nat} {a : Addr} (x : Bl) (hr : Rd w B (some a) x.cells) (hl : l.length ≤ 1000000) (hbase : base ≤ w.heap.size) :
    ∃ v' w', (Builtin.append_ #[59, 59] ty #[v, .slice (some a) 1 1]).run Try.prog w = .ok v' w' ∧ (w'.ownsRow base 24 4 v' (l ++ [x]).length ((l ++ [x]).flatMap Bl.cells) ∧ Grew w w' v v') := by
  obtain ⟨i0, hi, hz0, hz1, hz2⟩ := info_parts bl_info
  obtain ⟨v', w', h1, h2, h3⟩ := run_append_rd (P := Try.prog) w base 59 ty 24 i0 _ 4 48 Try.underlying59 hi hz0 hz1 hz2 rfl v l.length (l.flatMap Bl.cells) hown B (some a) 1 1 x.cells rfl hr (bl_one1 x) (by unfold maxLen; omega) (by omega) hbase
  exact ⟨v', w', h1, by rw [List.length_append, List.flatMap_append]; simpa using h2, h3⟩
theorem appBls {w : World} {ty : TypeId} {base n m c : Nat} {v : Value} {A : Option Addr} {L K : List Bl} (h : w.ownsRow base 24 4 v n (L.flatMap Bl.cells)) {B : Nat} (hr : Rd w B A (K.flatMap Bl.cells)) (hm : m = K.length) (hs : n + m ≤ 1000000) (hbase : base ≤ w.heap.size) :
    ∃ v' w', (Builtin.append_ #[59, 59] ty #[v, .slice A m c]).run Try.prog w = .ok v' w' ∧ w'.ownsRow base 24 4 v' (n + m) ((L ++ K).flatMap Bl.cells) ∧ Grew w w' v v' := by
  obtain ⟨i0, hi, hz0, hz1, hz2⟩ := info_parts bl_info
  obtain ⟨v', w', r1, r2, r3⟩ := run_append_rd (P := Try.prog) w base 59 ty 24 i0 _ 4 48 Try.underlying59 hi hz0 hz1 hz2 rfl v n (L.flatMap Bl.cells) h B A m c (K.flatMap Bl.cells) (by rw [flatMap_len _ 4 blcells_len, hm]) hr (bl_one K) (by unfold maxLen; omega) (by omega) hbase
  exact ⟨v', w', r1, by rw [List.flatMap_append]; exact r2, r3⟩
theorem rdBl_take {w : World} {B : Nat} {A : Option Addr} {L : List Bl} {j : Nat} (hr : Rd w B A (L.flatMap Bl.cells)) : Rd w B A ((L.take j).flatMap Bl.cells) := fun h0 => by
  have he : L.flatMap Bl.cells = (L.take j).flatMap Bl.cells ++ (L.drop j).flatMap Bl.cells := by rw [← List.flatMap_append, List.take_append_drop]
  rw [he] at hr
  obtain ⟨a, h1, h2, h3⟩ := hr (by rw [List.length_append]; omega)
  refine ⟨a, h1, h2, fun i u hu => h3 i u ?_⟩
  rw [List.getElem?_append_left]
  · exact hu
  · exact (List.getElem?_eq_some_iff.1 hu).1
theorem rdBl_drop {w : World} {B g : Nat} {L : List Bl} {j : Nat} (hj : j ≤ L.length) (hr : Rd w B (some ⟨g, 0, none⟩) (L.flatMap Bl.cells)) : Rd w B (some ⟨g, j * 4, none⟩) ((L.drop j).flatMap Bl.cells) := fun h0 => by
  have he : L.flatMap Bl.cells = (L.take j).flatMap Bl.cells ++ (L.drop j).flatMap Bl.cells := by rw [← List.flatMap_append, List.take_append_drop]
  have hl : ((L.take j).flatMap Bl.cells).length = j * 4 := by rw [flatMap_len _ 4 blcells_len, List.length_take]; congr 1; omega
  rw [he] at hr
  obtain ⟨a, h1, h2, h3⟩ := hr (by rw [List.length_append]; omega)
  injection h1 with h1
  subst h1
  refine ⟨_, rfl, h2, fun i u hu => ?_⟩
  have h4 := h3 (j * 4 + i) u (by rw [List.getElem?_append_right (by omega), hl]; simpa using hu)
  rw [Addr.add_lit] at h4 ⊢
  simpa using h4
theorem erase_split {α : Type} (l : List α) (k : Nat) : l.eraseIdx k = l.take k ++ l.drop (k + 1) := List.eraseIdx_eq_take_drop_succ l k
end Go.Proofs.Ytchcjbapbdfhkaa

namespace Go.Proofs.Ytchcjbapbdfhkaa
open Go.RowKit Go.Maps
set_option linter.unusedVariables false
set_option linter.unusedSimpArgs false
set_option maxRecDepth 100000

def leftL (now keep : Int) (l : List Bl) : List Bl := l.filter fun x => !tooOld now keep x
theorem left_oth (now keep : Int) (l : List Bl) : (leftL now keep l).map Bl.hd = othL now keep l := rfl
theorem left_len (now keep : Int) (l : List Bl) : (leftL now keep l).length ≤ l.length := List.length_filter_le _ _
theorem left_old {now keep : Int} {l : List Bl} {k : Nat} {x : Bl} (h : l[k]? = some x) (ho : tooOld now keep x = true) : leftL now keep (l.take (k + 1)) = leftL now keep (l.take k) := by
  unfold leftL
  rw [List.take_add_one, h, List.filter_append]
  simp [ho]
theorem left_not {now keep : Int} {l : List Bl} {k : Nat} {x : Bl} (h : l[k]? = some x) (ho : tooOld now keep x = false) : leftL now keep (l.take (k + 1)) = leftL now keep (l.take k) ++ [x] := by
  unfold leftL
  rw [List.take_add_one, h, List.filter_append]
  simp [ho]
theorem erase_map {α β : Type} (f : α → β) : ∀ (l : List α) (k : Nat), (l.map f).eraseIdx k = (l.eraseIdx k).map f
  | [], _ => rfl
  | _ :: _, 0 => rfl
  | x :: r, k + 1 => by
    show f x :: (r.map f).eraseIdx k = f x :: (r.eraseIdx k).map f
    rw [erase_map f r k]
theorem GOES {N : Nat} : PI.Goes (fun a b => Below N a b) := ⟨fun w => Below.refl _ w, fun _ _ _ h q => h.trans q⟩
def ChF (q c2 g p N : Nat) (A3 : Option Addr) (O : List Bl) : Nat → Value → World → Prop
  | 0, u, _ => u = (.slice (some ⟨g, 0, none⟩) q c2)
  | 1, u, _ => u = .int .i64 (p : Int)
  | 2, u, _ => u = (.slice (some ⟨g, 0, none⟩) p c2)
  | 3, u, w => w.ownsRow N 24 4 u p ((O.take p).flatMap Bl.cells)
  | 4, u, _ => u = (.slice (some ⟨g, 0, none⟩) q c2)
  | 5, u, _ => u = .int .i64 (p : Int)
  | 6, u, _ => u = .int .i64 ((p + 1 : Nat) : Int)
  | 7, u, _ => u = (.slice A3 (q - (p + 1)) (c2 - (p + 1)))
  | 8, u, w => w.ownsRow N 24 4 u (q - 1) ((O.eraseIdx p).flatMap Bl.cells)
  | 9, u, w => w.ownsRow N 24 4 u (q - 1) ((O.eraseIdx p).flatMap Bl.cells)
  | _, _, _ => True
theorem ChF.other {i : Nat} {u : Value} {q c2 g p N : Nat} {A3 : Option Addr} {O : List Bl} {w w' : World} (h : ChF q c2 g p N A3 O i u w) (hi : ¬ (i = 3 ∨ i = 8 ∨ i = 9)) : ChF q c2 g p N A3 O i u w' := by
  match i, h, hi with
  | 0, h, hi => exact h
  | 1, h, hi => exact h
  | 2, h, hi => exact h
  | 3, h, hi => exact absurd (by decide) hi
  | 4, h, hi => exact h
  | 5, h, hi => exact h
  | 6, h, hi => exact h
  | 7, h, hi => exact h
  | 8, h, hi => exact absurd (by decide) hi
  | 9, h, hi => exact absurd (by decide) hi
  | _ + 10, h, hi => trivial
set_option maxHeartbeats 64000000 in
theorem dchoose_any (A : Option Addr) (n c B : Nat) (l : List Bl) (now keep budget : Int) (w : World) (hn : n = l.length) (hy : RdBls w B A l) (hB : B ≤ w.heap.size) (hl : n ≤ 1000) (hs : ∀ x ∈ l, x.l.length ≤ 120 ∧ ∀ e ∈ x.l, e.l.length ≤ 60) (hok : ∀ x ∈ l, x.ok) (hnow : -9223372036854775808 ≤ now ∧ now ≤ 9223372036854775807) :
    Calls Try.prog 43 #[.slice A n c, .int .i64 now, .int .i64 keep, .int .i64 budget] w (ChooseOf (choose l now keep budget) w) := by
  have HN := Lib.hid hn
  have HY := Lib.hid hy
  have HS := Lib.hid hs
  have HK := Lib.hid hok
  have HNW := Lib.hid hnow
  have HGL := Lib.hid (gone_len now keep l)
  obtain ⟨R, hR⟩ : ∃ R, R = choose l now keep budget := ⟨_, rfl⟩
  have HR := Lib.hid hR
  rw [← hR]
  clear hn hy hs hok hnow hR
  go_enter Try.func43, Try.ntmps43
  go_wp2_with fail
  go_loopw [11, 9, 10] (fun iv gv ov wr => ∃ k : Nat, iv = .int .i64 (k : Int) ∧ k ≤ n ∧ Hid (wr.ownsRow w.heap.size 3 1 gv (goneL now keep (l.take k)).length ((goneL now keep (l.take k)).map (Value.int .i64))) ∧ Hid (wr.ownsRow w.heap.size 24 4 ov (leftL now keep (l.take k)).length ((leftL now keep (l.take k)).flatMap Bl.cells)) ∧ Hid (Below w.heap.size w wr)) (fun iv _ _ _ => n - (intOf iv).toNat)
  case atStart => exact ⟨0, rfl, Nat.zero_le _, Lib.hid (World.ownsRow_nil _ _ _ _), Lib.hid (World.ownsRow_nil _ _ _ _), Lib.hid (Below.refl _ _)⟩
  case round =>
    obtain ⟨k, rfl, hk, HG, HO, HB⟩ := hrel
    have hws := HB.out.size
    have hgl := gone_len now keep (l.take k)
    have hll := left_len now keep (l.take k)
    have htl : (l.take k).length ≤ k := by rw [List.length_take]; omega
    by_cases hlt : k < n
    · obtain ⟨x, hx⟩ : ∃ x, l[k]? = some x := ⟨_, List.getElem?_eq_getElem (by rw [← HN.out]; exact hlt)⟩
      have hR := HY.out.below (HB.out.mono hB)
      have hkx := HK.out x (List.mem_of_getElem? hx)
      have hnot := fun h => And.intro (gone_not (now := now) (keep := keep) hx h).1 (left_not hx h)
      have hold := fun h => And.intro (gone_old (now := now) (keep := keep) hx h).1 (left_old hx h)
      obtain ⟨nu, bo, ti, es, eA, ec⟩ := x
      obtain ⟨m, hm⟩ : ∃ m, m = es.length := ⟨_, rfl⟩
      obtain ⟨a, ha, hab, c0, c1, c2, c3, hre⟩ := blcells hR hx m hm
      subst ha
      have LEC := Lib.hid (fun W => dlessR_any now bo W HNW.out hkx.bo)
      have hab2 : (a.add (k * 4)).block < wr.heap.size := by rw [block_add]; omega
      have i0 : (0 : Int) ≤ (k : Int) := by omega
      have i1 : (k : Int) < (n : Int) := by omega
      cases ho : tooOld now keep ⟨nu, bo, ti, es, eA, ec⟩
      · have hst := hnot ho
        have d1 : decide (keep < satR now bo) = false := ho
        have HST := Lib.hid hst
        have hBL := (Below.refl wr.heap.size wr).alloc (Nat.le_refl _) (.cells #[.int .i64 nu, .int .i64 bo, .int .i64 ti, .slice eA m ec] 24)
        have HG2 := Lib.hid (own_below HG.out hBL)
        have HO2 := Lib.hid (own_below HO.out hBL)
        have HB2 := Lib.hid (HB.out.trans (hBL.mono hws))
        have APO := Lib.hid (fun ty => appBl1 (ty := ty) HO2.out ⟨nu, bo, ti, es, eA, ec⟩ (by have h := Rd.lit wr #[.int .i64 nu, .int .i64 bo, .int .i64 ti, .slice eA m ec] 24; rw [hm] at h ⊢; exact h) (by omega) (by simp; omega))
        generalize satR now bo = sv at *
        clear hx hR hkx hnot hold hm hre ho hst hBL
        go_wp2_with (first
          | (go_at_call 78; (with_reducible refine (LEC.out _).mono ?_); rintro e w1 ⟨rfl, hw⟩; subst hw)
          | (at_builtin; (refine wpList_app rfl (.tmp 37) (.tmp 42) _ _ rfl rfl rfl (APO.out _) ?_); rintro v9 w9 ⟨ho9, hg9⟩; have HO9 := Lib.hid ho9; have HG9 := Lib.hid (own_keepT HG2.out HO2.out (by decide) hg9); have HB9 := Lib.hid (hg9.below HB2.out (by simp; omega) (own_block_ge HO2.out)); clear ho9 hg9))
        go_roundw
        case rel => exact ⟨k + 1, by go_num, by omega, Lib.hid (by rw [HST.out.1]; exact HG9.out), Lib.hid (by rw [HST.out.2]; exact HO9.out), HB9⟩
        case measure => simp [intOf]; omega
      · have hst := hold ho
        have d1 : decide (keep < satR now bo) = true := ho
        have HST := Lib.hid hst
        generalize satR now bo = sv at *
        clear hx hR hkx hnot hold hm hre ho hst
        have hBL := (Below.refl wr.heap.size wr).alloc (Nat.le_refl _) (.cells #[.int .i64 nu] 3)
        have HG2 := Lib.hid (own_below HG.out hBL)
        have HO2 := Lib.hid (own_below HO.out hBL)
        have APG := Lib.hid (fun ty => appQi (ty := ty) HG2.out nu (Rd.one wr (.int .i64 nu) 3) (by omega) (by simp; omega))
        have HB3 := Lib.hid (HB.out.trans (hBL.mono hws))
        clear hBL
        go_wp2_with (first
          | (go_at_call 78; (with_reducible refine (LEC.out _).mono ?_); rintro e w1 ⟨rfl, hw⟩; subst hw)
          | (at_builtin; (refine wpList_app rfl (.tmp 29) (.tmp 35) _ _ rfl rfl rfl (APG.out _) ?_); rintro v9 w9 ⟨ho9, hg9⟩; have HG9 := Lib.hid ho9; have HO9 := Lib.hid (own_keepT HO2.out HG2.out (by decide) hg9); have HB9 := Lib.hid (hg9.below HB3.out (by simp; omega) (own_block_ge HG2.out)); clear ho9 hg9))
        go_roundw
        case rel => exact ⟨k + 1, by go_num, by omega, Lib.hid (by rw [HST.out.1]; exact HG9.out), Lib.hid (by rw [HST.out.2]; exact HO9.out), HB9⟩
        case measure => simp [intOf]; omega
    · obtain rfl : k = n := by omega
      have htk : l.take k = l := List.take_of_length_le (by rw [← HN.out]; exact Nat.le_refl _)
      rw [htk] at HG HO hgl hll
      have HRR : Hid (goneL now keep l ++ letGo budget (leftL now keep l).length ((leftL now keep l).map Bl.hd) = R) := Lib.hid (by rw [HR.out, left_oth]; unfold choose; rw [← left_oth, List.length_map])
      have hgl1 : (goneL now keep l).length + (leftL now keep l).length ≤ 2000 := by have := HN.out; omega
      have HSUB : Hid (∀ x ∈ leftL now keep l, x ∈ l) := Lib.hid (fun x hx => (List.mem_filter.1 hx).1)
      have hOl : (leftL now keep l).length ≤ 1000 := by have := HN.out; omega
      clear htk hgl htl hll
      generalize goneL now keep l = G0 at *
      generalize leftL now keep l = O0 at *
      generalize wr = wx at *
      go_wp2_with fail
      go_loopw [9, 10] (fun gv ov wr => ∃ (G : List Int) (O : List Bl), G.length + O.length ≤ 2000 ∧ Hid (O.length ≤ 1000 ∧ ∀ x ∈ O, x ∈ l) ∧ lenV ov = O.length ∧ Hid (G ++ letGo budget O.length (O.map Bl.hd) = R) ∧ Hid (wr.ownsRow w.heap.size 3 1 gv (G).length ((G).map (Value.int .i64))) ∧ Hid (wr.ownsRow w.heap.size 24 4 ov (O).length ((O).flatMap Bl.cells)) ∧ Hid (Below w.heap.size w wr)) (fun _ ov _ => lenV ov)
      case atStart =>
        obtain ⟨_, _, h1, _, _⟩ := own_rd HO.out
        exact ⟨G0, O0, hgl1, Lib.hid ⟨hOl, HSUB.out⟩, by rw [h1]; rfl, HRR, HG, HO, HB⟩
      case round =>
        clear HG HO HB HRR hgl1 HSUB hOl
        obtain ⟨G, O, hgl1, HSUB, hlv, HRR, HG, HO, HB⟩ := hrel
        have hws := HB.out.size
        obtain ⟨A2, c2, hov, hc2, hrd⟩ := own_rd HO.out
        subst hov
        obtain ⟨q, hq⟩ : ∃ q, q = O.length := ⟨_, rfl⟩
        rw [← hq] at hgl1 hc2 ⊢
        have hq1 : q ≤ 1000 := by rw [hq]; exact HSUB.out.1
        by_cases h2 : 1 < q
        · have d2 : decide ((1 : Int) < (q : Int)) = true := decide_eq_true (by omega)
          have d3 : decide (1 < q) = true := decide_eq_true h2
          have hRB : RdBls wr wr.heap.size A2 O := ⟨hrd, fun x hx => ((HY.out.each x (HSUB.out.2 x hx)).below (HB.out.mono hB)).more (Nat.le_trans hB hws)⟩
          have TOT := Lib.hid (dtotal_any A2 q c2 wr.heap.size O wr hq hRB (Nat.le_refl _) hq1 (fun x hx => HS.out x (HSUB.out.2 x hx)) (fun x hx => HK.out x (HSUB.out.2 x hx)))
          obtain ⟨t, ht⟩ : ∃ t, t = totH (O.map Bl.hd) := ⟨_, rfl⟩
          rw [← ht] at TOT
          have HT := Lib.hid ht
          have HQ := Lib.hid hq
          by_cases h1 : budget < (t : Int)
          · have d1 : decide (budget < (t : Int)) = true := decide_eq_true h1
            obtain ⟨g, hA2, _, hbg, hgl2, _⟩ := own_parts HO.out (by omega)
            subst hA2
            have HO' : Hid (wr.ownsRow w.heap.size 24 4 (.slice (some ⟨g, 0, none⟩) q c2) (O).length ((O).flatMap Bl.cells)) := Lib.hid (by rw [hq]; exact HO.out)
            have HRB0 := Lib.hid hRB
            obtain ⟨H, hH⟩ : ∃ H, H = O.map Bl.hd := ⟨_, rfl⟩
            have HHL : Hid (H.length = q) := Lib.hid (by rw [hH, List.length_map, hq])
            have HHE := Lib.hid hH
            clear ht hRB hrd hlv hq hH
            go_wp2_with (go_at_call 45; (with_reducible refine TOT.out.mono ?_); rintro e w3 ⟨rfl, hb3⟩; have HB3 := Lib.hid (HB.out.trans (hb3.mono hws)); have HO3 := Lib.hid (own_below HO'.out hb3); have HG3 := Lib.hid (own_below HG.out hb3); have HRB3 := Lib.hid ((HRB0.out.below hb3).more hb3.size); clear hb3)
            go_loopw [13, 12] (fun iv av wr => ∃ k : Nat, iv = .int .i64 (k : Int) ∧ av = .int .i64 ((mAt H k : Nat) : Int) ∧ k ≤ q ∧ Hid (Below w3.heap.size w3 wr)) (fun iv _ _ => q - (intOf iv).toNat)
            case atStart => exact ⟨0, rfl, rfl, Nat.zero_le _, Lib.hid (Below.refl _ _)⟩
            case round =>
              obtain ⟨k2, rfl, rfl, hk2, HBB⟩ := hrel
              by_cases hlt2 : k2 < q
              · obtain ⟨b, hb⟩ : ∃ b, O[k2]? = some b := ⟨_, List.getElem?_eq_getElem (by rw [← HQ.out]; exact hlt2)⟩
                have hmlt := mAt_lt H k2 (by rw [HHL.out]; omega) (by rw [HHL.out]; omega)
                rw [HHL.out] at hmlt
                obtain ⟨m, hm⟩ : ∃ m, O[mAt H k2]? = some m := ⟨_, List.getElem?_eq_getElem (by rw [← HQ.out]; exact hmlt)⟩
                have hst := mAt_step (l := H) (k := k2) (b := b.hd) (m := m.hd) (by rw [HHE.out, List.getElem?_map, hb]; rfl) (by rw [HHE.out] at hm ⊢; rw [List.getElem?_map, hm]; rfl)
                have hRw := HRB3.out.below HBB.out
                obtain ⟨b0, b1, b2, b3, b4, b5⟩ := b
                obtain ⟨m0, m1, m2, m3, m4, m5⟩ := m
                simp only [Bl.hd] at hst
                obtain ⟨a2, ha2, _, _, e1, _, _, _⟩ := blcells hRw hb _ rfl
                injection ha2 with ha2
                subst ha2
                obtain ⟨a3, ha3, _, _, f1, _, _, _⟩ := blcells hRw hm _ rfl
                injection ha3 with ha3
                subst ha3
                obtain ⟨j, hj⟩ : ∃ j, j = mAt H k2 := ⟨_, rfl⟩
                rw [← hj] at hst hmlt f1 ⊢
                have HST := Lib.hid hst
                have hadd : ∀ k : Nat, (⟨g, 0, none⟩ : Addr).add k = ⟨g, k, none⟩ := fun k => by rw [Addr.add_lit, Nat.zero_add]
                have i0 : (0 : Int) ≤ (j : Int) := by omega
                have i1 : (j : Int) < (q : Int) := by omega
                have i2 : (0 : Int) ≤ (k2 : Int) := by omega
                have i3 : (k2 : Int) < (q : Int) := by omega
                clear hb hm hst hRw hj
                simp only [hadd] at e1 f1
                by_cases hbm : b1 < m1
                · have d4 : decide (b1 < m1) = true := decide_eq_true hbm
                  have HS2 : Hid (mAt H (k2 + 1) = k2) := Lib.hid (HST.out.trans (if_pos hbm))
                  clear hbm
                  go_upto_region 14 with fail
                  go_quiet (fail)
                  go_wp2_with fail
                  go_roundw
                  case rel => exact ⟨k2 + 1, by go_num, by rw [HS2.out], by omega, Lib.hid ⟨HBB.out.os, HBB.out.tape, HBB.out.output, HBB.out.size, HBB.out.block⟩⟩
                  case measure => simp [intOf]; omega
                · have d4 : decide (b1 < m1) = false := decide_eq_false hbm
                  have HS2 : Hid (mAt H (k2 + 1) = j) := Lib.hid (HST.out.trans (if_neg hbm))
                  clear hbm
                  go_upto_region 14 with fail
                  go_quiet (fail)
                  go_wp2_with fail
                  go_roundw
                  case rel => exact ⟨k2 + 1, by go_num, by rw [HS2.out], by omega, Lib.hid ⟨HBB.out.os, HBB.out.tape, HBB.out.output, HBB.out.size, HBB.out.block⟩⟩
                  case measure => simp [intOf]; omega
              · obtain rfl : q = k2 := by omega
                obtain ⟨p, hp⟩ : ∃ p, p = mAt H q := ⟨_, rfl⟩
                have hmin : minAt H = p := by unfold minAt; rw [HHL.out, hp]
                rw [← hp]
                have hpq : p < q := by
                  have := mAt_lt H q (by rw [HHL.out]; omega) (by rw [HHL.out]; omega)
                  rw [HHL.out] at this
                  omega
                obtain ⟨x, hx⟩ : ∃ x, O[p]? = some x := ⟨_, List.getElem?_eq_getElem (by rw [← HQ.out]; exact hpq)⟩
                have HGO : Hid (letGo budget q (O.map Bl.hd) = x.nu :: letGo budget (q - 1) ((O.map Bl.hd).eraseIdx p)) := Lib.hid (by
                  have h := letGo_go (budget := budget) (f := q - 1) (l := O.map Bl.hd) (m := x.hd) (by rw [← HT.out]; exact h1) (by rw [List.length_map, ← HQ.out]; omega) (by rw [← HHE.out, hmin, HHE.out, List.getElem?_map, hx]; rfl)
                  rw [← HHE.out, hmin, HHE.out] at h
                  rwa [show q - 1 + 1 = q by omega] at h)
                have HEL : Hid ((O.eraseIdx p).length = q - 1) := Lib.hid (by rw [List.length_eraseIdx_of_lt (by rw [← HQ.out]; exact hpq), ← HQ.out])
                have HLE : Hid (O.length = q) := Lib.hid HQ.out.symm
                have HSUB2 : Hid ((O.eraseIdx p).length ≤ 1000 ∧ ∀ x ∈ O.eraseIdx p, x ∈ l) := Lib.hid ⟨by rw [HEL.out]; omega, fun x hx => HSUB.out.2 x (List.mem_of_mem_eraseIdx hx)⟩
                have hRw := HRB3.out.below HBB.out
                obtain ⟨mn, mb, x2, x3, x4, x5⟩ := x
                simp only at HGO
                obtain ⟨a2, ha2, _, f0, _, _, _, _⟩ := blcells hRw hx _ rfl
                injection ha2 with ha2
                subst ha2
                have hadd : ∀ k : Nat, (⟨g, 0, none⟩ : Addr).add k = ⟨g, k, none⟩ := fun k => by rw [Addr.add_lit, Nat.zero_add]
                simp only [hadd] at f0
                have hwz : w.heap.size ≤ wr.heap.size := by have := HB3.out.size; have := HBB.out.size; omega
                have hBL := (Below.refl wr.heap.size wr).alloc (Nat.le_refl _) (.cells #[.int .i64 mn] 3)
                have hO4 := own_below HO3.out HBB.out
                have hG4 := own_below HG3.out HBB.out
                have HO4 := Lib.hid (own_below hO4 hBL)
                have HG4 := Lib.hid (own_below hG4 hBL)
                have HB4 := Lib.hid ((HB3.out.trans (HBB.out.mono HB3.out.size)).trans (hBL.mono hwz))
                have APG := Lib.hid (fun ty => appQi (ty := ty) HG4.out mn (Rd.one wr (.int .i64 mn) 3) (by omega) (by simp; omega))
                have i0 : (0 : Int) ≤ (p : Int) := by omega
                have i1 : (p : Int) < (q : Int) := by omega
                clear hx hRw hmin hp hBL hO4 hG4
                go_wp2_with (at_builtin; (refine wpList_app rfl (.tmp 71) (.tmp 77) _ _ rfl rfl rfl (APG.out _) ?_); rintro v5 w5 ⟨ho5, hg5⟩; have HG5 := Lib.hid ho5; have HO5 := Lib.hid (own_keepT HO4.out HG4.out (by decide) hg5); have HB5 := Lib.hid (hg5.below HB4.out (by simp; omega) (own_block_ge HG4.out)); clear ho5 hg5)
                obtain ⟨N, hNE⟩ : ∃ N, N = w5.heap.size := ⟨_, rfl⟩
                have hN : N ≤ w5.drew.heap.size := by show N ≤ w5.heap.size; omega
                have hwN : w.heap.size ≤ N := by rw [hNE]; exact HB5.out.size
                have hOq : O.length = q := by rw [HLE.out]
                have hw55 : Below w5.heap.size w5 w5.drew := ⟨rfl, rfl, rfl, Nat.le_refl _, fun _ _ => rfl⟩
                obtain ⟨A3, hA3⟩ : ∃ A3 : Option Addr, A3 = (if c2 = p + 1 then some (⟨g, 0, none⟩ : Addr) else some ⟨g, (p + 1) * 4, none⟩) := ⟨_, rfl⟩
                have HRD : Hid (∀ W, Below N w5.drew W → Rd W N (some ⟨g, 0, none⟩) ((O.take p).flatMap Bl.cells) ∧ Rd W N A3 ((O.drop (p + 1)).flatMap Bl.cells)) := Lib.hid (fun W hW => by
                  obtain ⟨A4, c4, h4, _, hr4⟩ := own_rd HO5.out
                  injection h4 with h4
                  subst h4
                  have hr5 : Rd W N (some ⟨g, 0, none⟩) (O.flatMap Bl.cells) := by rw [hNE] at hW ⊢; exact (hr4.below hw55).below hW
                  refine ⟨rdBl_take hr5, ?_⟩
                  rw [hA3]
                  by_cases hc : c2 = p + 1
                  · rw [List.drop_of_length_le (by omega)]
                    exact Rd.nil
                  · rw [if_neg hc]
                    exact rdBl_drop (by omega) hr5)
                have HG6 : Hid (w5.drew.ownsRow w.heap.size 3 1 v5 ((G ++ [mn])).length (((G ++ [mn])).map (Value.int .i64))) := Lib.hid HG5.out
                have HB6 : Hid (Below w.heap.size w w5.drew) := Lib.hid ⟨HB5.out.os, HB5.out.tape, HB5.out.output, HB5.out.size, HB5.out.block⟩
                have pw : IntKind.i64.wrap ((p : Int) + 1) = ((p + 1 : Nat) : Int) := by rw [IntKind.wrap_i64]; omega
                have hNh := Lib.hid hNE
                have s1 : (p : Int) ≤ (c2 : Int) := by omega
                have s2 : p ≤ c2 := by omega
                have s3 : (c2 = 0) = False := by simp; omega
                have s4 : (p : Int) + 1 ≤ (q : Int) := by omega
                have s5 : p + 1 ≤ q := by omega
                have s6 : (q : Int) ≤ (c2 : Int) := by omega
                have s7 : (⟨g, 0, none⟩ : Addr).add ((p + 1) * 4) = ⟨g, (p + 1) * 4, none⟩ := hadd _
                have s8 : q ≤ c2 := by omega
                have s9 : (c2 = p) = False := by simp; omega
                have s10 : ((p : Int) + 1 < 0) = False := by simp; omega
                clear hw55
                refine PI.wp_region_persG (R := fun a b => Below N a b) (G := fun _ _ => True) (I := fun _ _ _ => True) [(2, 0), (2, 1), (3, 2), (6, 5), (7, 4), (7, 6), (8, 3), (8, 7), (9, 8)] [9] (by kernel_rfl) (PI.formed_of (by kernel_rfl)) GOES (fun _ => trivial) (ChF q c2 g p N A3 O) trivial ?_ ?_
                · intro i o ho
                  rcases i with _ | _ | _ | _ | _ | _ | _ | _ | _ | _ | i
                  · obtain rfl := Option.some.inj (show some _ = some o from ho)
                    refine PI.shown_val rfl fun a w3 L0 hr T => ?_
                    have h1 : a.eval (.tmp 10) = (.slice (some ⟨g, 0, none⟩) q c2) := T.was 10 (by kernel_rfl)
                    exact ⟨(.slice (some ⟨g, 0, none⟩) q c2), w3, by simp only [execOp, h1]; simp [go_sem], PI.Post.pure GOES rfl trivial⟩
                  · obtain rfl := Option.some.inj (show some _ = some o from ho)
                    refine PI.shown_val rfl fun a w3 L0 hr T => ?_
                    have h1 : a.eval (.tmp 12) = .int .i64 (p : Int) := T.was 12 (by kernel_rfl)
                    exact ⟨.int .i64 (p : Int), w3, by simp only [execOp, h1]; simp [go_sem], PI.Post.pure GOES rfl trivial⟩
                  · obtain rfl := Option.some.inj (show some _ = some o from ho)
                    refine PI.shown_val rfl fun a w3 L0 hr T => ?_
                    have h1 : a.eval (.tmp 79) = (.slice (some ⟨g, 0, none⟩) q c2) := T.at_ 0 79 (by kernel_rfl) (by kernel_rfl) (by kernel_rfl)
                    have h2 : a.eval (.tmp 80) = .int .i64 (p : Int) := T.at_ 1 80 (by kernel_rfl) (by kernel_rfl) (by kernel_rfl)
                    exact ⟨(.slice (some ⟨g, 0, none⟩) p c2), w3, by simp only [execOp, h1, h2, Option.map]; simp [go_sem, s1, s2, s3, s9], PI.Post.pure GOES rfl trivial⟩
                  · obtain rfl := Option.some.inj (show some _ = some o from ho)
                    refine PI.shown_val rfl fun a w3 L0 hr T => ?_
                    have h1 : a.eval (.tmp 81) = (.slice (some ⟨g, 0, none⟩) p c2) := T.at_ 2 81 (by kernel_rfl) (by kernel_rfl) (by kernel_rfl)
                    have h0 : a.eval (.const (.slice none 0 0)) = .slice none 0 0 := rfl
                    have hsz : N ≤ w3.heap.size := Nat.le_trans hN hr.size
                    obtain ⟨v9, w9, e9, ho9, hg9⟩ := appBls (ty := 59) (c := c2) (n := 0) (L := []) (World.ownsRow_nil w3 N 24 4) (K := O.take p) ((HRD.out w3 hr).1) (m := p) (by rw [List.length_take, hOq]; omega) (by omega) hsz
                    have hb9 : Below N w3 w9 := hg9.below (Below.refl _ _) hsz (fun k hk => by simp [Value.ownBlock] at hk)
                    refine ⟨v9, w9, by simp only [execOp, resolve, invoke, builtin, Sem.run_bind, Sem.run_pure, Result.andThen_ok, List.map_toArray, List.map_cons, List.map_nil, h0, h1, e9], hb9, (by rw [Nat.zero_add, List.nil_append] at ho9; exact ho9), fun _ _ h => h, fun j u hj hLj hnd hw h => ?_, trivial⟩
                    by_cases hjr : j = 3 ∨ j = 8 ∨ j = 9
                    · rcases hjr with rfl | rfl | rfl
                      · exact absurd rfl hj
                      · exact absurd (T.shut_ 8 3 (by kernel_rfl) hLj) (by rw [T.yetNot]; decide)
                      · exact absurd (T.shut_ 8 3 (by kernel_rfl) (T.shut_ 9 8 (by kernel_rfl) hLj)) (by rw [T.yetNot]; decide)
                    · exact ChF.other h hjr
                  · obtain rfl := Option.some.inj (show some _ = some o from ho)
                    refine PI.shown_val rfl fun a w3 L0 hr T => ?_
                    have h1 : a.eval (.tmp 10) = (.slice (some ⟨g, 0, none⟩) q c2) := T.was 10 (by kernel_rfl)
                    exact ⟨(.slice (some ⟨g, 0, none⟩) q c2), w3, by simp only [execOp, h1]; simp [go_sem], PI.Post.pure GOES rfl trivial⟩
                  · obtain rfl := Option.some.inj (show some _ = some o from ho)
                    refine PI.shown_val rfl fun a w3 L0 hr T => ?_
                    have h1 : a.eval (.tmp 12) = .int .i64 (p : Int) := T.was 12 (by kernel_rfl)
                    exact ⟨.int .i64 (p : Int), w3, by simp only [execOp, h1]; simp [go_sem], PI.Post.pure GOES rfl trivial⟩
                  · obtain rfl := Option.some.inj (show some _ = some o from ho)
                    refine PI.shown_val rfl fun a w3 L0 hr T => ?_
                    have h1 : a.eval (.tmp 84) = .int .i64 (p : Int) := T.at_ 5 84 (by kernel_rfl) (by kernel_rfl) (by kernel_rfl)
                    exact ⟨.int .i64 ((p + 1 : Nat) : Int), w3, by simp only [execOp, h1]; simp [go_sem, pw], PI.Post.pure GOES rfl trivial⟩
                  · obtain rfl := Option.some.inj (show some _ = some o from ho)
                    refine PI.shown_val rfl fun a w3 L0 hr T => ?_
                    have h1 : a.eval (.tmp 83) = (.slice (some ⟨g, 0, none⟩) q c2) := T.at_ 4 83 (by kernel_rfl) (by kernel_rfl) (by kernel_rfl)
                    have h2 : a.eval (.tmp 85) = .int .i64 ((p + 1 : Nat) : Int) := T.at_ 6 85 (by kernel_rfl) (by kernel_rfl) (by kernel_rfl)
                    exact ⟨(.slice A3 (q - (p + 1)) (c2 - (p + 1))), w3, by simp only [execOp, h1, h2, Option.map]; simp [go_sem, s1, s2, s3, s4, s5, s6, s7, s8, s10, hA3], PI.Post.pure GOES rfl trivial⟩
                  · obtain rfl := Option.some.inj (show some _ = some o from ho)
                    refine PI.shown_val rfl fun a w3 L0 hr T => ?_
                    have h1 : w3.ownsRow N 24 4 (a.eval (.tmp 82)) p ((O.take p).flatMap Bl.cells) := T.at_ 3 82 (by kernel_rfl) (by kernel_rfl) (by kernel_rfl)
                    have h2 : a.eval (.tmp 86) = (.slice A3 (q - (p + 1)) (c2 - (p + 1))) := T.at_ 7 86 (by kernel_rfl) (by kernel_rfl) (by kernel_rfl)
                    have hsz : N ≤ w3.heap.size := Nat.le_trans hN hr.size
                    obtain ⟨v9, w9, e9, ho9, hg9⟩ := appBls (ty := 59) (c := c2 - (p + 1)) h1 (K := O.drop (p + 1)) ((HRD.out w3 hr).2) (m := q - (p + 1)) (by rw [List.length_drop, hOq]) (by omega) hsz
                    have hb9 : Below N w3 w9 := hg9.below (Below.refl _ _) hsz (own_block_ge h1)
                    refine ⟨v9, w9, by simp only [execOp, resolve, invoke, builtin, Sem.run_bind, Sem.run_pure, Result.andThen_ok, List.map_toArray, List.map_cons, List.map_nil, h2, e9], hb9, by (have e1 : p + (q - (p + 1)) = q - 1 := by omega); rw [e1] at ho9; show w9.ownsRow N 24 4 v9 (q - 1) ((O.eraseIdx p).flatMap Bl.cells); rw [erase_split]; exact ho9, fun _ _ h => h, fun j u hj hLj hnd hw h => ?_, trivial⟩
                    by_cases hjr : j = 3 ∨ j = 8 ∨ j = 9
                    · rcases hjr with rfl | rfl | rfl
                      · simp [PI.needB] at hnd
                      · exact absurd rfl hj
                      · exact absurd (T.shut_ 9 8 (by kernel_rfl) hLj) (by rw [T.yetNot]; decide)
                    · exact ChF.other h hjr
                  · obtain rfl := Option.some.inj (show some _ = some o from ho)
                    refine PI.shown_val rfl fun a w3 L0 hr T => ?_
                    have h1 : w3.ownsRow N 24 4 (a.eval (.tmp 87)) (q - 1) ((O.eraseIdx p).flatMap Bl.cells) := T.at_ 8 87 (by kernel_rfl) (by kernel_rfl) (by kernel_rfl)
                    exact ⟨a.eval (.tmp 87), w3, by simp only [execOp]; simp [go_sem], PI.Post.pure GOES h1 trivial⟩
                  · cases ho
                · intro x w9 hr hf he _
                  have h1 := hf 9 _ 10 rfl rfl (by decide)
                  change w9.ownsRow N 24 4 (x 9) (q - 1) ((O.eraseIdx p).flatMap Bl.cells) at h1
                  have HB9 := Lib.hid (HB6.out.trans (hr.mono hwN))
                  have HG9 := Lib.hid (own_below HG6.out (hr.mono (show w5.heap.size ≤ N by rw [hNh.out]; exact Nat.le_refl _)))
                  obtain ⟨A9, c9, hv9, _, _⟩ := own_rd h1
                  rw [hv9] at h1
                  have HO9 := Lib.hid (own_mono h1 hwN)
                  simp only [PI.putAll, Act.put, List.setIfInBounds_toArray, List.set_cons_zero, List.set_cons_succ]
                  rw [hv9]
                  clear hf he h1 hr hv9
                  have HRR2 : Hid ((G ++ [mn]) ++ letGo budget (O.eraseIdx p).length ((O.eraseIdx p).map Bl.hd) = R) := Lib.hid (by
                    have h := HRR.out
                    have e : (O.map Bl.hd).eraseIdx p = (O.eraseIdx p).map Bl.hd := erase_map Bl.hd O p
                    rw [HLE.out, HGO.out] at h
                    rw [← e, ← h, HEL.out, List.append_assoc]
                    rfl)
                  go_wp2_with fail
                  go_roundw
                  case rel => exact ⟨G ++ [mn], O.eraseIdx p, by rw [HEL.out, List.length_append]; simp; omega, HSUB2, by rw [HEL.out]; rfl, HRR2, HG9, Lib.hid (by rw [HEL.out]; exact HO9.out), HB9⟩
                  case measure => simp [lenV]; omega

          · have d1 : decide (budget < (t : Int)) = false := decide_eq_false h1
            have HGS : Hid (letGo budget O.length (O.map Bl.hd) = []) := Lib.hid (letGo_stop (by rw [← ht]; omega))
            clear hrd hRB ht hq hlv
            go_wp2_with (go_at_call 45; (with_reducible refine TOT.out.mono ?_); go_loud (rintro e w3 ⟨rfl, hb3⟩; have HB3 := Lib.hid (HB.out.trans (hb3.mono hws)); have HG3 := Lib.hid (own_below HG.out hb3); clear hb3))
            go_ret
            exact ⟨_, rfl, by have h := HRR.out; rw [HGS.out, List.append_nil] at h; rw [← h]; exact HG3.out, HB3.out⟩
        · have d2 : decide ((1 : Int) < (q : Int)) = false := decide_eq_false (by omega)
          have d3 : decide (1 < q) = false := decide_eq_false h2
          have HGS : Hid (letGo budget O.length (O.map Bl.hd) = []) := Lib.hid (letGo_stop (by rw [List.length_map]; omega))
          clear hrd
          go_wp2_with fail
          go_ret
          exact ⟨_, rfl, by have h := HRR.out; rw [HGS.out, List.append_nil] at h; rw [← h]; exact HG.out, HB.out⟩
end Go.Proofs.Ytchcjbapbdfhkaa

namespace Go.Proofs.Ytchcjbapbdfhkaa
open Go.RowKit Go.Maps
set_option linter.unusedVariables false
set_option linter.unusedSimpArgs false
set_option maxRecDepth 100000

theorem choose_len20 (l : List Bl) (now keep b : Int) : (choose l now keep b).length ≤ 2 * l.length := by
  have h0 : ∀ (f : Nat) (l : List Hd), (letGo b f l).length ≤ f := fun f => by
    induction f with
    | zero => intro l; simp [letGo]
    | succ f ih =>
      intro l
      unfold letGo
      split
      · have := ih (l.eraseIdx (minAt l))
        simp only [List.length_cons]
        omega
      · simp
  unfold choose
  rw [List.length_append]
  have h1 := gone_len now keep l
  have h2 := h0 (othL now keep l).length (othL now keep l)
  omega
set_option maxHeartbeats 16000000 in
theorem tells20 (A : Option Addr) (l : List Bl) (n c : Nat) (now keep budget : Int) (w : World) (hn : n = l.length) (hy : RdBls w w.heap.size A l) (hok : ∀ x ∈ l, x.ok) (hb : ∀ x ∈ l, x.l.length ≤ 1048576) (hnow : -9223372036854775808 ≤ now ∧ now ≤ 9223372036854775807) :
    Calls Try.prog 11 #[.slice A n c, .int .i64 now, .int .i64 keep, .int .i64 budget] w fun e w' => e = .returned (.bool true) ∧ Below w.heap.size w w' := by
  have HFW := Lib.hid (fun W (hW : Below w.heap.size w W) => few19_any A l n c w.heap.size W hn (hy.below hW) hok hW.size hb)
  have HN := Lib.hid hn
  have HY := Lib.hid hy
  have HK := Lib.hid hok
  have HNW := Lib.hid hnow
  clear hn hy hok hb hnow
  go_enter Try.func11, Try.ntmps11
  go_wp2_with fail
  refine (alive20_calls _).mono ?_
  rintro e w0 ⟨rfl, hb0⟩
  have HB0 := Lib.hid hb0
  clear hb0
  go_wp2_with fail
  refine (HFW.out w0 HB0.out).mono ?_
  rintro e w1 ⟨fb, rfl, hfb, hb1⟩
  have HB1 := Lib.hid (HB0.out.trans (hb1.mono HB0.out.size))
  have HGD := Lib.hid hfb
  clear hb1 hfb
  cases fb
  · go_wp2_with fail
    go_ret
    exact ⟨rfl, HB1.out⟩
  have HG := Lib.hid (HGD.out (by first | rfl | trivial))
  have hn12 : n ≤ 12 := by rw [HN.out]; exact HG.out.1
  have CX := Lib.hid (choose_any A n c w.heap.size l now keep budget w1 HN.out (HY.out.below HB1.out) HB1.out.size (by omega) HG.out.each HK.out HNW.out)
  have CY := Lib.hid (fun W (hW : Below w.heap.size w W) => dchoose_any A n c w.heap.size l now keep budget W HN.out (HY.out.below hW) hW.size (by omega) HG.out.each HK.out HNW.out)
  have TX := Lib.hid (fun W (hW : Below w.heap.size w W) => total_any A n c w.heap.size l W HN.out (HY.out.below hW) hW.size (by omega) HG.out.each HK.out)
  have TY := Lib.hid (fun W (hW : Below w.heap.size w W) => dtotal_any A n c w.heap.size l W HN.out (HY.out.below hW) hW.size (by omega) HG.out.each HK.out)
  have hxl : (choose l now keep budget).length ≤ 24 := by have := choose_len20 l now keep budget; have := HN.out; omega
  generalize choose l now keep budget = X at *
  generalize totH (l.map Bl.hd) = t at *
  obtain ⟨nx, hnx⟩ : ∃ nx, nx = X.length := ⟨_, rfl⟩
  rw [← hnx] at hxl
  have HNX := Lib.hid hnx
  clear hnx HGD HG HFW HY HK
  go_wp2_with (first
    | (go_at_call 45; (with_reducible refine (TY.out _ HB4.out).mono ?_); rintro e w5 ⟨rfl, hb5⟩; have HO1 := Lib.hid (own_below HO1.out hb5); have HO2 := Lib.hid (own_below HO2.out hb5); have HB5 := Lib.hid (HB4.out.trans (hb5.mono HB4.out.size)); clear hb5)
    | (go_at_call 44; (with_reducible refine (TX.out _ HB3.out).mono ?_); rintro e w4 ⟨rfl, hb4⟩; have HO1 := Lib.hid (own_below HO1.out hb4); have HO2 := Lib.hid (own_below HO2.out hb4); have HB4 := Lib.hid (HB3.out.trans (hb4.mono HB3.out.size)); clear hb4)
    | (go_at_call 43; (with_reducible refine (CY.out _ HB2.out).mono ?_); rintro e w3 ⟨v3, rfl, ho3, hb3⟩; obtain ⟨Ay, cy, hv3, _, _⟩ := own_rd ho3; rw [← HNX.out] at hv3; subst hv3; have HO2 := Lib.hid ho3; have HO1 := Lib.hid (own_below HO1.out hb3); have HB3 := Lib.hid (HB2.out.trans (hb3.mono HB2.out.size)); clear ho3 hb3)
    | (go_at_call 42; (with_reducible refine CX.out.mono ?_); rintro e w2 ⟨v2, rfl, ho2, hb2⟩; obtain ⟨Ax, cx, hv2, _, _⟩ := own_rd ho2; rw [← HNX.out] at hv2; subst hv2; have HO1 := Lib.hid ho2; have HB2 := Lib.hid (HB1.out.trans (hb2.mono HB1.out.size)); clear ho2 hb2))
  have HRX : Hid (Rd w5 w5.heap.size Ax (X.map (Value.int .i64))) := Lib.hid (by
    obtain ⟨A4, c4, h4, _, hr4⟩ := own_rd HO1.out
    have e := (Value.slice.inj h4).1
    subst e
    exact hr4)
  have HRY : Hid (Rd w5 w5.heap.size Ay (X.map (Value.int .i64))) := Lib.hid (by
    obtain ⟨A4, c4, h4, _, hr4⟩ := own_rd HO2.out
    have e := (Value.slice.inj h4).1
    subst e
    exact hr4)
  clear HO1 HO2 CX CY TX TY
  go_loopw [12] (fun iv wr => ∃ i : Nat, iv = .int .i64 (i : Int) ∧ i ≤ nx ∧ Hid (Below w5.heap.size w5 wr)) (fun iv _ => nx - (intOf iv).toNat)
  case atStart => exact ⟨0, rfl, Nat.zero_le _, Lib.hid (Below.refl _ _)⟩
  case round =>
    obtain ⟨i, rfl, hi, HB⟩ := hrel
    by_cases hil : i < nx
    · obtain ⟨xv, hxv⟩ : ∃ xv, X[i]? = some xv := ⟨_, List.getElem?_eq_getElem (by rw [← HNX.out]; exact hil)⟩
      obtain ⟨ax, hax, hxb, hxc⟩ := HRX.out (by rw [List.length_map, ← HNX.out]; omega)
      obtain ⟨ay, hay, hyb, hyc⟩ := HRY.out (by rw [List.length_map, ← HNX.out]; omega)
      subst hax
      subst hay
      have x0 := (HB.out.cell (p := ax.add i) (by rw [block_add]; exact hxb)).trans (hxc i (.int .i64 xv) (by rw [List.getElem?_map, hxv]; rfl))
      have y0 := (HB.out.cell (p := ay.add i) (by rw [block_add]; exact hyb)).trans (hyc i (.int .i64 xv) (by rw [List.getElem?_map, hxv]; rfl))
      have j0 : (0 : Int) ≤ (i : Int) := by omega
      have j1 : (i : Int) < (nx : Int) := by omega
      clear hxv hxc hyc hxb hyb
      go_upto_region 11 with fail
      go_quiet (fail)
      go_wp2_with fail
      go_roundw
      case rel => exact ⟨i + 1, by go_num, by omega, Lib.hid ⟨HB.out.os, HB.out.tape, HB.out.output, HB.out.size, HB.out.block⟩⟩
      case measure => simp [intOf]; omega
    · obtain rfl : i = nx := by omega
      go_wp2_with fail
      go_ret
      exact ⟨rfl, HB5.out.trans (HB.out.mono HB5.out.size)⟩
end Go.Proofs.Ytchcjbapbdfhkaa
