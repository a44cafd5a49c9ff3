/- The spans of a trace's episodes, each Id once. -/
import Derived.Test.YtjjklinjcbonkaaMc
import Derived.Laws.StructEq
namespace Go.Proofs.Ytjjklinjcbonkaa
open Go.RowKit Go.Maps
set_option linter.unusedVariables false
set_option maxRecDepth 100000

/-- A span more: what lies there, which Ids were seen. -/
def spn (a : List Sp × List Int) (s : Sp) : List Sp × List Int := (if a.2.count s.id = 0 then a.1 ++ [s] else a.1, a.2 ++ [s.id])
def epSps (th tl : Int) (e : Le) : List Sp := if e.hi = th ∧ e.lo = tl then e.l.map Ls.s else []
def spAll (th tl : Int) (l : List Le) : List Sp × List Int := (l.flatMap (epSps th tl)).foldl spn ([], [])
theorem spAll_step (th tl : Int) (l : List Le) (k : Nat) (e : Le) (he : l[k]? = some e) : spAll th tl (l.take (k + 1)) = (epSps th tl e).foldl spn (spAll th tl (l.take k)) := by
  unfold spAll
  rw [List.take_add_one, he, List.flatMap_append, List.foldl_append]
  simp
theorem spn_len : ∀ (l : List Sp) (a : List Sp × List Int), (l.foldl spn a).2.length = a.2.length + l.length ∧ (l.foldl spn a).1.length ≤ a.1.length + l.length
  | [], a => by simp
  | s :: l, a => by
    have h := spn_len l (spn a s)
    have h1 : (spn a s).2.length = a.2.length + 1 := by simp [spn]
    have h2 : (spn a s).1.length ≤ a.1.length + 1 := by
      unfold spn
      split <;> simp
    simp only [List.foldl_cons, List.length_cons]
    omega
theorem OwnSps.counted {w w' : World} {base b n : Nat} {v : Value} {l : List Ls} {ids : List Int} (h : OwnSps w base v l) (hm : MapCnt w b n ids) (hg : w.grownBy w' (some b)) : OwnSps w' base v l :=
  ⟨h.own.kept hg (.inr (hm.not_own h.own)), fun x hx => ⟨(h.each x hx).own.kept hg (.inr (hm.not_own (h.each x hx).own)), (h.each x hx).ok⟩⟩
/-- The lookup, its outcome by name. -/
theorem wpList_cntN {w : World} {ops : Array Oper} {rest : List Oper} {o : Oper} {a : Act} {Q : Exit → Act → World → Prop} {b n : Nat} {ids : List Int} {id : Int} (cn : Nat) (h : MapCnt w b n ids) (hid : 0 ≤ id ∧ id ≤ 18446744073709551615) (hcn : ids.count id = cn)
    (hg : o.guard = none) (m x : Operand) (hop : o.op = Op.lookup 56 m x false) (hm : a.eval m = .map (some b)) (hx : a.eval x = .int .u64 id)
    (hK : wpList Try.prog ops Q rest (a.put o.dst (.int .i64 (cn : Nat))) w) : wpList Try.prog ops Q (o :: rest) a w := by
  subst hcn
  exact wpList_cnt h hid hg m x hop hm hx hK
theorem wpList_cntN_put {w : World} {ops : Array Oper} {rest : List Oper} {o : Oper} {a : Act} {Q : Exit → Act → World → Prop} {b n : Nat} {ids : List Int} {id : Int} (cn : Nat) (h : MapCnt w b n ids) (hid : 0 ≤ id ∧ id ≤ 18446744073709551615) (hn : n ≤ 2000000) (hl : ids.length ≤ 2000000) (hcn : ids.count id = cn)
    (hg : o.guard = none) (m x v : Operand) (hop : o.op = Op.mapUpdate 56 m x v) (hm : a.eval m = .map (some b)) (hx : a.eval x = .int .u64 id) (hv : a.eval v = .int .i64 ((cn : Int) + 1))
    (hK : ∀ w', MapCnt w' b (n + 1) (ids ++ [id]) → w.grownBy w' (some b) → wpList Try.prog ops Q rest (a.put o.dst undef) w') : wpList Try.prog ops Q (o :: rest) a w := by
  subst hcn
  exact wpList_cnt_put h hid hn hl hg m x v hop hm hx hv hK

set_option maxHeartbeats 8000000 in
theorem spans_any (A : Option Addr) (l : List Le) (n c B : Nat) (th tl : Int) (w : World) (hn : n = l.length) (hy : RdEps w B A l) (hB : B ≤ w.heap.size) (hl : n ≤ 1000) (he : ∀ e ∈ l, e.l.length ≤ 1000) (ha : ∀ e ∈ l, ∀ x ∈ e.l, x.s.ats.length ≤ 100000) :
    Calls Try.prog 14 #[.slice A n c, .agg #[.int .u64 th, .int .u64 tl]] w (CopiesOf (spAll th tl l).1 w) := by
  have HN := Lib.hid hn
  have HY := Lib.hid hy
  have HA := Lib.hid ha
  have HE := Lib.hid he
  have hmm := @run_makeMap Try.prog
  have hW1 : (w.alloc (.cells #[.int .u64 th, .int .u64 tl] 25)).heap.size = w.heap.size + 1 := by simp
  have HM0 : Hid (MapCnt ((w.alloc (.cells #[.int .u64 th, .int .u64 tl] 25)).alloc (.map #[] 0)) (w.heap.size + 1) 0 []) := Lib.hid (by have := MapCnt.made (w.alloc (.cells #[.int .u64 th, .int .u64 tl] 25)); rwa [hW1] at this)
  have HB0 : Hid (Below (w.heap.size + 1) (w.alloc (.cells #[.int .u64 th, .int .u64 tl] 25)) ((w.alloc (.cells #[.int .u64 th, .int .u64 tl] 25)).alloc (.map #[] 0))) := Lib.hid ((Below.refl _ _).alloc (by rw [hW1]; exact Nat.le_refl _) _)
  have HBX : Hid (Below w.heap.size w (w.alloc (.cells #[.int .u64 th, .int .u64 tl] 25))) := Lib.hid ((Below.refl _ _).alloc (Nat.le_refl _) _)
  have HTB : Hid (∀ w1, Below (w.heap.size + 1) (w.alloc (.cells #[.int .u64 th, .int .u64 tl] 25)) w1 → w1.heap[w.heap.size]? = some (.cells #[.int .u64 th, .int .u64 tl] 25) ∧ w.heap.size + 1 ≤ w1.heap.size ∧ Below w.heap.size w w1) := Lib.hid (fun w1 hb => ⟨(hb.block _ (by omega)).trans (heap_alloc_new w _), by have := hb.size; rw [hW1] at this; exact this, HBX.out.trans (hb.mono (by omega))⟩)
  clear hn hy ha he hW1
  go_enter Try.func14, Try.ntmps14
  go_wp2_with fail
  go_loopw [5, 14] (fun v i wr => ∃ (k n1 : Nat) (l' : List Ls), i = .int .i64 k ∧ k ≤ n ∧ n1 ≤ 1000 * k ∧ (spAll th tl (l.take k)).2.length ≤ 1000 * k ∧ (spAll th tl (l.take k)).1.length ≤ 1000 * k ∧ Hid (OwnSps wr (w.heap.size + 2) v l' ∧ l'.map Ls.s = (spAll th tl (l.take k)).1) ∧ Hid (MapCnt wr (w.heap.size + 1) n1 (spAll th tl (l.take k)).2) ∧ Hid (Below (w.heap.size + 1) (w.alloc (.cells #[.int .u64 th, .int .u64 tl] 25)) wr)) (fun _ i _ => n - (intOf i).toNat)
  case atStart => exact ⟨0, 0, [], rfl, Nat.zero_le _, Nat.le_refl _, Nat.le_refl _, Nat.le_refl _, Lib.hid ⟨OwnSps.nil, rfl⟩, HM0, HB0⟩
  case round =>
    obtain ⟨k, n1, l', rfl, hk, hn1, hil, hol, HO, HM, HB⟩ := hrel
    by_cases hlt : k < n
    · obtain ⟨e, hx⟩ : ∃ e, l[k]? = some e := ⟨_, List.getElem?_eq_getElem (by rw [← HN.out]; exact hlt)⟩
      obtain ⟨hT, hsr, hBw⟩ := HTB.out _ HB.out
      have HR : Hid (RdEps wr B A l) := Lib.hid (HY.out.below (hBw.mono hB))
      have hBr : B ≤ wr.heap.size := Nat.le_trans hB hBw.size
      obtain ⟨a, ha, hab, hc, hl2⟩ := HR.out.at_ hx
      subst ha
      have hln := HE.out e (List.mem_of_getElem? hx)
      have HAe : Hid (∀ x ∈ e.l, x.s.ats.length ≤ 100000) := Lib.hid (HA.out e (List.mem_of_getElem? hx))
      have hst := spAll_step th tl l k e hx
      have HT := Lib.hid hT
      have t0 : wr.cell? ⟨w.heap.size, 0, none⟩ = some (.int .u64 th) := cell_of_row _ _ 0 _ _ (0, 0) hT
      have t1 : wr.cell? ⟨w.heap.size, 1, none⟩ = some (.int .u64 tl) := cell_of_row _ _ 1 _ _ (0, 0) hT
      obtain ⟨ehi, elo, ef, ela, esu, el, eA, ec⟩ := e
      obtain ⟨m, hm⟩ : ∃ m, m = el.length := ⟨_, rfl⟩
      simp only at hln HAe hl2
      rw [← hm] at hln
      have c0 := hc 0 _ rfl
      have c1 := cell_far (hc 1 _ rfl) (by omega)
      have c2 := cell_far (hc 2 _ rfl) (by omega)
      have c3 := cell_far (hc 3 _ rfl) (by omega)
      have c4 := cell_far (hc 4 _ rfl) (by omega)
      have c5 : wr.cell? ⟨(a.add (k * 6)).block, (a.add (k * 6)).off + 5, none⟩ = some (.slice eA m ec) := by rw [hm]; exact cell_far (hc 5 _ rfl) (by omega)
      simp only [Nat.add_zero] at c0
      simp only at c1 c2 c3 c4
      generalize spAll th tl (l.take k) = sa at *
      have hab2 : (a.add (k * 6)).block < wr.heap.size := by rw [block_add]; omega
      have hwr : w.heap.size < wr.heap.size := by omega
      have hX0 : (wr.alloc (.cells #[.int .u64 ehi, .int .u64 elo, .int .i64 ef, .int .i64 ela, .bool esu, .slice eA m ec] 28)).cell? ⟨w.heap.size, 0, none⟩ = some (.int .u64 th) := (World.cell?_alloc_lt _ _ ⟨w.heap.size, 0, none⟩ hwr).trans t0
      have hX1 : (wr.alloc (.cells #[.int .u64 ehi, .int .u64 elo, .int .i64 ef, .int .i64 ela, .bool esu, .slice eA m ec] 28)).cell? ⟨w.heap.size, 1, none⟩ = some (.int .u64 tl) := (World.cell?_alloc_lt _ _ ⟨w.heap.size, 1, none⟩ hwr).trans t1
      have HX := Lib.hid hx
      have HEM := Lib.hid hm
      have HL2 := Lib.hid hl2
      have HST := Lib.hid hst
      have HBA : Hid (Below wr.heap.size wr (wr.alloc (.cells #[.int .u64 ehi, .int .u64 elo, .int .i64 ef, .int .i64 ela, .bool esu, .slice eA m ec] 28))) := Lib.hid ((Below.refl _ _).alloc (Nat.le_refl _) _)
      clear hc hl2 hx hm hst hT hBw
      have hcc : (((ehi == th) = false) ∨ ((ehi == th) = true ∧ (elo == tl) = false)) ∨ ((ehi == th) = true ∧ (elo == tl) = true) := by
        by_cases h1 : ehi = th <;> by_cases h2 : elo = tl <;> simp_all
      rcases hcc with hne | ⟨h1, h2⟩
      · have HS : Hid (spAll th tl (l.take (k + 1)) = sa) := Lib.hid (by rw [HST.out]; unfold epSps; rw [if_neg (by rintro ⟨r1, r2⟩; simp only at r1 r2; rcases hne with h | ⟨_, h⟩ <;> simp_all)]; rfl)
        rcases hne with h1 | ⟨h1, h2⟩
        all_goals
          go_wp2_with fail
          go_roundw
          case rel => exact ⟨k + 1, n1, l', by go_num, by omega, by omega, by rw [HS.out]; omega, by rw [HS.out]; omega, Lib.hid ⟨HO.out.1.below HBA.out, by rw [HS.out]; exact HO.out.2⟩, Lib.hid (by rw [HS.out]; exact HM.out.block (HBA.out.block _ HM.out.lt)), Lib.hid (HB.out.trans (HBA.out.mono hsr))⟩
          case measure => simp [intOf]; omega
      · have HS : Hid (spAll th tl (l.take (k + 1)) = (el.map Ls.s).foldl spn sa) := Lib.hid (by rw [HST.out]; unfold epSps; rw [if_pos ⟨by simpa using h1, by simpa using h2⟩])
        go_wp2_with fail
        generalize wr = w0 at *
        go_loopw [5, 25] (fun v j wq => ∃ (q n2 : Nat) (l2 : List Ls), j = .int .i64 q ∧ q ≤ m ∧ n2 ≤ 1000 * k + q ∧ Hid (OwnSps wq (w.heap.size + 2) v l2 ∧ l2.map Ls.s = (((el.take q).map Ls.s).foldl spn sa).1) ∧ Hid (MapCnt wq (w.heap.size + 1) n2 (((el.take q).map Ls.s).foldl spn sa).2) ∧ Hid (Below (w.heap.size + 1) (w.alloc (.cells #[.int .u64 th, .int .u64 tl] 25)) wq)) (fun _ j _ => m - (intOf j).toNat)
        case atStart => exact ⟨0, n1, l', rfl, Nat.zero_le _, by omega, Lib.hid ⟨HO.out.1.below HBA.out, by simpa using HO.out.2⟩, Lib.hid (by simpa using HM.out.block (HBA.out.block _ HM.out.lt)), Lib.hid (HB.out.trans (HBA.out.mono hsr))⟩
        case round =>
          obtain ⟨q, n2, l2, rfl, hq, hn2, HO2, HM2, HB2⟩ := hrel
          obtain ⟨hT2, hsr2, hBw2⟩ := HTB.out _ HB2.out
          have HR2 : Hid (RdSps wr B eA el) := Lib.hid ((HY.out.below (hBw2.mono hB)).each _ (List.mem_of_getElem? HX.out))
          have hBr2 : B ≤ wr.heap.size := Nat.le_trans hB hBw2.size
          have hlen := spn_len ((el.take q).map Ls.s) sa
          have htl : ((el.take q).map Ls.s).length ≤ q := by rw [List.length_map, List.length_take]; omega
          have hmlt := HM2.out.lt
          by_cases hqm : q < m
          · obtain ⟨x, hx⟩ : ∃ x, el[q]? = some x := ⟨_, List.getElem?_eq_getElem (by rw [← HEM.out]; exact hqm)⟩
            have hst2 : ((el.take (q + 1)).map Ls.s).foldl spn sa = spn (((el.take q).map Ls.s).foldl spn sa) x.s := by rw [List.take_add_one, hx, List.map_append, List.foldl_append]; simp
            have HST2 := Lib.hid hst2
            generalize ((el.take q).map Ls.s).foldl spn sa = sq at *
            have hi2 : sq.2.length ≤ 1000 * k + q := by omega
            have ho2 : l2.length ≤ 1000000 := by
              have h1 := congrArg List.length HO2.out.2
              rw [List.length_map] at h1
              omega
            obtain ⟨b, hb, hbb, hd, hxl⟩ := HR2.out.at_ hx
            subst hb
            have HID := Lib.hid hxl.ok.id
            have hla : x.s.ats.length ≤ 100000 := HAe.out x (List.mem_of_getElem? hx)
            obtain ⟨⟨x0, x1, x2, x3, x4, x5, x6, x7, x8, ats⟩, xA, xc⟩ := x
            obtain ⟨p, hp⟩ : ∃ p, p = ats.length := ⟨_, rfl⟩
            simp only at hla HID
            rw [← hp] at hla
            have d0 := hd 0 _ rfl
            have d1 := cell_far (hd 1 _ rfl) (by omega)
            have d2 := cell_far (hd 2 _ rfl) (by omega)
            have d3 := cell_far (hd 3 _ rfl) (by omega)
            have d4 := cell_far (hd 4 _ rfl) (by omega)
            have d5 := cell_far (hd 5 _ rfl) (by omega)
            have d6 := cell_far (hd 6 _ rfl) (by omega)
            have d7 := cell_far (hd 7 _ rfl) (by omega)
            have d8 := cell_far (hd 8 _ rfl) (by omega)
            have d9 : wr.cell? ⟨(b.add (q * 10)).block, (b.add (q * 10)).off + 9, none⟩ = some (.slice xA p xc) := by rw [hp]; exact cell_far (hd 9 _ rfl) (by omega)
            simp only [Nat.add_zero] at d0
            simp only at d1 d2 d3 d4 d5 d6 d7 d8
            have hbb2 : (b.add (q * 10)).block < wr.heap.size := by rw [block_add]; omega
            have HPN := Lib.hid hp
            have HXL := Lib.hid hxl
            have HBA2 : Hid (Below wr.heap.size wr (wr.alloc (.cells #[.int .u64 x0, .int .u64 x1, .int .u64 x2, .int .u64 x3, .string x4, .string x5, .int .i64 x6, .int .i64 x7, .bool x8, .slice xA p xc] 31))) := Lib.hid ((Below.refl _ _).alloc (Nat.le_refl _) _)
            have HMA : Hid (MapCnt (wr.alloc (.cells #[.int .u64 x0, .int .u64 x1, .int .u64 x2, .int .u64 x3, .string x4, .string x5, .int .i64 x6, .int .i64 x7, .bool x8, .slice xA p xc] 31)) (w.heap.size + 1) n2 sq.2) := Lib.hid (HM2.out.block (HBA2.out.block _ HM2.out.lt))
            obtain ⟨cn, hcn⟩ : ∃ cn, sq.2.count x2 = cn := ⟨_, rfl⟩
            have hcb : cn ≤ 2000000 := by rw [← hcn]; exact Nat.le_trans List.count_le_length (by omega)
            have hc2 : (sq.2 ++ [x2]).count x2 = cn + 1 := by rw [List.count_append, hcn]; simp
            have HCN := Lib.hid hcn
            have hnb : n2 ≤ 2000000 := by omega
            have hlb : sq.2.length ≤ 2000000 := by omega
            clear hd hxl hx hp hst2 hT2 hBw2 hcn
            obtain ⟨d, hd⟩ : ∃ d, d = cn + 1 := ⟨_, rfl⟩
            have HCD : Hid ((sq.2 ++ [x2]).count x2 = d) := Lib.hid (hc2.trans hd.symm)
            clear hc2
            rcases Nat.eq_zero_or_pos cn with hz | hz
            · have hdb : ((d : Int) == 1) = true := by rw [hd, hz]; rfl
              have HSP : Hid (((el.take (q + 1)).map Ls.s).foldl spn sa = (sq.1 ++ [⟨x0, x1, x2, x3, x4, x5, x6, x7, x8, ats⟩], sq.2 ++ [x2])) := Lib.hid (by rw [HST2.out]; unfold spn; simp only; rw [HCN.out, if_pos hz])
              clear hd hz
              go_wp2_with (first
                | (at_lookup; refine wpList_cntN cn HMA.out HID.out HCN.out rfl _ _ rfl rfl rfl ?_)
                | (at_lookup; refine wpList_cntN d HM3.out HID.out HCD.out rfl _ _ rfl rfl rfl ?_)
                | (at_mapUpdate; refine wpList_cntN_put cn HMA.out HID.out hnb hlb HCN.out rfl _ _ _ rfl rfl rfl rfl ?_; intro w2 hm2 hg2; have hs2 : wr.heap.size + 1 ≤ w2.heap.size := (by have := hg2.size; simpa using this); have hP : w2.heap[wr.heap.size]? = some (.cells #[.int .u64 x0, .int .u64 x1, .int .u64 x2, .int .u64 x3, .string x4, .string x5, .int .i64 x6, .int .i64 x7, .bool x8, .slice xA p xc] 31) := (hg2.block wr.heap.size (by simp) (by intro e; injection e with e; have := HM2.out.lt; omega)).trans (heap_alloc_new wr _); have o0 : w2.cell? ⟨wr.heap.size, 0, none⟩ = some (.int .u64 x0) := cell_of_row _ _ 0 _ _ (0, 0) hP; have o1 : w2.cell? ⟨wr.heap.size, 1, none⟩ = some (.int .u64 x1) := cell_of_row _ _ 1 _ _ (0, 0) hP; have o2 : w2.cell? ⟨wr.heap.size, 2, none⟩ = some (.int .u64 x2) := cell_of_row _ _ 2 _ _ (0, 0) hP; have o3 : w2.cell? ⟨wr.heap.size, 3, none⟩ = some (.int .u64 x3) := cell_of_row _ _ 3 _ _ (0, 0) hP; have o4 : w2.cell? ⟨wr.heap.size, 4, none⟩ = some (.string x4) := cell_of_row _ _ 4 _ _ (0, 0) hP; have o5 : w2.cell? ⟨wr.heap.size, 5, none⟩ = some (.string x5) := cell_of_row _ _ 5 _ _ (0, 0) hP; have o6 : w2.cell? ⟨wr.heap.size, 6, none⟩ = some (.int .i64 x6) := cell_of_row _ _ 6 _ _ (0, 0) hP; have o7 : w2.cell? ⟨wr.heap.size, 7, none⟩ = some (.int .i64 x7) := cell_of_row _ _ 7 _ _ (0, 0) hP; have o8 : w2.cell? ⟨wr.heap.size, 8, none⟩ = some (.bool x8) := cell_of_row _ _ 8 _ _ (0, 0) hP; have o9 : w2.cell? ⟨wr.heap.size, 9, none⟩ = some (.slice xA p xc) := cell_of_row _ _ 9 _ _ (0, 0) hP; have HM3 := Lib.hid hm2; have HBW : Hid (Below (w.heap.size + 1) (w.alloc (.cells #[.int .u64 th, .int .u64 tl] 25)) w2) := Lib.hid ((HB2.out.trans (HBA2.out.mono hsr2)).grown hg2 (Nat.le_trans hsr2 (Nat.le_trans (Nat.le_succ _) (by simp))) (fun j hj => by cases hj; exact Nat.le_refl _)); have HOW : Hid (OwnSps w2 (w.heap.size + 2) _ l2) := Lib.hid ((HO2.out.1.below HBA2.out).counted HMA.out hg2); have HXW : Hid (RdL w2 B ⟨⟨x0, x1, x2, x3, x4, x5, x6, x7, x8, ats⟩, xA, xc⟩) := Lib.hid (HXL.out.below (((Below.refl _ _).alloc hBr2 _).grown hg2 (Nat.le_trans hBr2 (by simp)) (fun j hj => by cases hj; omega))); have hsB : B ≤ w2.heap.size := (by omega); have hs3 : w.heap.size + 2 ≤ w2.heap.size := (by omega); clear hm2 hg2 hP)
                | (go_at_call 28; (with_reducible refine (copy_lit x0 x1 x2 x3 x4 x5 x6 x7 x8 ats xA xc p B _ HPN.out HXW.out hsB hla).mono ?_); rintro e w3 ⟨A2, c2, rfl, ho3, hb3⟩; have HO3 := Lib.hid ho3; have HB3 := Lib.hid hb3; clear ho3 hb3)
                | (at_builtin; go_loud (refine wpList_app rfl (.tmp 39) (.tmp 42) _ _ rfl rfl rfl (appSp (x := ⟨⟨x0, x1, x2, x3, x4, x5, x6, x7, x8, ats⟩, A2, c2⟩) (HOW.out.below (HB3.out.trans ((Below.refl _ _).alloc HB3.out.size _))) ((HO3.out.mono hs3).below ((Below.refl _ _).alloc (Nat.le_refl _) _)) (B := w3.heap.size + 1) (by rw [Ls.lit_cells _ _ _ _ _ _ _ _ _ _ _ _ p HPN.out]; exact Rd.lit w3 _ _) ho2 (Nat.le_trans hs3 (Nat.le_trans HB3.out.size (by simp)))) ?_; rintro v4 w4 ⟨ho4, hg4⟩; have HO4 := Lib.hid ho4; have HG4 := Lib.hid hg4; clear ho4 hg4)))
              go_roundw
              case rel =>
                have HM4 := HM3.out.block ((HB3.out.trans ((Below.refl _ _).alloc HB3.out.size (.cells #[.int .u64 x0, .int .u64 x1, .int .u64 x2, .int .u64 x3, .string x4, .string x5, .int .i64 x6, .int .i64 x7, .bool x8, .slice A2 p c2] 31))).block _ HM3.out.lt)
                refine ⟨q + 1, n2 + 1, l2 ++ [⟨⟨x0, x1, x2, x3, x4, x5, x6, x7, x8, ats⟩, A2, c2⟩], by go_num, by omega, by omega, Lib.hid ⟨HO4.out, ?_⟩, Lib.hid ?_, Lib.hid ?_⟩
                · rw [HSP.out, List.map_append, HO2.out.2]; rfl
                · rw [HSP.out]
                  exact HM4.block (HG4.out.grown.block _ HM4.lt (HM4.not_own (HOW.out.below (HB3.out.trans ((Below.refl _ _).alloc HB3.out.size _))).own).symm)
                · exact HG4.out.below (HBW.out.trans ((HB3.out.mono (by omega)).trans ((Below.refl _ _).alloc (Nat.le_trans (by omega) HB3.out.size) _))) (Nat.le_trans (by omega) (Nat.le_trans HB3.out.size (by simp))) (fun j hj => by have := own_block_ge HOW.out.own j hj; omega)
              case measure => simp [intOf]; omega
            · have hdb : ((d : Int) == 1) = false := by rw [hd]; simp; omega
              have HSP : Hid (((el.take (q + 1)).map Ls.s).foldl spn sa = (sq.1, sq.2 ++ [x2])) := Lib.hid (by rw [HST2.out]; unfold spn; simp only; rw [HCN.out, if_neg (by omega)])
              clear hd
              go_wp2_with (first
                | (at_lookup; refine wpList_cntN cn HMA.out HID.out HCN.out rfl _ _ rfl rfl rfl ?_)
                | (at_lookup; refine wpList_cntN d HM3.out HID.out HCD.out rfl _ _ rfl rfl rfl ?_)
                | (at_mapUpdate; refine wpList_cntN_put cn HMA.out HID.out hnb hlb HCN.out rfl _ _ _ rfl rfl rfl rfl ?_; intro w2 hm2 hg2; have hs2 : wr.heap.size + 1 ≤ w2.heap.size := (by have := hg2.size; simpa using this); have hP : w2.heap[wr.heap.size]? = some (.cells #[.int .u64 x0, .int .u64 x1, .int .u64 x2, .int .u64 x3, .string x4, .string x5, .int .i64 x6, .int .i64 x7, .bool x8, .slice xA p xc] 31) := (hg2.block wr.heap.size (by simp) (by intro e; injection e with e; have := HM2.out.lt; omega)).trans (heap_alloc_new wr _); have o0 : w2.cell? ⟨wr.heap.size, 0, none⟩ = some (.int .u64 x0) := cell_of_row _ _ 0 _ _ (0, 0) hP; have o1 : w2.cell? ⟨wr.heap.size, 1, none⟩ = some (.int .u64 x1) := cell_of_row _ _ 1 _ _ (0, 0) hP; have o2 : w2.cell? ⟨wr.heap.size, 2, none⟩ = some (.int .u64 x2) := cell_of_row _ _ 2 _ _ (0, 0) hP; have o3 : w2.cell? ⟨wr.heap.size, 3, none⟩ = some (.int .u64 x3) := cell_of_row _ _ 3 _ _ (0, 0) hP; have o4 : w2.cell? ⟨wr.heap.size, 4, none⟩ = some (.string x4) := cell_of_row _ _ 4 _ _ (0, 0) hP; have o5 : w2.cell? ⟨wr.heap.size, 5, none⟩ = some (.string x5) := cell_of_row _ _ 5 _ _ (0, 0) hP; have o6 : w2.cell? ⟨wr.heap.size, 6, none⟩ = some (.int .i64 x6) := cell_of_row _ _ 6 _ _ (0, 0) hP; have o7 : w2.cell? ⟨wr.heap.size, 7, none⟩ = some (.int .i64 x7) := cell_of_row _ _ 7 _ _ (0, 0) hP; have o8 : w2.cell? ⟨wr.heap.size, 8, none⟩ = some (.bool x8) := cell_of_row _ _ 8 _ _ (0, 0) hP; have o9 : w2.cell? ⟨wr.heap.size, 9, none⟩ = some (.slice xA p xc) := cell_of_row _ _ 9 _ _ (0, 0) hP; have HM3 := Lib.hid hm2; have HBW : Hid (Below (w.heap.size + 1) (w.alloc (.cells #[.int .u64 th, .int .u64 tl] 25)) w2) := Lib.hid ((HB2.out.trans (HBA2.out.mono hsr2)).grown hg2 (Nat.le_trans hsr2 (Nat.le_trans (Nat.le_succ _) (by simp))) (fun j hj => by cases hj; exact Nat.le_refl _)); have HOW : Hid (OwnSps w2 (w.heap.size + 2) _ l2) := Lib.hid ((HO2.out.1.below HBA2.out).counted HMA.out hg2); have HXW : Hid (RdL w2 B ⟨⟨x0, x1, x2, x3, x4, x5, x6, x7, x8, ats⟩, xA, xc⟩) := Lib.hid (HXL.out.below (((Below.refl _ _).alloc hBr2 _).grown hg2 (Nat.le_trans hBr2 (by simp)) (fun j hj => by cases hj; omega))); have hsB : B ≤ w2.heap.size := (by omega); have hs3 : w.heap.size + 2 ≤ w2.heap.size := (by omega); clear hm2 hg2 hP))
              go_roundw
              case rel => exact ⟨q + 1, n2 + 1, l2, by go_num, by omega, by omega, Lib.hid ⟨HOW.out, by rw [HSP.out]; exact HO2.out.2⟩, Lib.hid (by rw [HSP.out]; exact HM3.out), HBW⟩
              case measure => simp [intOf]; omega
          · obtain rfl : q = m := by omega
            have htk : el.take q = el := List.take_of_length_le (by rw [← HEM.out]; exact Nat.le_refl _)
            rw [htk] at hlen htl
            have HTK := Lib.hid htk
            have hlen2 : (el.map Ls.s).length ≤ 1000 := by omega
            clear htk
            go_wp2_with fail
            go_roundw
            case rel => exact ⟨k + 1, n2, l2, by go_num, by omega, by omega, by rw [HS.out]; omega, by rw [HS.out]; omega, Lib.hid ⟨HO2.out.1, by rw [HS.out, HO2.out.2, HTK.out]⟩, Lib.hid (by rw [HS.out]; have := HM2.out; rwa [HTK.out] at this), HB2⟩
            case measure => simp [intOf]; omega
    · obtain rfl : k = n := by omega
      go_wp2_with fail
      go_ret
      refine ⟨_, l', rfl, HO.out.1.mono (by omega), ?_, (HTB.out _ HB.out).2.2⟩
      have h := HO.out.2
      rwa [List.take_of_length_le (by rw [← HN.out]; exact Nat.le_refl _)] at h
end Go.Proofs.Ytjjklinjcbonkaa
