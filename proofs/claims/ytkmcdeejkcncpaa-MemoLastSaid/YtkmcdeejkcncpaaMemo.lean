/- What the code and the document remember of verdicts. -/
import Derived.Test.YtkmcdeejkcncpaaRows
import Derived.Test.YtkmcdeejkcncpaaApp
import Derived.Test.YtkmcdeejkcncpaaVm
import Derived.BigQuiet
import Derived.Deep.QuietTactic
import Derived.Laws.StructEq
namespace Go.Proofs.Ytkmcdeejkcncpaa
open Go.RowKit
theorem infoV : (Try.prog.info? 31).map (fun i => (i.zero, i.size, i.bytes)) = some (some (.agg #[.int .u64 0, .int .u64 0, .bool false]), 3, 24) := by kernel_rfl

/-- An element's three cells, as a walk asks for them. -/
theorem Rd.verdict {w : World} {B : Nat} {A : Option Addr} {l : List Vm.V} (h : Rd w B A (Vm.encs l)) {k : Nat} (hk : k < l.length) :
    ∃ b off, A = some ⟨b, off, none⟩ ∧ b < B ∧ w.cell? ⟨b, off + k * 3, none⟩ = some (.int .u64 (l[k]).1) ∧ w.cell? ⟨b, off + k * 3 + 1, none⟩ = some (.int .u64 (l[k]).2.1) ∧ w.cell? ⟨b, off + k * 3 + 2, none⟩ = some (.bool (l[k]).2.2) := by
  have hl := Vm.encs_len l
  obtain ⟨a, rfl, hb, hc⟩ := h (by omega)
  obtain ⟨h0, h1, h2⟩ := Vm.encs_at l k hk
  have hs : a.spot = none := by
    have := hc (k * 3) _ h0
    obtain ⟨b, off, spot⟩ := a
    rcases spot with _ | s
    · rfl
    · have h00 := hc 0 ((Vm.encs l)[0]'(by omega)) (List.getElem?_eq_getElem (by omega))
      simp [Addr.add, World.cell?] at h00
      split at h00 <;> simp at h00
  obtain ⟨b, off, spot⟩ := a
  simp only at hs
  subst hs
  have e : ∀ j, (⟨b, off, none⟩ : Addr).add j = ⟨b, off + j, none⟩ := by
    intro j; unfold Addr.add; split <;> simp_all
  refine ⟨b, off, rfl, hb, ?_, ?_, ?_⟩
  · rw [← e]; exact hc _ _ h0
  · rw [Nat.add_assoc, ← e]; exact hc _ _ h1
  · rw [Nat.add_assoc, ← e]; exact hc _ _ h2

/-- append of one verdict onto a row of one's own. -/
theorem appV {w : World} {ty : TypeId} {base : Nat} {v : Value} {q : Nat} {xs : List Value} (hown : w.ownsRow base 31 3 v q xs) {B : Nat} {a : Addr} {o : Vm.V} (hr : Rd w B (some a) (Vm.enc o)) (hq : q ≤ 4294967296) (hbase : base ≤ w.heap.size) :
    ∃ v' w', (Builtin.append_ #[25, 25] ty #[v, .slice (some a) 1 1]).run Try.prog w = .ok v' w' ∧ (w'.ownsRow base 31 3 v' (q + 1) (xs ++ Vm.enc o) ∧ Grew w w' v v') := by
  obtain ⟨i0, hi, hz0, hz1, hz2⟩ := info_parts infoV
  obtain ⟨v', w', h1, h2, h3⟩ := run_append_rd (P := Try.prog) w base 25 ty 31 i0 _ 3 24 Try.underlying25 hi hz0 hz1 hz2 rfl v q xs hown B (some a) 1 1 (Vm.enc o) rfl hr (by simp [Vm.enc, Value.oneCell']) (by unfold maxLen; omega) (by omega) hbase
  exact ⟨v', w', h1, h2, h3⟩
/-- The copy that a round makes of an element, and the one-element slice behind it. -/
theorem rd_two (w : World) (o1 : Obj) (o : Vm.V) : Rd ((w.alloc o1).alloc (.cells #[.int .u64 o.1, .int .u64 o.2.1, .bool o.2.2] 31)) (w.heap.size + 2) (some ⟨w.heap.size + 1, 0, none⟩) (Vm.enc o) := by
  have := Rd.lit (w.alloc o1) #[.int .u64 o.1, .int .u64 o.2.1, .bool o.2.2] 31
  simpa [Vm.enc] using this

set_option maxHeartbeats 2000000 in
set_option maxRecDepth 100000 in
theorem mput_calls (A : Option Addr) (l : List Vm.V) (n c : Nat) (v : Vm.V) (m : Int) (w : World) (hn : n = l.length) (hb : Rd w w.heap.size A (Vm.encs l)) (hl : l.length ≤ 1000) :
    Calls Try.prog 7 #[.slice A n c, .agg #[.int .u64 v.1, .int .u64 v.2.1, .bool v.2.2], .int .i64 m] w fun e w' =>
      ∃ A' n' c', e = .returned (.slice A' n' c') ∧ n' = (Vm.put l v m.toNat).length ∧ n' ≤ c' ∧ Rd w' w'.heap.size A' (Vm.encs (Vm.put l v m.toNat)) ∧ Below w.heap.size w w' := by
  obtain ⟨i0, hi, hz0, hz1, hz2⟩ := info_parts infoV
  have HN := Lib.hid hn
  have hn1 : n ≤ 1000 := by omega
  have HR := Lib.hid hb
  clear hn hb
  obtain ⟨vh, vl, vk⟩ := v
  simp only
  go_enter Try.func7, Try.ntmps7
  go_wp2
  have ho0 : ((w.alloc (.cells #[.int .u64 vh, .int .u64 vl, .bool vk] 31)).alloc (.cells #[.int .u64 vh, .int .u64 vl, .bool vk] 31)).ownsRow (w.heap.size + 1) 31 3 (.slice (some ⟨w.heap.size + 1, 0, none⟩) 1 1) 1 [.int .u64 vh, .int .u64 vl, .bool vk] := by
    have := World.ownsRow_lit (base := w.heap.size + 1) (e := 31) (size := 3) (w.alloc (.cells #[.int .u64 vh, .int .u64 vl, .bool vk] 31)) #[.int .u64 vh, .int .u64 vl, .bool vk] 1 (by simp) (by unfold maxLen; omega) rfl
    simpa using this
  have hb0 : Below (w.heap.size + 1) (w.alloc (.cells #[.int .u64 vh, .int .u64 vl, .bool vk] 31)) ((w.alloc (.cells #[.int .u64 vh, .int .u64 vl, .bool vk] 31)).alloc (.cells #[.int .u64 vh, .int .u64 vl, .bool vk] 31)) := (Below.refl _ _).alloc (by simp) _
  have hbw : Below w.heap.size w (w.alloc (.cells #[.int .u64 vh, .int .u64 vl, .bool vk] 31)) := (Below.refl _ _).alloc (Nat.le_refl _) _
  have hx : ∀ i, (w.alloc (.cells #[.int .u64 vh, .int .u64 vl, .bool vk] 31)).cell? ⟨w.heap.size, i, none⟩ = (#[.int .u64 vh, .int .u64 vl, .bool vk] : Array Value)[i]? := fun i => cell_of_row _ _ i _ 31 (0, 0) (heap_alloc_new w _)
  have hz1' : (w.alloc (.cells #[.int .u64 vh, .int .u64 vl, .bool vk] 31)).heap.size = w.heap.size + 1 := by simp
  have HR1 := Lib.hid (HR.out.below hbw)
  generalize hW : (w.alloc (.cells #[.int .u64 vh, .int .u64 vl, .bool vk] 31)).alloc (.cells #[.int .u64 vh, .int .u64 vl, .bool vk] 31) = W0 at *
  generalize w.alloc (.cells #[.int .u64 vh, .int .u64 vl, .bool vk] 31) = W1 at *
  have HO := Lib.hid ho0
  have HB0 := Lib.hid hb0
  have HBW := Lib.hid hbw
  have hx0 : W1.cell? ⟨w.heap.size, 0, none⟩ = some (.int .u64 vh) := hx 0
  have hx1 : W1.cell? ⟨w.heap.size, 1, none⟩ = some (.int .u64 vl) := hx 1
  have hx2 : W1.cell? ⟨w.heap.size, 2, none⟩ = some (.bool vk) := hx 2
  have HX0 := Lib.hid hx0
  have HX1 := Lib.hid hx1
  have HX2 := Lib.hid hx2
  have HZ := Lib.hid hz1'
  clear hW ho0 hb0 hbw hx hx0 hx1 hx2 hz1' HR
  have hBW := HBW.out
  clear HBW
  have HBW : ∀ {x : World}, Below (w.heap.size + 1) W1 x → Below w.heap.size w x := fun h => hBW.trans (h.mono (Nat.le_succ _))
  have HF : Hid (∀ x : World, Below (w.heap.size + 1) W1 x → Below w.heap.size w x) := fun x h => HBW h
  clear HBW hBW
  generalize hB : w.heap.size = B at *
  have HBE := Lib.hid hB
  clear hB
  go_loopw [7, 14] (fun v i wr => ∃ (k q c' : Nat) (A' : Option Addr), i = .int .i64 k ∧ k ≤ n ∧ v = .slice A' q c' ∧ Hid (q = (Vm.ahead (vh, vl, vk) (l.take k)).length) ∧ 1 ≤ q ∧ q ≤ k + 1 ∧ Hid (wr.ownsRow (B + 1) 31 3 (.slice A' q c') q (Vm.encs (Vm.ahead (vh, vl, vk) (l.take k)))) ∧ Hid (Below (B + 1) W1 wr) ∧ B + 1 ≤ wr.heap.size) (fun _ i _ => n - (intOf i).toNat)
  case atStart =>
    have hz := HB0.out.size
    rw [HZ.out] at hz
    exact ⟨0, 1, 1, _, rfl, Nat.zero_le _, rfl, rfl, Nat.le_refl _, Nat.le_refl _, HO.out, HB0.out, hz⟩
  case round =>
    clear HO HB0
    obtain ⟨k, q, c', A', rfl, hk, rfl, HQ, hq1, hq2, HO, HB, hsz⟩ := hrel
    have cx0 : wr.cell? ⟨B, 0, none⟩ = some (.int .u64 vh) := (HB.out.cell (p := ⟨B, 0, none⟩) (Nat.lt_succ_self _)).trans HX0.out
    have cx1 : wr.cell? ⟨B, 1, none⟩ = some (.int .u64 vl) := (HB.out.cell (p := ⟨B, 1, none⟩) (Nat.lt_succ_self _)).trans HX1.out
    have cx2 : wr.cell? ⟨B, 2, none⟩ = some (.bool vk) := (HB.out.cell (p := ⟨B, 2, none⟩) (Nat.lt_succ_self _)).trans HX2.out
    have a0 : ∀ o, (wr.alloc o).cell? ⟨B, 0, none⟩ = some (.int .u64 vh) := fun o => (World.cell?_alloc_lt wr o ⟨B, 0, none⟩ hsz).trans cx0
    have a1 : ∀ o, (wr.alloc o).cell? ⟨B, 1, none⟩ = some (.int .u64 vl) := fun o => (World.cell?_alloc_lt wr o ⟨B, 1, none⟩ hsz).trans cx1
    clear cx0 cx1 cx2
    by_cases hlt : k < n
    · have hkl : k < l.length := by have := HN.out; omega
      obtain ⟨b, off, rfl, hbB, c0, c1, c2⟩ := ((HR1.out.more (Nat.le_succ B)).below HB.out).verdict hkl
      have hst := Vm.ahead_snoc (vh, vl, vk) l k hkl
      generalize l[k] = o at *
      obtain ⟨oh, ol, ok⟩ := o
      simp only at c0 c1 c2
      have HST := Lib.hid hst
      clear hst
      have hcase : (((oh : Int) == vh) = true ∧ ((ol : Int) == vl) = true ∧ Vm.same (oh, ol, ok) (vh, vl, vk) = true) ∨ (((oh : Int) == vh) = false ∧ Vm.same (oh, ol, ok) (vh, vl, vk) = false) ∨ (((oh : Int) == vh) = true ∧ ((ol : Int) == vl) = false ∧ Vm.same (oh, ol, ok) (vh, vl, vk) = false) := by
        by_cases h1 : oh = vh
        · by_cases h2 : ol = vl
          · exact .inl (by simp [h1, h2, Vm.same])
          · exact .inr (.inr (by simp [h1, h2, Vm.same]; omega))
        · exact .inr (.inl (by simp [h1, Vm.same]; omega))
      rcases hcase with ⟨b1, b2, hs⟩ | ⟨b1, hs⟩ | ⟨b1, b2, hs⟩
      · have H2 : Hid (Vm.ahead (vh, vl, vk) (l.take (k + 1)) = Vm.ahead (vh, vl, vk) (l.take k)) := by rw [HST.out, hs]; simp [Hid]
        clear HST hs
        go_wp2_with (fail)
        go_roundw
        case rel => exact ⟨k + 1, q, c', A', by go_num, by omega, rfl, by rw [H2.out]; exact HQ, hq1, by omega, by rw [H2.out]; exact HO.out.alloc _, HB.out.alloc hsz _, by simp; omega⟩
        case measure => simp [intOf]; omega
      all_goals
        have H2 : Hid (Vm.ahead (vh, vl, vk) (l.take (k + 1)) = Vm.ahead (vh, vl, vk) (l.take k) ++ [(oh, ol, ok)]) := by rw [HST.out, hs]; simp [Hid]
        clear HST hs
        go_wp2_with (at_builtin; refine wpList_app rfl (.tmp 23) (.tmp 25) _ _ rfl rfl rfl (appV ((HO.out.alloc _).alloc _) (rd_two wr _ (oh, ol, ok)) (by omega) (by simp; omega)) ?_; rintro v2 w2 ⟨ho2, hg2⟩; have hb2 := Lib.hid (hg2.alloc.alloc.below HB.out hsz (own_block_ge HO.out)); have hs2 := hg2.alloc.alloc.grown.size; obtain ⟨A2, c2, rfl, hc2, hr2⟩ := own_rd ho2; have HO2 := Lib.hid ho2; clear ho2 hg2 hr2)
        go_roundw
        case rel => exact ⟨k + 1, q + 1, c2, A2, by go_num, by omega, rfl, by rw [H2.out, List.length_append, ← HQ.out]; rfl, by omega, by omega, by rw [H2.out, Vm.encs_append]; exact HO2.out, hb2.out, by omega⟩
        case measure => simp [intOf]; omega
    · obtain rfl : k = n := by omega
      have ht : l.take k = l := List.take_of_length_le (by have := HN.out; omega)
      rw [ht] at HQ HO
      obtain ⟨A3, c3, hv3, hc3, hr3⟩ := own_rd HO.out
      injection hv3 with e1 e2 e3
      subst e1
      subst e3
      clear e2 a0 a1 ht
      have hfin : ∀ r : Nat, r = min q m.toNat → (r = (Vm.put l (vh, vl, vk) m.toNat).length ∧ r ≤ c' ∧ Rd wr wr.heap.size A' (Vm.encs (Vm.put l (vh, vl, vk) m.toNat)) ∧ Below w.heap.size w wr) := by
        intro r hr
        refine ⟨?_, by omega, ?_, ?_⟩
        · rw [hr, HQ.out]; simp only [Vm.put, List.length_take]; omega
        · unfold Vm.put; rw [← Vm.encs_take]; exact hr3.take _
        · rw [HBE.out]; exact HF.out wr HB.out
      have HFIN := Lib.hid hfin
      clear hfin hr3
      rcases Int.lt_or_le m 0 with hm | hm
      · go_wp2
        all_goals
          go_ret
          exact ⟨_, _, _, rfl, HFIN.out _ (by omega)⟩
      · rcases Int.lt_or_le (q : Int) m with hq | hq
        · go_wp2
          all_goals
            go_ret
            exact ⟨_, _, _, rfl, HFIN.out _ (by omega)⟩
        · go_wp2
          all_goals
            go_ret
            exact ⟨_, _, _, rfl, HFIN.out _ (by omega)⟩
end Go.Proofs.Ytkmcdeejkcncpaa
