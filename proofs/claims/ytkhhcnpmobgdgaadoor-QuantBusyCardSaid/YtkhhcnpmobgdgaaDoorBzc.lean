/- slices.SortFunc of the busiest, whatever their number. -/
import Derived.Test.YtkhhcnpmobgdgaaDoorBzb
import Derived.Test.YtkhhcnpmobgdgaaDoorBzl
import Derived.Shelf.SlSortCmp.WholeK
import Derived.Shelf.SlSortCmp.NoneTotal
import Derived.Sort.OwnSorted
namespace Go.Proofs.YtkhhcnpmobgdgaaDoor
open Go.RowKit Go.Shelf Go.Lib Go.Sort
set_option linter.unusedVariables false
set_option linter.unusedSimpArgs false
set_option maxRecDepth 100000

/-! A row of one's own of elements of any size, rewritten as a whole. -/
theorem holds_ownK {w : World} {g : Nat} {cur : Array Value} {e : TypeId} {F : Array Value} (hb : w.heap[g]? = some (.cells cur e (0, 0))) (ht : cur.toList.take F.size = F.toList) : Holds id w g 0 F := by
  intro j hj
  refine ⟨?_, by simp [World.frozen?, hb]⟩
  have h1 : (cur.toList.take F.size)[j]? = F.toList[j]? := by rw [ht]
  rw [List.getElem?_take_of_lt hj] at h1
  simp only [World.cell?, hb, Nat.zero_add, Option.isSome_none, Bool.false_eq_true, if_false, id]
  rw [← Array.getElem?_toList, h1, Array.getElem?_toList, Array.getElem?_eq_getElem hj, getElem!_pos F j hj]
theorem heap_putK {w : World} {g m : Nat} {os : Array Obj} {cur : Array Value} {e : TypeId} {fr : Nat × Nat} (F : Array Value) (hb : w.heap[g]? = some (.cells cur e fr)) :
    (grow (putRow id (Sort.ahead w m) g 0 F) os).heap[g]? = some (.cells (putCells id 0 F cur) e fr) := by
  have hg : g < w.heap.size := (Array.getElem?_eq_some_iff.1 hb).1
  rw [heap_grow_old _ _ (by simpa using hg)]
  simp [putRow, mapBlock, Sort.ahead, Array.getElem?_modify, hb, onCells]
theorem below_putK {w : World} {base g m : Nat} {os : Array Obj} (F : Array Value) (hg : base ≤ g) (hbs : base ≤ w.heap.size) : _root_.Go.RowKit.Below base w (grow (putRow id (Sort.ahead w m) g 0 F) os) := by
  refine ⟨rfl, rfl, rfl, by simp, fun k hk => ?_⟩
  rw [heap_grow_old _ _ (by simp [putRow, mapBlock, Sort.ahead]; omega)]
  have : g ≠ k := by omega
  simp [putRow, mapBlock, Sort.ahead, Array.getElem?_modify, this]
theorem take_putK (cur F : Array Value) (h : F.size ≤ cur.size) : (putCells id 0 F cur).toList.take F.size = F.toList := by
  apply List.ext_getElem?
  intro j
  by_cases hj : j < F.size
  · rw [List.getElem?_take_of_lt hj, Array.getElem?_toList, Array.getElem?_toList]
    simp [putCells, hj, show j < cur.size by omega]
  · rw [List.getElem?_take_eq_none (by omega), List.getElem?_eq_none (by simp; omega)]
theorem ownsRow_putK {w : World} {base g cap n k m : Nat} {e : TypeId} {os : Array Obj} {cur F : Array Value} (hbase : base ≤ g) (hb : w.heap[g]? = some (.cells cur e (0, 0))) (h1 : n ≤ cap) (h2 : cap ≤ maxLen) (h3 : cur.size = cap * k) (hF : F.size = n * k) :
    (grow (putRow id (Sort.ahead w m) g 0 F) os).ownsRow base e k (.slice (some ⟨g, 0, none⟩) n cap) n F.toList :=
  ⟨by simp [hF], .inr ⟨g, cap, _, rfl, hbase, heap_putK _ hb, h1, h2, by simp [putCells, h3], by rw [← hF]; exact take_putK cur F (by rw [hF, h3]; exact Nat.mul_le_mul_right k h1)⟩⟩
theorem flatK_list {α : Type} [Inhabited α] {enc : α → List Value} {k : Nat} (hk : ∀ x, (enc x).length = k) (l : List α) : (flatK enc k l.toArray).toList = l.flatMap enc := by
  apply List.ext_getElem?
  intro t
  have hs : (flatK enc k l.toArray).size = l.length * k := by simp
  have hl : (l.flatMap enc).length = l.length * k := flatMap_len _ k hk l
  by_cases ht : t < l.length * k
  · have k0 : 0 < k := by rcases Nat.eq_zero_or_pos k with h | h; · subst h; simp at ht
                          · exact h
    have hd : t / k < l.length := Nat.div_lt_of_lt_mul (by rw [Nat.mul_comm]; exact ht)
    have hm : t % k < k := Nat.mod_lt _ k0
    have e1 : (l.flatMap enc)[t]? = (l.flatMap enc)[t / k * k + t % k]? := by rw [Nat.div_add_mod']
    rw [e1, flatMap_at enc k hk l _ _ hm, Array.getElem?_toList, Array.getElem?_eq_getElem (by rw [hs]; exact ht), ← getElem!_pos _ t (by rw [hs]; exact ht), get_flatK _ _ _ t (by simpa using ht)]
    rw [getElem!_pos l.toArray (t / k) (by simpa using hd), List.getElem?_eq_getElem hd]
    simp only [List.getElem_toArray, Option.bind_some]
    rw [getElem!_pos (enc l[t / k]) (t % k) (by rw [hk]; exact hm), List.getElem?_eq_getElem (by rw [hk]; exact hm)]
  · rw [List.getElem?_eq_none (by simp [hs]; omega), List.getElem?_eq_none (by rw [hl]; omega)]
theorem lt_ordB (a b : Bz) : ltOf ordB a b = decide (ordB a b < 0) := rfl
theorem swoB : SWO (ltOf ordB) where
  irrefl x := by rw [lt_ordB, ordB_self]; rfl
  trans x y z h1 h2 := by rw [lt_ordB] at *; exact decide_eq_true (ordB_trans (of_decide_eq_true h1) (of_decide_eq_true h2))
  ntrans x y z h1 h2 := by
    rw [lt_ordB] at *
    have h1 := of_decide_eq_false h1
    have h2 := of_decide_eq_false h2
    refine decide_eq_false fun h3 => ?_
    obtain ⟨t1, t2, t3⟩ := ordB_tri z y x
    have f1 := ordB_flip x y
    have f2 := ordB_flip y z
    have f3 := ordB_flip x z
    by_cases e1 : ordB z y = 0
    · have := t2 e1; omega
    · by_cases e2 : ordB y x = 0
      · have := t3 e2; omega
      · have := t1 (by omega) (by omega); omega
theorem bz_eg : ∀ args w, (callFunc 46 args).run Tryd.prog w = .ok (.enter 46 args) w := enters_of Tryd.func46 (by kernel_rfl) rfl
theorem bzsort_any {w : World} {base n : Nat} {v : Value} {l : List Bz} (hn : n = l.length) (h : w.ownsRow base 61 4 v n (l.flatMap Bz.cells)) (h1 : OneB l) (hbase : base ≤ w.heap.size) (hsm : n ≤ 1000000) :
    Calls Tryd.prog 45 #[v, .func (.func 46) #[] #[]] w fun e w' => e = .returned (.tuple #[]) ∧ w'.ownsRow base 61 4 v n ((srtB l).flatMap Bz.cells) ∧ _root_.Go.RowKit.Below base w w' := by
  rcases h.2 with ⟨rfl, h0⟩ | ⟨g, cap, cur, rfl, hg, hb, hc, hm, hcs, ht⟩
  · subst h0
    have hl : l = [] := List.eq_nil_of_length_eq_zero hn.symm
    subst hl
    have hS := AnyF.slices_SortFunc_none (P := Tryd.prog) (ρ := laysBz_ren) laysBz none 0 (.func (.func 46) #[] #[]) w
    change Calls Tryd.prog 45 _ _ _ at hS
    refine hS.mono ?_
    rintro e w' ⟨rfl, rfl⟩
    exact ⟨rfl, h, _root_.Go.RowKit.Below.refl _ _⟩
  · have hF : (flatK Bz.cells 4 l.toArray).size = n * 4 := by rw [size_flatK, hn]; simp
    have hlen : l.toArray.size = n := by rw [hn]; simp
    have hH : HoldsK Bz.cells 4 w g 0 l.toArray := holds_ownK hb (by rw [hF, flatK_list bzcells_len]; exact ht)
    have hgl : g < w.heap.size := (Array.getElem?_eq_some_iff.1 hb).1
    have hS := AnyQ.slices_SortFunc laysBz 4 Tryd.isAgg61 Tryd.sizeOf61 Bz.cells bzcells_len (fun x v hv => bzcells_one1 x v hv) ordB swoB 46 #[] g 0 cap l.toArray w bz_eg (fun _ _ _ _ x y => qorder_calls x y _) hH hgl (by rw [hlen]; omega)
    change Calls Tryd.prog 45 _ _ _ at hS
    rw [hlen] at hS
    refine hS.mono ?_
    rintro e w' ⟨rfl, d', m, os, hp, hs, rfl⟩
    obtain ⟨p1, _, p3⟩ := hp
    have hd : d'.size = n := by rw [p1, hlen]
    have hperm : d'.toList.Perm l := by
      have e1 : d'.extract 0 n = d' := by rw [← hd]; exact Array.extract_size
      have e2 : l.toArray.extract 0 n = l.toArray := by rw [← hlen]; exact Array.extract_size
      rw [e1, e2] at p3
      exact p3
    have hsort : d'.toList = srtB l := by
      refine srtB_eq h1 hperm (sortB_of (oneB_perm hperm h1) fun i j a b hij ha hb => ?_)
      have hj : j < n := by rw [← hd]; exact (List.getElem?_eq_some_iff.1 hb).1
      have h3 := hs i j (Nat.zero_le _) hij hj
      rw [getElem!_pos d' j (by omega), getElem!_pos d' i (by omega)] at h3
      have ea : d'[i]'(by omega) = a := by have := (List.getElem?_eq_some_iff.1 ha).2; simpa using this
      have eb : d'[j]'(by omega) = b := by have := (List.getElem?_eq_some_iff.1 hb).2; simpa using this
      rw [ea, eb] at h3
      exact of_decide_eq_false h3
    have hF2 : (flatK Bz.cells 4 d').size = n * 4 := by rw [size_flatK, hd]
    have hfl : (flatK Bz.cells 4 d').toList = (srtB l).flatMap Bz.cells := by
      have := flatK_list bzcells_len d'.toList
      rw [Array.toArray_toList] at this
      rw [this, hsort]
    refine ⟨rfl, ?_, below_putK _ hg hbase⟩
    have := ownsRow_putK (m := m) (os := os) hg hb hc hm hcs hF2
    rw [hfl] at this
    exact this
end Go.Proofs.YtkhhcnpmobgdgaaDoor
