/- A row of one's own of elements of any size, rewritten as a whole: what a sort of the shelf leaves. -/
import Derived.Test.YtmldelgbmadegaaIg
import Derived.Shelf.SlSortCmp.WholeK
import Derived.Shelf.SlSortCmp.NoneTotal
import Derived.Sort.OwnSorted
namespace Go.Proofs.Ytmldelgbmadegaa
open Go.RowKit Go.Shelf Go.Lib Go.Sort
set_option linter.unusedVariables false
set_option linter.unusedSimpArgs false
set_option maxRecDepth 100000

/-! A row of one's own of elements of any size, rewritten as a whole. -/
theorem holds_ownK {w : World} {g : Nat} {cur : Array Value} {e : TypeId} {F : Array Value} (hb : w.heap[g]? = some (.cells cur e (0, 0))) (ht : cur.toList.take F.size = F.toList) : Holds id w g 0 F := by
  intro j hj
  refine ⟨?_, by simp [World.frozen?, hb]⟩
  have h1 : (cur.toList.take F.size)[j]? = F.toList[j]? := by rw [ht]
  rw [List.getElem?_take_of_lt hj] at h1
  simp only [World.cell?, hb, Nat.zero_add, Option.isSome_none, Bool.false_eq_true, if_false, id]
  rw [← Array.getElem?_toList, h1, Array.getElem?_toList, Array.getElem?_eq_getElem hj, getElem!_pos F j hj]
theorem heap_putK {w : World} {g m : Nat} {os : Array Obj} {cur : Array Value} {e : TypeId} {fr : Nat × Nat} (F : Array Value) (hb : w.heap[g]? = some (.cells cur e fr)) :
    (grow (putRow id (Sort.ahead w m) g 0 F) os).heap[g]? = some (.cells (putCells id 0 F cur) e fr) := by
  have hg : g < w.heap.size := (Array.getElem?_eq_some_iff.1 hb).1
  rw [heap_grow_old _ _ (by simpa using hg)]
  simp [putRow, mapBlock, Sort.ahead, Array.getElem?_modify, hb, onCells]
theorem below_putK {w : World} {base g m : Nat} {os : Array Obj} (F : Array Value) (hg : base ≤ g) (hbs : base ≤ w.heap.size) : _root_.Go.RowKit.Below base w (grow (putRow id (Sort.ahead w m) g 0 F) os) := by
  refine ⟨rfl, rfl, rfl, by simp, fun k hk => ?_⟩
  rw [heap_grow_old _ _ (by simp [putRow, mapBlock, Sort.ahead]; omega)]
  have : g ≠ k := by omega
  simp [putRow, mapBlock, Sort.ahead, Array.getElem?_modify, this]
theorem take_putK (cur F : Array Value) (h : F.size ≤ cur.size) : (putCells id 0 F cur).toList.take F.size = F.toList := by
  apply List.ext_getElem?
  intro j
  by_cases hj : j < F.size
  · rw [List.getElem?_take_of_lt hj, Array.getElem?_toList, Array.getElem?_toList]
    simp [putCells, hj, show j < cur.size by omega]
  · rw [List.getElem?_take_eq_none (by omega), List.getElem?_eq_none (by simp; omega)]
theorem ownsRow_putK {w : World} {base g cap n k m : Nat} {e : TypeId} {os : Array Obj} {cur F : Array Value} (hbase : base ≤ g) (hb : w.heap[g]? = some (.cells cur e (0, 0))) (h1 : n ≤ cap) (h2 : cap ≤ maxLen) (h3 : cur.size = cap * k) (hF : F.size = n * k) :
    (grow (putRow id (Sort.ahead w m) g 0 F) os).ownsRow base e k (.slice (some ⟨g, 0, none⟩) n cap) n F.toList :=
  ⟨by simp [hF], .inr ⟨g, cap, _, rfl, hbase, heap_putK _ hb, h1, h2, by simp [putCells, h3], by rw [← hF]; exact take_putK cur F (by rw [hF, h3]; exact Nat.mul_le_mul_right k h1)⟩⟩
theorem flatK_list {α : Type} [Inhabited α] {enc : α → List Value} {k : Nat} (hk : ∀ x, (enc x).length = k) (l : List α) : (flatK enc k l.toArray).toList = l.flatMap enc := by
  apply List.ext_getElem?
  intro t
  have hs : (flatK enc k l.toArray).size = l.length * k := by simp
  have hl : (l.flatMap enc).length = l.length * k := flatMap_len _ k hk l
  by_cases ht : t < l.length * k
  · have k0 : 0 < k := by rcases Nat.eq_zero_or_pos k with h | h; · subst h; simp at ht
                          · exact h
    have hd : t / k < l.length := Nat.div_lt_of_lt_mul (by rw [Nat.mul_comm]; exact ht)
    have hm : t % k < k := Nat.mod_lt _ k0
    have e1 : (l.flatMap enc)[t]? = (l.flatMap enc)[t / k * k + t % k]? := by rw [Nat.div_add_mod']
    rw [e1, flatMap_at enc k hk l _ _ hm, Array.getElem?_toList, Array.getElem?_eq_getElem (by rw [hs]; exact ht), ← getElem!_pos _ t (by rw [hs]; exact ht), get_flatK _ _ _ t (by simpa using ht)]
    rw [getElem!_pos l.toArray (t / k) (by simpa using hd), List.getElem?_eq_getElem hd]
    simp only [List.getElem_toArray, Option.bind_some]
    rw [getElem!_pos (enc l[t / k]) (t % k) (by rw [hk]; exact hm), List.getElem?_eq_getElem (by rw [hk]; exact hm)]
  · rw [List.getElem?_eq_none (by simp [hs]; omega), List.getElem?_eq_none (by rw [hl]; omega)]
end Go.Proofs.Ytmldelgbmadegaa
