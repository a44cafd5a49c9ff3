/- rollup.AddAll: counts spans, one by one, in a row of one's own. -/
import Derived.Test.YtkhhcnpmobgdgaaDoorYd
import Derived.Test.YtkhhcnpmobgdgaaDoorYf
import Derived.Test.YtkhhcnpmobgdgaaDoorYi
import Derived.Test.YtkhhcnpmobgdgaaDoorYj
import Derived.Test.YtkhhcnpmobgdgaaDoorBj
import Derived.Test.YtkhhcnpmobgdgaaDoorWin
import Derived.Test.YtkhhcnpmobgdgaaDoorPil
import Derived.Deep.RegionHeld3
namespace Go.Proofs.YtkhhcnpmobgdgaaDoor
open Go.RowKit
set_option linter.unusedVariables false
set_option linter.unusedSimpArgs false
set_option maxRecDepth 100000

def addV (l : List Rw) (s : Sp) (m : Int) : Nat → List Rw
  | 0 => l
  | v + 1 => insR (spK (v : Int) s) (fS s m) (addV l s m v)
theorem addV3 (l : List Rw) (s : Sp) (m : Int) : addV l s m 3 = add3 l s m := rfl
theorem addV_sort {l : List Rw} (s : Sp) (m : Int) (h : SortR l) : ∀ v, SortR (addV l s m v)
  | 0 => h
  | v + 1 => insR_sort _ _ _ (addV_sort s m h v)
theorem addV_len (l : List Rw) (s : Sp) (m : Int) : ∀ v, (addV l s m v).length ≤ l.length + v
  | 0 => Nat.le_refl _
  | v + 1 => by have h1 := insR_len (spK (v : Int) s) (fS s m) (addV l s m v); have h2 := addV_len l s m v; show (insR _ _ _).length ≤ _; omega
theorem insR_all {Pc : List Int → Prop} (k : Ky) (f : List Int → List Int) (h0 : Pc []) (hf : ∀ x, Pc x → Pc (f x)) : ∀ (l : List Rw), (∀ r ∈ l, Pc r.ct) → ∀ r ∈ insR k f l, Pc r.ct
  | [], _, r, hr => by simp [insR] at hr; rw [hr]; exact hf _ h0
  | a :: t, h, r, hr => by
    unfold insR at hr
    split at hr
    · rcases List.mem_cons.1 hr with e | e
      · rw [e]; exact h a List.mem_cons_self
      · exact insR_all k f h0 hf t (fun x hx => h x (List.mem_cons_of_mem _ hx)) r e
    · split at hr
      · rcases List.mem_cons.1 hr with e | e
        · rw [e]; exact hf _ (h a List.mem_cons_self)
        · exact h r (List.mem_cons_of_mem _ e)
      · rcases List.mem_cons.1 hr with e | e
        · rw [e]; exact hf _ h0
        · exact h r e
def okL (l : List Rw) : Prop := ∀ r ∈ l, okC r.ct
theorem okC_nil : okC [] := fun i => by show (_ : Int) ≤ 0 ∧ (0 : Int) ≤ _; omega
theorem cS_ok (s : Sp) : okC (cS s) := fun i => by
  rcases oneC_bit (Bm.of s.du) s.er i with h | h
  · have h : (cS s).getD i 0 = 0 := h
    rw [h]; omega
  · have h : (cS s).getD i 0 = 1 := h
    rw [h]; omega
theorem addV_ok {l : List Rw} (s : Sp) (m : Int) (hm : m ≤ 9223372036854775807) (h : okL l) : ∀ v, okL (addV l s m v)
  | 0 => h
  | v + 1 => insR_all (Pc := okC) _ _ okC_nil (fun x hx => join_ok hx (cS_ok s) hm) _ (addV_ok s m hm h v)
def addAllS (l : List Rw) (S : List Sp) (m : Int) : List Rw := S.foldl (fun l s => addS l s m) l
theorem addS_len (l : List Rw) (s : Sp) (m : Int) : (addS l s m).length ≤ l.length + 3 := by
  unfold addS; split
  · rw [← addV3]; exact addV_len l s m 3
  · omega
theorem addS_ok {l : List Rw} (s : Sp) (m : Int) (hm : m ≤ 9223372036854775807) (h : okL l) : okL (addS l s m) := by
  unfold addS; split
  · rw [← addV3]; exact addV_ok s m hm h 3
  · exact h
theorem addAllS_snoc (l : List Rw) (S : List Sp) (s : Sp) (m : Int) : addAllS l (S ++ [s]) m = addS (addAllS l S m) s m := by unfold addAllS; rw [List.foldl_append]; rfl
theorem set_take {L : List Rw} {p : Nat} {r e : Rw} (h : L[p]? = some r) : L.take p ++ e :: L.drop (p + 1) = L.set p e := by
  have hp := (List.getElem?_eq_some_iff.1 h).1
  rw [List.set_eq_take_append_cons_drop, if_pos hp]
/-- The cells of a row whose counter is another. -/
theorem set_cells {L : List Rw} {p : Nat} {r : Rw} (ct : List Int) (h : L[p]? = some r) :
    (L.flatMap Rw.cells).take (p * 14 + 4) ++ (Rw.cells ⟨r.k, ct⟩).drop 4 ++ (L.flatMap Rw.cells).drop (p * 14 + 4 + ((Rw.cells ⟨r.k, ct⟩).drop 4).length) = (L.set p ⟨r.k, ct⟩).flatMap Rw.cells := by
  have hp := (List.getElem?_eq_some_iff.1 h).1
  have e1 : L = L.take p ++ r :: L.drop (p + 1) := by
    have h2 := List.drop_eq_getElem_cons hp
    rw [(List.getElem?_eq_some_iff.1 h).2] at h2
    rw [← h2, List.take_append_drop]
  have hlen : ((L.take p).flatMap Rw.cells).length = p * 14 := by rw [flatMap_len _ 14 rcells_len, List.length_take]; congr 1; omega
  rw [← set_take (e := ⟨r.k, ct⟩) h]
  have e2 : L.flatMap Rw.cells = (L.take p).flatMap Rw.cells ++ (r.cells ++ (L.drop (p + 1)).flatMap Rw.cells) := by
    conv => lhs; rw [e1]
    rw [List.flatMap_append, List.flatMap_cons]
  rw [e2, List.flatMap_append, List.flatMap_cons]
  generalize (L.take p).flatMap Rw.cells = X at *
  generalize (L.drop (p + 1)).flatMap Rw.cells = Y at *
  have hd : ((Rw.cells ⟨r.k, ct⟩).drop 4).length = 10 := rfl
  have a1 : (X ++ (r.cells ++ Y)).take (p * 14 + 4) = X ++ r.cells.take 4 := by
    rw [List.take_append, hlen, List.take_of_length_le (by omega), show p * 14 + 4 - p * 14 = 4 by omega, List.take_append_of_le_length (by rw [rcells_len]; omega)]
  have a2 : (X ++ (r.cells ++ Y)).drop (p * 14 + 4 + 10) = Y := by
    rw [List.drop_append, hlen, List.drop_of_length_le (by omega), show p * 14 + 4 + 10 - p * 14 = 14 by omega, List.nil_append, List.drop_append, rcells_len, List.drop_of_length_le (by rw [rcells_len]; omega)]; simp
  rw [hd, a1, a2]
  have e5 : (Rw.cells ⟨r.k, ct⟩) = r.cells.take 4 ++ (Rw.cells ⟨r.k, ct⟩).drop 4 := rfl
  conv => rhs; rw [e5]
  simp [List.append_assoc]
theorem Grew.belowy {w w' : World} (v : Value) (h : Below w.heap.size w w') : Grew w w' v v := ⟨⟨h.os, h.tape, h.output, h.size, fun i hi _ => h.block i hi⟩, .inl rfl⟩
/-- A row of one's own stays, where a block of another type alone is turned. -/
theorem own_only {w w' : World} {base e size n M : Nat} {v : Value} {xs : List Value} {cs : Array Value} {t : TypeId} {fr : Nat × Nat} (h : w.ownsRow base e size v n xs) (hM : w.heap[M]? = some (.cells cs t fr)) (hne : t ≠ e) (hb : OnlyM M w w') : w'.ownsRow base e size v n xs := by
  obtain ⟨h1, h2⟩ := h
  refine ⟨h1, ?_⟩
  rcases h2 with h2 | ⟨g, cap, cur, e1, e2, e3, e4⟩
  · exact .inl h2
  · refine .inr ⟨g, cap, cur, e1, e2, ?_, e4⟩
    have hg : g < w.heap.size := by
      rcases Nat.lt_or_ge g w.heap.size with h | h
      · exact h
      · rw [Array.getElem?_eq_none h] at e3; cases e3
    rw [hb.block g hg (fun e => by
      rw [e, hM] at e3
      injection e3 with e3
      injection e3 with _ e3 _
      exact hne e3)]
    exact e3
end Go.Proofs.YtkhhcnpmobgdgaaDoor
