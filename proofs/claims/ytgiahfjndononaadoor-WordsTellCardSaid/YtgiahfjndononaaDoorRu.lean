/- Policies: trees, as they lie in memory and as they come in; what is counted of them. -/
import Derived.Test.YtgiahfjndononaaDoorSp
namespace Go.Proofs.YtgiahfjndononaaDoor
open Go.ChangeShapes Go.WideShapes Go.RowKit Go.Joins Go.Deep
set_option linter.unusedVariables false
set_option linter.unusedSimpArgs false
set_option maxRecDepth 100000

theorem str_off {a b : ByteArray} (h : a ≠ b) : (a.toList == b.toList) = false := by
  rw [beq_eq_false_iff_ne]
  intro e
  apply h
  obtain ⟨⟨l⟩⟩ := a
  obtain ⟨⟨k⟩⟩ := b
  simpa using e
/-- What a policy says. -/
inductive Rt where
  | mk (k n : Int) (key val : ByteArray) (kids : List Rt)
/-- A node's five cells. -/
def rcs (k n : Int) (key val : ByteArray) (kA : Option Addr) (m kc : Nat) : List Value := [.int .i64 k, .int .i64 n, .string key, .string val, .slice kA m kc]
theorem rcs_len (k n : Int) (key val : ByteArray) (kA : Option Addr) (m kc : Nat) : (rcs k n key val kA m kc).length = 5 := rfl
/-- The kids' cells, one behind the other. -/
def KidRow (w : World) (B : Nat) (kA : Option Addr) (m : Nat) (cs : Nat → List Value) : Prop :=
  0 < m → ∃ a, kA = some a ∧ a.block < B ∧ ∀ i, i < m → ∀ j u, (cs i)[j]? = some u → w.cell? (a.add (i * 5 + j)) = some u
/-- A policy lies there: its node's cells, and all that is below it. -/
inductive RdR (w : World) (B : Nat) : Rt → List Value → Prop
  | mk (k n : Int) (key val : ByteArray) (kids : List Rt) (kA : Option Addr) (kc : Nat) (cs : Nat → List Value)
      (hk : -9223372036854775808 ≤ k ∧ k ≤ 9223372036854775807) (hn : -9223372036854775808 ≤ n ∧ n ≤ 9223372036854775807)
      (hkey : key.size ≤ maxLen) (hval : val.size ≤ maxLen) (hc : kids.length ≤ kc) (hm : kc ≤ maxLen)
      (hrow : KidRow w B kA kids.length cs) (hkid : ∀ i r, kids[i]? = some r → RdR w B r (cs i)) :
      RdR w B (.mk k n key val kids) (rcs k n key val kA kids.length kc)

section
variable {w w' : World} {B B' : Nat} {t : Rt} {c : List Value} {kA : Option Addr} {m : Nat} {cs : Nat → List Value}
theorem KidRow.keep (h : KidRow w B kA m cs) (hk : ∀ p : Addr, p.block < B → w'.cell? p = w.cell? p) : KidRow w' B kA m cs := fun hm => by
  obtain ⟨a, e, hb, hc⟩ := h hm
  exact ⟨a, e, hb, fun i hi j u hu => (hk _ (by rw [block_add]; exact hb)).trans (hc i hi j u hu)⟩
theorem KidRow.more (h : KidRow w B kA m cs) (hB : B ≤ B') : KidRow w B' kA m cs := fun hm => by
  obtain ⟨a, e, hb, hc⟩ := h hm
  exact ⟨a, e, by omega, hc⟩
theorem RdR.keep (h : RdR w B t c) (hk : ∀ p : Addr, p.block < B → w'.cell? p = w.cell? p) : RdR w' B t c := by
  induction h with
  | mk k n key val kids kA kc cs h1 h2 h3 h4 h5 h6 hrow hkid ih => exact .mk k n key val kids kA kc cs h1 h2 h3 h4 h5 h6 (hrow.keep hk) ih
theorem RdR.low (h : RdR w B t c) (hb : Below B w w') : RdR w' B t c := h.keep fun _ hp => hb.cell hp
theorem RdR.more (h : RdR w B t c) (hB : B ≤ B') : RdR w B' t c := by
  induction h with
  | mk k n key val kids kA kc cs h1 h2 h3 h4 h5 h6 hrow hkid ih => exact .mk k n key val kids kA kc cs h1 h2 h3 h4 h5 h6 (hrow.more hB) ih
theorem RdR.inv (h : RdR w B t c) : ∃ k n key val kids kA kc, t = .mk k n key val kids ∧ c = rcs k n key val kA kids.length kc := by
  cases h with
  | mk k n key val kids kA kc cs h1 h2 h3 h4 h5 h6 hrow hkid => exact ⟨k, n, key, val, kids, kA, kc, rfl, rfl⟩
/-- The i-th kid's cells, as a walk spells them. -/
theorem kid_cells {kids : List Rt} (hrow : KidRow w B kA kids.length cs) (hkid : ∀ i r, kids[i]? = some r → RdR w B r (cs i)) {i : Nat} {r : Rt} (hr : kids[i]? = some r) :
    ∃ a k n key val A q qc, kA = some a ∧ a.block < B ∧ RdR w B r (rcs k n key val A q qc) ∧ cs i = rcs k n key val A q qc ∧
      w.cell? (a.add (i * 5)) = some (.int .i64 k) ∧ w.cell? ⟨(a.add (i * 5)).block, (a.add (i * 5)).off + 1, none⟩ = some (.int .i64 n) ∧ w.cell? ⟨(a.add (i * 5)).block, (a.add (i * 5)).off + 2, none⟩ = some (.string key) ∧ w.cell? ⟨(a.add (i * 5)).block, (a.add (i * 5)).off + 3, none⟩ = some (.string val) ∧ w.cell? ⟨(a.add (i * 5)).block, (a.add (i * 5)).off + 4, none⟩ = some (.slice A q qc) := by
  have hi : i < kids.length := by
    rcases Nat.lt_or_ge i kids.length with h | h
    · exact h
    · rw [List.getElem?_eq_none h] at hr; cases hr
  obtain ⟨a, e, hb, hc⟩ := hrow (by omega)
  have h0 := hkid i r hr
  obtain ⟨k, n, key, val, ks, A, qc, rfl, ec⟩ := h0.inv
  rw [ec] at h0
  have h1 := hc i hi
  rw [ec] at h1
  exact ⟨a, k, n, key, val, A, _, qc, e, hb, h0, ec, h1 0 _ rfl, cell_far (h1 1 _ rfl) (by omega), cell_far (h1 2 _ rfl) (by omega), cell_far (h1 3 _ rfl) (by omega), cell_far (h1 4 _ rfl) (by omega)⟩
end

section
variable {H : Type} {enc : TypeId × Value → H}
theorem trod_fields1 {P : Program} {w : World} {base : Nat} {sp : Nat → Bool} {held : Bool} {n : Nat} {cs : List Value} {x : DataW H × List MemPlace} {t : TypeId} {fs : Array Field} (ht : P.underlying t = some (.struct fs)) (h : DataW.trod enc P w base sp held n t cs = some x) :
    cs.length = P.cellsOf t ∧ ∃ m, n = m + 1 ∧ ∀ f ∈ fs.toList, ∃ y, DataW.trod enc P w base sp held m f.type ((cs.drop f.offset).take (P.cellsOf f.type)) = some y := by
  cases n with
  | zero => simp [DataW.trod] at h
  | succ m =>
    rw [DataW.trod_step] at h
    unfold DataW.trodStep at h
    simp only [ht] at h
    split at h
    · rename_i hl
      simp only [Option.map_eq_some_iff] at h
      obtain ⟨ys, hy, _⟩ := h
      exact ⟨hl, m, rfl, mapM_each hy⟩
    · cases h
theorem cellsRu : Tryd.prog.cellsOf 24 = 5 := by kernel_rfl
theorem cellsRus : Tryd.prog.cellsOf 22 = 1 := by kernel_rfl
variable {w : World} {base : Nat} {sp : Nat → Bool} {held : Bool}
theorem read_rule : ∀ (n : Nat) (cs : List Value) (x : DataW H × List MemPlace), DataW.trod enc Tryd.prog w base sp held n 24 cs = some x → ∃ t, RdR w w.heap.size t cs := by
  intro n
  induction n using Nat.strongRecOn with
  | _ n ih =>
    intro cs x h
    obtain ⟨hl, m, rfl, hf⟩ := trod_fields1 Tryd.underlying24 h
    rw [cellsRu] at hl
    match cs, hl with
    | [c0, c1, c2, c3, c4], _ =>
      obtain ⟨_, g0⟩ := hf _ (List.Mem.head _)
      obtain ⟨_, g1⟩ := hf _ (List.Mem.tail _ (List.Mem.head _))
      obtain ⟨_, g2⟩ := hf _ (List.Mem.tail _ (List.Mem.tail _ (List.Mem.head _)))
      obtain ⟨_, g3⟩ := hf _ (List.Mem.tail _ (List.Mem.tail _ (List.Mem.tail _ (List.Mem.head _))))
      obtain ⟨_, g4⟩ := hf _ (List.Mem.tail _ (List.Mem.tail _ (List.Mem.tail _ (List.Mem.tail _ (List.Mem.head _)))))
      simp only [cellsI, cellsSt, cellsRus] at g0 g1 g2 g3 g4
      obtain ⟨k, rfl, b0⟩ := read_i c0 g0
      obtain ⟨nn, rfl, b1⟩ := read_i c1 g1
      obtain ⟨key, rfl, b2⟩ := read_s c2 g2
      obtain ⟨val, rfl, b3⟩ := read_s c3 g3
      rcases DataW.trod_slice Tryd.underlying22 g4 with ⟨hcs, _⟩ | ⟨a, len, cap, elems, rest, n', hm', hcs, _, hb, hl2, hm2, hlen, hel, _, _⟩
      · have e4 : c4 = .slice none 0 0 := by simpa using hcs
        subst e4
        exact ⟨.mk k nn key val [], .mk k nn key val [] none 0 (fun _ => []) b0 b1 b2 b3 (by simp) (by simp [maxLen]) (fun h => absurd h (by simp)) (fun i r h => by simp at h)⟩
      · have e4 : c4 = .slice (some a) len cap := by simpa using hcs
        subst e4
        rw [cellsRu] at hel
        obtain ⟨l, hl3, hp⟩ := choose_list (p := fun i (y : Rt × List Value) => RdR w w.heap.size y.1 y.2 ∧ ∀ j u, y.2[j]? = some u → w.cell? (a.add (i * 5 + j)) = some u) len (fun i hil => by
          have h1 := hel i hil
          rw [List.getElem?_eq_getElem (by rw [hlen]; exact hil), Option.bind_eq_some_iff] at h1
          obtain ⟨cs', hc, ht⟩ := h1
          obtain ⟨t, hr⟩ := ih n' (by omega) cs' _ ht
          obtain ⟨_, hlc, hat⟩ := World.cells?_some hc
          refine ⟨(t, cs'), hr, fun j u hu => ?_⟩
          have hj : j < 5 := by
            rcases Nat.lt_or_ge j 5 with h | h
            · exact h
            · rw [List.getElem?_eq_none (by show cs'.length ≤ j; omega)] at hu; cases hu
          rw [← Go.Proofs.YtgiahfjndononaaDoor.add_add, hat j hj, hu])
        subst hl3
        have e5 : l.length = (l.map (·.1)).length := by simp
        refine ⟨.mk k nn key val (l.map (·.1)), ?_⟩
        have main := RdR.mk (w := w) (B := w.heap.size) k nn key val (l.map (·.1)) (some a) cap (fun i => ((l[i]?).map (·.2)).getD []) b0 b1 b2 b3 (by rw [← e5]; exact hl2) hm2
          (fun h0 => by
            rw [← e5] at h0
            have hall : ∀ i, i < l.length → ∀ j u, (((l[i]?).map (·.2)).getD [])[j]? = some u → w.cell? (a.add (i * 5 + j)) = some u := fun i hi j u hu => by
              rw [List.getElem?_eq_getElem hi] at hu
              exact (hp i _ (List.getElem?_eq_getElem hi)).2 j u hu
            refine ⟨a, rfl, ?_, fun i hi j u hu => hall i (by rw [e5]; exact hi) j u hu⟩
            have hp0 := (hp 0 _ (List.getElem?_eq_getElem h0)).1
            obtain ⟨_, _, _, _, _, _, _, _, ec⟩ := hp0.inv
            have := cell_lt (hall 0 h0 0 _ (by rw [List.getElem?_eq_getElem h0]; simp only [Option.map_some, Option.getD_some]; rw [ec]; rfl))
            rwa [block_add] at this)
          (fun i r hr => by
            have hi : i < l.length := by
              rcases Nat.lt_or_ge i l.length with h | h
              · exact h
              · rw [List.getElem?_eq_none (by simpa using h)] at hr; cases hr
            rw [List.getElem?_map, List.getElem?_eq_getElem hi] at hr
            simp only [Option.map_some, Option.some.injEq] at hr
            subst hr
            have h3 := (hp i _ (List.getElem?_eq_getElem hi)).1
            simp only [List.getElem?_eq_getElem hi, Option.map_some, Option.getD_some]
            exact h3)
        rw [← e5] at main
        exact main
theorem open_rule {W : World} {v : Value} {d : DataW H} {p : List MemPlace} {r : Reach} {b0 : Nat}
    (hv : Value.okWide Tryd.prog W r b0 24 v) (h : DataW.Trod enc Tryd.prog W base (fun _ => true) true 24 v d p) : ∃ (t : Rt) (cs : List Value), v = .agg cs.toArray ∧ RdR W W.heap.size t cs := by
  obtain ⟨cs, rfl, hsz⟩ := okWide_struct Tryd.underlying24 hv
  obtain ⟨fuel, hf⟩ := h
  obtain ⟨t, ht⟩ := read_rule fuel cs.toList _ (by simpa [Value.cells] using hf)
  exact ⟨t, cs.toList, by simp, ht⟩
end
end Go.Proofs.YtgiahfjndononaaDoor
