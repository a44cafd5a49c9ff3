/- Episodes as they lie. -/
import Derived.Test.YtmldelgbmadegaaEa
namespace Go.Proofs.Ytmldelgbmadegaa
open Go.RowKit
set_option linter.unusedVariables false
set_option maxRecDepth 100000

/-- An episode as it lies. -/
structure Le where
  hi : Int
  lo : Int
  f : Int
  la : Int
  su : Bool
  l : List Ls
  A : Option Addr
  c : Nat
def Le.cells (e : Le) : List Value := [.int .u64 e.hi, .int .u64 e.lo, .int .i64 e.f, .int .i64 e.la, .bool e.su, .slice e.A e.l.length e.c]
theorem ecells_len (e : Le) : e.cells.length = 6 := rfl
structure RdEps (w : World) (B : Nat) (A : Option Addr) (l : List Le) : Prop where
  rd : Rd w B A (l.flatMap Le.cells)
  each : ∀ e ∈ l, RdSps w B e.A e.l
theorem RdEps.below {w w' : World} {B : Nat} {A : Option Addr} {l : List Le} (h : RdEps w B A l) (hb : Below B w w') : RdEps w' B A l := ⟨h.rd.below hb, fun e he => (h.each e he).below hb⟩
theorem RdEps.more {w : World} {B B' : Nat} {A : Option Addr} {l : List Le} (h : RdEps w B A l) (hB : B ≤ B') : RdEps w B' A l := ⟨h.rd.more hB, fun e he => (h.each e he).more hB⟩
theorem RdEps.nil {w : World} {B : Nat} {A : Option Addr} : RdEps w B A [] := ⟨Rd.nil, fun _ h => by cases h⟩
theorem RdEps.at_ {w : World} {B : Nat} {A : Option Addr} {l : List Le} (h : RdEps w B A l) {k : Nat} {e : Le} (he : l[k]? = some e) : ∃ a, A = some a ∧ a.block < B ∧ (∀ j u, e.cells[j]? = some u → w.cell? (a.add (k * 6 + j)) = some u) ∧ RdSps w B e.A e.l := by
  have hk : k < l.length := by
    rcases Nat.lt_or_ge k l.length with h | h
    · exact h
    · rw [List.getElem?_eq_none h] at he; cases he
  obtain ⟨a, hA, hb, hc⟩ := h.rd (by rw [flatMap_len _ 6 ecells_len]; omega)
  refine ⟨a, hA, hb, fun j u hu => hc _ u ?_, h.each e (List.mem_of_getElem? he)⟩
  have hj : j < 6 := by
    rcases Nat.lt_or_ge j 6 with h | h
    · exact h
    · rw [List.getElem?_eq_none (by rw [ecells_len]; exact h)] at hu; cases hu
  rw [flatMap_at _ 6 ecells_len l k j hj, he]
  exact hu
end Go.Proofs.Ytmldelgbmadegaa
