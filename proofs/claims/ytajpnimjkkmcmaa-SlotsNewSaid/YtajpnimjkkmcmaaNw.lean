/- SlotsNew: of each operation the two newest, the newest first. -/
import Derived.Test.YtajpnimjkkmcmaaAl12
namespace Go.Proofs.Ytajpnimjkkmcmaa
open Go.RowKit
set_option linter.unusedVariables false
set_option linter.unusedSimpArgs false
set_option maxRecDepth 100000

def eO (i : Int) : Ex := (⟨⟨#[115]⟩, ⟨#[111]⟩, 0, 0, i, 0⟩ : Ex)
def eP (i : Int) : Ex := (⟨⟨#[115]⟩, ⟨#[112]⟩, 0, 0, i, 0⟩ : Ex)
theorem oo (i j : Int) : ordE (eO i) (eO j) = 0 := rfl
theorem pp (i j : Int) : ordE (eP i) (eP j) = 0 := rfl
theorem po (i j : Int) : ordE (eP i) (eO j) = 1 := rfl
theorem op (i j : Int) : ordE (eO i) (eP j) = -1 := rfl
/-- The two newest of m. -/
def nwO : Nat → List Ex
  | 0 => []
  | 1 => [eO 0]
  | m + 2 => [eO ((m + 1 : Nat) : Int), eO ((m : Nat) : Int)]
def nwP : Nat → List Ex
  | 0 => []
  | 1 => [eP 0]
  | m + 2 => [eP ((m + 1 : Nat) : Int), eP ((m : Nat) : Int)]
theorem nw_o : ∀ m q, putX (eO ((m : Nat) : Int)) (nwO m ++ nwP q) = nwO (m + 1) ++ nwP q
  | 0, 0 => by simp [nwO, nwP, putX, insX, putAt, cntK, lastK, oo]
  | 0, 1 => by simp [nwO, nwP, putX, insX, putAt, cntK, lastK, oo, po]
  | 0, q + 2 => by simp [nwO, nwP, putX, insX, putAt, cntK, lastK, oo, po]
  | 1, 0 => by simp [nwO, nwP, putX, insX, putAt, cntK, lastK, oo]
  | 1, 1 => by simp [nwO, nwP, putX, insX, putAt, cntK, lastK, oo, po]
  | 1, q + 2 => by simp [nwO, nwP, putX, insX, putAt, cntK, lastK, oo, po]
  | m + 2, 0 => by simp [nwO, nwP, putX, insX, putAt, cntK, lastK, oo]; congr 1
  | m + 2, 1 => by simp [nwO, nwP, putX, insX, putAt, cntK, lastK, oo, po]; congr 1
  | m + 2, q + 2 => by simp [nwO, nwP, putX, insX, putAt, cntK, lastK, oo, po]; congr 1
theorem nw_p : ∀ m q, putX (eP ((q : Nat) : Int)) (nwO m ++ nwP q) = nwO m ++ nwP (q + 1)
  | 0, 0 => by simp [nwO, nwP, putX, insX, putAt, cntK, lastK, pp]
  | 1, 0 => by simp [nwO, nwP, putX, insX, putAt, cntK, lastK, pp, op]
  | m + 2, 0 => by simp [nwO, nwP, putX, insX, putAt, cntK, lastK, pp, op]
  | 0, 1 => by simp [nwO, nwP, putX, insX, putAt, cntK, lastK, pp]
  | 1, 1 => by simp [nwO, nwP, putX, insX, putAt, cntK, lastK, pp, op]
  | m + 2, 1 => by simp [nwO, nwP, putX, insX, putAt, cntK, lastK, pp, op]
  | 0, q + 2 => by simp [nwO, nwP, putX, insX, putAt, cntK, lastK, pp]; congr 1
  | 1, q + 2 => by simp [nwO, nwP, putX, insX, putAt, cntK, lastK, pp, op]; congr 1
  | m + 2, q + 2 => by simp [nwO, nwP, putX, insX, putAt, cntK, lastK, pp, op]; congr 1
theorem nw_len : ∀ m q, (nwO m ++ nwP q).length ≤ 4
  | 0, 0 => by simp [nwO, nwP]
  | 0, 1 => by simp [nwO, nwP]
  | 0, q + 2 => by simp [nwO, nwP]
  | 1, 0 => by simp [nwO, nwP]
  | 1, 1 => by simp [nwO, nwP]
  | 1, q + 2 => by simp [nwO, nwP]
  | m + 2, 0 => by simp [nwO, nwP]
  | m + 2, 1 => by simp [nwO, nwP]
  | m + 2, q + 2 => by simp [nwO, nwP]
theorem nwO_len : ∀ n, (nwO n).length = min n 2
  | 0 => rfl
  | 1 => rfl
  | n + 2 => by simp [nwO]
theorem nwO_at : ∀ (n j : Nat), j < min n 2 → (nwO n)[j]? = some (eO ((n : Int) - 1 - (j : Int)))
  | 0, j, h => by omega
  | 1, 0, _ => rfl
  | 1, j + 1, h => by omega
  | n + 2, 0, _ => by simp only [nwO, List.getElem?_cons_zero]; congr 2; omega
  | n + 2, 1, _ => by simp only [nwO, List.getElem?_cons_succ, List.getElem?_cons_zero]; congr 2; omega
  | n + 2, j + 2, h => by omega
def gO (x : Ex) : List Ex := if x.sv = ⟨#[115]⟩ ∧ x.op = ⟨#[111]⟩ then [x] else []
theorem gO_o (i : Int) : gO (eO i) = [eO i] := by simp [gO, eO]
theorem gO_p (i : Int) : gO (eP i) = [] := by simp [gO, eP]
theorem nw_find : ∀ m q, (nwO m ++ nwP q).flatMap gO = nwO m
  | 0, 0 => by simp [nwO, nwP]
  | 0, 1 => by simp [nwO, nwP, gO_p]
  | 0, q + 2 => by simp [nwO, nwP, gO_p]
  | 1, 0 => by simp [nwO, nwP, gO_o]
  | 1, 1 => by simp [nwO, nwP, gO_o, gO_p]
  | 1, q + 2 => by simp [nwO, nwP, gO_o, gO_p]
  | m + 2, 0 => by simp [nwO, nwP, gO_o]
  | m + 2, 1 => by simp [nwO, nwP, gO_o, gO_p]
  | m + 2, q + 2 => by simp [nwO, nwP, gO_o, gO_p]
end Go.Proofs.Ytajpnimjkkmcmaa
