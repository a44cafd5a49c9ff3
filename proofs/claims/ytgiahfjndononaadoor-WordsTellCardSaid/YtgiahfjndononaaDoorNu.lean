/- Names of any number. -/
import Derived.Test.YtgiahfjndononaaDoorLz
import Derived.Test.YtgiahfjndononaaDoorBs
import Derived.Lib.ItoaMem
namespace Go.Proofs.YtgiahfjndononaaDoor
open Go.RowKit
set_option linter.unusedVariables false
set_option linter.unusedSimpArgs false
set_option maxRecDepth 100000

theorem below_growN (w : World) (k : Nat) (os : Array Obj) : Below w.heap.size w (Sort.grow (w.drewN k) os) := by
  refine ⟨rfl, rfl, rfl, ?_, fun i hi => ?_⟩
  · show w.heap.size ≤ (w.heap ++ os).size
    simp
  · show (w.heap ++ os)[i]? = w.heap[i]?
    rw [Array.getElem?_append_left hi]
theorem tab_below {w w' : World} {name : String} {k : IntKind} {zs : List Int} (h : Lib.TabIs Tryd.prog w name k zs) (hb : Below w.heap.size w w') : Lib.TabIs Tryd.prog w' name k zs := by
  unfold Lib.TabIs World.var? at h ⊢
  cases hg : Tryd.prog.globalNamed name with
  | none => rw [hg] at h; cases h
  | some g =>
    rw [hg] at h
    simp only [Option.bind_some] at h ⊢
    have hlt : g < w.heap.size := by
      rcases Nat.lt_or_ge g w.heap.size with h1 | h1
      · exact h1
      · rw [Array.getElem?_eq_none h1] at h; cases h
    rw [hb.block g hlt]
    exact h
def valD (l : List UInt8) : Nat := l.foldl (fun a b => a * 10 + (b.toNat - 48)) 0
theorem dig_nat {k : Nat} (h : k < 10) : (UInt8.ofNat (48 + k)).toNat - 48 = k := by
  rw [UInt8.toNat_ofNat']
  omega
theorem val_dec : ∀ u : Nat, valD (Lib.decDigits u) = u := fun u => by
  induction u using Nat.strongRecOn with
  | _ u ih =>
    by_cases h : u < 10
    · rw [Lib.decDigits, dif_pos h]
      show 0 * 10 + ((UInt8.ofNat (48 + u)).toNat - 48) = u
      rw [dig_nat h]
      omega
    · rw [Lib.decDigits, dif_neg h]
      unfold valD
      rw [List.foldl_append]
      have h2 := ih (u / 10) (by omega)
      unfold valD at h2
      rw [h2]
      show u / 10 * 10 + ((UInt8.ofNat (48 + u % 10)).toNat - 48) = u
      rw [dig_nat (by omega)]
      omega
def dgU (n : Nat) : ByteArray := ⟨(Lib.decDigits n).toArray⟩
def nmU (c : ByteArray) (n : Nat) : ByteArray := c ++ dgU n
theorem dgU_size {n : Nat} (h : n ≤ 9223372036854775807) : (dgU n).size ≤ 20 := by
  show (Lib.decDigits n).toArray.size ≤ 20
  rw [List.size_toArray, Lib.decDigits_length]
  rcases Nat.eq_zero_or_pos n with rfl | hp
  · rw [Lib.nDigits_small (by omega)]; omega
  · rcases Nat.lt_or_ge 20 (Lib.nDigits n) with h2 | h2
    · exfalso
      have h3 : ∀ (k u : Nat), 10 ^ k ≤ u → k + 1 ≤ Lib.nDigits u → True := fun _ _ _ _ => trivial
      have h4 : ∀ (m u : Nat), m < Lib.nDigits u → 1 ≤ u → 10 ^ m ≤ u := by
        intro m
        induction m with
        | zero => intro u _ h; simpa using h
        | succ m ih =>
          intro u h5 h6
          by_cases h7 : u < 10
          · rw [Lib.nDigits_small h7] at h5; omega
          · rw [Lib.nDigits_big h7] at h5
            have := ih (u / 10) (by omega) (by omega)
            rw [Nat.pow_succ]
            omega
      have := h4 20 n h2 hp
      have h8 : (9223372036854775807 : Nat) < 10 ^ 20 := by decide
      omega
    · exact h2
theorem nmU_inj {c : ByteArray} {a b : Nat} (h : nmU c a = nmU c b) : a = b := by
  have h1 : (nmU c a).data.toList = (nmU c b).data.toList := by rw [h]
  unfold nmU dgU at h1
  simp only [ByteArray.data_append, Array.toList_append] at h1
  have h2 := List.append_cancel_left h1
  rw [← val_dec a, ← val_dec b, h2]
def cB : ByteArray := ⟨#[98]⟩
def cS : ByteArray := ⟨#[115]⟩
theorem nmU_ne (a b : Nat) : nmU cB a ≠ nmU cS b := by
  intro h
  have h1 : (nmU cB a).data.toList = (nmU cS b).data.toList := by rw [h]
  unfold nmU dgU cB cS at h1
  simp only [ByteArray.data_append, Array.toList_append] at h1
  injection h1 with h2 _
  exact absurd h2 (by decide)
def dig10 : ByteArray := ⟨#[48, 49, 50, 51, 52, 53, 54, 55, 56, 57]⟩
theorem dig10_at : ∀ p : Fin 10, dig10.extract p.val (p.val + 1) = ⟨#[UInt8.ofNat (48 + p.val)]⟩ := by decide +kernel
theorem dgU_big {n : Nat} (h : ¬ n < 10) : dgU (n / 10) ++ (⟨#[UInt8.ofNat (48 + n % 10)]⟩ : ByteArray) = dgU n := by
  unfold dgU
  conv => rhs; rw [Lib.decDigits, dif_neg h]
  apply ByteArray.ext
  simp
theorem dgU_small {n : Nat} (h : n < 10) : (⟨#[UInt8.ofNat (48 + n % 10)]⟩ : ByteArray) = dgU n := by
  unfold dgU
  rw [Lib.decDigits, dif_pos h, Nat.mod_eq_of_lt h]
end Go.Proofs.YtgiahfjndononaaDoor
