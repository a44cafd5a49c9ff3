/- Names of any number. -/
import Derived.Test.YtbdiamhhlabojaaDoorLz
import Derived.Test.YtbdiamhhlabojaaDoorBs
import Derived.Lib.ItoaMem
namespace Go.Proofs.YtbdiamhhlabojaaDoor
open Go.RowKit
set_option linter.unusedVariables false
set_option linter.unusedSimpArgs false
set_option maxRecDepth 100000

theorem below_growN (w : World) (k : Nat) (os : Array Obj) : Below w.heap.size w (Sort.grow (w.drewN k) os) := by
  refine ⟨rfl, rfl, rfl, ?_, fun i hi => ?_⟩
  · show w.heap.size ≤ (w.heap ++ os).size
    simp
  · show (w.heap ++ os)[i]? = w.heap[i]?
    rw [Array.getElem?_append_left hi]
theorem tab_below {w w' : World} {name : String} {k : IntKind} {zs : List Int} (h : Lib.TabIs Tryd.prog w name k zs) (hb : Below w.heap.size w w') : Lib.TabIs Tryd.prog w' name k zs := by
  unfold Lib.TabIs World.var? at h ⊢
  cases hg : Tryd.prog.globalNamed name with
  | none => rw [hg] at h; cases h
  | some g =>
    rw [hg] at h
    simp only [Option.bind_some] at h ⊢
    have hlt : g < w.heap.size := by
      rcases Nat.lt_or_ge g w.heap.size with h1 | h1
      · exact h1
      · rw [Array.getElem?_eq_none h1] at h; cases h
    rw [hb.block g hlt]
    exact h
def valD (l : List UInt8) : Nat := l.foldl (fun a b => a * 10 + (b.toNat - 48)) 0
theorem dig_nat {k : Nat} (h : k < 10) : (UInt8.ofNat (48 + k)).toNat - 48 = k := by
  rw [UInt8.toNat_ofNat']
  omega
theorem val_dec : ∀ u : Nat, valD (Lib.decDigits u) = u := fun u => by
  induction u using Nat.strongRecOn with
  | _ u ih =>
    by_cases h : u < 10
    · rw [Lib.decDigits, dif_pos h]
      show 0 * 10 + ((UInt8.ofNat (48 + u)).toNat - 48) = u
      rw [dig_nat h]
      omega
    · rw [Lib.decDigits, dif_neg h]
      unfold valD
      rw [List.foldl_append]
      have h2 := ih (u / 10) (by omega)
      unfold valD at h2
      rw [h2]
      show u / 10 * 10 + ((UInt8.ofNat (48 + u % 10)).toNat - 48) = u
      rw [dig_nat (by omega)]
      omega
def dgU (n : Nat) : ByteArray := ⟨(Lib.decDigits n).toArray⟩
def nmU (c : ByteArray) (n : Nat) : ByteArray := c ++ dgU n
theorem dgU_size {n : Nat} (h : n ≤ 9223372036854775807) : (dgU n).size ≤ 20 := by
  show (Lib.decDigits n).toArray.size ≤ 20
  rw [List.size_toArray, Lib.decDigits_length]
  rcases Nat.eq_zero_or_pos n with rfl | hp
  · rw [Lib.nDigits_small (by omega)]; omega
  · rcases Nat.lt_or_ge 20 (Lib.nDigits n) with h2 | h2
    · exfalso
      have h3 : ∀ (k u : Nat), 10 ^ k ≤ u → k + 1 ≤ Lib.nDigits u → True := fun _ _ _ _ => trivial
      have h4 : ∀ (m u : Nat), m < Lib.nDigits u → 1 ≤ u → 10 ^ m ≤ u := by
        intro m
        induction m with
        | zero => intro u _ h; simpa using h
        | succ m ih =>
          intro u h5 h6
          by_cases h7 : u < 10
          · rw [Lib.nDigits_small h7] at h5; omega
          · rw [Lib.nDigits_big h7] at h5
            have := ih (u / 10) (by omega) (by omega)
            rw [Nat.pow_succ]
            omega
      have := h4 20 n h2 hp
      have h8 : (9223372036854775807 : Nat) < 10 ^ 20 := by decide
      omega
    · exact h2
theorem nmU_inj {c : ByteArray} {a b : Nat} (h : nmU c a = nmU c b) : a = b := by
  have h1 : (nmU c a).data.toList = (nmU c b).data.toList := by rw [h]
  unfold nmU dgU at h1
  simp only [ByteArray.data_append, Array.toList_append] at h1
  have h2 := List.append_cancel_left h1
  rw [← val_dec a, ← val_dec b, h2]
def cB : ByteArray := ⟨#[98]⟩
def cS : ByteArray := ⟨#[115]⟩
theorem nmU_ne (a b : Nat) : nmU cB a ≠ nmU cS b := by
  intro h
  have h1 : (nmU cB a).data.toList = (nmU cS b).data.toList := by rw [h]
  unfold nmU dgU cB cS at h1
  simp only [ByteArray.data_append, Array.toList_append] at h1
  injection h1 with h2 _
  exact absurd h2 (by decide)
theorem itoa_all (n : Nat) (h : n ≤ 9223372036854775807) (w : World) (hT : Lib.TabIs Tryd.prog w "internal/strconv.uint64pow10" .u64 Lib.pow10Tab) : Calls Tryd.prog 48 #[.int .i64 (n : Int)] w fun e w' => e = .returned (.string (dgU n)) ∧ Below w.heap.size w w' := by
  refine (Any.strconv_Itoa lays171 (n : Int) (by omega) (by omega) w hT).mono fun e w' hh => ?_
  obtain ⟨he, k, os, hw⟩ := hh
  subst hw
  exact ⟨by rw [he, Lib.itoa_nonneg]; rfl, below_growN w k os⟩
theorem numbered_neg (c : ByteArray) (n : Int) (h : n < 0) (w : World) : Calls Tryd.prog 62 #[.string c, .int .i64 n] w fun e w' => e = .returned (.string ⟨#[]⟩) ∧ w' = w := by
  have d1 : decide (n < 0) = true := decide_eq_true h
  go_enter Tryd.func62, Tryd.ntmps62
  go_wp2_with fail
  go_ret
  exact ⟨rfl, rfl⟩
theorem numbered_any (c : ByteArray) (hc : c.size ≤ 1) (n : Nat) (h : n ≤ 9223372036854775807) (w : World) (hT : Lib.TabIs Tryd.prog w "internal/strconv.uint64pow10" .u64 Lib.pow10Tab) : Calls Tryd.prog 62 #[.string c, .int .i64 (n : Int)] w fun e w' => e = .returned (.string (nmU c n)) ∧ Below w.heap.size w w' := by
  have d1 : decide ((n : Int) < 0) = false := decide_eq_false (by omega)
  have hs : ∀ W, (Op.stringOp .add c (dgU n)).run Tryd.prog W = .ok (.string (nmU c n)) W := fun W => by
    rw [run_string_add_sum (P := Tryd.prog) W _ _ (by have := dgU_size h; omega)]; rfl
  have IA := Lib.hid (itoa_all n h w hT)
  clear h hT
  go_enter Tryd.func62, Tryd.ntmps62
  go_wp2_with (go_at_call 48; (with_reducible refine IA.out.mono ?_); rintro e w1 ⟨rfl, hb⟩; have HB := Lib.hid hb; clear hb)
  go_ret
  exact ⟨rfl, HB.out⟩
theorem blocknm_neg (n : Int) (h : n < 0) (w : World) : Calls Tryd.prog 36 #[.int .i64 n] w fun e w' => e = .returned (.string ⟨#[]⟩) ∧ w' = w := by
  have NN := Lib.hid (numbered_neg ⟨#[98]⟩ n h)
  clear h
  go_enter Tryd.func36, Tryd.ntmps36
  go_wp2_with (go_at_call 62; (with_reducible refine (NN.out _).mono ?_); rintro e w1 ⟨rfl, hw⟩; subst hw)
  go_ret
  exact ⟨rfl, rfl⟩
theorem blocknm_any (n : Nat) (h : n ≤ 9223372036854775807) (w : World) (hT : Lib.TabIs Tryd.prog w "internal/strconv.uint64pow10" .u64 Lib.pow10Tab) : Calls Tryd.prog 36 #[.int .i64 (n : Int)] w fun e w' => e = .returned (.string (nmU cB n)) ∧ Below w.heap.size w w' := by
  have NN := Lib.hid (numbered_any ⟨#[98]⟩ (Nat.le_refl 1) n h w hT)
  clear h hT
  go_enter Tryd.func36, Tryd.ntmps36
  go_wp2_with (go_at_call 62; (with_reducible refine NN.out.mono ?_); rintro e w1 ⟨rfl, hb⟩; have HB := Lib.hid hb; clear hb)
  go_ret
  exact ⟨rfl, HB.out⟩
theorem snapnm_neg (n : Int) (h : n < 0) (w : World) : Calls Tryd.prog 37 #[.int .i64 n] w fun e w' => e = .returned (.string ⟨#[]⟩) ∧ w' = w := by
  have NN := Lib.hid (numbered_neg ⟨#[115]⟩ n h)
  clear h
  go_enter Tryd.func37, Tryd.ntmps37
  go_wp2_with (go_at_call 62; (with_reducible refine (NN.out _).mono ?_); rintro e w1 ⟨rfl, hw⟩; subst hw)
  go_ret
  exact ⟨rfl, rfl⟩
theorem snapnm_any (n : Nat) (h : n ≤ 9223372036854775807) (w : World) (hT : Lib.TabIs Tryd.prog w "internal/strconv.uint64pow10" .u64 Lib.pow10Tab) : Calls Tryd.prog 37 #[.int .i64 (n : Int)] w fun e w' => e = .returned (.string (nmU cS n)) ∧ Below w.heap.size w w' := by
  have NN := Lib.hid (numbered_any ⟨#[115]⟩ (Nat.le_refl 1) n h w hT)
  clear h hT
  go_enter Tryd.func37, Tryd.ntmps37
  go_wp2_with (go_at_call 62; (with_reducible refine NN.out.mono ?_); rintro e w1 ⟨rfl, hb⟩; have HB := Lib.hid hb; clear hb)
  go_ret
  exact ⟨rfl, HB.out⟩
def dig10 : ByteArray := ⟨#[48, 49, 50, 51, 52, 53, 54, 55, 56, 57]⟩
theorem dig10_at : ∀ p : Fin 10, dig10.extract p.val (p.val + 1) = ⟨#[UInt8.ofNat (48 + p.val)]⟩ := by decide +kernel
theorem dgU_big {n : Nat} (h : ¬ n < 10) : dgU (n / 10) ++ (⟨#[UInt8.ofNat (48 + n % 10)]⟩ : ByteArray) = dgU n := by
  unfold dgU
  conv => rhs; rw [Lib.decDigits, dif_neg h]
  apply ByteArray.ext
  simp
theorem dgU_small {n : Nat} (h : n < 10) : (⟨#[UInt8.ofNat (48 + n % 10)]⟩ : ByteArray) = dgU n := by
  unfold dgU
  rw [Lib.decDigits, dif_pos h, Nat.mod_eq_of_lt h]
set_option maxHeartbeats 2000000 in
theorem dec_any (n : Nat) : n ≤ 9223372036854775807 → ∀ w : World, Calls Tryd.prog 63 #[.int .i64 (n : Int)] w fun e w' => e = .returned (.string (dgU n)) ∧ w' = w := by
  induction n using Nat.strongRecOn with
  | _ n ih =>
    intro h w
    obtain ⟨m, hm⟩ : ∃ m, m = n % 10 := ⟨_, rfl⟩
    have m10 : m < 10 := by omega
    have hD : dig10.extract m (m + 1) = ⟨#[UInt8.ofNat (48 + n % 10)]⟩ := by rw [← hm]; exact dig10_at ⟨m, m10⟩
    have hmi : (n : Int) % 10 = (m : Int) := by rw [hm]; omega
    by_cases h9 : n < 10
    · have HR : Hid (dig10.extract m (m + 1) = dgU n) := Lib.hid (hD.trans (dgU_small h9))
      have d1 : decide (9 < (n : Int)) = false := decide_eq_false (by omega)
      have hmn : n = m := by omega
      subst hmn
      clear ih hD hm
      go_enter Tryd.func63, Tryd.ntmps63
      go_wp2_with fail
      go_ret
      exact ⟨by rw [← HR.out]; rfl, rfl⟩
    · obtain ⟨q, hq⟩ : ∃ q, q = n / 10 := ⟨_, rfl⟩
      have d1 : decide (9 < (n : Int)) = true := decide_eq_true (by omega)
      have hqi : (n : Int) / 10 = (q : Int) := by rw [hq]; omega
      have hq2 : q ≤ 922337203685477580 := by omega
      have IH := Lib.hid (ih q (by omega) (by omega))
      have HS : Hid (dgU q ++ dig10.extract m (m + 1) = dgU n) := Lib.hid (by rw [hD, hq, dgU_big h9])
      have hbd : ¬ 9223372036854775807 < (dgU q).size + (min (m + 1) 10 - m) := by have := dgU_size (n := q) (by omega); omega
      clear ih hD hm hq
      go_enter Tryd.func63, Tryd.ntmps63
      go_wp2_with (go_at_call 63; (with_reducible refine (IH.out _).mono ?_); rintro e w1 ⟨rfl, hw⟩; subst hw)
      go_ret
      exact ⟨by rw [← HS.out]; rfl, rfl⟩
theorem refname_any (c : ByteArray) (hc : c.size ≤ 1) (n : Nat) (h : n ≤ 9223372036854775807) (w : World) : Calls Tryd.prog 38 #[.string c, .int .i64 (n : Int)] w fun e w' => e = .returned (.string (nmU c n)) ∧ w' = w := by
  have d1 : decide ((n : Int) < 0) = false := decide_eq_false (by omega)
  have hs : ∀ W, (Op.stringOp .add c (dgU n)).run Tryd.prog W = .ok (.string (nmU c n)) W := fun W => by
    rw [run_string_add_sum (P := Tryd.prog) W _ _ (by have := dgU_size h; omega)]; rfl
  have IA := Lib.hid (dec_any n h)
  clear h
  go_enter Tryd.func38, Tryd.ntmps38
  go_wp2_with (go_at_call 63; (with_reducible refine (IA.out _).mono ?_); rintro e w1 ⟨rfl, hw⟩; subst hw)
  go_ret
  exact ⟨rfl, rfl⟩
end Go.Proofs.YtbdiamhhlabojaaDoor
