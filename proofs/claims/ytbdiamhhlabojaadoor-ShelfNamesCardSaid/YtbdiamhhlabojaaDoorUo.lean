/- DeviceRoom, plainly. -/
import Derived.Test.YtbdiamhhlabojaaDoorUn
import Derived.Test.YtbdiamhhlabojaaDoorUk
namespace Go.Proofs.YtbdiamhhlabojaaDoor
open Go.RowKit
set_option linter.unusedVariables false
set_option linter.unusedSimpArgs false
set_option maxRecDepth 100000

def nmR (i : Nat) : ByteArray := (⟨#[97, 98, 99, 100, 101, 102, 103, 104, 105, 106, 107, 108, 109, 110, 111, 112, 113, 114, 115, 116]⟩ : ByteArray).extract i (i + 1)
def zzz : ByteArray := ⟨#[122]⟩
theorem nmR_all : (List.range 20).all (fun a => decide (cmpT (nmR a) zzz < 0) && !((nmR a).toList == ([] : List UInt8)) && (List.range 20).all (fun b => decide (b ≤ a) || decide (cmpT (nmR a) (nmR b) < 0))) = true := by decide +kernel
theorem nmR_z {a : Nat} (h : a < 20) : cmpT (nmR a) zzz < 0 := by
  have h1 := List.all_eq_true.1 nmR_all a (List.mem_range.2 h)
  simp only [Bool.and_eq_true] at h1
  exact of_decide_eq_true h1.1.1
theorem nmR_ne {a : Nat} (h : a < 20) : ((nmR a).toList == ([] : List UInt8)) = false := by
  have h1 := List.all_eq_true.1 nmR_all a (List.mem_range.2 h)
  simp only [Bool.and_eq_true] at h1
  simpa using h1.1.2
theorem nmR_lt {a b : Nat} (hb : b < 20) (h : a < b) : cmpT (nmR a) (nmR b) < 0 := by
  have h1 := List.all_eq_true.1 nmR_all a (List.mem_range.2 (by omega))
  simp only [Bool.and_eq_true] at h1
  have h2 := List.all_eq_true.1 h1.2 b (List.mem_range.2 hb)
  rcases (Bool.or_eq_true _ _).mp h2 with h3 | h3
  · have := of_decide_eq_true h3; omega
  · exact of_decide_eq_true h3
def sumL (L : List Lg) : Int := (L.map fun x => (x.2.1.length : Int)).sum
theorem sumL_snoc (L : List Lg) (x : Lg) : sumL (L ++ [x]) = sumL L + x.2.1.length := by unfold sumL; simp
theorem sumL_cons (L : List Lg) (x : Lg) : sumL (x :: L) = x.2.1.length + sumL L := by unfold sumL; simp
theorem sumL_nn (L : List Lg) : 0 ≤ sumL L := by
  induction L with
  | nil => simp [sumL]
  | cons x r ih => rw [sumL_cons]; omega
theorem pos_all {L : List Lg} {nm : ByteArray} (h : ∀ x ∈ L, cmpT x.1 nm < 0) : posG L nm = L.length := by
  unfold posG
  exact List.countP_eq_length.2 (fun x hx => decide_eq_true (h x hx))
theorem hit_all {L : List Lg} {nm : ByteArray} (h : ∀ x ∈ L, cmpT x.1 nm < 0) : hitG L nm = false := by
  unfold hitG
  rw [pos_all h, List.getElem?_eq_none (Nat.le_refl _)]; rfl
theorem put_all {L : List Lg} {nm : ByteArray} (h : ∀ x ∈ L, cmpT x.1 nm < 0) (b : List UInt8) : putL L nm b = L ++ [(nm, b, 0)] := by
  unfold putL
  rw [hit_all h, pos_all h, List.take_length, List.drop_length]
theorem sort_snoc {L : List Lg} {nm : ByteArray} (hs : SortG L) (h : ∀ x ∈ L, cmpT x.1 nm < 0) (b : List UInt8) (s : Int) : SortG (L ++ [(nm, b, s)]) :=
  List.pairwise_append.2 ⟨hs, List.pairwise_singleton _ _, fun x hx y hy => by simp at hy; subst hy; exact h x hx⟩
def gR (room : Int) (L : List Lg) : Dg := ⟨room, sumL L, L, false, 0⟩
theorem gR_put {room : Int} {L : List Lg} {nm : ByteArray} (h : ∀ x ∈ L, cmpT x.1 nm < 0) (b : List UInt8) : ((gR room L).put nm b).burnt = gR room (L ++ [(nm, b, 0)]) := by
  unfold Dg.put Dg.burnt gR
  simp only [put_all h, sumL_snoc]
  rfl
structure RmI (i : Nat) (room : Int) (L : List Lg) : Prop where
  srt : SortG L
  low : ∀ x ∈ L, ∃ j, j < i ∧ x.1 = nmR j
  len : L.length ≤ i
  big : ∀ x ∈ L, x.2.1.length ≤ 255
  us : sumL L ≤ room
theorem gR_ok {room : Int} {L : List Lg} (hr : 0 ≤ room ∧ room ≤ 2000) (hs : SortG L) (hl : L.length ≤ 1000000) (hb : ∀ x ∈ L, x.2.1.length ≤ 2147483648) (hu : sumL L ≤ room) : (gR room L).ok :=
  ⟨⟨sumL_nn L, by show sumL L ≤ _; omega⟩, ⟨hr.1, by show room ≤ _; omega⟩, ⟨by show (_ : Int) ≤ 0; decide, by show (0 : Int) ≤ _; decide⟩, hs, hl, hb⟩
theorem RmI.nil (room : Int) (h : 0 ≤ room) : RmI 0 room [] := ⟨List.Pairwise.nil, (fun x hx => by cases hx), Nat.le_refl _, (fun x hx => by cases hx), by simpa [sumL] using h⟩
theorem RmI.lt {i : Nat} {room : Int} {L : List Lg} (h : RmI i room L) (hi : i < 20) : ∀ x ∈ L, cmpT x.1 (nmR i) < 0 := fun x hx => by
  obtain ⟨j, hj, e⟩ := h.low x hx
  rw [e]; exact nmR_lt hi hj
theorem RmI.ltz {i : Nat} {room : Int} {L : List Lg} (h : RmI i room L) (hi : i ≤ 20) : ∀ x ∈ L, cmpT x.1 zzz < 0 := fun x hx => by
  obtain ⟨j, hj, e⟩ := h.low x hx
  rw [e]; exact nmR_z (by omega)
theorem RmI.skip {i : Nat} {room : Int} {L : List Lg} (h : RmI i room L) : RmI (i + 1) room L :=
  ⟨h.srt, fun x hx => by obtain ⟨j, hj, e⟩ := h.low x hx; exact ⟨j, by omega, e⟩, by have := h.len; omega, h.big, h.us⟩
theorem RmI.more {i : Nat} {room : Int} {L : List Lg} (h : RmI i room L) (hi : i < 20) (n : Nat) (hn : n ≤ 255) (hu : sumL L + n ≤ room) : RmI (i + 1) room (L ++ [(nmR i, List.replicate n 0, 0)]) := by
  refine ⟨sort_snoc h.srt (h.lt hi) _ _, fun x hx => ?_, by rw [List.length_append]; have := h.len; simp; omega, fun x hx => ?_, by rw [sumL_snoc]; simpa using hu⟩
  · rcases List.mem_append.1 hx with hx | hx
    · obtain ⟨j, hj, e⟩ := h.low x hx; exact ⟨j, by omega, e⟩
    · simp at hx; subst hx; exact ⟨i, by omega, rfl⟩
  · rcases List.mem_append.1 hx with hx | hx
    · exact h.big x hx
    · simp at hx; subst hx; simpa using hn
theorem first_pos {x : Lg} {r : List Lg} (h : SortG (x :: r)) : posG (x :: r) x.1 = 0 := by
  unfold posG
  rw [List.countP_eq_zero]
  intro y hy
  have hx0 : cmpT x.1 x.1 = 0 := (cmpT_zero _ _).2 rfl
  rcases List.mem_cons.1 hy with rfl | hy
  · simp [hx0]
  · have h1 := (List.pairwise_cons.1 h).1 y hy
    have h2 := nmD_flip x.1 y.1
    simp; omega
theorem first_hit {x : Lg} {r : List Lg} (h : SortG (x :: r)) : hitG (x :: r) x.1 = true := by
  unfold hitG
  rw [first_pos h]
  have hx0 : cmpT x.1 x.1 = 0 := (cmpT_zero _ _).2 rfl
  simp [hx0]
theorem gR_del (room : Int) (x : Lg) (r : List Lg) : ((gR room (x :: r)).del 0 x).burnt = gR room r := by
  unfold Dg.del Dg.burnt gR
  simp only [sumL_cons, List.eraseIdx_cons_zero]
  have e : (x.2.1.length : Int) + sumL r - x.2.1.length = sumL r := by omega
  rw [e]
  rfl
theorem made_zero (n : Nat) : (madeCells #[.int .u8 0] n).toList = (List.replicate n (0 : UInt8)).map B8 := by
  unfold madeCells
  apply List.ext_getElem
  · simp
  · intro i h1 h2
    simp [B8, Nat.mod_one]
theorem i64_and255 (n : Int) : bits .and .i64 n 255 = n % 256 := by
  have h15 : (BitVec.ofInt 64 255).toNat = 2 ^ 8 - 1 := by decide
  have key : (BitVec.ofInt 64 n &&& BitVec.ofInt 64 255).toNat = (n % ((2 ^ 64 : Nat) : Int)).toNat % 2 ^ 8 := by
    rw [BitVec.toNat_and, BitVec.toNat_ofInt, h15, Nat.and_two_pow_sub_one_eq_mod]
  show IntKind.i64.wrap ((BitVec.ofInt 64 n &&& BitVec.ofInt 64 255).toNat : Nat) = n % 256
  rw [key, IntKind.wrap_i64]
  omega
def zeroC (n : Nat) : Array Value := ((List.replicate n (0 : UInt8)).map B8).toArray
/-- make([]byte, n) -/
theorem make_bytes (n : Nat) (hn : n ≤ 100000) (W : World) : (Instr.makeSlice 30 (.int .i64 (n : Int)) (.int .i64 (n : Int))).run Tryd.prog W = .ok (.slice (some ⟨W.heap.size, 0, none⟩) n n) (W.alloc (.cells (zeroC n) 5)) := by
  obtain ⟨i0, hi, hz0, hz1, hz2⟩ := info_parts infoB
  have h := run_makeSlice (P := Tryd.prog) (w := W) 30 5 i0 _ Tryd.underlying30 hi hz0 .i64 .i64 (n : Int) (n : Int) (by omega) (Int.le_refl _) (by rw [hz1]; simp only [Int.toNat_natCast]; omega) (by rw [hz2]; omega) (by omega)
  rw [hz1] at h
  simp only [Int.toNat_natCast, Nat.mul_one] at h
  rw [h]
  have e : madeCells (Value.int .u8 0).cells n = ((List.replicate n (0 : UInt8)).map B8).toArray := by
    rw [← made_zero n]; rfl
  rw [e]; rfl
end Go.Proofs.YtbdiamhhlabojaaDoor
