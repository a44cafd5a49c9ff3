/- A batch: which spans are one, and its bytes. -/
import Derived.Test.YtchcjbapbdfhkaaBk3
import Derived.Test.YtchcjbapbdfhkaaFew
import Derived.Test.YtchcjbapbdfhkaaCg
namespace Go.Proofs.Ytchcjbapbdfhkaa
open Go.RowKit
set_option linter.unusedVariables false
set_option maxRecDepth 100000

def rightL (l : List Ls) : Bool := decide (1 ≤ l.length) && (decide (l.length ≤ 50) && l.all fun x => right x.s)
def encL (l : List Ls) : List UInt8 := l.flatMap fun x => enc x.s
/-- A batch's bytes, but the sum; with it. -/
def encB (l : List Ls) : List UInt8 := Mi.put l.length ++ encL l
def batchBytes (l : List Ls) : List UInt8 := encB l ++ Cm.le4 (Cm.sum (encB l))
theorem encL_len : ∀ (l : List Ls), (∀ x ∈ l, right x.s = true) → (encL l).length ≤ 400 * l.length
  | [], _ => by simp [encL]
  | x :: l, h => by
    have h1 := encL_len l (fun y hy => h y (by simp [hy]))
    have h2 := (enc_len (h x (by simp))).2
    have e : encL (x :: l) = enc x.s ++ encL l := rfl
    rw [e, List.length_append, List.length_cons]
    omega
theorem encL_step (l : List Ls) (k : Nat) (x : Ls) (h : l[k]? = some x) : encL (l.take (k + 1)) = encL (l.take k) ++ enc x.s := by
  unfold encL
  rw [List.take_add_one, h, List.flatMap_append]
  simp
theorem spanappend_any (x0 x1 x2 x3 : Int) (x4 x5 : ByteArray) (x6 x7 : Int) (x8 : Bool) (ats : List (ByteArray × ByteArray)) (xA : Option Addr) (xc m B : Nat) (base : Nat) (v : Value) (l : List UInt8) (w : World) (hn : m = ats.length) (hy : RdL w B ⟨⟨x0, x1, x2, x3, x4, x5, x6, x7, x8, ats⟩, xA, xc⟩) (hB : B ≤ w.heap.size) (hBb : B ≤ base) (hown : w.ownsRow base 5 1 v l.length (l.map B8)) (hbase : base ≤ w.heap.size) (hl : l.length ≤ 1000000000) (hr : right ⟨x0, x1, x2, x3, x4, x5, x6, x7, x8, ats⟩ = true) :
    Calls Try.prog 81 #[v, .agg #[.int .u64 x0, .int .u64 x1, .int .u64 x2, .int .u64 x3, .string x4, .string x5, .int .i64 x6, .int .i64 x7, .bool x8, .slice xA m xc]] w fun e w' => ∃ v', e = .returned v' ∧ w'.ownsRow base 5 1 v' (l ++ enc ⟨x0, x1, x2, x3, x4, x5, x6, x7, x8, ats⟩).length ((l ++ enc ⟨x0, x1, x2, x3, x4, x5, x6, x7, x8, ats⟩).map B8) ∧ Below base w w' := by
  obtain ⟨r1, r2, r3, r4, r5, r6, r7⟩ := right_parts hr
  obtain ⟨y0, rfl⟩ := Int.eq_ofNat_of_zero_le hy.ok.hi.1
  obtain ⟨y1, rfl⟩ := Int.eq_ofNat_of_zero_le hy.ok.lo.1
  obtain ⟨y2, rfl⟩ := Int.eq_ofNat_of_zero_le hy.ok.id.1
  obtain ⟨y3, rfl⟩ := Int.eq_ofNat_of_zero_le hy.ok.pa.1
  obtain ⟨y6, rfl⟩ := Int.eq_ofNat_of_zero_le r3
  obtain ⟨y7, rfl⟩ := Int.eq_ofNat_of_zero_le r5
  exact spanappend_yes y0 y1 y2 y3 x4 x5 y6 y7 x8 ats xA xc m B base v l w hn hy hB hBb hown hbase hl hr
theorem rightL_parts {l : List Ls} (h : rightL l = true) : 1 ≤ l.length ∧ l.length ≤ 50 ∧ ∀ x ∈ l, right x.s = true := by
  unfold rightL at h
  simpa using h
end Go.Proofs.Ytchcjbapbdfhkaa
