/- JudgeTells: the hash of any trace, and whether any episode is kept by any policy, are as the document says. -/
import Derived.Test.YtenioeppmgmdiaaKb
import Derived.Test.YtenioeppmgmdiaaAl14
import Derived.Test.YtenioeppmgmdiaaFe
namespace Go.Proofs.Ytenioeppmgmdiaa
open Go.RowKit
set_option linter.unusedVariables false
set_option linter.unusedSimpArgs false
set_option maxRecDepth 100000

def JtF (k n : Int) (key val : ByteArray) (kA sA : Option Addr) (m kc sn sc hi lo th tl : Nat) (f la : Int) (su : Bool) (q hh : Int) (kv : Bool) : Nat → Value → World → Prop
  | 0, v, _ => v = .agg #[.int .u64 th, .int .u64 tl]
  | 1, v, _ => v = .int .i64 hh
  | 2, v, _ => v = .agg #[.int .u64 th, .int .u64 tl]
  | 3, v, _ => v = .int .i64 hh
  | 4, v, _ => v = .bool true
  | 5, v, _ => v = .bool true
  | 6, v, _ => v = .agg #[.int .i64 k, .int .i64 n, .string key, .string val, .slice kA m kc]
  | 7, v, _ => v = .agg #[.int .u64 hi, .int .u64 lo, .int .i64 f, .int .i64 la, .bool su, .slice sA sn sc]
  | 8, v, _ => v = .int .i64 q
  | 9, v, _ => v = .bool kv
  | 10, v, _ => v = .agg #[.int .i64 k, .int .i64 n, .string key, .string val, .slice kA m kc]
  | 11, v, _ => v = .agg #[.int .u64 hi, .int .u64 lo, .int .i64 f, .int .i64 la, .bool su, .slice sA sn sc]
  | 12, v, _ => v = .int .i64 q
  | 13, v, _ => v = .bool kv
  | 14, v, _ => v = .bool true
  | 15, v, _ => v = .bool true
  | 16, v, _ => v = .bool true
  | _, _, _ => True
theorem JtF.keep {k n : Int} {key val : ByteArray} {kA sA : Option Addr} {m kc sn sc hi lo th tl : Nat} {f la : Int} {su : Bool} {q hh : Int} {kv : Bool} {w w' : World} {i : Nat} {v : Value} (h : JtF k n key val kA sA m kc sn sc hi lo th tl f la su q hh kv i v w) : JtF k n key val kA sA m kc sn sc hi lo th tl f la su q hh kv i v w' := by
  match i, h with
  | 0, h => exact h
  | 1, h => exact h
  | 2, h => exact h
  | 3, h => exact h
  | 4, h => exact h
  | 5, h => exact h
  | 6, h => exact h
  | 7, h => exact h
  | 8, h => exact h
  | 9, h => exact h
  | 10, h => exact h
  | 11, h => exact h
  | 12, h => exact h
  | 13, h => exact h
  | 14, h => exact h
  | 15, h => exact h
  | 16, h => exact h
  | _ + 17, h => trivial
set_option maxHeartbeats 32000000 in
theorem tells14 (t : Rt) (c : List Value) (hi lo th tl : Nat) (f la : Int) (su : Bool) (sA : Option Addr) (L : List Ls) (sn sc : Nat) (q : Int) (w : World) (h : RdR w w.heap.size t c) (h1 : hi < 18446744073709551616) (h2 : lo < 18446744073709551616) (h3 : th < 18446744073709551616) (h4 : tl < 18446744073709551616)
    (hsn : sn = L.length) (hL : RdSps w w.heap.size sA L) (hsl : sn ≤ maxLen) :
    Calls Try.prog 3 #[.agg c.toArray, .agg #[.int .u64 hi, .int .u64 lo, .int .i64 f, .int .i64 la, .bool su, .slice sA sn sc], .int .i64 q, .agg #[.int .u64 th, .int .u64 tl]] w fun e w' => e = .returned (.bool true) ∧ Below w.heap.size w w' := by
  have ALV := Lib.hid (fun W => alive14_calls W)
  have FT := Lib.hid (fun W (hW : Below w.heap.size w W) => few13_any h W hW hW.size)
  have FL := Lib.hid (fun W (hW : Below w.heap.size w W) => fewall_any sA L sn sc w.heap.size W hsn (hL.below hW) hW.size hsl)
  have CHA := Lib.hid (fun W => hash_any th tl W h3 h4)
  have CHR := Lib.hid (fun W => hash_ref th tl W h3 h4)
  have CKP := Lib.hid (fun W (hW : Below w.heap.size w W) => Keep_any h L hi lo h1 h2 f la su sA sn sc q hsn hL hsl (hsh hi lo : Nat) rfl W hW hW.size)
  have CKR := Lib.hid (fun W (hW : Below w.heap.size w W) => refKeep_any h L hi lo h1 h2 f la su sA sn sc q hsn hL hsl (hsh hi lo : Nat) rfl W hW hW.size)
  generalize ht13 : few13 t = bT at FT
  generalize htL : fewAll L = bL at FL
  generalize htK : (t.right && Rt.keep L (hsh hi lo : Nat) q t) = kv at CKP CKR
  generalize hth : ((hsh th tl : Nat) : Int) = hh at CHA CHR
  clear ht13 htL htK hth
  obtain ⟨k, n, key, val, kids, kA, kc, rfl, rfl⟩ := h.inv
  clear h h1 h2 h3 h4 hL hsn hsl
  simp only [rcs] at FT CKP CKR ⊢
  generalize kids.length = m at *
  go_enter Try.func3, Try.ntmps3
  go_wp2_with fail
  have hBX := (((Below.refl w.heap.size w).alloc (Nat.le_refl _) (.cells #[.int .i64 k, .int .i64 n, .string key, .string val, .slice kA m kc] 24)).alloc (by simp) (.cells #[.int .u64 hi, .int .u64 lo, .int .i64 f, .int .i64 la, .bool su, .slice sA sn sc] 30)).alloc (by simp; omega) (.cells #[.int .u64 th, .int .u64 tl] 27)
  have hz1 : (w.alloc (.cells #[.int .i64 k, .int .i64 n, .string key, .string val, .slice kA m kc] 24)).heap.size = w.heap.size + 1 := by simp
  have hz2 : ((w.alloc (.cells #[.int .i64 k, .int .i64 n, .string key, .string val, .slice kA m kc] 24)).alloc (.cells #[.int .u64 hi, .int .u64 lo, .int .i64 f, .int .i64 la, .bool su, .slice sA sn sc] 30)).heap.size = w.heap.size + 2 := by simp
  have hz3 : (((w.alloc (.cells #[.int .i64 k, .int .i64 n, .string key, .string val, .slice kA m kc] 24)).alloc (.cells #[.int .u64 hi, .int .u64 lo, .int .i64 f, .int .i64 la, .bool su, .slice sA sn sc] 30)).alloc (.cells #[.int .u64 th, .int .u64 tl] 27)).heap.size = w.heap.size + 3 := by simp
  have q0 := heap_alloc_new w (.cells #[.int .i64 k, .int .i64 n, .string key, .string val, .slice kA m kc] 24)
  have q1 := heap_alloc_new (w.alloc (.cells #[.int .i64 k, .int .i64 n, .string key, .string val, .slice kA m kc] 24)) (.cells #[.int .u64 hi, .int .u64 lo, .int .i64 f, .int .i64 la, .bool su, .slice sA sn sc] 30)
  have q2 := heap_alloc_new ((w.alloc (.cells #[.int .i64 k, .int .i64 n, .string key, .string val, .slice kA m kc] 24)).alloc (.cells #[.int .u64 hi, .int .u64 lo, .int .i64 f, .int .i64 la, .bool su, .slice sA sn sc] 30)) (.cells #[.int .u64 th, .int .u64 tl] 27)
  rw [hz1] at q1
  rw [hz2] at q2
  have r0 : (((w.alloc (.cells #[.int .i64 k, .int .i64 n, .string key, .string val, .slice kA m kc] 24)).alloc (.cells #[.int .u64 hi, .int .u64 lo, .int .i64 f, .int .i64 la, .bool su, .slice sA sn sc] 30)).alloc (.cells #[.int .u64 th, .int .u64 tl] 27)).cell? ⟨w.heap.size, 0, none⟩ = some (.int .i64 k) := (World.cell?_alloc_lt _ _ ⟨w.heap.size, 0, none⟩ (by simp; omega)).trans ((World.cell?_alloc_lt _ _ ⟨w.heap.size, 0, none⟩ (by simp)).trans (cell_of_row _ _ 0 _ _ (0, 0) q0))
  have r1 : (((w.alloc (.cells #[.int .i64 k, .int .i64 n, .string key, .string val, .slice kA m kc] 24)).alloc (.cells #[.int .u64 hi, .int .u64 lo, .int .i64 f, .int .i64 la, .bool su, .slice sA sn sc] 30)).alloc (.cells #[.int .u64 th, .int .u64 tl] 27)).cell? ⟨w.heap.size, 1, none⟩ = some (.int .i64 n) := (World.cell?_alloc_lt _ _ ⟨w.heap.size, 1, none⟩ (by simp; omega)).trans ((World.cell?_alloc_lt _ _ ⟨w.heap.size, 1, none⟩ (by simp)).trans (cell_of_row _ _ 1 _ _ (0, 0) q0))
  have r2 : (((w.alloc (.cells #[.int .i64 k, .int .i64 n, .string key, .string val, .slice kA m kc] 24)).alloc (.cells #[.int .u64 hi, .int .u64 lo, .int .i64 f, .int .i64 la, .bool su, .slice sA sn sc] 30)).alloc (.cells #[.int .u64 th, .int .u64 tl] 27)).cell? ⟨w.heap.size, 2, none⟩ = some (.string key) := (World.cell?_alloc_lt _ _ ⟨w.heap.size, 2, none⟩ (by simp; omega)).trans ((World.cell?_alloc_lt _ _ ⟨w.heap.size, 2, none⟩ (by simp)).trans (cell_of_row _ _ 2 _ _ (0, 0) q0))
  have r3 : (((w.alloc (.cells #[.int .i64 k, .int .i64 n, .string key, .string val, .slice kA m kc] 24)).alloc (.cells #[.int .u64 hi, .int .u64 lo, .int .i64 f, .int .i64 la, .bool su, .slice sA sn sc] 30)).alloc (.cells #[.int .u64 th, .int .u64 tl] 27)).cell? ⟨w.heap.size, 3, none⟩ = some (.string val) := (World.cell?_alloc_lt _ _ ⟨w.heap.size, 3, none⟩ (by simp; omega)).trans ((World.cell?_alloc_lt _ _ ⟨w.heap.size, 3, none⟩ (by simp)).trans (cell_of_row _ _ 3 _ _ (0, 0) q0))
  have r4 : (((w.alloc (.cells #[.int .i64 k, .int .i64 n, .string key, .string val, .slice kA m kc] 24)).alloc (.cells #[.int .u64 hi, .int .u64 lo, .int .i64 f, .int .i64 la, .bool su, .slice sA sn sc] 30)).alloc (.cells #[.int .u64 th, .int .u64 tl] 27)).cell? ⟨w.heap.size, 4, none⟩ = some (.slice kA m kc) := (World.cell?_alloc_lt _ _ ⟨w.heap.size, 4, none⟩ (by simp; omega)).trans ((World.cell?_alloc_lt _ _ ⟨w.heap.size, 4, none⟩ (by simp)).trans (cell_of_row _ _ 4 _ _ (0, 0) q0))
  have e0 : (((w.alloc (.cells #[.int .i64 k, .int .i64 n, .string key, .string val, .slice kA m kc] 24)).alloc (.cells #[.int .u64 hi, .int .u64 lo, .int .i64 f, .int .i64 la, .bool su, .slice sA sn sc] 30)).alloc (.cells #[.int .u64 th, .int .u64 tl] 27)).cell? ⟨w.heap.size + 1, 0, none⟩ = some (.int .u64 (hi : Int)) := (World.cell?_alloc_lt _ _ ⟨w.heap.size + 1, 0, none⟩ (by simp)).trans (cell_of_row _ _ 0 _ _ (0, 0) q1)
  have e1 : (((w.alloc (.cells #[.int .i64 k, .int .i64 n, .string key, .string val, .slice kA m kc] 24)).alloc (.cells #[.int .u64 hi, .int .u64 lo, .int .i64 f, .int .i64 la, .bool su, .slice sA sn sc] 30)).alloc (.cells #[.int .u64 th, .int .u64 tl] 27)).cell? ⟨w.heap.size + 1, 1, none⟩ = some (.int .u64 (lo : Int)) := (World.cell?_alloc_lt _ _ ⟨w.heap.size + 1, 1, none⟩ (by simp)).trans (cell_of_row _ _ 1 _ _ (0, 0) q1)
  have e2 : (((w.alloc (.cells #[.int .i64 k, .int .i64 n, .string key, .string val, .slice kA m kc] 24)).alloc (.cells #[.int .u64 hi, .int .u64 lo, .int .i64 f, .int .i64 la, .bool su, .slice sA sn sc] 30)).alloc (.cells #[.int .u64 th, .int .u64 tl] 27)).cell? ⟨w.heap.size + 1, 2, none⟩ = some (.int .i64 f) := (World.cell?_alloc_lt _ _ ⟨w.heap.size + 1, 2, none⟩ (by simp)).trans (cell_of_row _ _ 2 _ _ (0, 0) q1)
  have e3 : (((w.alloc (.cells #[.int .i64 k, .int .i64 n, .string key, .string val, .slice kA m kc] 24)).alloc (.cells #[.int .u64 hi, .int .u64 lo, .int .i64 f, .int .i64 la, .bool su, .slice sA sn sc] 30)).alloc (.cells #[.int .u64 th, .int .u64 tl] 27)).cell? ⟨w.heap.size + 1, 3, none⟩ = some (.int .i64 la) := (World.cell?_alloc_lt _ _ ⟨w.heap.size + 1, 3, none⟩ (by simp)).trans (cell_of_row _ _ 3 _ _ (0, 0) q1)
  have e4 : (((w.alloc (.cells #[.int .i64 k, .int .i64 n, .string key, .string val, .slice kA m kc] 24)).alloc (.cells #[.int .u64 hi, .int .u64 lo, .int .i64 f, .int .i64 la, .bool su, .slice sA sn sc] 30)).alloc (.cells #[.int .u64 th, .int .u64 tl] 27)).cell? ⟨w.heap.size + 1, 4, none⟩ = some (.bool su) := (World.cell?_alloc_lt _ _ ⟨w.heap.size + 1, 4, none⟩ (by simp)).trans (cell_of_row _ _ 4 _ _ (0, 0) q1)
  have e5 : (((w.alloc (.cells #[.int .i64 k, .int .i64 n, .string key, .string val, .slice kA m kc] 24)).alloc (.cells #[.int .u64 hi, .int .u64 lo, .int .i64 f, .int .i64 la, .bool su, .slice sA sn sc] 30)).alloc (.cells #[.int .u64 th, .int .u64 tl] 27)).cell? ⟨w.heap.size + 1, 5, none⟩ = some (.slice sA sn sc) := (World.cell?_alloc_lt _ _ ⟨w.heap.size + 1, 5, none⟩ (by simp)).trans (cell_of_row _ _ 5 _ _ (0, 0) q1)
  have t0 : (((w.alloc (.cells #[.int .i64 k, .int .i64 n, .string key, .string val, .slice kA m kc] 24)).alloc (.cells #[.int .u64 hi, .int .u64 lo, .int .i64 f, .int .i64 la, .bool su, .slice sA sn sc] 30)).alloc (.cells #[.int .u64 th, .int .u64 tl] 27)).cell? ⟨w.heap.size + 2, 0, none⟩ = some (.int .u64 (th : Int)) := cell_of_row _ _ 0 _ _ (0, 0) q2
  have t1 : (((w.alloc (.cells #[.int .i64 k, .int .i64 n, .string key, .string val, .slice kA m kc] 24)).alloc (.cells #[.int .u64 hi, .int .u64 lo, .int .i64 f, .int .i64 la, .bool su, .slice sA sn sc] 30)).alloc (.cells #[.int .u64 th, .int .u64 tl] 27)).cell? ⟨w.heap.size + 2, 1, none⟩ = some (.int .u64 (tl : Int)) := cell_of_row _ _ 1 _ _ (0, 0) q2
  generalize hWX : ((w.alloc (.cells #[.int .i64 k, .int .i64 n, .string key, .string val, .slice kA m kc] 24)).alloc (.cells #[.int .u64 hi, .int .u64 lo, .int .i64 f, .int .i64 la, .bool su, .slice sA sn sc] 30)).alloc (.cells #[.int .u64 th, .int .u64 tl] 27) = WX at *
  generalize hB0 : w.heap.size = B0 at *
  have HB0 := Lib.hid hB0
  have ST0 := Lib.hid (show (WX.cell? ⟨B0, 0, none⟩ = some (.int .i64 k) ∧ WX.cell? ⟨B0, 1, none⟩ = some (.int .i64 n) ∧ WX.cell? ⟨B0, 2, none⟩ = some (.string key) ∧ WX.cell? ⟨B0, 3, none⟩ = some (.string val) ∧ WX.cell? ⟨B0, 4, none⟩ = some (.slice kA m kc) ∧ WX.cell? ⟨B0 + 1, 0, none⟩ = some (.int .u64 (hi : Int)) ∧ WX.cell? ⟨B0 + 1, 1, none⟩ = some (.int .u64 (lo : Int)) ∧ WX.cell? ⟨B0 + 1, 2, none⟩ = some (.int .i64 f) ∧ WX.cell? ⟨B0 + 1, 3, none⟩ = some (.int .i64 la) ∧ WX.cell? ⟨B0 + 1, 4, none⟩ = some (.bool su) ∧ WX.cell? ⟨B0 + 1, 5, none⟩ = some (.slice sA sn sc) ∧ WX.cell? ⟨B0 + 2, 0, none⟩ = some (.int .u64 (th : Int)) ∧ WX.cell? ⟨B0 + 2, 1, none⟩ = some (.int .u64 (tl : Int))) ∧ Below B0 w WX ∧ B0 + 3 ≤ WX.heap.size from ⟨⟨r0, r1, r2, r3, r4, e0, e1, e2, e3, e4, e5, t0, t1⟩, hBX, by omega⟩)
  have STAY := Lib.hid (show ∀ U V, ((U.cell? ⟨B0, 0, none⟩ = some (.int .i64 k) ∧ U.cell? ⟨B0, 1, none⟩ = some (.int .i64 n) ∧ U.cell? ⟨B0, 2, none⟩ = some (.string key) ∧ U.cell? ⟨B0, 3, none⟩ = some (.string val) ∧ U.cell? ⟨B0, 4, none⟩ = some (.slice kA m kc) ∧ U.cell? ⟨B0 + 1, 0, none⟩ = some (.int .u64 (hi : Int)) ∧ U.cell? ⟨B0 + 1, 1, none⟩ = some (.int .u64 (lo : Int)) ∧ U.cell? ⟨B0 + 1, 2, none⟩ = some (.int .i64 f) ∧ U.cell? ⟨B0 + 1, 3, none⟩ = some (.int .i64 la) ∧ U.cell? ⟨B0 + 1, 4, none⟩ = some (.bool su) ∧ U.cell? ⟨B0 + 1, 5, none⟩ = some (.slice sA sn sc) ∧ U.cell? ⟨B0 + 2, 0, none⟩ = some (.int .u64 (th : Int)) ∧ U.cell? ⟨B0 + 2, 1, none⟩ = some (.int .u64 (tl : Int))) ∧ Below B0 w U ∧ B0 + 3 ≤ U.heap.size) → Below U.heap.size U V → ((V.cell? ⟨B0, 0, none⟩ = some (.int .i64 k) ∧ V.cell? ⟨B0, 1, none⟩ = some (.int .i64 n) ∧ V.cell? ⟨B0, 2, none⟩ = some (.string key) ∧ V.cell? ⟨B0, 3, none⟩ = some (.string val) ∧ V.cell? ⟨B0, 4, none⟩ = some (.slice kA m kc) ∧ V.cell? ⟨B0 + 1, 0, none⟩ = some (.int .u64 (hi : Int)) ∧ V.cell? ⟨B0 + 1, 1, none⟩ = some (.int .u64 (lo : Int)) ∧ V.cell? ⟨B0 + 1, 2, none⟩ = some (.int .i64 f) ∧ V.cell? ⟨B0 + 1, 3, none⟩ = some (.int .i64 la) ∧ V.cell? ⟨B0 + 1, 4, none⟩ = some (.bool su) ∧ V.cell? ⟨B0 + 1, 5, none⟩ = some (.slice sA sn sc) ∧ V.cell? ⟨B0 + 2, 0, none⟩ = some (.int .u64 (th : Int)) ∧ V.cell? ⟨B0 + 2, 1, none⟩ = some (.int .u64 (tl : Int))) ∧ Below B0 w V ∧ B0 + 3 ≤ V.heap.size) from fun U V h hV => ⟨⟨(hV.cell (p := ⟨B0, 0, none⟩) (Nat.lt_of_lt_of_le (by show B0 < B0 + 3; omega) h.2.2)).trans h.1.1, (hV.cell (p := ⟨B0, 1, none⟩) (Nat.lt_of_lt_of_le (by show B0 < B0 + 3; omega) h.2.2)).trans h.1.2.1, (hV.cell (p := ⟨B0, 2, none⟩) (Nat.lt_of_lt_of_le (by show B0 < B0 + 3; omega) h.2.2)).trans h.1.2.2.1, (hV.cell (p := ⟨B0, 3, none⟩) (Nat.lt_of_lt_of_le (by show B0 < B0 + 3; omega) h.2.2)).trans h.1.2.2.2.1, (hV.cell (p := ⟨B0, 4, none⟩) (Nat.lt_of_lt_of_le (by show B0 < B0 + 3; omega) h.2.2)).trans h.1.2.2.2.2.1, (hV.cell (p := ⟨B0 + 1, 0, none⟩) (Nat.lt_of_lt_of_le (by show B0 + 1 < B0 + 3; omega) h.2.2)).trans h.1.2.2.2.2.2.1, (hV.cell (p := ⟨B0 + 1, 1, none⟩) (Nat.lt_of_lt_of_le (by show B0 + 1 < B0 + 3; omega) h.2.2)).trans h.1.2.2.2.2.2.2.1, (hV.cell (p := ⟨B0 + 1, 2, none⟩) (Nat.lt_of_lt_of_le (by show B0 + 1 < B0 + 3; omega) h.2.2)).trans h.1.2.2.2.2.2.2.2.1, (hV.cell (p := ⟨B0 + 1, 3, none⟩) (Nat.lt_of_lt_of_le (by show B0 + 1 < B0 + 3; omega) h.2.2)).trans h.1.2.2.2.2.2.2.2.2.1, (hV.cell (p := ⟨B0 + 1, 4, none⟩) (Nat.lt_of_lt_of_le (by show B0 + 1 < B0 + 3; omega) h.2.2)).trans h.1.2.2.2.2.2.2.2.2.2.1, (hV.cell (p := ⟨B0 + 1, 5, none⟩) (Nat.lt_of_lt_of_le (by show B0 + 1 < B0 + 3; omega) h.2.2)).trans h.1.2.2.2.2.2.2.2.2.2.2.1, (hV.cell (p := ⟨B0 + 2, 0, none⟩) (Nat.lt_of_lt_of_le (by show B0 + 2 < B0 + 3; omega) h.2.2)).trans h.1.2.2.2.2.2.2.2.2.2.2.2.1, (hV.cell (p := ⟨B0 + 2, 1, none⟩) (Nat.lt_of_lt_of_le (by show B0 + 2 < B0 + 3; omega) h.2.2)).trans h.1.2.2.2.2.2.2.2.2.2.2.2.2⟩, h.2.1.trans (hV.mono (Nat.le_trans (by omega) h.2.2)), Nat.le_trans h.2.2 hV.size⟩)
  clear hWX hz1 hz2 hz3 q0 q1 q2 hB0 hBX r0 r1 r2 r3 r4 e0 e1 e2 e3 e4 e5 t0 t1

  cases bT
  · go_wp2_with (first
      | (have hd := done1; clear done1; go_at_call 9; (with_reducible refine (FT.out _ ST1.out.2.1).mono ?_); rintro e w2 ⟨rfl, hb2⟩; (try clear cr0 cr1 cr2 cr3 cr4 ce0 ce1 ce2 ce3 ce4 ce5 ct0 ct1); have ST2 := Lib.hid (STAY.out _ _ ST1.out hb2); have hcs := ST2.out.1; obtain ⟨cr0, cr1, cr2, cr3, cr4, ce0, ce1, ce2, ce3, ce4, ce5, ct0, ct1⟩ := hcs; clear hb2; have done2 := trivial)
      | (go_at_call 8; (with_reducible refine (ALV.out _).mono ?_); rintro e w1 ⟨rfl, hb1⟩; (try clear cr0 cr1 cr2 cr3 cr4 ce0 ce1 ce2 ce3 ce4 ce5 ct0 ct1); have ST1 := Lib.hid (STAY.out _ _ ST0.out hb1); have hcs := ST1.out.1; obtain ⟨cr0, cr1, cr2, cr3, cr4, ce0, ce1, ce2, ce3, ce4, ce5, ct0, ct1⟩ := hcs; clear hb1; have done1 := trivial))
    go_ret
    exact ⟨rfl, by rw [HB0.out]; exact ST2.out.2.1⟩

  cases bL
  · go_wp2_with (first
      | (have hd := done2; clear done2; go_at_call 10; (with_reducible refine (FL.out _ ST2.out.2.1).mono ?_); rintro e w3 ⟨rfl, hb3⟩; (try clear cr0 cr1 cr2 cr3 cr4 ce0 ce1 ce2 ce3 ce4 ce5 ct0 ct1); have ST3 := Lib.hid (STAY.out _ _ ST2.out hb3); have hcs := ST3.out.1; obtain ⟨cr0, cr1, cr2, cr3, cr4, ce0, ce1, ce2, ce3, ce4, ce5, ct0, ct1⟩ := hcs; clear hb3; have done3 := trivial)
      | (have hd := done1; clear done1; go_at_call 9; (with_reducible refine (FT.out _ ST1.out.2.1).mono ?_); rintro e w2 ⟨rfl, hb2⟩; (try clear cr0 cr1 cr2 cr3 cr4 ce0 ce1 ce2 ce3 ce4 ce5 ct0 ct1); have ST2 := Lib.hid (STAY.out _ _ ST1.out hb2); have hcs := ST2.out.1; obtain ⟨cr0, cr1, cr2, cr3, cr4, ce0, ce1, ce2, ce3, ce4, ce5, ct0, ct1⟩ := hcs; clear hb2; have done2 := trivial)
      | (go_at_call 8; (with_reducible refine (ALV.out _).mono ?_); rintro e w1 ⟨rfl, hb1⟩; (try clear cr0 cr1 cr2 cr3 cr4 ce0 ce1 ce2 ce3 ce4 ce5 ct0 ct1); have ST1 := Lib.hid (STAY.out _ _ ST0.out hb1); have hcs := ST1.out.1; obtain ⟨cr0, cr1, cr2, cr3, cr4, ce0, ce1, ce2, ce3, ce4, ce5, ct0, ct1⟩ := hcs; clear hb1; have done1 := trivial))
    go_ret
    exact ⟨rfl, by rw [HB0.out]; exact ST3.out.2.1⟩

  go_wp2_with (first
    | (have hd := done2; clear done2; go_at_call 10; (with_reducible refine (FL.out _ ST2.out.2.1).mono ?_); rintro e w3 ⟨rfl, hb3⟩; (try clear cr0 cr1 cr2 cr3 cr4 ce0 ce1 ce2 ce3 ce4 ce5 ct0 ct1); have ST3 := Lib.hid (STAY.out _ _ ST2.out hb3); have hcs := ST3.out.1; obtain ⟨cr0, cr1, cr2, cr3, cr4, ce0, ce1, ce2, ce3, ce4, ce5, ct0, ct1⟩ := hcs; clear hb3; have done3 := trivial)
    | (have hd := done1; clear done1; go_at_call 9; (with_reducible refine (FT.out _ ST1.out.2.1).mono ?_); rintro e w2 ⟨rfl, hb2⟩; (try clear cr0 cr1 cr2 cr3 cr4 ce0 ce1 ce2 ce3 ce4 ce5 ct0 ct1); have ST2 := Lib.hid (STAY.out _ _ ST1.out hb2); have hcs := ST2.out.1; obtain ⟨cr0, cr1, cr2, cr3, cr4, ce0, ce1, ce2, ce3, ce4, ce5, ct0, ct1⟩ := hcs; clear hb2; have done2 := trivial)
    | (go_at_call 8; (with_reducible refine (ALV.out _).mono ?_); rintro e w1 ⟨rfl, hb1⟩; (try clear cr0 cr1 cr2 cr3 cr4 ce0 ce1 ce2 ce3 ce4 ce5 ct0 ct1); have ST1 := Lib.hid (STAY.out _ _ ST0.out hb1); have hcs := ST1.out.1; obtain ⟨cr0, cr1, cr2, cr3, cr4, ce0, ce1, ce2, ce3, ce4, ce5, ct0, ct1⟩ := hcs; clear hb1; have done1 := trivial))

  obtain ⟨W, hW⟩ : ∃ W, W = w3.drew := ⟨_, rfl⟩
  have hWr : Below w3.heap.size w3 W := by rw [hW]; exact ⟨rfl, rfl, rfl, Nat.le_refl _, fun _ _ => rfl⟩
  have ST4 := Lib.hid (STAY.out _ _ ST3.out hWr)
  have HC := Lib.hid (show ∀ V, Below W.heap.size W V → (V.cell? ⟨B0, 0, none⟩ = some (.int .i64 k) ∧ V.cell? ⟨B0, 1, none⟩ = some (.int .i64 n) ∧ V.cell? ⟨B0, 2, none⟩ = some (.string key) ∧ V.cell? ⟨B0, 3, none⟩ = some (.string val) ∧ V.cell? ⟨B0, 4, none⟩ = some (.slice kA m kc) ∧ V.cell? ⟨B0 + 1, 0, none⟩ = some (.int .u64 (hi : Int)) ∧ V.cell? ⟨B0 + 1, 1, none⟩ = some (.int .u64 (lo : Int)) ∧ V.cell? ⟨B0 + 1, 2, none⟩ = some (.int .i64 f) ∧ V.cell? ⟨B0 + 1, 3, none⟩ = some (.int .i64 la) ∧ V.cell? ⟨B0 + 1, 4, none⟩ = some (.bool su) ∧ V.cell? ⟨B0 + 1, 5, none⟩ = some (.slice sA sn sc) ∧ V.cell? ⟨B0 + 2, 0, none⟩ = some (.int .u64 (th : Int)) ∧ V.cell? ⟨B0 + 2, 1, none⟩ = some (.int .u64 (tl : Int))) ∧ Below B0 w V from fun V hV => ⟨(STAY.out _ _ ST4.out hV).1, (STAY.out _ _ ST4.out hV).2.1⟩)
  refine PI.wp_region_persG (R := (fun w w' => Below w.heap.size w w')) (G := fun _ _ => True) (I := fun _ _ _ => True) [(1, 0), (3, 2), (4, 1), (4, 3), (5, 4), (6, 5), (7, 5), (8, 5), (9, 5), (9, 6), (9, 7), (9, 8), (10, 5), (11, 5), (12, 5), (13, 5), (13, 10), (13, 11), (13, 12), (14, 5), (14, 9), (14, 13), (15, 5), (15, 14), (16, 15)] [16] (by kernel_rfl) (PI.formed_of (by kernel_rfl)) ⟨fun w => Below.refl _ w, fun _ _ _ h k => h.trans (k.mono h.size)⟩ (fun _ => trivial) (JtF k n key val kA sA m kc sn sc hi lo th tl f la su q hh kv) trivial ?_ ?_
  · rw [← hW]
    intro i o ho
    rcases i with _ | _ | _ | _ | _ | _ | _ | _ | _ | _ | _ | _ | _ | _ | _ | _ | _ | i
    · obtain rfl := Option.some.inj (show some _ = some o from ho)
      refine PI.shown_val rfl fun a w5 L0 hr T => ?_
      have h1 : a.eval (.tmp 7) = .pointer (some ⟨B0 + 2, 0, none⟩) := T.was 7 (by kernel_rfl)
      have g11 := (HC.out w5 hr).1.2.2.2.2.2.2.2.2.2.2.2.1
      have g12 := (HC.out w5 hr).1.2.2.2.2.2.2.2.2.2.2.2.2
      exact ⟨.agg #[.int .u64 th, .int .u64 tl], w5, by simp only [execOp, h1]; simp [go_sem, g11, g12], PI.Post.pure ⟨fun w => Below.refl _ w, fun _ _ _ h k => h.trans (k.mono h.size)⟩ rfl trivial⟩
    · obtain rfl := Option.some.inj (show some _ = some o from ho)
      refine PI.shown_call rfl 11 fun a w5 L0 hr T => ?_
      have h0 : a.eval (.tmp 25) = .agg #[.int .u64 th, .int .u64 tl] := T.at_ 0 25 (by kernel_rfl) (by kernel_rfl) (by kernel_rfl)
      refine ⟨#[.agg #[.int .u64 th, .int .u64 tl]], by simp only [execOp, resolve, List.map_toArray, List.map_cons, List.map_nil, h0]; simp [go_sem, Act.eval], ?_⟩
      refine (CHA.out w5).mono fun e w6 hh => ?_
      obtain ⟨rfl, hb6⟩ := hh
      exact ⟨_, rfl, hb6, rfl, fun _ _ h => h, fun j v _ _ _ _ h => JtF.keep h, trivial⟩
    · obtain rfl := Option.some.inj (show some _ = some o from ho)
      refine PI.shown_val rfl fun a w5 L0 hr T => ?_
      have h1 : a.eval (.tmp 7) = .pointer (some ⟨B0 + 2, 0, none⟩) := T.was 7 (by kernel_rfl)
      have g11 := (HC.out w5 hr).1.2.2.2.2.2.2.2.2.2.2.2.1
      have g12 := (HC.out w5 hr).1.2.2.2.2.2.2.2.2.2.2.2.2
      exact ⟨.agg #[.int .u64 th, .int .u64 tl], w5, by simp only [execOp, h1]; simp [go_sem, g11, g12], PI.Post.pure ⟨fun w => Below.refl _ w, fun _ _ _ h k => h.trans (k.mono h.size)⟩ rfl trivial⟩
    · obtain rfl := Option.some.inj (show some _ = some o from ho)
      refine PI.shown_call rfl 12 fun a w5 L0 hr T => ?_
      have h0 : a.eval (.tmp 27) = .agg #[.int .u64 th, .int .u64 tl] := T.at_ 2 27 (by kernel_rfl) (by kernel_rfl) (by kernel_rfl)
      refine ⟨#[.agg #[.int .u64 th, .int .u64 tl]], by simp only [execOp, resolve, List.map_toArray, List.map_cons, List.map_nil, h0]; simp [go_sem, Act.eval], ?_⟩
      refine (CHR.out w5).mono fun e w6 hh => ?_
      obtain ⟨rfl, hb6⟩ := hh
      exact ⟨_, rfl, hb6, rfl, fun _ _ h => h, fun j v _ _ _ _ h => JtF.keep h, trivial⟩
    · obtain rfl := Option.some.inj (show some _ = some o from ho)
      refine PI.shown_val rfl fun a w5 L0 hr T => ?_
      have h1 : a.eval (.tmp 26) = .int .i64 hh := T.at_ 1 26 (by kernel_rfl) (by kernel_rfl) (by kernel_rfl)
      have h2 : a.eval (.tmp 28) = .int .i64 hh := T.at_ 3 28 (by kernel_rfl) (by kernel_rfl) (by kernel_rfl)
      exact ⟨.bool true, w5, by simp only [execOp, h1, h2]; simp [go_sem, Act.eval], PI.Post.pure ⟨fun w => Below.refl _ w, fun _ _ _ h k => h.trans (k.mono h.size)⟩ rfl trivial⟩
    · obtain rfl := Option.some.inj (show some _ = some o from ho)
      refine PI.shown_val rfl fun a w5 L0 hr T => ?_
      have h1 : a.eval (.tmp 29) = .bool true := T.at_ 4 29 (by kernel_rfl) (by kernel_rfl) (by kernel_rfl)
      exact ⟨.bool true, w5, by simp only [execOp, h1]; simp [go_sem], PI.Post.pure ⟨fun w => Below.refl _ w, fun _ _ _ h k => h.trans (k.mono h.size)⟩ rfl trivial⟩
    · obtain rfl := Option.some.inj (show some _ = some o from ho)
      refine PI.shown_val_if 5 30 true rfl (by kernel_rfl) (by kernel_rfl) (by kernel_rfl) (fun v w h => h) fun a w5 L0 hr T => ?_
      have h1 : a.eval (.tmp 4) = .pointer (some ⟨B0, 0, none⟩) := T.was 4 (by kernel_rfl)
      have g0 := (HC.out w5 hr).1.1
      have g1 := (HC.out w5 hr).1.2.1
      have g2 := (HC.out w5 hr).1.2.2.1
      have g3 := (HC.out w5 hr).1.2.2.2.1
      have g4 := (HC.out w5 hr).1.2.2.2.2.1
      exact ⟨.agg #[.int .i64 k, .int .i64 n, .string key, .string val, .slice kA m kc], w5, by simp only [execOp, h1]; simp [go_sem, g0, g1, g2, g3, g4], PI.Post.pure ⟨fun w => Below.refl _ w, fun _ _ _ h k => h.trans (k.mono h.size)⟩ rfl trivial⟩
    · obtain rfl := Option.some.inj (show some _ = some o from ho)
      refine PI.shown_val_if 5 30 true rfl (by kernel_rfl) (by kernel_rfl) (by kernel_rfl) (fun v w h => h) fun a w5 L0 hr T => ?_
      have h1 : a.eval (.tmp 5) = .pointer (some ⟨B0 + 1, 0, none⟩) := T.was 5 (by kernel_rfl)
      have g5 := (HC.out w5 hr).1.2.2.2.2.2.1
      have g6 := (HC.out w5 hr).1.2.2.2.2.2.2.1
      have g7 := (HC.out w5 hr).1.2.2.2.2.2.2.2.1
      have g8 := (HC.out w5 hr).1.2.2.2.2.2.2.2.2.1
      have g9 := (HC.out w5 hr).1.2.2.2.2.2.2.2.2.2.1
      have g10 := (HC.out w5 hr).1.2.2.2.2.2.2.2.2.2.2.1
      exact ⟨.agg #[.int .u64 hi, .int .u64 lo, .int .i64 f, .int .i64 la, .bool su, .slice sA sn sc], w5, by simp only [execOp, h1]; simp [go_sem, g5, g6, g7, g8, g9, g10], PI.Post.pure ⟨fun w => Below.refl _ w, fun _ _ _ h k => h.trans (k.mono h.size)⟩ rfl trivial⟩
    · obtain rfl := Option.some.inj (show some _ = some o from ho)
      refine PI.shown_val_if 5 30 true rfl (by kernel_rfl) (by kernel_rfl) (by kernel_rfl) (fun v w h => h) fun a w5 L0 hr T => ?_
      have h1 : a.eval (.tmp 2) = .int .i64 q := T.was 2 (by kernel_rfl)
      exact ⟨.int .i64 q, w5, by simp only [execOp, h1]; simp [go_sem], PI.Post.pure ⟨fun w => Below.refl _ w, fun _ _ _ h k => h.trans (k.mono h.size)⟩ rfl trivial⟩
    · obtain rfl := Option.some.inj (show some _ = some o from ho)
      refine PI.shown_call_if 5 30 true rfl (by kernel_rfl) (by kernel_rfl) (by kernel_rfl) (fun v w h => h) 13 fun a w5 L0 hr T => ?_
      have h0 : a.eval (.tmp 31) = .agg #[.int .i64 k, .int .i64 n, .string key, .string val, .slice kA m kc] := T.at_ 6 31 (by kernel_rfl) (by kernel_rfl) (by kernel_rfl)
      have h1 : a.eval (.tmp 32) = .agg #[.int .u64 hi, .int .u64 lo, .int .i64 f, .int .i64 la, .bool su, .slice sA sn sc] := T.at_ 7 32 (by kernel_rfl) (by kernel_rfl) (by kernel_rfl)
      have h2 : a.eval (.tmp 33) = .int .i64 q := T.at_ 8 33 (by kernel_rfl) (by kernel_rfl) (by kernel_rfl)
      refine ⟨#[.agg #[.int .i64 k, .int .i64 n, .string key, .string val, .slice kA m kc], .agg #[.int .u64 hi, .int .u64 lo, .int .i64 f, .int .i64 la, .bool su, .slice sA sn sc], .int .i64 q], by simp only [execOp, resolve, List.map_toArray, List.map_cons, List.map_nil, h0, h1, h2]; simp [go_sem, Act.eval], ?_⟩
      refine (CKP.out w5 (HC.out w5 hr).2).mono fun e w6 hh => ?_
      obtain ⟨rfl, hb6⟩ := hh
      exact ⟨_, rfl, hb6, rfl, fun _ _ h => h, fun j v _ _ _ _ h => JtF.keep h, trivial⟩
    · obtain rfl := Option.some.inj (show some _ = some o from ho)
      refine PI.shown_val_if 5 30 true rfl (by kernel_rfl) (by kernel_rfl) (by kernel_rfl) (fun v w h => h) fun a w5 L0 hr T => ?_
      have h1 : a.eval (.tmp 4) = .pointer (some ⟨B0, 0, none⟩) := T.was 4 (by kernel_rfl)
      have g0 := (HC.out w5 hr).1.1
      have g1 := (HC.out w5 hr).1.2.1
      have g2 := (HC.out w5 hr).1.2.2.1
      have g3 := (HC.out w5 hr).1.2.2.2.1
      have g4 := (HC.out w5 hr).1.2.2.2.2.1
      exact ⟨.agg #[.int .i64 k, .int .i64 n, .string key, .string val, .slice kA m kc], w5, by simp only [execOp, h1]; simp [go_sem, g0, g1, g2, g3, g4], PI.Post.pure ⟨fun w => Below.refl _ w, fun _ _ _ h k => h.trans (k.mono h.size)⟩ rfl trivial⟩
    · obtain rfl := Option.some.inj (show some _ = some o from ho)
      refine PI.shown_val_if 5 30 true rfl (by kernel_rfl) (by kernel_rfl) (by kernel_rfl) (fun v w h => h) fun a w5 L0 hr T => ?_
      have h1 : a.eval (.tmp 5) = .pointer (some ⟨B0 + 1, 0, none⟩) := T.was 5 (by kernel_rfl)
      have g5 := (HC.out w5 hr).1.2.2.2.2.2.1
      have g6 := (HC.out w5 hr).1.2.2.2.2.2.2.1
      have g7 := (HC.out w5 hr).1.2.2.2.2.2.2.2.1
      have g8 := (HC.out w5 hr).1.2.2.2.2.2.2.2.2.1
      have g9 := (HC.out w5 hr).1.2.2.2.2.2.2.2.2.2.1
      have g10 := (HC.out w5 hr).1.2.2.2.2.2.2.2.2.2.2.1
      exact ⟨.agg #[.int .u64 hi, .int .u64 lo, .int .i64 f, .int .i64 la, .bool su, .slice sA sn sc], w5, by simp only [execOp, h1]; simp [go_sem, g5, g6, g7, g8, g9, g10], PI.Post.pure ⟨fun w => Below.refl _ w, fun _ _ _ h k => h.trans (k.mono h.size)⟩ rfl trivial⟩
    · obtain rfl := Option.some.inj (show some _ = some o from ho)
      refine PI.shown_val_if 5 30 true rfl (by kernel_rfl) (by kernel_rfl) (by kernel_rfl) (fun v w h => h) fun a w5 L0 hr T => ?_
      have h1 : a.eval (.tmp 2) = .int .i64 q := T.was 2 (by kernel_rfl)
      exact ⟨.int .i64 q, w5, by simp only [execOp, h1]; simp [go_sem], PI.Post.pure ⟨fun w => Below.refl _ w, fun _ _ _ h k => h.trans (k.mono h.size)⟩ rfl trivial⟩
    · obtain rfl := Option.some.inj (show some _ = some o from ho)
      refine PI.shown_call_if 5 30 true rfl (by kernel_rfl) (by kernel_rfl) (by kernel_rfl) (fun v w h => h) 14 fun a w5 L0 hr T => ?_
      have h0 : a.eval (.tmp 35) = .agg #[.int .i64 k, .int .i64 n, .string key, .string val, .slice kA m kc] := T.at_ 10 35 (by kernel_rfl) (by kernel_rfl) (by kernel_rfl)
      have h1 : a.eval (.tmp 36) = .agg #[.int .u64 hi, .int .u64 lo, .int .i64 f, .int .i64 la, .bool su, .slice sA sn sc] := T.at_ 11 36 (by kernel_rfl) (by kernel_rfl) (by kernel_rfl)
      have h2 : a.eval (.tmp 37) = .int .i64 q := T.at_ 12 37 (by kernel_rfl) (by kernel_rfl) (by kernel_rfl)
      refine ⟨#[.agg #[.int .i64 k, .int .i64 n, .string key, .string val, .slice kA m kc], .agg #[.int .u64 hi, .int .u64 lo, .int .i64 f, .int .i64 la, .bool su, .slice sA sn sc], .int .i64 q], by simp only [execOp, resolve, List.map_toArray, List.map_cons, List.map_nil, h0, h1, h2]; simp [go_sem, Act.eval], ?_⟩
      refine (CKR.out w5 (HC.out w5 hr).2).mono fun e w6 hh => ?_
      obtain ⟨rfl, hb6⟩ := hh
      exact ⟨_, rfl, hb6, rfl, fun _ _ h => h, fun j v _ _ _ _ h => JtF.keep h, trivial⟩
    · obtain rfl := Option.some.inj (show some _ = some o from ho)
      refine PI.shown_val_if 5 30 true rfl (by kernel_rfl) (by kernel_rfl) (by kernel_rfl) (fun v w h => h) fun a w5 L0 hr T => ?_
      have h1 : a.eval (.tmp 34) = .bool kv := T.at_ 9 34 (by kernel_rfl) (by kernel_rfl) (by kernel_rfl)
      have h2 : a.eval (.tmp 38) = .bool kv := T.at_ 13 38 (by kernel_rfl) (by kernel_rfl) (by kernel_rfl)
      exact ⟨.bool true, w5, by simp only [execOp, h1, h2]; simp [go_sem, Act.eval], PI.Post.pure ⟨fun w => Below.refl _ w, fun _ _ _ h k => h.trans (k.mono h.size)⟩ rfl trivial⟩
    · obtain rfl := Option.some.inj (show some _ = some o from ho)
      refine PI.shown_val rfl fun a w5 L0 hr T => ?_
      have h0 : a.eval (.tmp 30) = .bool true := T.at_ 5 30 (by kernel_rfl) (by kernel_rfl) (by kernel_rfl)
      have h1 : a.eval (.tmp 39) = .bool true := T.at_ 14 39 (by kernel_rfl) (by kernel_rfl) (by kernel_rfl)
      exact ⟨.bool true, w5, by simp only [execOp, h0, h1]; simp [go_sem, Act.eval], PI.Post.pure ⟨fun w => Below.refl _ w, fun _ _ _ h k => h.trans (k.mono h.size)⟩ rfl trivial⟩
    · obtain rfl := Option.some.inj (show some _ = some o from ho)
      refine PI.shown_val rfl fun a w5 L0 hr T => ?_
      have h1 : a.eval (.tmp 40) = .bool true := T.at_ 15 40 (by kernel_rfl) (by kernel_rfl) (by kernel_rfl)
      exact ⟨.bool true, w5, by simp only [execOp, h1]; simp [go_sem], PI.Post.pure ⟨fun w => Below.refl _ w, fun _ _ _ h k => h.trans (k.mono h.size)⟩ rfl trivial⟩
    · cases ho
  · rw [← hW]
    intro x w9 hr hf he _
    have h16 := hf 16 _ 8 rfl rfl (by decide)
    have hx16 : x 16 = .bool true := h16
    have HB9 := Lib.hid (ST4.out.2.1.trans (hr.mono (Nat.le_trans (by omega) ST4.out.2.2)))
    clear hf he hr h16
    simp only [PI.putAll, Act.put, List.setIfInBounds_toArray, List.set_cons_zero, List.set_cons_succ]
    rw [hx16]
    go_wp2_with fail
    go_ret
    exact ⟨rfl, by rw [HB0.out]; exact HB9.out⟩
end Go.Proofs.Ytenioeppmgmdiaa
