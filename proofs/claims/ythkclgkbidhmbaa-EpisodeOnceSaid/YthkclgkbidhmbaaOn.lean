/- Add where the span is of the episode's trace: had or new, in one. -/
import Derived.Test.YthkclgkbidhmbaaEm
namespace Go.Proofs.Ythkclgkbidhmbaa
open Go.RowKit Go.Maps
set_option linter.unusedVariables false
set_option maxRecDepth 100000

theorem add_same (hi lo f la : Int) (su : Bool) (A : Option Addr) (l : List Ls) (n c : Nat) (x2 x3 : Int) (x4 x5 : ByteArray) (x6 x7 : Int) (x8 : Bool) (xA : Option Addr) (m xc : Nat) (ats : List (ByteArray × ByteArray)) (now : Int) (B : Nat) (w : World)
    (hn : n = l.length) (hy : RdSps w B A l) (hm : m = ats.length) (hx : RdL w B ⟨⟨hi, lo, x2, x3, x4, x5, x6, x7, x8, ats⟩, xA, xc⟩) (hB : B ≤ w.heap.size) (hl : n ≤ 90000) (ha : ∀ x ∈ l, x.s.ats.length ≤ 100000) (hml : m ≤ 100000) :
    Calls Try.prog 40 #[.agg #[.int .u64 hi, .int .u64 lo, .int .i64 f, .int .i64 la, .bool su, .slice A n c], .agg #[.int .u64 hi, .int .u64 lo, .int .u64 x2, .int .u64 x3, .string x4, .string x5, .int .i64 x6, .int .i64 x7, .bool x8, .slice xA m xc], .int .i64 now] w
      (AddEp hi lo f now su (if hasId (l.map Ls.s) x2 then l.map Ls.s else l.map Ls.s ++ [⟨hi, lo, x2, x3, x4, x5, x6, x7, x8, ats⟩]) (!hasId (l.map Ls.s) x2) w) := by
  cases hh : hasId (l.map Ls.s) x2
  · simpa using add_new hi lo f la su A l n c x2 x3 x4 x5 x6 x7 x8 xA m xc ats now B w hn hy hm hx hB hl ha hml hh
  · simpa using add_had hi lo f la su A l n c x2 x3 x4 x5 x6 x7 x8 xA m xc ats now B w hn hy hm hx hB hl ha hml hh
/-- A step of the law's loop: the episode before, the episode behind it, what is expected. -/
theorem Once.step {g : Nat → Int} {i : Nat} {a : List Sp × List Int} {cur : List Sp} {want : List Int} (h : Once g i (cur.foldl spn a) want) (s : Sp) (h1 : s.id = g i) (h2 : s.st = (i : Int)) :
    Once g (i + 1) ((if hasId cur s.id then cur else cur ++ [s]).foldl spn a) (if g i ∈ want then want else want ++ [g i]) := by
  by_cases hh : hasId cur s.id = true
  · rw [if_pos hh, if_pos (h1 ▸ h.has hh)]
    exact h.had
  · rw [if_neg hh, List.foldl_append]
    exact h.more s h1 h2
end Go.Proofs.Ythkclgkbidhmbaa
