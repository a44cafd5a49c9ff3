/- Plain mathematics of quantiles: sums of buckets that go no further than the greatest number, and the first bucket with which enough are counted. No Go in sight. -/
import Derived.Test.YtkhhcnpmobgdgaaDoorBm
namespace Go.Proofs.YtkhhcnpmobgdgaaDoor.Qm
/-- How many the first k buckets counted. -/
def tot (x : List Int) : Nat → Int
  | 0 => 0
  | k + 1 => Bm.plus (tot x k) (x.getD (2 + k) 0)
theorem plus_bd (a b : Int) (hb : b ≤ 9223372036854775807) : 0 ≤ Bm.plus a b ∧ (a ≤ 9223372036854775807 → Bm.plus a b ≤ 9223372036854775807) := by
  unfold Bm.plus
  split <;> constructor <;> (try intro _) <;> omega
theorem tot_bd (x : List Int) (hx : ∀ i, x.getD i 0 ≤ 9223372036854775807) : ∀ k, 0 ≤ tot x k ∧ tot x k ≤ 9223372036854775807
  | 0 => ⟨by unfold tot; omega, by unfold tot; omega⟩
  | k + 1 => by
    have h := tot_bd x hx k
    have p := plus_bd (tot x k) (x.getD (2 + k) 0) (hx _)
    exact ⟨p.1, p.2 h.2⟩
/-- Is a times b at least c times d? -/
def atl (a b c d : Int) : Bool := decide (c * d ≤ a * b)
/-- Are p thousandths counted with the first k + 1 buckets? -/
def hit (x : List Int) (p : Int) (k : Nat) : Bool := decide (1 ≤ tot x (k + 1)) && atl (tot x (k + 1)) 1000 (tot x 8) p
def lows : List Int := [0, 1, 5, 10, 50, 100, 500, 1000]
/-- The first bucket of which that holds, among those from k on. -/
def first (x : List Int) (p : Int) (k : Nat) : Nat → Option Nat
  | 0 => none
  | n + 1 => if hit x p k then some k else first x p (k + 1) n
/-- What Quantile answers. -/
def quant (x : List Int) (p : Int) : Int × Bool :=
  if tot x 8 = 0 ∨ p < 0 ∨ 1000 < p then (0, false)
  else match first x p 0 8 with
    | some k => (lows.getD k 0, true)
    | none => (0, false)
theorem first_step_hit (x : List Int) (p : Int) (k n : Nat) (h : hit x p k = true) : first x p k (n + 1) = some k := by simp [first, h]
theorem first_step_no (x : List Int) (p : Int) (k n : Nat) (h : hit x p k = false) : first x p k (n + 1) = first x p (k + 1) n := by simp [first, h]
end Go.Proofs.YtkhhcnpmobgdgaaDoor.Qm
