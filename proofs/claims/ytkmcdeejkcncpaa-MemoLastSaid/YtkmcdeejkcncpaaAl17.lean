/- The example of chapter 17 holds. -/
import Derived.Test.YtkmcdeejkcncpaaFnd
namespace Go.Proofs.Ytkmcdeejkcncpaa
open Go.RowKit
def Vm.play (l : List Vm.V) (m : Nat) : List Vm.V := l.foldl (fun s v => Vm.put s v m) []
theorem Vm.play_snoc (l : List Vm.V) (m k : Nat) (h : k < l.length) : Vm.play (l.take (k + 1)) m = Vm.put (Vm.play (l.take k) m) l[k] m := by
  unfold Vm.play
  rw [List.take_succ_eq_append_getElem h, List.foldl_append]
  rfl
theorem Vm.put_len (l : List Vm.V) (v : Vm.V) (m : Nat) : (Vm.put l v m).length ≤ l.length + 1 := by
  unfold Vm.put
  rw [List.length_take]
  have := Vm.ahead_len v l
  omega

theorem find0 : Vm.find [] 0 0 = (false, false) := rfl
theorem put0 : Vm.put [] (0, 0, true) (3 : Int).toNat = [(0, 0, true)] := rfl
theorem find1 : Vm.find [(0, 0, true)] 0 0 = (true, true) := rfl

set_option maxHeartbeats 1000000 in
set_option maxRecDepth 100000 in
theorem alive17_calls (w : World) : Calls Try.prog 6 #[] w fun e w' => e = .returned (.bool true) ∧ Below w.heap.size w w' := by
  go_enter Try.func6, Try.ntmps6
  go_wp2_with (first
    | (go_at_call 13; refine (mfind_calls _ [(0, 0, true)] 1 _ 0 0 _ rfl hr2 (by decide)).mono ?_; rw [find1]; rintro e w3 ⟨rfl, hb3⟩; (try simp only []))
    | (go_at_call 7; refine (mput_calls none [] 0 0 (0, 0, true) 3 _ rfl Rd.nil (by decide)).mono ?_; rw [put0]; rintro e w2 ⟨A2, n2, c2, rfl, hn2, hc2, hr2, hb2⟩; simp only [List.length_cons, List.length_nil, Nat.zero_add] at hn2; subst hn2)
    | (go_at_call 13; refine (mfind_calls none [] 0 0 0 0 _ rfl Rd.nil (by decide)).mono ?_; rw [find0]; rintro e w1 ⟨rfl, hb1⟩; (try simp only [])))
  go_ret
  exact ⟨rfl, (hb1.trans (hb2.mono hb1.size)).trans (hb3.mono (Nat.le_trans hb1.size hb2.size))⟩

end Go.Proofs.Ytkmcdeejkcncpaa
