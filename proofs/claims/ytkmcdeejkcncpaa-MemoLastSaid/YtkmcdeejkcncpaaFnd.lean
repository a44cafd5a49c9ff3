/- The first verdict on a trace: the code's answer. -/
import Derived.Test.YtkmcdeejkcncpaaMemo
namespace Go.Proofs.Ytkmcdeejkcncpaa
open Go.RowKit
theorem Vm.find_step (l : List Vm.V) (h t k : Nat) (hk : k < l.length) : Vm.find (l.drop k) h t = if (l[k]).1 = h ∧ (l[k]).2.1 = t then ((l[k]).2.2, true) else Vm.find (l.drop (k + 1)) h t := by
  rw [List.drop_eq_getElem_cons hk]; rfl
theorem tcase (a b h t : Nat) : ((((a : Nat) : Int) == h) = true ∧ ((b : Int) == t) = true ∧ (a = h ∧ b = t)) ∨ (((a : Int) == h) = false ∧ ¬ (a = h ∧ b = t)) ∨ (((a : Int) == h) = true ∧ ((b : Int) == t) = false ∧ ¬ (a = h ∧ b = t)) := by
  by_cases h1 : a = h
  · by_cases h2 : b = t
    · exact .inl (by simp [h1, h2])
    · exact .inr (.inr (by simp [h1, h2]; omega))
  · exact .inr (.inl (by simp [h1]; omega))

set_option maxHeartbeats 2000000 in
set_option maxRecDepth 100000 in
theorem mfind_calls (A : Option Addr) (l : List Vm.V) (n c : Nat) (th tl : Nat) (w : World) (hn : n = l.length) (hb : Rd w w.heap.size A (Vm.encs l)) (hl : l.length ≤ 1000) :
    Calls Try.prog 13 #[.slice A n c, .agg #[.int .u64 th, .int .u64 tl]] w fun e w' =>
      e = .returned (.tuple #[.bool (Vm.find l th tl).1, .bool (Vm.find l th tl).2]) ∧ Below w.heap.size w w' := by
  have HN := Lib.hid hn
  have hn1 : n ≤ 1000 := by omega
  have HR := Lib.hid hb
  clear hn hb
  go_enter Try.func13, Try.ntmps13
  go_wp2
  have hbw : Below w.heap.size w (w.alloc (.cells #[.int .u64 th, .int .u64 tl] 29)) := (Below.refl _ _).alloc (Nat.le_refl _) _
  have hx : ∀ i, (w.alloc (.cells #[.int .u64 th, .int .u64 tl] 29)).cell? ⟨w.heap.size, i, none⟩ = (#[.int .u64 th, .int .u64 tl] : Array Value)[i]? := fun i => cell_of_row _ _ i _ 29 (0, 0) (heap_alloc_new w _)
  have hz1' : (w.alloc (.cells #[.int .u64 th, .int .u64 tl] 29)).heap.size = w.heap.size + 1 := by simp
  have HR1 := Lib.hid (HR.out.below hbw)
  generalize w.alloc (.cells #[.int .u64 th, .int .u64 tl] 29) = W1 at *
  have HBW := Lib.hid hbw
  have hx0 : W1.cell? ⟨w.heap.size, 0, none⟩ = some (.int .u64 th) := hx 0
  have hx1 : W1.cell? ⟨w.heap.size, 1, none⟩ = some (.int .u64 tl) := hx 1
  have HX0 := Lib.hid hx0
  have HX1 := Lib.hid hx1
  have HZ := Lib.hid hz1'
  clear hbw hx hx0 hx1 hz1' HR
  have hBW := HBW.out
  clear HBW
  have HF : Hid (∀ x : World, Below (w.heap.size + 1) W1 x → Below w.heap.size w x) := fun x h => hBW.trans (h.mono (Nat.le_succ _))
  clear hBW
  generalize hB : w.heap.size = B at *
  have HBE := Lib.hid hB
  clear hB
  go_loopw [10] (fun i wr => ∃ k : Nat, i = .int .i64 k ∧ k ≤ n ∧ Hid (Vm.find (l.drop k) th tl = Vm.find l th tl) ∧ Hid (Below (B + 1) W1 wr) ∧ B + 1 ≤ wr.heap.size) (fun i _ => n - (intOf i).toNat)
  case atStart => exact ⟨0, rfl, Nat.zero_le _, rfl, Below.refl _ _, by rw [HZ.out]; exact Nat.le_refl _⟩
  case round =>
    obtain ⟨k, rfl, hk, HQ, HB, hsz⟩ := hrel
    have cx0 : wr.cell? ⟨B, 0, none⟩ = some (.int .u64 th) := (HB.out.cell (p := ⟨B, 0, none⟩) (Nat.lt_succ_self _)).trans HX0.out
    have cx1 : wr.cell? ⟨B, 1, none⟩ = some (.int .u64 tl) := (HB.out.cell (p := ⟨B, 1, none⟩) (Nat.lt_succ_self _)).trans HX1.out
    have a0 : ∀ o, (wr.alloc o).cell? ⟨B, 0, none⟩ = some (.int .u64 th) := fun o => (World.cell?_alloc_lt wr o ⟨B, 0, none⟩ hsz).trans cx0
    have a1 : ∀ o, (wr.alloc o).cell? ⟨B, 1, none⟩ = some (.int .u64 tl) := fun o => (World.cell?_alloc_lt wr o ⟨B, 1, none⟩ hsz).trans cx1
    clear cx0 cx1
    by_cases hlt : k < n
    · have hkl : k < l.length := by have := HN.out; omega
      obtain ⟨b, off, rfl, hbB, c0, c1, c2⟩ := ((HR1.out.more (Nat.le_succ B)).below HB.out).verdict hkl
      have hst := Vm.find_step l th tl k hkl
      generalize l[k] = o at *
      obtain ⟨oh, ol, ok⟩ := o
      simp only at c0 c1 c2 hst
      have HST := Lib.hid hst
      clear hst
      have kk0 : (0 : Int) ≤ (k : Int) := by omega
      have kk1 : (k : Int) < (n : Int) := by omega
      rcases tcase oh ol th tl with ⟨b1, b2, hs⟩ | ⟨b1, hs⟩ | ⟨b1, b2, hs⟩
      · have H2 : Hid (Vm.find l th tl = (ok, true)) := by rw [← HQ.out, HST.out, if_pos hs]; simp [Hid]
        clear HST hs
        go_wp2_with (fail)
        go_ret2
        exact ⟨by rw [H2.out]; rfl, by rw [HBE.out]; exact HF.out _ (HB.out.alloc hsz _)⟩
      all_goals
        have H2 : Hid (Vm.find (l.drop (k + 1)) th tl = Vm.find l th tl) := by rw [← HQ.out, HST.out, if_neg hs]; simp [Hid]
        clear HST hs
        go_wp2_with (fail)
        go_roundw
        case rel => exact ⟨k + 1, by go_num, by omega, H2.out, HB.out.alloc hsz _, by simp; omega⟩
        case measure => simp [intOf]; omega
    · have H3 : Hid (Vm.find l th tl = (false, false)) := by rw [← HQ.out, List.drop_eq_nil_of_le (by have := HN.out; omega)]; simp [Vm.find, Hid]
      clear a0 a1
      go_wp2
      go_ret2
      exact ⟨by rw [H3.out]; rfl, by rw [HBE.out]; exact HF.out _ HB.out⟩

end Go.Proofs.Ytkmcdeejkcncpaa
