/- MemoPlays: the walk. -/
import Derived.Test.YtecenadpooknnadFind
namespace Go.Proofs.Ytecenadpooknnad
open Go.RowKit
def Vm.play (l : List Vm.V) (m : Nat) : List Vm.V := l.foldl (fun s v => Vm.put s v m) []
theorem Vm.play_snoc (l : List Vm.V) (m k : Nat) (h : k < l.length) : Vm.play (l.take (k + 1)) m = Vm.put (Vm.play (l.take k) m) l[k] m := by
  unfold Vm.play
  rw [List.take_succ_eq_append_getElem h, List.foldl_append]
  rfl
theorem Vm.put_len (l : List Vm.V) (v : Vm.V) (m : Nat) : (Vm.put l v m).length ≤ l.length + 1 := by
  unfold Vm.put
  rw [List.length_take]
  have := Vm.ahead_len v l
  omega

theorem find0 : Vm.find [] 0 0 = (false, false) := rfl
theorem put0 : Vm.put [] (0, 0, true) (3 : Int).toNat = [(0, 0, true)] := rfl
theorem find1 : Vm.find [(0, 0, true)] 0 0 = (true, true) := rfl

set_option maxHeartbeats 1000000 in
set_option maxRecDepth 100000 in
theorem alive17_calls (w : World) : Calls Try.prog 18 #[] w fun e w' => e = .returned (.bool true) ∧ Below w.heap.size w w' := by
  go_enter Try.func18, Try.ntmps18
  go_wp2_with (first
    | (go_at_call 22; refine (mfind_calls _ [(0, 0, true)] 1 _ 0 0 _ rfl hr2 (by decide)).mono ?_; rw [find1]; rintro e w3 ⟨rfl, hb3⟩; (try simp only []))
    | (go_at_call 19; refine (mput_calls none [] 0 0 (0, 0, true) 3 _ rfl Rd.nil (by decide)).mono ?_; rw [put0]; rintro e w2 ⟨A2, n2, c2, rfl, hn2, hc2, hr2, hb2⟩; simp only [List.length_cons, List.length_nil, Nat.zero_add] at hn2; subst hn2)
    | (go_at_call 22; refine (mfind_calls none [] 0 0 0 0 _ rfl Rd.nil (by decide)).mono ?_; rw [find0]; rintro e w1 ⟨rfl, hb1⟩; (try simp only [])))
  go_ret
  exact ⟨rfl, (hb1.trans (hb2.mono hb1.size)).trans (hb3.mono (Nat.le_trans hb1.size hb2.size))⟩

set_option maxHeartbeats 1000000 in
set_option maxRecDepth 100000 in
theorem plays_out (A : Option Addr) (n c : Nat) (m : Int) (th tl : Nat) (w : World) (h : 80 < n) (hn : n ≤ maxLen) :
    Calls Try.prog 5 #[.slice A n c, .int .i64 m, .agg #[.int .u64 th, .int .u64 tl]] w fun e w' => e = .returned (.bool true) ∧ Below w.heap.size w w' := by
  unfold maxLen at hn
  go_enter Try.func5, Try.ntmps5
  go_wp2_with (go_at_call 18; refine (alive17_calls _).mono ?_; rintro e w1 ⟨rfl, hb1⟩)
  go_ret
  refine ⟨rfl, ?_⟩
  exact ((Below.refl _ _).alloc (Nat.le_refl _) _).trans (hb1.mono (by simp))

set_option maxHeartbeats 4000000 in
set_option maxRecDepth 100000 in
theorem plays_in (A : Option Addr) (l : List Vm.V) (n c : Nat) (m : Int) (th tl : Nat) (w : World) (hn : n = l.length) (h : n ≤ 80) (hA : Rd w w.heap.size A (Vm.encs l)) :
    Calls Try.prog 5 #[.slice A n c, .int .i64 m, .agg #[.int .u64 th, .int .u64 tl]] w fun e w' => e = .returned (.bool true) ∧ Below w.heap.size w w' := by
  have HN := Lib.hid hn
  have HA := Lib.hid hA
  clear hn hA
  go_enter Try.func5, Try.ntmps5
  go_wp2_with (go_at_call 18; refine (alive17_calls _).mono ?_; rintro e w1 ⟨rfl, hb1⟩; have B1 := Lib.hid hb1; clear hb1)
  have hbw : Below w.heap.size w (w.alloc (.cells #[.int .u64 th, .int .u64 tl] 27)) := (Below.refl _ _).alloc (Nat.le_refl _) _
  have hx : ∀ i, (w.alloc (.cells #[.int .u64 th, .int .u64 tl] 27)).cell? ⟨w.heap.size, i, none⟩ = (#[.int .u64 th, .int .u64 tl] : Array Value)[i]? := fun i => cell_of_row _ _ i _ 27 (0, 0) (heap_alloc_new w _)
  have hz1' : (w.alloc (.cells #[.int .u64 th, .int .u64 tl] 27)).heap.size = w.heap.size + 1 := by simp
  have HR1 := Lib.hid (HA.out.below hbw)
  generalize w.alloc (.cells #[.int .u64 th, .int .u64 tl] 27) = W1 at *
  have B2 := B1.out
  rw [hz1'] at B2
  have hx0 : W1.cell? ⟨w.heap.size, 0, none⟩ = some (.int .u64 th) := hx 0
  have hx1 : W1.cell? ⟨w.heap.size, 1, none⟩ = some (.int .u64 tl) := hx 1
  have hf : ∀ x : World, Below (w.heap.size + 1) W1 x → Below w.heap.size w x := fun x h => hbw.trans (h.mono (Nat.le_succ _))
  have hg0 : ∀ x : World, Below (w.heap.size + 1) W1 x → x.cell? ⟨w.heap.size, 0, none⟩ = some (.int .u64 th) := fun x h => (h.cell (p := ⟨w.heap.size, 0, none⟩) (Nat.lt_succ_self _)).trans hx0
  have hg1 : ∀ x : World, Below (w.heap.size + 1) W1 x → x.cell? ⟨w.heap.size, 1, none⟩ = some (.int .u64 tl) := fun x h => (h.cell (p := ⟨w.heap.size, 1, none⟩) (Nat.lt_succ_self _)).trans hx1
  have HF := Lib.hid hf
  have HG0 := Lib.hid hg0
  have HG1 := Lib.hid hg1
  have hs1 : w.heap.size + 1 ≤ w1.heap.size := by have := B2.size; rw [hz1'] at this; exact this
  have HB1 := Lib.hid B2
  have HRS := Lib.hid (HR1.out.more (Nat.le_succ w.heap.size))
  clear B1 B2 hbw hx hx0 hx1 hz1' hf hg0 hg1 HA HR1
  generalize hB : w.heap.size = B at *
  have HBE := Lib.hid hB
  clear hB
  go_loopw [8, 9, 10] (fun a b i wr => ∃ (k q c1 c2 : Nat) (A1 A2 : Option Addr), i = .int .i64 k ∧ k ≤ n ∧ a = .slice A1 q c1 ∧ b = .slice A2 q c2 ∧ Hid (q = (Vm.play (l.take k) m.toNat).length) ∧ q ≤ k ∧ Hid (Rd wr wr.heap.size A1 (Vm.encs (Vm.play (l.take k) m.toNat))) ∧ Hid (Rd wr wr.heap.size A2 (Vm.encs (Vm.play (l.take k) m.toNat))) ∧ Hid (Below (B + 1) W1 wr) ∧ B + 1 ≤ wr.heap.size) (fun _ _ i _ => n - (intOf i).toNat)
  case atStart => exact ⟨0, 0, 0, 0, none, none, rfl, Nat.zero_le _, rfl, rfl, rfl, Nat.le_refl _, Rd.nil, Rd.nil, HB1.out, hs1⟩
  case round =>
    clear HB1 hs1
    obtain ⟨k, q, c1, c2, A1, A2, rfl, hk, rfl, rfl, HQ, hq, HR1, HR2, HB, hsz⟩ := hrel
    by_cases hlt : k < n
    · have hkl : k < l.length := by have := HN.out; omega
      have hst := Vm.play_snoc l m.toNat k hkl
      obtain ⟨b, off, rfl, hbB, c0, d0, e0⟩ := (HRS.out.below HB.out).verdict hkl
      generalize l[k] = o at *
      obtain ⟨oh, ol, ok⟩ := o
      simp only at c0 d0 e0
      have hpl := Vm.put_len (Vm.play (l.take k) m.toNat) (oh, ol, ok) m.toNat
      have HST := Lib.hid hst
      clear hst
      have kk0 : (0 : Int) ≤ (k : Int) := by omega
      have kk1 : (k : Int) < (n : Int) := by omega
      generalize Vm.play (l.take k) m.toNat = P at *
      generalize hP2 : Vm.put P (oh, ol, ok) m.toNat = P2 at *
      have HP2 := Lib.hid hP2
      have HPL := Lib.hid hpl
      clear hP2 hpl
      go_wp2_with (first
        | (go_at_call 19; refine (mput_calls _ P _ _ (oh, ol, ok) m _ HQ.out HR1.out (by have := HQ.out; omega)).mono ?_; rw [HP2.out]; rintro e w2 ⟨A3, n3, c3, rfl, hn3, hc3, hr3, hb3⟩; have HN3 := Lib.hid hn3; have HR3 := Lib.hid hr3; have HB3 := Lib.hid (HB.out.trans (hb3.mono hsz)); have c0' : w2.cell? ⟨b, off + k * 3, none⟩ = _ := (hb3.cell (p := ⟨b, off + k * 3, none⟩) (Nat.lt_of_lt_of_le hbB hsz)).trans c0; have d0' : w2.cell? ⟨b, off + k * 3 + 1, none⟩ = _ := (hb3.cell (p := ⟨b, off + k * 3 + 1, none⟩) (Nat.lt_of_lt_of_le hbB hsz)).trans d0; have e0' : w2.cell? ⟨b, off + k * 3 + 2, none⟩ = _ := (hb3.cell (p := ⟨b, off + k * 3 + 2, none⟩) (Nat.lt_of_lt_of_le hbB hsz)).trans e0; have HR4 := Lib.hid ((HR2.out.below hb3).more hb3.size); have hs3 : B + 1 ≤ w2.heap.size := Nat.le_trans hsz hb3.size; clear hn3 hr3 hb3)
        | (go_at_call 20; refine (rmput_calls _ P _ _ (oh, ol, ok) m _ HQ.out HR4.out (by have := HQ.out; omega)).mono ?_; rw [HP2.out]; rintro e w3 ⟨A4, n4, c4, rfl, hn4, hc4, hr4, hb4⟩; obtain rfl : n4 = n3 := hn4.trans HN3.out.symm; have HR5 := Lib.hid ((HR3.out.below hb4).more hb4.size); have HR6 := Lib.hid hr4; have HB4 := Lib.hid (HB3.out.trans (hb4.mono hs3)); have hs4 : B + 1 ≤ w3.heap.size := Nat.le_trans hs3 hb4.size; clear hn4 hr4 hb4)
        | (go_at_call 21; refine (sameV_calls _ _ P2 _ _ _ _ HN3.out HR5.out HR6.out (by have := HPL.out; have := HQ.out; omega)).mono ?_; rintro e w4 ⟨rfl, hb5⟩; have HR7 := Lib.hid ((HR5.out.below hb5).more hb5.size); have HR8 := Lib.hid ((HR6.out.below hb5).more hb5.size); have HB5 := Lib.hid (HB4.out.trans (hb5.mono hs4)); have hs5 : B + 1 ≤ w4.heap.size := Nat.le_trans hs4 hb5.size; clear hb5))
      go_roundw
      case rel => exact ⟨k + 1, _, _, _, _, _, by go_num, by omega, rfl, rfl, by rw [HST.out]; exact HN3.out, by have := HN3.out; have := HPL.out; have := HQ.out; omega, by rw [HST.out]; exact HR7.out, by rw [HST.out]; exact HR8.out, HB5.out, hs5⟩
      case measure => simp [intOf]; omega
    · obtain rfl : k = n := by omega
      have ht : l.take k = l := List.take_of_length_le (by have := HN.out; omega)
      rw [ht] at HQ HR1 HR2
      clear ht
      have HL := Lib.hid ((HRS.out.below HB.out).more hsz)
      generalize Vm.play l m.toNat = P at *
      have hc0 := HG0.out _ HB.out
      have hc1 := HG1.out _ HB.out
      obtain ⟨x1, hx1⟩ : ∃ x, x = Vm.find P th tl := ⟨_, rfl⟩
      obtain ⟨x2, hx2⟩ : ∃ x, x = Vm.find l th tl := ⟨_, rfl⟩
      obtain ⟨x1a, x1b⟩ := x1
      obtain ⟨x2a, x2b⟩ := x2
      have X1 := Lib.hid hx1
      have X2 := Lib.hid hx2
      clear hx1 hx2
      go_wp2_with (first
        | (go_at_call 23; refine (rfind_calls _ l _ _ th tl _ HN.out HL4.out (by have := HN.out; omega)).mono ?_; rw [← X2.out]; rintro e w5 ⟨rfl, hb5⟩; (try simp only []); have HB5 := Lib.hid (HB4.out.trans (hb5.mono hs4)); clear hb5)
        | (go_at_call 22; refine (mfind_calls _ l _ _ th tl _ HN.out HL3.out (by have := HN.out; omega)).mono ?_; rw [← X2.out]; rintro e w4 ⟨rfl, hb4⟩; (try simp only []); have HB4 := Lib.hid (HB3.out.trans (hb4.mono hs3)); have hs4 : B + 1 ≤ w4.heap.size := Nat.le_trans hs3 hb4.size; have h40 := HG0.out _ HB4.out; have h41 := HG1.out _ HB4.out; have HL4 := Lib.hid ((HL3.out.below hb4).more hb4.size); clear hb4)
        | (go_at_call 23; refine (rfind_calls _ P _ _ th tl _ HQ.out HR3.out (by have := HQ.out; omega)).mono ?_; rw [← X1.out]; rintro e w3 ⟨rfl, hb3⟩; (try simp only []); have HB3 := Lib.hid (HB2.out.trans (hb3.mono hs2)); have hs3 : B + 1 ≤ w3.heap.size := Nat.le_trans hs2 hb3.size; have h30 := HG0.out _ HB3.out; have h31 := HG1.out _ HB3.out; have HL3 := Lib.hid ((HL2.out.below hb3).more hb3.size); clear hb3)
        | (go_at_call 22; refine (mfind_calls _ P _ _ th tl _ HQ.out HR1.out (by have := HQ.out; omega)).mono ?_; rw [← X1.out]; rintro e w2 ⟨rfl, hb2⟩; (try simp only []); have HB2 := Lib.hid (HB.out.trans (hb2.mono hsz)); have hs2 : B + 1 ≤ w2.heap.size := Nat.le_trans hsz hb2.size; have h20 := HG0.out _ HB2.out; have h21 := HG1.out _ HB2.out; have HR3 := Lib.hid ((HR2.out.below hb2).more hb2.size); have HL2 := Lib.hid ((HL.out.below hb2).more hb2.size); clear hb2))
      go_ret
      exact ⟨by simp, by rw [HBE.out]; exact HF.out _ HB5.out⟩

end Go.Proofs.Ytecenadpooknnad
