/- BufferTells: Put, Oldest, Close, Count answer as the document does. -/
import Derived.Test.YtenioeppmgmdiaaOu
import Derived.Test.YtenioeppmgmdiaaFe
namespace Go.Proofs.Ytenioeppmgmdiaa
open Go.RowKit
set_option linter.unusedVariables false
set_option linter.unusedSimpArgs false
set_option maxRecDepth 100000

theorem GoodEps.modT {l : List Le} (h : GoodEps l) : ModE l := ⟨by have := h.1; omega, fun e he => ⟨Nat.le_trans (fewAll_len (h.2 e he)) (by omega), fun x hx => Nat.le_trans (fewAll_ats (h.2 e he) x hx) (by omega)⟩⟩
theorem putE_len (M : Nat) : ∀ (L : List Ep) (s : Sp) (now : Int) (sure : Bool), (∀ e ∈ L, e.l.length ≤ M) → (putE L s now sure).length ≤ L.length + 1 ∧ ∀ e ∈ putE L s now sure, e.l.length ≤ M + 1
  | [], s, now, sure, _ => by
    unfold putE
    exact ⟨by simp, fun e he => by rw [List.mem_singleton] at he; subst he; simp⟩
  | x :: r, s, now, sure, h => by
    unfold putE
    split
    · refine ⟨by simp, fun e he => ?_⟩
      rcases List.mem_cons.1 he with rfl | he
      · have := h x (List.mem_cons_self ..)
        simp only
        split
        · omega
        · simp; omega
      · have := h e (List.mem_cons_of_mem _ he)
        omega
    · obtain ⟨h1, h2⟩ := putE_len M r s now sure (fun e he => h e (List.mem_cons_of_mem _ he))
      refine ⟨by simp only [List.length_cons]; omega, fun e he => ?_⟩
      rcases List.mem_cons.1 he with rfl | he
      · have := h _ (List.mem_cons_self ..)
        omega
      · exact h2 e he
/-- What lies there is as long as what it says. -/
theorem eps_len {M : Nat} {l : List Le} {L : List Ep} (h : l.map Le.ep = L) (hL : ∀ e ∈ L, e.l.length ≤ M) : ∀ e ∈ l, e.l.length ≤ M := fun e he => by
  have h1 : e.ep ∈ L := by rw [← h]; exact List.mem_map_of_mem he
  have h2 := hL _ h1
  simpa [Le.ep] using h2
def BtF (A : Option Addr) (n c : Nat) (N1 now : Int) (sure okb : Bool) (CS C1 C2 : Array Value) (aA bA pA uA qA vA : Option Addr) (am ac bc pm pc uc qm qc vc : Nat) (LL LP : List Ep) (y1 y2 : Le) : Nat → Value → World → Prop
  | 0, v, _ => v = .slice A n c
  | 1, v, _ => v = .int .i64 N1
  | 2, v, _ => v = .slice A n c
  | 3, v, _ => v = .int .i64 N1
  | 4, v, _ => v = .bool true
  | 5, v, _ => v = .bool true
  | 6, v, _ => v = .slice A n c
  | 7, v, w => ∃ (a : Option Addr) (k B : Nat) (l' : List Le), v = .slice a l'.length k ∧ B ≤ w.heap.size ∧ RdEps w B a l' ∧ l'.map Le.ep = LL
  | 8, v, _ => v = .agg CS
  | 9, v, _ => v = .int .i64 now
  | 10, v, _ => v = .bool sure
  | 11, v, w => ∃ (a : Option Addr) (k B : Nat) (l' : List Le), v = .slice a l'.length k ∧ B ≤ w.heap.size ∧ RdEps w B a l' ∧ l'.map Le.ep = LP
  | 12, v, _ => v = .slice A n c
  | 13, v, _ => v = .agg CS
  | 14, v, _ => v = .int .i64 now
  | 15, v, _ => v = .bool sure
  | 16, v, w => ∃ (a : Option Addr) (k B : Nat) (l' : List Le), v = .slice a l'.length k ∧ B ≤ w.heap.size ∧ RdEps w B a l' ∧ l'.map Le.ep = LP
  | 17, v, _ => v = .bool true
  | 18, v, _ => v = .bool true
  | 19, v, _ => v = .bool true
  | 20, v, _ => v = .bool okb
  | 21, v, _ => v = .bool okb
  | 22, v, _ => v = .bool true
  | 23, v, _ => v = .bool true
  | 24, v, _ => v = .bool true
  | 25, v, _ => v = .slice aA am ac
  | 26, v, _ => v = .slice bA am bc
  | 27, v, _ => v = .bool true
  | 28, v, _ => v = .bool true
  | 29, v, _ => v = .bool true
  | 30, v, _ => v = .agg C1
  | 31, v, w => ∃ (a : Addr) (B : Nat), v = .slice (some a) 1 1 ∧ B ≤ w.heap.size ∧ RdEps w B (some a) [y1]
  | 32, v, _ => v = .agg C2
  | 33, v, w => ∃ (a : Addr) (B : Nat), v = .slice (some a) 1 1 ∧ B ≤ w.heap.size ∧ RdEps w B (some a) [y2]
  | 34, v, _ => v = .bool true
  | 35, v, _ => v = .bool true
  | 36, v, _ => v = .bool true
  | 37, v, _ => v = .slice pA pm pc
  | 38, v, _ => v = .slice uA pm uc
  | 39, v, _ => v = .bool true
  | 40, v, _ => v = .bool true
  | 41, v, _ => v = .bool true
  | 42, v, _ => v = .slice qA qm qc
  | 43, v, _ => v = .slice vA qm vc
  | 44, v, _ => v = .bool true
  | 45, v, _ => v = .bool true
  | 46, v, _ => v = .bool true
  | _, _, _ => True
theorem BtF.keep {A : Option Addr} {n c : Nat} {N1 now : Int} {sure okb : Bool} {CS C1 C2 : Array Value} {aA bA pA uA qA vA : Option Addr} {am ac bc pm pc uc qm qc vc : Nat} {LL LP : List Ep} {y1 y2 : Le} {w w' : World} {i : Nat} {v : Value} (hb : Below w.heap.size w w') (h : BtF A n c N1 now sure okb CS C1 C2 aA bA pA uA qA vA am ac bc pm pc uc qm qc vc LL LP y1 y2 i v w) : BtF A n c N1 now sure okb CS C1 C2 aA bA pA uA qA vA am ac bc pm pc uc qm qc vc LL LP y1 y2 i v w' := by
  match i, h with
  | 0, h => exact h
  | 1, h => exact h
  | 2, h => exact h
  | 3, h => exact h
  | 4, h => exact h
  | 5, h => exact h
  | 6, h => exact h
  | 7, h => obtain ⟨a, k, B, l, h1, h2, h3, h4⟩ := h; exact ⟨a, k, B, l, h1, Nat.le_trans h2 hb.size, h3.below (hb.mono h2), h4⟩
  | 8, h => exact h
  | 9, h => exact h
  | 10, h => exact h
  | 11, h => obtain ⟨a, k, B, l, h1, h2, h3, h4⟩ := h; exact ⟨a, k, B, l, h1, Nat.le_trans h2 hb.size, h3.below (hb.mono h2), h4⟩
  | 12, h => exact h
  | 13, h => exact h
  | 14, h => exact h
  | 15, h => exact h
  | 16, h => obtain ⟨a, k, B, l, h1, h2, h3, h4⟩ := h; exact ⟨a, k, B, l, h1, Nat.le_trans h2 hb.size, h3.below (hb.mono h2), h4⟩
  | 17, h => exact h
  | 18, h => exact h
  | 19, h => exact h
  | 20, h => exact h
  | 21, h => exact h
  | 22, h => exact h
  | 23, h => exact h
  | 24, h => exact h
  | 25, h => exact h
  | 26, h => exact h
  | 27, h => exact h
  | 28, h => exact h
  | 29, h => exact h
  | 30, h => exact h
  | 31, h => obtain ⟨a, B, h1, h2, h3⟩ := h; exact ⟨a, B, h1, Nat.le_trans h2 hb.size, h3.below (hb.mono h2)⟩
  | 32, h => exact h
  | 33, h => obtain ⟨a, B, h1, h2, h3⟩ := h; exact ⟨a, B, h1, Nat.le_trans h2 hb.size, h3.below (hb.mono h2)⟩
  | 34, h => exact h
  | 35, h => exact h
  | 36, h => exact h
  | 37, h => exact h
  | 38, h => exact h
  | 39, h => exact h
  | 40, h => exact h
  | 41, h => exact h
  | 42, h => exact h
  | 43, h => exact h
  | 44, h => exact h
  | 45, h => exact h
  | 46, h => exact h
  | _ + 47, h => trivial
set_option maxHeartbeats 64000000 in
theorem tells16 (A : Option Addr) (l : List Le) (n c : Nat) (x0 x1 x2 x3 : Int) (x4 x5 : ByteArray) (x6 x7 : Int) (x8 : Bool) (ats : List (ByteArray × ByteArray)) (xA : Option Addr) (m xc : Nat) (now : Int) (sure : Bool) (idle age : Int) (w : World)
    (hn : n = l.length) (hy : RdEps w w.heap.size A l) (ho : ∀ e ∈ l, e.ok) (hnc : n ≤ c) (hcm : c ≤ maxLen) (hm : m = ats.length) (hx : RdL w w.heap.size ⟨⟨x0, x1, x2, x3, x4, x5, x6, x7, x8, ats⟩, xA, xc⟩) (hnow : -9223372036854775808 ≤ now ∧ now ≤ 9223372036854775807) :
    Calls Try.prog 6 #[.slice A n c, .agg #[.int .u64 x0, .int .u64 x1, .int .u64 x2, .int .u64 x3, .string x4, .string x5, .int .i64 x6, .int .i64 x7, .bool x8, .slice xA m xc], .int .i64 now, .bool sure, .int .i64 idle, .int .i64 age] w fun e w' => e = .returned (.bool true) ∧ Below w.heap.size w w' := by
  have HB0 : Hid (Below w.heap.size w (w.alloc (.cells #[.int .u64 x0, .int .u64 x1, .int .u64 x2, .int .u64 x3, .string x4, .string x5, .int .i64 x6, .int .i64 x7, .bool x8, .slice xA m xc] 42))) := Lib.hid ((Below.refl _ _).alloc (Nat.le_refl _) _)
  have HZ0 : Hid ((w.alloc (.cells #[.int .u64 x0, .int .u64 x1, .int .u64 x2, .int .u64 x3, .string x4, .string x5, .int .i64 x6, .int .i64 x7, .bool x8, .slice xA m xc] 42)).heap.size = w.heap.size + 1) := Lib.hid (by simp)
  have HBXS : Hid (∀ W, Below (w.alloc (.cells #[.int .u64 x0, .int .u64 x1, .int .u64 x2, .int .u64 x3, .string x4, .string x5, .int .i64 x6, .int .i64 x7, .bool x8, .slice xA m xc] 42)).heap.size (w.alloc (.cells #[.int .u64 x0, .int .u64 x1, .int .u64 x2, .int .u64 x3, .string x4, .string x5, .int .i64 x6, .int .i64 x7, .bool x8, .slice xA m xc] 42)) W → W.heap[w.heap.size]? = some (.cells #[.int .u64 x0, .int .u64 x1, .int .u64 x2, .int .u64 x3, .string x4, .string x5, .int .i64 x6, .int .i64 x7, .bool x8, .slice xA m xc] 42 (0, 0))) := Lib.hid (fun W h => (h.block _ (by rw [HZ0.out]; omega)).trans (heap_alloc_new w _))
  have HWB : Hid (∀ W, Below (w.alloc (.cells #[.int .u64 x0, .int .u64 x1, .int .u64 x2, .int .u64 x3, .string x4, .string x5, .int .i64 x6, .int .i64 x7, .bool x8, .slice xA m xc] 42)).heap.size (w.alloc (.cells #[.int .u64 x0, .int .u64 x1, .int .u64 x2, .int .u64 x3, .string x4, .string x5, .int .i64 x6, .int .i64 x7, .bool x8, .slice xA m xc] 42)) W → Below w.heap.size w W ∧ w.heap.size ≤ W.heap.size) := Lib.hid (fun W h => ⟨HB0.out.trans (h.mono (by rw [HZ0.out]; omega)), Nat.le_trans (by rw [HZ0.out]; omega) h.size⟩)
  have HFW : Hid (∀ W, Below (w.alloc (.cells #[.int .u64 x0, .int .u64 x1, .int .u64 x2, .int .u64 x3, .string x4, .string x5, .int .i64 x6, .int .i64 x7, .bool x8, .slice xA m xc] 42)).heap.size (w.alloc (.cells #[.int .u64 x0, .int .u64 x1, .int .u64 x2, .int .u64 x3, .string x4, .string x5, .int .i64 x6, .int .i64 x7, .bool x8, .slice xA m xc] 42)) W → Calls Try.prog 18 #[.slice A n c] W (FewEp l W)) := Lib.hid (fun W hW => few15_any A l n c w.heap.size W hn (hy.below (HWB.out W hW).1) ho (HWB.out W hW).2 (Nat.le_trans hnc hcm))
  have HF3 : Hid (∀ W, Below (w.alloc (.cells #[.int .u64 x0, .int .u64 x1, .int .u64 x2, .int .u64 x3, .string x4, .string x5, .int .i64 x6, .int .i64 x7, .bool x8, .slice xA m xc] 42)).heap.size (w.alloc (.cells #[.int .u64 x0, .int .u64 x1, .int .u64 x2, .int .u64 x3, .string x4, .string x5, .int .i64 x6, .int .i64 x7, .bool x8, .slice xA m xc] 42)) W → Calls Try.prog 19 #[.agg #[.int .u64 x0, .int .u64 x1, .int .u64 x2, .int .u64 x3, .string x4, .string x5, .int .i64 x6, .int .i64 x7, .bool x8, .slice xA m xc]] W fun e w' => e = .returned (.bool (few ⟨x0, x1, x2, x3, x4, x5, x6, x7, x8, ats⟩)) ∧ Below W.heap.size W w') := Lib.hid (fun W hW => by
    have h := few_any ⟨⟨x0, x1, x2, x3, x4, x5, x6, x7, x8, ats⟩, xA, xc⟩ w.heap.size W (hx.below (HWB.out W hW).1) (HWB.out W hW).2
    rw [hm]
    exact h)
  have HN := Lib.hid hn
  have HY := Lib.hid hy
  have HM := Lib.hid hm
  have HX := Lib.hid hx
  have HOK := Lib.hid ho
  have HNW := Lib.hid hnow
  have HC := Lib.hid (And.intro hnc hcm)
  clear hn hy ho hm hx hnow hnc hcm
  go_enter Try.func6, Try.ntmps6
  go_wp2_with fail
  refine (alive16_calls _).mono ?_
  rintro e w1 ⟨rfl, hb1⟩
  have HB1 := Lib.hid hb1
  clear hb1
  go_wp2_with fail
  refine (HFW.out w1 HB1.out).mono ?_
  rintro e w2 ⟨fb, rfl, hfb, hb2⟩
  have HB2 := Lib.hid (HB1.out.trans (hb2.mono HB1.out.size))
  have HGO := Lib.hid hfb
  clear hb2 hfb HB1 HFW
  cases fb
  · go_wp2_with fail
    go_ret
    exact ⟨rfl, (HWB.out _ HB2.out).1⟩
  have HGD := Lib.hid (HGO.out rfl)
  have w2s0 : w2.cell? ⟨w.heap.size, 0, none⟩ = some (.int .u64 x0) := cell_of_row _ _ 0 _ _ (0, 0) (HBXS.out w2 HB2.out)
  have w2s1 : w2.cell? ⟨w.heap.size, 1, none⟩ = some (.int .u64 x1) := cell_of_row _ _ 1 _ _ (0, 0) (HBXS.out w2 HB2.out)
  have w2s2 : w2.cell? ⟨w.heap.size, 2, none⟩ = some (.int .u64 x2) := cell_of_row _ _ 2 _ _ (0, 0) (HBXS.out w2 HB2.out)
  have w2s3 : w2.cell? ⟨w.heap.size, 3, none⟩ = some (.int .u64 x3) := cell_of_row _ _ 3 _ _ (0, 0) (HBXS.out w2 HB2.out)
  have w2s4 : w2.cell? ⟨w.heap.size, 4, none⟩ = some (.string x4) := cell_of_row _ _ 4 _ _ (0, 0) (HBXS.out w2 HB2.out)
  have w2s5 : w2.cell? ⟨w.heap.size, 5, none⟩ = some (.string x5) := cell_of_row _ _ 5 _ _ (0, 0) (HBXS.out w2 HB2.out)
  have w2s6 : w2.cell? ⟨w.heap.size, 6, none⟩ = some (.int .i64 x6) := cell_of_row _ _ 6 _ _ (0, 0) (HBXS.out w2 HB2.out)
  have w2s7 : w2.cell? ⟨w.heap.size, 7, none⟩ = some (.int .i64 x7) := cell_of_row _ _ 7 _ _ (0, 0) (HBXS.out w2 HB2.out)
  have w2s8 : w2.cell? ⟨w.heap.size, 8, none⟩ = some (.bool x8) := cell_of_row _ _ 8 _ _ (0, 0) (HBXS.out w2 HB2.out)
  have w2s9 : w2.cell? ⟨w.heap.size, 9, none⟩ = some (.slice xA m xc) := cell_of_row _ _ 9 _ _ (0, 0) (HBXS.out w2 HB2.out)
  go_wp2_with fail
  refine (HF3.out w2 HB2.out).mono ?_
  rintro e w3 ⟨rfl, hb3⟩
  have HB3 := Lib.hid (HB2.out.trans (hb3.mono HB2.out.size))
  clear hb3 HGO
  cases hfw : few ⟨x0, x1, x2, x3, x4, x5, x6, x7, x8, ats⟩
  · go_wp2_with fail
    go_ret
    exact ⟨rfl, (HWB.out _ HB3.out).1⟩
  have hm20 : m ≤ 100000 := by
    have h : fewAll [(⟨⟨x0, x1, x2, x3, x4, x5, x6, x7, x8, ats⟩, xA, xc⟩ : Ls)] = true := by unfold fewAll; simp [hfw]
    have := fewAll_ats h _ (List.mem_singleton.2 rfl)
    rw [HM.out]
    exact Nat.le_trans this (by omega)
  have hn120 : n ≤ 120 := by rw [HN.out]; exact HGD.out.1
  obtain ⟨okb, LO, EO, hLO, hEO, hLE, hOLD⟩ := olds_any A l n c w.heap.size w HN.out HY.out HGD.out.modT HC.out.1 HC.out.2
  obtain ⟨LU, LV, hLU, hLV, hLUn, hLVn, hCLO⟩ := closes_any A l n c w.heap.size now idle age w HN.out HY.out HGD.out.modT HOK.out HNW.out
  have HOLD := Lib.hid hOLD
  have HCLO := Lib.hid hCLO
  have HLL : Hid (∀ x ∈ l, x.l.length ≤ 1000000) := Lib.hid (fun x hx => Nat.le_trans (fewAll_len (HGD.out.2 x hx)) (by omega))
  have HLO : Hid (LO.length ≤ n ∧ ∀ e ∈ LO, e.l.length ≤ 1000000) := Lib.hid ⟨hLO, fun e he => by obtain ⟨x, hx, rfl⟩ := hLE e he; simpa [Le.ep] using HLL.out x hx⟩
  have HLU : Hid (LU.length ≤ n ∧ ∀ e ∈ LU, e.l.length ≤ 1000000) := Lib.hid ⟨hLUn, fun e he => by obtain ⟨x, hx, rfl⟩ := hLU e he; simpa [Le.ep] using HLL.out x hx⟩
  have HLV : Hid (LV.length ≤ n ∧ ∀ e ∈ LV, e.l.length ≤ 1000000) := Lib.hid ⟨hLVn, fun e he => by obtain ⟨x, hx, rfl⟩ := hLV e he; simpa [Le.ep] using HLL.out x hx⟩
  have HEO : Hid (EO.l.length ≤ 1000000) := Lib.hid (by
    rcases hEO with h | ⟨x, hx, rfl⟩
    · rw [h]; simp
    · simpa [Le.ep] using HLL.out x hx)
  clear hOLD hCLO hfw hLO hEO hLE hLU hLV hLUn hLVn
  go_wp2_with fail
  refine (HOLD.out w3 (HWB.out _ HB3.out).1 (HWB.out _ HB3.out).2).1.mono ?_
  rintro e w4 ⟨aA, am, ac, al, th, tl, f, la, su, eA, q, ec, els, rfl, ham, har, hae, hqq, hes, heE, hb4⟩
  obtain ⟨X4, hX4⟩ : ∃ X4, X4 = w4.alloc (.cells #[.int .u64 th, .int .u64 tl, .int .i64 f, .int .i64 la, .bool su, .slice eA q ec] 30) := ⟨_, rfl⟩
  have HX4 := Lib.hid hX4
  have HB4 : Hid (Below (w.alloc (.cells #[.int .u64 x0, .int .u64 x1, .int .u64 x2, .int .u64 x3, .string x4, .string x5, .int .i64 x6, .int .i64 x7, .bool x8, .slice xA m xc] 42)).heap.size (w.alloc (.cells #[.int .u64 x0, .int .u64 x1, .int .u64 x2, .int .u64 x3, .string x4, .string x5, .int .i64 x6, .int .i64 x7, .bool x8, .slice xA m xc] 42)) w4) := Lib.hid (HB3.out.trans (hb4.mono HB3.out.size))
  have hbx : Below w4.heap.size w4 X4 := by rw [hX4]; exact (Below.refl _ _).alloc (Nat.le_refl _) _
  have HBX4 : Hid (Below (w.alloc (.cells #[.int .u64 x0, .int .u64 x1, .int .u64 x2, .int .u64 x3, .string x4, .string x5, .int .i64 x6, .int .i64 x7, .bool x8, .slice xA m xc] 42)).heap.size (w.alloc (.cells #[.int .u64 x0, .int .u64 x1, .int .u64 x2, .int .u64 x3, .string x4, .string x5, .int .i64 x6, .int .i64 x7, .bool x8, .slice xA m xc] 42)) X4) := Lib.hid (HB4.out.trans (hbx.mono HB4.out.size))
  have hE1 : X4.heap[w4.heap.size]? = some (.cells #[.int .u64 th, .int .u64 tl, .int .i64 f, .int .i64 la, .bool su, .slice eA q ec] 30 (0, 0)) := by rw [hX4]; exact heap_alloc_new w4 _
  have HE1X := Lib.hid hE1
  have HAR := Lib.hid (And.intro ham (And.intro hae ((har.below hbx).more hbx.size)))
  have HES := Lib.hid (And.intro hqq (And.intro heE ((hes.below hbx).more hbx.size)))
  clear hb4 hbx hE1 ham har hae hqq hes heE hX4
  go_wp2_with fail
  rw [← HX4.out]
  refine (HOLD.out X4 (HWB.out _ HBX4.out).1 (HWB.out _ HBX4.out).2).2.mono ?_
  rintro e w5 ⟨bA, bm, bc, bl, th2, tl2, f2, la2, su2, eA2, q2, ec2, els2, rfl, hbm, hbr, hbe, hq2, hes2, heE2, hb5⟩
  obtain rfl : bm = am := by
    have e1 := congrArg List.length HAR.out.2.1
    have e2 := congrArg List.length hbe
    have e3 := HAR.out.1
    simp only [List.length_map] at e1 e2
    omega
  obtain ⟨X5, hX5⟩ : ∃ X5, X5 = w5.alloc (.cells #[.int .u64 th2, .int .u64 tl2, .int .i64 f2, .int .i64 la2, .bool su2, .slice eA2 q2 ec2] 30) := ⟨_, rfl⟩
  have HX5 := Lib.hid hX5
  have HB5 : Hid (Below (w.alloc (.cells #[.int .u64 x0, .int .u64 x1, .int .u64 x2, .int .u64 x3, .string x4, .string x5, .int .i64 x6, .int .i64 x7, .bool x8, .slice xA m xc] 42)).heap.size (w.alloc (.cells #[.int .u64 x0, .int .u64 x1, .int .u64 x2, .int .u64 x3, .string x4, .string x5, .int .i64 x6, .int .i64 x7, .bool x8, .slice xA m xc] 42)) w5) := Lib.hid (HBX4.out.trans (hb5.mono HBX4.out.size))
  have hbx : Below w5.heap.size w5 X5 := by rw [hX5]; exact (Below.refl _ _).alloc (Nat.le_refl _) _
  have HBX5 : Hid (Below (w.alloc (.cells #[.int .u64 x0, .int .u64 x1, .int .u64 x2, .int .u64 x3, .string x4, .string x5, .int .i64 x6, .int .i64 x7, .bool x8, .slice xA m xc] 42)).heap.size (w.alloc (.cells #[.int .u64 x0, .int .u64 x1, .int .u64 x2, .int .u64 x3, .string x4, .string x5, .int .i64 x6, .int .i64 x7, .bool x8, .slice xA m xc] 42)) X5) := Lib.hid (HB5.out.trans (hbx.mono HB5.out.size))
  have hE2 : X5.heap[w5.heap.size]? = some (.cells #[.int .u64 th2, .int .u64 tl2, .int .i64 f2, .int .i64 la2, .bool su2, .slice eA2 q2 ec2] 30 (0, 0)) := by rw [hX5]; exact heap_alloc_new w5 _
  have HE2X := Lib.hid hE2
  have H45 : Hid (Below X4.heap.size X4 X5) := Lib.hid (hb5.trans (hbx.mono hb5.size))
  have HBR := Lib.hid (And.intro hbm (And.intro hbe ((hbr.below hbx).more hbx.size)))
  have HES2 := Lib.hid (And.intro hq2 (And.intro heE2 ((hes2.below hbx).more hbx.size)))
  clear hb5 hbx hE2 hbm hbr hbe hq2 hes2 heE2 hX5
  go_wp2_with fail
  rw [← HX5.out]
  refine (HCLO.out X5 (HWB.out _ HBX5.out).1 (HWB.out _ HBX5.out).2).1.mono ?_
  rintro e w6 ⟨pA, pm, pc, pl, qA, qm, qc, ql, rfl, hpm, hpr, hpe, hqm, hqr, hqe, hb6⟩
  have HB6 : Hid (Below (w.alloc (.cells #[.int .u64 x0, .int .u64 x1, .int .u64 x2, .int .u64 x3, .string x4, .string x5, .int .i64 x6, .int .i64 x7, .bool x8, .slice xA m xc] 42)).heap.size (w.alloc (.cells #[.int .u64 x0, .int .u64 x1, .int .u64 x2, .int .u64 x3, .string x4, .string x5, .int .i64 x6, .int .i64 x7, .bool x8, .slice xA m xc] 42)) w6) := Lib.hid (HBX5.out.trans (hb6.mono HBX5.out.size))
  have H56 := Lib.hid hb6
  have HPR := Lib.hid (And.intro hpm (And.intro hpe hpr))
  have HQR := Lib.hid (And.intro hqm (And.intro hqe hqr))
  clear hb6 hpm hpr hpe hqm hqr hqe
  go_wp2_with fail
  refine (HCLO.out w6 (HWB.out _ HB6.out).1 (HWB.out _ HB6.out).2).2.mono ?_
  rintro e w7 ⟨uA, um, uc, ul, vA, vm, vc, vl, rfl, hum, hur, hue, hvm, hvr, hve, hb7⟩
  obtain rfl : um = pm := by
    have e1 := congrArg List.length HPR.out.2.1
    have e2 := congrArg List.length hue
    have e3 := HPR.out.1
    simp only [List.length_map] at e1 e2
    omega
  obtain rfl : vm = qm := by
    have e1 := congrArg List.length HQR.out.2.1
    have e2 := congrArg List.length hve
    have e3 := HQR.out.1
    simp only [List.length_map] at e1 e2
    omega
  obtain ⟨W, hW⟩ : ∃ W, W = w7.drew := ⟨_, rfl⟩
  have hb8 : Below w7.heap.size w7 W := by rw [hW]; exact drewB w7
  have H6W : Below w6.heap.size w6 W := hb7.trans (hb8.mono hb7.size)
  have H5W : Below X5.heap.size X5 W := H56.out.trans (H6W.mono H56.out.size)
  have H4W : Below X4.heap.size X4 W := H45.out.trans (H5W.mono H45.out.size)
  have HBW : Hid (Below (w.alloc (.cells #[.int .u64 x0, .int .u64 x1, .int .u64 x2, .int .u64 x3, .string x4, .string x5, .int .i64 x6, .int .i64 x7, .bool x8, .slice xA m xc] 42)).heap.size (w.alloc (.cells #[.int .u64 x0, .int .u64 x1, .int .u64 x2, .int .u64 x3, .string x4, .string x5, .int .i64 x6, .int .i64 x7, .bool x8, .slice xA m xc] 42)) W) := Lib.hid (HBX4.out.trans (H4W.mono HBX4.out.size))
  have HSW : Hid (W.heap[w.heap.size]? = some (.cells #[.int .u64 x0, .int .u64 x1, .int .u64 x2, .int .u64 x3, .string x4, .string x5, .int .i64 x6, .int .i64 x7, .bool x8, .slice xA m xc] 42 (0, 0))) := Lib.hid (HBXS.out _ HBW.out)
  have HE1 : Hid (W.heap[w4.heap.size]? = some (.cells #[.int .u64 th, .int .u64 tl, .int .i64 f, .int .i64 la, .bool su, .slice eA q ec] 30 (0, 0))) := Lib.hid ((H4W.block _ (in_heap HE1X.out)).trans HE1X.out)
  have HE2 : Hid (W.heap[w5.heap.size]? = some (.cells #[.int .u64 th2, .int .u64 tl2, .int .i64 f2, .int .i64 la2, .bool su2, .slice eA2 q2 ec2] 30 (0, 0))) := Lib.hid ((H5W.block _ (in_heap HE2X.out)).trans HE2X.out)
  obtain ⟨y1, hy1⟩ : ∃ y : Le, y = ⟨th, tl, f, la, su, els, eA, ec⟩ := ⟨_, rfl⟩
  obtain ⟨y2, hy2⟩ : ∃ y : Le, y = ⟨th2, tl2, f2, la2, su2, els2, eA2, ec2⟩ := ⟨_, rfl⟩
  have HY1 : Hid (q = y1.l.length ∧ RdSps W W.heap.size y1.A y1.l) := Lib.hid (by rw [hy1]; exact ⟨HES.out.1, (HES.out.2.2.below H4W).more H4W.size⟩)
  have HY2 : Hid (q2 = y2.l.length ∧ RdSps W W.heap.size y2.A y2.l) := Lib.hid (by rw [hy2]; exact ⟨HES2.out.1, (HES2.out.2.2.below H5W).more H5W.size⟩)
  have HC1 : Hid (y1.cells = [.int .u64 th, .int .u64 tl, .int .i64 f, .int .i64 la, .bool su, .slice eA q ec]) := Lib.hid (by rw [hy1]; exact Le.lit_cells _ _ _ _ _ _ _ _ q HES.out.1)
  have HC2 : Hid (y2.cells = [.int .u64 th2, .int .u64 tl2, .int .i64 f2, .int .i64 la2, .bool su2, .slice eA2 q2 ec2]) := Lib.hid (by rw [hy2]; exact Le.lit_cells _ _ _ _ _ _ _ _ q2 HES2.out.1)
  have HYY : Hid (y1.ep = y2.ep ∧ y1.l.length ≤ 1000000) := Lib.hid (by
    have e1 : y1.ep = EO := by rw [hy1]; exact HES.out.2.1
    have e2 : y2.ep = EO := by rw [hy2]; exact HES2.out.2.1
    refine ⟨e1.trans e2.symm, ?_⟩
    have h1 := HEO.out
    rw [← e1] at h1
    simpa [Le.ep] using h1)
  have hwW : w.heap.size ≤ W.heap.size := (HWB.out _ HBW.out).2
  have HYW : Hid (RdEps W w.heap.size A l) := Lib.hid (HY.out.below (HWB.out _ HBW.out).1)
  have HPL : Hid ((putE (l.map Le.ep) ⟨x0, x1, x2, x3, x4, x5, x6, x7, x8, ats⟩ now sure).length ≤ 1000000 ∧ ∀ e ∈ (putE (l.map Le.ep) ⟨x0, x1, x2, x3, x4, x5, x6, x7, x8, ats⟩ now sure), e.l.length ≤ 1000000) := Lib.hid (by
    obtain ⟨h1, h2⟩ := putE_len 60 (l.map Le.ep) ⟨x0, x1, x2, x3, x4, x5, x6, x7, x8, ats⟩ now sure (fun e he => by obtain ⟨x, hx, rfl⟩ := List.mem_map.1 he; simpa [Le.ep] using fewAll_len (HGD.out.2 x hx))
    rw [List.length_map, ← HN.out] at h1
    exact ⟨by omega, fun e he => Nat.le_trans (h2 e he) (by omega)⟩)
  have HSO : Hid (∀ W8, Below W.heap.size W W8 → Calls Try.prog 26 #[.slice aA bm ac, .slice bA bm bc] W8 fun e w' => e = .returned (.bool true) ∧ Below W8.heap.size W8 w') := Lib.hid (fun W8 h8 =>
    sameeps_eq aA bA al bl bm ac bc W.heap.size W8 HAR.out.1 (((HAR.out.2.2.below H4W).more H4W.size).below h8) (((HBR.out.2.2.below H5W).more H5W.size).below h8) (HAR.out.2.1.trans HBR.out.2.1.symm) h8.size (by have := congrArg List.length HAR.out.2.1; have h2 := HLO.out.1; have h3 := HAR.out.1; simp only [List.length_map] at this; omega) (eps_len HAR.out.2.1 HLO.out.2))
  have HSP : Hid (∀ W8, Below W.heap.size W W8 → Calls Try.prog 26 #[.slice pA um pc, .slice uA um uc] W8 fun e w' => e = .returned (.bool true) ∧ Below W8.heap.size W8 w') := Lib.hid (fun W8 h8 =>
    sameeps_eq pA uA pl ul um pc uc W.heap.size W8 HPR.out.1 (((HPR.out.2.2.below H6W).more H6W.size).below h8) (((hur.below hb8).more hb8.size).below h8) (HPR.out.2.1.trans hue.symm) h8.size (by have := congrArg List.length HPR.out.2.1; have h2 := HLU.out.1; have h3 := HPR.out.1; simp only [List.length_map] at this; omega) (eps_len HPR.out.2.1 HLU.out.2))
  have HSQ : Hid (∀ W8, Below W.heap.size W W8 → Calls Try.prog 26 #[.slice qA vm qc, .slice vA vm vc] W8 fun e w' => e = .returned (.bool true) ∧ Below W8.heap.size W8 w') := Lib.hid (fun W8 h8 =>
    sameeps_eq qA vA ql vl vm qc vc W.heap.size W8 HQR.out.1 (((HQR.out.2.2.below H6W).more H6W.size).below h8) (((hvr.below hb8).more hb8.size).below h8) (HQR.out.2.1.trans hve.symm) h8.size (by have := congrArg List.length HQR.out.2.1; have h2 := HLV.out.1; have h3 := HQR.out.1; simp only [List.length_map] at this; omega) (eps_len HQR.out.2.1 HLV.out.2))
  clear hb7 hb8 H6W H5W H4W hum hur hue hvm hvr hve hy1 hy2
  go_wp2_with fail
  refine PI.wp_region_persG (R := (fun w w' => Below w.heap.size w w')) (G := fun _ _ => True) (I := fun _ _ _ => True) [(1, 0), (3, 2), (4, 1), (4, 3), (5, 4), (6, 5), (7, 5), (7, 6), (8, 5), (9, 5), (10, 5), (11, 5), (11, 7), (11, 8), (11, 9), (11, 10), (12, 5), (13, 5), (14, 5), (15, 5), (16, 5), (16, 12), (16, 13), (16, 14), (16, 15), (17, 5), (17, 11), (17, 16), (18, 5), (18, 17), (19, 18), (20, 19), (21, 19), (22, 19), (22, 20), (22, 21), (23, 19), (23, 22), (24, 23), (25, 24), (26, 24), (27, 24), (27, 25), (27, 26), (28, 24), (28, 27), (29, 28), (30, 29), (31, 29), (31, 30), (32, 29), (33, 29), (33, 32), (34, 29), (34, 31), (34, 33), (35, 29), (35, 34), (36, 35), (37, 36), (38, 36), (39, 36), (39, 37), (39, 38), (40, 36), (40, 39), (41, 40), (42, 41), (43, 41), (44, 41), (44, 42), (44, 43), (45, 41), (45, 44), (46, 45)] [46] (by kernel_rfl) (PI.formed_of (by kernel_rfl)) ⟨fun w => Below.refl _ w, fun _ _ _ h k => h.trans (k.mono h.size)⟩ (fun _ => trivial) (BtF A n c (cntE l : Int) now sure okb #[.int .u64 x0, .int .u64 x1, .int .u64 x2, .int .u64 x3, .string x4, .string x5, .int .i64 x6, .int .i64 x7, .bool x8, .slice xA m xc] #[.int .u64 th, .int .u64 tl, .int .i64 f, .int .i64 la, .bool su, .slice eA q ec] #[.int .u64 th2, .int .u64 tl2, .int .i64 f2, .int .i64 la2, .bool su2, .slice eA2 q2 ec2] aA bA pA uA qA vA bm ac bc um pc uc vm qc vc (l.map Le.ep) (putE (l.map Le.ep) ⟨x0, x1, x2, x3, x4, x5, x6, x7, x8, ats⟩ now sure) y1 y2) trivial ?_ ?_
  · rw [← hW]
    intro i o ho
    rcases i with _ | _ | _ | _ | _ | _ | _ | _ | _ | _ | _ | _ | _ | _ | _ | _ | _ | _ | _ | _ | _ | _ | _ | _ | _ | _ | _ | _ | _ | _ | _ | _ | _ | _ | _ | _ | _ | _ | _ | _ | _ | _ | _ | _ | _ | _ | _ | i
    · obtain rfl := Option.some.inj (show some _ = some o from ho)
      refine PI.shown_val rfl fun a w8 L0 hr T => ?_
      have h1 : a.eval (.tmp 0) = .slice A n c := T.was 0 (by kernel_rfl)
      exact ⟨.slice A n c, w8, by simp only [execOp, h1]; simp [go_sem], PI.Post.pure ⟨fun w => Below.refl _ w, fun _ _ _ h k => h.trans (k.mono h.size)⟩ rfl trivial⟩
    · obtain rfl := Option.some.inj (show some _ = some o from ho)
      refine PI.shown_call rfl 24 fun a w8 L0 hr T => ?_
      have h1 : a.eval (.tmp 66) = .slice A n c := T.at_ 0 66 (by kernel_rfl) (by kernel_rfl) (by kernel_rfl)
      refine ⟨#[.slice A n c], by simp only [execOp, resolve, List.map_toArray, List.map_cons, List.map_nil, h1]; simp [go_sem, Act.eval], ?_⟩
      refine (count_any A l n c w.heap.size w8 HN.out (HYW.out.below (hr.mono hwW)) (Nat.le_trans hwW hr.size) HGD.out.modT).mono fun e w9 hh => ?_
      obtain ⟨rfl, hb9⟩ := hh
      exact ⟨_, rfl, hb9, rfl, fun _ _ h => h, fun j v _ _ _ _ h => h.keep hb9, trivial⟩
    · obtain rfl := Option.some.inj (show some _ = some o from ho)
      refine PI.shown_val rfl fun a w8 L0 hr T => ?_
      have h1 : a.eval (.tmp 0) = .slice A n c := T.was 0 (by kernel_rfl)
      exact ⟨.slice A n c, w8, by simp only [execOp, h1]; simp [go_sem], PI.Post.pure ⟨fun w => Below.refl _ w, fun _ _ _ h k => h.trans (k.mono h.size)⟩ rfl trivial⟩
    · obtain rfl := Option.some.inj (show some _ = some o from ho)
      refine PI.shown_call rfl 25 fun a w8 L0 hr T => ?_
      have h1 : a.eval (.tmp 68) = .slice A n c := T.at_ 2 68 (by kernel_rfl) (by kernel_rfl) (by kernel_rfl)
      refine ⟨#[.slice A n c], by simp only [execOp, resolve, List.map_toArray, List.map_cons, List.map_nil, h1]; simp [go_sem, Act.eval], ?_⟩
      refine (dcount_any A l n c w.heap.size w8 HN.out (HYW.out.below (hr.mono hwW)) (Nat.le_trans hwW hr.size) HGD.out.modT).mono fun e w9 hh => ?_
      obtain ⟨rfl, rfl⟩ := hh
      have hb9 := Below.refl w8.heap.size w8
      exact ⟨_, rfl, hb9, rfl, fun _ _ h => h, fun j v _ _ _ _ h => h.keep hb9, trivial⟩
    · obtain rfl := Option.some.inj (show some _ = some o from ho)
      refine PI.shown_val rfl fun a w8 L0 hr T => ?_
      have h1 : a.eval (.tmp 67) = .int .i64 (cntE l : Int) := T.at_ 1 67 (by kernel_rfl) (by kernel_rfl) (by kernel_rfl)
      have h2 : a.eval (.tmp 69) = .int .i64 (cntE l : Int) := T.at_ 3 69 (by kernel_rfl) (by kernel_rfl) (by kernel_rfl)
      exact ⟨.bool true, w8, by simp only [execOp, h1, h2]; simp [go_sem], PI.Post.pure ⟨fun w => Below.refl _ w, fun _ _ _ h k => h.trans (k.mono h.size)⟩ rfl trivial⟩
    · obtain rfl := Option.some.inj (show some _ = some o from ho)
      refine PI.shown_val rfl fun a w8 L0 hr T => ?_
      have h1 : a.eval (.tmp 70) = .bool true := T.at_ 4 70 (by kernel_rfl) (by kernel_rfl) (by kernel_rfl)
      exact ⟨.bool true, w8, by simp only [execOp, h1]; simp [go_sem], PI.Post.pure ⟨fun w => Below.refl _ w, fun _ _ _ h k => h.trans (k.mono h.size)⟩ rfl trivial⟩
    · obtain rfl := Option.some.inj (show some _ = some o from ho)
      refine PI.shown_val_if 5 71 true rfl (by kernel_rfl) (by kernel_rfl) (by kernel_rfl) (fun v w h => h) fun a w8 L0 hr T => ?_
      have h1 : a.eval (.tmp 0) = .slice A n c := T.was 0 (by kernel_rfl)
      exact ⟨.slice A n c, w8, by simp only [execOp, h1]; simp [go_sem], PI.Post.pure ⟨fun w => Below.refl _ w, fun _ _ _ h k => h.trans (k.mono h.size)⟩ rfl trivial⟩
    · obtain rfl := Option.some.inj (show some _ = some o from ho)
      refine PI.shown_val_if 5 71 true rfl (by kernel_rfl) (by kernel_rfl) (by kernel_rfl) (fun v w h => h) fun a w8 L0 hr T => ?_
      have h1 : a.eval (.tmp 72) = .slice A n c := T.at_ 6 72 (by kernel_rfl) (by kernel_rfl) (by kernel_rfl)
      have h0 : a.eval (.const (.slice none 0 0)) = .slice none 0 0 := rfl
      have hyr := HYW.out.below (hr.mono hwW)
      have hw8 : w.heap.size ≤ w8.heap.size := Nat.le_trans hwW hr.size
      obtain ⟨v', w', r1', r2, r3⟩ := appRow (ty := 39) (base := w8.heap.size) (B := w.heap.size) (l := []) (xs := l) (v := .slice none 0 0) n c HN.out (RowEps.nil w8 _ _) hyr.each hyr.rd (by simp) (by omega) (Nat.le_refl _) hw8
      rw [List.nil_append] at r2
      have hb9 : Below w8.heap.size w8 w' := r3.new
      obtain ⟨A9, c9, hv9, _, hr9⟩ := r2.rd (Nat.le_trans hw8 hb9.size)
      exact ⟨v', w', by simp only [execOp, resolve, invoke, builtin, Sem.run_bind, Sem.run_pure, Result.andThen_ok, List.map_toArray, List.map_cons, List.map_nil, h0, h1, r1'], hb9, ⟨A9, c9, _, l, hv9, Nat.le_refl _, hr9, rfl⟩, fun _ _ h => h, fun j v _ _ _ _ h => h.keep hb9, trivial⟩
    · obtain rfl := Option.some.inj (show some _ = some o from ho)
      refine PI.shown_val_if 5 71 true rfl (by kernel_rfl) (by kernel_rfl) (by kernel_rfl) (fun v w h => h) fun a w8 L0 hr T => ?_
      have h1 : a.eval (.tmp 7) = .pointer (some ⟨w.heap.size, 0, none⟩) := T.was 7 (by kernel_rfl)
      have hO : w8.heap[w.heap.size]? = some (.cells #[.int .u64 x0, .int .u64 x1, .int .u64 x2, .int .u64 x3, .string x4, .string x5, .int .i64 x6, .int .i64 x7, .bool x8, .slice xA m xc] 42 (0, 0)) := (hr.block _ (in_heap HSW.out)).trans HSW.out
      have v0 : w8.cell? ⟨w.heap.size, 0, none⟩ = some (.int .u64 x0) := cell_of_row _ _ 0 _ _ (0, 0) hO
      have v1 : w8.cell? ⟨w.heap.size, 1, none⟩ = some (.int .u64 x1) := cell_of_row _ _ 1 _ _ (0, 0) hO
      have v2 : w8.cell? ⟨w.heap.size, 2, none⟩ = some (.int .u64 x2) := cell_of_row _ _ 2 _ _ (0, 0) hO
      have v3 : w8.cell? ⟨w.heap.size, 3, none⟩ = some (.int .u64 x3) := cell_of_row _ _ 3 _ _ (0, 0) hO
      have v4 : w8.cell? ⟨w.heap.size, 4, none⟩ = some (.string x4) := cell_of_row _ _ 4 _ _ (0, 0) hO
      have v5 : w8.cell? ⟨w.heap.size, 5, none⟩ = some (.string x5) := cell_of_row _ _ 5 _ _ (0, 0) hO
      have v6 : w8.cell? ⟨w.heap.size, 6, none⟩ = some (.int .i64 x6) := cell_of_row _ _ 6 _ _ (0, 0) hO
      have v7 : w8.cell? ⟨w.heap.size, 7, none⟩ = some (.int .i64 x7) := cell_of_row _ _ 7 _ _ (0, 0) hO
      have v8 : w8.cell? ⟨w.heap.size, 8, none⟩ = some (.bool x8) := cell_of_row _ _ 8 _ _ (0, 0) hO
      have v9 : w8.cell? ⟨w.heap.size, 9, none⟩ = some (.slice xA m xc) := cell_of_row _ _ 9 _ _ (0, 0) hO
      exact ⟨.agg #[.int .u64 x0, .int .u64 x1, .int .u64 x2, .int .u64 x3, .string x4, .string x5, .int .i64 x6, .int .i64 x7, .bool x8, .slice xA m xc], w8, by simp only [execOp, h1]; simp [go_sem, v0, v1, v2, v3, v4, v5, v6, v7, v8, v9], PI.Post.pure ⟨fun w => Below.refl _ w, fun _ _ _ h k => h.trans (k.mono h.size)⟩ rfl trivial⟩
    · obtain rfl := Option.some.inj (show some _ = some o from ho)
      refine PI.shown_val_if 5 71 true rfl (by kernel_rfl) (by kernel_rfl) (by kernel_rfl) (fun v w h => h) fun a w8 L0 hr T => ?_
      have h1 : a.eval (.tmp 2) = .int .i64 now := T.was 2 (by kernel_rfl)
      exact ⟨.int .i64 now, w8, by simp only [execOp, h1]; simp [go_sem], PI.Post.pure ⟨fun w => Below.refl _ w, fun _ _ _ h k => h.trans (k.mono h.size)⟩ rfl trivial⟩
    · obtain rfl := Option.some.inj (show some _ = some o from ho)
      refine PI.shown_val_if 5 71 true rfl (by kernel_rfl) (by kernel_rfl) (by kernel_rfl) (fun v w h => h) fun a w8 L0 hr T => ?_
      have h1 : a.eval (.tmp 3) = .bool sure := T.was 3 (by kernel_rfl)
      exact ⟨.bool sure, w8, by simp only [execOp, h1]; simp [go_sem], PI.Post.pure ⟨fun w => Below.refl _ w, fun _ _ _ h k => h.trans (k.mono h.size)⟩ rfl trivial⟩
    · obtain rfl := Option.some.inj (show some _ = some o from ho)
      refine PI.shown_call_if 5 71 true rfl (by kernel_rfl) (by kernel_rfl) (by kernel_rfl) (fun v w h => h) 27 fun a w8 L0 hr T => ?_
      obtain ⟨aS, kS, B5, l5, h1, h2, h3, h4⟩ : ∃ (a9 : Option Addr) (k B : Nat) (l' : List Le), a.eval (.tmp 73) = .slice a9 l'.length k ∧ B ≤ w8.heap.size ∧ RdEps w8 B a9 l' ∧ l'.map Le.ep = l.map Le.ep := T.at_ 7 73 (by kernel_rfl) (by kernel_rfl) (by kernel_rfl)
      have k2 : a.eval (.tmp 74) = .agg #[.int .u64 x0, .int .u64 x1, .int .u64 x2, .int .u64 x3, .string x4, .string x5, .int .i64 x6, .int .i64 x7, .bool x8, .slice xA m xc] := T.at_ 8 74 (by kernel_rfl) (by kernel_rfl) (by kernel_rfl)
      have k3 : a.eval (.tmp 75) = .int .i64 now := T.at_ 9 75 (by kernel_rfl) (by kernel_rfl) (by kernel_rfl)
      have k4 : a.eval (.tmp 76) = .bool sure := T.at_ 10 76 (by kernel_rfl) (by kernel_rfl) (by kernel_rfl)
      refine ⟨#[.slice aS l5.length kS, .agg #[.int .u64 x0, .int .u64 x1, .int .u64 x2, .int .u64 x3, .string x4, .string x5, .int .i64 x6, .int .i64 x7, .bool x8, .slice xA m xc], .int .i64 now, .bool sure], by simp only [execOp, resolve, List.map_toArray, List.map_cons, List.map_nil, h1, k2, k3, k4]; simp [go_sem, Act.eval], ?_⟩
      refine (put_any aS l5 l5.length kS x0 x1 x2 x3 x4 x5 x6 x7 x8 ats xA m xc now sure w8.heap.size w8 rfl (h3.more h2) (Nat.le_refl _) HM.out ((HX.out.below (HWB.out _ (HBW.out.trans (hr.mono HBW.out.size))).1).more (Nat.le_trans hwW hr.size)) (ModE.same h4 HGD.out.modT) hm20).mono fun e w9 hh => ?_
      obtain ⟨v9, l9, rfl, ho9, hm9, hb9⟩ := hh
      rw [h4] at hm9
      obtain ⟨A9, c9, rfl, _, hr9⟩ := ho9.rd
      exact ⟨_, rfl, hb9, ⟨A9, c9, _, l9, rfl, Nat.le_refl _, hr9, hm9⟩, fun _ _ h => h, fun j v _ _ _ _ h => h.keep hb9, trivial⟩
    · obtain rfl := Option.some.inj (show some _ = some o from ho)
      refine PI.shown_val_if 5 71 true rfl (by kernel_rfl) (by kernel_rfl) (by kernel_rfl) (fun v w h => h) fun a w8 L0 hr T => ?_
      have h1 : a.eval (.tmp 0) = .slice A n c := T.was 0 (by kernel_rfl)
      exact ⟨.slice A n c, w8, by simp only [execOp, h1]; simp [go_sem], PI.Post.pure ⟨fun w => Below.refl _ w, fun _ _ _ h k => h.trans (k.mono h.size)⟩ rfl trivial⟩
    · obtain rfl := Option.some.inj (show some _ = some o from ho)
      refine PI.shown_val_if 5 71 true rfl (by kernel_rfl) (by kernel_rfl) (by kernel_rfl) (fun v w h => h) fun a w8 L0 hr T => ?_
      have h1 : a.eval (.tmp 7) = .pointer (some ⟨w.heap.size, 0, none⟩) := T.was 7 (by kernel_rfl)
      have hO : w8.heap[w.heap.size]? = some (.cells #[.int .u64 x0, .int .u64 x1, .int .u64 x2, .int .u64 x3, .string x4, .string x5, .int .i64 x6, .int .i64 x7, .bool x8, .slice xA m xc] 42 (0, 0)) := (hr.block _ (in_heap HSW.out)).trans HSW.out
      have v0 : w8.cell? ⟨w.heap.size, 0, none⟩ = some (.int .u64 x0) := cell_of_row _ _ 0 _ _ (0, 0) hO
      have v1 : w8.cell? ⟨w.heap.size, 1, none⟩ = some (.int .u64 x1) := cell_of_row _ _ 1 _ _ (0, 0) hO
      have v2 : w8.cell? ⟨w.heap.size, 2, none⟩ = some (.int .u64 x2) := cell_of_row _ _ 2 _ _ (0, 0) hO
      have v3 : w8.cell? ⟨w.heap.size, 3, none⟩ = some (.int .u64 x3) := cell_of_row _ _ 3 _ _ (0, 0) hO
      have v4 : w8.cell? ⟨w.heap.size, 4, none⟩ = some (.string x4) := cell_of_row _ _ 4 _ _ (0, 0) hO
      have v5 : w8.cell? ⟨w.heap.size, 5, none⟩ = some (.string x5) := cell_of_row _ _ 5 _ _ (0, 0) hO
      have v6 : w8.cell? ⟨w.heap.size, 6, none⟩ = some (.int .i64 x6) := cell_of_row _ _ 6 _ _ (0, 0) hO
      have v7 : w8.cell? ⟨w.heap.size, 7, none⟩ = some (.int .i64 x7) := cell_of_row _ _ 7 _ _ (0, 0) hO
      have v8 : w8.cell? ⟨w.heap.size, 8, none⟩ = some (.bool x8) := cell_of_row _ _ 8 _ _ (0, 0) hO
      have v9 : w8.cell? ⟨w.heap.size, 9, none⟩ = some (.slice xA m xc) := cell_of_row _ _ 9 _ _ (0, 0) hO
      exact ⟨.agg #[.int .u64 x0, .int .u64 x1, .int .u64 x2, .int .u64 x3, .string x4, .string x5, .int .i64 x6, .int .i64 x7, .bool x8, .slice xA m xc], w8, by simp only [execOp, h1]; simp [go_sem, v0, v1, v2, v3, v4, v5, v6, v7, v8, v9], PI.Post.pure ⟨fun w => Below.refl _ w, fun _ _ _ h k => h.trans (k.mono h.size)⟩ rfl trivial⟩
    · obtain rfl := Option.some.inj (show some _ = some o from ho)
      refine PI.shown_val_if 5 71 true rfl (by kernel_rfl) (by kernel_rfl) (by kernel_rfl) (fun v w h => h) fun a w8 L0 hr T => ?_
      have h1 : a.eval (.tmp 2) = .int .i64 now := T.was 2 (by kernel_rfl)
      exact ⟨.int .i64 now, w8, by simp only [execOp, h1]; simp [go_sem], PI.Post.pure ⟨fun w => Below.refl _ w, fun _ _ _ h k => h.trans (k.mono h.size)⟩ rfl trivial⟩
    · obtain rfl := Option.some.inj (show some _ = some o from ho)
      refine PI.shown_val_if 5 71 true rfl (by kernel_rfl) (by kernel_rfl) (by kernel_rfl) (fun v w h => h) fun a w8 L0 hr T => ?_
      have h1 : a.eval (.tmp 3) = .bool sure := T.was 3 (by kernel_rfl)
      exact ⟨.bool sure, w8, by simp only [execOp, h1]; simp [go_sem], PI.Post.pure ⟨fun w => Below.refl _ w, fun _ _ _ h k => h.trans (k.mono h.size)⟩ rfl trivial⟩
    · obtain rfl := Option.some.inj (show some _ = some o from ho)
      refine PI.shown_call_if 5 71 true rfl (by kernel_rfl) (by kernel_rfl) (by kernel_rfl) (fun v w h => h) 28 fun a w8 L0 hr T => ?_
      have h1 : a.eval (.tmp 78) = .slice A n c := T.at_ 12 78 (by kernel_rfl) (by kernel_rfl) (by kernel_rfl)
      have k2 : a.eval (.tmp 79) = .agg #[.int .u64 x0, .int .u64 x1, .int .u64 x2, .int .u64 x3, .string x4, .string x5, .int .i64 x6, .int .i64 x7, .bool x8, .slice xA m xc] := T.at_ 13 79 (by kernel_rfl) (by kernel_rfl) (by kernel_rfl)
      have k3 : a.eval (.tmp 80) = .int .i64 now := T.at_ 14 80 (by kernel_rfl) (by kernel_rfl) (by kernel_rfl)
      have k4 : a.eval (.tmp 81) = .bool sure := T.at_ 15 81 (by kernel_rfl) (by kernel_rfl) (by kernel_rfl)
      refine ⟨#[.slice A n c, .agg #[.int .u64 x0, .int .u64 x1, .int .u64 x2, .int .u64 x3, .string x4, .string x5, .int .i64 x6, .int .i64 x7, .bool x8, .slice xA m xc], .int .i64 now, .bool sure], by simp only [execOp, resolve, List.map_toArray, List.map_cons, List.map_nil, h1, k2, k3, k4]; simp [go_sem, Act.eval], ?_⟩
      refine (dput_any A l n c x0 x1 x2 x3 x4 x5 x6 x7 x8 ats xA m xc now sure w.heap.size w8 HN.out (HYW.out.below (hr.mono hwW)) (Nat.le_trans hwW hr.size) HM.out (HX.out.below (HWB.out _ (HBW.out.trans (hr.mono HBW.out.size))).1) HGD.out.modT).mono fun e w9 hh => ?_
      obtain ⟨A9, c9, l9, rfl, hr9, hm9, hb9⟩ := hh
      exact ⟨_, rfl, hb9, ⟨A9, c9, _, l9, rfl, Nat.le_refl _, hr9, hm9⟩, fun _ _ h => h, fun j v _ _ _ _ h => h.keep hb9, trivial⟩
    · obtain rfl := Option.some.inj (show some _ = some o from ho)
      refine PI.shown_call_if 5 71 true rfl (by kernel_rfl) (by kernel_rfl) (by kernel_rfl) (fun v w h => h) 26 fun a w8 L0 hr T => ?_
      obtain ⟨aS, kS, B5, l5, h1, h2, h3, h4⟩ : ∃ (a9 : Option Addr) (k B : Nat) (l' : List Le), a.eval (.tmp 77) = .slice a9 l'.length k ∧ B ≤ w8.heap.size ∧ RdEps w8 B a9 l' ∧ l'.map Le.ep = (putE (l.map Le.ep) ⟨x0, x1, x2, x3, x4, x5, x6, x7, x8, ats⟩ now sure) := T.at_ 11 77 (by kernel_rfl) (by kernel_rfl) (by kernel_rfl)
      obtain ⟨aT, kT, B6, l6, k1, k2, k3, k4⟩ : ∃ (a9 : Option Addr) (k B : Nat) (l' : List Le), a.eval (.tmp 82) = .slice a9 l'.length k ∧ B ≤ w8.heap.size ∧ RdEps w8 B a9 l' ∧ l'.map Le.ep = (putE (l.map Le.ep) ⟨x0, x1, x2, x3, x4, x5, x6, x7, x8, ats⟩ now sure) := T.at_ 16 82 (by kernel_rfl) (by kernel_rfl) (by kernel_rfl)
      have hll : l6.length = l5.length := by
        have e1 := congrArg List.length h4
        have e2 := congrArg List.length k4
        simp only [List.length_map] at e1 e2
        omega
      have hl5 : l5.length ≤ 1000000 := by
        have e1 := congrArg List.length h4
        have e2 := HPL.out.1
        simp only [List.length_map] at e1
        omega
      rw [hll] at k1
      refine ⟨#[.slice aS l5.length kS, .slice aT l5.length kT], by simp only [execOp, resolve, List.map_toArray, List.map_cons, List.map_nil, h1, k1]; simp [go_sem, Act.eval], ?_⟩
      refine (sameeps_eq aS aT l5 l6 l5.length kS kT w8.heap.size w8 rfl (h3.more h2) (k3.more k2) (h4.trans k4.symm) (Nat.le_refl _) hl5 (eps_len h4 HPL.out.2)).mono fun e w9 hh => ?_
      obtain ⟨rfl, hb9⟩ := hh
      exact ⟨_, rfl, hb9, rfl, fun _ _ h => h, fun j v _ _ _ _ h => h.keep hb9, trivial⟩
    · obtain rfl := Option.some.inj (show some _ = some o from ho)
      refine PI.shown_val rfl fun a w8 L0 hr T => ?_
      have h1 : a.eval (.tmp 71) = .bool true := T.at_ 5 71 (by kernel_rfl) (by kernel_rfl) (by kernel_rfl)
      have h2 : a.eval (.tmp 83) = .bool true := T.at_ 17 83 (by kernel_rfl) (by kernel_rfl) (by kernel_rfl)
      exact ⟨.bool true, w8, by simp only [execOp, h1, h2]; simp [go_sem, Act.eval], PI.Post.pure ⟨fun w => Below.refl _ w, fun _ _ _ h k => h.trans (k.mono h.size)⟩ rfl trivial⟩
    · obtain rfl := Option.some.inj (show some _ = some o from ho)
      refine PI.shown_val rfl fun a w8 L0 hr T => ?_
      have h1 : a.eval (.tmp 84) = .bool true := T.at_ 18 84 (by kernel_rfl) (by kernel_rfl) (by kernel_rfl)
      exact ⟨.bool true, w8, by simp only [execOp, h1]; simp [go_sem], PI.Post.pure ⟨fun w => Below.refl _ w, fun _ _ _ h k => h.trans (k.mono h.size)⟩ rfl trivial⟩
    · obtain rfl := Option.some.inj (show some _ = some o from ho)
      refine PI.shown_val_if 19 85 true rfl (by kernel_rfl) (by kernel_rfl) (by kernel_rfl) (fun v w h => h) fun a w8 L0 hr T => ?_
      have h1 : a.eval (.tmp 16) = .bool okb := T.was 16 (by kernel_rfl)
      exact ⟨.bool okb, w8, by simp only [execOp, h1]; simp [go_sem], PI.Post.pure ⟨fun w => Below.refl _ w, fun _ _ _ h k => h.trans (k.mono h.size)⟩ rfl trivial⟩
    · obtain rfl := Option.some.inj (show some _ = some o from ho)
      refine PI.shown_val_if 19 85 true rfl (by kernel_rfl) (by kernel_rfl) (by kernel_rfl) (fun v w h => h) fun a w8 L0 hr T => ?_
      have h1 : a.eval (.tmp 19) = .bool okb := T.was 19 (by kernel_rfl)
      exact ⟨.bool okb, w8, by simp only [execOp, h1]; simp [go_sem], PI.Post.pure ⟨fun w => Below.refl _ w, fun _ _ _ h k => h.trans (k.mono h.size)⟩ rfl trivial⟩
    · obtain rfl := Option.some.inj (show some _ = some o from ho)
      refine PI.shown_val_if 19 85 true rfl (by kernel_rfl) (by kernel_rfl) (by kernel_rfl) (fun v w h => h) fun a w8 L0 hr T => ?_
      have h1 : a.eval (.tmp 86) = .bool okb := T.at_ 20 86 (by kernel_rfl) (by kernel_rfl) (by kernel_rfl)
      have h2 : a.eval (.tmp 87) = .bool okb := T.at_ 21 87 (by kernel_rfl) (by kernel_rfl) (by kernel_rfl)
      exact ⟨.bool true, w8, by simp only [execOp, h1, h2]; simp [go_sem], PI.Post.pure ⟨fun w => Below.refl _ w, fun _ _ _ h k => h.trans (k.mono h.size)⟩ rfl trivial⟩
    · obtain rfl := Option.some.inj (show some _ = some o from ho)
      refine PI.shown_val rfl fun a w8 L0 hr T => ?_
      have h1 : a.eval (.tmp 85) = .bool true := T.at_ 19 85 (by kernel_rfl) (by kernel_rfl) (by kernel_rfl)
      have h2 : a.eval (.tmp 88) = .bool true := T.at_ 22 88 (by kernel_rfl) (by kernel_rfl) (by kernel_rfl)
      exact ⟨.bool true, w8, by simp only [execOp, h1, h2]; simp [go_sem, Act.eval], PI.Post.pure ⟨fun w => Below.refl _ w, fun _ _ _ h k => h.trans (k.mono h.size)⟩ rfl trivial⟩
    · obtain rfl := Option.some.inj (show some _ = some o from ho)
      refine PI.shown_val rfl fun a w8 L0 hr T => ?_
      have h1 : a.eval (.tmp 89) = .bool true := T.at_ 23 89 (by kernel_rfl) (by kernel_rfl) (by kernel_rfl)
      exact ⟨.bool true, w8, by simp only [execOp, h1]; simp [go_sem], PI.Post.pure ⟨fun w => Below.refl _ w, fun _ _ _ h k => h.trans (k.mono h.size)⟩ rfl trivial⟩
    · obtain rfl := Option.some.inj (show some _ = some o from ho)
      refine PI.shown_val_if 24 90 true rfl (by kernel_rfl) (by kernel_rfl) (by kernel_rfl) (fun v w h => h) fun a w8 L0 hr T => ?_
      have h1 : a.eval (.tmp 14) = .slice aA bm ac := T.was 14 (by kernel_rfl)
      exact ⟨.slice aA bm ac, w8, by simp only [execOp, h1]; simp [go_sem], PI.Post.pure ⟨fun w => Below.refl _ w, fun _ _ _ h k => h.trans (k.mono h.size)⟩ rfl trivial⟩
    · obtain rfl := Option.some.inj (show some _ = some o from ho)
      refine PI.shown_val_if 24 90 true rfl (by kernel_rfl) (by kernel_rfl) (by kernel_rfl) (fun v w h => h) fun a w8 L0 hr T => ?_
      have h1 : a.eval (.tmp 17) = .slice bA bm bc := T.was 17 (by kernel_rfl)
      exact ⟨.slice bA bm bc, w8, by simp only [execOp, h1]; simp [go_sem], PI.Post.pure ⟨fun w => Below.refl _ w, fun _ _ _ h k => h.trans (k.mono h.size)⟩ rfl trivial⟩
    · obtain rfl := Option.some.inj (show some _ = some o from ho)
      refine PI.shown_call_if 24 90 true rfl (by kernel_rfl) (by kernel_rfl) (by kernel_rfl) (fun v w h => h) 26 fun a w8 L0 hr T => ?_
      have h1 : a.eval (.tmp 91) = .slice aA bm ac := T.at_ 25 91 (by kernel_rfl) (by kernel_rfl) (by kernel_rfl)
      have h2 : a.eval (.tmp 92) = .slice bA bm bc := T.at_ 26 92 (by kernel_rfl) (by kernel_rfl) (by kernel_rfl)
      refine ⟨#[.slice aA bm ac, .slice bA bm bc], by simp only [execOp, resolve, List.map_toArray, List.map_cons, List.map_nil, h1, h2]; simp [go_sem, Act.eval], ?_⟩
      refine (HSO.out w8 hr).mono fun e w9 hh => ?_
      obtain ⟨rfl, hb9⟩ := hh
      exact ⟨_, rfl, hb9, rfl, fun _ _ h => h, fun j v _ _ _ _ h => h.keep hb9, trivial⟩
    · obtain rfl := Option.some.inj (show some _ = some o from ho)
      refine PI.shown_val rfl fun a w8 L0 hr T => ?_
      have h1 : a.eval (.tmp 90) = .bool true := T.at_ 24 90 (by kernel_rfl) (by kernel_rfl) (by kernel_rfl)
      have h2 : a.eval (.tmp 93) = .bool true := T.at_ 27 93 (by kernel_rfl) (by kernel_rfl) (by kernel_rfl)
      exact ⟨.bool true, w8, by simp only [execOp, h1, h2]; simp [go_sem, Act.eval], PI.Post.pure ⟨fun w => Below.refl _ w, fun _ _ _ h k => h.trans (k.mono h.size)⟩ rfl trivial⟩
    · obtain rfl := Option.some.inj (show some _ = some o from ho)
      refine PI.shown_val rfl fun a w8 L0 hr T => ?_
      have h1 : a.eval (.tmp 94) = .bool true := T.at_ 28 94 (by kernel_rfl) (by kernel_rfl) (by kernel_rfl)
      exact ⟨.bool true, w8, by simp only [execOp, h1]; simp [go_sem], PI.Post.pure ⟨fun w => Below.refl _ w, fun _ _ _ h k => h.trans (k.mono h.size)⟩ rfl trivial⟩
    · obtain rfl := Option.some.inj (show some _ = some o from ho)
      refine PI.shown_val_if 29 95 true rfl (by kernel_rfl) (by kernel_rfl) (by kernel_rfl) (fun v w h => h) fun a w8 L0 hr T => ?_
      have h1 : a.eval (.tmp 15) = .pointer (some ⟨w4.heap.size, 0, none⟩) := T.was 15 (by kernel_rfl)
      have hO : w8.heap[w4.heap.size]? = some (.cells #[.int .u64 th, .int .u64 tl, .int .i64 f, .int .i64 la, .bool su, .slice eA q ec] 30 (0, 0)) := (hr.block _ (in_heap HE1.out)).trans HE1.out
      have v0 : w8.cell? ⟨w4.heap.size, 0, none⟩ = some (.int .u64 th) := cell_of_row _ _ 0 _ _ (0, 0) hO
      have v1 : w8.cell? ⟨w4.heap.size, 1, none⟩ = some (.int .u64 tl) := cell_of_row _ _ 1 _ _ (0, 0) hO
      have v2 : w8.cell? ⟨w4.heap.size, 2, none⟩ = some (.int .i64 f) := cell_of_row _ _ 2 _ _ (0, 0) hO
      have v3 : w8.cell? ⟨w4.heap.size, 3, none⟩ = some (.int .i64 la) := cell_of_row _ _ 3 _ _ (0, 0) hO
      have v4 : w8.cell? ⟨w4.heap.size, 4, none⟩ = some (.bool su) := cell_of_row _ _ 4 _ _ (0, 0) hO
      have v5 : w8.cell? ⟨w4.heap.size, 5, none⟩ = some (.slice eA q ec) := cell_of_row _ _ 5 _ _ (0, 0) hO
      exact ⟨.agg #[.int .u64 th, .int .u64 tl, .int .i64 f, .int .i64 la, .bool su, .slice eA q ec], w8, by simp only [execOp, h1]; simp [go_sem, v0, v1, v2, v3, v4, v5], PI.Post.pure ⟨fun w => Below.refl _ w, fun _ _ _ h k => h.trans (k.mono h.size)⟩ rfl trivial⟩
    · obtain rfl := Option.some.inj (show some _ = some o from ho)
      refine PI.shown_val_if 29 95 true rfl (by kernel_rfl) (by kernel_rfl) (by kernel_rfl) (fun v w h => h) fun a w8 L0 hr T => ?_
      have h1 : a.eval (.tmp 96) = .agg #[.int .u64 th, .int .u64 tl, .int .i64 f, .int .i64 la, .bool su, .slice eA q ec] := T.at_ 30 96 (by kernel_rfl) (by kernel_rfl) (by kernel_rfl)
      have hb9 : Below w8.heap.size w8 (w8.alloc (.cells #[.int .u64 th, .int .u64 tl, .int .i64 f, .int .i64 la, .bool su, .slice eA q ec] 30)) := (Below.refl _ _).alloc (Nat.le_refl _) _
      refine ⟨.slice (some ⟨w8.heap.size, 0, none⟩) 1 1, w8.alloc (.cells #[.int .u64 th, .int .u64 tl, .int .i64 f, .int .i64 la, .bool su, .slice eA q ec] 30), by simp only [execOp, List.map_toArray, List.map_cons, List.map_nil, h1]; simp [go_sem], hb9, ⟨⟨w8.heap.size, 0, none⟩, w8.heap.size + 1, rfl, by simp, ?_, fun e he => ?_⟩, fun _ _ h => h, fun j v _ _ _ _ h => h.keep hb9, trivial⟩
      · rw [List.flatMap_cons, List.flatMap_nil, List.append_nil, HC1.out]
        exact Rd.lit w8 _ _
      · rw [List.mem_singleton] at he
        subst he
        exact (((HY1.out.2.below hr).below (hb9.mono hr.size))).more (Nat.le_trans hr.size (Nat.le_succ _))
    · obtain rfl := Option.some.inj (show some _ = some o from ho)
      refine PI.shown_val_if 29 95 true rfl (by kernel_rfl) (by kernel_rfl) (by kernel_rfl) (fun v w h => h) fun a w8 L0 hr T => ?_
      have h1 : a.eval (.tmp 18) = .pointer (some ⟨w5.heap.size, 0, none⟩) := T.was 18 (by kernel_rfl)
      have hO : w8.heap[w5.heap.size]? = some (.cells #[.int .u64 th2, .int .u64 tl2, .int .i64 f2, .int .i64 la2, .bool su2, .slice eA2 q2 ec2] 30 (0, 0)) := (hr.block _ (in_heap HE2.out)).trans HE2.out
      have v0 : w8.cell? ⟨w5.heap.size, 0, none⟩ = some (.int .u64 th2) := cell_of_row _ _ 0 _ _ (0, 0) hO
      have v1 : w8.cell? ⟨w5.heap.size, 1, none⟩ = some (.int .u64 tl2) := cell_of_row _ _ 1 _ _ (0, 0) hO
      have v2 : w8.cell? ⟨w5.heap.size, 2, none⟩ = some (.int .i64 f2) := cell_of_row _ _ 2 _ _ (0, 0) hO
      have v3 : w8.cell? ⟨w5.heap.size, 3, none⟩ = some (.int .i64 la2) := cell_of_row _ _ 3 _ _ (0, 0) hO
      have v4 : w8.cell? ⟨w5.heap.size, 4, none⟩ = some (.bool su2) := cell_of_row _ _ 4 _ _ (0, 0) hO
      have v5 : w8.cell? ⟨w5.heap.size, 5, none⟩ = some (.slice eA2 q2 ec2) := cell_of_row _ _ 5 _ _ (0, 0) hO
      exact ⟨.agg #[.int .u64 th2, .int .u64 tl2, .int .i64 f2, .int .i64 la2, .bool su2, .slice eA2 q2 ec2], w8, by simp only [execOp, h1]; simp [go_sem, v0, v1, v2, v3, v4, v5], PI.Post.pure ⟨fun w => Below.refl _ w, fun _ _ _ h k => h.trans (k.mono h.size)⟩ rfl trivial⟩
    · obtain rfl := Option.some.inj (show some _ = some o from ho)
      refine PI.shown_val_if 29 95 true rfl (by kernel_rfl) (by kernel_rfl) (by kernel_rfl) (fun v w h => h) fun a w8 L0 hr T => ?_
      have h1 : a.eval (.tmp 98) = .agg #[.int .u64 th2, .int .u64 tl2, .int .i64 f2, .int .i64 la2, .bool su2, .slice eA2 q2 ec2] := T.at_ 32 98 (by kernel_rfl) (by kernel_rfl) (by kernel_rfl)
      have hb9 : Below w8.heap.size w8 (w8.alloc (.cells #[.int .u64 th2, .int .u64 tl2, .int .i64 f2, .int .i64 la2, .bool su2, .slice eA2 q2 ec2] 30)) := (Below.refl _ _).alloc (Nat.le_refl _) _
      refine ⟨.slice (some ⟨w8.heap.size, 0, none⟩) 1 1, w8.alloc (.cells #[.int .u64 th2, .int .u64 tl2, .int .i64 f2, .int .i64 la2, .bool su2, .slice eA2 q2 ec2] 30), by simp only [execOp, List.map_toArray, List.map_cons, List.map_nil, h1]; simp [go_sem], hb9, ⟨⟨w8.heap.size, 0, none⟩, w8.heap.size + 1, rfl, by simp, ?_, fun e he => ?_⟩, fun _ _ h => h, fun j v _ _ _ _ h => h.keep hb9, trivial⟩
      · rw [List.flatMap_cons, List.flatMap_nil, List.append_nil, HC2.out]
        exact Rd.lit w8 _ _
      · rw [List.mem_singleton] at he
        subst he
        exact (((HY2.out.2.below hr).below (hb9.mono hr.size))).more (Nat.le_trans hr.size (Nat.le_succ _))
    · obtain rfl := Option.some.inj (show some _ = some o from ho)
      refine PI.shown_call_if 29 95 true rfl (by kernel_rfl) (by kernel_rfl) (by kernel_rfl) (fun v w h => h) 26 fun a w8 L0 hr T => ?_
      obtain ⟨aS, B5, h1, h2, h3⟩ : ∃ (aS : Addr) (B : Nat), a.eval (.tmp 97) = .slice (some aS) 1 1 ∧ B ≤ w8.heap.size ∧ RdEps w8 B (some aS) [y1] := T.at_ 31 97 (by kernel_rfl) (by kernel_rfl) (by kernel_rfl)
      obtain ⟨aT, B6, k1, k2, k3⟩ : ∃ (aS : Addr) (B : Nat), a.eval (.tmp 99) = .slice (some aS) 1 1 ∧ B ≤ w8.heap.size ∧ RdEps w8 B (some aS) [y2] := T.at_ 33 99 (by kernel_rfl) (by kernel_rfl) (by kernel_rfl)
      refine ⟨#[.slice (some aS) 1 1, .slice (some aT) 1 1], by simp only [execOp, resolve, List.map_toArray, List.map_cons, List.map_nil, h1, k1]; simp [go_sem, Act.eval], ?_⟩
      refine (sameeps_eq (some aS) (some aT) [y1] [y2] 1 1 1 w8.heap.size w8 rfl (h3.more h2) (k3.more k2) (by simpa using HYY.out.1) (Nat.le_refl _) (by omega) (fun e he => by rw [List.mem_singleton] at he; subst he; exact HYY.out.2)).mono fun e w9 hh => ?_
      obtain ⟨rfl, hb9⟩ := hh
      exact ⟨_, rfl, hb9, rfl, fun _ _ h => h, fun j v _ _ _ _ h => h.keep hb9, trivial⟩
    · obtain rfl := Option.some.inj (show some _ = some o from ho)
      refine PI.shown_val rfl fun a w8 L0 hr T => ?_
      have h1 : a.eval (.tmp 95) = .bool true := T.at_ 29 95 (by kernel_rfl) (by kernel_rfl) (by kernel_rfl)
      have h2 : a.eval (.tmp 100) = .bool true := T.at_ 34 100 (by kernel_rfl) (by kernel_rfl) (by kernel_rfl)
      exact ⟨.bool true, w8, by simp only [execOp, h1, h2]; simp [go_sem, Act.eval], PI.Post.pure ⟨fun w => Below.refl _ w, fun _ _ _ h k => h.trans (k.mono h.size)⟩ rfl trivial⟩
    · obtain rfl := Option.some.inj (show some _ = some o from ho)
      refine PI.shown_val rfl fun a w8 L0 hr T => ?_
      have h1 : a.eval (.tmp 101) = .bool true := T.at_ 35 101 (by kernel_rfl) (by kernel_rfl) (by kernel_rfl)
      exact ⟨.bool true, w8, by simp only [execOp, h1]; simp [go_sem], PI.Post.pure ⟨fun w => Below.refl _ w, fun _ _ _ h k => h.trans (k.mono h.size)⟩ rfl trivial⟩
    · obtain rfl := Option.some.inj (show some _ = some o from ho)
      refine PI.shown_val_if 36 102 true rfl (by kernel_rfl) (by kernel_rfl) (by kernel_rfl) (fun v w h => h) fun a w8 L0 hr T => ?_
      have h1 : a.eval (.tmp 20) = .slice pA um pc := T.was 20 (by kernel_rfl)
      exact ⟨.slice pA um pc, w8, by simp only [execOp, h1]; simp [go_sem], PI.Post.pure ⟨fun w => Below.refl _ w, fun _ _ _ h k => h.trans (k.mono h.size)⟩ rfl trivial⟩
    · obtain rfl := Option.some.inj (show some _ = some o from ho)
      refine PI.shown_val_if 36 102 true rfl (by kernel_rfl) (by kernel_rfl) (by kernel_rfl) (fun v w h => h) fun a w8 L0 hr T => ?_
      have h1 : a.eval (.tmp 22) = .slice uA um uc := T.was 22 (by kernel_rfl)
      exact ⟨.slice uA um uc, w8, by simp only [execOp, h1]; simp [go_sem], PI.Post.pure ⟨fun w => Below.refl _ w, fun _ _ _ h k => h.trans (k.mono h.size)⟩ rfl trivial⟩
    · obtain rfl := Option.some.inj (show some _ = some o from ho)
      refine PI.shown_call_if 36 102 true rfl (by kernel_rfl) (by kernel_rfl) (by kernel_rfl) (fun v w h => h) 26 fun a w8 L0 hr T => ?_
      have h1 : a.eval (.tmp 103) = .slice pA um pc := T.at_ 37 103 (by kernel_rfl) (by kernel_rfl) (by kernel_rfl)
      have h2 : a.eval (.tmp 104) = .slice uA um uc := T.at_ 38 104 (by kernel_rfl) (by kernel_rfl) (by kernel_rfl)
      refine ⟨#[.slice pA um pc, .slice uA um uc], by simp only [execOp, resolve, List.map_toArray, List.map_cons, List.map_nil, h1, h2]; simp [go_sem, Act.eval], ?_⟩
      refine (HSP.out w8 hr).mono fun e w9 hh => ?_
      obtain ⟨rfl, hb9⟩ := hh
      exact ⟨_, rfl, hb9, rfl, fun _ _ h => h, fun j v _ _ _ _ h => h.keep hb9, trivial⟩
    · obtain rfl := Option.some.inj (show some _ = some o from ho)
      refine PI.shown_val rfl fun a w8 L0 hr T => ?_
      have h1 : a.eval (.tmp 102) = .bool true := T.at_ 36 102 (by kernel_rfl) (by kernel_rfl) (by kernel_rfl)
      have h2 : a.eval (.tmp 105) = .bool true := T.at_ 39 105 (by kernel_rfl) (by kernel_rfl) (by kernel_rfl)
      exact ⟨.bool true, w8, by simp only [execOp, h1, h2]; simp [go_sem, Act.eval], PI.Post.pure ⟨fun w => Below.refl _ w, fun _ _ _ h k => h.trans (k.mono h.size)⟩ rfl trivial⟩
    · obtain rfl := Option.some.inj (show some _ = some o from ho)
      refine PI.shown_val rfl fun a w8 L0 hr T => ?_
      have h1 : a.eval (.tmp 106) = .bool true := T.at_ 40 106 (by kernel_rfl) (by kernel_rfl) (by kernel_rfl)
      exact ⟨.bool true, w8, by simp only [execOp, h1]; simp [go_sem], PI.Post.pure ⟨fun w => Below.refl _ w, fun _ _ _ h k => h.trans (k.mono h.size)⟩ rfl trivial⟩
    · obtain rfl := Option.some.inj (show some _ = some o from ho)
      refine PI.shown_val_if 41 107 true rfl (by kernel_rfl) (by kernel_rfl) (by kernel_rfl) (fun v w h => h) fun a w8 L0 hr T => ?_
      have h1 : a.eval (.tmp 21) = .slice qA vm qc := T.was 21 (by kernel_rfl)
      exact ⟨.slice qA vm qc, w8, by simp only [execOp, h1]; simp [go_sem], PI.Post.pure ⟨fun w => Below.refl _ w, fun _ _ _ h k => h.trans (k.mono h.size)⟩ rfl trivial⟩
    · obtain rfl := Option.some.inj (show some _ = some o from ho)
      refine PI.shown_val_if 41 107 true rfl (by kernel_rfl) (by kernel_rfl) (by kernel_rfl) (fun v w h => h) fun a w8 L0 hr T => ?_
      have h1 : a.eval (.tmp 23) = .slice vA vm vc := T.was 23 (by kernel_rfl)
      exact ⟨.slice vA vm vc, w8, by simp only [execOp, h1]; simp [go_sem], PI.Post.pure ⟨fun w => Below.refl _ w, fun _ _ _ h k => h.trans (k.mono h.size)⟩ rfl trivial⟩
    · obtain rfl := Option.some.inj (show some _ = some o from ho)
      refine PI.shown_call_if 41 107 true rfl (by kernel_rfl) (by kernel_rfl) (by kernel_rfl) (fun v w h => h) 26 fun a w8 L0 hr T => ?_
      have h1 : a.eval (.tmp 108) = .slice qA vm qc := T.at_ 42 108 (by kernel_rfl) (by kernel_rfl) (by kernel_rfl)
      have h2 : a.eval (.tmp 109) = .slice vA vm vc := T.at_ 43 109 (by kernel_rfl) (by kernel_rfl) (by kernel_rfl)
      refine ⟨#[.slice qA vm qc, .slice vA vm vc], by simp only [execOp, resolve, List.map_toArray, List.map_cons, List.map_nil, h1, h2]; simp [go_sem, Act.eval], ?_⟩
      refine (HSQ.out w8 hr).mono fun e w9 hh => ?_
      obtain ⟨rfl, hb9⟩ := hh
      exact ⟨_, rfl, hb9, rfl, fun _ _ h => h, fun j v _ _ _ _ h => h.keep hb9, trivial⟩
    · obtain rfl := Option.some.inj (show some _ = some o from ho)
      refine PI.shown_val rfl fun a w8 L0 hr T => ?_
      have h1 : a.eval (.tmp 107) = .bool true := T.at_ 41 107 (by kernel_rfl) (by kernel_rfl) (by kernel_rfl)
      have h2 : a.eval (.tmp 110) = .bool true := T.at_ 44 110 (by kernel_rfl) (by kernel_rfl) (by kernel_rfl)
      exact ⟨.bool true, w8, by simp only [execOp, h1, h2]; simp [go_sem, Act.eval], PI.Post.pure ⟨fun w => Below.refl _ w, fun _ _ _ h k => h.trans (k.mono h.size)⟩ rfl trivial⟩
    · obtain rfl := Option.some.inj (show some _ = some o from ho)
      refine PI.shown_val rfl fun a w8 L0 hr T => ?_
      have h1 : a.eval (.tmp 111) = .bool true := T.at_ 45 111 (by kernel_rfl) (by kernel_rfl) (by kernel_rfl)
      exact ⟨.bool true, w8, by simp only [execOp, h1]; simp [go_sem], PI.Post.pure ⟨fun w => Below.refl _ w, fun _ _ _ h k => h.trans (k.mono h.size)⟩ rfl trivial⟩
    · cases ho
  · rw [← hW]
    intro x w9 hr hf he _
    have h46 := hf 46 _ 12 rfl rfl (by decide)
    have hx46 : x 46 = .bool true := h46
    have HB9 := Lib.hid ((HWB.out _ HBW.out).1.trans (hr.mono hwW))
    clear hf he hr h46
    simp only [PI.putAll, Act.put, List.setIfInBounds_toArray, List.set_cons_zero, List.set_cons_succ]
    rw [hx46]
    go_wp2_with fail
    go_ret
    exact ⟨rfl, HB9.out⟩
end Go.Proofs.Ytenioeppmgmdiaa
