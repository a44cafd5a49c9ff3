/- CheckAdds: the sums of three texts of one length, xored, are that of the texts, xored. -/
import Derived.Test.YthgcellfibkpfaaRest2
import Derived.Test.YthgcellfibkpfaaApp
import Derived.Deep.RegionHeld3
namespace Go.Proofs.Ythgcellfibkpfaa
open Go.RowKit
set_option linter.unusedVariables false

theorem infoB2 : (Try.prog.info? 5).map (fun i => (i.zero, i.size, i.bytes)) = some (some (.int .u8 0), 1, 1) := by kernel_rfl

set_option maxHeartbeats 1000000 in
set_option maxRecDepth 100000 in
theorem adds_out (aA : Option Addr) (a : List UInt8) (ac : Nat) (bA : Option Addr) (b : List UInt8) (bc : Nat) (cA : Option Addr) (c : List UInt8) (cc : Nat) (w : World)
    (h : 200 < a.length ∨ b.length ≠ a.length ∨ c.length ≠ a.length) (ha : a.length ≤ maxLen) (hb : b.length ≤ maxLen) (hc : c.length ≤ maxLen) :
    Calls Try.prog 5 #[.slice aA a.length ac, .slice bA b.length bc, .slice cA c.length cc] w fun e w' => e = .returned (.bool true) ∧ Below w.heap.size w w' := by
  unfold maxLen at ha hb hc
  have hh : (200 < a.length) ∨ (¬ 200 < a.length ∧ (((b.length : Int) != (a.length : Int)) = true)) ∨ (¬ 200 < a.length ∧ (((b.length : Int) != (a.length : Int)) = false) ∧ (((c.length : Int) != (a.length : Int)) = true)) := by
    simp only [bne_iff_ne, bne_eq_false_iff_eq]; omega
  clear h
  rcases hh with h1 | ⟨h1, h2⟩ | ⟨h1, h2, h3⟩
  all_goals
    go_enter Try.func5, Try.ntmps5
    go_wp2_with (go_at_call 7; refine (alive2_calls _).mono ?_; rintro e w1 ⟨rfl, hb1⟩)
    go_ret
    exact ⟨rfl, hb1⟩
theorem xor3_get : ∀ (l m k : List UInt8) (i : Nat), m.length = l.length → k.length = l.length → i < l.length → (Cm.xor3 l m k).take (i + 1) = (Cm.xor3 l m k).take i ++ [l.getD i 0 ^^^ m.getD i 0 ^^^ k.getD i 0]
  | [], _, _, _, _, _, h => absurd h (by simp)
  | a :: l, b :: m, c :: k, 0, _, _, _ => by simp [Cm.xor3]
  | a :: l, b :: m, c :: k, i + 1, h1, h2, h => by
    have := xor3_get l m k i (by simpa using h1) (by simpa using h2) (by simpa using h)
    simp only [Cm.xor3, List.take_succ_cons, List.cons_append]
    rw [this]
    rfl
  | a :: l, [], _, _, h1, _, _ => absurd h1 (by simp)
  | a :: l, b :: m, [], _, _, h2, _ => absurd h2 (by simp)

set_option maxHeartbeats 2000000 in
set_option maxRecDepth 100000 in
theorem adds_in (aA : Option Addr) (a : List UInt8) (ac : Nat) (bA : Option Addr) (b : List UInt8) (bc : Nat) (cA : Option Addr) (c : List UInt8) (cc : Nat) (w : World)
    (ha : a.length ≤ 200) (hb : b.length = a.length) (hc : c.length = a.length) (ra : Rd w w.heap.size aA (a.map B8)) (rb : Rd w w.heap.size bA (b.map B8)) (rc : Rd w w.heap.size cA (c.map B8)) :
    Calls Try.prog 5 #[.slice aA a.length ac, .slice bA b.length bc, .slice cA c.length cc] w fun e w' => e = .returned (.bool true) ∧ Below w.heap.size w w' := by
  obtain ⟨i0, hi, hz0, hz1, hz2⟩ := info_parts infoB2
  have SA := Lib.hid (fun W (h : Below w.heap.size w W) => sum_calls aA a ac _ W (ra.below h) (by omega))
  have SB := Lib.hid (fun W (h : Below w.heap.size w W) => sumN bA b a.length bc _ W hb.symm (rb.below h) (by omega))
  have SC := Lib.hid (fun W (h : Below w.heap.size w W) => sumN cA c a.length cc _ W hc.symm (rc.below h) (by omega))
  have S3 := Cm.sum3 a b c hb hc
  have L3 := Cm.xor3_len a b c hb hc
  have x1 := Cm.sum_lt a
  have x2 := Cm.sum_lt b
  have x3 := Cm.sum_lt c
  have e1 := u32_xor_nat _ _ x1 x2
  have e2 := u32_xor_nat _ _ (Cm.xor_lt x1 x2) x3
  rw [S3] at e2
  have G3 := Lib.hid (fun i (h : i < a.length) => xor3_get a b c i hb hc h)
  have SD := Lib.hid (fun A c' B W hb => sumN A (Cm.xor3 a b c) a.length c' B W L3.symm hb (by omega))
  have L3' := Lib.hid L3
  clear S3 L3
  generalize Cm.sum (Cm.xor3 a b c) = sd at *
  generalize Cm.sum a = sa at *
  generalize Cm.sum b = sb at *
  generalize Cm.sum c = sc at *
  generalize sa ^^^ sb = sab at *
  generalize Cm.xor3 a b c = x at *
  have q2 : ((b.length : Int) != (a.length : Int)) = false := by rw [bne_eq_false_iff_eq]; omega
  have q3 : ((c.length : Int) != (a.length : Int)) = false := by rw [bne_eq_false_iff_eq]; omega
  have RA := Lib.hid ra
  have RB := Lib.hid rb
  have RC := Lib.hid rc
  clear ra rb rc
  rw [hb, hc]
  have hB := Lib.hid hb
  have hC := Lib.hid hc
  rw [hb] at q2
  rw [hc] at q3
  clear hb hc
  generalize hn : a.length = n at *
  go_enter Try.func5, Try.ntmps5
  go_wp2_with (first
    | (go_at_call 7; refine (alive2_calls _).mono ?_; rintro e w1 ⟨rfl, hb1⟩; have B1 := Lib.hid hb1; clear hb1))
  go_loopw [8, 9] (fun d i wr => ∃ k : Nat, k ≤ n ∧ i = .int .i64 k ∧ wr.ownsRow w1.heap.size 5 1 d (x.take k).length ((x.take k).map B8) ∧ Grew w1 wr (.slice none 0 0) d) (fun _ i _ => n - (intOf i).toNat)
  case atStart => exact ⟨0, by omega, rfl, by simpa using World.ownsRow_nil _ _ _ _, Grew.refl _ _⟩
  case round =>
    obtain ⟨k, hk, rfl, ho, hg⟩ := hrel
    have Bw := Lib.hid (hg.below B1.out B1.out.size (by simp [Value.ownBlock]))
    have zz := hg.grown.size
    by_cases hlt : k < n
    · obtain ⟨aa, rfl, ba_, hca⟩ := (RA.out.below Bw.out).byte (k := k) (by omega)
      obtain ⟨ba, rfl, bb_, hcb⟩ := (RB.out.below Bw.out).byte (k := k) (by rw [hB.out]; omega)
      obtain ⟨ca, rfl, bc_, hcc⟩ := (RC.out.below Bw.out).byte (k := k) (by rw [hC.out]; omega)
      have na := World.new_ne wr _ hca
      have nb := World.new_ne wr _ hcb
      have nc := World.new_ne wr _ hcc
      have KA : Hid ((aa.add k).block < w1.heap.size ∧ (ba.add k).block < w1.heap.size ∧ (ca.add k).block < w1.heap.size) := by
        have := B1.out.size
        show (aa.add k).block < w1.heap.size ∧ (ba.add k).block < w1.heap.size ∧ (ca.add k).block < w1.heap.size
        rw [block_add, block_add, block_add]
        exact ⟨by omega, by omega, by omega⟩
      clear ba_ bb_ bc_
      have G := Lib.hid (G3.out k hlt)
      have p1 := (a.getD k 0).toNat_lt
      have p2 := (b.getD k 0).toNat_lt
      have p3 := (c.getD k 0).toNat_lt
      have f1 := u8_xor_nat _ _ p1 p2
      have p12 : (a.getD k 0).toNat ^^^ (b.getD k 0).toNat < 256 := Nat.xor_lt_two_pow (n := 8) p1 p2
      have f2 := u8_xor_nat _ _ p12 p3
      obtain ⟨y, hy⟩ : ∃ y : UInt8, y = a.getD k 0 ^^^ b.getD k 0 ^^^ c.getD k 0 := ⟨_, rfl⟩
      have hyn : (a.getD k 0).toNat ^^^ (b.getD k 0).toNat ^^^ (c.getD k 0).toNat = y.toNat := by rw [hy, UInt8.toNat_xor, UInt8.toNat_xor]
      rw [hyn] at f2
      rw [← hy] at G
      have hO := Lib.hid ho
      have hG := Lib.hid hg
      clear hy hyn ho hg
      generalize (a.getD k 0).toNat ^^^ (b.getD k 0).toNat = ab at *
      generalize (a.getD k 0).toNat = va at *
      generalize (b.getD k 0).toNat = vb at *
      generalize (c.getD k 0).toNat = vc at *
      have hxk : (x.take k).length ≤ 200 := by rw [List.length_take]; omega
      have ik0 : (0 : Int) ≤ (k : Int) := by omega
      have ik1 : (k : Int) < (n : Int) := by omega
      go_wp2
      go_region_held3 (fun w' => w'.cell? (aa.add k) = some (.int .u8 (va : Int)) ∧ w'.cell? (ba.add k) = some (.int .u8 (vb : Int)) ∧ w'.cell? (ca.add k) = some (.int .u8 (vc : Int)))
        (first
          | go_keep
          | (have hge := own_block_ge hO.out; exact ⟨(hg1.cell (by simp; omega) hge KA.out.1).trans (by go_simp), (hg1.cell (by simp; omega) hge KA.out.2.1).trans (by go_simp), (hg1.cell (by simp; omega) hge KA.out.2.2).trans (by go_simp)⟩))
        ((refine step_app (by rfl) (.tmp 39) (.tmp 54) _ _ (by rfl) (by rfl) (by rfl) (run_append_rd _ w1.heap.size _ _ 5 i0 _ 1 1 Try.underlying22 hi hz0 hz1 hz2 rfl u8 _ _ (own_drew (hO.out.alloc _)) (wr.heap.size + 1) (some ⟨wr.heap.size, 0, none⟩) 1 1 [.int .u8 (y.toNat : Int)] rfl (Rd.one wr _ _).drew (by simp [Value.oneCell']) (by unfold maxLen; omega) (by omega) (by simp; omega)) ?_; rintro v2 w2 ⟨ho1, hg1⟩))
      go_wp2
      go_roundw
      case rel =>
        have e1 : (x.take (k + 1)).map B8 = (x.take k).map B8 ++ [.int .u8 (y.toNat : Int)] := by rw [G.out, List.map_append]; rfl
        have e2 : (x.take (k + 1)).length = (x.take k).length + 1 := by rw [G.out]; simp
        exact ⟨k + 1, by omega, by go_num, by rw [e1, e2]; exact ho1, hG.out.trans (grew_drew hg1).alloc⟩
      case measure => simp [intOf]; omega
    · have hk2 : k = n := by omega
      subst hk2
      obtain ⟨dA, dc, hdv, hdc, hdr⟩ := own_rd ho
      have hLx : x.take k = x := List.take_of_length_le (by rw [L3'.out]; omega)
      rw [hLx] at hdv hdc hdr
      rw [L3'.out] at hdv hdc
      subst hdv
      have HD := Lib.hid (SD.out dA dc _ wr hdr)
      have HAA := Lib.hid (SA.out wr Bw.out)
      have HBB := Lib.hid (SB.out wr Bw.out)
      have HCC := Lib.hid (SC.out wr Bw.out)
      clear hdr ho hg hLx hdc
      go_wp2_with (first
        | (have hd := done3; clear done3; go_at_call 8; refine HD.out.mono ?_; rintro e w5 ⟨rfl, rfl⟩)
        | (have hd := done2; clear done2; go_at_call 8; refine HCC.out.mono ?_; rintro e w4 ⟨rfl, rfl⟩; have done3 := trivial)
        | (have hd := done1; clear done1; go_at_call 8; refine HBB.out.mono ?_; rintro e w3 ⟨rfl, rfl⟩; have done2 := trivial)
        | (go_at_call 8; refine HAA.out.mono ?_; rintro e w2 ⟨rfl, rfl⟩; have done1 := trivial))
      go_ret
      exact ⟨rfl, Bw.out⟩
end Go.Proofs.Ythgcellfibkpfaa
