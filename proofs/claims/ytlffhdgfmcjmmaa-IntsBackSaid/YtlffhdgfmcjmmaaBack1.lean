/- IntsBack: a number, and a text, is read as it was written, whatever stands behind it, and from no beginning of it. -/
import Derived.Test.YtlffhdgfmcjmmaaAlive1
import Derived.Deep.RegionWith
namespace Go.Proofs.Ytlffhdgfmcjmmaa
open Go.RowKit

set_option maxHeartbeats 1000000 in
set_option maxRecDepth 100000 in
theorem back_out (n : Int) (s : ByteArray) (A : Option Addr) (l : List UInt8) (c : Nat) (cut : Int) (w : World) (h : 300 < s.size ∨ 100 < l.length ∨ cut < 0) (hs : s.size ≤ maxLen) (hl : l.length ≤ maxLen) :
    Calls Try.prog 4 #[.int .u64 n, .string s, .slice A l.length c, .int .i64 cut] w fun e w' => e = .returned (.bool true) ∧ Below w.heap.size w w' := by
  unfold maxLen at hs hl
  have hh : (300 < s.size) ∨ (¬ 300 < s.size ∧ 100 < l.length) ∨ (¬ 300 < s.size ∧ ¬ 100 < l.length ∧ cut < 0) := by omega
  clear h
  rcases hh with h1 | ⟨h1, h2⟩ | ⟨h1, h2, h3⟩
  all_goals
    go_enter Try.func4, Try.ntmps4
    go_wp2_with (go_at_call 7; refine (alive1_calls _).mono ?_; rintro e w1 ⟨rfl, hb1⟩)
    go_ret
    exact ⟨rfl, hb1⟩

set_option maxHeartbeats 2000000 in
set_option maxRecDepth 100000 in
theorem back_in (n : Nat) (s : ByteArray) (A : Option Addr) (l : List UInt8) (c cut : Nat) (w : World) (hn : n < 18446744073709551616) (hs : s.size ≤ 300) (hl : l.length ≤ 100) (hb : Rd w w.heap.size A (l.map B8)) (hc : cut ≤ 9223372036854775807) :
    Calls Try.prog 4 #[.int .u64 n, .string s, .slice A l.length c, .int .i64 cut] w fun e w' => e = .returned (.bool true) ∧ Below w.heap.size w w' := by
  obtain ⟨i0, hi, hz0, hz1, hz2⟩ := info_parts infoB
  have hsz : s.data.toList.length = s.size := size_list s
  have G1 := Mi.get_put n l hn
  have G2 := Mi.gettext_text s.data.toList l (by omega)
  have G3 : ∀ k, k < (Mi.put n).length → (Mi.get ((Mi.put n).take k)).2.2 = false := fun k hk => Mi.get_take n k hk
  have G4 : ∀ k, k < (Mi.text s.data.toList).length → (Mi.gettext ((Mi.text s.data.toList).take k)).2.2 = false := fun k hk => Mi.gettext_take _ k (by omega) hk
  have p1 := (Mi.put_len n).1
  have p2 := (Mi.put_len n).2
  have p3 := (Mi.put_len s.data.toList.length).1
  have p4 := (Mi.put_len s.data.toList.length).2
  have hlt : (Mi.text s.data.toList).length = (Mi.put s.data.toList.length).length + s.data.toList.length := by simp [Mi.text]
  have p5 : 0 < (Mi.text s.data.toList).length := by omega
  have p6 : (Mi.text s.data.toList).length ≤ 310 := by omega
  have hSS : S8 s.data.toList = s := by cases s; rfl
  clear hsz hlt p3 p4
  have Hput := fun W => Lib.hid (put_calls none [] 0 0 n W Rd.nil (Nat.zero_le _) (by simp) hn)
  have Htext := fun W => Lib.hid (text_calls none [] 0 0 s W Rd.nil (Nat.zero_le _) (by simp) (by omega))
  simp only [List.nil_append] at Hput Htext
  have HSS := Lib.hid hSS
  clear hSS
  generalize Mi.put n = lb at *
  generalize Mi.text s.data.toList = lc at *
  obtain ⟨k, hk⟩ : ∃ k, k = cut % lb.length := ⟨_, rfl⟩
  have hk1 : k < lb.length := by rw [hk]; exact Nat.mod_lt _ p1
  obtain ⟨m, hm⟩ : ∃ m, m = cut % lc.length := ⟨_, rfl⟩
  have hm1 : m < lc.length := by rw [hm]; exact Nat.mod_lt _ p5
  have ek : (cut : Int) % (lb.length : Int) = (k : Int) := by rw [hk]; rfl
  have em : (cut : Int) % (lc.length : Int) = (m : Int) := by rw [hm]; rfl
  have K3 := Lib.hid (G3 k hk1)
  have K4 := Lib.hid (G4 m hm1)
  have K1 := Lib.hid G1
  have K2 := Lib.hid G2
  clear G1 G2 G3 G4 hk hm
  have HB := Lib.hid hb
  clear hb
  have q1 : ((lb.length : Int) == 0) = false := by rw [beq_eq_false_iff_ne]; omega
  have q2 : ((lc.length : Int) == 0) = false := by rw [beq_eq_false_iff_ne]; omega
  have q3 : decide ((lb.length : Int) ≤ 10) = true := by simp; omega
  go_enter Try.func4, Try.ntmps4
  go_wp2_with (first
    | (go_at_call 7; refine (alive1_calls _).mono ?_; rintro e w1 ⟨rfl, hb1⟩; have z1 := hb1.size; have B1 := Lib.hid hb1; clear hb1)
    | (go_at_call 12; refine (Hput _).out.mono ?_; rintro e w2 ⟨v2, rfl, ho2, hg2⟩; have B2 := Lib.hid (hg2.below B1.out z1 (by simp [Value.ownBlock])); have z2 := B2.out.size; obtain ⟨A2, c2, rfl, hc2, hr2⟩ := own_rd ho2; have R2 := Lib.hid hr2; clear ho2 hg2 hr2)
    | (go_at_call 14; refine (Htext _).out.mono ?_; rintro e w3 ⟨v3, rfl, ho3, hg3⟩; have B3 := Lib.hid (hg3.below B2.out z2 (by simp [Value.ownBlock])); have z3 := B3.out.size; have z23 := hg3.grown.size; obtain ⟨A3, c3, rfl, hc3, hr3⟩ := own_rd ho3; have R3 := Lib.hid hr3; have R23 := Lib.hid (R2.out.grew hg3 (Nat.le_refl _) (by simp [Value.ownBlock])); clear ho3 hg3 hr3)
    | (at_builtin; refine wpList_app rfl (.const (.slice none 0 0)) (.tmp 55) _ _ rfl rfl rfl (appB (own_nil _ w3.heap.size) R23.out (by simp; omega) (Nat.le_refl _)) ?_; rintro v4 w4 ⟨ho4, hg4⟩; have O4 := Lib.hid ho4; have B4 := Lib.hid (hg4.below B3.out z3 (by simp [Value.ownBlock])); have z4 := B4.out.size; have z34 := hg4.grown.size; have R34 := Lib.hid (R3.out.grew hg4 (Nat.le_refl _) (by simp [Value.ownBlock])); have R24 := Lib.hid (R23.out.grew hg4 z23 (by simp [Value.ownBlock])); clear ho4 hg4)
    | (at_builtin; refine wpList_app rfl (.tmp 56) (.tmp 57) _ _ rfl rfl rfl (appB O4.out (HB.out.below B4.out) (by simp; omega) z34) ?_; rintro v5 w5 ⟨ho5, hg5⟩; have hge := own_block_ge O4.out; have B5 := Lib.hid (hg5.below B4.out z4 (fun k hk => Nat.le_trans z3 (hge k hk))); have z5 := B5.out.size; have z45 := hg5.grown.size; have R35 := Lib.hid (R34.out.grew hg5 z34 hge); have R25 := Lib.hid (R24.out.grew hg5 (Nat.le_trans z23 z34) (fun k hk => Nat.le_trans z23 (hge k hk))); rw [List.nil_append] at ho5; obtain ⟨A5, c5, rfl, hc5, hr5⟩ := own_rd ho5; have R5 := Lib.hid hr5; clear ho5 hg5 hr5 hge)
    | (go_at_call_of 8 c5; refine (getN _ (lb ++ l) _ _ _ _ (by simp) R5.out (by simp; omega)).mono ?_; rw [K1.out]; rintro e w6 ⟨rfl, rfl⟩)
    | (at_builtin; refine wpList_app rfl (.const (.slice none 0 0)) (.tmp 64) _ _ rfl rfl rfl (appB (own_nil _ w5.heap.size) R35.out (by simp; omega) (Nat.le_refl _)) ?_; rintro v7 w7 ⟨ho7, hg7⟩; have O7 := Lib.hid ho7; have B7 := Lib.hid (hg7.below B5.out z5 (by simp [Value.ownBlock])); have z7 := B7.out.size; have z57 := hg7.grown.size; have R37 := Lib.hid (R35.out.grew hg7 (Nat.le_trans z34 z45) (by simp [Value.ownBlock])); have R27 := Lib.hid (R25.out.grew hg7 (Nat.le_trans z23 (Nat.le_trans z34 z45)) (by simp [Value.ownBlock])); clear ho7 hg7)
    | (at_builtin; refine wpList_app rfl (.tmp 65) (.tmp 66) _ _ rfl rfl rfl (appB O7.out (HB.out.below B7.out) (by simp; omega) z57) ?_; rintro v8 w8 ⟨ho8, hg8⟩; have hge := own_block_ge O7.out; have B8' := Lib.hid (hg8.below B7.out z7 (fun k hk => Nat.le_trans z5 (hge k hk))); have z8 := B8'.out.size; have R38 := Lib.hid (R37.out.grew hg8 (Nat.le_trans (Nat.le_trans z34 z45) z57) (fun k hk => Nat.le_trans (Nat.le_trans z34 z45) (hge k hk))); have R28 := Lib.hid (R27.out.grew hg8 (Nat.le_trans z23 (Nat.le_trans (Nat.le_trans z34 z45) z57)) (fun k hk => Nat.le_trans (Nat.le_trans z23 (Nat.le_trans z34 z45)) (hge k hk))); rw [List.nil_append] at ho8; obtain ⟨A8, c8, rfl, hc8, hr8⟩ := own_rd ho8; have R8 := Lib.hid hr8; clear ho8 hg8 hr8 hge)
    | (go_at_call_of 10 c8; refine (gettextN _ (lc ++ l) _ _ _ _ (by simp) R8.out (by simp; omega) hc8).mono ?_; rw [K2.out, HSS.out]; rintro e w9 ⟨rfl, rfl⟩)
    | (go_at_call_of 8 c2; refine (getN _ (lb.take k) _ _ _ _ (by rw [List.length_take]; omega) (by rw [List.map_take]; exact R28.out.take _) (by rw [List.length_take]; omega)).mono ?_; rw [K3.out]; rintro e w10 ⟨rfl, rfl⟩)
    | (go_at_call_of 10 c3; refine (gettextN _ (lc.take m) _ _ _ _ (by rw [List.length_take]; omega) (by rw [List.map_take]; exact R38.out.take _) (by rw [List.length_take]; omega) (by rw [List.length_take]; omega)).mono ?_; rw [K4.out]; rintro e w11 ⟨rfl, rfl⟩))
  go_ret
  exact ⟨rfl, B8'.out⟩
end Go.Proofs.Ytlffhdgfmcjmmaa
