/- IntsTell: how any number and text is written, and which any bytes begin with. -/
import Derived.Test.YthkclgkbidhmbaaAlive1
import Derived.Test.YthkclgkbidhmbaaPerr
namespace Go.Proofs.Ythkclgkbidhmbaa
open Go.RowKit
set_option linter.unusedVariables false
set_option maxRecDepth 100000

/-- What each operation of the law's last expression leaves. -/
def TF (l : List UInt8) (N : Nat) (s : ByteArray) (A : Option Addr) (n c V K : Nat) (OK : Bool) (TX : ByteArray) (P : Nat) (HAS : Bool) (base : Nat) : Nat → Value → World → Prop
  | 0, v, _ => v = .int .u64 (V : Int)
  | 1, v, _ => v = .int .u64 (V : Int)
  | 2, v, _ => v = .bool true
  | 3, v, _ => v = .bool true
  | 4, v, _ => v = .int .i64 (K : Int)
  | 5, v, _ => v = .int .i64 (K : Int)
  | 6, v, _ => v = .bool true
  | 7, v, _ => v = .bool true
  | 8, v, _ => v = .bool true
  | 9, v, _ => v = .bool OK
  | 10, v, _ => v = .bool OK
  | 11, v, _ => v = .bool true
  | 12, v, _ => v = .bool true
  | 13, v, _ => v = .bool true
  | 14, v, _ => v = .string TX
  | 15, v, _ => v = .string TX
  | 16, v, _ => v = .bool true
  | 17, v, _ => v = .bool true
  | 18, v, _ => v = .bool true
  | 19, v, _ => v = .int .i64 (P : Int)
  | 20, v, _ => v = .int .i64 (P : Int)
  | 21, v, _ => v = .bool true
  | 22, v, _ => v = .bool true
  | 23, v, _ => v = .bool true
  | 24, v, _ => v = .bool HAS
  | 25, v, _ => v = .bool HAS
  | 26, v, _ => v = .bool true
  | 27, v, _ => v = .bool true
  | 28, v, _ => v = .bool true
  | 29, v, _ => v = .slice A n c
  | 30, v, _ => v = .int .u64 (N : Int)
  | 31, v, w => w.ownsRow base 5 1 v (l ++ Mi.put N).length ((l ++ Mi.put N).map B8)
  | 32, v, _ => v = .string (S8 (l ++ Mi.put N))
  | 33, v, _ => v = .slice A n c
  | 34, v, w => w.ownsRow base 5 1 v l.length (l.map B8)
  | 35, v, _ => v = .int .u64 (N : Int)
  | 36, v, w => w.ownsRow base 5 1 v (l ++ Mi.put N).length ((l ++ Mi.put N).map B8)
  | 37, v, _ => v = .string (S8 (l ++ Mi.put N))
  | 38, v, _ => v = .bool true
  | 39, v, _ => v = .bool true
  | 40, v, _ => v = .bool true
  | 41, v, _ => v = .slice A n c
  | 42, v, _ => v = .string s
  | 43, v, w => w.ownsRow base 5 1 v (l ++ Mi.text s.data.toList).length ((l ++ Mi.text s.data.toList).map B8)
  | 44, v, _ => v = .string (S8 (l ++ Mi.text s.data.toList))
  | 45, v, _ => v = .slice A n c
  | 46, v, w => w.ownsRow base 5 1 v l.length (l.map B8)
  | 47, v, _ => v = .string s
  | 48, v, w => w.ownsRow base 5 1 v (l ++ Mi.text s.data.toList).length ((l ++ Mi.text s.data.toList).map B8)
  | 49, v, _ => v = .string (S8 (l ++ Mi.text s.data.toList))
  | 50, v, _ => v = .bool true
  | 51, v, _ => v = .bool true
  | 52, v, _ => v = .bool true
  | _, _, _ => True
section
variable {l : List UInt8} {N : Nat} {s : ByteArray} {A : Option Addr} {n c V K : Nat} {OK : Bool} {TX : ByteArray} {P : Nat} {HAS : Bool} {base : Nat} {w w' : World}
/-- Those that leave a row say so; the others speak of no world. -/
theorem TF.keep {i : Nat} {v : Value} (h : TF l N s A n c V K OK TX P HAS base i v w) (hr : ∀ m xs, w.ownsRow base 5 1 v m xs → w'.ownsRow base 5 1 v m xs) : TF l N s A n c V K OK TX P HAS base i v w' := by
  match i, h with
  | 0, h => exact h
  | 1, h => exact h
  | 2, h => exact h
  | 3, h => exact h
  | 4, h => exact h
  | 5, h => exact h
  | 6, h => exact h
  | 7, h => exact h
  | 8, h => exact h
  | 9, h => exact h
  | 10, h => exact h
  | 11, h => exact h
  | 12, h => exact h
  | 13, h => exact h
  | 14, h => exact h
  | 15, h => exact h
  | 16, h => exact h
  | 17, h => exact h
  | 18, h => exact h
  | 19, h => exact h
  | 20, h => exact h
  | 21, h => exact h
  | 22, h => exact h
  | 23, h => exact h
  | 24, h => exact h
  | 25, h => exact h
  | 26, h => exact h
  | 27, h => exact h
  | 28, h => exact h
  | 29, h => exact h
  | 30, h => exact h
  | 31, h => exact hr _ _ h
  | 32, h => exact h
  | 33, h => exact h
  | 34, h => exact hr _ _ h
  | 35, h => exact h
  | 36, h => exact hr _ _ h
  | 37, h => exact h
  | 38, h => exact h
  | 39, h => exact h
  | 40, h => exact h
  | 41, h => exact h
  | 42, h => exact h
  | 43, h => exact hr _ _ h
  | 44, h => exact h
  | 45, h => exact h
  | 46, h => exact hr _ _ h
  | 47, h => exact h
  | 48, h => exact hr _ _ h
  | 49, h => exact h
  | 50, h => exact h
  | 51, h => exact h
  | 52, h => exact h
  | _ + 53, h => trivial
end

theorem PI.ToldG.done_ {ops : Array Oper} {a0 : Act} {R : World → World → Prop} {G : Nat → World → Prop} {FF : Nat → Value → World → Prop} {nd : List (Nat × Nat)} {I : (Nat → Bool) → Act → World → Prop} {L : Nat → Bool} {i : Nat} {o : Oper} {a : Act} {w : World} (T : PI.ToldG ops a0 R G FF nd I L i o a w) (j : Nat) (h : (o.after.any fun e => Region.binds .any e && e.on == j) = true) : L j = true := by
  obtain ⟨e, he, hb, rfl⟩ := PI.after_of h
  exact T.done e he hb
section
variable {l : List UInt8} {N : Nat} {s : ByteArray} {A : Option Addr} {n c V K : Nat} {OK : Bool} {TX : ByteArray} {P : Nat} {HAS : Bool} {base : Nat} {w w' : World}
theorem TF.other {i : Nat} {v : Value} (h : TF l N s A n c V K OK TX P HAS base i v w) (hi : ¬ (i = 31 ∨ i = 34 ∨ i = 36 ∨ i = 43 ∨ i = 46 ∨ i = 48)) : TF l N s A n c V K OK TX P HAS base i v w' := by
  match i, h, hi with
  | 0, h, hi => exact h
  | 1, h, hi => exact h
  | 2, h, hi => exact h
  | 3, h, hi => exact h
  | 4, h, hi => exact h
  | 5, h, hi => exact h
  | 6, h, hi => exact h
  | 7, h, hi => exact h
  | 8, h, hi => exact h
  | 9, h, hi => exact h
  | 10, h, hi => exact h
  | 11, h, hi => exact h
  | 12, h, hi => exact h
  | 13, h, hi => exact h
  | 14, h, hi => exact h
  | 15, h, hi => exact h
  | 16, h, hi => exact h
  | 17, h, hi => exact h
  | 18, h, hi => exact h
  | 19, h, hi => exact h
  | 20, h, hi => exact h
  | 21, h, hi => exact h
  | 22, h, hi => exact h
  | 23, h, hi => exact h
  | 24, h, hi => exact h
  | 25, h, hi => exact h
  | 26, h, hi => exact h
  | 27, h, hi => exact h
  | 28, h, hi => exact h
  | 29, h, hi => exact h
  | 30, h, hi => exact h
  | 31, h, hi => exact absurd (by decide) hi
  | 32, h, hi => exact h
  | 33, h, hi => exact h
  | 34, h, hi => exact absurd (by decide) hi
  | 35, h, hi => exact h
  | 36, h, hi => exact absurd (by decide) hi
  | 37, h, hi => exact h
  | 38, h, hi => exact h
  | 39, h, hi => exact h
  | 40, h, hi => exact h
  | 41, h, hi => exact h
  | 42, h, hi => exact h
  | 43, h, hi => exact absurd (by decide) hi
  | 44, h, hi => exact h
  | 45, h, hi => exact h
  | 46, h, hi => exact absurd (by decide) hi
  | 47, h, hi => exact h
  | 48, h, hi => exact absurd (by decide) hi
  | 49, h, hi => exact h
  | 50, h, hi => exact h
  | 51, h, hi => exact h
  | 52, h, hi => exact h
  | _ + 53, h, hi => trivial
end
theorem putM (A : Option Addr) (l : List UInt8) (m c B n : Nat) (w : World) (hm : m = l.length) (hb : Rd w B A (l.map B8)) (hB : B ≤ w.heap.size) (hl : l.length ≤ 4294967296) (hn : n < 18446744073709551616) :
    Calls Try.prog 20 #[.slice A m c, .int .u64 n] w fun e w' => ∃ v', e = .returned v' ∧ w'.ownsRow w.heap.size 5 1 v' (l ++ Mi.put n).length ((l ++ Mi.put n).map B8) ∧ Grew w w' (.slice none 0 0) v' := by
  subst hm; exact put_calls A l c B n w hb hB hl hn
theorem textM (A : Option Addr) (l : List UInt8) (m c B : Nat) (s : ByteArray) (w : World) (hm : m = l.length) (hb : Rd w B A (l.map B8)) (hB : B ≤ w.heap.size) (hl : l.length ≤ 4294967296) (hs : s.size ≤ 4294967296) :
    Calls Try.prog 22 #[.slice A m c, .string s] w fun e w' => ∃ v', e = .returned v' ∧ w'.ownsRow w.heap.size 5 1 v' (l ++ Mi.text s.data.toList).length ((l ++ Mi.text s.data.toList).map B8) ∧ Grew w w' (.slice none 0 0) v' := by
  subst hm; exact text_calls A l c B s w hb hB hl hs
theorem rgetM (A : Option Addr) (l : List UInt8) (n c B : Nat) (w : World) (hn : n = l.length) (hb : Rd w B A (l.map B8)) (hl : l.length ≤ 140737488355328) :
    Calls Try.prog 17 #[.slice A n c] w fun e w' => e = .returned (.tuple #[.int .u64 (Mi.get l).1, .int .i64 (Mi.get l).2.1, .bool (Mi.get l).2.2]) ∧ w = w' := by
  subst hn; exact rget_calls A l c B w hb hl
theorem rgettextM (A : Option Addr) (l : List UInt8) (n c B : Nat) (w : World) (hn : n = l.length) (hb : Rd w B A (l.map B8)) (hl : l.length ≤ 140737488355328) (hc : l.length ≤ c) :
    Calls Try.prog 19 #[.slice A n c] w fun e w' => e = .returned (.tuple #[.string (S8 (Mi.gettext l).1), .int .i64 (Mi.gettext l).2.1, .bool (Mi.gettext l).2.2]) ∧ w = w' := by
  subst hn; exact rgettext_calls A l c B w hb hl hc
set_option maxHeartbeats 8000000 in
theorem tell1_out (A : Option Addr) (l : List UInt8) (n c : Nat) (N : Int) (s : ByteArray) (w : World) (h : 300 < n ∨ 300 < s.size) :
    Calls Try.prog 3 #[.slice A n c, .int .u64 N, .string s] w fun e w' => e = .returned (.bool true) ∧ Below w.heap.size w w' := by
  by_cases h1 : 300 < n
  · go_enter Try.func3, Try.ntmps3
    go_wp2_with (go_at_call 15; (with_reducible refine (alive1_calls _).mono ?_); rintro e w1 ⟨rfl, hb1⟩; have HB1 := Lib.hid hb1; clear hb1)
    go_ret
    exact ⟨rfl, HB1.out⟩
  · have h2 : 300 < s.size := by omega
    have d1 : decide (300 < n) = false := decide_eq_false h1
    have d2 : decide ((300 : Int) < (n : Int)) = false := decide_eq_false (by omega)
    go_enter Try.func3, Try.ntmps3
    go_wp2_with (go_at_call 15; (with_reducible refine (alive1_calls _).mono ?_); rintro e w1 ⟨rfl, hb1⟩; have HB1 := Lib.hid hb1; clear hb1)
    go_ret
    exact ⟨rfl, HB1.out⟩
set_option maxHeartbeats 32000000 in
theorem tell1_in (A : Option Addr) (l : List UInt8) (n c N : Nat) (s : ByteArray) (w : World) (hn : n = l.length) (hb0 : Rd w w.heap.size A (l.map B8)) (hnc : n ≤ c) (hn3 : n ≤ 300) (hs : s.size ≤ 300) (hN : N < 18446744073709551616) :
    Calls Try.prog 3 #[.slice A n c, .int .u64 (N : Int), .string s] w fun e w' => e = .returned (.bool true) ∧ Below w.heap.size w w' := by
  obtain ⟨B, hBd⟩ : ∃ B, B = w.heap.size := ⟨_, rfl⟩
  rw [← hBd] at hb0
  have HRD := Lib.hid hb0
  have HBD := Lib.hid hBd
  have HN := Lib.hid hn
  have HNN := Lib.hid hN
  have HE := Lib.hid (And.intro hn3 (And.intro hs hnc))
  have d1 : decide (300 < n) = false := decide_eq_false (by omega)
  have d2 : decide ((300 : Int) < (n : Int)) = false := decide_eq_false (by omega)
  have d3 : decide (300 < s.size) = false := decide_eq_false (by omega)
  have d4 : decide ((300 : Int) < (s.size : Int)) = false := decide_eq_false (by omega)
  clear hn3 hs hnc hN hn hb0 hBd
  go_enter Try.func3, Try.ntmps3
  go_wp2_with fail
  refine (alive1_calls _).mono ?_
  rintro e w1 ⟨rfl, hb1⟩
  have HB1 := Lib.hid hb1
  have hBz : B ≤ w1.heap.size := by rw [HBD.out]; exact hb1.size
  have R1 : Hid (Rd w1 B A (l.map B8)) := Lib.hid (HRD.out.below (by rw [HBD.out]; exact hb1))
  have A1 := Lib.hid (fun ty => appB (ty := ty) (c := c) (own_nil w1 w1.heap.size) R1.out (by have := HE.out; have := HN.out; simp; omega) (Nat.le_refl _))
  rw [← HN.out] at A1
  clear hb1
  go_wp2_with (at_builtin; (refine wpList_app rfl (.const (.slice none 0 0)) (.tmp 35) _ _ rfl rfl rfl (A1.out _) ?_); rintro v2 w2 ⟨ho2, hg2⟩; rw [List.nil_append, ← HN.out] at ho2; obtain ⟨A2, c2, rfl, _, hr2⟩ := own_rd ho2; have HG2 := Lib.hid hg2.new; have R2 := Lib.hid hr2; clear ho2 hg2 hr2)
  have HB2 := Lib.hid (HB1.out.trans (HG2.out.mono HB1.out.size))
  have R12 : Hid (Rd w2 B A (l.map B8)) := Lib.hid (R1.out.below (HG2.out.mono hBz))
  have hBz2 : B ≤ w2.heap.size := Nat.le_trans hBz HG2.out.size
  have C1 := Lib.hid (getN A2 l n c2 w2.heap.size w2 HN.out R2.out (by have := HE.out; have := HN.out; omega))
  have C2 := Lib.hid (Go.Proofs.Ythkclgkbidhmbaa.rgetM A l n c B w2 HN.out R12.out (by have := HE.out; have := HN.out; omega))
  have C3 := Lib.hid (gettextN A l n c B w2 HN.out R12.out (by have := HE.out; have := HN.out; omega) (by have := HE.out; have := HN.out; omega))
  have C4 := Lib.hid (Go.Proofs.Ythkclgkbidhmbaa.rgettextM A l n c B w2 HN.out R12.out (by have := HE.out; have := HN.out; omega) (by have := HE.out; have := HN.out; omega))
  generalize Mi.get l = gg at *
  generalize Mi.gettext l = tt at *
  obtain ⟨V, K, OK⟩ := gg
  obtain ⟨T0, P, HAS⟩ := tt
  simp only at C1 C2 C3 C4
  generalize S8 T0 = TX at *
  refine C1.out.mono ?_
  rintro e w3 ⟨rfl, rfl⟩
  go_wp2_with fail
  refine C2.out.mono ?_
  rintro e w3 ⟨rfl, rfl⟩
  go_wp2_with fail
  refine C3.out.mono ?_
  rintro e w3 ⟨rfl, rfl⟩
  go_wp2_with fail
  refine C4.out.mono ?_
  rintro e w3 ⟨rfl, rfl⟩
  clear C1 C2 C3 C4 A1 R1 R2 HG2 HB1 d1 d2 d3 d4
  go_wp2_with fail
  have hn := HN.out
  have hN := HNN.out
  obtain ⟨hn3, hs, hnc⟩ := HE.out
  obtain ⟨W, hW⟩ : ∃ W, W = w2.drew := ⟨_, rfl⟩
  have hb : Rd W B A (l.map B8) := by rw [hW]; exact R12.out.drew
  have hBW : B ≤ W.heap.size := by rw [hW]; exact hBz2
  have HBW : Hid (Below w.heap.size w W) := Lib.hid (by rw [hW]; exact HB2.out.trans ⟨rfl, rfl, rfl, Nat.le_refl _, fun _ _ => rfl⟩)
  refine PI.wp_region_persG (R := Below W.heap.size) (G := fun _ _ => True) (I := PI.RI [(31, 90), (34, 93), (36, 95), (43, 102), (46, 105), (48, 107)] [(34, 36), (36, 34), (46, 48), (48, 46)]) [(2, 0), (2, 1), (3, 2), (4, 3), (5, 3), (6, 3), (6, 4), (6, 5), (7, 3), (7, 6), (8, 7), (9, 8), (10, 8), (11, 8), (11, 9), (11, 10), (12, 8), (12, 11), (13, 12), (14, 13), (15, 13), (16, 13), (16, 14), (16, 15), (17, 13), (17, 16), (18, 17), (19, 18), (20, 18), (21, 18), (21, 19), (21, 20), (22, 18), (22, 21), (23, 22), (24, 23), (25, 23), (26, 23), (26, 24), (26, 25), (27, 23), (27, 26), (28, 27), (29, 28), (30, 28), (31, 28), (31, 29), (31, 30), (32, 28), (32, 31), (33, 28), (34, 28), (34, 33), (35, 28), (36, 28), (36, 34), (36, 35), (37, 28), (37, 36), (38, 28), (38, 32), (38, 37), (39, 28), (39, 38), (40, 39), (41, 40), (42, 40), (43, 40), (43, 41), (43, 42), (44, 40), (44, 43), (45, 40), (46, 40), (46, 45), (47, 40), (48, 40), (48, 46), (48, 47), (49, 40), (49, 48), (50, 40), (50, 44), (50, 49), (51, 40), (51, 50), (52, 51)] [52] (by kernel_rfl) (PI.formed_of (by kernel_rfl)) ⟨fun w => Below.refl _ w, fun _ _ _ h k => h.trans k⟩ (fun _ => trivial) (TF l N s A n c V K OK TX P HAS W.heap.size) (PI.RI.start (n := 111) (by decide) rfl) ?_ ?_
  · rw [← hW]
    intro i o ho
    rcases i with _ | _ | _ | _ | _ | _ | _ | _ | _ | _ | _ | _ | _ | _ | _ | _ | _ | _ | _ | _ | _ | _ | _ | _ | _ | _ | _ | _ | _ | _ | _ | _ | _ | _ | _ | _ | _ | _ | _ | _ | _ | _ | _ | _ | _ | _ | _ | _ | _ | _ | _ | _ | _ | i
    · obtain rfl := Option.some.inj (show some _ = some o from ho)
      refine PI.shown_val rfl fun a w3 L hr T => ?_
      have h1 : a.eval (.tmp 8) = .int .u64 (V : Int) := T.was 8 (by kernel_rfl)
      exact ⟨.int .u64 (V : Int), w3, by simp only [execOp, h1]; simp [go_sem], PI.Post.pure ⟨fun w => Below.refl _ w, fun _ _ _ h k => h.trans k⟩ rfl (PI.RI.pure T.inv _ (by decide) (Nat.le_refl _))⟩
    · obtain rfl := Option.some.inj (show some _ = some o from ho)
      refine PI.shown_val rfl fun a w3 L hr T => ?_
      have h1 : a.eval (.tmp 11) = .int .u64 (V : Int) := T.was 11 (by kernel_rfl)
      exact ⟨.int .u64 (V : Int), w3, by simp only [execOp, h1]; simp [go_sem], PI.Post.pure ⟨fun w => Below.refl _ w, fun _ _ _ h k => h.trans k⟩ rfl (PI.RI.pure T.inv _ (by decide) (Nat.le_refl _))⟩
    · obtain rfl := Option.some.inj (show some _ = some o from ho)
      refine PI.shown_val rfl fun a w3 L hr T => ?_
      have h1 : a.eval (.tmp 59) = .int .u64 (V : Int) := T.at_ 0 59 (by kernel_rfl) (by kernel_rfl) (by kernel_rfl)
      have h2 : a.eval (.tmp 60) = .int .u64 (V : Int) := T.at_ 1 60 (by kernel_rfl) (by kernel_rfl) (by kernel_rfl)
      exact ⟨.bool true, w3, by simp only [execOp, h1, h2]; simp [go_sem], PI.Post.pure ⟨fun w => Below.refl _ w, fun _ _ _ h k => h.trans k⟩ rfl (PI.RI.pure T.inv _ (by decide) (Nat.le_refl _))⟩
    · obtain rfl := Option.some.inj (show some _ = some o from ho)
      refine PI.shown_val rfl fun a w3 L hr T => ?_
      have h1 : a.eval (.tmp 61) = .bool true := T.at_ 2 61 (by kernel_rfl) (by kernel_rfl) (by kernel_rfl)
      exact ⟨.bool true, w3, by simp only [execOp, h1]; simp [go_sem], PI.Post.pure ⟨fun w => Below.refl _ w, fun _ _ _ h k => h.trans k⟩ rfl (PI.RI.pure T.inv _ (by decide) (Nat.le_refl _))⟩
    · obtain rfl := Option.some.inj (show some _ = some o from ho)
      refine PI.shown_val_if 3 62 true rfl (by kernel_rfl) (by kernel_rfl) (by kernel_rfl) (fun v w h => h) fun a w3 L hr T => ?_
      have h1 : a.eval (.tmp 9) = .int .i64 (K : Int) := T.was 9 (by kernel_rfl)
      exact ⟨.int .i64 (K : Int), w3, by simp only [execOp, h1]; simp [go_sem], PI.Post.pure ⟨fun w => Below.refl _ w, fun _ _ _ h k => h.trans k⟩ rfl (PI.RI.pure T.inv _ (by decide) (Nat.le_refl _))⟩
    · obtain rfl := Option.some.inj (show some _ = some o from ho)
      refine PI.shown_val_if 3 62 true rfl (by kernel_rfl) (by kernel_rfl) (by kernel_rfl) (fun v w h => h) fun a w3 L hr T => ?_
      have h1 : a.eval (.tmp 12) = .int .i64 (K : Int) := T.was 12 (by kernel_rfl)
      exact ⟨.int .i64 (K : Int), w3, by simp only [execOp, h1]; simp [go_sem], PI.Post.pure ⟨fun w => Below.refl _ w, fun _ _ _ h k => h.trans k⟩ rfl (PI.RI.pure T.inv _ (by decide) (Nat.le_refl _))⟩
    · obtain rfl := Option.some.inj (show some _ = some o from ho)
      refine PI.shown_val_if 3 62 true rfl (by kernel_rfl) (by kernel_rfl) (by kernel_rfl) (fun v w h => h) fun a w3 L hr T => ?_
      have h1 : a.eval (.tmp 63) = .int .i64 (K : Int) := T.at_ 4 63 (by kernel_rfl) (by kernel_rfl) (by kernel_rfl)
      have h2 : a.eval (.tmp 64) = .int .i64 (K : Int) := T.at_ 5 64 (by kernel_rfl) (by kernel_rfl) (by kernel_rfl)
      exact ⟨.bool true, w3, by simp only [execOp, h1, h2]; simp [go_sem], PI.Post.pure ⟨fun w => Below.refl _ w, fun _ _ _ h k => h.trans k⟩ rfl (PI.RI.pure T.inv _ (by decide) (Nat.le_refl _))⟩
    · obtain rfl := Option.some.inj (show some _ = some o from ho)
      refine PI.shown_val rfl fun a w3 L hr T => ?_
      have h1 : a.eval (.tmp 62) = .bool true := T.at_ 3 62 (by kernel_rfl) (by kernel_rfl) (by kernel_rfl)
      have h2 : a.eval (.tmp 65) = .bool true := T.at_ 6 65 (by kernel_rfl) (by kernel_rfl) (by kernel_rfl)
      exact ⟨.bool true, w3, by simp only [execOp, h1, h2]; simp [go_sem, Act.eval], PI.Post.pure ⟨fun w => Below.refl _ w, fun _ _ _ h k => h.trans k⟩ rfl (PI.RI.pure T.inv _ (by decide) (Nat.le_refl _))⟩
    · obtain rfl := Option.some.inj (show some _ = some o from ho)
      refine PI.shown_val rfl fun a w3 L hr T => ?_
      have h1 : a.eval (.tmp 66) = .bool true := T.at_ 7 66 (by kernel_rfl) (by kernel_rfl) (by kernel_rfl)
      exact ⟨.bool true, w3, by simp only [execOp, h1]; simp [go_sem], PI.Post.pure ⟨fun w => Below.refl _ w, fun _ _ _ h k => h.trans k⟩ rfl (PI.RI.pure T.inv _ (by decide) (Nat.le_refl _))⟩
    · obtain rfl := Option.some.inj (show some _ = some o from ho)
      refine PI.shown_val_if 8 67 true rfl (by kernel_rfl) (by kernel_rfl) (by kernel_rfl) (fun v w h => h) fun a w3 L hr T => ?_
      have h1 : a.eval (.tmp 10) = .bool OK := T.was 10 (by kernel_rfl)
      exact ⟨.bool OK, w3, by simp only [execOp, h1]; simp [go_sem], PI.Post.pure ⟨fun w => Below.refl _ w, fun _ _ _ h k => h.trans k⟩ rfl (PI.RI.pure T.inv _ (by decide) (Nat.le_refl _))⟩
    · obtain rfl := Option.some.inj (show some _ = some o from ho)
      refine PI.shown_val_if 8 67 true rfl (by kernel_rfl) (by kernel_rfl) (by kernel_rfl) (fun v w h => h) fun a w3 L hr T => ?_
      have h1 : a.eval (.tmp 13) = .bool OK := T.was 13 (by kernel_rfl)
      exact ⟨.bool OK, w3, by simp only [execOp, h1]; simp [go_sem], PI.Post.pure ⟨fun w => Below.refl _ w, fun _ _ _ h k => h.trans k⟩ rfl (PI.RI.pure T.inv _ (by decide) (Nat.le_refl _))⟩
    · obtain rfl := Option.some.inj (show some _ = some o from ho)
      refine PI.shown_val_if 8 67 true rfl (by kernel_rfl) (by kernel_rfl) (by kernel_rfl) (fun v w h => h) fun a w3 L hr T => ?_
      have h1 : a.eval (.tmp 68) = .bool OK := T.at_ 9 68 (by kernel_rfl) (by kernel_rfl) (by kernel_rfl)
      have h2 : a.eval (.tmp 69) = .bool OK := T.at_ 10 69 (by kernel_rfl) (by kernel_rfl) (by kernel_rfl)
      exact ⟨.bool true, w3, by simp only [execOp, h1, h2]; simp [go_sem], PI.Post.pure ⟨fun w => Below.refl _ w, fun _ _ _ h k => h.trans k⟩ rfl (PI.RI.pure T.inv _ (by decide) (Nat.le_refl _))⟩
    · obtain rfl := Option.some.inj (show some _ = some o from ho)
      refine PI.shown_val rfl fun a w3 L hr T => ?_
      have h1 : a.eval (.tmp 67) = .bool true := T.at_ 8 67 (by kernel_rfl) (by kernel_rfl) (by kernel_rfl)
      have h2 : a.eval (.tmp 70) = .bool true := T.at_ 11 70 (by kernel_rfl) (by kernel_rfl) (by kernel_rfl)
      exact ⟨.bool true, w3, by simp only [execOp, h1, h2]; simp [go_sem, Act.eval], PI.Post.pure ⟨fun w => Below.refl _ w, fun _ _ _ h k => h.trans k⟩ rfl (PI.RI.pure T.inv _ (by decide) (Nat.le_refl _))⟩
    · obtain rfl := Option.some.inj (show some _ = some o from ho)
      refine PI.shown_val rfl fun a w3 L hr T => ?_
      have h1 : a.eval (.tmp 71) = .bool true := T.at_ 12 71 (by kernel_rfl) (by kernel_rfl) (by kernel_rfl)
      exact ⟨.bool true, w3, by simp only [execOp, h1]; simp [go_sem], PI.Post.pure ⟨fun w => Below.refl _ w, fun _ _ _ h k => h.trans k⟩ rfl (PI.RI.pure T.inv _ (by decide) (Nat.le_refl _))⟩
    · obtain rfl := Option.some.inj (show some _ = some o from ho)
      refine PI.shown_val_if 13 72 true rfl (by kernel_rfl) (by kernel_rfl) (by kernel_rfl) (fun v w h => h) fun a w3 L hr T => ?_
      have h1 : a.eval (.tmp 14) = .string TX := T.was 14 (by kernel_rfl)
      exact ⟨.string TX, w3, by simp only [execOp, h1]; simp [go_sem], PI.Post.pure ⟨fun w => Below.refl _ w, fun _ _ _ h k => h.trans k⟩ rfl (PI.RI.pure T.inv _ (by decide) (Nat.le_refl _))⟩
    · obtain rfl := Option.some.inj (show some _ = some o from ho)
      refine PI.shown_val_if 13 72 true rfl (by kernel_rfl) (by kernel_rfl) (by kernel_rfl) (fun v w h => h) fun a w3 L hr T => ?_
      have h1 : a.eval (.tmp 17) = .string TX := T.was 17 (by kernel_rfl)
      exact ⟨.string TX, w3, by simp only [execOp, h1]; simp [go_sem], PI.Post.pure ⟨fun w => Below.refl _ w, fun _ _ _ h k => h.trans k⟩ rfl (PI.RI.pure T.inv _ (by decide) (Nat.le_refl _))⟩
    · obtain rfl := Option.some.inj (show some _ = some o from ho)
      refine PI.shown_val_if 13 72 true rfl (by kernel_rfl) (by kernel_rfl) (by kernel_rfl) (fun v w h => h) fun a w3 L hr T => ?_
      have h1 : a.eval (.tmp 73) = .string TX := T.at_ 14 73 (by kernel_rfl) (by kernel_rfl) (by kernel_rfl)
      have h2 : a.eval (.tmp 74) = .string TX := T.at_ 15 74 (by kernel_rfl) (by kernel_rfl) (by kernel_rfl)
      exact ⟨.bool true, w3, by simp only [execOp, h1, h2]; simp [go_sem], PI.Post.pure ⟨fun w => Below.refl _ w, fun _ _ _ h k => h.trans k⟩ rfl (PI.RI.pure T.inv _ (by decide) (Nat.le_refl _))⟩
    · obtain rfl := Option.some.inj (show some _ = some o from ho)
      refine PI.shown_val rfl fun a w3 L hr T => ?_
      have h1 : a.eval (.tmp 72) = .bool true := T.at_ 13 72 (by kernel_rfl) (by kernel_rfl) (by kernel_rfl)
      have h2 : a.eval (.tmp 75) = .bool true := T.at_ 16 75 (by kernel_rfl) (by kernel_rfl) (by kernel_rfl)
      exact ⟨.bool true, w3, by simp only [execOp, h1, h2]; simp [go_sem, Act.eval], PI.Post.pure ⟨fun w => Below.refl _ w, fun _ _ _ h k => h.trans k⟩ rfl (PI.RI.pure T.inv _ (by decide) (Nat.le_refl _))⟩
    · obtain rfl := Option.some.inj (show some _ = some o from ho)
      refine PI.shown_val rfl fun a w3 L hr T => ?_
      have h1 : a.eval (.tmp 76) = .bool true := T.at_ 17 76 (by kernel_rfl) (by kernel_rfl) (by kernel_rfl)
      exact ⟨.bool true, w3, by simp only [execOp, h1]; simp [go_sem], PI.Post.pure ⟨fun w => Below.refl _ w, fun _ _ _ h k => h.trans k⟩ rfl (PI.RI.pure T.inv _ (by decide) (Nat.le_refl _))⟩
    · obtain rfl := Option.some.inj (show some _ = some o from ho)
      refine PI.shown_val_if 18 77 true rfl (by kernel_rfl) (by kernel_rfl) (by kernel_rfl) (fun v w h => h) fun a w3 L hr T => ?_
      have h1 : a.eval (.tmp 15) = .int .i64 (P : Int) := T.was 15 (by kernel_rfl)
      exact ⟨.int .i64 (P : Int), w3, by simp only [execOp, h1]; simp [go_sem], PI.Post.pure ⟨fun w => Below.refl _ w, fun _ _ _ h k => h.trans k⟩ rfl (PI.RI.pure T.inv _ (by decide) (Nat.le_refl _))⟩
    · obtain rfl := Option.some.inj (show some _ = some o from ho)
      refine PI.shown_val_if 18 77 true rfl (by kernel_rfl) (by kernel_rfl) (by kernel_rfl) (fun v w h => h) fun a w3 L hr T => ?_
      have h1 : a.eval (.tmp 18) = .int .i64 (P : Int) := T.was 18 (by kernel_rfl)
      exact ⟨.int .i64 (P : Int), w3, by simp only [execOp, h1]; simp [go_sem], PI.Post.pure ⟨fun w => Below.refl _ w, fun _ _ _ h k => h.trans k⟩ rfl (PI.RI.pure T.inv _ (by decide) (Nat.le_refl _))⟩
    · obtain rfl := Option.some.inj (show some _ = some o from ho)
      refine PI.shown_val_if 18 77 true rfl (by kernel_rfl) (by kernel_rfl) (by kernel_rfl) (fun v w h => h) fun a w3 L hr T => ?_
      have h1 : a.eval (.tmp 78) = .int .i64 (P : Int) := T.at_ 19 78 (by kernel_rfl) (by kernel_rfl) (by kernel_rfl)
      have h2 : a.eval (.tmp 79) = .int .i64 (P : Int) := T.at_ 20 79 (by kernel_rfl) (by kernel_rfl) (by kernel_rfl)
      exact ⟨.bool true, w3, by simp only [execOp, h1, h2]; simp [go_sem], PI.Post.pure ⟨fun w => Below.refl _ w, fun _ _ _ h k => h.trans k⟩ rfl (PI.RI.pure T.inv _ (by decide) (Nat.le_refl _))⟩
    · obtain rfl := Option.some.inj (show some _ = some o from ho)
      refine PI.shown_val rfl fun a w3 L hr T => ?_
      have h1 : a.eval (.tmp 77) = .bool true := T.at_ 18 77 (by kernel_rfl) (by kernel_rfl) (by kernel_rfl)
      have h2 : a.eval (.tmp 80) = .bool true := T.at_ 21 80 (by kernel_rfl) (by kernel_rfl) (by kernel_rfl)
      exact ⟨.bool true, w3, by simp only [execOp, h1, h2]; simp [go_sem, Act.eval], PI.Post.pure ⟨fun w => Below.refl _ w, fun _ _ _ h k => h.trans k⟩ rfl (PI.RI.pure T.inv _ (by decide) (Nat.le_refl _))⟩
    · obtain rfl := Option.some.inj (show some _ = some o from ho)
      refine PI.shown_val rfl fun a w3 L hr T => ?_
      have h1 : a.eval (.tmp 81) = .bool true := T.at_ 22 81 (by kernel_rfl) (by kernel_rfl) (by kernel_rfl)
      exact ⟨.bool true, w3, by simp only [execOp, h1]; simp [go_sem], PI.Post.pure ⟨fun w => Below.refl _ w, fun _ _ _ h k => h.trans k⟩ rfl (PI.RI.pure T.inv _ (by decide) (Nat.le_refl _))⟩
    · obtain rfl := Option.some.inj (show some _ = some o from ho)
      refine PI.shown_val_if 23 82 true rfl (by kernel_rfl) (by kernel_rfl) (by kernel_rfl) (fun v w h => h) fun a w3 L hr T => ?_
      have h1 : a.eval (.tmp 16) = .bool HAS := T.was 16 (by kernel_rfl)
      exact ⟨.bool HAS, w3, by simp only [execOp, h1]; simp [go_sem], PI.Post.pure ⟨fun w => Below.refl _ w, fun _ _ _ h k => h.trans k⟩ rfl (PI.RI.pure T.inv _ (by decide) (Nat.le_refl _))⟩
    · obtain rfl := Option.some.inj (show some _ = some o from ho)
      refine PI.shown_val_if 23 82 true rfl (by kernel_rfl) (by kernel_rfl) (by kernel_rfl) (fun v w h => h) fun a w3 L hr T => ?_
      have h1 : a.eval (.tmp 19) = .bool HAS := T.was 19 (by kernel_rfl)
      exact ⟨.bool HAS, w3, by simp only [execOp, h1]; simp [go_sem], PI.Post.pure ⟨fun w => Below.refl _ w, fun _ _ _ h k => h.trans k⟩ rfl (PI.RI.pure T.inv _ (by decide) (Nat.le_refl _))⟩
    · obtain rfl := Option.some.inj (show some _ = some o from ho)
      refine PI.shown_val_if 23 82 true rfl (by kernel_rfl) (by kernel_rfl) (by kernel_rfl) (fun v w h => h) fun a w3 L hr T => ?_
      have h1 : a.eval (.tmp 83) = .bool HAS := T.at_ 24 83 (by kernel_rfl) (by kernel_rfl) (by kernel_rfl)
      have h2 : a.eval (.tmp 84) = .bool HAS := T.at_ 25 84 (by kernel_rfl) (by kernel_rfl) (by kernel_rfl)
      exact ⟨.bool true, w3, by simp only [execOp, h1, h2]; simp [go_sem], PI.Post.pure ⟨fun w => Below.refl _ w, fun _ _ _ h k => h.trans k⟩ rfl (PI.RI.pure T.inv _ (by decide) (Nat.le_refl _))⟩
    · obtain rfl := Option.some.inj (show some _ = some o from ho)
      refine PI.shown_val rfl fun a w3 L hr T => ?_
      have h1 : a.eval (.tmp 82) = .bool true := T.at_ 23 82 (by kernel_rfl) (by kernel_rfl) (by kernel_rfl)
      have h2 : a.eval (.tmp 85) = .bool true := T.at_ 26 85 (by kernel_rfl) (by kernel_rfl) (by kernel_rfl)
      exact ⟨.bool true, w3, by simp only [execOp, h1, h2]; simp [go_sem, Act.eval], PI.Post.pure ⟨fun w => Below.refl _ w, fun _ _ _ h k => h.trans k⟩ rfl (PI.RI.pure T.inv _ (by decide) (Nat.le_refl _))⟩
    · obtain rfl := Option.some.inj (show some _ = some o from ho)
      refine PI.shown_val rfl fun a w3 L hr T => ?_
      have h1 : a.eval (.tmp 86) = .bool true := T.at_ 27 86 (by kernel_rfl) (by kernel_rfl) (by kernel_rfl)
      exact ⟨.bool true, w3, by simp only [execOp, h1]; simp [go_sem], PI.Post.pure ⟨fun w => Below.refl _ w, fun _ _ _ h k => h.trans k⟩ rfl (PI.RI.pure T.inv _ (by decide) (Nat.le_refl _))⟩
    · obtain rfl := Option.some.inj (show some _ = some o from ho)
      refine PI.shown_val_if 28 87 true rfl (by kernel_rfl) (by kernel_rfl) (by kernel_rfl) (fun v w h => h) fun a w3 L hr T => ?_
      have h1 : a.eval (.tmp 0) = .slice A n c := T.was 0 (by kernel_rfl)
      exact ⟨.slice A n c, w3, by simp only [execOp, h1]; simp [go_sem], PI.Post.pure ⟨fun w => Below.refl _ w, fun _ _ _ h k => h.trans k⟩ rfl (PI.RI.pure T.inv _ (by decide) (Nat.le_refl _))⟩
    · obtain rfl := Option.some.inj (show some _ = some o from ho)
      refine PI.shown_val_if 28 87 true rfl (by kernel_rfl) (by kernel_rfl) (by kernel_rfl) (fun v w h => h) fun a w3 L hr T => ?_
      have h1 : a.eval (.tmp 1) = .int .u64 (N : Int) := T.was 1 (by kernel_rfl)
      exact ⟨.int .u64 (N : Int), w3, by simp only [execOp, h1]; simp [go_sem], PI.Post.pure ⟨fun w => Below.refl _ w, fun _ _ _ h k => h.trans k⟩ rfl (PI.RI.pure T.inv _ (by decide) (Nat.le_refl _))⟩
    · obtain rfl := Option.some.inj (show some _ = some o from ho)
      refine PI.shown_call_if 28 87 true rfl (by kernel_rfl) (by kernel_rfl) (by kernel_rfl) (fun v w h => h) 20 fun a w3 L hr T => ?_
      have h1 : a.eval (.tmp 88) = .slice A n c := T.at_ 29 88 (by kernel_rfl) (by kernel_rfl) (by kernel_rfl)
      have h2 : a.eval (.tmp 89) = .int .u64 (N : Int) := T.at_ 30 89 (by kernel_rfl) (by kernel_rfl) (by kernel_rfl)
      have hr' : Below B W w3 := hr.mono hBW
      have hz3 : B ≤ w3.heap.size := Nat.le_trans hBW hr.size
      refine ⟨#[.slice A n c, .int .u64 (N : Int)], by simp only [execOp, resolve, List.map_toArray, List.map_cons, List.map_nil, h1, h2]; simp [go_sem, Act.eval], ?_⟩
      refine (Go.Proofs.Ythkclgkbidhmbaa.putM A l n c B N w3 hn (hb.below hr') hz3 (by omega) hN).mono fun e w4 hh => ?_
      obtain ⟨v4, rfl, ho4, hg4⟩ := hh
      have hb4 := hg4.new
      exact ⟨_, rfl, hb4.mono hr.size, own_mono ho4 hr.size, fun _ _ h => h, fun j v _ _ _ _ h => h.keep (fun m xs ho => own_below ho hb4), PI.RI.row T.inv (by decide) (by decide) [] (by decide) (by decide) (fun j hj => by cases hj) hb4.size (fun b hvb => ⟨own_block_lt ho4 b hvb, .inl (own_block_ge ho4 b hvb)⟩)⟩
    · obtain rfl := Option.some.inj (show some _ = some o from ho)
      refine PI.shown_val_if 28 87 true rfl (by kernel_rfl) (by kernel_rfl) (by kernel_rfl) (fun v w h => h) fun a w3 L hr T => ?_
      have h1 : w3.ownsRow W.heap.size 5 1 (a.eval (.tmp 90)) (l ++ Mi.put N).length ((l ++ Mi.put N).map B8) := T.at_ 31 90 (by kernel_rfl) (by kernel_rfl) (by kernel_rfl)
      obtain ⟨A1, c1, hv, _, hr1⟩ := own_rd h1
      have h2 := run_str (P := Try.prog) 22 5 9 Try.underlying22 Try.underlying5 Try.underlying9 hr1 _ c1 rfl
      exact ⟨.string (S8 (l ++ Mi.put N)), w3, by simp only [execOp, hv]; generalize (l ++ Mi.put N).length = q at h2 ⊢; simp [go_sem, h2], PI.Post.pure ⟨fun w => Below.refl _ w, fun _ _ _ h k => h.trans k⟩ rfl (PI.RI.pure T.inv _ (by decide) (Nat.le_refl _))⟩
    · obtain rfl := Option.some.inj (show some _ = some o from ho)
      refine PI.shown_val_if 28 87 true rfl (by kernel_rfl) (by kernel_rfl) (by kernel_rfl) (fun v w h => h) fun a w3 L hr T => ?_
      have h1 : a.eval (.tmp 0) = .slice A n c := T.was 0 (by kernel_rfl)
      exact ⟨.slice A n c, w3, by simp only [execOp, h1]; simp [go_sem], PI.Post.pure ⟨fun w => Below.refl _ w, fun _ _ _ h k => h.trans k⟩ rfl (PI.RI.pure T.inv _ (by decide) (Nat.le_refl _))⟩
    · obtain rfl := Option.some.inj (show some _ = some o from ho)
      refine PI.shown_val_if 28 87 true rfl (by kernel_rfl) (by kernel_rfl) (by kernel_rfl) (fun v w h => h) fun a w3 L hr T => ?_
      have h1 : a.eval (.tmp 92) = .slice A n c := T.at_ 33 92 (by kernel_rfl) (by kernel_rfl) (by kernel_rfl)
      have hr' : Below B W w3 := hr.mono hBW
      obtain ⟨v', w', r1, r2, r3⟩ := appB (ty := 22) (c := c) (own_nil w3 w3.heap.size) (hb.below hr') (by simp; omega) (Nat.le_refl _)
      rw [List.nil_append] at r2
      rw [← hn] at r1
      have hb4 := r3.new
      have h0 : a.eval (.const (.slice none 0 0)) = .slice none 0 0 := rfl
      exact ⟨v', w', by simp only [execOp, resolve, invoke, builtin, Sem.run_bind, Sem.run_pure, Result.andThen_ok, List.map_toArray, List.map_cons, List.map_nil, h0, h1, r1], hb4.mono hr.size, own_mono r2 hr.size, fun _ _ h => h, fun j v _ _ _ _ h => h.keep (fun m xs ho => own_below ho hb4), PI.RI.row T.inv (by decide) (by decide) [] (by decide) (by decide) (fun j hj => by cases hj) hb4.size (fun b hvb => ⟨own_block_lt r2 b hvb, .inl (own_block_ge r2 b hvb)⟩)⟩
    · obtain rfl := Option.some.inj (show some _ = some o from ho)
      refine PI.shown_val_if 28 87 true rfl (by kernel_rfl) (by kernel_rfl) (by kernel_rfl) (fun v w h => h) fun a w3 L hr T => ?_
      have h1 : a.eval (.tmp 1) = .int .u64 (N : Int) := T.was 1 (by kernel_rfl)
      exact ⟨.int .u64 (N : Int), w3, by simp only [execOp, h1]; simp [go_sem], PI.Post.pure ⟨fun w => Below.refl _ w, fun _ _ _ h k => h.trans k⟩ rfl (PI.RI.pure T.inv _ (by decide) (Nat.le_refl _))⟩
    · obtain rfl := Option.some.inj (show some _ = some o from ho)
      refine PI.shown_call_if 28 87 true rfl (by kernel_rfl) (by kernel_rfl) (by kernel_rfl) (fun v w h => h) 21 fun a w3 L hr T => ?_
      have h1 : w3.ownsRow W.heap.size 5 1 (a.eval (.tmp 93)) l.length (l.map B8) := T.at_ 34 93 (by kernel_rfl) (by kernel_rfl) (by kernel_rfl)
      have h2 : a.eval (.tmp 94) = .int .u64 (N : Int) := T.at_ 35 94 (by kernel_rfl) (by kernel_rfl) (by kernel_rfl)
      obtain ⟨vA, vc, hv, _, _⟩ := own_rd h1
      have HI := T.inv
      refine ⟨#[a.eval (.tmp 93), .int .u64 (N : Int)], by simp only [execOp, resolve, List.map_toArray, List.map_cons, List.map_nil, h2]; simp [go_sem, Act.eval], ?_⟩
      refine (rput_calls W.heap.size _ l N w3 h1 hr.size (by omega) hN).mono fun e w4 hh => ?_
      obtain ⟨v4, rfl, ho4, hg4⟩ := hh
      have hge := own_block_ge h1
      have hL : L 34 = true := T.done_ 34 (by kernel_rfl)
      refine ⟨_, rfl, hg4.below (Below.refl _ _) hr.size hge, ho4, fun _ _ h => h, fun j v hj hLj hnd hvj h => ?_, PI.RI.row HI (by decide) (by decide) [(34, 93)] (by decide) (by decide) (fun j hj => by rw [List.mem_singleton] at hj; subst hj; exact hL) hg4.grown.size (fun b hvb => ⟨own_block_lt ho4 b hvb, by
        rcases hg4.blk with hk | ⟨g, hk, hk2⟩
        · exact .inr ⟨_, List.mem_singleton.2 rfl, by rw [← hvb, hk]; rfl⟩
        · rw [hk] at hvb; injection hvb with hvb; exact .inl (by omega)⟩)⟩
      by_cases hjr : j = 31 ∨ j = 34 ∨ j = 36 ∨ j = 43 ∨ j = 46 ∨ j = 48
      · rcases hjr with rfl | rfl | rfl | rfl | rfl | rfl
        · exact h.keep (fun m xs ho => own_grew ho hg4 (by
            have e := hvj 90 (by kernel_rfl)
            rcases hob : (a.eval (.tmp 93)).ownBlock with _ | b
            · exact .inl rfl
            · refine .inr fun hvb => ?_
              rw [e] at hvb
              exact HI.2.2 (34, 93) (by decide) (31, 90) (by decide) (by decide) (by decide) hL hLj b hob hvb))
        · exact absurd hnd (by decide)
        · exact absurd rfl hj
        · exact h.keep (fun m xs ho => own_grew ho hg4 (by
            have e := hvj 102 (by kernel_rfl)
            rcases hob : (a.eval (.tmp 93)).ownBlock with _ | b
            · exact .inl rfl
            · refine .inr fun hvb => ?_
              rw [e] at hvb
              exact HI.2.2 (34, 93) (by decide) (43, 102) (by decide) (by decide) (by decide) hL hLj b hob hvb))
        · exact h.keep (fun m xs ho => own_grew ho hg4 (by
            have e := hvj 105 (by kernel_rfl)
            rcases hob : (a.eval (.tmp 93)).ownBlock with _ | b
            · exact .inl rfl
            · refine .inr fun hvb => ?_
              rw [e] at hvb
              exact HI.2.2 (34, 93) (by decide) (46, 105) (by decide) (by decide) (by decide) hL hLj b hob hvb))
        · exact h.keep (fun m xs ho => own_grew ho hg4 (by
            have e := hvj 107 (by kernel_rfl)
            rcases hob : (a.eval (.tmp 93)).ownBlock with _ | b
            · exact .inl rfl
            · refine .inr fun hvb => ?_
              rw [e] at hvb
              exact HI.2.2 (34, 93) (by decide) (48, 107) (by decide) (by decide) (by decide) hL hLj b hob hvb))
      · exact TF.other h (by omega)
    · obtain rfl := Option.some.inj (show some _ = some o from ho)
      refine PI.shown_val_if 28 87 true rfl (by kernel_rfl) (by kernel_rfl) (by kernel_rfl) (fun v w h => h) fun a w3 L hr T => ?_
      have h1 : w3.ownsRow W.heap.size 5 1 (a.eval (.tmp 95)) (l ++ Mi.put N).length ((l ++ Mi.put N).map B8) := T.at_ 36 95 (by kernel_rfl) (by kernel_rfl) (by kernel_rfl)
      obtain ⟨A1, c1, hv, _, hr1⟩ := own_rd h1
      have h2 := run_str (P := Try.prog) 22 5 9 Try.underlying22 Try.underlying5 Try.underlying9 hr1 _ c1 rfl
      exact ⟨.string (S8 (l ++ Mi.put N)), w3, by simp only [execOp, hv]; generalize (l ++ Mi.put N).length = q at h2 ⊢; simp [go_sem, h2], PI.Post.pure ⟨fun w => Below.refl _ w, fun _ _ _ h k => h.trans k⟩ rfl (PI.RI.pure T.inv _ (by decide) (Nat.le_refl _))⟩
    · obtain rfl := Option.some.inj (show some _ = some o from ho)
      refine PI.shown_val_if 28 87 true rfl (by kernel_rfl) (by kernel_rfl) (by kernel_rfl) (fun v w h => h) fun a w3 L hr T => ?_
      have h1 : a.eval (.tmp 91) = .string (S8 (l ++ Mi.put N)) := T.at_ 32 91 (by kernel_rfl) (by kernel_rfl) (by kernel_rfl)
      have h2 : a.eval (.tmp 96) = .string (S8 (l ++ Mi.put N)) := T.at_ 37 96 (by kernel_rfl) (by kernel_rfl) (by kernel_rfl)
      exact ⟨.bool true, w3, by simp only [execOp, h1, h2]; simp [go_sem], PI.Post.pure ⟨fun w => Below.refl _ w, fun _ _ _ h k => h.trans k⟩ rfl (PI.RI.pure T.inv _ (by decide) (Nat.le_refl _))⟩
    · obtain rfl := Option.some.inj (show some _ = some o from ho)
      refine PI.shown_val rfl fun a w3 L hr T => ?_
      have h1 : a.eval (.tmp 87) = .bool true := T.at_ 28 87 (by kernel_rfl) (by kernel_rfl) (by kernel_rfl)
      have h2 : a.eval (.tmp 97) = .bool true := T.at_ 38 97 (by kernel_rfl) (by kernel_rfl) (by kernel_rfl)
      exact ⟨.bool true, w3, by simp only [execOp, h1, h2]; simp [go_sem, Act.eval], PI.Post.pure ⟨fun w => Below.refl _ w, fun _ _ _ h k => h.trans k⟩ rfl (PI.RI.pure T.inv _ (by decide) (Nat.le_refl _))⟩
    · obtain rfl := Option.some.inj (show some _ = some o from ho)
      refine PI.shown_val rfl fun a w3 L hr T => ?_
      have h1 : a.eval (.tmp 98) = .bool true := T.at_ 39 98 (by kernel_rfl) (by kernel_rfl) (by kernel_rfl)
      exact ⟨.bool true, w3, by simp only [execOp, h1]; simp [go_sem], PI.Post.pure ⟨fun w => Below.refl _ w, fun _ _ _ h k => h.trans k⟩ rfl (PI.RI.pure T.inv _ (by decide) (Nat.le_refl _))⟩
    · obtain rfl := Option.some.inj (show some _ = some o from ho)
      refine PI.shown_val_if 40 99 true rfl (by kernel_rfl) (by kernel_rfl) (by kernel_rfl) (fun v w h => h) fun a w3 L hr T => ?_
      have h1 : a.eval (.tmp 0) = .slice A n c := T.was 0 (by kernel_rfl)
      exact ⟨.slice A n c, w3, by simp only [execOp, h1]; simp [go_sem], PI.Post.pure ⟨fun w => Below.refl _ w, fun _ _ _ h k => h.trans k⟩ rfl (PI.RI.pure T.inv _ (by decide) (Nat.le_refl _))⟩
    · obtain rfl := Option.some.inj (show some _ = some o from ho)
      refine PI.shown_val_if 40 99 true rfl (by kernel_rfl) (by kernel_rfl) (by kernel_rfl) (fun v w h => h) fun a w3 L hr T => ?_
      have h1 : a.eval (.tmp 2) = .string s := T.was 2 (by kernel_rfl)
      exact ⟨.string s, w3, by simp only [execOp, h1]; simp [go_sem], PI.Post.pure ⟨fun w => Below.refl _ w, fun _ _ _ h k => h.trans k⟩ rfl (PI.RI.pure T.inv _ (by decide) (Nat.le_refl _))⟩
    · obtain rfl := Option.some.inj (show some _ = some o from ho)
      refine PI.shown_call_if 40 99 true rfl (by kernel_rfl) (by kernel_rfl) (by kernel_rfl) (fun v w h => h) 22 fun a w3 L hr T => ?_
      have h1 : a.eval (.tmp 100) = .slice A n c := T.at_ 41 100 (by kernel_rfl) (by kernel_rfl) (by kernel_rfl)
      have h2 : a.eval (.tmp 101) = .string s := T.at_ 42 101 (by kernel_rfl) (by kernel_rfl) (by kernel_rfl)
      have hr' : Below B W w3 := hr.mono hBW
      have hz3 : B ≤ w3.heap.size := Nat.le_trans hBW hr.size
      refine ⟨#[.slice A n c, .string s], by simp only [execOp, resolve, List.map_toArray, List.map_cons, List.map_nil, h1, h2]; simp [go_sem, Act.eval], ?_⟩
      refine (Go.Proofs.Ythkclgkbidhmbaa.textM A l n c B s w3 hn (hb.below hr') hz3 (by omega) (by omega)).mono fun e w4 hh => ?_
      obtain ⟨v4, rfl, ho4, hg4⟩ := hh
      have hb4 := hg4.new
      exact ⟨_, rfl, hb4.mono hr.size, own_mono ho4 hr.size, fun _ _ h => h, fun j v _ _ _ _ h => h.keep (fun m xs ho => own_below ho hb4), PI.RI.row T.inv (by decide) (by decide) [] (by decide) (by decide) (fun j hj => by cases hj) hb4.size (fun b hvb => ⟨own_block_lt ho4 b hvb, .inl (own_block_ge ho4 b hvb)⟩)⟩
    · obtain rfl := Option.some.inj (show some _ = some o from ho)
      refine PI.shown_val_if 40 99 true rfl (by kernel_rfl) (by kernel_rfl) (by kernel_rfl) (fun v w h => h) fun a w3 L hr T => ?_
      have h1 : w3.ownsRow W.heap.size 5 1 (a.eval (.tmp 102)) (l ++ Mi.text s.data.toList).length ((l ++ Mi.text s.data.toList).map B8) := T.at_ 43 102 (by kernel_rfl) (by kernel_rfl) (by kernel_rfl)
      obtain ⟨A1, c1, hv, _, hr1⟩ := own_rd h1
      have h2 := run_str (P := Try.prog) 22 5 9 Try.underlying22 Try.underlying5 Try.underlying9 hr1 _ c1 rfl
      exact ⟨.string (S8 (l ++ Mi.text s.data.toList)), w3, by simp only [execOp, hv]; generalize (l ++ Mi.text s.data.toList).length = q at h2 ⊢; simp [go_sem, h2], PI.Post.pure ⟨fun w => Below.refl _ w, fun _ _ _ h k => h.trans k⟩ rfl (PI.RI.pure T.inv _ (by decide) (Nat.le_refl _))⟩
    · obtain rfl := Option.some.inj (show some _ = some o from ho)
      refine PI.shown_val_if 40 99 true rfl (by kernel_rfl) (by kernel_rfl) (by kernel_rfl) (fun v w h => h) fun a w3 L hr T => ?_
      have h1 : a.eval (.tmp 0) = .slice A n c := T.was 0 (by kernel_rfl)
      exact ⟨.slice A n c, w3, by simp only [execOp, h1]; simp [go_sem], PI.Post.pure ⟨fun w => Below.refl _ w, fun _ _ _ h k => h.trans k⟩ rfl (PI.RI.pure T.inv _ (by decide) (Nat.le_refl _))⟩
    · obtain rfl := Option.some.inj (show some _ = some o from ho)
      refine PI.shown_val_if 40 99 true rfl (by kernel_rfl) (by kernel_rfl) (by kernel_rfl) (fun v w h => h) fun a w3 L hr T => ?_
      have h1 : a.eval (.tmp 104) = .slice A n c := T.at_ 45 104 (by kernel_rfl) (by kernel_rfl) (by kernel_rfl)
      have hr' : Below B W w3 := hr.mono hBW
      obtain ⟨v', w', r1, r2, r3⟩ := appB (ty := 22) (c := c) (own_nil w3 w3.heap.size) (hb.below hr') (by simp; omega) (Nat.le_refl _)
      rw [List.nil_append] at r2
      rw [← hn] at r1
      have hb4 := r3.new
      have h0 : a.eval (.const (.slice none 0 0)) = .slice none 0 0 := rfl
      exact ⟨v', w', by simp only [execOp, resolve, invoke, builtin, Sem.run_bind, Sem.run_pure, Result.andThen_ok, List.map_toArray, List.map_cons, List.map_nil, h0, h1, r1], hb4.mono hr.size, own_mono r2 hr.size, fun _ _ h => h, fun j v _ _ _ _ h => h.keep (fun m xs ho => own_below ho hb4), PI.RI.row T.inv (by decide) (by decide) [] (by decide) (by decide) (fun j hj => by cases hj) hb4.size (fun b hvb => ⟨own_block_lt r2 b hvb, .inl (own_block_ge r2 b hvb)⟩)⟩
    · obtain rfl := Option.some.inj (show some _ = some o from ho)
      refine PI.shown_val_if 40 99 true rfl (by kernel_rfl) (by kernel_rfl) (by kernel_rfl) (fun v w h => h) fun a w3 L hr T => ?_
      have h1 : a.eval (.tmp 2) = .string s := T.was 2 (by kernel_rfl)
      exact ⟨.string s, w3, by simp only [execOp, h1]; simp [go_sem], PI.Post.pure ⟨fun w => Below.refl _ w, fun _ _ _ h k => h.trans k⟩ rfl (PI.RI.pure T.inv _ (by decide) (Nat.le_refl _))⟩
    · obtain rfl := Option.some.inj (show some _ = some o from ho)
      refine PI.shown_call_if 40 99 true rfl (by kernel_rfl) (by kernel_rfl) (by kernel_rfl) (fun v w h => h) 23 fun a w3 L hr T => ?_
      have h1 : w3.ownsRow W.heap.size 5 1 (a.eval (.tmp 105)) l.length (l.map B8) := T.at_ 46 105 (by kernel_rfl) (by kernel_rfl) (by kernel_rfl)
      have h2 : a.eval (.tmp 106) = .string s := T.at_ 47 106 (by kernel_rfl) (by kernel_rfl) (by kernel_rfl)
      obtain ⟨vA, vc, hv, _, _⟩ := own_rd h1
      have HI := T.inv
      refine ⟨#[a.eval (.tmp 105), .string s], by simp only [execOp, resolve, List.map_toArray, List.map_cons, List.map_nil, h2]; simp [go_sem, Act.eval], ?_⟩
      refine (rtext_calls W.heap.size _ l s w3 h1 hr.size (by omega) (by omega)).mono fun e w4 hh => ?_
      obtain ⟨v4, rfl, ho4, hg4⟩ := hh
      have hge := own_block_ge h1
      have hL : L 46 = true := T.done_ 46 (by kernel_rfl)
      refine ⟨_, rfl, hg4.below (Below.refl _ _) hr.size hge, ho4, fun _ _ h => h, fun j v hj hLj hnd hvj h => ?_, PI.RI.row HI (by decide) (by decide) [(46, 105)] (by decide) (by decide) (fun j hj => by rw [List.mem_singleton] at hj; subst hj; exact hL) hg4.grown.size (fun b hvb => ⟨own_block_lt ho4 b hvb, by
        rcases hg4.blk with hk | ⟨g, hk, hk2⟩
        · exact .inr ⟨_, List.mem_singleton.2 rfl, by rw [← hvb, hk]; rfl⟩
        · rw [hk] at hvb; injection hvb with hvb; exact .inl (by omega)⟩)⟩
      by_cases hjr : j = 31 ∨ j = 34 ∨ j = 36 ∨ j = 43 ∨ j = 46 ∨ j = 48
      · rcases hjr with rfl | rfl | rfl | rfl | rfl | rfl
        · exact h.keep (fun m xs ho => own_grew ho hg4 (by
            have e := hvj 90 (by kernel_rfl)
            rcases hob : (a.eval (.tmp 105)).ownBlock with _ | b
            · exact .inl rfl
            · refine .inr fun hvb => ?_
              rw [e] at hvb
              exact HI.2.2 (46, 105) (by decide) (31, 90) (by decide) (by decide) (by decide) hL hLj b hob hvb))
        · exact h.keep (fun m xs ho => own_grew ho hg4 (by
            have e := hvj 93 (by kernel_rfl)
            rcases hob : (a.eval (.tmp 105)).ownBlock with _ | b
            · exact .inl rfl
            · refine .inr fun hvb => ?_
              rw [e] at hvb
              exact HI.2.2 (46, 105) (by decide) (34, 93) (by decide) (by decide) (by decide) hL hLj b hob hvb))
        · exact h.keep (fun m xs ho => own_grew ho hg4 (by
            have e := hvj 95 (by kernel_rfl)
            rcases hob : (a.eval (.tmp 105)).ownBlock with _ | b
            · exact .inl rfl
            · refine .inr fun hvb => ?_
              rw [e] at hvb
              exact HI.2.2 (46, 105) (by decide) (36, 95) (by decide) (by decide) (by decide) hL hLj b hob hvb))
        · exact h.keep (fun m xs ho => own_grew ho hg4 (by
            have e := hvj 102 (by kernel_rfl)
            rcases hob : (a.eval (.tmp 105)).ownBlock with _ | b
            · exact .inl rfl
            · refine .inr fun hvb => ?_
              rw [e] at hvb
              exact HI.2.2 (46, 105) (by decide) (43, 102) (by decide) (by decide) (by decide) hL hLj b hob hvb))
        · exact absurd hnd (by decide)
        · exact absurd rfl hj
      · exact TF.other h (by omega)
    · obtain rfl := Option.some.inj (show some _ = some o from ho)
      refine PI.shown_val_if 40 99 true rfl (by kernel_rfl) (by kernel_rfl) (by kernel_rfl) (fun v w h => h) fun a w3 L hr T => ?_
      have h1 : w3.ownsRow W.heap.size 5 1 (a.eval (.tmp 107)) (l ++ Mi.text s.data.toList).length ((l ++ Mi.text s.data.toList).map B8) := T.at_ 48 107 (by kernel_rfl) (by kernel_rfl) (by kernel_rfl)
      obtain ⟨A1, c1, hv, _, hr1⟩ := own_rd h1
      have h2 := run_str (P := Try.prog) 22 5 9 Try.underlying22 Try.underlying5 Try.underlying9 hr1 _ c1 rfl
      exact ⟨.string (S8 (l ++ Mi.text s.data.toList)), w3, by simp only [execOp, hv]; generalize (l ++ Mi.text s.data.toList).length = q at h2 ⊢; simp [go_sem, h2], PI.Post.pure ⟨fun w => Below.refl _ w, fun _ _ _ h k => h.trans k⟩ rfl (PI.RI.pure T.inv _ (by decide) (Nat.le_refl _))⟩
    · obtain rfl := Option.some.inj (show some _ = some o from ho)
      refine PI.shown_val_if 40 99 true rfl (by kernel_rfl) (by kernel_rfl) (by kernel_rfl) (fun v w h => h) fun a w3 L hr T => ?_
      have h1 : a.eval (.tmp 103) = .string (S8 (l ++ Mi.text s.data.toList)) := T.at_ 44 103 (by kernel_rfl) (by kernel_rfl) (by kernel_rfl)
      have h2 : a.eval (.tmp 108) = .string (S8 (l ++ Mi.text s.data.toList)) := T.at_ 49 108 (by kernel_rfl) (by kernel_rfl) (by kernel_rfl)
      exact ⟨.bool true, w3, by simp only [execOp, h1, h2]; simp [go_sem], PI.Post.pure ⟨fun w => Below.refl _ w, fun _ _ _ h k => h.trans k⟩ rfl (PI.RI.pure T.inv _ (by decide) (Nat.le_refl _))⟩
    · obtain rfl := Option.some.inj (show some _ = some o from ho)
      refine PI.shown_val rfl fun a w3 L hr T => ?_
      have h1 : a.eval (.tmp 99) = .bool true := T.at_ 40 99 (by kernel_rfl) (by kernel_rfl) (by kernel_rfl)
      have h2 : a.eval (.tmp 109) = .bool true := T.at_ 50 109 (by kernel_rfl) (by kernel_rfl) (by kernel_rfl)
      exact ⟨.bool true, w3, by simp only [execOp, h1, h2]; simp [go_sem, Act.eval], PI.Post.pure ⟨fun w => Below.refl _ w, fun _ _ _ h k => h.trans k⟩ rfl (PI.RI.pure T.inv _ (by decide) (Nat.le_refl _))⟩
    · obtain rfl := Option.some.inj (show some _ = some o from ho)
      refine PI.shown_val rfl fun a w3 L hr T => ?_
      have h1 : a.eval (.tmp 110) = .bool true := T.at_ 51 110 (by kernel_rfl) (by kernel_rfl) (by kernel_rfl)
      exact ⟨.bool true, w3, by simp only [execOp, h1]; simp [go_sem], PI.Post.pure ⟨fun w => Below.refl _ w, fun _ _ _ h k => h.trans k⟩ rfl (PI.RI.pure T.inv _ (by decide) (Nat.le_refl _))⟩
    · cases ho
  · rw [← hW]
    intro x w5 hr hf he _
    have h52 := hf 52 _ 6 rfl rfl (by decide)
    have hx52 : x 52 = .bool true := h52
    have HB5 := Lib.hid (HBW.out.trans (hr.mono HBW.out.size))
    clear hf he hr h52
    simp only [PI.putAll, Act.put, List.setIfInBounds_toArray, List.set_cons_zero, List.set_cons_succ]
    rw [hx52]
    go_wp2_with fail
    go_ret
    exact ⟨rfl, HB5.out⟩
end Go.Proofs.Ythkclgkbidhmbaa
