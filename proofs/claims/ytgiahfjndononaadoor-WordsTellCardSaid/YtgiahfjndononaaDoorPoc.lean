/- The code's tokens, second half: words, numbers. -/
import Derived.Test.YtgiahfjndononaaDoorPob
namespace Go.Proofs.YtgiahfjndononaaDoor
open Go.RowKit
set_option linter.unusedVariables false
set_option linter.unusedSimpArgs false
set_option maxRecDepth 100000

theorem drop_take (p : UInt8 → Bool) (L : List UInt8) (i : Nat) : ∀ j, j < ((L.drop i).takeWhile p).length → ∃ c, L[i + j]? = some c ∧ p c = true := by
  intro j hj
  have h1 : (L.drop i).takeWhile p ++ (L.drop i).dropWhile p = L.drop i := List.takeWhile_append_dropWhile
  have h2 := congrArg (fun l => l[j]?) h1
  simp only [List.getElem?_append_left hj, List.getElem?_drop] at h2
  rw [← h2, List.getElem?_eq_getElem hj]
  exact ⟨_, rfl, Wm.takeWhile_mem p _ _ (List.getElem_mem hj)⟩
theorem drop_stop (p : UInt8 → Bool) (L : List UInt8) (i : Nat) (hi : i ≤ L.length) : i + ((L.drop i).takeWhile p).length = L.length ∨ (i + ((L.drop i).takeWhile p).length < L.length ∧ ∃ c, L[i + ((L.drop i).takeWhile p).length]? = some c ∧ p c = false) := by
  have h1 : (L.drop i).takeWhile p ++ (L.drop i).dropWhile p = L.drop i := List.takeWhile_append_dropWhile
  have hl := congrArg List.length h1
  simp only [List.length_append, List.length_drop] at hl
  cases hd : (L.drop i).dropWhile p with
  | nil => rw [hd] at hl; simp at hl; exact .inl (by omega)
  | cons c r =>
    right
    rw [hd] at hl
    simp only [List.length_cons] at hl
    refine ⟨by omega, c, ?_, ?_⟩
    · have h2 := congrArg (fun l => l[((L.drop i).takeWhile p).length]?) h1
      simp only [List.getElem?_append_right (Nat.le_refl _), List.getElem?_drop, Nat.sub_self, hd, List.getElem?_cons_zero] at h2
      exact h2.symm
    · have := List.head?_dropWhile_not p (L.drop i)
      rw [hd] at this
      simpa using this
theorem drop_len (p : UInt8 → Bool) (L : List UInt8) (i : Nat) (hi : i ≤ L.length) : i + ((L.drop i).takeWhile p).length ≤ L.length := by
  rcases drop_stop p L i hi with h | ⟨h, _⟩ <;> omega
theorem drop_while (p : UInt8 → Bool) (L : List UInt8) (i : Nat) : (L.drop i).dropWhile p = L.drop (i + ((L.drop i).takeWhile p).length) := by
  have h1 : (L.drop i).takeWhile p ++ (L.drop i).dropWhile p = L.drop i := List.takeWhile_append_dropWhile
  have h2 := congrArg (List.drop ((L.drop i).takeWhile p).length) h1
  rw [List.drop_left, List.drop_drop] at h2
  exact h2
theorem sub_list (s : ByteArray) (L : List UInt8) (hs : s.data.toList = L) (i m : Nat) : (s.extract i (i + m)).data.toList = (L.drop i).take m := by
  subst hs
  rw [ByteArray.data_extract]
  simp [List.take_drop]
theorem sub_take (s : ByteArray) (L : List UInt8) (hs : s.data.toList = L) (p : UInt8 → Bool) (i : Nat) : (s.extract i (i + ((L.drop i).takeWhile p).length)).data.toList = (L.drop i).takeWhile p := by
  rw [sub_list s L hs]
  have h1 : (L.drop i).takeWhile p ++ (L.drop i).dropWhile p = L.drop i := List.takeWhile_append_dropWhile
  have h2 := congrArg (List.take ((L.drop i).takeWhile p).length) h1
  rw [List.take_left] at h2
  exact h2.symm
theorem s8_of {x : ByteArray} {l : List UInt8} (h : x.data.toList = l) : x = S8 l := by
  subst h
  rfl
theorem list_len (s : ByteArray) (L : List UInt8) (hs : s.data.toList = L) : L.length = s.size := by rw [← hs]; exact Array.length_toList
set_option maxHeartbeats 4000000 in
theorem readword_any (s : ByteArray) (L : List UInt8) (P i kd n : Nat) (tx : ByteArray) (w : World) (hL : s.data.toList = L) (h : PRow w P s i i kd tx n false) (hi : i ≤ s.size) (hs : s.size ≤ 1000000) :
    Calls Tryd.prog 29 #[.pointer (some ⟨P, 0, none⟩)] w fun e w' => e = .returned (.tuple #[]) ∧ PRow w' P s (i + ((L.drop i).takeWhile Wm.lettr).length) i 97 (S8 ((L.drop i).takeWhile Wm.lettr)) n false ∧ w.grownBy w' (some P) := by
  have hlen := list_len s L hL
  have HC := Lib.hid (span_letter s P i ((L.drop i).takeWhile Wm.lettr).length kd n tx w h (by rw [← hlen]; exact drop_len _ _ _ (by omega)) hs (by rw [hL]; exact drop_take _ _ _) (by rw [hL, ← hlen]; exact drop_stop _ _ _ (by omega)))
  rw [s8_of (sub_take s L hL Wm.lettr i)] at HC
  generalize (L.drop i).takeWhile Wm.lettr = wd at *
  clear h hlen hs hi
  go_enter Tryd.func29, Tryd.ntmps29
  go_wp2_with (go_at_call 47; (with_reducible refine HC.out.mono ?_); rintro e w1 ⟨rfl, hr, hg⟩; have f3 : w1.frozen? ⟨P, 3, none⟩ = false := pfrz hr; have c3 : w1.cell? ⟨P, 3, none⟩ = some (.int .u8 (kd : Int)) := cell_of_row _ _ 3 _ _ (0, 0) hr; have HR := Lib.hid hr; have HG := Lib.hid hg; clear hr hg)
  go_end0
  refine ⟨rfl, ?_, grown_trans HG.out (grown_set _ _ _ _)⟩
  have hr := HR.out
  unfold PRow at hr ⊢
  exact PRow.set 3 _ hr (by simp)
theorem num_snoc (w : List UInt8) (c : UInt8) : Wm.num (w ++ [c]) = Wm.num w * 10 + (c.toNat - 48) := by
  unfold Wm.num
  rw [List.foldl_append]
  rfl
def NumOut (w' : World) (P : Nat) (s : ByteArray) (q i : Nat) (sw : ByteArray) (t : Wm.Tk) : Prop := ∃ n, n < 10000000000 ∧ PRow w' P s q i (if t.kind = 2 then 48 else 0) sw n false ∧ (t.kind = 2 → n = Wm.num t.say)
set_option maxHeartbeats 4000000 in
theorem readnum_any (s : ByteArray) (L : List UInt8) (P i kd : Nat) (tx : ByteArray) (w : World) (hL : s.data.toList = L) (h : PRow w P s i i kd tx 0 false) (hi : i ≤ s.size) (hs : s.size ≤ 1000000) (c : UInt8) (r : List UInt8) (hcr : L.drop i = c :: r) (hc : Wm.digt c = true) :
    Calls Tryd.prog 31 #[.pointer (some ⟨P, 0, none⟩)] w fun e w' => e = .returned (.tuple #[]) ∧ NumOut w' P s (i + ((L.drop i).takeWhile Wm.digt).length) i (S8 ((L.drop i).takeWhile Wm.digt)) (Wm.tokN c r) ∧ w.grownBy w' (some P) := by
  have hlen := list_len s L hL
  have HC := Lib.hid (span_digit s P i ((L.drop i).takeWhile Wm.digt).length kd 0 tx w h (by rw [← hlen]; exact drop_len _ _ _ (by omega)) hs (by rw [hL]; exact drop_take _ _ _) (by rw [hL, ← hlen]; exact drop_stop _ _ _ (by omega)))
  rw [s8_of (sub_take s L hL Wm.digt i)] at HC
  have HT : Hid (Wm.tokN c r = if (decide (10 < ((L.drop i).takeWhile Wm.digt).length) || (decide (1 < ((L.drop i).takeWhile Wm.digt).length) && c == 48)) = true then ⟨5, [], c :: r, (c :: r).dropWhile Wm.digt⟩ else ⟨2, (L.drop i).takeWhile Wm.digt, c :: r, (c :: r).dropWhile Wm.digt⟩) := Lib.hid (by rw [hcr]; rfl)
  have HD : Hid (∀ d ∈ (L.drop i).takeWhile Wm.digt, Wm.digt d = true) := Lib.hid (Wm.takeWhile_mem _ _)
  have HH : Hid (((L.drop i).takeWhile Wm.digt)[0]? = some c) := Lib.hid (by rw [hcr, List.takeWhile_cons, hc]; rfl)
  have hmL : ((L.drop i).takeWhile Wm.digt).length ≤ 1000000 := by have := drop_len Wm.digt L i (by omega); omega
  generalize (L.drop i).takeWhile Wm.digt = wd at *
  obtain ⟨m, hm⟩ : ∃ m, wd.length = m := ⟨_, rfl⟩
  have HM := Lib.hid hm
  have hm1 : 1 ≤ m := by
    rcases wd with _ | ⟨x, y⟩
    · simp [Hid] at HH
    · simp at hm; omega
  rw [hm] at hmL
  clear h hlen hcr
  obtain ⟨sw, hsw⟩ : ∃ t, t = S8 wd := ⟨_, rfl⟩
  have hsz : sw.size = m := by rw [hsw, ← hm]; simp [S8, ByteArray.size]
  have hdat : sw.data.toList = wd := by rw [hsw]; rfl
  rw [← hsw, hm] at HC
  rw [← hsw, hm]
  have HDAT := Lib.hid hdat
  have h0 : ∀ W, (Instr.index 9 (.string sw) (.int .i64 0)).run Tryd.prog W = .ok (.int .u8 (c.toNat : Int)) W := fun W => run_byte (T := 9) Tryd.underlying9 (show sw.data.toList[0]? = some c from by rw [hdat]; exact HH.out) W
  rw [hm] at HT
  generalize htk : Wm.tokN c r = tk at *
  clear hsw hm hdat htk
  have HC48 : Hid (c = 48 ↔ (c.toNat : Int) = 48) := Lib.hid (by rw [← UInt8.toNat_inj]; simp; omega)
  rcases (show 10 < m ∨ (m ≤ 10 ∧ 1 < m ∧ c = 48) ∨ (m ≤ 10 ∧ ¬ (1 < m ∧ c = 48)) from by by_cases h1 : 10 < m; exact .inl h1; by_cases h2 : 1 < m ∧ c = 48; exact .inr (.inl ⟨by omega, h2⟩); exact .inr (.inr ⟨by omega, h2⟩)) with hq | hq | hq
  · have HT2 : Hid (tk.kind = 5) := Lib.hid (by rw [HT.out, if_pos (by simp [hq])])
    have d1 : decide (10 < (m : Int)) = true := decide_eq_true (by omega)
    have d2 : decide (10 < m) = true := decide_eq_true hq
    go_enter Tryd.func31, Tryd.ntmps31
    go_wp2_with (go_at_call 47; (with_reducible refine HC.out.mono ?_); rintro e w1 ⟨rfl, hr, hg⟩; have HG := Lib.hid hg; have HR := Lib.hid hr; unfold PRow at hr; have c0 : w1.cell? ⟨P, 0, none⟩ = some (.string s) := cell_of_row _ _ 0 _ _ (0, 0) hr; have f0 : w1.frozen? ⟨P, 0, none⟩ = false := pfrz hr; have c1 : w1.cell? ⟨P, 1, none⟩ = some (.int .i64 ((i + m : Nat) : Int)) := cell_of_row _ _ 1 _ _ (0, 0) hr; have f1 : w1.frozen? ⟨P, 1, none⟩ = false := pfrz hr; have c2 : w1.cell? ⟨P, 2, none⟩ = some (.int .i64 (i : Int)) := cell_of_row _ _ 2 _ _ (0, 0) hr; have f2 : w1.frozen? ⟨P, 2, none⟩ = false := pfrz hr; have c3 : w1.cell? ⟨P, 3, none⟩ = some (.int .u8 (kd : Int)) := cell_of_row _ _ 3 _ _ (0, 0) hr; have f3 : w1.frozen? ⟨P, 3, none⟩ = false := pfrz hr; have c4 : w1.cell? ⟨P, 4, none⟩ = some (.string sw) := cell_of_row _ _ 4 _ _ (0, 0) hr; have f4 : w1.frozen? ⟨P, 4, none⟩ = false := pfrz hr; have c5 : w1.cell? ⟨P, 5, none⟩ = some (.int .i64 (0 : Int)) := cell_of_row _ _ 5 _ _ (0, 0) hr; have f5 : w1.frozen? ⟨P, 5, none⟩ = false := pfrz hr; have c6 : w1.cell? ⟨P, 6, none⟩ = some (.bool false) := cell_of_row _ _ 6 _ _ (0, 0) hr; have f6 : w1.frozen? ⟨P, 6, none⟩ = false := pfrz hr; clear hr hg)
    refine bodyPost_ret (v := .tuple #[]) (by simp [results, Tryd.results31, go_sem]) rfl ?_
    refine ⟨rfl, ⟨0, by omega, ?_, fun h => absurd h (by rw [HT2.out]; decide)⟩, grown_trans HG.out (grown_set _ _ _ _)⟩
    rw [HT2.out]
    have hr := HR.out
    unfold PRow at hr ⊢
    exact PRow.set 3 _ hr (by simp)

  · obtain ⟨hq1, hq2, hq3⟩ := hq
    have HT2 : Hid (tk.kind = 5) := Lib.hid (by rw [HT.out, if_pos (by simp [hq2, hq3])])
    have d1 : decide (10 < (m : Int)) = false := decide_eq_false (by omega)
    have d2 : decide (10 < m) = false := decide_eq_false (by omega)
    have d3 : decide (1 < (m : Int)) = true := decide_eq_true (by omega)
    have d4 : decide (1 < m) = true := decide_eq_true (by omega)
    have hc48 := HC48.out.1 hq3
    rw [hc48] at h0
    clear hq3
    go_enter Tryd.func31, Tryd.ntmps31
    go_wp2_with (go_at_call 47; (with_reducible refine HC.out.mono ?_); rintro e w1 ⟨rfl, hr, hg⟩; have HG := Lib.hid hg; have HR := Lib.hid hr; unfold PRow at hr; have c0 : w1.cell? ⟨P, 0, none⟩ = some (.string s) := cell_of_row _ _ 0 _ _ (0, 0) hr; have f0 : w1.frozen? ⟨P, 0, none⟩ = false := pfrz hr; have c1 : w1.cell? ⟨P, 1, none⟩ = some (.int .i64 ((i + m : Nat) : Int)) := cell_of_row _ _ 1 _ _ (0, 0) hr; have f1 : w1.frozen? ⟨P, 1, none⟩ = false := pfrz hr; have c2 : w1.cell? ⟨P, 2, none⟩ = some (.int .i64 (i : Int)) := cell_of_row _ _ 2 _ _ (0, 0) hr; have f2 : w1.frozen? ⟨P, 2, none⟩ = false := pfrz hr; have c3 : w1.cell? ⟨P, 3, none⟩ = some (.int .u8 (kd : Int)) := cell_of_row _ _ 3 _ _ (0, 0) hr; have f3 : w1.frozen? ⟨P, 3, none⟩ = false := pfrz hr; have c4 : w1.cell? ⟨P, 4, none⟩ = some (.string sw) := cell_of_row _ _ 4 _ _ (0, 0) hr; have f4 : w1.frozen? ⟨P, 4, none⟩ = false := pfrz hr; have c5 : w1.cell? ⟨P, 5, none⟩ = some (.int .i64 (0 : Int)) := cell_of_row _ _ 5 _ _ (0, 0) hr; have f5 : w1.frozen? ⟨P, 5, none⟩ = false := pfrz hr; have c6 : w1.cell? ⟨P, 6, none⟩ = some (.bool false) := cell_of_row _ _ 6 _ _ (0, 0) hr; have f6 : w1.frozen? ⟨P, 6, none⟩ = false := pfrz hr; clear hr hg)
    refine bodyPost_ret (v := .tuple #[]) (by simp [results, Tryd.results31, go_sem]) rfl ?_
    refine ⟨rfl, ⟨0, by omega, ?_, fun h => absurd h (by rw [HT2.out]; decide)⟩, grown_trans HG.out (grown_set _ _ _ _)⟩
    rw [HT2.out]
    have hr := HR.out
    unfold PRow at hr ⊢
    exact PRow.set 3 _ hr (by simp)

  · obtain ⟨hq1, hq2⟩ := hq
    have HT2 : Hid (tk.kind = 2 ∧ tk.say = wd) := Lib.hid (by
      rw [HT.out, if_neg (by simp; constructor; omega; intro h; by_cases h2 : c = 48; exact absurd ⟨h, h2⟩ hq2; exact h2)]
      exact ⟨rfl, rfl⟩)
    have d1 : decide (10 < (m : Int)) = false := decide_eq_false (by omega)
    have d2 : decide (10 < m) = false := decide_eq_false (by omega)
    have HQ2 := Lib.hid hq2
    clear hq2
    have hcase : (1 < m ∧ ((c.toNat : Int) == 48) = false) ∨ m = 1 := by
      rcases Nat.lt_or_ge 1 m with h | h
      · exact .inl ⟨h, beq_eq_false_iff_ne.2 fun e => HQ2.out ⟨h, HC48.out.2 e⟩⟩
      · exact .inr (by omega)
    have HN0 : Hid ((0 : Nat) = Wm.num (wd.take 0)) := Lib.hid rfl
    rcases hcase with ⟨hc1, hc2⟩ | hc1
    · have d3 : decide (1 < (m : Int)) = true := decide_eq_true (by omega)
      have d4 : decide (1 < m) = true := decide_eq_true (by omega)
      go_enter Tryd.func31, Tryd.ntmps31
      go_wp2_with (go_at_call 47; (with_reducible refine HC.out.mono ?_); rintro e w1 ⟨rfl, hr, hg⟩; have HG := Lib.hid hg; have HR := Lib.hid hr; unfold PRow at hr; have c0 : w1.cell? ⟨P, 0, none⟩ = some (.string s) := cell_of_row _ _ 0 _ _ (0, 0) hr; have f0 : w1.frozen? ⟨P, 0, none⟩ = false := pfrz hr; have c1 : w1.cell? ⟨P, 1, none⟩ = some (.int .i64 ((i + m : Nat) : Int)) := cell_of_row _ _ 1 _ _ (0, 0) hr; have f1 : w1.frozen? ⟨P, 1, none⟩ = false := pfrz hr; have c2 : w1.cell? ⟨P, 2, none⟩ = some (.int .i64 (i : Int)) := cell_of_row _ _ 2 _ _ (0, 0) hr; have f2 : w1.frozen? ⟨P, 2, none⟩ = false := pfrz hr; have c3 : w1.cell? ⟨P, 3, none⟩ = some (.int .u8 (kd : Int)) := cell_of_row _ _ 3 _ _ (0, 0) hr; have f3 : w1.frozen? ⟨P, 3, none⟩ = false := pfrz hr; have c4 : w1.cell? ⟨P, 4, none⟩ = some (.string sw) := cell_of_row _ _ 4 _ _ (0, 0) hr; have f4 : w1.frozen? ⟨P, 4, none⟩ = false := pfrz hr; have c5 : w1.cell? ⟨P, 5, none⟩ = some (.int .i64 (0 : Int)) := cell_of_row _ _ 5 _ _ (0, 0) hr; have f5 : w1.frozen? ⟨P, 5, none⟩ = false := pfrz hr; have c6 : w1.cell? ⟨P, 6, none⟩ = some (.bool false) := cell_of_row _ _ 6 _ _ (0, 0) hr; have f6 : w1.frozen? ⟨P, 6, none⟩ = false := pfrz hr; clear hr hg)
      go_loopw [28] (fun x wr => ∃ (j z : Nat), x = .int .i64 (j : Int) ∧ j ≤ m ∧ z < 10000000000 ∧ Hid (z = Wm.num (wd.take j)) ∧ Hid (PRow wr P s (i + m) i kd sw z false) ∧ Hid (w.grownBy wr (some P))) (fun x _ => m - (intOf x).toNat)
      case atStart => exact ⟨0, 0, rfl, by omega, by omega, HN0, HR, HG⟩
      case round =>
        obtain ⟨j, z, rfl, hj, hz, HZ, HRj, HGj⟩ := hrel
        have HW := Lib.hid HRj.out
        have hrow := HRj.out
        unfold PRow at hrow
        have c0 : wr.cell? ⟨P, 0, none⟩ = some (.string s) := cell_of_row _ _ 0 _ _ (0, 0) hrow
        have f0 : wr.frozen? ⟨P, 0, none⟩ = false := pfrz hrow
        have c1 : wr.cell? ⟨P, 1, none⟩ = some (.int .i64 ((i + m : Nat) : Int)) := cell_of_row _ _ 1 _ _ (0, 0) hrow
        have f1 : wr.frozen? ⟨P, 1, none⟩ = false := pfrz hrow
        have c2 : wr.cell? ⟨P, 2, none⟩ = some (.int .i64 (i : Int)) := cell_of_row _ _ 2 _ _ (0, 0) hrow
        have f2 : wr.frozen? ⟨P, 2, none⟩ = false := pfrz hrow
        have c3 : wr.cell? ⟨P, 3, none⟩ = some (.int .u8 (kd : Int)) := cell_of_row _ _ 3 _ _ (0, 0) hrow
        have f3 : wr.frozen? ⟨P, 3, none⟩ = false := pfrz hrow
        have c4 : wr.cell? ⟨P, 4, none⟩ = some (.string sw) := cell_of_row _ _ 4 _ _ (0, 0) hrow
        have f4 : wr.frozen? ⟨P, 4, none⟩ = false := pfrz hrow
        have c5 : wr.cell? ⟨P, 5, none⟩ = some (.int .i64 (z : Int)) := cell_of_row _ _ 5 _ _ (0, 0) hrow
        have f5 : wr.frozen? ⟨P, 5, none⟩ = false := pfrz hrow
        have c6 : wr.cell? ⟨P, 6, none⟩ = some (.bool false) := cell_of_row _ _ 6 _ _ (0, 0) hrow
        have f6 : wr.frozen? ⟨P, 6, none⟩ = false := pfrz hrow
        clear hrow
        by_cases hlt : j < m
        · obtain ⟨d, hd⟩ : ∃ d, wd[j]? = some d := ⟨_, List.getElem?_eq_getElem (by rw [HM.out]; exact hlt)⟩
          have hdd := HD.out d (List.mem_of_getElem? hd)
          have hx := run_byte (T := 9) Tryd.underlying9 (show sw.data.toList[j]? = some d from by rw [HDAT.out]; exact hd)
          have hn1 := num_snoc (wd.take j) d
          have htk : wd.take (j + 1) = wd.take j ++ [d] := by rw [List.take_add_one, hd]; rfl
          rw [← htk, ← HZ.out] at hn1
          have hb1 : Wm.num (wd.take (j + 1)) < 10000000000 := by
            have h1 := Wm.num_lt (wd.take (j + 1)) (fun x hx => HD.out x (List.mem_of_mem_take hx))
            have h2 : (wd.take (j + 1)).length ≤ 10 := by rw [List.length_take]; omega
            have h3 : 10 ^ (wd.take (j + 1)).length ≤ 10 ^ 10 := Nat.pow_le_pow_right (by decide) h2
            have h4 : (10 : Nat) ^ 10 = 10000000000 := by decide
            omega
          unfold Wm.digt at hdd
          simp only [Bool.and_eq_true, decide_eq_true_eq] at hdd
          obtain ⟨y, hy⟩ : ∃ y : Nat, y = d.toNat - 48 := ⟨_, rfl⟩
          have hyd : (d.toNat : Int) = (y : Int) + 48 := by omega
          rw [← hy] at hn1
          rw [hn1] at hb1
          have hy9 : y ≤ 9 := by omega
          have HN1 := Lib.hid hn1
          have HB1 := Lib.hid hb1
          rw [hyd] at hx
          clear hd hdd htk hn1 hb1 hy hyd
          go_wp2_with fail
          go_region
          go_wp2_with fail
          go_roundw
          case rel =>
            refine ⟨j + 1, z * 10 + y, by go_num, by omega, HB1.out, Lib.hid HN1.out.symm, Lib.hid ?_, Lib.hid (grown_trans HGj.out (grown_trans (grown_set _ P 5 _) (grown_drewN _ 1 _)))⟩
            have hr := HW.out
            unfold PRow at hr ⊢
            exact prow_drew 1 (PRow.set 5 _ hr (by simp))
          case measure => simp [intOf]; omega
        · obtain rfl : j = m := by omega
          have HZE : Hid (z = Wm.num tk.say) := Lib.hid (by rw [HZ.out, HT2.out.2, List.take_of_length_le (by rw [HM.out]; omega)])
          go_wp2_with fail
          go_end0
          refine ⟨rfl, ⟨z, hz, ?_, fun _ => HZE.out⟩, grown_trans HGj.out (grown_set _ _ _ _)⟩
          rw [if_pos HT2.out.1]
          have hr := HW.out
          unfold PRow at hr ⊢
          exact PRow.set 3 _ hr (by simp)

    · have d3 : decide (1 < (m : Int)) = false := decide_eq_false (by omega)
      have d4 : decide (1 < m) = false := decide_eq_false (by omega)
      have HC1 := Lib.hid hc1
      clear hc1
      go_enter Tryd.func31, Tryd.ntmps31
      go_wp2_with (go_at_call 47; (with_reducible refine HC.out.mono ?_); rintro e w1 ⟨rfl, hr, hg⟩; have HG := Lib.hid hg; have HR := Lib.hid hr; unfold PRow at hr; have c0 : w1.cell? ⟨P, 0, none⟩ = some (.string s) := cell_of_row _ _ 0 _ _ (0, 0) hr; have f0 : w1.frozen? ⟨P, 0, none⟩ = false := pfrz hr; have c1 : w1.cell? ⟨P, 1, none⟩ = some (.int .i64 ((i + m : Nat) : Int)) := cell_of_row _ _ 1 _ _ (0, 0) hr; have f1 : w1.frozen? ⟨P, 1, none⟩ = false := pfrz hr; have c2 : w1.cell? ⟨P, 2, none⟩ = some (.int .i64 (i : Int)) := cell_of_row _ _ 2 _ _ (0, 0) hr; have f2 : w1.frozen? ⟨P, 2, none⟩ = false := pfrz hr; have c3 : w1.cell? ⟨P, 3, none⟩ = some (.int .u8 (kd : Int)) := cell_of_row _ _ 3 _ _ (0, 0) hr; have f3 : w1.frozen? ⟨P, 3, none⟩ = false := pfrz hr; have c4 : w1.cell? ⟨P, 4, none⟩ = some (.string sw) := cell_of_row _ _ 4 _ _ (0, 0) hr; have f4 : w1.frozen? ⟨P, 4, none⟩ = false := pfrz hr; have c5 : w1.cell? ⟨P, 5, none⟩ = some (.int .i64 (0 : Int)) := cell_of_row _ _ 5 _ _ (0, 0) hr; have f5 : w1.frozen? ⟨P, 5, none⟩ = false := pfrz hr; have c6 : w1.cell? ⟨P, 6, none⟩ = some (.bool false) := cell_of_row _ _ 6 _ _ (0, 0) hr; have f6 : w1.frozen? ⟨P, 6, none⟩ = false := pfrz hr; clear hr hg)
      go_loopw [28] (fun x wr => ∃ (j z : Nat), x = .int .i64 (j : Int) ∧ j ≤ m ∧ z < 10000000000 ∧ Hid (z = Wm.num (wd.take j)) ∧ Hid (PRow wr P s (i + m) i kd sw z false) ∧ Hid (w.grownBy wr (some P))) (fun x _ => m - (intOf x).toNat)
      case atStart => exact ⟨0, 0, rfl, by omega, by omega, HN0, HR, HG⟩
      case round =>
        obtain ⟨j, z, rfl, hj, hz, HZ, HRj, HGj⟩ := hrel
        have HW := Lib.hid HRj.out
        have hrow := HRj.out
        unfold PRow at hrow
        have c0 : wr.cell? ⟨P, 0, none⟩ = some (.string s) := cell_of_row _ _ 0 _ _ (0, 0) hrow
        have f0 : wr.frozen? ⟨P, 0, none⟩ = false := pfrz hrow
        have c1 : wr.cell? ⟨P, 1, none⟩ = some (.int .i64 ((i + m : Nat) : Int)) := cell_of_row _ _ 1 _ _ (0, 0) hrow
        have f1 : wr.frozen? ⟨P, 1, none⟩ = false := pfrz hrow
        have c2 : wr.cell? ⟨P, 2, none⟩ = some (.int .i64 (i : Int)) := cell_of_row _ _ 2 _ _ (0, 0) hrow
        have f2 : wr.frozen? ⟨P, 2, none⟩ = false := pfrz hrow
        have c3 : wr.cell? ⟨P, 3, none⟩ = some (.int .u8 (kd : Int)) := cell_of_row _ _ 3 _ _ (0, 0) hrow
        have f3 : wr.frozen? ⟨P, 3, none⟩ = false := pfrz hrow
        have c4 : wr.cell? ⟨P, 4, none⟩ = some (.string sw) := cell_of_row _ _ 4 _ _ (0, 0) hrow
        have f4 : wr.frozen? ⟨P, 4, none⟩ = false := pfrz hrow
        have c5 : wr.cell? ⟨P, 5, none⟩ = some (.int .i64 (z : Int)) := cell_of_row _ _ 5 _ _ (0, 0) hrow
        have f5 : wr.frozen? ⟨P, 5, none⟩ = false := pfrz hrow
        have c6 : wr.cell? ⟨P, 6, none⟩ = some (.bool false) := cell_of_row _ _ 6 _ _ (0, 0) hrow
        have f6 : wr.frozen? ⟨P, 6, none⟩ = false := pfrz hrow
        clear hrow
        by_cases hlt : j < m
        · obtain ⟨d, hd⟩ : ∃ d, wd[j]? = some d := ⟨_, List.getElem?_eq_getElem (by rw [HM.out]; exact hlt)⟩
          have hdd := HD.out d (List.mem_of_getElem? hd)
          have hx := run_byte (T := 9) Tryd.underlying9 (show sw.data.toList[j]? = some d from by rw [HDAT.out]; exact hd)
          have hn1 := num_snoc (wd.take j) d
          have htk : wd.take (j + 1) = wd.take j ++ [d] := by rw [List.take_add_one, hd]; rfl
          rw [← htk, ← HZ.out] at hn1
          have hb1 : Wm.num (wd.take (j + 1)) < 10000000000 := by
            have h1 := Wm.num_lt (wd.take (j + 1)) (fun x hx => HD.out x (List.mem_of_mem_take hx))
            have h2 : (wd.take (j + 1)).length ≤ 10 := by rw [List.length_take]; omega
            have h3 : 10 ^ (wd.take (j + 1)).length ≤ 10 ^ 10 := Nat.pow_le_pow_right (by decide) h2
            have h4 : (10 : Nat) ^ 10 = 10000000000 := by decide
            omega
          unfold Wm.digt at hdd
          simp only [Bool.and_eq_true, decide_eq_true_eq] at hdd
          obtain ⟨y, hy⟩ : ∃ y : Nat, y = d.toNat - 48 := ⟨_, rfl⟩
          have hyd : (d.toNat : Int) = (y : Int) + 48 := by omega
          rw [← hy] at hn1
          rw [hn1] at hb1
          have hy9 : y ≤ 9 := by omega
          have HN1 := Lib.hid hn1
          have HB1 := Lib.hid hb1
          rw [hyd] at hx
          clear hd hdd htk hn1 hb1 hy hyd
          go_wp2_with fail
          go_region
          go_wp2_with fail
          go_roundw
          case rel =>
            refine ⟨j + 1, z * 10 + y, by go_num, by omega, HB1.out, Lib.hid HN1.out.symm, Lib.hid ?_, Lib.hid (grown_trans HGj.out (grown_trans (grown_set _ P 5 _) (grown_drewN _ 1 _)))⟩
            have hr := HW.out
            unfold PRow at hr ⊢
            exact prow_drew 1 (PRow.set 5 _ hr (by simp))
          case measure => simp [intOf]; omega
        · obtain rfl : j = m := by omega
          have HZE : Hid (z = Wm.num tk.say) := Lib.hid (by rw [HZ.out, HT2.out.2, List.take_of_length_le (by rw [HM.out]; omega)])
          go_wp2_with fail
          go_end0
          refine ⟨rfl, ⟨z, hz, ?_, fun _ => HZE.out⟩, grown_trans HGj.out (grown_set _ _ _ _)⟩
          rw [if_pos HT2.out.1]
          have hr := HW.out
          unfold PRow at hr ⊢
          exact PRow.set 3 _ hr (by simp)

end Go.Proofs.YtgiahfjndononaaDoor
