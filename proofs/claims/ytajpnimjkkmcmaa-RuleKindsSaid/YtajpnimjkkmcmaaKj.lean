/- RuleKinds: the walk. -/
import Derived.Test.YtajpnimjkkmcmaaKi
import Derived.Deep.RegionHeld3
namespace Go.Proofs.Ytajpnimjkkmcmaa
open Go.RowKit
set_option linter.unusedVariables false
set_option linter.unusedSimpArgs false
set_option maxRecDepth 100000

theorem read_e (l : List UInt8) (E : Int) (h : readE l = E) (hl : l.length ≤ 1000) (A : Option Addr) (n c : Nat) (W : World) (hn : n = l.length) (hr : Rd W W.heap.size A (l.map B8)) (hnc : n ≤ c) (hcm : c ≤ maxLen) :
    Calls Try.prog 25 #[.slice A n c] W fun e w' => ∃ (k q : Int) (y s : ByteArray) (A' : Option Addr) (m e' : Nat), e = .returned (.tuple #[.agg #[.int .i64 k, .int .i64 q, .string y, .string s, .slice A' m e'], .int .i64 E]) ∧ Below W.heap.size W w' := by
  refine (read_any A l n c W.heap.size W hn hr (Nat.le_refl _) hnc hcm hl).mono ?_
  rintro e w' ⟨cs, rfl, h1, h2⟩
  obtain ⟨k, q, y, v, ks, A', c', _, rfl⟩ := h1.inv
  rw [h]
  exact ⟨k, q, y, v, A', _, c', rfl, h2⟩
set_option maxHeartbeats 64000000 in
theorem kinds13 (q : Int) (w : World) :
    Calls Try.prog 9 #[.int .i64 q] w fun e w' => e = .returned (.bool true) ∧ Below w.heap.size w w' := by
  have ALV := Lib.hid (fun W => alive13_calls W)
  have NM := Lib.hid (fun n W => num_any13 n W)
  go_enter Try.func9, Try.ntmps9
  go_upto_region 5 with (go_at_call 22; (with_reducible refine (ALV.out _).mono ?_); rintro e w1 ⟨rfl, hb1⟩; have B1 := Lib.hid hb1; clear hb1)
  generalize hW : World.alloc _ _ = W4
  obtain ⟨r1, r2, r3, r4, r5, r6, hB4, hz4⟩ := allocs7 w1 _ _ _ _ _ _ _ W4 hW
  have B4 := Lib.hid (B1.out.trans (hB4.mono B1.out.size))
  have KR := Lib.hid (kinds_rows W4 w1.heap.size hz4.symm r1 r2 r3 r4 r5 r6)
  have hk5 : (⟨w1.heap.size + 1 + 1 + 1 + 1 + 1, 0, none⟩ : Addr).block < W4.heap.size := by show w1.heap.size + 1 + 1 + 1 + 1 + 1 < _; omega
  have hk6 : (⟨w1.heap.size + 1 + 1 + 1 + 1 + 1 + 1, 0, none⟩ : Addr).block < W4.heap.size := by show w1.heap.size + 1 + 1 + 1 + 1 + 1 + 1 < _; omega
  clear hW r1 r2 r3 r4 r5 r6 hB4 hz4 B1
  generalize (⟨w1.heap.size + 1 + 1 + 1 + 1 + 1, 0, none⟩ : Addr) = a5 at KR hk5 ⊢
  generalize (⟨w1.heap.size + 1 + 1 + 1 + 1 + 1 + 1, 0, none⟩ : Addr) = a6 at KR hk6 ⊢
  by_cases h1 : q < 0
  · have d1 : decide (q < 0) = true := decide_eq_true h1
    go_wp2_with fail
    go_ret
    exact ⟨rfl, B4.out⟩
  · have d1 : decide (q < 0) = false := decide_eq_false h1
    by_cases h2 : 24 ≤ q
    · have d2 : decide (24 ≤ q) = true := decide_eq_true h2
      go_wp2_with fail
      go_ret
      exact ⟨rfl, B4.out⟩
    · have d2 : decide (24 ≤ q) = false := decide_eq_false h2
      obtain ⟨i, rfl⟩ := Int.eq_ofNat_of_zero_le (show 0 ≤ q by omega)
      obtain ⟨k, n, key, val, kids, kA, kc, b, hR, hb, c0, c1, c2, c3, c4, c5⟩ := KR.out i (by omega)
      clear KR
      have KBY := Lib.hid (fun V (hV : Below W4.heap.size W4 V) => bytes_all hR V hV hV.size (fun hr => by have := bts_small hr; omega))
      have KRI := Lib.hid (fun V (hV : Below W4.heap.size W4 V) => right_all hR V hV hV.size)
      rw [hb] at KBY KRI
      have hY : ∃ Y : List UInt8, (if b = true then (Rt.mk k n key val kids).bts else []) = Y ∧ Y.length ≤ 720 ∧ (b = true → 0 < Y.length ∧ readE Y = 0) ∧ (b = false → Y = [] ∧ readE Y = 2) := by
        refine ⟨_, rfl, ?_, fun h => ?_, fun h => ?_⟩
        · cases b
          · simp
          · simpa using bts_small hb
        · subst h
          exact ⟨Rt.bts_ne _, (reads_bts hb).2.2⟩
        · subst h
          exact ⟨rfl, by show readE [] = 2; unfold readE; rw [reads_nil]; rfl⟩
      obtain ⟨Y, hY, hY1, hY2, hY3⟩ := hY
      rw [hY] at KBY
      clear hY hb hR
      generalize kids.length = m at *
      simp only [rcs] at KBY KRI
      obtain ⟨yl, hyl⟩ : ∃ yl, yl = Y.length := ⟨_, rfl⟩
      have HYL := Lib.hid hyl
      rw [← hyl] at hY1 hY2
      have i0 : (0 : Int) ≤ (i : Int) := by omega
      have i1 : (i : Int) < 24 := by omega
      have i2 : i < 24 := by omega
      have ST := Lib.hid (show ∀ V, Below W4.heap.size W4 V → (V.cell? (a5.add (i * 5)) = some (.int .i64 k) ∧ V.cell? ⟨(a5.add (i * 5)).block, (a5.add (i * 5)).off + 1, none⟩ = some (.int .i64 n) ∧ V.cell? ⟨(a5.add (i * 5)).block, (a5.add (i * 5)).off + 2, none⟩ = some (.string key) ∧ V.cell? ⟨(a5.add (i * 5)).block, (a5.add (i * 5)).off + 3, none⟩ = some (.string val) ∧ V.cell? ⟨(a5.add (i * 5)).block, (a5.add (i * 5)).off + 4, none⟩ = some (.slice kA m kc) ∧ V.cell? (a6.add i) = some (.bool b)) from fun V hV => ⟨(hV.cell (by rw [block_add]; exact hk5)).trans c0, (hV.cell (by show (a5.add _).block < _; rw [block_add]; exact hk5)).trans c1, (hV.cell (by show (a5.add _).block < _; rw [block_add]; exact hk5)).trans c2, (hV.cell (by show (a5.add _).block < _; rw [block_add]; exact hk5)).trans c3, (hV.cell (by show (a5.add _).block < _; rw [block_add]; exact hk5)).trans c4, (hV.cell (by rw [block_add]; exact hk6)).trans c5⟩)
      clear hk5 hk6 h1 h2
      cases b
      · obtain ⟨e1, e2⟩ := hY3 rfl
        have KRD := Lib.hid (read_e Y 2 e2 (by omega))
        obtain rfl : yl = 0 := by rw [hyl, e1]; rfl
        clear e1 e2 hY2 hY3 hyl
        go_upto_region 9 with (first
          | (have hd := done5; go_at_call 25; (with_reducible refine (KRD.out xA _ xc w5 HYL.out HX5.out HXC.out.1 HXC.out.2).mono ?_); rintro e w6 ⟨k6, q6, y6, s6, A6, m6, e6, rfl, hb6⟩; have B6 := Lib.hid (B5.out.trans ((hb6.trans (((Below.refl w6.heap.size w6).alloc (Nat.le_refl _) (.cells #[.int .i64 k6, .int .i64 q6, .string y6, .string s6, .slice A6 m6 e6] 43)).mono hb6.size)).mono B5.out.size)); clear hb6 hd done5)
          | (go_at_call 24; (with_reducible refine (KBY.out _ (Below.refl _ _)).mono ?_); rintro e w5 ⟨v5, rfl, ho5, hb5⟩; rw [← HYL.out] at ho5; obtain ⟨xA, xc, rfl, hxc, hxr⟩ := own_rd ho5; have HXC := Lib.hid (own_cap ho5); have HX5 := Lib.hid hxr; have B5 := Lib.hid hb5; clear ho5 hb5 hxr hxc; (clear c0 c1 c2 c3 c4 c5); have done5 := trivial))
        have hB9 : Below W4.heap.size W4 (w6.alloc (.cells #[.int .i64 k6, .int .i64 q6, .string y6, .string s6, .slice A6 m6 e6] 43)).drew := B6.out.trans ⟨rfl, rfl, rfl, Nat.le_refl _, fun _ _ => rfl⟩
        have hS9 : (Hid (Below W4.heap.size W4 (w6.alloc (.cells #[.int .i64 k6, .int .i64 q6, .string y6, .string s6, .slice A6 m6 e6] 43)).drew) ∧ ((w6.alloc (.cells #[.int .i64 k6, .int .i64 q6, .string y6, .string s6, .slice A6 m6 e6] 43)).drew.cell? (a5.add (i * 5)) = some (.int .i64 k) ∧ (w6.alloc (.cells #[.int .i64 k6, .int .i64 q6, .string y6, .string s6, .slice A6 m6 e6] 43)).drew.cell? ⟨(a5.add (i * 5)).block, (a5.add (i * 5)).off + 1, none⟩ = some (.int .i64 n) ∧ (w6.alloc (.cells #[.int .i64 k6, .int .i64 q6, .string y6, .string s6, .slice A6 m6 e6] 43)).drew.cell? ⟨(a5.add (i * 5)).block, (a5.add (i * 5)).off + 2, none⟩ = some (.string key) ∧ (w6.alloc (.cells #[.int .i64 k6, .int .i64 q6, .string y6, .string s6, .slice A6 m6 e6] 43)).drew.cell? ⟨(a5.add (i * 5)).block, (a5.add (i * 5)).off + 3, none⟩ = some (.string val) ∧ (w6.alloc (.cells #[.int .i64 k6, .int .i64 q6, .string y6, .string s6, .slice A6 m6 e6] 43)).drew.cell? ⟨(a5.add (i * 5)).block, (a5.add (i * 5)).off + 4, none⟩ = some (.slice kA m kc) ∧ (w6.alloc (.cells #[.int .i64 k6, .int .i64 q6, .string y6, .string s6, .slice A6 m6 e6] 43)).drew.cell? (a6.add i) = some (.bool false))) := ⟨Lib.hid hB9, ST.out _ hB9⟩
        have KQ := Lib.hid (show ∀ U V : World, (Hid (Below W4.heap.size W4 U) ∧ (U.cell? (a5.add (i * 5)) = some (.int .i64 k) ∧ U.cell? ⟨(a5.add (i * 5)).block, (a5.add (i * 5)).off + 1, none⟩ = some (.int .i64 n) ∧ U.cell? ⟨(a5.add (i * 5)).block, (a5.add (i * 5)).off + 2, none⟩ = some (.string key) ∧ U.cell? ⟨(a5.add (i * 5)).block, (a5.add (i * 5)).off + 3, none⟩ = some (.string val) ∧ U.cell? ⟨(a5.add (i * 5)).block, (a5.add (i * 5)).off + 4, none⟩ = some (.slice kA m kc) ∧ U.cell? (a6.add i) = some (.bool false))) → Below U.heap.size U V → (Hid (Below W4.heap.size W4 V) ∧ (V.cell? (a5.add (i * 5)) = some (.int .i64 k) ∧ V.cell? ⟨(a5.add (i * 5)).block, (a5.add (i * 5)).off + 1, none⟩ = some (.int .i64 n) ∧ V.cell? ⟨(a5.add (i * 5)).block, (a5.add (i * 5)).off + 2, none⟩ = some (.string key) ∧ V.cell? ⟨(a5.add (i * 5)).block, (a5.add (i * 5)).off + 3, none⟩ = some (.string val) ∧ V.cell? ⟨(a5.add (i * 5)).block, (a5.add (i * 5)).off + 4, none⟩ = some (.slice kA m kc) ∧ V.cell? (a6.add i) = some (.bool false))) from fun U V h hV => have hx := h.1.out.trans (hV.mono h.1.out.size); ⟨Lib.hid hx, ST.out V hx⟩)
        clear hB9
        go_region_held3 (fun w' => (Hid (Below W4.heap.size W4 w') ∧ (w'.cell? (a5.add (i * 5)) = some (.int .i64 k) ∧ w'.cell? ⟨(a5.add (i * 5)).block, (a5.add (i * 5)).off + 1, none⟩ = some (.int .i64 n) ∧ w'.cell? ⟨(a5.add (i * 5)).block, (a5.add (i * 5)).off + 2, none⟩ = some (.string key) ∧ w'.cell? ⟨(a5.add (i * 5)).block, (a5.add (i * 5)).off + 3, none⟩ = some (.string val) ∧ w'.cell? ⟨(a5.add (i * 5)).block, (a5.add (i * 5)).off + 4, none⟩ = some (.slice kA m kc) ∧ w'.cell? (a6.add i) = some (.bool false))))
          (first | (with_reducible assumption) | (with_reducible exact hS9) | (have hq := hbq; (with_reducible exact KQ.out _ _ (by assumption) hq)))
          ((first
            | (go_at_call 27; (with_reducible refine (KRI.out _ (‹Hid (Below W4.heap.size W4 _) ∧ _›).1.out).mono ?_); rintro e w7 ⟨rfl, hbq⟩)
            | (go_at_call 31; (with_reducible refine (NM.out _ _).mono ?_); rintro e w8 ⟨rfl, rfl⟩)))
        all_goals
          go_wp2_with fail
          go_ret
          obtain ⟨hf, _⟩ := ‹Hid (Below W4.heap.size W4 _) ∧ _›
          exact ⟨by simp, B4.out.trans (hf.out.mono B4.out.size)⟩

      · obtain ⟨e1, e2⟩ := hY2 rfl
        have KRD := Lib.hid (read_e Y 0 e2 (by omega))
        have d3 : decide ((0 : Int) < (yl : Int)) = true := decide_eq_true (by omega)
        clear e2 hY2 hY3 hyl
        go_upto_region 9 with (first
          | (have hd := done5; go_at_call 25; (with_reducible refine (KRD.out xA _ xc w5 HYL.out HX5.out HXC.out.1 HXC.out.2).mono ?_); rintro e w6 ⟨k6, q6, y6, s6, A6, m6, e6, rfl, hb6⟩; have B6 := Lib.hid (B5.out.trans ((hb6.trans (((Below.refl w6.heap.size w6).alloc (Nat.le_refl _) (.cells #[.int .i64 k6, .int .i64 q6, .string y6, .string s6, .slice A6 m6 e6] 43)).mono hb6.size)).mono B5.out.size)); clear hb6 hd done5)
          | (go_at_call 24; (with_reducible refine (KBY.out _ (Below.refl _ _)).mono ?_); rintro e w5 ⟨v5, rfl, ho5, hb5⟩; rw [← HYL.out] at ho5; obtain ⟨xA, xc, rfl, hxc, hxr⟩ := own_rd ho5; have HXC := Lib.hid (own_cap ho5); have HX5 := Lib.hid hxr; have B5 := Lib.hid hb5; clear ho5 hb5 hxr hxc; (clear c0 c1 c2 c3 c4 c5); have done5 := trivial))
        have hB9 : Below W4.heap.size W4 (w6.alloc (.cells #[.int .i64 k6, .int .i64 q6, .string y6, .string s6, .slice A6 m6 e6] 43)).drew := B6.out.trans ⟨rfl, rfl, rfl, Nat.le_refl _, fun _ _ => rfl⟩
        have hS9 : (Hid (Below W4.heap.size W4 (w6.alloc (.cells #[.int .i64 k6, .int .i64 q6, .string y6, .string s6, .slice A6 m6 e6] 43)).drew) ∧ ((w6.alloc (.cells #[.int .i64 k6, .int .i64 q6, .string y6, .string s6, .slice A6 m6 e6] 43)).drew.cell? (a5.add (i * 5)) = some (.int .i64 k) ∧ (w6.alloc (.cells #[.int .i64 k6, .int .i64 q6, .string y6, .string s6, .slice A6 m6 e6] 43)).drew.cell? ⟨(a5.add (i * 5)).block, (a5.add (i * 5)).off + 1, none⟩ = some (.int .i64 n) ∧ (w6.alloc (.cells #[.int .i64 k6, .int .i64 q6, .string y6, .string s6, .slice A6 m6 e6] 43)).drew.cell? ⟨(a5.add (i * 5)).block, (a5.add (i * 5)).off + 2, none⟩ = some (.string key) ∧ (w6.alloc (.cells #[.int .i64 k6, .int .i64 q6, .string y6, .string s6, .slice A6 m6 e6] 43)).drew.cell? ⟨(a5.add (i * 5)).block, (a5.add (i * 5)).off + 3, none⟩ = some (.string val) ∧ (w6.alloc (.cells #[.int .i64 k6, .int .i64 q6, .string y6, .string s6, .slice A6 m6 e6] 43)).drew.cell? ⟨(a5.add (i * 5)).block, (a5.add (i * 5)).off + 4, none⟩ = some (.slice kA m kc) ∧ (w6.alloc (.cells #[.int .i64 k6, .int .i64 q6, .string y6, .string s6, .slice A6 m6 e6] 43)).drew.cell? (a6.add i) = some (.bool true))) := ⟨Lib.hid hB9, ST.out _ hB9⟩
        have KQ := Lib.hid (show ∀ U V : World, (Hid (Below W4.heap.size W4 U) ∧ (U.cell? (a5.add (i * 5)) = some (.int .i64 k) ∧ U.cell? ⟨(a5.add (i * 5)).block, (a5.add (i * 5)).off + 1, none⟩ = some (.int .i64 n) ∧ U.cell? ⟨(a5.add (i * 5)).block, (a5.add (i * 5)).off + 2, none⟩ = some (.string key) ∧ U.cell? ⟨(a5.add (i * 5)).block, (a5.add (i * 5)).off + 3, none⟩ = some (.string val) ∧ U.cell? ⟨(a5.add (i * 5)).block, (a5.add (i * 5)).off + 4, none⟩ = some (.slice kA m kc) ∧ U.cell? (a6.add i) = some (.bool true))) → Below U.heap.size U V → (Hid (Below W4.heap.size W4 V) ∧ (V.cell? (a5.add (i * 5)) = some (.int .i64 k) ∧ V.cell? ⟨(a5.add (i * 5)).block, (a5.add (i * 5)).off + 1, none⟩ = some (.int .i64 n) ∧ V.cell? ⟨(a5.add (i * 5)).block, (a5.add (i * 5)).off + 2, none⟩ = some (.string key) ∧ V.cell? ⟨(a5.add (i * 5)).block, (a5.add (i * 5)).off + 3, none⟩ = some (.string val) ∧ V.cell? ⟨(a5.add (i * 5)).block, (a5.add (i * 5)).off + 4, none⟩ = some (.slice kA m kc) ∧ V.cell? (a6.add i) = some (.bool true))) from fun U V h hV => have hx := h.1.out.trans (hV.mono h.1.out.size); ⟨Lib.hid hx, ST.out V hx⟩)
        clear hB9
        go_region_held3 (fun w' => (Hid (Below W4.heap.size W4 w') ∧ (w'.cell? (a5.add (i * 5)) = some (.int .i64 k) ∧ w'.cell? ⟨(a5.add (i * 5)).block, (a5.add (i * 5)).off + 1, none⟩ = some (.int .i64 n) ∧ w'.cell? ⟨(a5.add (i * 5)).block, (a5.add (i * 5)).off + 2, none⟩ = some (.string key) ∧ w'.cell? ⟨(a5.add (i * 5)).block, (a5.add (i * 5)).off + 3, none⟩ = some (.string val) ∧ w'.cell? ⟨(a5.add (i * 5)).block, (a5.add (i * 5)).off + 4, none⟩ = some (.slice kA m kc) ∧ w'.cell? (a6.add i) = some (.bool true))))
          (first | (with_reducible assumption) | (with_reducible exact hS9) | (have hq := hbq; (with_reducible exact KQ.out _ _ (by assumption) hq)))
          ((first
            | (go_at_call 27; (with_reducible refine (KRI.out _ (‹Hid (Below W4.heap.size W4 _) ∧ _›).1.out).mono ?_); rintro e w7 ⟨rfl, hbq⟩)
            | (go_at_call 31; (with_reducible refine (NM.out _ _).mono ?_); rintro e w8 ⟨rfl, rfl⟩)))
        all_goals
          go_wp2_with fail
          go_ret
          obtain ⟨hf, _⟩ := ‹Hid (Below W4.heap.size W4 _) ∧ _›
          exact ⟨by simp, B4.out.trans (hf.out.mono B4.out.size)⟩

end Go.Proofs.Ytajpnimjkkmcmaa
