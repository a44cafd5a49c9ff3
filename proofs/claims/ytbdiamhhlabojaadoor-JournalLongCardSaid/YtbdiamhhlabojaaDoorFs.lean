/- All records that bytes begin with: the code's answer; slices of bytes, in memory of one's own. -/
import Derived.Test.YtbdiamhhlabojaaDoorFf
namespace Go.Proofs.YtbdiamhhlabojaaDoor
open Go.RowKit
set_option linter.unusedVariables false

theorem infoS : (Tryd.prog.info? 30).map (fun i => (i.zero, i.size, i.bytes)) = some (some (.slice none 0 0), 1, 24) := by kernel_rfl

/-- Rows of one's own of two types don't lie in one block. -/
theorem own_apart {w : World} {B B' e e' size size' n n' : Nat} {v v' : Value} {xs xs' : List Value} (h : w.ownsRow B e size v n xs) (h' : w.ownsRow B' e' size' v' n' xs') (hne : e ≠ e') : v'.ownBlock = none ∨ v.ownBlock ≠ v'.ownBlock := by
  rcases h'.2 with ⟨rfl, _⟩ | ⟨g', cap', cur', rfl, _, hg', _⟩
  · exact .inl rfl
  · refine .inr ?_
    rcases h.2 with ⟨rfl, _⟩ | ⟨g, cap, cur, rfl, _, hg, _⟩
    · simp [Value.ownBlock]
    · simp only [Value.ownBlock]
      intro e
      injection e with e
      subst e
      rw [hg] at hg'
      injection hg' with hg'
      injection hg' with _ h2 _
      exact hne h2

/-- A slice of slices of bytes, all of it in memory of one's own. -/
def Owns (w : World) (base : Nat) (v : Value) (ls : List (List UInt8)) : Prop :=
  ∃ vs : List Value, w.ownsRow base 30 1 v ls.length vs ∧ (∀ u ∈ vs, u.oneCell' = true) ∧ ∀ (i : Nat) (u : Value) (l : List UInt8), vs[i]? = some u → ls[i]? = some l → w.ownsRow base 5 1 u l.length (l.map B8)
theorem Owns.nil (w : World) (base : Nat) : Owns w base (.slice none 0 0) [] := ⟨[], World.ownsRow_nil _ _ _ _, by simp, by simp⟩
theorem Owns.below {w w' : World} {base : Nat} {v : Value} {ls : List (List UInt8)} (h : Owns w base v ls) (hb : Below w.heap.size w w') : Owns w' base v ls := by
  obtain ⟨vs, h1, h2, h3⟩ := h
  exact ⟨vs, own_below h1 hb, h2, fun i u l hu hl => own_below (h3 i u l hu hl) hb⟩
theorem Owns.mono {w : World} {base base' : Nat} {v : Value} {ls : List (List UInt8)} (h : Owns w base v ls) (hb : base' ≤ base) : Owns w base' v ls := by
  obtain ⟨vs, h1, h2, h3⟩ := h
  exact ⟨vs, own_mono h1 hb, h2, fun i u l hu hl => own_mono (h3 i u l hu hl) hb⟩
theorem own_one {w : World} {base n : Nat} {e : TypeId} {v : Value} {xs : List Value} (h : w.ownsRow base e 1 v n xs) : v.oneCell' = true := by
  rcases h.2 with ⟨rfl, _⟩ | ⟨g, cap, cur, rfl, _⟩ <;> rfl
theorem Owns.own_ge {w : World} {base : Nat} {v : Value} {ls : List (List UInt8)} (h : Owns w base v ls) : ∀ k, v.ownBlock = some k → base ≤ k := by
  obtain ⟨vs, h1, _⟩ := h; exact own_block_ge h1

/-- One more, appended. -/
theorem appO {w : World} {ty : TypeId} {base : Nat} {v p : Value} {ls : List (List UInt8)} {l : List UInt8} (h : Owns w base v ls) (hp : w.ownsRow base 5 1 p l.length (l.map B8)) {B : Nat} {a : Addr} (hr : Rd w B (some a) [p]) (hl : ls.length ≤ 4294967296) (hbase : base ≤ w.heap.size) :
    ∃ v' w', (Builtin.append_ #[22, 22] ty #[v, .slice (some a) 1 1]).run Tryd.prog w = .ok v' w' ∧ (Owns w' base v' (ls ++ [l]) ∧ Grew w w' v v') := by
  obtain ⟨i0, hi, hz0, hz1, hz2⟩ := info_parts infoS
  obtain ⟨vs, h1, h2, h3⟩ := h
  have hone := own_one hp
  obtain ⟨v', w', r1, r2, r3⟩ := run_append_rd (P := Tryd.prog) w base 22 ty 30 i0 _ 1 24 Tryd.underlying22 hi hz0 hz1 hz2 rfl v ls.length vs h1 B (some a) 1 1 [p] rfl hr (by simpa using hone) (by unfold maxLen; omega) (by omega) hbase
  refine ⟨v', w', r1, ⟨vs ++ [p], by rw [List.length_append]; exact r2, ?_, ?_⟩, r3⟩
  · intro u hu
    rcases List.mem_append.1 hu with hu | hu
    · exact h2 u hu
    · simp at hu; subst hu; exact hone
  · have hlen : vs.length = ls.length := by have := h1.1; omega
    intro i u m hu hm
    rcases Nat.lt_or_ge i ls.length with hi | hi
    · rw [List.getElem?_append_left (by omega)] at hu
      rw [List.getElem?_append_left hi] at hm
      exact own_grew (h3 i u m hu hm) r3 (own_apart (h3 i u m hu hm) h1 (by decide))
    · rw [List.getElem?_append_right (by omega)] at hu
      rw [List.getElem?_append_right hi] at hm
      have hi0 : i - ls.length = 0 := by
        rcases Nat.eq_zero_or_pos (i - ls.length) with h | h
        · exact h
        · rw [List.getElem?_eq_none (by simp; omega)] at hm; cases hm
      rw [hi0] at hm
      rw [show i - vs.length = 0 from by omega] at hu
      simp at hu hm
      subst hu
      subst hm
      exact own_grew hp r3 (own_apart hp h1 (by decide))

theorem Fm.first_len (l : List UInt8) (h : (Fm.first l).2.2 = true) : 4 ≤ (Fm.first l).2.1 ∧ (Fm.first l).2.1 ≤ l.length := by
  unfold Fm.first at h ⊢
  split
  · rename_i hk
    have := hk.2.1
    simp only
    omega
  · rename_i hk
    rw [if_neg hk] at h
    cases h
def Fm.splits (l : List UInt8) : List (List UInt8) × Nat := Fm.split (l.length + 1) l
theorem Fm.split_yes (f : Nat) (l : List UInt8) (h : (Fm.first l).2.2 = true) : Fm.split (f + 1) l = ((Fm.first l).1 :: (Fm.split f (l.drop (Fm.first l).2.1)).1, (Fm.first l).2.1 + (Fm.split f (l.drop (Fm.first l).2.1)).2) := by
  conv => lhs; unfold Fm.split
  rw [if_pos h]

set_option maxHeartbeats 2000000 in
set_option maxRecDepth 100000 in
theorem split_calls (A : Option Addr) (l : List UInt8) (n c : Nat) (w : World) (hn : n = l.length) (hb : Rd w w.heap.size A (l.map B8)) (hc : n ≤ c) (hl : n ≤ 1000000) :
    Calls Tryd.prog 39 #[.slice A n c] w fun e w' => ∃ v', e = .returned (.tuple #[v', .int .i64 ((Fm.splits l).2 : Nat)]) ∧ Owns w' w.heap.size v' (Fm.splits l).1 ∧ Below w.heap.size w w' := by
  have HB := Lib.hid hb
  have HN := Lib.hid hn
  clear hn hb
  go_enter Tryd.func39, Tryd.ntmps39
  go_wp2
  go_loopw [4, 5] (fun o i wr => ∃ (ps : List (List UInt8)) (e f : Nat), i = .int .i64 e ∧ e ≤ n ∧ n < f + e ∧ ps.length ≤ e ∧ Hid (Fm.splits l = (ps ++ (Fm.split f (l.drop e)).1, e + (Fm.split f (l.drop e)).2)) ∧ Hid (Owns wr w.heap.size o ps) ∧ Hid (Below w.heap.size w wr)) (fun _ i _ => n - (intOf i).toNat)
  case atStart => exact ⟨[], 0, n + 1, rfl, by omega, by omega, by simp, by rw [HN.out]; simp [Fm.splits, Hid], Owns.nil _ _, Below.refl _ _⟩
  case round =>
    obtain ⟨ps, e, f, rfl, he, hf, hps, HE, HO, HW⟩ := hrel
    have hws := HW.out.size
    have hd := ((HB.out.below HW.out).drop (k := e) (cap := c) (by simp; have := HN.out; omega))
    rw [← List.map_drop] at hd
    have HF := Lib.hid (first_calls _ (l.drop e) (n - e) (c - e) _ wr (by rw [List.length_drop]; have := HN.out; omega) hd hws (by omega) (by omega))
    clear hd
    have hfl := Fm.first_len (l.drop e)
    have hyes := Fm.split_yes (f - 1) (l.drop e)
    have hno := Fm.split_no f (l.drop e)
    rw [show f - 1 + 1 = f from by omega, List.drop_drop] at hyes
    rw [List.length_drop, ← HN.out] at hfl
    obtain ⟨⟨p, u, g⟩, hg⟩ : ∃ x, x = Fm.first (l.drop e) := ⟨_, rfl⟩
    rw [← hg] at HF hfl hyes hno
    simp only at HF hfl hyes hno
    have hcase : c = e ∨ ¬ c = e := by omega
    rcases g with _ | _
    · have HE2 : Hid (Fm.splits l = (ps, e)) := by rw [HE.out, hno rfl]; simp [Hid]
      clear hfl hyes hno hg HE
      rcases hcase with hce | hce
      · have hne : n - e = 0 := by omega
        subst hce
        simp only [if_true, Nat.sub_self, hne] at HF
        clear hne
        have hne : n = c := by omega
        subst hne
        go_wp2_with (go_at_call 64; refine HF.out.mono ?_; rintro e w1 ⟨v1, rfl, ho1, hb1⟩)
        go_ret2
        exact ⟨_, by rw [HE2.out]; rfl, by rw [HE2.out]; exact HO.out.below hb1, HW.out.trans (hb1.mono hws)⟩
      · simp only [if_neg hce] at HF
        go_wp2_with (go_at_call 64; refine HF.out.mono ?_; rintro e w1 ⟨v1, rfl, ho1, hb1⟩)
        go_ret2
        exact ⟨_, by rw [HE2.out]; rfl, by rw [HE2.out]; exact HO.out.below hb1, HW.out.trans (hb1.mono hws)⟩
    · obtain ⟨h1, h2⟩ := hfl rfl
      have HE2 : Hid (Fm.splits l = ((ps ++ [p]) ++ (Fm.split (f - 1) (l.drop (e + u))).1, (e + u) + (Fm.split (f - 1) (l.drop (e + u))).2)) := by rw [HE.out, hyes rfl]; simp [Hid]; omega
      clear hfl hyes hno hg HE
      have hce : ¬ c = e := by omega
      simp only [if_neg hce] at HF
      clear hcase
      obtain ⟨e2, he2⟩ : ∃ e2, e2 = e + u := ⟨_, rfl⟩
      rw [← he2] at HE2
      have i2 : (e : Int) + (u : Int) = (e2 : Int) := by omega
      have i3 : e2 ≤ n := by omega
      have i4 : e < e2 := by omega
      have HE3 := Lib.hid he2
      clear he2 h1 h2
      go_wp2_with (first
        | (go_at_call 64; refine HF.out.mono ?_; rintro e w1 ⟨v1, rfl, ho1, hb1⟩; have O1 := Lib.hid (HO.out.below hb1); have HW1 := Lib.hid (HW.out.trans (hb1.mono hws)); have hw1 := HW1.out.size; have hp1 := Lib.hid (own_mono ho1 hws); obtain ⟨A1, c1, rfl, _, _⟩ := own_rd ho1; clear ho1 hb1)
        | (at_builtin; refine wpList_app rfl (.tmp 21) (.tmp 23) _ _ rfl rfl rfl (appO (O1.out.below ((Below.refl _ _).alloc (Nat.le_refl _) _)) (own_below hp1.out ((Below.refl _ _).alloc (Nat.le_refl _) _)) (Rd.one w1 _ _) (by omega) (by simp; omega)) ?_; rintro v2 w2 ⟨ho2, hg2⟩; have HW2 := Lib.hid (hg2.alloc.below HW1.out hw1 O1.out.own_ge); have O2 := Lib.hid ho2; clear ho2 hg2))
      go_roundw
      case rel => exact ⟨ps ++ [p], e2, f - 1, by go_num, by omega, by omega, by simp; omega, HE2, O2, HW2⟩
      case measure => simp [intOf]; omega
end Go.Proofs.YtbdiamhhlabojaaDoor
