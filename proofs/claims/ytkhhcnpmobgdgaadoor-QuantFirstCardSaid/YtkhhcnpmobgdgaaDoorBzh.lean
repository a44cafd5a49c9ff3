/- SameBusy of equal ones; sums of the busiest. -/
import Derived.Test.YtkhhcnpmobgdgaaDoorBzg
import Derived.Test.YtkhhcnpmobgdgaaDoorQa
namespace Go.Proofs.YtkhhcnpmobgdgaaDoor
open Go.RowKit
set_option linter.unusedVariables false
set_option linter.unusedSimpArgs false
set_option maxRecDepth 100000

theorem bz_cells {w : World} {B : Nat} {A : Option Addr} {l : List Bz} (h : Rd w B A (l.flatMap Bz.cells)) {k : Nat} {e : Bz} (he : l[k]? = some e) : ∃ a, A = some a ∧ a.block < B ∧ w.cell? (a.add (k * 4)) = some (.string e.sv) ∧ w.cell? ⟨(a.add (k * 4)).block, (a.add (k * 4)).off + 1, none⟩ = some (.string e.op) ∧ w.cell? ⟨(a.add (k * 4)).block, (a.add (k * 4)).off + 2, none⟩ = some (.int .i64 e.ct) ∧ w.cell? ⟨(a.add (k * 4)).block, (a.add (k * 4)).off + 3, none⟩ = some (.int .i64 e.er) := by
  obtain ⟨a, hA, hb, hc⟩ := bz_at h he
  exact ⟨a, hA, hb, hc 0 _ rfl, cell_far (hc 1 _ rfl) (by decide), cell_far (hc 2 _ rfl) (by decide), cell_far (hc 3 _ rfl) (by decide)⟩
set_option maxHeartbeats 4000000 in
theorem bzneq_same (sv op : ByteArray) (ct er : Int) (w : World) : (binOp .neq 61 (.agg #[.string sv, .string op, .int .i64 ct, .int .i64 er]) (.agg #[.string sv, .string op, .int .i64 ct, .int .i64 er])).run Tryd.prog w = .ok (.bool false) w := by
  have hS : Tryd.prog.underlying 61 = some (.struct (Tryd.prog.fieldsOf 61)) := by kernel_rfl
  have hp : Tryd.prog.stoodInHeld 61 = false := by kernel_rfl
  rw [run_neq_struct, show (10000 : Nat) = 9999 + 1 from rfl, run_equalIn_agg w 9999 61 _ _ hS hp]
  simp only [Program.fieldsOf, Tryd.underlying61]
  go_simp
set_option maxHeartbeats 8000000 in
theorem samebusy_same (A A2 : Option Addr) (l : List Bz) (n c c2 B : Nat) (w : World) (hn : n = l.length) (hr : Rd w B A (l.flatMap Bz.cells)) (hr2 : Rd w B A2 (l.flatMap Bz.cells)) (hB : B ≤ w.heap.size) (hsm : n ≤ 1000000) :
    Calls Tryd.prog 29 #[.slice A n c, .slice A2 n c2] w fun e w' => e = .returned (.bool true) ∧ Below w.heap.size w w' := by
  have HN := Lib.hid hn
  have HR := Lib.hid hr
  have HR2 := Lib.hid hr2
  clear hn hr hr2
  go_enter Tryd.func29, Tryd.ntmps29
  go_wp2_with fail
  go_loopw [5] (fun a wr => ∃ k : Nat, a = .int .i64 k ∧ k ≤ n ∧ Hid (Below w.heap.size w wr)) (fun a _ => n - (intOf a).toNat)
  case atStart => exact ⟨0, rfl, Nat.zero_le _, Lib.hid (Below.refl _ _)⟩
  case round =>
    obtain ⟨k, rfl, hk, HW⟩ := hrel
    by_cases hlt : k < n
    · obtain ⟨f, hf⟩ : ∃ f, l[k]? = some f := ⟨_, List.getElem?_eq_getElem (by rw [← HN.out]; omega)⟩
      obtain ⟨a, rfl, hab, x0, x1, x2, x3⟩ := bz_cells (HR.out.below (HW.out.mono hB)) hf
      obtain ⟨a', rfl, hab', y0, y1, y2, y3⟩ := bz_cells (HR2.out.below (HW.out.mono hB)) hf
      have i2 : (k : Int) < (n : Int) := by omega
      have i5 : (0 : Int) ≤ (k : Int) := by omega
      have i6 : (n : Int) ≤ 1000000 := by omega
      have HJ := Lib.hid hlt
      clear hf hlt hk
      obtain ⟨sv, op, ct, er⟩ := f
      simp only at x0 x1 x2 x3 y0 y1 y2 y3
      go_wp2_with fail
      have n0 := fun p : NowB wr => p.cell x0
      have n1 := fun p : NowB wr => p.cell x1
      have n2 := fun p : NowB wr => p.cell x2
      have n3 := fun p : NowB wr => p.cell x3
      have m0 := fun p : NowB wr => p.cell y0
      have m1 := fun p : NowB wr => p.cell y1
      have m2 := fun p : NowB wr => p.cell y2
      have m3 := fun p : NowB wr => p.cell y3
      clear x0 x1 x2 x3 y0 y1 y2 y3
      refine wp_region_quiet_below (by kernel_rfl) (by kernel_rfl) ?_
      repeat (go_big_quiet_step ((fail)))
      refine wpQuiet_nil ?_
      intro _ hw'
      obtain ⟨pp, hw''⟩ := hw'
      subst hw''
      have HW9 := Lib.hid (HW.out.trans (pp.h.mono HW.out.size))
      have HP9 := Lib.hid pp.h
      generalize pp.W = w9 at *
      go_wp2_with fail
      go_roundw
      case rel => exact ⟨k + 1, by go_num, HJ.out, HW9⟩
      case measure => have := HJ.out; simp [intOf]; omega
    · obtain rfl : k = n := by omega
      go_wp2_with fail
      go_ret
      exact ⟨rfl, HW.out⟩
theorem r_infoZ : (Tryd.prog.info? 48).map (fun i => (i.zero, i.size, i.bytes)) = some (some (.agg #[.int .i64 0, .int .i64 0, .string ⟨#[]⟩, .string ⟨#[]⟩, .int .i64 0, .int .i64 0, .int .i64 0, .int .i64 0, .int .i64 0, .int .i64 0, .int .i64 0, .int .i64 0, .int .i64 0, .int .i64 0]), 14, 128) := by kernel_rfl
theorem appRw {w : World} {ty : TypeId} {base B n m c : Nat} {v : Value} {A : Option Addr} {L K : List Rw} (h : w.ownsRow base 48 14 v n (L.flatMap Rw.cells)) (hr : Rd w B A (K.flatMap Rw.cells)) (hm : m = K.length) (hs : n + m ≤ 1000000) (hbase : base ≤ w.heap.size) :
    ∃ v' w', (Builtin.append_ #[22, 22] ty #[v, .slice A m c]).run Tryd.prog w = .ok v' w' ∧ w'.ownsRow base 48 14 v' (n + m) ((L ++ K).flatMap Rw.cells) ∧ Grew w w' v v' := by
  obtain ⟨i0, hi, hz0, hz1, hz2⟩ := info_parts r_infoZ
  obtain ⟨v', w', r1, r2, r3⟩ := run_append_rd (P := Tryd.prog) w base 22 ty 48 i0 _ 14 128 Tryd.underlying22 hi hz0 hz1 hz2 rfl v n (L.flatMap Rw.cells) h B A m c (K.flatMap Rw.cells) (by rw [flatMap_len _ 14 rcells_len, hm]) hr (rcells_one K) (by unfold maxLen; omega) (by omega) hbase
  exact ⟨v', w', r1, by rw [List.flatMap_append]; exact r2, r3⟩
/-! Sums. -/
def sumB (l : List Bz) : Int := l.foldr (fun b a => b.ct + a) 0
theorem sumB_cons (b : Bz) (l : List Bz) : sumB (b :: l) = b.ct + sumB l := rfl
theorem sumB_perm {l m : List Bz} (h : l.Perm m) : sumB l = sumB m := by
  induction h with
  | nil => rfl
  | cons x h ih => rw [sumB_cons, sumB_cons, ih]
  | swap x y l => rw [sumB_cons, sumB_cons, sumB_cons, sumB_cons]; omega
  | trans h1 h2 ih1 ih2 => rw [ih1, ih2]
def sumR (lv : Int) (l : List Rw) : Int := l.foldl (fun a r => if r.k.lv = lv then a + r.ct.getD 0 0 else a) 0
theorem sumR_snoc (lv : Int) (l : List Rw) (r : Rw) : sumR lv (l ++ [r]) = if r.k.lv = lv then sumR lv l + r.ct.getD 0 0 else sumR lv l := by unfold sumR; rw [List.foldl_append]; rfl
theorem sum_bump {k : Bk2} {c e : Int} (hc : 0 ≤ c) : ∀ {l : List Bz}, (∀ b ∈ l, 0 ≤ b.ct) → sumB l + c ≤ 9223372036854775807 → sumB (bumpB k c e l) = sumB l + c ∧ ∀ b ∈ bumpB k c e l, 0 ≤ b.ct
  | [], _, hs => by
    have h0 : sumB [] = 0 := rfl
    rw [h0] at hs
    have hp : Bm.plus 0 c = c := by unfold Bm.plus; rw [if_neg (by omega)]; omega
    unfold bumpB
    refine ⟨by show Bm.plus 0 c + sumB [] = sumB [] + c; rw [hp]; omega, fun b hb => ?_⟩
    simp at hb; subst hb
    show 0 ≤ Bm.plus 0 c
    rw [hp]; exact hc
  | b :: t, h, hs => by
    have hb0 := h b List.mem_cons_self
    have ht : ∀ x ∈ t, 0 ≤ x.ct := fun x hx => h x (List.mem_cons_of_mem _ hx)
    have hst : 0 ≤ sumB t := by
      have : ∀ m : List Bz, (∀ x ∈ m, 0 ≤ x.ct) → 0 ≤ sumB m := by
        intro m
        induction m with
        | nil => intro _; exact Int.le_refl _
        | cons y m ih => intro hm; rw [sumB_cons]; have := hm y List.mem_cons_self; have := ih fun x hx => hm x (List.mem_cons_of_mem _ hx); omega
      exact this t ht
    rw [sumB_cons] at hs ⊢
    unfold bumpB
    split
    · have hp : Bm.plus b.ct c = b.ct + c := by unfold Bm.plus; rw [if_neg (by omega)]; omega
      refine ⟨by rw [sumB_cons]; show Bm.plus b.ct c + _ = _; rw [hp]; omega, fun x hx => ?_⟩
      rcases List.mem_cons.1 hx with rfl | hx
      · show 0 ≤ Bm.plus b.ct c; rw [hp]; omega
      · exact ht x hx
    · obtain ⟨h1, h2⟩ := sum_bump (k := k) (e := e) hc ht (by omega)
      refine ⟨by rw [sumB_cons, h1]; omega, fun x hx => ?_⟩
      rcases List.mem_cons.1 hx with rfl | hx
      · exact hb0
      · exact h2 x hx
theorem agg_sum (lv : Int) : ∀ (R : List Rw), (∀ r ∈ R, 0 ≤ r.ct.getD 0 0 ∧ r.ct.getD 0 0 ≤ 1099511627776) → R.length ≤ 1000 → sumB (aggB lv R) = sumR lv R ∧ (∀ b ∈ aggB lv R, 0 ≤ b.ct) ∧ 0 ≤ sumR lv R ∧ sumR lv R ≤ R.length * 1099511627776 := by
  have key : ∀ Q : List Rw, (∀ r ∈ Q.reverse, 0 ≤ r.ct.getD 0 0 ∧ r.ct.getD 0 0 ≤ 1099511627776) → Q.length ≤ 1000 → sumB (aggB lv Q.reverse) = sumR lv Q.reverse ∧ (∀ b ∈ aggB lv Q.reverse, 0 ≤ b.ct) ∧ 0 ≤ sumR lv Q.reverse ∧ sumR lv Q.reverse ≤ Q.length * 1099511627776 := by
    intro Q
    induction Q with
    | nil => intro _ _; exact ⟨rfl, (fun b hb => by cases hb), Int.le_refl _, (show (0 : Int) ≤ (0 : Nat) * 1099511627776 by decide)⟩
    | cons r Q ih =>
      intro h hl
      rw [List.reverse_cons] at h ⊢
      rw [List.length_cons] at hl
      obtain ⟨h1, h2, h3, h4⟩ := ih (fun x hx => h x (List.mem_append_left _ hx)) (by omega)
      have hr := h r (List.mem_append_right _ (List.mem_singleton.2 rfl))
      rw [aggB_snoc, sumR_snoc, List.length_cons]
      unfold stepB
      by_cases hv : r.k.lv = lv
      · rw [if_pos hv, if_pos hv]
        obtain ⟨g1, g2⟩ := sum_bump (k := (r.k.sv, r.k.op)) (e := r.ct.getD 1 0) hr.1 h2 (by rw [h1]; omega)
        exact ⟨by rw [g1, h1], g2, by omega, by push_cast; omega⟩
      · rw [if_neg hv, if_neg hv]
        exact ⟨h1, h2, h3, by push_cast; omega⟩
  intro R h hl
  have := key R.reverse (by rwa [List.reverse_reverse]) (by rwa [List.length_reverse])
  rwa [List.reverse_reverse, List.length_reverse] at this
theorem sumR_step (lv : Int) {l : List Rw} {k : Nat} {r : Rw} (h : l[k]? = some r) : sumR lv (l.take (k + 1)) = if r.k.lv = lv then sumR lv (l.take k) + r.ct.getD 0 0 else sumR lv (l.take k) := by
  rw [List.take_add_one, h]; exact sumR_snoc lv _ r
theorem sumB_drop {l : List Bz} {k : Nat} {b : Bz} (h : l[k]? = some b) : sumB (l.drop k) = b.ct + sumB (l.drop (k + 1)) := by
  have hk := (List.getElem?_eq_some_iff.1 h).1
  rw [List.drop_eq_getElem_cons hk, (List.getElem?_eq_some_iff.1 h).2, sumB_cons]
end Go.Proofs.YtkhhcnpmobgdgaaDoor
