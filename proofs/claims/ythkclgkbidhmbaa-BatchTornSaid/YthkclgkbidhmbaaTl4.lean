/- BatchTells: how any batch is written, and which any bytes are. -/
import Derived.Test.YthkclgkbidhmbaaDo
import Derived.Test.YthkclgkbidhmbaaTp
import Derived.Test.YthkclgkbidhmbaaFew
import Derived.Test.YthkclgkbidhmbaaApo
import Derived.Test.YthkclgkbidhmbaaSq
import Derived.Test.YthkclgkbidhmbaaFe
namespace Go.Proofs.Ythkclgkbidhmbaa
open Go.RowKit
set_option linter.unusedVariables false
set_option linter.unusedSimpArgs false
set_option maxRecDepth 100000

namespace PI
section
variable {P : Program} {ops : Array Oper} {a0 : Act} {w0 : World} {R : World → World → Prop} {G : Nat → World → Prop} {F : Nat → Value → World → Prop} {Q : Exit → Act → World → Prop} {nd : List (Nat × Nat)} {fin : List Nat} {I : (Nat → Bool) → Act → World → Prop} {L : Nat → Bool} {i : Nat} {o : Oper} {a : Act} {w : World}
theorem yielded_undef {tmps : Array Value} {g d : Nat} (h2 : ((ops[g]?).bind (·.dst)) = some d) (h : tmps.getD d undef = undef) : yielded ops tmps g = none := by
  unfold yielded
  rw [h2]
  simp only [Array.getD_eq_getD_getElem?] at h
  cases hd : tmps[d]? with
  | none => simp [hd]
  | some v =>
    rw [hd] at h
    simp only [Option.getD_some] at h
    subst h
    simp [hd, undef]
/-- Guarded by what was not carried out. -/
theorem shown_undef (g d : Nat) (b : Bool) (hg : o.guard = some (g, b)) (h1 : (o.after.any fun e => Region.binds .any e && e.on == g) = true) (hn : nd.contains (i, g) = true) (h2 : ((ops[g]?).bind (·.dst)) = some d) (hF : ∀ v w, F g v w → v = undef) (h : ∀ w, F i undef w) (hI : ∀ a w L, ToldG ops a0 R G F nd I L i o a w → I (upd L i) (a.put o.dst undef) w) : ShownG P ops a0 w0 R G F nd fin I Q i o := by
  intro a w L hr T
  have hy := yielded_undef (ops := ops) (tmps := a.tmps) h2 (hF _ _ (T.at_ g d h1 hn h2))
  rw [if_neg (by simp [Region.wanted, hg, hy])]
  exact ⟨h w, hI a w L T⟩
end
end PI
theorem own_cap' {w : World} {base e size n : Nat} {v : Value} {xs : List Value} (h : w.ownsRow base e size v n xs) : ∀ A c, v = .slice A n c → c ≤ maxLen := fun A c hv => by subst hv; exact (own_cap h).2
def BatchRes (s : List Sp) (er : Int) (w : World) (e : Ending) (w' : World) : Prop := ∃ (v : Value) (l' : List Ls), e = .returned (.tuple #[v, .int .i64 er]) ∧ OwnSps w' w.heap.size v l' ∧ l'.map Ls.s = s ∧ Below w.heap.size w w'
theorem noBatch_res {w w' : World} {e : Ending} (h : NoBatch w e w') : BatchRes [] 2 w e w' := ⟨.slice none 0 0, [], h.1, OwnSps.nil, rfl, h.2⟩
theorem batch_reads (b : List UInt8) (hb : b.length ≤ 500000) : ∃ (s : List Sp) (er : Int),
    (∀ (A : Option Addr) (n c B : Nat) (w : World), n = b.length → Rd w B A (b.map B8) → B ≤ w.heap.size → (n ≤ c ∧ c ≤ maxLen) → Calls Try.prog 49 #[.slice A n c] w (BatchRes s er w)) ∧
    (∀ (A : Option Addr) (n c B : Nat) (w : World), n = b.length → Rd w B A (b.map B8) → B ≤ w.heap.size → (n ≤ c ∧ c ≤ maxLen) → Calls Try.prog 50 #[.slice A n c] w (BatchRes s er w)) := by
  obtain ⟨h1, h2⟩ := batch_both b
  cases hk : Bm.okB b with
  | false =>
    refine ⟨[], 2, fun A n c B w hn hr hB hc => ?_, fun A n c B w hn hr hB hc => ?_⟩
    · exact ((readbatch_any A b n c B w hn hr hB hc (by omega)).1 hk).mono fun e w' h => noBatch_res h
    · exact ((dreadbatch_any A b n c B w hn hr hB hc (by omega)).1 (h1.trans hk)).mono fun e w' h => noBatch_res h
  | true =>
    refine ⟨(Bm.all b).2, 0, fun A n c B w hn hr hB hc => ?_, fun A n c B w hn hr hB hc => ?_⟩
    · exact ((readbatch_any A b n c B w hn hr hB hc (by omega)).2 hk).mono fun e w' h => h
    · have h := (dreadbatch_any A b n c B w hn hr hB hc (by omega)).2 (h1.trans hk)
      rw [h2 hk] at h
      exact h.mono fun e w' h => h
theorem batchRes_lit {s : List Sp} {er : Int} {w w' : World} {e : Ending} (p : Nat) (hp : p = s.length) (h : BatchRes s er w e w') : ∃ (A : Option Addr) (c : Nat) (l' : List Ls), e = .returned (.tuple #[.slice A p c, .int .i64 er]) ∧ RdSps w' w'.heap.size A l' ∧ (p = l'.length ∧ p ≤ maxLen) ∧ l'.map Ls.s = s ∧ Below w.heap.size w w' := by
  obtain ⟨v, l', he, ho, hm, hb⟩ := h
  obtain ⟨A, c, rfl, hc, hr⟩ := ho.rd
  have hcap := own_cap ho.own
  have e1 : p = l'.length := by rw [hp, ← hm, List.length_map]
  subst e1
  exact ⟨A, c, l', he, hr, ⟨rfl, by omega⟩, hm, hb⟩
theorem RdSps.lens {w : World} {B : Nat} {A : Option Addr} {l : List Ls} (h : RdSps w B A l) : ∀ x ∈ l, x.s.ok := fun x hx => (h.each x hx).ok

def T4Y (A xA yA zA uA : Option Addr) (n c xl xc p yc zc uc : Nat) (X : List UInt8) (er : Int) (base : Nat) : Nat → Value → World → Prop
  | 0, v, _ => v = .slice xA xl xc
  | 1, v, _ => v = .string (S8 X)
  | 2, v, _ => v = .slice A n c
  | 3, v, w => w.ownsRow base 5 1 v X.length (X.map B8)
  | 4, v, _ => v = .string (S8 X)
  | 5, v, _ => v = .bool true
  | 6, v, _ => v = .bool true
  | 7, v, _ => v = .slice yA p yc
  | 8, v, _ => v = .slice zA p zc
  | 9, v, _ => v = .bool true
  | 10, v, _ => v = .bool true
  | 11, v, _ => v = .bool true
  | 12, v, _ => v = .int .i64 er
  | 13, v, _ => v = .int .i64 er
  | 14, v, _ => v = .int .i64 er
  | 15, v, _ => v = .bool true
  | 16, v, _ => v = .bool true
  | 17, v, _ => v = .bool true
  | 18, v, _ => v = .slice xA xl xc
  | 19, v, _ => v = .int .i64 (xl : Int)
  | 20, v, _ => v = .bool false
  | 21, v, _ => v = .bool false
  | 22, v, _ => v = .int .i64 0
  | 23, v, _ => v = .int .i64 0
  | 24, v, _ => v = .bool true
  | 25, v, _ => v = .bool true
  | 26, v, _ => v = .slice uA n uc
  | 27, v, _ => v = .slice A n c
  | 28, v, _ => v = .bool true
  | 29, v, _ => v = .bool true
  | 30, v, _ => v = .bool true
  | 31, v, _ => v = .bool true
  | 32, v, _ => v = .bool true
  | _, _, _ => True
theorem T4Y.keep {A xA yA zA uA : Option Addr} {n c xl xc p yc zc uc : Nat} {X : List UInt8} {er : Int} {base : Nat} {w w' : World} {i : Nat} {v : Value} (h : T4Y A xA yA zA uA n c xl xc p yc zc uc X er base i v w) (hr : ∀ mm xs, w.ownsRow base 5 1 v mm xs → w'.ownsRow base 5 1 v mm xs) : T4Y A xA yA zA uA n c xl xc p yc zc uc X er base i v w' := by
  match i, h with
  | 0, h => exact h
  | 1, h => exact h
  | 2, h => exact h
  | 3, h => exact hr _ _ h
  | 4, h => exact h
  | 5, h => exact h
  | 6, h => exact h
  | 7, h => exact h
  | 8, h => exact h
  | 9, h => exact h
  | 10, h => exact h
  | 11, h => exact h
  | 12, h => exact h
  | 13, h => exact h
  | 14, h => exact h
  | 15, h => exact h
  | 16, h => exact h
  | 17, h => exact h
  | 18, h => exact h
  | 19, h => exact h
  | 20, h => exact h
  | 21, h => exact h
  | 22, h => exact h
  | 23, h => exact h
  | 24, h => exact h
  | 25, h => exact h
  | 26, h => exact h
  | 27, h => exact h
  | 28, h => exact h
  | 29, h => exact h
  | 30, h => exact h
  | 31, h => exact h
  | 32, h => exact h
  | _ + 33, h => trivial
def T4N (A xA yA zA uA : Option Addr) (n c xl xc p yc zc uc : Nat) (X : List UInt8) (er : Int) (base : Nat) : Nat → Value → World → Prop
  | 0, v, _ => v = .slice xA xl xc
  | 1, v, _ => v = .string (S8 X)
  | 2, v, _ => v = .slice A n c
  | 3, v, w => w.ownsRow base 5 1 v X.length (X.map B8)
  | 4, v, _ => v = .string (S8 X)
  | 5, v, _ => v = .bool true
  | 6, v, _ => v = .bool true
  | 7, v, _ => v = .slice yA p yc
  | 8, v, _ => v = .slice zA p zc
  | 9, v, _ => v = .bool true
  | 10, v, _ => v = .bool true
  | 11, v, _ => v = .bool true
  | 12, v, _ => v = .int .i64 er
  | 13, v, _ => v = .int .i64 er
  | 14, v, _ => v = .int .i64 er
  | 15, v, _ => v = .bool true
  | 16, v, _ => v = .bool true
  | 17, v, _ => v = .bool true
  | 18, v, _ => v = .slice xA xl xc
  | 19, v, _ => v = .int .i64 (xl : Int)
  | 20, v, _ => v = .bool true
  | 21, v, _ => v = .bool true
  | 22, v, _ => v = undef
  | 23, v, _ => v = undef
  | 24, v, _ => v = undef
  | 25, v, _ => v = undef
  | 26, v, _ => v = undef
  | 27, v, _ => v = undef
  | 28, v, _ => v = undef
  | 29, v, _ => v = undef
  | 30, v, _ => v = .bool true
  | 31, v, _ => v = .bool true
  | 32, v, _ => v = .bool true
  | _, _, _ => True
theorem T4N.keep {A xA yA zA uA : Option Addr} {n c xl xc p yc zc uc : Nat} {X : List UInt8} {er : Int} {base : Nat} {w w' : World} {i : Nat} {v : Value} (h : T4N A xA yA zA uA n c xl xc p yc zc uc X er base i v w) (hr : ∀ mm xs, w.ownsRow base 5 1 v mm xs → w'.ownsRow base 5 1 v mm xs) : T4N A xA yA zA uA n c xl xc p yc zc uc X er base i v w' := by
  match i, h with
  | 0, h => exact h
  | 1, h => exact h
  | 2, h => exact h
  | 3, h => exact hr _ _ h
  | 4, h => exact h
  | 5, h => exact h
  | 6, h => exact h
  | 7, h => exact h
  | 8, h => exact h
  | 9, h => exact h
  | 10, h => exact h
  | 11, h => exact h
  | 12, h => exact h
  | 13, h => exact h
  | 14, h => exact h
  | 15, h => exact h
  | 16, h => exact h
  | 17, h => exact h
  | 18, h => exact h
  | 19, h => exact h
  | 20, h => exact h
  | 21, h => exact h
  | 22, h => exact h
  | 23, h => exact h
  | 24, h => exact h
  | 25, h => exact h
  | 26, h => exact h
  | 27, h => exact h
  | 28, h => exact h
  | 29, h => exact h
  | 30, h => exact h
  | 31, h => exact h
  | 32, h => exact h
  | _ + 33, h => trivial
set_option maxHeartbeats 8000000 in
theorem tell4_out (A bA : Option Addr) (l : List Ls) (b : List UInt8) (n c m d : Nat) (w : World) (hn : n = l.length) (hy : RdSps w w.heap.size A l) (hl : n ≤ maxLen) (h : fewAll l = false ∨ 1000 < m) :
    Calls Try.prog 12 #[.slice A n c, .slice bA m d] w fun e w' => e = .returned (.bool true) ∧ Below w.heap.size w w' := by
  have HFW : Hid (∀ W, Below w.heap.size w W → Calls Try.prog 36 #[.slice A n c] W fun e w' => e = .returned (.bool (fewAll l)) ∧ Below W.heap.size W w') := Lib.hid (fun W hW => fewall_any A l n c w.heap.size W hn (hy.below hW) hW.size hl)
  have hh : fewAll l = false ∨ (fewAll l = true ∧ 1000 < m) := by
    cases hf : fewAll l <;> simp_all
  clear h hy hn
  rcases hh with hr | ⟨hr, hq⟩
  · rw [hr] at HFW
    clear hr
    go_enter Try.func12, Try.ntmps12
    go_wp2_with fail
    refine (alive4_calls _).mono ?_
    rintro e w1 ⟨rfl, hb1⟩
    have HB1 := Lib.hid hb1
    clear hb1
    go_wp2_with fail
    refine (HFW.out w1 HB1.out).mono ?_
    rintro e w2 ⟨rfl, hb2⟩
    have HB2 := Lib.hid (HB1.out.trans (hb2.mono HB1.out.size))
    clear hb2
    go_wp2_with fail
    go_ret
    exact ⟨rfl, HB2.out⟩
  · rw [hr] at HFW
    have d1 : decide (1000 < m) = true := decide_eq_true hq
    have d2 : decide ((1000 : Int) < (m : Int)) = true := decide_eq_true (by omega)
    clear hr hq
    go_enter Try.func12, Try.ntmps12
    go_wp2_with fail
    refine (alive4_calls _).mono ?_
    rintro e w1 ⟨rfl, hb1⟩
    have HB1 := Lib.hid hb1
    clear hb1
    go_wp2_with fail
    refine (HFW.out w1 HB1.out).mono ?_
    rintro e w2 ⟨rfl, hb2⟩
    have HB2 := Lib.hid (HB1.out.trans (hb2.mono HB1.out.size))
    clear hb2
    go_wp2_with fail
    go_ret
    exact ⟨rfl, HB2.out⟩
set_option maxHeartbeats 32000000 in
theorem tell4_yes (A bA : Option Addr) (l : List Ls) (b : List UInt8) (n c m d : Nat) (w : World) (hn : n = l.length) (hy : RdSps w w.heap.size A l) (hl : n ≤ maxLen) (hnc : n ≤ c) (hm : m = b.length) (hb0 : Rd w w.heap.size bA (b.map B8)) (hmd : m ≤ d) (hdm : d ≤ maxLen) (hm1 : m ≤ 1000) (hfw : fewAll l = true) (hrl : rightL l = true) :
    Calls Try.prog 12 #[.slice A n c, .slice bA m d] w fun e w' => e = .returned (.bool true) ∧ Below w.heap.size w w' := by
  have HFW : Hid (∀ W, Below w.heap.size w W → Calls Try.prog 36 #[.slice A n c] W fun e w' => e = .returned (.bool true) ∧ Below W.heap.size W w') := Lib.hid (fun W hW => by rw [← hfw]; exact fewall_any A l n c w.heap.size W hn (hy.below hW) hW.size hl)
  have hn60 : n ≤ 60 := by rw [hn]; exact fewAll_len hfw
  obtain ⟨X, hX⟩ : ∃ X, X = batchBytes l := ⟨_, rfl⟩
  have HXE : Hid (X = if rightL l then batchBytes l else []) := Lib.hid (by rw [hX, hrl]; rfl)
  obtain ⟨xl, hxl⟩ : ∃ xl, xl = X.length := ⟨_, rfl⟩
  have HXL := Lib.hid hxl
  have hx3 : xl ≤ 30000 := by rw [hxl, hX]; exact (batch_len l hrl).2
  have KBY : Hid (∀ (A2 : Option Addr) (c2 B : Nat) (W : World), RdSps W B A2 l → B ≤ W.heap.size → Calls Try.prog 48 #[.slice A2 n c2] W (BytesOf X W)) := Lib.hid (fun A2 c2 B W h1 h2 => by rw [HXE.out]; exact batchbytes_any A2 l n c2 B W hn h1 h2 hl)
  have KBD : Hid (∀ W, Below w.heap.size w W → Calls Try.prog 51 #[.slice A n c] W (BytesOf X W)) := Lib.hid (fun W hW => by rw [HXE.out]; exact dbatchbytes_any A l n c w.heap.size W hn (hy.below hW) hW.size hl)
  obtain ⟨us, ug, hus, hugv, KUR⟩ : ∃ (us : List Sp) (ug : Int), us = l.map Ls.s ∧ ug = 0 ∧ Hid (∀ (xA : Option Addr) (xc B : Nat) (W : World), Rd W B xA (X.map B8) → B ≤ W.heap.size → (xl ≤ xc ∧ xc ≤ maxLen) → Calls Try.prog 49 #[.slice xA xl xc] W (BatchRes us ug W)) := by
    refine ⟨_, _, rfl, rfl, Lib.hid (fun xA xc B W h1 h2 h3 => ?_)⟩
    obtain ⟨p1, p2⟩ := read_back l hy.lens hrl
    rw [← hX] at p1 p2
    have h := (readbatch_any xA X xl xc B W hxl h1 h2 h3 (by omega)).2 p1
    rw [p2] at h
    exact h.mono fun e w' h => h
  obtain ⟨ys, er, hRC, hRD⟩ := batch_reads b (by omega)
  obtain ⟨p, hp⟩ : ∃ p, p = ys.length := ⟨_, rfl⟩
  have hun : n = us.length := by rw [hus, List.length_map, hn]
  subst hugv
  have KP := Lib.hid hp
  have KU := Lib.hid hun
  have KUS := Lib.hid hus
  have KC := Lib.hid hRC
  have KD := Lib.hid hRD
  have HRD := Lib.hid hb0
  have HN := Lib.hid hm
  have HLN := Lib.hid hn
  have HY := Lib.hid hy
  have HE := Lib.hid (And.intro hm1 (And.intro hmd (And.intro hdm (And.intro hn60 (And.intro hnc hx3)))))
  have d1 : decide (1000 < m) = false := decide_eq_false (by omega)
  have d2 : decide ((1000 : Int) < (m : Int)) = false := decide_eq_false (by omega)
  have hx0 : 0 < xl := by rw [hxl, hX]; exact (batch_len l hrl).1
  have e1 : ((xl : Int) == 0) = false := by rw [beq_eq_false_iff_ne]; omega
  have e2 : (xl = 0) = False := by simp; omega
  have HE1 := Lib.hid (And.intro e1 e2)
  clear hRC hRD hp hun hus hb0 hm hn hy hm1 hmd hdm hnc hfw hrl hX hxl hx0 e1 e2 hx3 HXE
  go_enter Try.func12, Try.ntmps12
  go_wp2_with fail
  refine (alive4_calls _).mono ?_
  rintro e w1 ⟨rfl, hb1⟩
  have HB1 := Lib.hid hb1
  clear hb1
  go_wp2_with fail
  refine (HFW.out w1 HB1.out).mono ?_
  rintro e w2 ⟨rfl, hb2⟩
  have HB2 := Lib.hid (HB1.out.trans (hb2.mono HB1.out.size))
  clear hb2 HB1 HFW
  have HY2 := Lib.hid (HY.out.below HB2.out)
  have A1 := Lib.hid (fun ty => RowSps.app (ty := ty) (base := w2.heap.size) (l := []) (c := c) RowSps.nil (fun x hx => (HY2.out.each x hx).more HB2.out.size) HLN.out HY2.out.rd (by simp) (by omega) (Nat.le_refl _))
  clear d1
  go_wp2_with (at_builtin; (refine wpList_app rfl (.const (.slice none 0 0)) (.tmp 27) _ _ rfl rfl rfl (A1.out _) ?_); rintro v3 w3 ⟨ho3, hb3⟩; have HO3 := Lib.hid ho3; have HB3 := Lib.hid hb3; clear ho3 hb3)
  have HBB3 := Lib.hid (HB2.out.trans (HB3.out.mono HB2.out.size))
  obtain ⟨A3, c3, hv3, hc3, hr3⟩ := RowSps.rd HB3.out.size HO3.out
  rw [List.nil_append, ← HLN.out] at hv3
  rw [List.nil_append] at hr3
  subst hv3
  have HR3 := Lib.hid hr3
  clear hc3 hr3
  refine (KBY.out A3 c3 w3.heap.size w3 HR3.out (Nat.le_refl _)).mono ?_
  rintro e w4 ⟨v4, rfl, ho4, hb4⟩
  have HB4 := Lib.hid (HBB3.out.trans (hb4.mono HBB3.out.size))
  rw [← HXL.out] at ho4
  have HCX := Lib.hid (own_cap' ho4)
  obtain ⟨xA, xc, rfl, hxc, hxr⟩ := own_rd ho4
  have HXC : Hid (xl ≤ xc ∧ xc ≤ maxLen) := Lib.hid ⟨hxc, HCX.out _ _ rfl⟩
  have HX4 := Lib.hid hxr
  clear ho4 hb4 hxc hxr HCX A1 HO3 HB3 HBB3 HR3 KBY HY2
  have R4 : Hid (Rd w4 w.heap.size bA (b.map B8)) := Lib.hid (HRD.out.below HB4.out)
  have A2 := Lib.hid (fun ty => appB (ty := ty) (c := d) (own_nil w4 w4.heap.size) R4.out (by have := HE.out; have := HN.out; simp; omega) (Nat.le_refl _))
  rw [← HN.out] at A2
  go_wp2_with (at_builtin; (refine wpList_app rfl (.const (.slice none 0 0)) (.tmp 31) _ _ rfl rfl rfl (A2.out _) ?_); rintro v5 w5 ⟨ho5, hg5⟩; rw [List.nil_append, ← HN.out] at ho5; have HCP := Lib.hid (own_cap' ho5); obtain ⟨A5, c5, rfl, hc5, hr5⟩ := own_rd ho5; have HG5 := Lib.hid hg5.new; have R5 := Lib.hid hr5; have HC5 := Lib.hid hc5; clear ho5 hg5 hr5 hc5)
  have HB5 := Lib.hid (HB4.out.trans (HG5.out.mono HB4.out.size))
  have HX5 := Lib.hid ((HX4.out.below HG5.out).more HG5.out.size)
  refine (KC.out A5 m c5 w5.heap.size w5 HN.out R5.out (Nat.le_refl _) ⟨HC5.out, HCP.out _ _ rfl⟩).mono ?_
  intro e w6 hh
  obtain ⟨yA, yc, ly, rfl, hyr, ⟨hyl, hpm⟩, hym, hb6⟩ := batchRes_lit p KP.out hh
  have HB6 := Lib.hid (HB5.out.trans (hb6.mono HB5.out.size))
  have HX6 := Lib.hid ((HX5.out.below hb6).more hb6.size)
  have HYR := Lib.hid hyr
  have HYL := Lib.hid hyl
  have HPM := Lib.hid hpm
  have HYM := Lib.hid hym
  clear hh hyr hyl hpm hym hb6 R5 HG5 HC5 HCP KC A2 R4 HX4 HX5 HB4 HB5
  go_wp2_with fail
  refine (KD.out bA m d w.heap.size w6 HN.out (HRD.out.below HB6.out) HB6.out.size ⟨HE.out.2.1, HE.out.2.2.1⟩).mono ?_
  intro e w7 hh
  obtain ⟨zA, zc, lz, rfl, hzr, ⟨hzl, _⟩, hzm, hb7⟩ := batchRes_lit p KP.out hh
  have HB7 := Lib.hid (HB6.out.trans (hb7.mono HB6.out.size))
  have HX7 := Lib.hid ((HX6.out.below hb7).more hb7.size)
  have HYR7 := Lib.hid ((HYR.out.below hb7).more hb7.size)
  have HZR := Lib.hid hzr
  have HZM := Lib.hid (HYM.out.trans hzm.symm)
  clear hh hzr hzl hzm hb7 KD HX6 HYR HB6 HYM
  go_wp2_with fail
  refine (KUR.out xA xc w7.heap.size w7 HX7.out (Nat.le_refl _) HXC.out).mono ?_
  intro e w8 hh
  obtain ⟨uA, uc, lu, rfl, hur, ⟨hul, _⟩, hum, hb8⟩ := batchRes_lit _ KU.out hh
  have HB8 := Lib.hid (HB7.out.trans (hb8.mono HB7.out.size))
  have HX8 := Lib.hid ((HX7.out.below hb8).more hb8.size)
  have HYR8 := Lib.hid ((HYR7.out.below hb8).more hb8.size)
  have HZR8 := Lib.hid ((HZR.out.below hb8).more hb8.size)
  have HUR := Lib.hid hur
  have HUM := Lib.hid (hum.trans KUS.out)
  have HUL := Lib.hid hul
  clear hh hur hul hum hb8 KUR HX7 HYR7 HZR HB7 d2 HRD
  go_wp2_with fail
  obtain ⟨W, hW⟩ : ∃ W, W = w8.drew := ⟨_, rfl⟩
  have hWb : Below w8.heap.size w8 W := by rw [hW]; exact ⟨rfl, rfl, rfl, Nat.le_refl _, fun _ _ => rfl⟩
  have hWz : w8.heap.size ≤ W.heap.size := hWb.size
  have HBW : Hid (Below w.heap.size w W) := Lib.hid (HB8.out.trans (hWb.mono HB8.out.size))
  have HXR : Hid (∀ W3, Below W.heap.size W W3 → Rd W3 w8.heap.size xA (X.map B8)) := Lib.hid (fun W3 h => (HX8.out.below hWb).below (h.mono hWz))
  have HBD : Hid (∀ W3, Below W.heap.size W W3 → Calls Try.prog 51 #[.slice A n c] W3 (BytesOf X W3)) := Lib.hid (fun W3 h => KBD.out W3 (HBW.out.trans (h.mono HBW.out.size)))
  have HSY : Hid (∀ W3, Below W.heap.size W W3 → Calls Try.prog 43 #[.slice yA p yc, .slice zA p zc] W3 fun e w' => e = .returned (.bool true) ∧ Below W3.heap.size W3 w') := Lib.hid (fun W3 h => samespans_eq yA zA ly lz p yc zc w8.heap.size W3 HYL.out ((HYR8.out.below hWb).below (h.mono hWz)) ((HZR8.out.below hWb).below (h.mono hWz)) HZM.out (Nat.le_trans hWz h.size) HPM.out)
  have HSU : Hid (∀ W3, Below W.heap.size W W3 → Calls Try.prog 43 #[.slice uA n uc, .slice A n c] W3 fun e w' => e = .returned (.bool true) ∧ Below W3.heap.size W3 w') := Lib.hid (fun W3 h => samespans_eq uA A lu l n uc c w8.heap.size W3 HUL.out ((HUR.out.below hWb).below (h.mono hWz)) ((((HY.out.below HB8.out).more HB8.out.size).below hWb).below (h.mono hWz)) HUM.out (Nat.le_trans hWz h.size) (by have := HE.out; unfold maxLen; omega))
  obtain ⟨e1, e2⟩ := HE1.out
  clear HX8 HYR8 HZR8 HUR HB8 KBD hWb hWz HY HZM HUM HUL HYL
  refine PI.wp_region_persG (R := Below W.heap.size) (G := fun _ _ => True) (I := fun _ _ _ => True) [(1, 0), (3, 2), (4, 3), (5, 1), (5, 4), (6, 5), (7, 6), (8, 6), (9, 6), (9, 7), (9, 8), (10, 6), (10, 9), (11, 10), (12, 11), (13, 11), (13, 12), (14, 11), (15, 11), (15, 13), (15, 14), (16, 11), (16, 15), (17, 16), (18, 17), (19, 17), (19, 18), (20, 17), (20, 19), (21, 17), (21, 20), (22, 21), (23, 21), (23, 22), (24, 21), (24, 23), (25, 21), (25, 24), (26, 25), (27, 25), (28, 25), (28, 26), (28, 27), (29, 21), (29, 25), (29, 28), (30, 17), (30, 21), (30, 29), (31, 17), (31, 30), (32, 31)] [32] (by kernel_rfl) (PI.formed_of (by kernel_rfl)) ⟨fun w => Below.refl _ w, fun _ _ _ h k => h.trans k⟩ (fun _ => trivial) (T4Y A xA yA zA uA n c xl xc p yc zc uc X er W.heap.size) trivial ?_ ?_
  · rw [← hW]
    intro i o ho
    rcases i with _ | _ | _ | _ | _ | _ | _ | _ | _ | _ | _ | _ | _ | _ | _ | _ | _ | _ | _ | _ | _ | _ | _ | _ | _ | _ | _ | _ | _ | _ | _ | _ | _ | i
    · obtain rfl := Option.some.inj (show some _ = some o from ho)
      refine PI.shown_val rfl fun a w3 L0 hr T => ?_
      have h1 : a.eval (.tmp 6) = .slice xA xl xc := T.was 6 (by kernel_rfl)
      exact ⟨.slice xA xl xc, w3, by simp only [execOp, h1]; simp [go_sem], PI.Post.pure ⟨fun w => Below.refl _ w, fun _ _ _ h k => h.trans k⟩ rfl trivial⟩
    · obtain rfl := Option.some.inj (show some _ = some o from ho)
      refine PI.shown_val rfl fun a w3 L0 hr T => ?_
      have h1 : a.eval (.tmp 46) = .slice xA xl xc := T.at_ 0 46 (by kernel_rfl) (by kernel_rfl) (by kernel_rfl)
      have h2 := run_str (P := Try.prog) 22 5 9 Try.underlying22 Try.underlying5 Try.underlying9 (HXR.out w3 hr) xl xc HXL.out
      exact ⟨.string (S8 X), w3, by simp only [execOp, h1]; simp [go_sem, h2], PI.Post.pure ⟨fun w => Below.refl _ w, fun _ _ _ h k => h.trans k⟩ rfl trivial⟩
    · obtain rfl := Option.some.inj (show some _ = some o from ho)
      refine PI.shown_val rfl fun a w3 L0 hr T => ?_
      have h1 : a.eval (.tmp 0) = .slice A n c := T.was 0 (by kernel_rfl)
      exact ⟨.slice A n c, w3, by simp only [execOp, h1]; simp [go_sem], PI.Post.pure ⟨fun w => Below.refl _ w, fun _ _ _ h k => h.trans k⟩ rfl trivial⟩
    · obtain rfl := Option.some.inj (show some _ = some o from ho)
      refine PI.shown_call rfl 51 fun a w3 L0 hr T => ?_
      have h2 : a.eval (.tmp 48) = .slice A n c := T.at_ 2 48 (by kernel_rfl) (by kernel_rfl) (by kernel_rfl)
      refine ⟨#[.slice A n c], by simp only [execOp, resolve, List.map_toArray, List.map_cons, List.map_nil, h2]; simp [go_sem, Act.eval], ?_⟩
      refine (HBD.out w3 hr).mono fun e w4 hh => ?_
      obtain ⟨v4, rfl, ho4, hb4⟩ := hh
      exact ⟨_, rfl, hb4.mono hr.size, own_mono ho4 hr.size, fun _ _ h => h, fun j v _ _ _ _ h => h.keep (fun mm xs ho => own_below ho hb4), trivial⟩
    · obtain rfl := Option.some.inj (show some _ = some o from ho)
      refine PI.shown_val rfl fun a w3 L0 hr T => ?_
      have h1 : w3.ownsRow W.heap.size 5 1 (a.eval (.tmp 49)) X.length (X.map B8) := T.at_ 3 49 (by kernel_rfl) (by kernel_rfl) (by kernel_rfl)
      obtain ⟨A1, c1, hv, _, hr1⟩ := own_rd h1
      have h2 := run_str (P := Try.prog) 22 5 9 Try.underlying22 Try.underlying5 Try.underlying9 hr1 _ c1 rfl
      exact ⟨.string (S8 X), w3, by simp only [execOp, hv]; generalize X.length = qq at h2 ⊢; simp [go_sem, h2], PI.Post.pure ⟨fun w => Below.refl _ w, fun _ _ _ h k => h.trans k⟩ rfl trivial⟩
    · obtain rfl := Option.some.inj (show some _ = some o from ho)
      refine PI.shown_val rfl fun a w3 L0 hr T => ?_
      have h1 : a.eval (.tmp 47) = .string (S8 X) := T.at_ 1 47 (by kernel_rfl) (by kernel_rfl) (by kernel_rfl)
      have h2 : a.eval (.tmp 50) = .string (S8 X) := T.at_ 4 50 (by kernel_rfl) (by kernel_rfl) (by kernel_rfl)
      exact ⟨.bool true, w3, by simp only [execOp, h1, h2]; simp [go_sem], PI.Post.pure ⟨fun w => Below.refl _ w, fun _ _ _ h k => h.trans k⟩ rfl trivial⟩
    · obtain rfl := Option.some.inj (show some _ = some o from ho)
      refine PI.shown_val rfl fun a w3 L0 hr T => ?_
      have h1 : a.eval (.tmp 51) = .bool true := T.at_ 5 51 (by kernel_rfl) (by kernel_rfl) (by kernel_rfl)
      exact ⟨.bool true, w3, by simp only [execOp, h1]; simp [go_sem], PI.Post.pure ⟨fun w => Below.refl _ w, fun _ _ _ h k => h.trans k⟩ rfl trivial⟩
    · obtain rfl := Option.some.inj (show some _ = some o from ho)
      refine PI.shown_val_if 6 52 true rfl (by kernel_rfl) (by kernel_rfl) (by kernel_rfl) (fun v w h => h) fun a w3 L0 hr T => ?_
      have h1 : a.eval (.tmp 7) = .slice yA p yc := T.was 7 (by kernel_rfl)
      exact ⟨.slice yA p yc, w3, by simp only [execOp, h1]; simp [go_sem], PI.Post.pure ⟨fun w => Below.refl _ w, fun _ _ _ h k => h.trans k⟩ rfl trivial⟩
    · obtain rfl := Option.some.inj (show some _ = some o from ho)
      refine PI.shown_val_if 6 52 true rfl (by kernel_rfl) (by kernel_rfl) (by kernel_rfl) (fun v w h => h) fun a w3 L0 hr T => ?_
      have h1 : a.eval (.tmp 9) = .slice zA p zc := T.was 9 (by kernel_rfl)
      exact ⟨.slice zA p zc, w3, by simp only [execOp, h1]; simp [go_sem], PI.Post.pure ⟨fun w => Below.refl _ w, fun _ _ _ h k => h.trans k⟩ rfl trivial⟩
    · obtain rfl := Option.some.inj (show some _ = some o from ho)
      refine PI.shown_call_if 6 52 true rfl (by kernel_rfl) (by kernel_rfl) (by kernel_rfl) (fun v w h => h) 43 fun a w3 L0 hr T => ?_
      have h7 : a.eval (.tmp 53) = .slice yA p yc := T.at_ 7 53 (by kernel_rfl) (by kernel_rfl) (by kernel_rfl)
      have h8 : a.eval (.tmp 54) = .slice zA p zc := T.at_ 8 54 (by kernel_rfl) (by kernel_rfl) (by kernel_rfl)
      refine ⟨#[.slice yA p yc, .slice zA p zc], by simp only [execOp, resolve, List.map_toArray, List.map_cons, List.map_nil, h7, h8]; simp [go_sem, Act.eval], ?_⟩
      refine (HSY.out w3 hr).mono fun e w4 hh => ?_
      obtain ⟨rfl, hb4⟩ := hh
      exact ⟨_, rfl, hb4.mono hr.size, rfl, fun _ _ h => h, fun j v _ _ _ _ h => h.keep (fun mm xs ho => own_below ho hb4), trivial⟩
    · obtain rfl := Option.some.inj (show some _ = some o from ho)
      refine PI.shown_val rfl fun a w3 L0 hr T => ?_
      have h1 : a.eval (.tmp 52) = .bool true := T.at_ 6 52 (by kernel_rfl) (by kernel_rfl) (by kernel_rfl)
      have h2 : a.eval (.tmp 55) = .bool true := T.at_ 9 55 (by kernel_rfl) (by kernel_rfl) (by kernel_rfl)
      exact ⟨.bool true, w3, by simp only [execOp, h1, h2]; simp [go_sem, Act.eval], PI.Post.pure ⟨fun w => Below.refl _ w, fun _ _ _ h k => h.trans k⟩ rfl trivial⟩
    · obtain rfl := Option.some.inj (show some _ = some o from ho)
      refine PI.shown_val rfl fun a w3 L0 hr T => ?_
      have h1 : a.eval (.tmp 56) = .bool true := T.at_ 10 56 (by kernel_rfl) (by kernel_rfl) (by kernel_rfl)
      exact ⟨.bool true, w3, by simp only [execOp, h1]; simp [go_sem], PI.Post.pure ⟨fun w => Below.refl _ w, fun _ _ _ h k => h.trans k⟩ rfl trivial⟩
    · obtain rfl := Option.some.inj (show some _ = some o from ho)
      refine PI.shown_val_if 11 57 true rfl (by kernel_rfl) (by kernel_rfl) (by kernel_rfl) (fun v w h => h) fun a w3 L0 hr T => ?_
      have h1 : a.eval (.tmp 8) = .int .i64 er := T.was 8 (by kernel_rfl)
      exact ⟨.int .i64 er, w3, by simp only [execOp, h1]; simp [go_sem], PI.Post.pure ⟨fun w => Below.refl _ w, fun _ _ _ h k => h.trans k⟩ rfl trivial⟩
    · obtain rfl := Option.some.inj (show some _ = some o from ho)
      refine PI.shown_call_if 11 57 true rfl (by kernel_rfl) (by kernel_rfl) (by kernel_rfl) (fun v w h => h) 52 fun a w3 L0 hr T => ?_
      have h12 : a.eval (.tmp 58) = .int .i64 er := T.at_ 12 58 (by kernel_rfl) (by kernel_rfl) (by kernel_rfl)
      refine ⟨#[.int .i64 er], by simp only [execOp, resolve, List.map_toArray, List.map_cons, List.map_nil, h12]; simp [go_sem, Act.eval], ?_⟩
      refine (num4_any _ _).mono fun e w4 hh => ?_
      obtain ⟨rfl, rfl⟩ := hh
      exact ⟨_, rfl, PI.Post.pure ⟨fun w => Below.refl _ w, fun _ _ _ h k => h.trans k⟩ rfl trivial⟩
    · obtain rfl := Option.some.inj (show some _ = some o from ho)
      refine PI.shown_val_if 11 57 true rfl (by kernel_rfl) (by kernel_rfl) (by kernel_rfl) (fun v w h => h) fun a w3 L0 hr T => ?_
      have h1 : a.eval (.tmp 10) = .int .i64 er := T.was 10 (by kernel_rfl)
      exact ⟨.int .i64 er, w3, by simp only [execOp, h1]; simp [go_sem], PI.Post.pure ⟨fun w => Below.refl _ w, fun _ _ _ h k => h.trans k⟩ rfl trivial⟩
    · obtain rfl := Option.some.inj (show some _ = some o from ho)
      refine PI.shown_val_if 11 57 true rfl (by kernel_rfl) (by kernel_rfl) (by kernel_rfl) (fun v w h => h) fun a w3 L0 hr T => ?_
      have h1 : a.eval (.tmp 59) = .int .i64 er := T.at_ 13 59 (by kernel_rfl) (by kernel_rfl) (by kernel_rfl)
      have h2 : a.eval (.tmp 60) = .int .i64 er := T.at_ 14 60 (by kernel_rfl) (by kernel_rfl) (by kernel_rfl)
      exact ⟨.bool true, w3, by simp only [execOp, h1, h2]; simp [go_sem], PI.Post.pure ⟨fun w => Below.refl _ w, fun _ _ _ h k => h.trans k⟩ rfl trivial⟩
    · obtain rfl := Option.some.inj (show some _ = some o from ho)
      refine PI.shown_val rfl fun a w3 L0 hr T => ?_
      have h1 : a.eval (.tmp 57) = .bool true := T.at_ 11 57 (by kernel_rfl) (by kernel_rfl) (by kernel_rfl)
      have h2 : a.eval (.tmp 61) = .bool true := T.at_ 15 61 (by kernel_rfl) (by kernel_rfl) (by kernel_rfl)
      exact ⟨.bool true, w3, by simp only [execOp, h1, h2]; simp [go_sem, Act.eval], PI.Post.pure ⟨fun w => Below.refl _ w, fun _ _ _ h k => h.trans k⟩ rfl trivial⟩
    · obtain rfl := Option.some.inj (show some _ = some o from ho)
      refine PI.shown_val rfl fun a w3 L0 hr T => ?_
      have h1 : a.eval (.tmp 62) = .bool true := T.at_ 16 62 (by kernel_rfl) (by kernel_rfl) (by kernel_rfl)
      exact ⟨.bool true, w3, by simp only [execOp, h1]; simp [go_sem], PI.Post.pure ⟨fun w => Below.refl _ w, fun _ _ _ h k => h.trans k⟩ rfl trivial⟩
    · obtain rfl := Option.some.inj (show some _ = some o from ho)
      refine PI.shown_val_if 17 63 true rfl (by kernel_rfl) (by kernel_rfl) (by kernel_rfl) (fun v w h => h) fun a w3 L0 hr T => ?_
      have h1 : a.eval (.tmp 6) = .slice xA xl xc := T.was 6 (by kernel_rfl)
      exact ⟨.slice xA xl xc, w3, by simp only [execOp, h1]; simp [go_sem], PI.Post.pure ⟨fun w => Below.refl _ w, fun _ _ _ h k => h.trans k⟩ rfl trivial⟩
    · obtain rfl := Option.some.inj (show some _ = some o from ho)
      refine PI.shown_val_if 17 63 true rfl (by kernel_rfl) (by kernel_rfl) (by kernel_rfl) (fun v w h => h) fun a w3 L0 hr T => ?_
      have h1 : a.eval (.tmp 64) = .slice xA xl xc := T.at_ 18 64 (by kernel_rfl) (by kernel_rfl) (by kernel_rfl)
      exact ⟨.int .i64 (xl : Int), w3, by simp only [execOp, resolve, invoke, builtin, Sem.run_bind, Sem.run_pure, Result.andThen_ok, List.map_toArray, List.map_cons, List.map_nil, h1]; simp [go_sem, Builtin.lenOf], PI.Post.pure ⟨fun w => Below.refl _ w, fun _ _ _ h k => h.trans k⟩ rfl trivial⟩
    · obtain rfl := Option.some.inj (show some _ = some o from ho)
      refine PI.shown_val_if 17 63 true rfl (by kernel_rfl) (by kernel_rfl) (by kernel_rfl) (fun v w h => h) fun a w3 L0 hr T => ?_
      have h1 : a.eval (.tmp 65) = .int .i64 (xl : Int) := T.at_ 19 65 (by kernel_rfl) (by kernel_rfl) (by kernel_rfl)
      exact ⟨.bool false, w3, by simp only [execOp, h1]; simp [go_sem, e1, e2], PI.Post.pure ⟨fun w => Below.refl _ w, fun _ _ _ h k => h.trans k⟩ rfl trivial⟩
    · obtain rfl := Option.some.inj (show some _ = some o from ho)
      refine PI.shown_val_if 17 63 true rfl (by kernel_rfl) (by kernel_rfl) (by kernel_rfl) (fun v w h => h) fun a w3 L0 hr T => ?_
      have h1 : a.eval (.tmp 66) = .bool false := T.at_ 20 66 (by kernel_rfl) (by kernel_rfl) (by kernel_rfl)
      exact ⟨.bool false, w3, by simp only [execOp, h1]; simp [go_sem], PI.Post.pure ⟨fun w => Below.refl _ w, fun _ _ _ h k => h.trans k⟩ rfl trivial⟩
    · obtain rfl := Option.some.inj (show some _ = some o from ho)
      refine PI.shown_val_if 21 67 false rfl (by kernel_rfl) (by kernel_rfl) (by kernel_rfl) (fun v w h => h) fun a w3 L0 hr T => ?_
      have h1 : a.eval (.tmp 12) = .int .i64 0 := T.was 12 (by kernel_rfl)
      exact ⟨.int .i64 0, w3, by simp only [execOp, h1]; simp [go_sem], PI.Post.pure ⟨fun w => Below.refl _ w, fun _ _ _ h k => h.trans k⟩ rfl trivial⟩
    · obtain rfl := Option.some.inj (show some _ = some o from ho)
      refine PI.shown_call_if 21 67 false rfl (by kernel_rfl) (by kernel_rfl) (by kernel_rfl) (fun v w h => h) 52 fun a w3 L0 hr T => ?_
      have h22 : a.eval (.tmp 68) = .int .i64 0 := T.at_ 22 68 (by kernel_rfl) (by kernel_rfl) (by kernel_rfl)
      refine ⟨#[.int .i64 0], by simp only [execOp, resolve, List.map_toArray, List.map_cons, List.map_nil, h22]; simp [go_sem, Act.eval], ?_⟩
      refine (num4_any _ _).mono fun e w4 hh => ?_
      obtain ⟨rfl, rfl⟩ := hh
      exact ⟨_, rfl, PI.Post.pure ⟨fun w => Below.refl _ w, fun _ _ _ h k => h.trans k⟩ rfl trivial⟩
    · obtain rfl := Option.some.inj (show some _ = some o from ho)
      refine PI.shown_val_if 21 67 false rfl (by kernel_rfl) (by kernel_rfl) (by kernel_rfl) (fun v w h => h) fun a w3 L0 hr T => ?_
      have h1 : a.eval (.tmp 69) = .int .i64 0 := T.at_ 23 69 (by kernel_rfl) (by kernel_rfl) (by kernel_rfl)
      exact ⟨.bool true, w3, by simp only [execOp, h1]; simp [go_sem], PI.Post.pure ⟨fun w => Below.refl _ w, fun _ _ _ h k => h.trans k⟩ rfl trivial⟩
    · obtain rfl := Option.some.inj (show some _ = some o from ho)
      refine PI.shown_val_if 21 67 false rfl (by kernel_rfl) (by kernel_rfl) (by kernel_rfl) (fun v w h => h) fun a w3 L0 hr T => ?_
      have h1 : a.eval (.tmp 70) = .bool true := T.at_ 24 70 (by kernel_rfl) (by kernel_rfl) (by kernel_rfl)
      exact ⟨.bool true, w3, by simp only [execOp, h1]; simp [go_sem], PI.Post.pure ⟨fun w => Below.refl _ w, fun _ _ _ h k => h.trans k⟩ rfl trivial⟩
    · obtain rfl := Option.some.inj (show some _ = some o from ho)
      refine PI.shown_val_if 25 71 true rfl (by kernel_rfl) (by kernel_rfl) (by kernel_rfl) (fun v w h => h) fun a w3 L0 hr T => ?_
      have h1 : a.eval (.tmp 11) = .slice uA n uc := T.was 11 (by kernel_rfl)
      exact ⟨.slice uA n uc, w3, by simp only [execOp, h1]; simp [go_sem], PI.Post.pure ⟨fun w => Below.refl _ w, fun _ _ _ h k => h.trans k⟩ rfl trivial⟩
    · obtain rfl := Option.some.inj (show some _ = some o from ho)
      refine PI.shown_val_if 25 71 true rfl (by kernel_rfl) (by kernel_rfl) (by kernel_rfl) (fun v w h => h) fun a w3 L0 hr T => ?_
      have h1 : a.eval (.tmp 0) = .slice A n c := T.was 0 (by kernel_rfl)
      exact ⟨.slice A n c, w3, by simp only [execOp, h1]; simp [go_sem], PI.Post.pure ⟨fun w => Below.refl _ w, fun _ _ _ h k => h.trans k⟩ rfl trivial⟩
    · obtain rfl := Option.some.inj (show some _ = some o from ho)
      refine PI.shown_call_if 25 71 true rfl (by kernel_rfl) (by kernel_rfl) (by kernel_rfl) (fun v w h => h) 43 fun a w3 L0 hr T => ?_
      have h26 : a.eval (.tmp 72) = .slice uA n uc := T.at_ 26 72 (by kernel_rfl) (by kernel_rfl) (by kernel_rfl)
      have h27 : a.eval (.tmp 73) = .slice A n c := T.at_ 27 73 (by kernel_rfl) (by kernel_rfl) (by kernel_rfl)
      refine ⟨#[.slice uA n uc, .slice A n c], by simp only [execOp, resolve, List.map_toArray, List.map_cons, List.map_nil, h26, h27]; simp [go_sem, Act.eval], ?_⟩
      refine (HSU.out w3 hr).mono fun e w4 hh => ?_
      obtain ⟨rfl, hb4⟩ := hh
      exact ⟨_, rfl, hb4.mono hr.size, rfl, fun _ _ h => h, fun j v _ _ _ _ h => h.keep (fun mm xs ho => own_below ho hb4), trivial⟩
    · obtain rfl := Option.some.inj (show some _ = some o from ho)
      refine PI.shown_val_if 21 67 false rfl (by kernel_rfl) (by kernel_rfl) (by kernel_rfl) (fun v w h => h) fun a w3 L0 hr T => ?_
      have h1 : a.eval (.tmp 71) = .bool true := T.at_ 25 71 (by kernel_rfl) (by kernel_rfl) (by kernel_rfl)
      have h2 : a.eval (.tmp 74) = .bool true := T.at_ 28 74 (by kernel_rfl) (by kernel_rfl) (by kernel_rfl)
      exact ⟨.bool true, w3, by simp only [execOp, h1, h2]; simp [go_sem, Act.eval], PI.Post.pure ⟨fun w => Below.refl _ w, fun _ _ _ h k => h.trans k⟩ rfl trivial⟩
    · obtain rfl := Option.some.inj (show some _ = some o from ho)
      refine PI.shown_val_if 17 63 true rfl (by kernel_rfl) (by kernel_rfl) (by kernel_rfl) (fun v w h => h) fun a w3 L0 hr T => ?_
      have h1 : a.eval (.tmp 67) = .bool false := T.at_ 21 67 (by kernel_rfl) (by kernel_rfl) (by kernel_rfl)
      have h2 : a.eval (.tmp 75) = .bool true := T.at_ 29 75 (by kernel_rfl) (by kernel_rfl) (by kernel_rfl)
      exact ⟨.bool true, w3, by simp only [execOp, h1, h2]; simp [go_sem, Act.eval], PI.Post.pure ⟨fun w => Below.refl _ w, fun _ _ _ h k => h.trans k⟩ rfl trivial⟩
    · obtain rfl := Option.some.inj (show some _ = some o from ho)
      refine PI.shown_val rfl fun a w3 L0 hr T => ?_
      have h1 : a.eval (.tmp 63) = .bool true := T.at_ 17 63 (by kernel_rfl) (by kernel_rfl) (by kernel_rfl)
      have h2 : a.eval (.tmp 76) = .bool true := T.at_ 30 76 (by kernel_rfl) (by kernel_rfl) (by kernel_rfl)
      exact ⟨.bool true, w3, by simp only [execOp, h1, h2]; simp [go_sem, Act.eval], PI.Post.pure ⟨fun w => Below.refl _ w, fun _ _ _ h k => h.trans k⟩ rfl trivial⟩
    · obtain rfl := Option.some.inj (show some _ = some o from ho)
      refine PI.shown_val rfl fun a w3 L0 hr T => ?_
      have h1 : a.eval (.tmp 77) = .bool true := T.at_ 31 77 (by kernel_rfl) (by kernel_rfl) (by kernel_rfl)
      exact ⟨.bool true, w3, by simp only [execOp, h1]; simp [go_sem], PI.Post.pure ⟨fun w => Below.refl _ w, fun _ _ _ h k => h.trans k⟩ rfl trivial⟩
    · cases ho
  · rw [← hW]
    intro x w9 hr hf he _
    have h32 := hf 32 _ 4 rfl rfl (by decide)
    have hx32 : x 32 = .bool true := h32
    have HB9 := Lib.hid (HBW.out.trans (hr.mono HBW.out.size))
    clear hf he hr h32
    simp only [PI.putAll, Act.put, List.setIfInBounds_toArray, List.set_cons_zero, List.set_cons_succ]
    rw [hx32]
    go_wp2_with fail
    go_ret
    exact ⟨rfl, HB9.out⟩
set_option maxHeartbeats 32000000 in
theorem tell4_no (A bA : Option Addr) (l : List Ls) (b : List UInt8) (n c m d : Nat) (w : World) (hn : n = l.length) (hy : RdSps w w.heap.size A l) (hl : n ≤ maxLen) (hnc : n ≤ c) (hm : m = b.length) (hb0 : Rd w w.heap.size bA (b.map B8)) (hmd : m ≤ d) (hdm : d ≤ maxLen) (hm1 : m ≤ 1000) (hfw : fewAll l = true) (hrl : rightL l = false) :
    Calls Try.prog 12 #[.slice A n c, .slice bA m d] w fun e w' => e = .returned (.bool true) ∧ Below w.heap.size w w' := by
  have HFW : Hid (∀ W, Below w.heap.size w W → Calls Try.prog 36 #[.slice A n c] W fun e w' => e = .returned (.bool true) ∧ Below W.heap.size W w') := Lib.hid (fun W hW => by rw [← hfw]; exact fewall_any A l n c w.heap.size W hn (hy.below hW) hW.size hl)
  have hn60 : n ≤ 60 := by rw [hn]; exact fewAll_len hfw
  obtain ⟨X, hX⟩ : ∃ X, X = ([] : List UInt8) := ⟨_, rfl⟩
  have HXE : Hid (X = if rightL l then batchBytes l else []) := Lib.hid (by rw [hX, hrl]; rfl)
  obtain ⟨xl, hxl⟩ : ∃ xl, xl = X.length := ⟨_, rfl⟩
  have HXL := Lib.hid hxl
  have hx3 : xl ≤ 30000 := by rw [hxl, hX]; simp
  have KBY : Hid (∀ (A2 : Option Addr) (c2 B : Nat) (W : World), RdSps W B A2 l → B ≤ W.heap.size → Calls Try.prog 48 #[.slice A2 n c2] W (BytesOf X W)) := Lib.hid (fun A2 c2 B W h1 h2 => by rw [HXE.out]; exact batchbytes_any A2 l n c2 B W hn h1 h2 hl)
  have KBD : Hid (∀ W, Below w.heap.size w W → Calls Try.prog 51 #[.slice A n c] W (BytesOf X W)) := Lib.hid (fun W hW => by rw [HXE.out]; exact dbatchbytes_any A l n c w.heap.size W hn (hy.below hW) hW.size hl)
  obtain ⟨us, ug, hus, hugv, KUR⟩ : ∃ (us : List Sp) (ug : Int), us = [] ∧ ug = 2 ∧ Hid (∀ (xA : Option Addr) (xc B : Nat) (W : World), Rd W B xA (X.map B8) → B ≤ W.heap.size → (xl ≤ xc ∧ xc ≤ maxLen) → Calls Try.prog 49 #[.slice xA xl xc] W (BatchRes us ug W)) := by
    refine ⟨_, _, rfl, rfl, Lib.hid (fun xA xc B W h1 h2 h3 => ?_)⟩
    have p1 : Bm.okB X = false := by rw [hX]; exact okB_nil
    exact ((readbatch_any xA X xl xc B W hxl h1 h2 h3 (by omega)).1 p1).mono fun e w' h => noBatch_res h
  obtain ⟨ys, er, hRC, hRD⟩ := batch_reads b (by omega)
  obtain ⟨p, hp⟩ : ∃ p, p = ys.length := ⟨_, rfl⟩
  have hun : 0 = us.length := by rw [hus]; rfl
  subst hugv
  have KP := Lib.hid hp
  have KU := Lib.hid hun
  have KUS := Lib.hid hus
  have KC := Lib.hid hRC
  have KD := Lib.hid hRD
  have HRD := Lib.hid hb0
  have HN := Lib.hid hm
  have HLN := Lib.hid hn
  have HY := Lib.hid hy
  have HE := Lib.hid (And.intro hm1 (And.intro hmd (And.intro hdm (And.intro hn60 (And.intro hnc hx3)))))
  have d1 : decide (1000 < m) = false := decide_eq_false (by omega)
  have d2 : decide ((1000 : Int) < (m : Int)) = false := decide_eq_false (by omega)
  have hx0 : xl = 0 := by rw [hxl, hX]; rfl
  have e1 : ((xl : Int) == 0) = true := by rw [hx0]; rfl
  have e2 : (xl = 0) = True := by simp [hx0]
  have HE1 := Lib.hid (And.intro e1 e2)
  clear hRC hRD hp hun hus hb0 hm hn hy hm1 hmd hdm hnc hfw hrl hX hxl hx0 e1 e2 hx3 HXE
  go_enter Try.func12, Try.ntmps12
  go_wp2_with fail
  refine (alive4_calls _).mono ?_
  rintro e w1 ⟨rfl, hb1⟩
  have HB1 := Lib.hid hb1
  clear hb1
  go_wp2_with fail
  refine (HFW.out w1 HB1.out).mono ?_
  rintro e w2 ⟨rfl, hb2⟩
  have HB2 := Lib.hid (HB1.out.trans (hb2.mono HB1.out.size))
  clear hb2 HB1 HFW
  have HY2 := Lib.hid (HY.out.below HB2.out)
  have A1 := Lib.hid (fun ty => RowSps.app (ty := ty) (base := w2.heap.size) (l := []) (c := c) RowSps.nil (fun x hx => (HY2.out.each x hx).more HB2.out.size) HLN.out HY2.out.rd (by simp) (by omega) (Nat.le_refl _))
  clear d1
  go_wp2_with (at_builtin; (refine wpList_app rfl (.const (.slice none 0 0)) (.tmp 27) _ _ rfl rfl rfl (A1.out _) ?_); rintro v3 w3 ⟨ho3, hb3⟩; have HO3 := Lib.hid ho3; have HB3 := Lib.hid hb3; clear ho3 hb3)
  have HBB3 := Lib.hid (HB2.out.trans (HB3.out.mono HB2.out.size))
  obtain ⟨A3, c3, hv3, hc3, hr3⟩ := RowSps.rd HB3.out.size HO3.out
  rw [List.nil_append, ← HLN.out] at hv3
  rw [List.nil_append] at hr3
  subst hv3
  have HR3 := Lib.hid hr3
  clear hc3 hr3
  refine (KBY.out A3 c3 w3.heap.size w3 HR3.out (Nat.le_refl _)).mono ?_
  rintro e w4 ⟨v4, rfl, ho4, hb4⟩
  have HB4 := Lib.hid (HBB3.out.trans (hb4.mono HBB3.out.size))
  rw [← HXL.out] at ho4
  have HCX := Lib.hid (own_cap' ho4)
  obtain ⟨xA, xc, rfl, hxc, hxr⟩ := own_rd ho4
  have HXC : Hid (xl ≤ xc ∧ xc ≤ maxLen) := Lib.hid ⟨hxc, HCX.out _ _ rfl⟩
  have HX4 := Lib.hid hxr
  clear ho4 hb4 hxc hxr HCX A1 HO3 HB3 HBB3 HR3 KBY HY2
  have R4 : Hid (Rd w4 w.heap.size bA (b.map B8)) := Lib.hid (HRD.out.below HB4.out)
  have A2 := Lib.hid (fun ty => appB (ty := ty) (c := d) (own_nil w4 w4.heap.size) R4.out (by have := HE.out; have := HN.out; simp; omega) (Nat.le_refl _))
  rw [← HN.out] at A2
  go_wp2_with (at_builtin; (refine wpList_app rfl (.const (.slice none 0 0)) (.tmp 31) _ _ rfl rfl rfl (A2.out _) ?_); rintro v5 w5 ⟨ho5, hg5⟩; rw [List.nil_append, ← HN.out] at ho5; have HCP := Lib.hid (own_cap' ho5); obtain ⟨A5, c5, rfl, hc5, hr5⟩ := own_rd ho5; have HG5 := Lib.hid hg5.new; have R5 := Lib.hid hr5; have HC5 := Lib.hid hc5; clear ho5 hg5 hr5 hc5)
  have HB5 := Lib.hid (HB4.out.trans (HG5.out.mono HB4.out.size))
  have HX5 := Lib.hid ((HX4.out.below HG5.out).more HG5.out.size)
  refine (KC.out A5 m c5 w5.heap.size w5 HN.out R5.out (Nat.le_refl _) ⟨HC5.out, HCP.out _ _ rfl⟩).mono ?_
  intro e w6 hh
  obtain ⟨yA, yc, ly, rfl, hyr, ⟨hyl, hpm⟩, hym, hb6⟩ := batchRes_lit p KP.out hh
  have HB6 := Lib.hid (HB5.out.trans (hb6.mono HB5.out.size))
  have HX6 := Lib.hid ((HX5.out.below hb6).more hb6.size)
  have HYR := Lib.hid hyr
  have HYL := Lib.hid hyl
  have HPM := Lib.hid hpm
  have HYM := Lib.hid hym
  clear hh hyr hyl hpm hym hb6 R5 HG5 HC5 HCP KC A2 R4 HX4 HX5 HB4 HB5
  go_wp2_with fail
  refine (KD.out bA m d w.heap.size w6 HN.out (HRD.out.below HB6.out) HB6.out.size ⟨HE.out.2.1, HE.out.2.2.1⟩).mono ?_
  intro e w7 hh
  obtain ⟨zA, zc, lz, rfl, hzr, ⟨hzl, _⟩, hzm, hb7⟩ := batchRes_lit p KP.out hh
  have HB7 := Lib.hid (HB6.out.trans (hb7.mono HB6.out.size))
  have HX7 := Lib.hid ((HX6.out.below hb7).more hb7.size)
  have HYR7 := Lib.hid ((HYR.out.below hb7).more hb7.size)
  have HZR := Lib.hid hzr
  have HZM := Lib.hid (HYM.out.trans hzm.symm)
  clear hh hzr hzl hzm hb7 KD HX6 HYR HB6 HYM
  go_wp2_with fail
  refine (KUR.out xA xc w7.heap.size w7 HX7.out (Nat.le_refl _) HXC.out).mono ?_
  intro e w8 hh
  obtain ⟨uA, uc, lu, rfl, hur, ⟨hul, _⟩, hum, hb8⟩ := batchRes_lit _ KU.out hh
  have HB8 := Lib.hid (HB7.out.trans (hb8.mono HB7.out.size))
  have HX8 := Lib.hid ((HX7.out.below hb8).more hb8.size)
  have HYR8 := Lib.hid ((HYR7.out.below hb8).more hb8.size)
  have HZR8 := Lib.hid ((HZR.out.below hb8).more hb8.size)
  have HUR := Lib.hid hur
  have HUM := Lib.hid (hum.trans KUS.out)
  have HUL := Lib.hid hul
  clear hh hur hul hum hb8 KUR HX7 HYR7 HZR HB7 d2 HRD
  go_wp2_with fail
  obtain ⟨W, hW⟩ : ∃ W, W = w8.drew := ⟨_, rfl⟩
  have hWb : Below w8.heap.size w8 W := by rw [hW]; exact ⟨rfl, rfl, rfl, Nat.le_refl _, fun _ _ => rfl⟩
  have hWz : w8.heap.size ≤ W.heap.size := hWb.size
  have HBW : Hid (Below w.heap.size w W) := Lib.hid (HB8.out.trans (hWb.mono HB8.out.size))
  have HXR : Hid (∀ W3, Below W.heap.size W W3 → Rd W3 w8.heap.size xA (X.map B8)) := Lib.hid (fun W3 h => (HX8.out.below hWb).below (h.mono hWz))
  have HBD : Hid (∀ W3, Below W.heap.size W W3 → Calls Try.prog 51 #[.slice A n c] W3 (BytesOf X W3)) := Lib.hid (fun W3 h => KBD.out W3 (HBW.out.trans (h.mono HBW.out.size)))
  have HSY : Hid (∀ W3, Below W.heap.size W W3 → Calls Try.prog 43 #[.slice yA p yc, .slice zA p zc] W3 fun e w' => e = .returned (.bool true) ∧ Below W3.heap.size W3 w') := Lib.hid (fun W3 h => samespans_eq yA zA ly lz p yc zc w8.heap.size W3 HYL.out ((HYR8.out.below hWb).below (h.mono hWz)) ((HZR8.out.below hWb).below (h.mono hWz)) HZM.out (Nat.le_trans hWz h.size) HPM.out)
  obtain ⟨e1, e2⟩ := HE1.out
  clear HX8 HYR8 HZR8 HUR HB8 KBD hWb hWz HY HZM HUM HUL HYL
  refine PI.wp_region_persG (R := Below W.heap.size) (G := fun _ _ => True) (I := fun _ _ _ => True) [(1, 0), (3, 2), (4, 3), (5, 1), (5, 4), (6, 5), (7, 6), (8, 6), (9, 6), (9, 7), (9, 8), (10, 6), (10, 9), (11, 10), (12, 11), (13, 11), (13, 12), (14, 11), (15, 11), (15, 13), (15, 14), (16, 11), (16, 15), (17, 16), (18, 17), (19, 17), (19, 18), (20, 17), (20, 19), (21, 17), (21, 20), (22, 21), (23, 21), (23, 22), (24, 21), (24, 23), (25, 21), (25, 24), (26, 25), (27, 25), (28, 25), (28, 26), (28, 27), (29, 21), (29, 25), (29, 28), (30, 17), (30, 21), (30, 29), (31, 17), (31, 30), (32, 31)] [32] (by kernel_rfl) (PI.formed_of (by kernel_rfl)) ⟨fun w => Below.refl _ w, fun _ _ _ h k => h.trans k⟩ (fun _ => trivial) (T4N A xA yA zA uA n c xl xc p yc zc uc X er W.heap.size) trivial ?_ ?_
  · rw [← hW]
    intro i o ho
    rcases i with _ | _ | _ | _ | _ | _ | _ | _ | _ | _ | _ | _ | _ | _ | _ | _ | _ | _ | _ | _ | _ | _ | _ | _ | _ | _ | _ | _ | _ | _ | _ | _ | _ | i
    · obtain rfl := Option.some.inj (show some _ = some o from ho)
      refine PI.shown_val rfl fun a w3 L0 hr T => ?_
      have h1 : a.eval (.tmp 6) = .slice xA xl xc := T.was 6 (by kernel_rfl)
      exact ⟨.slice xA xl xc, w3, by simp only [execOp, h1]; simp [go_sem], PI.Post.pure ⟨fun w => Below.refl _ w, fun _ _ _ h k => h.trans k⟩ rfl trivial⟩
    · obtain rfl := Option.some.inj (show some _ = some o from ho)
      refine PI.shown_val rfl fun a w3 L0 hr T => ?_
      have h1 : a.eval (.tmp 46) = .slice xA xl xc := T.at_ 0 46 (by kernel_rfl) (by kernel_rfl) (by kernel_rfl)
      have h2 := run_str (P := Try.prog) 22 5 9 Try.underlying22 Try.underlying5 Try.underlying9 (HXR.out w3 hr) xl xc HXL.out
      exact ⟨.string (S8 X), w3, by simp only [execOp, h1]; simp [go_sem, h2], PI.Post.pure ⟨fun w => Below.refl _ w, fun _ _ _ h k => h.trans k⟩ rfl trivial⟩
    · obtain rfl := Option.some.inj (show some _ = some o from ho)
      refine PI.shown_val rfl fun a w3 L0 hr T => ?_
      have h1 : a.eval (.tmp 0) = .slice A n c := T.was 0 (by kernel_rfl)
      exact ⟨.slice A n c, w3, by simp only [execOp, h1]; simp [go_sem], PI.Post.pure ⟨fun w => Below.refl _ w, fun _ _ _ h k => h.trans k⟩ rfl trivial⟩
    · obtain rfl := Option.some.inj (show some _ = some o from ho)
      refine PI.shown_call rfl 51 fun a w3 L0 hr T => ?_
      have h2 : a.eval (.tmp 48) = .slice A n c := T.at_ 2 48 (by kernel_rfl) (by kernel_rfl) (by kernel_rfl)
      refine ⟨#[.slice A n c], by simp only [execOp, resolve, List.map_toArray, List.map_cons, List.map_nil, h2]; simp [go_sem, Act.eval], ?_⟩
      refine (HBD.out w3 hr).mono fun e w4 hh => ?_
      obtain ⟨v4, rfl, ho4, hb4⟩ := hh
      exact ⟨_, rfl, hb4.mono hr.size, own_mono ho4 hr.size, fun _ _ h => h, fun j v _ _ _ _ h => h.keep (fun mm xs ho => own_below ho hb4), trivial⟩
    · obtain rfl := Option.some.inj (show some _ = some o from ho)
      refine PI.shown_val rfl fun a w3 L0 hr T => ?_
      have h1 : w3.ownsRow W.heap.size 5 1 (a.eval (.tmp 49)) X.length (X.map B8) := T.at_ 3 49 (by kernel_rfl) (by kernel_rfl) (by kernel_rfl)
      obtain ⟨A1, c1, hv, _, hr1⟩ := own_rd h1
      have h2 := run_str (P := Try.prog) 22 5 9 Try.underlying22 Try.underlying5 Try.underlying9 hr1 _ c1 rfl
      exact ⟨.string (S8 X), w3, by simp only [execOp, hv]; generalize X.length = qq at h2 ⊢; simp [go_sem, h2], PI.Post.pure ⟨fun w => Below.refl _ w, fun _ _ _ h k => h.trans k⟩ rfl trivial⟩
    · obtain rfl := Option.some.inj (show some _ = some o from ho)
      refine PI.shown_val rfl fun a w3 L0 hr T => ?_
      have h1 : a.eval (.tmp 47) = .string (S8 X) := T.at_ 1 47 (by kernel_rfl) (by kernel_rfl) (by kernel_rfl)
      have h2 : a.eval (.tmp 50) = .string (S8 X) := T.at_ 4 50 (by kernel_rfl) (by kernel_rfl) (by kernel_rfl)
      exact ⟨.bool true, w3, by simp only [execOp, h1, h2]; simp [go_sem], PI.Post.pure ⟨fun w => Below.refl _ w, fun _ _ _ h k => h.trans k⟩ rfl trivial⟩
    · obtain rfl := Option.some.inj (show some _ = some o from ho)
      refine PI.shown_val rfl fun a w3 L0 hr T => ?_
      have h1 : a.eval (.tmp 51) = .bool true := T.at_ 5 51 (by kernel_rfl) (by kernel_rfl) (by kernel_rfl)
      exact ⟨.bool true, w3, by simp only [execOp, h1]; simp [go_sem], PI.Post.pure ⟨fun w => Below.refl _ w, fun _ _ _ h k => h.trans k⟩ rfl trivial⟩
    · obtain rfl := Option.some.inj (show some _ = some o from ho)
      refine PI.shown_val_if 6 52 true rfl (by kernel_rfl) (by kernel_rfl) (by kernel_rfl) (fun v w h => h) fun a w3 L0 hr T => ?_
      have h1 : a.eval (.tmp 7) = .slice yA p yc := T.was 7 (by kernel_rfl)
      exact ⟨.slice yA p yc, w3, by simp only [execOp, h1]; simp [go_sem], PI.Post.pure ⟨fun w => Below.refl _ w, fun _ _ _ h k => h.trans k⟩ rfl trivial⟩
    · obtain rfl := Option.some.inj (show some _ = some o from ho)
      refine PI.shown_val_if 6 52 true rfl (by kernel_rfl) (by kernel_rfl) (by kernel_rfl) (fun v w h => h) fun a w3 L0 hr T => ?_
      have h1 : a.eval (.tmp 9) = .slice zA p zc := T.was 9 (by kernel_rfl)
      exact ⟨.slice zA p zc, w3, by simp only [execOp, h1]; simp [go_sem], PI.Post.pure ⟨fun w => Below.refl _ w, fun _ _ _ h k => h.trans k⟩ rfl trivial⟩
    · obtain rfl := Option.some.inj (show some _ = some o from ho)
      refine PI.shown_call_if 6 52 true rfl (by kernel_rfl) (by kernel_rfl) (by kernel_rfl) (fun v w h => h) 43 fun a w3 L0 hr T => ?_
      have h7 : a.eval (.tmp 53) = .slice yA p yc := T.at_ 7 53 (by kernel_rfl) (by kernel_rfl) (by kernel_rfl)
      have h8 : a.eval (.tmp 54) = .slice zA p zc := T.at_ 8 54 (by kernel_rfl) (by kernel_rfl) (by kernel_rfl)
      refine ⟨#[.slice yA p yc, .slice zA p zc], by simp only [execOp, resolve, List.map_toArray, List.map_cons, List.map_nil, h7, h8]; simp [go_sem, Act.eval], ?_⟩
      refine (HSY.out w3 hr).mono fun e w4 hh => ?_
      obtain ⟨rfl, hb4⟩ := hh
      exact ⟨_, rfl, hb4.mono hr.size, rfl, fun _ _ h => h, fun j v _ _ _ _ h => h.keep (fun mm xs ho => own_below ho hb4), trivial⟩
    · obtain rfl := Option.some.inj (show some _ = some o from ho)
      refine PI.shown_val rfl fun a w3 L0 hr T => ?_
      have h1 : a.eval (.tmp 52) = .bool true := T.at_ 6 52 (by kernel_rfl) (by kernel_rfl) (by kernel_rfl)
      have h2 : a.eval (.tmp 55) = .bool true := T.at_ 9 55 (by kernel_rfl) (by kernel_rfl) (by kernel_rfl)
      exact ⟨.bool true, w3, by simp only [execOp, h1, h2]; simp [go_sem, Act.eval], PI.Post.pure ⟨fun w => Below.refl _ w, fun _ _ _ h k => h.trans k⟩ rfl trivial⟩
    · obtain rfl := Option.some.inj (show some _ = some o from ho)
      refine PI.shown_val rfl fun a w3 L0 hr T => ?_
      have h1 : a.eval (.tmp 56) = .bool true := T.at_ 10 56 (by kernel_rfl) (by kernel_rfl) (by kernel_rfl)
      exact ⟨.bool true, w3, by simp only [execOp, h1]; simp [go_sem], PI.Post.pure ⟨fun w => Below.refl _ w, fun _ _ _ h k => h.trans k⟩ rfl trivial⟩
    · obtain rfl := Option.some.inj (show some _ = some o from ho)
      refine PI.shown_val_if 11 57 true rfl (by kernel_rfl) (by kernel_rfl) (by kernel_rfl) (fun v w h => h) fun a w3 L0 hr T => ?_
      have h1 : a.eval (.tmp 8) = .int .i64 er := T.was 8 (by kernel_rfl)
      exact ⟨.int .i64 er, w3, by simp only [execOp, h1]; simp [go_sem], PI.Post.pure ⟨fun w => Below.refl _ w, fun _ _ _ h k => h.trans k⟩ rfl trivial⟩
    · obtain rfl := Option.some.inj (show some _ = some o from ho)
      refine PI.shown_call_if 11 57 true rfl (by kernel_rfl) (by kernel_rfl) (by kernel_rfl) (fun v w h => h) 52 fun a w3 L0 hr T => ?_
      have h12 : a.eval (.tmp 58) = .int .i64 er := T.at_ 12 58 (by kernel_rfl) (by kernel_rfl) (by kernel_rfl)
      refine ⟨#[.int .i64 er], by simp only [execOp, resolve, List.map_toArray, List.map_cons, List.map_nil, h12]; simp [go_sem, Act.eval], ?_⟩
      refine (num4_any _ _).mono fun e w4 hh => ?_
      obtain ⟨rfl, rfl⟩ := hh
      exact ⟨_, rfl, PI.Post.pure ⟨fun w => Below.refl _ w, fun _ _ _ h k => h.trans k⟩ rfl trivial⟩
    · obtain rfl := Option.some.inj (show some _ = some o from ho)
      refine PI.shown_val_if 11 57 true rfl (by kernel_rfl) (by kernel_rfl) (by kernel_rfl) (fun v w h => h) fun a w3 L0 hr T => ?_
      have h1 : a.eval (.tmp 10) = .int .i64 er := T.was 10 (by kernel_rfl)
      exact ⟨.int .i64 er, w3, by simp only [execOp, h1]; simp [go_sem], PI.Post.pure ⟨fun w => Below.refl _ w, fun _ _ _ h k => h.trans k⟩ rfl trivial⟩
    · obtain rfl := Option.some.inj (show some _ = some o from ho)
      refine PI.shown_val_if 11 57 true rfl (by kernel_rfl) (by kernel_rfl) (by kernel_rfl) (fun v w h => h) fun a w3 L0 hr T => ?_
      have h1 : a.eval (.tmp 59) = .int .i64 er := T.at_ 13 59 (by kernel_rfl) (by kernel_rfl) (by kernel_rfl)
      have h2 : a.eval (.tmp 60) = .int .i64 er := T.at_ 14 60 (by kernel_rfl) (by kernel_rfl) (by kernel_rfl)
      exact ⟨.bool true, w3, by simp only [execOp, h1, h2]; simp [go_sem], PI.Post.pure ⟨fun w => Below.refl _ w, fun _ _ _ h k => h.trans k⟩ rfl trivial⟩
    · obtain rfl := Option.some.inj (show some _ = some o from ho)
      refine PI.shown_val rfl fun a w3 L0 hr T => ?_
      have h1 : a.eval (.tmp 57) = .bool true := T.at_ 11 57 (by kernel_rfl) (by kernel_rfl) (by kernel_rfl)
      have h2 : a.eval (.tmp 61) = .bool true := T.at_ 15 61 (by kernel_rfl) (by kernel_rfl) (by kernel_rfl)
      exact ⟨.bool true, w3, by simp only [execOp, h1, h2]; simp [go_sem, Act.eval], PI.Post.pure ⟨fun w => Below.refl _ w, fun _ _ _ h k => h.trans k⟩ rfl trivial⟩
    · obtain rfl := Option.some.inj (show some _ = some o from ho)
      refine PI.shown_val rfl fun a w3 L0 hr T => ?_
      have h1 : a.eval (.tmp 62) = .bool true := T.at_ 16 62 (by kernel_rfl) (by kernel_rfl) (by kernel_rfl)
      exact ⟨.bool true, w3, by simp only [execOp, h1]; simp [go_sem], PI.Post.pure ⟨fun w => Below.refl _ w, fun _ _ _ h k => h.trans k⟩ rfl trivial⟩
    · obtain rfl := Option.some.inj (show some _ = some o from ho)
      refine PI.shown_val_if 17 63 true rfl (by kernel_rfl) (by kernel_rfl) (by kernel_rfl) (fun v w h => h) fun a w3 L0 hr T => ?_
      have h1 : a.eval (.tmp 6) = .slice xA xl xc := T.was 6 (by kernel_rfl)
      exact ⟨.slice xA xl xc, w3, by simp only [execOp, h1]; simp [go_sem], PI.Post.pure ⟨fun w => Below.refl _ w, fun _ _ _ h k => h.trans k⟩ rfl trivial⟩
    · obtain rfl := Option.some.inj (show some _ = some o from ho)
      refine PI.shown_val_if 17 63 true rfl (by kernel_rfl) (by kernel_rfl) (by kernel_rfl) (fun v w h => h) fun a w3 L0 hr T => ?_
      have h1 : a.eval (.tmp 64) = .slice xA xl xc := T.at_ 18 64 (by kernel_rfl) (by kernel_rfl) (by kernel_rfl)
      exact ⟨.int .i64 (xl : Int), w3, by simp only [execOp, resolve, invoke, builtin, Sem.run_bind, Sem.run_pure, Result.andThen_ok, List.map_toArray, List.map_cons, List.map_nil, h1]; simp [go_sem, Builtin.lenOf], PI.Post.pure ⟨fun w => Below.refl _ w, fun _ _ _ h k => h.trans k⟩ rfl trivial⟩
    · obtain rfl := Option.some.inj (show some _ = some o from ho)
      refine PI.shown_val_if 17 63 true rfl (by kernel_rfl) (by kernel_rfl) (by kernel_rfl) (fun v w h => h) fun a w3 L0 hr T => ?_
      have h1 : a.eval (.tmp 65) = .int .i64 (xl : Int) := T.at_ 19 65 (by kernel_rfl) (by kernel_rfl) (by kernel_rfl)
      exact ⟨.bool true, w3, by simp only [execOp, h1]; simp [go_sem, e1, e2], PI.Post.pure ⟨fun w => Below.refl _ w, fun _ _ _ h k => h.trans k⟩ rfl trivial⟩
    · obtain rfl := Option.some.inj (show some _ = some o from ho)
      refine PI.shown_val_if 17 63 true rfl (by kernel_rfl) (by kernel_rfl) (by kernel_rfl) (fun v w h => h) fun a w3 L0 hr T => ?_
      have h1 : a.eval (.tmp 66) = .bool true := T.at_ 20 66 (by kernel_rfl) (by kernel_rfl) (by kernel_rfl)
      exact ⟨.bool true, w3, by simp only [execOp, h1]; simp [go_sem], PI.Post.pure ⟨fun w => Below.refl _ w, fun _ _ _ h k => h.trans k⟩ rfl trivial⟩
    · obtain rfl := Option.some.inj (show some _ = some o from ho)
      exact PI.shown_not 21 67 false rfl (by kernel_rfl) (by kernel_rfl) (by kernel_rfl) (fun v w h => h) (fun _ => rfl) (fun _ _ _ _ => trivial)
    · obtain rfl := Option.some.inj (show some _ = some o from ho)
      exact PI.shown_not 21 67 false rfl (by kernel_rfl) (by kernel_rfl) (by kernel_rfl) (fun v w h => h) (fun _ => rfl) (fun _ _ _ _ => trivial)
    · obtain rfl := Option.some.inj (show some _ = some o from ho)
      exact PI.shown_not 21 67 false rfl (by kernel_rfl) (by kernel_rfl) (by kernel_rfl) (fun v w h => h) (fun _ => rfl) (fun _ _ _ _ => trivial)
    · obtain rfl := Option.some.inj (show some _ = some o from ho)
      exact PI.shown_not 21 67 false rfl (by kernel_rfl) (by kernel_rfl) (by kernel_rfl) (fun v w h => h) (fun _ => rfl) (fun _ _ _ _ => trivial)
    · obtain rfl := Option.some.inj (show some _ = some o from ho)
      exact PI.shown_undef 25 71 true rfl (by kernel_rfl) (by kernel_rfl) (by kernel_rfl) (fun v w h => h) (fun _ => rfl) (fun _ _ _ _ => trivial)
    · obtain rfl := Option.some.inj (show some _ = some o from ho)
      exact PI.shown_undef 25 71 true rfl (by kernel_rfl) (by kernel_rfl) (by kernel_rfl) (fun v w h => h) (fun _ => rfl) (fun _ _ _ _ => trivial)
    · obtain rfl := Option.some.inj (show some _ = some o from ho)
      exact PI.shown_undef 25 71 true rfl (by kernel_rfl) (by kernel_rfl) (by kernel_rfl) (fun v w h => h) (fun _ => rfl) (fun _ _ _ _ => trivial)
    · obtain rfl := Option.some.inj (show some _ = some o from ho)
      exact PI.shown_not 21 67 false rfl (by kernel_rfl) (by kernel_rfl) (by kernel_rfl) (fun v w h => h) (fun _ => rfl) (fun _ _ _ _ => trivial)
    · obtain rfl := Option.some.inj (show some _ = some o from ho)
      refine PI.shown_val_if 17 63 true rfl (by kernel_rfl) (by kernel_rfl) (by kernel_rfl) (fun v w h => h) fun a w3 L0 hr T => ?_
      have h1 : a.eval (.tmp 67) = .bool true := T.at_ 21 67 (by kernel_rfl) (by kernel_rfl) (by kernel_rfl)
      exact ⟨.bool true, w3, by simp only [execOp, h1]; simp [go_sem, Act.eval], PI.Post.pure ⟨fun w => Below.refl _ w, fun _ _ _ h k => h.trans k⟩ rfl trivial⟩
    · obtain rfl := Option.some.inj (show some _ = some o from ho)
      refine PI.shown_val rfl fun a w3 L0 hr T => ?_
      have h1 : a.eval (.tmp 63) = .bool true := T.at_ 17 63 (by kernel_rfl) (by kernel_rfl) (by kernel_rfl)
      have h2 : a.eval (.tmp 76) = .bool true := T.at_ 30 76 (by kernel_rfl) (by kernel_rfl) (by kernel_rfl)
      exact ⟨.bool true, w3, by simp only [execOp, h1, h2]; simp [go_sem, Act.eval], PI.Post.pure ⟨fun w => Below.refl _ w, fun _ _ _ h k => h.trans k⟩ rfl trivial⟩
    · obtain rfl := Option.some.inj (show some _ = some o from ho)
      refine PI.shown_val rfl fun a w3 L0 hr T => ?_
      have h1 : a.eval (.tmp 77) = .bool true := T.at_ 31 77 (by kernel_rfl) (by kernel_rfl) (by kernel_rfl)
      exact ⟨.bool true, w3, by simp only [execOp, h1]; simp [go_sem], PI.Post.pure ⟨fun w => Below.refl _ w, fun _ _ _ h k => h.trans k⟩ rfl trivial⟩
    · cases ho
  · rw [← hW]
    intro x w9 hr hf he _
    have h32 := hf 32 _ 4 rfl rfl (by decide)
    have hx32 : x 32 = .bool true := h32
    have HB9 := Lib.hid (HBW.out.trans (hr.mono HBW.out.size))
    clear hf he hr h32
    simp only [PI.putAll, Act.put, List.setIfInBounds_toArray, List.set_cons_zero, List.set_cons_succ]
    rw [hx32]
    go_wp2_with fail
    go_ret
    exact ⟨rfl, HB9.out⟩
end Go.Proofs.Ythkclgkbidhmbaa
