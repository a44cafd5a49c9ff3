/- The parser's kids: policies between brackets, given what policy does. -/
import Derived.Test.YtgiahfjndononaaDoorPof
import Derived.Test.YtgiahfjndononaaDoorGp
import Derived.Test.YtgiahfjndononaaDoorBs
import Derived.Test.YtgiahfjndononaaDoorPoq
namespace Go.Proofs.YtgiahfjndononaaDoor
open Go.RowKit
set_option linter.unusedVariables false
set_option linter.unusedSimpArgs false
set_option maxRecDepth 100000

def Wm.Res.st {α : Type} : Wm.Res α → Wm.St
  | .bad e => .bad e
  | .ok _ r => .at_ r
def Wm.onSt {α : Type} (p : List UInt8 → Wm.Res α) : Wm.St → Wm.Res α
  | .bad e => .bad e
  | .at_ l => p l
def Wm.closeR : Wm.Res (List Rt) → Wm.Res (List Rt)
  | .bad e => .bad e
  | .ok rs l => if (Wm.tok l).is 41 = true then .ok rs (Wm.tok l).rest else .bad (Wm.tok l).from_
def Wm.kidsR (p : List UInt8 → Wm.Res Rt) (f : Nat) (l : List UInt8) : Wm.Res (List Rt) :=
  if (Wm.tok l).is 40 = true then
    (if (Wm.tok (Wm.tok l).rest).is 41 = true then .ok [] (Wm.tok (Wm.tok l).rest).rest
     else Wm.closeR (Wm.kids p 1 f (Wm.tok l).rest))
  else .bad (Wm.tok l).from_
/-- What policy hands back: some policy in new memory, the one of the model where it is none of the bad. -/
def PolOut (res : Wm.Res Rt) (P : Nat) (s : ByteArray) (L : List UInt8) (W : World) (e : Ending) (w' : World) : Prop :=
  ∃ t cs, e = .returned (.agg cs.toArray) ∧ RdP w' (fun b => W.heap.size ≤ b ∧ b < w'.heap.size) t cs ∧ PSt w' P s L res.st ∧ (∀ t' r, res = .ok t' r → t = t') ∧ W.grownBy w' (some P)
def PolCalls (f : Nat) (P : Nat) (s : ByteArray) (L : List UInt8) : Prop :=
  ∀ st W, PSt W P s L st → (∀ l, st = .at_ l → l.length < f) → Calls Tryd.prog 18 #[.pointer (some ⟨P, 0, none⟩)] W (PolOut (Wm.onSt (Wm.pol f) st) P s L W)
def KidsOut (res : Wm.Res (List Rt)) (P : Nat) (s : ByteArray) (L : List UInt8) (W : World) (e : Ending) (w' : World) : Prop :=
  ∃ V Lk, e = .returned V ∧ OwnKids w' W.heap.size V Lk ∧ PSt w' P s L res.st ∧ (∀ ts r, res = .ok ts r → Lk.map Kr.t = ts) ∧ W.grownBy w' (some P)
/-- What holds between two rounds. -/
def KInv (f : Nat) (res : Wm.Res (List Rt)) (Lk : List Kr) : Wm.St → Prop
  | .bad e => res = .bad e ∧ Lk.length ≤ f + 1
  | .at_ l => ∃ m, Wm.more (Wm.pol f) m (Lk.map Kr.t) l = res ∧ l.length < m ∧ Lk.length + m = f + 1 ∧ l.length < f
def lenOf : Value → Nat
  | .slice _ n _ => n
  | _ => 0
theorem pol_shorter (f : Nat) (l : List UInt8) (t : Rt) (r : List UInt8) (h : Wm.pol f l = .ok t r) : r.length < l.length := Wm.pol_short f l t r h
theorem KInv.first {f : Nat} {l : List UInt8} {x : Kr} (hl : l.length < f) (hx : ∀ t' r, Wm.pol f l = .ok t' r → x.t = t') : KInv f (Wm.kids (Wm.pol f) 1 f l) [x] (Wm.pol f l).st := by
  unfold Wm.kids
  cases h : Wm.pol f l with
  | bad e => exact ⟨rfl, by simp⟩
  | ok t r =>
    have h1 := pol_shorter f l t r h
    have h2 := hx t r h
    exact ⟨f, by simp only [List.map_cons, List.map_nil, h2]; rfl, by omega, by simp; omega, by omega⟩
theorem KInv.step {f : Nat} {res : Wm.Res (List Rt)} {Lk : List Kr} {l : List UInt8} {x : Kr} (h : KInv f res Lk (.at_ l)) (hs : (Wm.tok l).is 44 = true) (hx : ∀ t' r, Wm.pol f (Wm.tok l).rest = .ok t' r → x.t = t') : KInv f res (Lk ++ [x]) (Wm.pol f (Wm.tok l).rest).st := by
  obtain ⟨m, h1, h2, h3, h4⟩ := h
  obtain ⟨m, rfl⟩ : ∃ k, m = k + 1 := ⟨m - 1, by omega⟩
  rw [Wm.more, if_pos hs] at h1
  have ht := Wm.tok_ok l
  have hr := (ht.rests.trans ht.froms).len
  have hk := Wm.is_kind hs
  have ha := ht.adv (by omega) (by omega)
  have hf := ht.froms.len
  cases h : Wm.pol f (Wm.tok l).rest with
  | bad e =>
    rw [h] at h1
    exact ⟨h1.symm, by simp; omega⟩
  | ok t r =>
    rw [h] at h1
    have h5 := pol_shorter f _ t r h
    have h6 := hx t r h
    refine ⟨m, ?_, by omega, by simp; omega, by omega⟩
    rw [List.map_append, List.map_singleton, h6]
    exact h1
theorem KInv.end_ {f : Nat} {res : Wm.Res (List Rt)} {Lk : List Kr} {l : List UInt8} (h : KInv f res Lk (.at_ l)) (hs : (Wm.tok l).is 44 = false) : res = .ok (Lk.map Kr.t) l := by
  obtain ⟨m, h1, h2, h3, h4⟩ := h
  obtain ⟨m, rfl⟩ : ∃ k, m = k + 1 := ⟨m - 1, by omega⟩
  rw [Wm.more, if_neg (by rw [hs]; decide)] at h1
  exact h1.symm
theorem KInv.len {f : Nat} {res : Wm.Res (List Rt)} {Lk : List Kr} {st : Wm.St} (h : KInv f res Lk st) : Lk.length ≤ f + 1 := by
  cases st with
  | bad e => exact h.2
  | at_ l => obtain ⟨m, _, h2, h3, _⟩ := h; omega
/-- What the reading of kind and bad shows. -/
theorem PSt.kind {w : World} {P : Nat} {s : ByteArray} {L : List UInt8} {st : Wm.St} (h : PSt w P s L st) : ∃ (kd : Nat) (bd : Bool), w.cell? ⟨P, 3, none⟩ = some (.int .u8 ((kd : Nat) : Int)) ∧ w.cell? ⟨P, 6, none⟩ = some (.bool bd) ∧ (∀ l, st = .at_ l → kd = (Wm.tok l).code ∧ bd = false) ∧ (∀ e, st = .bad e → bd = true) := by
  cases st with
  | bad e =>
    obtain ⟨nx, at0, kd, tx, n, hr, _⟩ := h
    unfold PRow at hr
    exact ⟨kd, true, cell_of_row _ _ 3 _ _ (0, 0) hr, cell_of_row _ _ 6 _ _ (0, 0) hr, (fun l e => by cases e), (fun e' _ => rfl)⟩
  | at_ l =>
    obtain ⟨⟨nx, at0, tx, n, h⟩, hsuf⟩ := h
    have hr := h.row
    unfold PRow at hr
    exact ⟨_, _, cell_of_row _ _ 3 _ _ (0, 0) hr, cell_of_row _ _ 6 _ _ (0, 0) hr, fun l' e => by injection e with e; subst e; exact ⟨rfl, rfl⟩, fun e he => by cases he⟩
theorem KrOk.fresh {w0 w : World} {t : Rt} {cs : List Value} {V : Value} {base : Nat} (h : RdP w (fun b => w0.heap.size ≤ b ∧ b < w.heap.size) t cs) (hb : base ≤ w0.heap.size) (hV : ∀ k, V.ownBlock = some k → k < w0.heap.size) : ∃ x : Kr, x.t = t ∧ cs = x.cells ∧ KrOk w base V x := by
  obtain ⟨k, n, key, val, A, m, kc, rfl⟩ := h.inv
  exact ⟨⟨t, k, n, key, val, A, m, kc⟩, rfl, rfl, h.imp fun b hb2 => ⟨by omega, hb2.2, fun e => by have := hV b e; omega⟩⟩
theorem is_false {t : Wm.Tk} {c : UInt8} (h : ¬ t.is c = true) : t.is c = false := by cases h2 : t.is c; rfl; exact absurd h2 h
def KRel (W wr : World) (P : Nat) (s : ByteArray) (L : List UInt8) (f : Nat) (res : Wm.Res (List Rt)) (V : Value) : Prop := ∃ st Lk, OwnKids wr W.heap.size V Lk ∧ PSt wr P s L st ∧ W.grownBy wr (some P) ∧ KInv f res Lk st
/-- One more policy, read and appended. -/
theorem app_rel {W w2 : World} {P : Nat} {s : ByteArray} {L : List UInt8} {V : Value} {Lk : List Kr} {x : Kr} {st : Wm.St} (ho : OwnKids w2 W.heap.size V Lk) (hx : KrOk w2 W.heap.size V x) (hp : PSt w2 P s L st) (hg : W.grownBy w2 (some P)) (hP : P < W.heap.size) (hl : Lk.length ≤ 1000000) (ty : TypeId) :
    ∃ v' w', (Builtin.append_ #[22, 22] ty #[V, .slice (some ⟨w2.heap.size, 0, none⟩) 1 1]).run Tryd.prog (w2.alloc (.cells #[.int .i64 x.k, .int .i64 x.n, .string x.key, .string x.val, .slice x.A x.m x.kc] 24)) = .ok v' w' ∧ (OwnKids w' W.heap.size v' (Lk ++ [x]) ∧ PSt w' P s L st ∧ W.grownBy w' (some P)) := by
  have hb4 : Below w2.heap.size w2 (w2.alloc (.cells x.cells.toArray 24)) := (Below.refl _ _).alloc (Nat.le_refl _) _
  have ho2 := ho.below hb4
  have hrd : Rd (w2.alloc (.cells x.cells.toArray 24)) (w2.heap.size + 1) (some ⟨w2.heap.size, 0, none⟩) x.cells := by simpa using Rd.lit w2 x.cells.toArray 24
  have hgs := hg.size
  obtain ⟨v', w', h1, h2, h3⟩ := appKid (ty := ty) ho2 (hx.below hb4) hrd hl (by simp; omega)
  refine ⟨v', w', h1, h2, ?_, ?_⟩
  · refine (hp.below hb4 hp.lt).stay (h3.grown.block P (by have := hp.lt; simp; omega) (fun e => ?_))
    have := own_block_ge ho2.own P e.symm
    omega
  · have hg4 : W.grownBy (w2.alloc (.cells x.cells.toArray 24)) (some P) := grown_trans hg ⟨rfl, rfl, rfl, by simp, fun k hk hne => heap_alloc_old w2 _ hk⟩
    exact grown_new h3 (fun k hk => own_block_ge ho2.own k hk) hg4
theorem kind_code {w : World} {P : Nat} {s : ByteArray} {L l : List UInt8} (h : PSt w P s L (.at_ l)) : w.cell? ⟨P, 3, none⟩ = some (.int .u8 ((Wm.tok l).code : Int)) ∧ w.cell? ⟨P, 6, none⟩ = some (.bool false) := by
  obtain ⟨kd, bd, h1, h2, h3, h4⟩ := h.kind
  obtain ⟨rfl, rfl⟩ := h3 l rfl
  exact ⟨h1, h2⟩
theorem takeS_bad {k : Nat} {st : Wm.St} {e : List UInt8} (h : Wm.takeS k st = .bad e) : st = .bad e ∨ ∃ l, st = .at_ l ∧ (Wm.tok l).code ≠ k ∧ (Wm.tok l).from_ = e := by
  cases st with
  | bad e' => exact .inl h
  | at_ l =>
    simp only [Wm.takeS] at h
    split at h
    · cases h
    · rename_i hc
      injection h with h
      exact .inr ⟨l, rfl, hc, h⟩
theorem takeS_at {k : Nat} {st : Wm.St} {l : List UInt8} (h : Wm.takeS k st = .at_ l) : ∃ l0, st = .at_ l0 ∧ (Wm.tok l0).code = k ∧ (Wm.tok l0).rest = l := by
  cases st with
  | bad e' => cases h
  | at_ l0 =>
    simp only [Wm.takeS] at h
    split at h
    · rename_i hc
      injection h with h
      exact ⟨l0, rfl, hc, h⟩
    · cases h
theorem closeR_ok {res : Wm.Res (List Rt)} {ts : List Rt} {l : List UInt8} (h : res = .ok ts l) : (Wm.closeR res).st = Wm.takeS 41 (.at_ l) ∧ ∀ ts' r, Wm.closeR res = .ok ts' r → ts' = ts := by
  subst h
  simp only [Wm.closeR, Wm.takeS]
  have hc : (Wm.tok l).code = 41 ↔ (Wm.tok l).is 41 = true := code_sign (l := l) (c := 41) (.inr (.inl rfl))
  by_cases h : (Wm.tok l).is 41 = true
  · rw [if_pos h, if_pos (hc.2 h)]
    exact ⟨rfl, fun ts' r e => by injection e with e1 e2; exact e1.symm⟩
  · rw [if_neg h, if_neg (fun e => h (hc.1 e))]
    exact ⟨rfl, fun ts' r e => by cases e⟩
set_option maxHeartbeats 8000000 in
theorem kids_any (f P : Nat) (s : ByteArray) (L : List UInt8) (hL : s.data.toList = L) (hs : s.size ≤ 1000000) (IH : PolCalls f P s L) (hf : f ≤ 900000) (st : Wm.St) (W : World) (h : PSt W P s L st) (hl : ∀ l, st = .at_ l → l.length ≤ f) :
    Calls Tryd.prog 36 #[.pointer (some ⟨P, 0, none⟩)] W (KidsOut (Wm.onSt (Wm.kidsR (Wm.pol f) f) st) P s L W) := by
  have HT := Lib.hid (take_z s L P 40 40 rfl st W hL hs h (by decide) (by decide))
  have HIH := Lib.hid IH
  have HLL := Lib.hid hL
  have HS := Lib.hid hs
  have hP := h.lt
  have HON0 := Lib.hid (OwnKids.nil W W.heap.size)
  obtain ⟨st1, hst1⟩ : ∃ x, Wm.takeS 40 st = x := ⟨_, rfl⟩
  rw [hst1] at HT
  rcases (show (∃ e, st1 = .bad e) ∨ (∃ l, st1 = .at_ l ∧ (Wm.tok l).is 41 = true) ∨ (∃ l, st1 = .at_ l ∧ (Wm.tok l).is 41 = false) from by
    cases st1 with
    | bad e => exact .inl ⟨e, rfl⟩
    | at_ l =>
      cases h : (Wm.tok l).is 41
      · exact .inr (.inr ⟨l, rfl, h⟩)
      · exact .inr (.inl ⟨l, rfl, h⟩)) with ⟨e0, rfl⟩ | ⟨l0, rfl, h41⟩ | ⟨l0, rfl, h41⟩
  · have HRES : Hid (Wm.onSt (Wm.kidsR (Wm.pol f) f) st = Wm.closeR (.bad e0)) := Lib.hid (by
      rcases takeS_bad hst1 with rfl | ⟨l, rfl, hc, rfl⟩
      · rfl
      · show Wm.kidsR _ _ _ = _
        unfold Wm.kidsR
        rw [if_neg (fun e => hc ((code_sign (c := 40) (.inl rfl)).2 e))]
        rfl)
    clear h hl hst1 IH hL hs
    rw [HRES.out]
    go_enter Tryd.func36, Tryd.ntmps36
    go_upto_region 3 with (go_at_call 35; (with_reducible refine HT.out.mono ?_); rintro e1 w1 ⟨rfl, hr1, hg1⟩; have HR1 := Lib.hid hr1; have HG1 := Lib.hid hg1; clear hr1 hg1)
    obtain ⟨kd, bd, c3, c6, _, hb⟩ := HR1.out.kind
    have hbd := hb e0 rfl
    subst hbd
    have hz1 := HG1.out.size
    have HB1 := Lib.hid (OwnKids.nil w1 W.heap.size)
    have HTZ := Lib.hid (fun w (hw : PSt w P s L (.bad e0)) => take_z s L P 41 41 rfl (.bad e0) w HLL.out HS.out hw (by decide) (by decide))
    have HPC := Lib.hid (HIH.out (.bad e0) w1 HR1.out (fun l e => by cases e))
    clear hb
    by_cases hk : kd = 41
    · have d1 : ((kd : Int) != 41) = false := by simp [hk]
      have d2 : (kd != 41) = false := by simp [hk]
      clear hk
      have HTK := Lib.hid (HTZ.out w1 HR1.out)
      go_wp2_with (go_at_call 35; (with_reducible refine HTK.out.mono ?_); rintro e7 w7 ⟨rfl, hr7, hg7⟩; have HR7 := Lib.hid hr7; have HG7 := Lib.hid hg7; clear hr7 hg7)
      go_ret
      exact ⟨_, [], rfl, HB1.out.kept HG7.out hP, HR7.out, (fun ts r e => by cases e), grown_trans HG1.out HG7.out⟩
    · have d3 : ((kd : Int) == 41) = false := by rw [beq_eq_false_iff_ne]; omega
      have d4 : (kd == 41) = false := by rw [beq_eq_false_iff_ne]; omega
      have d1 : ((kd : Int) != 41) = true := by simp [bne, d3]
      have d2 : (kd != 41) = true := by simp [bne, d4]
      clear hk
      go_wp2_with (first
        | (at_builtin; refine wpList_app rfl (.tmp 11) (.tmp 14) _ _ rfl rfl rfl HAPP.out ?_; rintro v6 w6 ⟨ho6, hp6, hg6⟩; have HO6 := Lib.hid ho6; have HP6 := Lib.hid hp6; have HG6 := Lib.hid hg6; clear ho6 hp6 hg6 HAPP)
        | (go_at_call 18; (with_reducible refine HPC.out.mono ?_); rintro e5 w5 ⟨t5, cs5, rfl, hrd5, hp5, ht5, hg5⟩; have HO5 := OwnKids.kept HB1.out hg5 hP; obtain ⟨x5, hx5t, rfl, hx5⟩ := KrOk.fresh (base := W.heap.size) (V := (.slice none 0 0)) hrd5 hz1 (fun k hk => own_block_lt HB1.out.own k hk); have HX5T := Lib.hid hx5t; have HT5 := Lib.hid ht5; have HAPP := Lib.hid (app_rel HO5 hx5 hp5 (grown_trans HG1.out hg5) hP (by simp) 22); clear hrd5 hp5 hg5 HO5 hx5 ht5 hx5t; simp only [Kr.cells, rcs]))
      have HINIT : Hid (KRel W w6 P s L f (.bad e0) v6) := Lib.hid ⟨.bad e0, [x5], HO6.out, HP6.out, HG6.out, rfl, by simp⟩
      go_loopw [3] (fun V wr => Hid (KRel W wr P s L f (.bad e0) V)) (fun V _ => f + 2 - lenOf V)
      case atStart => exact HINIT
      case round =>
        have HREL := hrel
        clear hrel
        obtain ⟨st2, Lk, ho, hp, hg, hinv⟩ := HREL.out
        clear HREL
        have hlen := hinv.len
        have hz1 := hg.size
        have hzz := hp.lt
        obtain ⟨A, cc, hV, hcc, hrd⟩ := own_rd ho.own
        subst hV
        clear hrd
        have HO := Lib.hid ho
        have HP2 := Lib.hid hp
        have HG2 := Lib.hid hg
        have HINV := Lib.hid hinv
        clear ho hp hg hinv
        obtain ⟨ln, hln⟩ : ∃ k, Lk.length = k := ⟨_, rfl⟩
        have HLN := Lib.hid hln
        rw [hln] at hlen hcc HO ⊢
        rcases (show (∃ l, st2 = .at_ l ∧ (Wm.tok l).is 44 = true) ∨ (∃ l, st2 = .at_ l ∧ (Wm.tok l).is 44 = false) ∨ (∃ e, st2 = .bad e) from by
          cases st2 with
          | bad e => exact .inr (.inr ⟨e, rfl⟩)
          | at_ l =>
            cases h : (Wm.tok l).is 44
            · exact .inr (.inl ⟨l, rfl, h⟩)
            · exact .inl ⟨l, rfl, h⟩) with ⟨l, rfl, h44⟩ | ⟨l, rfl, h44⟩ | ⟨e2, rfl⟩
        · have hcd := (code_sign (c := 44) (.inr (.inr rfl))).2 h44
          obtain ⟨c3, c6⟩ := kind_code HP2.out
          rw [hcd] at c3
          have e44 : (((44 : UInt8).toNat : Nat) : Int) = 44 := by decide
          rw [e44] at c3
          have hkk := Wm.is_kind h44
          have HRD := Lib.hid (readon_any s L l P wr HLL.out HS.out HP2.out (by omega))
          have HINV2 : Hid (∀ x : Kr, (∀ t' r, Wm.pol f (Wm.tok l).rest = .ok t' r → x.t = t') → KInv f (.bad e0) (Lk ++ [x]) (Wm.pol f (Wm.tok l).rest).st) := Lib.hid (fun x hx => HINV.out.step h44 hx)
          have hlf : (Wm.tok l).rest.length < f := by
            obtain ⟨m, _, _, _, h4⟩ := HINV.out
            have := (Wm.tok_rest l).len
            omega
          have HLF := Lib.hid hlf
          clear hcd hkk h44 hlf
          go_wp2_with (first
            | (at_builtin; refine wpList_app rfl (.tmp 30) (.tmp 33) _ _ rfl rfl rfl HAPP.out ?_; rintro v6 w6 ⟨ho6, hp6, hg6⟩; have HO6 := Lib.hid ho6; have HP6 := Lib.hid hp6; have HG6 := Lib.hid hg6; clear ho6 hp6 hg6 HAPP)
            | (go_at_call 18; (with_reducible refine HPC.out.mono ?_); rintro e5 w5 ⟨t5, cs5, rfl, hrd5, hp5, ht5, hg5⟩; have HO5 := OwnKids.kept HO4.out hg5 hP; obtain ⟨x5, hx5t, rfl, hx5⟩ := KrOk.fresh (base := W.heap.size) (V := (.slice A ln cc)) hrd5 hz4 (fun k hk => own_block_lt HO4.out.own k hk); have HX5T := Lib.hid hx5t; have HT5 := Lib.hid ht5; have HAPP := Lib.hid (app_rel HO5 hx5 hp5 (grown_trans HG4.out hg5) hP (by rw [HLN.out]; omega) 22); clear hrd5 hp5 hg5 HO5 hx5 ht5 hx5t; simp only [Kr.cells, rcs])
            | (go_at_call 17; (with_reducible refine HRD.out.mono ?_); rintro e4 w4 ⟨rfl, hr4, hg4⟩; have HPC := Lib.hid (HIH.out _ w4 hr4 (fun l' e => by injection e with e; rw [← e]; exact HLF.out)); have HO4 := Lib.hid (OwnKids.kept HO.out hg4 hP); have HG4 := Lib.hid (grown_trans HG2.out hg4); have hz4 := HG4.out.size; clear hr4 hg4))
          go_roundw
          case rel => exact Lib.hid ⟨_, Lk ++ [x5], HO6.out, HP6.out, HG6.out, HINV2.out x5 (fun t' r h => HX5T.out.trans (HT5.out t' r h))⟩
          case measure =>
            obtain ⟨A6, c6', hv6, _, _⟩ := own_rd HO6.out.own
            rw [hv6]
            have := HLN.out
            simp only [lenOf, List.length_append, List.length_singleton]
            omega
        · obtain ⟨c3, c6⟩ := kind_code HP2.out
          have hcd : (Wm.tok l).code ≠ 44 := fun e => by have := (code_sign (l := l) (c := 44) (.inr (.inr rfl))).1 e; rw [h44] at this; cases this
          have k44 : (((Wm.tok l).code : Int) == 44) = false := by rw [beq_eq_false_iff_ne]; omega
          have k45 : ((Wm.tok l).code == 44) = false := by rw [beq_eq_false_iff_ne]; omega
          have HTK := Lib.hid (take_z s L P 41 41 rfl (.at_ l) wr HLL.out HS.out HP2.out (by decide) (by decide))
          have HCL := Lib.hid (closeR_ok (HINV.out.end_ h44))
          clear hcd h44
          go_wp2_with (go_at_call 35; (with_reducible refine HTK.out.mono ?_); rintro e7 w7 ⟨rfl, hr7, hg7⟩; have HR7 := Lib.hid hr7; have HG7 := Lib.hid hg7; clear hr7 hg7)
          go_ret
          exact ⟨_, Lk, rfl, by have h := OwnKids.kept HO.out HG7.out hP; exact h, by rw [HCL.out.1]; exact HR7.out, fun ts r e => (HCL.out.2 ts r e).symm, grown_trans HG2.out HG7.out⟩
        · obtain ⟨kd2, bd2, c3, c6, _, hb2⟩ := HP2.out.kind
          have hbd2 := hb2 e2 rfl
          subst hbd2
          clear hb2
          have HTK := Lib.hid (take_z s L P 41 41 rfl (.bad e2) wr HLL.out HS.out HP2.out (by decide) (by decide))
          have HCL : Hid (Wm.closeR (.bad e0) = .bad e2) := Lib.hid (by rw [HINV.out.1]; rfl)
          by_cases hk : kd2 = 44
          · have k44 : ((kd2 : Int) == 44) = true := by rw [beq_iff_eq]; omega
            have k45 : (kd2 == 44) = true := by rw [beq_iff_eq]; omega
            clear hk
            go_wp2_with (go_at_call 35; (with_reducible refine HTK.out.mono ?_); rintro e7 w7 ⟨rfl, hr7, hg7⟩; have HR7 := Lib.hid hr7; have HG7 := Lib.hid hg7; clear hr7 hg7)
            go_ret
            exact ⟨_, Lk, rfl, by have h := OwnKids.kept HO.out HG7.out hP; exact h, by rw [HCL.out]; exact HR7.out, (fun ts r e => by rw [HCL.out] at e; cases e), grown_trans HG2.out HG7.out⟩
          · have k44 : ((kd2 : Int) == 44) = false := by rw [beq_eq_false_iff_ne]; omega
            have k45 : (kd2 == 44) = false := by rw [beq_eq_false_iff_ne]; omega
            clear hk
            go_wp2_with (go_at_call 35; (with_reducible refine HTK.out.mono ?_); rintro e7 w7 ⟨rfl, hr7, hg7⟩; have HR7 := Lib.hid hr7; have HG7 := Lib.hid hg7; clear hr7 hg7)
            go_ret
            exact ⟨_, Lk, rfl, by have h := OwnKids.kept HO.out HG7.out hP; exact h, by rw [HCL.out]; exact HR7.out, (fun ts r e => by rw [HCL.out] at e; cases e), grown_trans HG2.out HG7.out⟩
  · have hcd := (code_sign (c := 41) (.inr (.inl rfl))).2 h41
    have hkk := Wm.is_kind h41
    have HRES : Hid (Wm.onSt (Wm.kidsR (Wm.pol f) f) st = .ok [] (Wm.tok l0).rest) := Lib.hid (by
      obtain ⟨l, rfl, hc, rfl⟩ := takeS_at hst1
      show Wm.kidsR _ _ _ = _
      unfold Wm.kidsR
      rw [if_pos ((code_sign (c := 40) (.inl rfl)).1 hc), if_pos h41])
    have HTE : Hid (Wm.takeS 41 (.at_ l0) = .at_ (Wm.tok l0).rest) := Lib.hid (by unfold Wm.takeS; exact if_pos hcd)
    have e41 : (((41 : UInt8).toNat : Nat) : Int) = 41 := by decide
    have HCD := Lib.hid hcd
    have HTZ := Lib.hid (fun w (hw : PSt w P s L (.at_ l0)) => take_z s L P 41 41 rfl (.at_ l0) w HLL.out HS.out hw (by decide) (by decide))
    clear h hl hst1 IH hL hs hcd h41 hkk
    rw [HRES.out]
    go_enter Tryd.func36, Tryd.ntmps36
    go_upto_region 3 with (go_at_call 35; (with_reducible refine HT.out.mono ?_); rintro e1 w1 ⟨rfl, hr1, hg1⟩; have HR1 := Lib.hid hr1; have HG1 := Lib.hid hg1; clear hr1 hg1)
    obtain ⟨c3, c6⟩ := kind_code HR1.out
    rw [HCD.out, e41] at c3
    have hz1 := HG1.out.size
    have HB1 := Lib.hid (OwnKids.nil w1 W.heap.size)
    have HTK := Lib.hid (HTZ.out w1 HR1.out)
    go_wp2_with (go_at_call 35; (with_reducible refine HTK.out.mono ?_); rintro e7 w7 ⟨rfl, hr7, hg7⟩; have HR7 := Lib.hid hr7; have HG7 := Lib.hid hg7; clear hr7 hg7)
    go_ret
    exact ⟨_, [], rfl, HB1.out.kept HG7.out hP, by have h := HR7.out; rw [HTE.out] at h; exact h, (fun ts r e => by injection e with e1 e2), grown_trans HG1.out HG7.out⟩
  · have hcd : (Wm.tok l0).code ≠ 41 := fun e => by have := (code_sign (l := l0) (c := 41) (.inr (.inl rfl))).1 e; rw [h41] at this; cases this
    have hl0 : l0.length < f := by
      obtain ⟨l, rfl, hc, rfl⟩ := takeS_at hst1
      have h1 := hl l rfl
      have h2 := (code_sign (l := l) (c := 40) (.inl rfl)).1 hc
      have h3 := Wm.is_kind h2
      have := Wm.tok_short l (by omega) (by omega)
      omega
    have HRES : Hid (Wm.onSt (Wm.kidsR (Wm.pol f) f) st = Wm.closeR (Wm.kids (Wm.pol f) 1 f l0)) := Lib.hid (by
      obtain ⟨l, rfl, hc, rfl⟩ := takeS_at hst1
      show Wm.kidsR _ _ _ = _
      unfold Wm.kidsR
      rw [if_pos ((code_sign (c := 40) (.inl rfl)).1 hc), if_neg (by rw [h41]; decide)])
    have HFST : Hid (∀ x : Kr, (∀ t' r, Wm.pol f l0 = .ok t' r → x.t = t') → KInv f (Wm.kids (Wm.pol f) 1 f l0) [x] (Wm.pol f l0).st) := Lib.hid (fun x hx => KInv.first hl0 hx)
    have HL0 := Lib.hid hl0
    have k41 : (((Wm.tok l0).code : Int) == 41) = false := by rw [beq_eq_false_iff_ne]; omega
    have k42 : ((Wm.tok l0).code == 41) = false := by rw [beq_eq_false_iff_ne]; omega
    have k43 : (((Wm.tok l0).code : Int) != 41) = true := by simp [bne, k41]
    have k44 : ((Wm.tok l0).code != 41) = true := by simp [bne, k42]
    clear h hl hst1 IH hL hs hcd h41 hl0
    rw [HRES.out]
    go_enter Tryd.func36, Tryd.ntmps36
    go_upto_region 3 with (go_at_call 35; (with_reducible refine HT.out.mono ?_); rintro e1 w1 ⟨rfl, hr1, hg1⟩; have HR1 := Lib.hid hr1; have HG1 := Lib.hid hg1; clear hr1 hg1)
    obtain ⟨c3, c6⟩ := kind_code HR1.out
    have hz1 := HG1.out.size
    have HB1 := Lib.hid (OwnKids.nil w1 W.heap.size)
    have HPC := Lib.hid (HIH.out (.at_ l0) w1 HR1.out (fun l e => by injection e with e; rw [← e]; exact HL0.out))
    go_wp2_with (first
      | (at_builtin; refine wpList_app rfl (.tmp 11) (.tmp 14) _ _ rfl rfl rfl HAPP.out ?_; rintro v6 w6 ⟨ho6, hp6, hg6⟩; have HO6 := Lib.hid ho6; have HP6 := Lib.hid hp6; have HG6 := Lib.hid hg6; clear ho6 hp6 hg6 HAPP)
      | (go_at_call 18; (with_reducible refine HPC.out.mono ?_); rintro e5 w5 ⟨t5, cs5, rfl, hrd5, hp5, ht5, hg5⟩; have HO5 := OwnKids.kept HB1.out hg5 hP; obtain ⟨x5, hx5t, rfl, hx5⟩ := KrOk.fresh (base := W.heap.size) (V := (.slice none 0 0)) hrd5 hz1 (fun k hk => own_block_lt HB1.out.own k hk); have HX5T := Lib.hid hx5t; have HT5 := Lib.hid ht5; have HAPP := Lib.hid (app_rel HO5 hx5 hp5 (grown_trans HG1.out hg5) hP (by simp) 22); clear hrd5 hp5 hg5 HO5 hx5 ht5 hx5t; simp only [Kr.cells, rcs]))
    have HINIT : Hid (KRel W w6 P s L f (Wm.kids (Wm.pol f) 1 f l0) v6) := Lib.hid ⟨_, [x5], HO6.out, HP6.out, HG6.out, HFST.out x5 (fun t' r h => HX5T.out.trans (HT5.out t' r h))⟩
    clear k41 k42 k43 k44 c3 c6
    go_loopw [3] (fun V wr => Hid (KRel W wr P s L f (Wm.kids (Wm.pol f) 1 f l0) V)) (fun V _ => f + 2 - lenOf V)
    case atStart => exact HINIT
    case round =>
      have HREL := hrel
      clear hrel
      obtain ⟨st2, Lk, ho, hp, hg, hinv⟩ := HREL.out
      clear HREL
      have hlen := hinv.len
      have hz1 := hg.size
      have hzz := hp.lt
      obtain ⟨A, cc, hV, hcc, hrd⟩ := own_rd ho.own
      subst hV
      clear hrd
      have HO := Lib.hid ho
      have HP2 := Lib.hid hp
      have HG2 := Lib.hid hg
      have HINV := Lib.hid hinv
      clear ho hp hg hinv
      obtain ⟨ln, hln⟩ : ∃ k, Lk.length = k := ⟨_, rfl⟩
      have HLN := Lib.hid hln
      rw [hln] at hlen hcc HO ⊢
      rcases (show (∃ l, st2 = .at_ l ∧ (Wm.tok l).is 44 = true) ∨ (∃ l, st2 = .at_ l ∧ (Wm.tok l).is 44 = false) ∨ (∃ e, st2 = .bad e) from by
        cases st2 with
        | bad e => exact .inr (.inr ⟨e, rfl⟩)
        | at_ l =>
          cases h : (Wm.tok l).is 44
          · exact .inr (.inl ⟨l, rfl, h⟩)
          · exact .inl ⟨l, rfl, h⟩) with ⟨l, rfl, h44⟩ | ⟨l, rfl, h44⟩ | ⟨e2, rfl⟩
      · have hcd := (code_sign (c := 44) (.inr (.inr rfl))).2 h44
        obtain ⟨c3, c6⟩ := kind_code HP2.out
        rw [hcd] at c3
        have e44 : (((44 : UInt8).toNat : Nat) : Int) = 44 := by decide
        rw [e44] at c3
        have hkk := Wm.is_kind h44
        have HRD := Lib.hid (readon_any s L l P wr HLL.out HS.out HP2.out (by omega))
        have HINV2 : Hid (∀ x : Kr, (∀ t' r, Wm.pol f (Wm.tok l).rest = .ok t' r → x.t = t') → KInv f (Wm.kids (Wm.pol f) 1 f l0) (Lk ++ [x]) (Wm.pol f (Wm.tok l).rest).st) := Lib.hid (fun x hx => HINV.out.step h44 hx)
        have hlf : (Wm.tok l).rest.length < f := by
          obtain ⟨m, _, _, _, h4⟩ := HINV.out
          have := (Wm.tok_rest l).len
          omega
        have HLF := Lib.hid hlf
        clear hcd hkk h44 hlf
        go_wp2_with (first
          | (at_builtin; refine wpList_app rfl (.tmp 30) (.tmp 33) _ _ rfl rfl rfl HAPP.out ?_; rintro v6 w6 ⟨ho6, hp6, hg6⟩; have HO6 := Lib.hid ho6; have HP6 := Lib.hid hp6; have HG6 := Lib.hid hg6; clear ho6 hp6 hg6 HAPP)
          | (go_at_call 18; (with_reducible refine HPC.out.mono ?_); rintro e5 w5 ⟨t5, cs5, rfl, hrd5, hp5, ht5, hg5⟩; have HO5 := OwnKids.kept HO4.out hg5 hP; obtain ⟨x5, hx5t, rfl, hx5⟩ := KrOk.fresh (base := W.heap.size) (V := (.slice A ln cc)) hrd5 hz4 (fun k hk => own_block_lt HO4.out.own k hk); have HX5T := Lib.hid hx5t; have HT5 := Lib.hid ht5; have HAPP := Lib.hid (app_rel HO5 hx5 hp5 (grown_trans HG4.out hg5) hP (by rw [HLN.out]; omega) 22); clear hrd5 hp5 hg5 HO5 hx5 ht5 hx5t; simp only [Kr.cells, rcs])
          | (go_at_call 17; (with_reducible refine HRD.out.mono ?_); rintro e4 w4 ⟨rfl, hr4, hg4⟩; have HPC := Lib.hid (HIH.out _ w4 hr4 (fun l' e => by injection e with e; rw [← e]; exact HLF.out)); have HO4 := Lib.hid (OwnKids.kept HO.out hg4 hP); have HG4 := Lib.hid (grown_trans HG2.out hg4); have hz4 := HG4.out.size; clear hr4 hg4))
        go_roundw
        case rel => exact Lib.hid ⟨_, Lk ++ [x5], HO6.out, HP6.out, HG6.out, HINV2.out x5 (fun t' r h => HX5T.out.trans (HT5.out t' r h))⟩
        case measure =>
          obtain ⟨A6, c6', hv6, _, _⟩ := own_rd HO6.out.own
          rw [hv6]
          have := HLN.out
          simp only [lenOf, List.length_append, List.length_singleton]
          omega
      · obtain ⟨c3, c6⟩ := kind_code HP2.out
        have hcd : (Wm.tok l).code ≠ 44 := fun e => by have := (code_sign (l := l) (c := 44) (.inr (.inr rfl))).1 e; rw [h44] at this; cases this
        have k44 : (((Wm.tok l).code : Int) == 44) = false := by rw [beq_eq_false_iff_ne]; omega
        have k45 : ((Wm.tok l).code == 44) = false := by rw [beq_eq_false_iff_ne]; omega
        have HTK := Lib.hid (take_z s L P 41 41 rfl (.at_ l) wr HLL.out HS.out HP2.out (by decide) (by decide))
        have HCL := Lib.hid (closeR_ok (HINV.out.end_ h44))
        clear hcd h44
        go_wp2_with (go_at_call 35; (with_reducible refine HTK.out.mono ?_); rintro e7 w7 ⟨rfl, hr7, hg7⟩; have HR7 := Lib.hid hr7; have HG7 := Lib.hid hg7; clear hr7 hg7)
        go_ret
        exact ⟨_, Lk, rfl, by have h := OwnKids.kept HO.out HG7.out hP; exact h, by rw [HCL.out.1]; exact HR7.out, fun ts r e => (HCL.out.2 ts r e).symm, grown_trans HG2.out HG7.out⟩
      · obtain ⟨kd2, bd2, c3, c6, _, hb2⟩ := HP2.out.kind
        have hbd2 := hb2 e2 rfl
        subst hbd2
        clear hb2
        have HTK := Lib.hid (take_z s L P 41 41 rfl (.bad e2) wr HLL.out HS.out HP2.out (by decide) (by decide))
        have HCL : Hid (Wm.closeR (Wm.kids (Wm.pol f) 1 f l0) = .bad e2) := Lib.hid (by rw [HINV.out.1]; rfl)
        by_cases hk : kd2 = 44
        · have k44 : ((kd2 : Int) == 44) = true := by rw [beq_iff_eq]; omega
          have k45 : (kd2 == 44) = true := by rw [beq_iff_eq]; omega
          clear hk
          go_wp2_with (go_at_call 35; (with_reducible refine HTK.out.mono ?_); rintro e7 w7 ⟨rfl, hr7, hg7⟩; have HR7 := Lib.hid hr7; have HG7 := Lib.hid hg7; clear hr7 hg7)
          go_ret
          exact ⟨_, Lk, rfl, by have h := OwnKids.kept HO.out HG7.out hP; exact h, by rw [HCL.out]; exact HR7.out, (fun ts r e => by rw [HCL.out] at e; cases e), grown_trans HG2.out HG7.out⟩
        · have k44 : ((kd2 : Int) == 44) = false := by rw [beq_eq_false_iff_ne]; omega
          have k45 : (kd2 == 44) = false := by rw [beq_eq_false_iff_ne]; omega
          clear hk
          go_wp2_with (go_at_call 35; (with_reducible refine HTK.out.mono ?_); rintro e7 w7 ⟨rfl, hr7, hg7⟩; have HR7 := Lib.hid hr7; have HG7 := Lib.hid hg7; clear hr7 hg7)
          go_ret
          exact ⟨_, Lk, rfl, by have h := OwnKids.kept HO.out HG7.out hP; exact h, by rw [HCL.out]; exact HR7.out, (fun ts r e => by rw [HCL.out] at e; cases e), grown_trans HG2.out HG7.out⟩

end Go.Proofs.YtgiahfjndononaaDoor
