/- Policies as texts: tokens, and which policy a text begins with; how a policy is written. -/
import Derived.Test.YtgiahfjndononaaDoorRu
namespace Go.Proofs.YtgiahfjndononaaDoor
open Go.RowKit
set_option linter.unusedVariables false
set_option linter.unusedSimpArgs false
set_option maxRecDepth 100000

namespace Wm
def blank (c : UInt8) : Bool := c == 32 || c == 10
def lettr (c : UInt8) : Bool := decide (97 ≤ c.toNat) && decide (c.toNat ≤ 122)
def digt (c : UInt8) : Bool := decide (48 ≤ c.toNat) && decide (c.toNat ≤ 57)
def sgn (c : UInt8) : Bool := c == 40 || c == 41 || c == 44
/-- A text behind its first mark: what it says, and what stands behind it. -/
def txt : List UInt8 → Option (List UInt8 × List UInt8)
  | [] => none
  | [c] => if c = 34 then some ([], []) else none
  | c :: d :: r => if c = 34 then some ([], d :: r) else if c = 92 then (txt r).map fun p => (d :: p.1, p.2) else (txt (d :: r)).map fun p => (c :: p.1, p.2)
/-- A token: 0 the end, 1 a word, 2 a number, 3 a text, 4 a sign, 5 none; what it says; from where, and what stands behind it. -/
structure Tk where
  kind : Nat
  say : List UInt8
  from_ : List UInt8
  rest : List UInt8
def tokN (c : UInt8) (r : List UInt8) : Tk :=
  if (decide (10 < ((c :: r).takeWhile digt).length) || (decide (1 < ((c :: r).takeWhile digt).length) && c == 48)) = true then ⟨5, [], c :: r, (c :: r).dropWhile digt⟩ else ⟨2, (c :: r).takeWhile digt, c :: r, (c :: r).dropWhile digt⟩
def tokT (c : UInt8) (r : List UInt8) : Tk :=
  match txt r with
  | some p => ⟨3, p.1, c :: r, p.2⟩
  | none => ⟨5, [], c :: r, c :: r⟩
def tok1 : List UInt8 → Tk
  | [] => ⟨0, [], [], []⟩
  | c :: r => if lettr c = true then ⟨1, (c :: r).takeWhile lettr, c :: r, (c :: r).dropWhile lettr⟩ else if digt c = true then tokN c r else if sgn c = true then ⟨4, [c], c :: r, r⟩ else if c = 34 then tokT c r else ⟨5, [], c :: r, c :: r⟩
def tok (l : List UInt8) : Tk := tok1 (l.dropWhile blank)
def num (w : List UInt8) : Nat := w.foldl (fun a b => a * 10 + (b.toNat - 48)) 0
def wd : Nat → List UInt8
  | 1 => [97, 108, 108]
  | 2 => [97, 110, 121]
  | 3 => [110, 111, 116]
  | 4 => [115, 108, 111, 119]
  | 5 => [101, 114, 114]
  | 6 => [97, 116, 116, 114]
  | 7 => [109, 97, 110, 121]
  | 8 => [104, 97, 115, 104]
  | 9 => [114, 97, 116, 101]
  | _ => []
def kw (w : List UInt8) : Nat := if w = wd 1 then 1 else if w = wd 2 then 2 else if w = wd 3 then 3 else if w = wd 4 then 4 else if w = wd 5 then 5 else if w = wd 6 then 6 else if w = wd 7 then 7 else if w = wd 8 then 8 else if w = wd 9 then 9 else 0
def Tk.key (t : Tk) : Nat := if t.kind = 1 then kw t.say else 0
def Tk.is (t : Tk) (c : UInt8) : Bool := decide (t.kind = 4) && decide (t.say = [c])
inductive Res (α : Type) where
  | bad (l : List UInt8)
  | ok (t : α) (l : List UInt8)
def more (p : List UInt8 → Res Rt) : Nat → List Rt → List UInt8 → Res (List Rt)
  | 0, _, l => .bad l
  | m + 1, acc, l =>
    if (tok l).is 44 = true then
      match p (tok l).rest with
      | .bad e => .bad e
      | .ok r l2 => more p m (acc ++ [r]) l2
    else .ok acc l
def close (k : Nat) : Res (List Rt) → Res Rt
  | .bad e => .bad e
  | .ok rs l => if (tok l).is 41 = true then .ok (.mk (k : Int) 0 ⟨#[]⟩ ⟨#[]⟩ rs) (tok l).rest else .bad (tok l).from_
/-- The policies between the brackets. -/
def kids (p : List UInt8 → Res Rt) (k f : Nat) (l : List UInt8) : Res (List Rt) :=
  match p l with
  | .bad e => .bad e
  | .ok r l2 => if k = 3 then .ok [r] l2 else more p f [r] l2
def polK (p : List UInt8 → Res Rt) (k f : Nat) (l : List UInt8) : Res Rt :=
  if (tok l).is 40 = true then
    (if k ≠ 3 ∧ (tok (tok l).rest).is 41 = true then .ok (.mk (k : Int) 0 ⟨#[]⟩ ⟨#[]⟩ []) (tok (tok l).rest).rest
     else close k (kids p k f (tok l).rest))
  else .bad (tok l).from_
def polA (l : List UInt8) : Res Rt :=
  if (tok l).kind = 3 then (if (tok (tok l).rest).kind = 3 then .ok (.mk 6 0 (S8 (tok l).say) (S8 (tok (tok l).rest).say) []) (tok (tok l).rest).rest else .bad (tok (tok l).rest).from_)
  else .bad (tok l).from_
def polN (k : Nat) (l : List UInt8) : Res Rt :=
  if (tok l).kind = 2 then .ok (.mk (k : Int) (num (tok l).say : Int) ⟨#[]⟩ ⟨#[]⟩ []) (tok l).rest else .bad (tok l).from_
def pol : Nat → List UInt8 → Res Rt
  | 0, l => .bad l
  | f + 1, l =>
    if (tok l).key = 0 then .bad (tok l).from_
    else if (tok l).key = 5 then .ok (.mk 5 0 ⟨#[]⟩ ⟨#[]⟩ []) (tok l).rest
    else if (tok l).key = 6 then polA (tok l).rest
    else if (tok l).key ≤ 3 then polK (pol f) (tok l).key f (tok l).rest
    else polN (tok l).key (tok l).rest
/-- The whole text: one policy, and the end. -/
def whole (f : Nat) (l : List UInt8) : Res Rt :=
  match pol f l with
  | .bad e => .bad e
  | .ok t r => if (tok r).kind = 0 then .ok t [] else .bad (tok r).from_

/-- It ends so. -/
def Suf (a b : List UInt8) : Prop := ∃ p, b = p ++ a
theorem Suf.refl (a : List UInt8) : Suf a a := ⟨[], rfl⟩
theorem Suf.trans {a b c : List UInt8} (h : Suf a b) (k : Suf b c) : Suf a c := by
  obtain ⟨p, rfl⟩ := h
  obtain ⟨q, rfl⟩ := k
  exact ⟨q ++ p, by simp⟩
theorem Suf.len {a b : List UInt8} (h : Suf a b) : a.length ≤ b.length := by
  obtain ⟨p, rfl⟩ := h
  simp
theorem Suf.drop {a b : List UInt8} (h : Suf a b) : b.drop (b.length - a.length) = a := by
  obtain ⟨p, rfl⟩ := h
  simp
theorem suf_cons (c : UInt8) (a : List UInt8) : Suf a (c :: a) := ⟨[c], rfl⟩
theorem suf_dropWhile (p : UInt8 → Bool) (l : List UInt8) : Suf (l.dropWhile p) l := ⟨l.takeWhile p, (List.takeWhile_append_dropWhile).symm⟩
theorem txt_suf : ∀ (n : Nat) (l : List UInt8) (a b : List UInt8), l.length ≤ n → txt l = some (a, b) → Suf b l ∧ b.length < l.length ∧ a.length < l.length
  | 0, [], a, b, _, h => by simp [txt] at h
  | 0, _ :: _, a, b, h, _ => by simp at h
  | n + 1, [], a, b, _, h => by simp [txt] at h
  | n + 1, [c], a, b, _, h => by
    rw [txt] at h
    split at h
    · simp at h
      obtain ⟨rfl, rfl⟩ := h
      exact ⟨⟨[c], rfl⟩, by simp, by simp⟩
    · cases h
  | n + 1, c :: d :: r, a, b, hn, h => by
    simp only [List.length_cons] at hn
    rw [txt] at h
    split at h
    · simp at h
      obtain ⟨rfl, rfl⟩ := h
      exact ⟨suf_cons _ _, by simp, by simp⟩
    · split at h
      · rw [Option.map_eq_some_iff] at h
        obtain ⟨⟨a', b'⟩, h1, h2⟩ := h
        simp only [Prod.mk.injEq] at h2
        obtain ⟨rfl, rfl⟩ := h2
        have h3 := txt_suf n r a' b' (by omega) h1
        exact ⟨h3.1.trans ((suf_cons _ _).trans (suf_cons _ _)), by simp only [List.length_cons]; omega, by simp only [List.length_cons]; omega⟩
      · rw [Option.map_eq_some_iff] at h
        obtain ⟨⟨a', b'⟩, h1, h2⟩ := h
        simp only [Prod.mk.injEq] at h2
        obtain ⟨rfl, rfl⟩ := h2
        have h3 := txt_suf n (d :: r) a' b' (by simp only [List.length_cons]; omega) h1
        simp only [List.length_cons] at h3
        exact ⟨h3.1.trans (suf_cons _ _), by simp only [List.length_cons]; omega, by simp only [List.length_cons]; omega⟩
theorem takeWhile_len (p : UInt8 → Bool) (l : List UInt8) : (l.takeWhile p).length + (l.dropWhile p).length = l.length := by
  rw [← List.length_append, List.takeWhile_append_dropWhile]
/-- What a token is like. -/
structure TkOk (t : Tk) (l : List UInt8) : Prop where
  froms : Suf t.from_ l
  rests : Suf t.rest t.from_
  kinds : t.kind ≤ 5
  adv : t.kind ≠ 0 → t.kind ≠ 5 → t.rest.length < t.from_.length
  say : t.say.length ≤ l.length
  fin : t.kind = 0 → t.from_ = [] ∧ t.rest = []
  sig : t.kind = 4 → t.say = [40] ∨ t.say = [41] ∨ t.say = [44]
  nums : t.kind = 2 → t.say.length ≤ 10 ∧ ∀ c ∈ t.say, digt c = true
theorem takeWhile_mem (p : UInt8 → Bool) : ∀ (l : List UInt8), ∀ c ∈ l.takeWhile p, p c = true
  | [], c, h => by cases h
  | a :: l, c, h => by
    rw [List.takeWhile_cons] at h
    split at h
    · rcases List.mem_cons.1 h with rfl | h
      · assumption
      · exact takeWhile_mem p l c h
    · cases h
theorem tok1_ok (l : List UInt8) : TkOk (tok1 l) l := by
  rcases l with _ | ⟨c, r⟩
  · exact ⟨Suf.refl _, Suf.refl _, by simp [tok1], by simp [tok1], by simp [tok1], by simp [tok1], by simp [tok1], by simp [tok1]⟩
  · have hd := takeWhile_len digt (c :: r)
    have hl := takeWhile_len lettr (c :: r)
    rw [tok1]
    split
    · rename_i h
      refine ⟨Suf.refl _, suf_dropWhile _ _, by simp, fun _ _ => ?_, by simp only; omega, by simp, by simp, by simp⟩
      simp only [List.dropWhile_cons, h, if_true, List.length_cons]
      have := (suf_dropWhile lettr r).len
      omega
    · split
      · rename_i h
        unfold tokN
        split
        · exact ⟨Suf.refl _, suf_dropWhile _ _, by simp, by simp, by simp, by simp, by simp, by simp⟩
        · rename_i h2
          refine ⟨Suf.refl _, suf_dropWhile _ _, by simp, fun _ _ => ?_, by simp only; omega, by simp, by simp, fun _ => ⟨?_, takeWhile_mem _ _⟩⟩
          · simp only [List.dropWhile_cons, h, if_true, List.length_cons]
            have := (suf_dropWhile digt r).len
            omega
          · rw [Bool.or_eq_true, decide_eq_true_eq] at h2
            simp only
            omega
      · split
        · rename_i h
          refine ⟨Suf.refl _, suf_cons _ _, by simp, by simp, by simp, by simp, fun _ => ?_, by simp⟩
          unfold sgn at h
          simp only [Bool.or_eq_true, beq_iff_eq] at h
          rcases h with (rfl | rfl) | rfl
          · exact .inl rfl
          · exact .inr (.inl rfl)
          · exact .inr (.inr rfl)
        · split
          · unfold tokT
            cases ht : txt r with
            | none => exact ⟨Suf.refl _, Suf.refl _, by simp, by simp, by simp, by simp, by simp, by simp⟩
            | some p =>
              obtain ⟨a, b⟩ := p
              have h3 := txt_suf _ r a b (Nat.le_refl _) ht
              exact ⟨Suf.refl _, h3.1.trans (suf_cons _ _), by simp, fun _ _ => by simp only [List.length_cons]; omega, by simp only [List.length_cons]; omega, by simp, by simp, by simp⟩
          · exact ⟨Suf.refl _, Suf.refl _, by simp, by simp, by simp, by simp, by simp, by simp⟩
theorem tok_ok (l : List UInt8) : TkOk (tok l) l := by
  have h := tok1_ok (l.dropWhile blank)
  have hs := suf_dropWhile blank l
  exact ⟨h.froms.trans hs, h.rests, h.kinds, h.adv, Nat.le_trans h.say hs.len, h.fin, h.sig, h.nums⟩
theorem num_lt : ∀ (w : List UInt8), (∀ c ∈ w, digt c = true) → num w < 10 ^ w.length := by
  have h : ∀ (w : List UInt8) (a : Nat), (∀ c ∈ w, digt c = true) → w.foldl (fun a b => a * 10 + (b.toNat - 48)) a < (a + 1) * 10 ^ w.length := by
    intro w
    induction w with
    | nil => intro a _; simp
    | cons c w ih =>
      intro a hw
      have hc := hw c (by simp)
      unfold digt at hc
      simp only [Bool.and_eq_true, decide_eq_true_eq] at hc
      have h1 := ih (a * 10 + (c.toNat - 48)) (fun d hd => hw d (by simp [hd]))
      rw [List.foldl_cons, List.length_cons, Nat.pow_succ]
      refine Nat.lt_of_lt_of_le h1 ?_
      have h2 : a * 10 + (c.toNat - 48) + 1 ≤ (a + 1) * 10 := by omega
      have h3 := Nat.mul_le_mul_right (10 ^ w.length) h2
      rw [Nat.mul_comm (10 ^ w.length) 10, ← Nat.mul_assoc]
      exact h3
  intro w hw
  have := h w 0 hw
  unfold num
  simpa using this
theorem tok_num (l : List UInt8) (h : (tok l).kind = 2) : num (tok l).say < 10000000000 := by
  have h1 := (tok_ok l).nums h
  have h2 := num_lt _ h1.2
  have h3 : 10 ^ (tok l).say.length ≤ 10 ^ 10 := Nat.pow_le_pow_right (by decide) h1.1
  have h4 : (10 : Nat) ^ 10 = 10000000000 := by decide
  omega
theorem kw_le (w : List UInt8) : kw w ≤ 9 := by
  unfold kw
  repeat' split
  all_goals omega
theorem key_pos {t : Tk} (h : t.key ≠ 0) : t.kind = 1 := by
  unfold Tk.key at h
  split at h
  · assumption
  · exact absurd rfl h
theorem key_le (t : Tk) : t.key ≤ 9 := by
  unfold Tk.key
  split
  · exact kw_le _
  · omega
theorem is_kind {t : Tk} {c : UInt8} (h : t.is c = true) : t.kind = 4 := by
  unfold Tk.is at h
  simp only [Bool.and_eq_true, decide_eq_true_eq] at h
  exact h.1
/-- What a reading leaves. -/
def ResOk {α : Type} (l : List UInt8) : Res α → Prop
  | .bad e => Suf e l
  | .ok _ r => Suf r l ∧ r.length < l.length
end Wm
end Go.Proofs.YtgiahfjndononaaDoor
