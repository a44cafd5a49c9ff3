/- Operations of a region, shown one by one: what they lean on, by numbers. Over any program. -/
import Derived.Test.YthkclgkbidhmbaaPerg
namespace Go.Proofs.Ythkclgkbidhmbaa.PG
open Go.RowKit
set_option linter.unusedVariables false
section
variable {P : Program} {ops : Array Oper} {a0 : Act} {w0 : World} {R : World → World → Prop} {G : Nat → World → Prop} {F : Nat → Value → World → Prop} {Q : Exit → Act → World → Prop} {i : Nat} {o : Oper} {a : Act} {w : World}

theorem after_of {es : Array Edge} {j : Nat} (h : (es.any fun e => Region.binds .any e && e.on == j) = true) : ∃ e ∈ es, Region.binds .any e = true ∧ e.on = j := by
  rw [Array.any_eq_true'] at h
  obtain ⟨e, he, h2⟩ := h
  simp only [Bool.and_eq_true, beq_iff_eq] at h2
  exact ⟨e, he, h2.1, h2.2⟩
theorem ToldG.at_ (T : ToldG ops a0 R G F i o a w) (j d : Nat) (h1 : (o.after.any fun e => Region.binds .any e && e.on == j) = true) (h2 : ((ops[j]?).bind (·.dst)) = some d) : F j (a.eval (.tmp d)) w := by
  obtain ⟨e, he, hb, rfl⟩ := after_of h1
  cases ho : ops[e.on]? with
  | none => rw [ho] at h2; cases h2
  | some oj =>
    rw [ho] at h2
    exact T.dep e he hb oj d ho h2
/-- Nobody turns temporary t ahead of i. -/
def wasB (ops : Array Oper) (i t : Nat) : Bool := (List.range ops.size).all fun j => match ops[j]? with
  | none => true
  | some oj => oj.dst != some t || j == i || oj.after.any fun e => Region.binds .any e && e.on == i
theorem ToldG.was (T : ToldG ops a0 R G F i o a w) (t : Nat) (h : wasB ops i t = true) : a.eval (.tmp t) = a0.eval (.tmp t) := by
  refine T.old t fun j oj hj hd => ?_
  unfold wasB at h
  rw [List.all_eq_true] at h
  have h1 := h j (List.mem_range.2 (Array.getElem?_eq_some_iff.1 hj).1)
  simp only [hj, hd, bne_self_eq_false, Bool.false_or, Bool.or_eq_true, beq_iff_eq] at h1
  rcases h1 with h1 | h1
  · exact .inl h1
  · exact .inr (after_of h1)
theorem ToldG.own (T : ToldG ops a0 R G F i o a w) : G i w := T.res i (.inl rfl)
theorem ToldG.yet (T : ToldG ops a0 R G F i o a w) (k : Nat) (h : (((ops[k]?).map fun ok => ok.after.any fun e => Region.binds .any e && e.on == i) == some true) = true) : G k w := by
  cases ho : ops[k]? with
  | none => rw [ho] at h; cases h
  | some ok =>
    rw [ho] at h
    simp only [Option.map_some, beq_iff_eq, Option.some.injEq] at h
    exact T.res k (.inr ⟨ok, ho, after_of h⟩)
theorem waits_no {j : Nat} (h : (((ops[j]?).map fun ok => ok.after.any fun e => Region.binds .any e && e.on == i) == some true) = true) (hw : ∀ oj, ops[j]? = some oj → ∀ e ∈ oj.after, Region.binds .any e = true → e.on ≠ i) : False := by
  cases ho : ops[j]? with
  | none => rw [ho] at h; cases h
  | some ok =>
    rw [ho] at h
    simp only [Option.map_some, beq_iff_eq, Option.some.injEq] at h
    obtain ⟨e, he, hb, hon⟩ := after_of h
    exact hw ok ho e he hb hon
theorem wanted_none (hg : o.guard = none) (y : Nat → Option Bool) : Region.wanted o y = true := by simp [Region.wanted, hg]

/-- What is asked behind an operation. -/
def Post (ops : Array Oper) (R : World → World → Prop) (G : Nat → World → Prop) (F : Nat → Value → World → Prop) (i : Nat) (w : World) (v : Value) (w' : World) : Prop :=
  R w w' ∧ F i v w' ∧ (∀ k, k ≠ i → G k w → G k w') ∧ KeepsF ops F i w w'
theorem Post.pure (hR : Goes R) {v : Value} (h : F i v w) : Post ops R G F i w v w := ⟨hR.refl _, h, fun _ _ h => h, fun _ _ _ _ h => h⟩
theorem shown_val (hg : o.guard = none) (h : ∀ a w, R w0 w → ToldG ops a0 R G F i o a w → ∃ v w', (execOp a.eval o).run P w = .ok (.value v) w' ∧ Post ops R G F i w v w') : ShownG P ops a0 w0 R G F Q i o := by
  intro a w hr T
  rw [if_pos (wanted_none hg _)]
  obtain ⟨v, w', h1, h2, h3, h4, h5⟩ := h a w hr T
  unfold Oper.wp
  rw [h1]
  exact ⟨v, rfl, h2, h3, h4, h5⟩
theorem shown_skip (hg : o.guard = none) (h : ∀ a w, R w0 w → ToldG ops a0 R G F i o a w → ∃ w', (execOp a.eval o).run P w = .ok .skip w' ∧ Post ops R G F i w undef w') : ShownG P ops a0 w0 R G F Q i o := by
  intro a w hr T
  rw [if_pos (wanted_none hg _)]
  obtain ⟨w', h1, h2, h3, h4, h5⟩ := h a w hr T
  unfold Oper.wp
  rw [h1]
  exact ⟨undef, rfl, h2, h3, h4, h5⟩
theorem shown_call (hg : o.guard = none) (f : FuncId) (h : ∀ a w, R w0 w → ToldG ops a0 R G F i o a w → ∃ args, (execOp a.eval o).run P w = .ok (.enter f args) w ∧ Calls P f args w fun e w' => ∃ v, e = .returned v ∧ Post ops R G F i w v w') : ShownG P ops a0 w0 R G F Q i o := by
  intro a w hr T
  rw [if_pos (wanted_none hg _)]
  obtain ⟨args, h1, h2⟩ := h a w hr T
  unfold Oper.wp
  rw [h1]
  refine h2.mono fun e w' hh => ?_
  obtain ⟨v, rfl, h2, h3, h4, h5⟩ := hh
  exact ⟨v, rfl, h2, h3, h4, h5⟩
/-- A temporary that holds a truth is yielded. -/
theorem yielded_of {tmps : Array Value} {g d : Nat} {b : Bool} (h2 : ((ops[g]?).bind (·.dst)) = some d) (h : tmps.getD d undef = .bool b) : yielded ops tmps g = some b := by
  unfold yielded
  rw [h2]
  simp only [Array.getD_eq_getD_getElem?] at h
  cases hd : tmps[d]? with
  | none => rw [hd] at h; simp [undef] at h
  | some v =>
    rw [hd] at h
    simp only [Option.getD_some] at h
    subst h
    simp [hd]
theorem wanted_if {g d : Nat} {b c : Bool} (hg : o.guard = some (g, b)) (T : ToldG ops a0 R G F i o a w) (h1 : (o.after.any fun e => Region.binds .any e && e.on == g) = true) (h2 : ((ops[g]?).bind (·.dst)) = some d) (hF : ∀ v w, F g v w → v = .bool c) : Region.wanted o (yielded ops a.tmps) = (c == b) := by
  have h := hF _ _ (T.at_ g d h1 h2)
  have hy := yielded_of (ops := ops) (tmps := a.tmps) h2 h
  simp only [Region.wanted, hg, hy]
  cases b <;> cases c <;> rfl
/-- Guarded, the guard met. -/
theorem shown_val_if (g d : Nat) (b : Bool) (hg : o.guard = some (g, b)) (h1 : (o.after.any fun e => Region.binds .any e && e.on == g) = true) (h2 : ((ops[g]?).bind (·.dst)) = some d) (hF : ∀ v w, F g v w → v = .bool b)
    (h : ∀ a w, R w0 w → ToldG ops a0 R G F i o a w → ∃ v w', (execOp a.eval o).run P w = .ok (.value v) w' ∧ Post ops R G F i w v w') : ShownG P ops a0 w0 R G F Q i o := by
  intro a w hr T
  rw [if_pos (by rw [wanted_if hg T h1 h2 hF]; simp)]
  obtain ⟨v, w', h1, h2, h3, h4, h5⟩ := h a w hr T
  unfold Oper.wp
  rw [h1]
  exact ⟨v, rfl, h2, h3, h4, h5⟩
theorem shown_call_if (g d : Nat) (b : Bool) (hg : o.guard = some (g, b)) (h1 : (o.after.any fun e => Region.binds .any e && e.on == g) = true) (h2 : ((ops[g]?).bind (·.dst)) = some d) (hF : ∀ v w, F g v w → v = .bool b) (f : FuncId)
    (h : ∀ a w, R w0 w → ToldG ops a0 R G F i o a w → ∃ args, (execOp a.eval o).run P w = .ok (.enter f args) w ∧ Calls P f args w fun e w' => ∃ v, e = .returned v ∧ Post ops R G F i w v w') : ShownG P ops a0 w0 R G F Q i o := by
  intro a w hr T
  rw [if_pos (by rw [wanted_if hg T h1 h2 hF]; simp)]
  obtain ⟨args, h1, h2⟩ := h a w hr T
  unfold Oper.wp
  rw [h1]
  refine h2.mono fun e w' hh => ?_
  obtain ⟨v, rfl, h2, h3, h4, h5⟩ := hh
  exact ⟨v, rfl, h2, h3, h4, h5⟩
/-- Guarded, the guard not met. -/
theorem shown_not (g d : Nat) (b : Bool) (hg : o.guard = some (g, b)) (h1 : (o.after.any fun e => Region.binds .any e && e.on == g) = true) (h2 : ((ops[g]?).bind (·.dst)) = some d) (hF : ∀ v w, F g v w → v = .bool (!b)) (h : ∀ w, F i undef w) : ShownG P ops a0 w0 R G F Q i o := by
  intro a w hr T
  rw [if_neg (by rw [wanted_if hg T h1 h2 hF]; cases b <;> simp)]
  exact h w
/-- What another operation left, handed on. -/
theorem shown_move (x : Operand) (hg : o.guard = none) (hop : o.op = .move x ∨ o.op = .assign x) (hR : Goes R) (h : ∀ a w, R w0 w → ToldG ops a0 R G F i o a w → F i (a.eval x) w) : ShownG P ops a0 w0 R G F Q i o :=
  shown_val hg fun a w hr T => ⟨a.eval x, w, by rcases hop with h | h <;> simp [execOp, h], Post.pure hR (h a w hr T)⟩
end
end Go.Proofs.Ythkclgkbidhmbaa.PG
