/- A region that draws its order and only reads: its check, reckoned over lists (a hundred operations in a second). -/
import Derived.Test.YtgiahfjndononaaDoorQb
namespace Go.Proofs.YtgiahfjndononaaDoor
set_option linter.unusedVariables false

def lexFree (md : Region.Mode) (ops : Array Oper) (o : Oper) (k : Nat) : List Oper → Bool
  | [] => true
  | oj :: r => (oj.after.toList.any (fun e => Region.binds md e && e.on == k) || o.apart ops oj) && lexFree md ops o k r
def lexQ (md : Region.Mode) (ops : Array Oper) : Nat → List Oper → Bool
  | _, [] => true
  | k, o :: r => (match o.op with | .select .. => false | _ => true) && o.after.toList.all (fun e => !Region.binds md e || decide (e.on < k)) && lexFree md ops o k r && lexQ md ops (k + 1) r
theorem lexFree_at {md : Region.Mode} {ops : Array Oper} {o : Oper} {k : Nat} {r : List Oper} : lexFree md ops o k r = true → ∀ oj ∈ r, (oj.after.any (fun e => Region.binds md e && e.on == k) || o.apart ops oj) = true := by
  induction r with
  | nil => intro _ x hx; cases hx
  | cons oj r ih =>
    intro h x hx
    simp only [lexFree, Bool.and_eq_true] at h
    rcases List.mem_cons.1 hx with e | e
    · subst e
      have h1 := h.1
      rw [Array.any_toList] at h1
      exact h1
    · exact ih h.2 x e
def upTo (n k : Nat) : Array Bool := ((List.range n).map fun i => decide (i < k)).toArray
theorem upTo_get {n k i : Nat} (h : i < n) (d : Bool) : (upTo n k).getD i d = decide (i < k) := by
  unfold upTo
  simp [Array.getD, h]
theorem upTo_out {n k i : Nat} (h : n ≤ i) (d : Bool) : (upTo n k).getD i d = d := by
  unfold upTo
  simp [Array.getD, Nat.not_lt.2 h]
theorem upTo_set {n k : Nat} (h : k < n) : (upTo n k).setIfInBounds k true = upTo n (k + 1) := by
  apply Array.ext
  · simp [upTo]
  · intro i h1 h2
    have hi : i < n := by simpa [upTo] using h2
    by_cases e : k = i
    · subst e
      simp [upTo]
    · rw [Array.getElem_setIfInBounds_ne (by simpa [upTo] using hi) e]
      simp only [upTo, List.getElem_toArray, List.getElem_map, List.getElem_range]
      rw [decide_eq_decide]
      omega
theorem upTo_start (n : Nat) : Array.replicate n false = upTo n 0 := by
  apply Array.ext
  · simp [upTo]
  · intro i h1 h2
    simp [upTo]
theorem lexQ_from {md : Region.Mode} {ops : Array Oper} : ∀ (r : List Oper) (k : Nat), ops.toList.drop k = r → k ≤ ops.size → lexQ md ops k r = true → Region.lexFrom md ops r.length k (upTo ops.size k) = true
  | [], k, hd, hk, _ => by
    have hks : ops.size ≤ k := by
      have h := congrArg List.length hd
      rw [List.length_drop, Array.length_toList, List.length_nil] at h
      omega
    show (Region.ready md ops (upTo ops.size k)).isEmpty = true
    rw [List.isEmpty_iff]
    apply List.eq_nil_iff_forall_not_mem.2
    intro j hj
    obtain ⟨h1, o, ho, _⟩ := mem_ready.1 hj
    have hjn := (Array.getElem?_eq_some_iff.1 ho).1
    rw [upTo_get hjn] at h1
    have := of_decide_eq_false h1
    omega
  | o :: r, k, hd, hk, h => by
    have hkn : k < ops.size := by
      have h := congrArg List.length hd
      rw [List.length_drop, Array.length_toList, List.length_cons] at h
      omega
    have hat : ∀ j, (o :: r)[j]? = ops[k + j]? := fun j => by rw [← hd, List.getElem?_drop, Array.getElem?_toList]
    have ho : ops[k]? = some o := by have := hat 0; rw [Nat.add_zero] at this; rw [← this]; rfl
    simp only [lexQ, Bool.and_eq_true] at h
    obtain ⟨⟨⟨_, h1⟩, h2⟩, h3⟩ := h
    show ((Region.ready md ops (upTo ops.size k)).contains k && Region.free md ops (upTo ops.size k) k && Region.lexFrom md ops r.length (k + 1) ((upTo ops.size k).setIfInBounds k true)) = true
    rw [Bool.and_eq_true, Bool.and_eq_true]
    refine ⟨⟨?_, ?_⟩, ?_⟩
    · rw [List.contains_iff_mem]
      refine mem_ready.2 ⟨by rw [upTo_get hkn]; simp, o, ho, fun e he hb => ?_⟩
      have h4 := List.all_eq_true.1 h1 e (Array.mem_toList_iff.2 he)
      rw [hb] at h4
      have h5 : e.on < k := by simpa using h4
      rw [upTo_get (by omega), decide_eq_true h5]
    · unfold Region.free
      rw [ho]
      simp only [List.all_eq_true, List.mem_range]
      intro j hj
      by_cases hjk : j = k
      · simp [hjk]
      · rcases Nat.lt_or_ge j k with hl | hl
        · rw [upTo_get hj, decide_eq_true hl]; simp
        · obtain ⟨oj, hoj⟩ : ∃ oj, ops[j]? = some oj := ⟨_, Array.getElem?_eq_getElem hj⟩
          have hm : oj ∈ r := by
            have h6 := hat (j - k)
            rw [show k + (j - k) = j by omega, hoj, show j - k = (j - k - 1) + 1 by omega, List.getElem?_cons_succ] at h6
            exact List.mem_of_getElem? h6
          have h7 := lexFree_at h2 oj hm
          rw [hoj]
          simp only
          rw [h7]; simp
    · rw [upTo_set hkn]
      exact lexQ_from r (k + 1) (by rw [← List.drop_drop, hd]; rfl) hkn h3
theorem lexQ_sel {md : Region.Mode} {ops : Array Oper} {r : List Oper} : ∀ {k : Nat}, lexQ md ops k r = true → ∀ o ∈ r, (match o.op with | .select .. => false | _ => true) = true := by
  induction r with
  | nil => intro k _ x hx; cases hx
  | cons o r ih =>
    intro k h x hx
    simp only [lexQ, Bool.and_eq_true] at h
    rcases List.mem_cons.1 hx with e | e
    · subst e; exact h.1.1.1
    · exact ih h.2 x e
theorem lexB_of {md : Region.Mode} {l : List Oper} (h : lexQ md l.toArray 0 l = true) : Region.lexB md l.toArray = true := by
  unfold Region.lexB
  rw [Bool.and_eq_true]
  refine ⟨?_, ?_⟩
  · unfold Region.noSelect
    rw [← Array.all_toList, List.all_eq_true]
    exact fun o ho => lexQ_sel h o (by simpa using ho)
  · have h1 := lexQ_from (md := md) (ops := l.toArray) l 0 rfl (Nat.zero_le _) h
    rw [upTo_start]
    simpa using h1
theorem wp_region_quiet_lex {P : Program} {id : Nat} {Q : Exit → Act → World → Prop} {a : Act} {w : World} {l : List Oper} (hm : P.follows .mixedOrders = true) (hB : lexQ .any l.toArray 0 l = true)
    (h : wpQuiet P l.toArray (fun w' => ∃ n, w' = w.drewN n) (fun a' => ∀ w', (∃ n, w' = w.drewN n) → Q .normal a' w') l a) : (Code.region id l.toArray true).wp P Q a w :=
  wp_region_quiet_lit hm (lexB_of hB) h
theorem wp_region_quiet_below_lex {P : Program} {id : Nat} {Q : Exit → Act → World → Prop} {a : Act} {w : World} {l : List Oper} (hm : P.follows .mixedOrders = true) (hB : lexQ .any l.toArray 0 l = true)
    (h : wpQuiet P l.toArray (fun w' => ∃ p : NowB w, w' = p.W) (fun a' => ∀ w', (∃ p : NowB w, w' = p.W) → Q .normal a' w') l a) : (Code.region id l.toArray true).wp P Q a w :=
  wp_region_quiet_below hm (lexB_of hB) h
end Go.Proofs.YtgiahfjndononaaDoor
