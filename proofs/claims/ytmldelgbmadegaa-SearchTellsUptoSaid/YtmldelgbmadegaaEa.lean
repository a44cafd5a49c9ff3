/- A span added to an episode. -/
import Derived.Test.YtmldelgbmadegaaEc
import Derived.Test.YtmldelgbmadegaaOt
import Derived.Laws.StructEq
import Derived.Deep.RegionHeld3
import Derived.Test.YtmldelgbmadegaaBs
namespace Go.Proofs.Ytmldelgbmadegaa
open Go.RowKit
set_option linter.unusedVariables false
set_option maxRecDepth 100000

theorem OwnSps.else {w : World} {base : Nat} {v : Value} {l : List Ls} (h : OwnSps w base v l) {p : Addr} {cs : Array Value} {t : TypeId} {fr : Nat × Nat} (hk : w.heap[p.block]? = some (.cells cs t fr)) (h1 : t ≠ 71) (h2 : t ≠ 116) (u : Value) : OwnSps (w.setCell p u) base v l :=
  ⟨own_else h.own hk h1 u, fun x hx => ⟨own_else (h.each x hx).own hk h2 u, (h.each x hx).ok⟩⟩
/-- What Add hands back. -/
def AddEp (hi lo f la : Int) (su : Bool) (l : List Sp) (ok : Bool) (w : World) (e : Ending) (w' : World) : Prop :=
  ∃ (A : Option Addr) (n c : Nat) (l' : List Ls), e = .returned (.tuple #[.agg #[.int .u64 hi, .int .u64 lo, .int .i64 f, .int .i64 la, .bool su, .slice A n c], .bool ok]) ∧ n = l.length ∧ OwnSps w' w.heap.size (.slice A n c) l' ∧ l'.map Ls.s = l ∧ Below w.heap.size w w'

/-- What each operation of Add's last statement leaves. -/
def AF (hi lo f now : Int) (su : Bool) (x2 x3 : Int) (x4 x5 : ByteArray) (x6 x7 : Int) (x8 : Bool) (xA : Option Addr) (m xc : Nat) (ats : List (ByteArray × ByteArray)) (A1 : Option Addr) (n1 c1 o base : Nat) (l1 : List Ls) : Nat → Value → World → Prop
  | 0, v, _ => v = .pointer (some ⟨o, 5, none⟩)
  | 1, v, _ => v = .slice A1 n1 c1
  | 2, v, _ => v = .agg #[.int .u64 hi, .int .u64 lo, .int .u64 x2, .int .u64 x3, .string x4, .string x5, .int .i64 x6, .int .i64 x7, .bool x8, .slice xA m xc]
  | 3, v, w => ∃ A2 c2, v = .agg #[.int .u64 hi, .int .u64 lo, .int .u64 x2, .int .u64 x3, .string x4, .string x5, .int .i64 x6, .int .i64 x7, .bool x8, .slice A2 m c2] ∧ OwnL w base ⟨⟨hi, lo, x2, x3, x4, x5, x6, x7, x8, ats⟩, A2, c2⟩
  | 4, v, w => ∃ A2 c2 g, v = .slice (some ⟨g, 0, none⟩) 1 1 ∧ OwnL w base ⟨⟨hi, lo, x2, x3, x4, x5, x6, x7, x8, ats⟩, A2, c2⟩ ∧ Rd w (g + 1) (some ⟨g, 0, none⟩) (Ls.mk ⟨hi, lo, x2, x3, x4, x5, x6, x7, x8, ats⟩ A2 c2).cells ∧ g < w.heap.size ∧ o < g ∧ (Value.slice A1 n1 c1).ownBlock ≠ some g
  | 5, v, w => ∃ A5 c5 n5 A2 c2, v = .slice A5 n5 c5 ∧ n5 = n1 + 1 ∧ OwnSps w base v (l1 ++ [⟨⟨hi, lo, x2, x3, x4, x5, x6, x7, x8, ats⟩, A2, c2⟩])
  | 6, v, _ => v = .pointer (some ⟨o, 5, none⟩)
  | 7, _, w => ∃ A5 c5 n5 A2 c2, n5 = n1 + 1 ∧ OwnSps w base (.slice A5 n5 c5) (l1 ++ [⟨⟨hi, lo, x2, x3, x4, x5, x6, x7, x8, ats⟩, A2, c2⟩]) ∧ w.heap[o]? = some (.cells #[.int .u64 hi, .int .u64 lo, .int .i64 f, .int .i64 now, .bool su, .slice A5 n5 c5] 48)
  | _, _, _ => True
/-- What holds till the append, and till the store. -/
def AG (hi lo f now : Int) (su : Bool) (x2 x3 : Int) (x4 x5 : ByteArray) (x6 x7 : Int) (x8 : Bool) (xA : Option Addr) (m xc : Nat) (ats : List (ByteArray × ByteArray)) (A1 : Option Addr) (n1 c1 o base : Nat) (l1 : List Ls) : Nat → World → Prop
  | 5, w => OwnSps w base (.slice A1 n1 c1) l1
  | 7, w => w.heap[o]? = some (.cells #[.int .u64 hi, .int .u64 lo, .int .i64 f, .int .i64 now, .bool su, .slice A1 n1 c1] 48)
  | _, _ => True
theorem Rd.block {w w' : World} {g : Nat} {xs : List Value} (h : Rd w (g + 1) (some ⟨g, 0, none⟩) xs) (he : w'.heap[g]? = w.heap[g]?) : Rd w' (g + 1) (some ⟨g, 0, none⟩) xs := fun hn => by
  obtain ⟨a, ha, hb, hc⟩ := h hn
  injection ha with ha
  subst ha
  exact ⟨_, rfl, hb, fun j u hu => (World.cell?_of_block (by rw [block_add]; exact he)).trans (hc j u hu)⟩
section
variable {hi lo f now : Int} {su : Bool} {x2 x3 : Int} {x4 x5 : ByteArray} {x6 x7 : Int} {x8 : Bool} {xA : Option Addr} {m xc : Nat} {ats : List (ByteArray × ByteArray)} {A1 : Option Addr} {n1 c1 o base : Nat} {l1 : List Ls} {w w' : World}
theorem AF.below {i : Nat} {v : Value} (h : AF hi lo f now su x2 x3 x4 x5 x6 x7 x8 xA m xc ats A1 n1 c1 o base l1 i v w) (hb : Below w.heap.size w w') : AF hi lo f now su x2 x3 x4 x5 x6 x7 x8 xA m xc ats A1 n1 c1 o base l1 i v w' := by
  match i, h with
  | 0, h => exact h
  | 1, h => exact h
  | 2, h => exact h
  | 3, h => obtain ⟨A2, c2, h1, h2⟩ := h; exact ⟨A2, c2, h1, h2.below hb⟩
  | 4, h => obtain ⟨A2, c2, g, h1, h2, h3, h4, h5, h6⟩ := h; exact ⟨A2, c2, g, h1, h2.below hb, h3.block (hb.block g h4), Nat.lt_of_lt_of_le h4 hb.size, h5, h6⟩
  | 5, h => obtain ⟨A5, c5, n5, A2, c2, h1, h2, h3⟩ := h; exact ⟨A5, c5, n5, A2, c2, h1, h2, h3.below hb⟩
  | 6, h => exact h
  | 7, h => obtain ⟨A5, c5, n5, A2, c2, h2, h3, h4⟩ := h; exact ⟨A5, c5, n5, A2, c2, h2, h3.below hb, (hb.block o (in_heap h4)).trans h4⟩
  | _ + 8, h => trivial
theorem AG.below {i : Nat} (h : AG hi lo f now su x2 x3 x4 x5 x6 x7 x8 xA m xc ats A1 n1 c1 o base l1 i w) (hb : Below w.heap.size w w') : AG hi lo f now su x2 x3 x4 x5 x6 x7 x8 xA m xc ats A1 n1 c1 o base l1 i w' := by
  unfold AG at *
  split
  · exact OwnSps.below h hb
  · exact (hb.block o (in_heap h)).trans h
  · trivial
theorem post_below {ops : Array Oper} {i : Nat} {v : Value} (hbase : base ≤ w.heap.size) (hb : Below w.heap.size w w') (h : AF hi lo f now su x2 x3 x4 x5 x6 x7 x8 xA m xc ats A1 n1 c1 o base l1 i v w') :
    PG.Post ops (Below base) (AG hi lo f now su x2 x3 x4 x5 x6 x7 x8 xA m xc ats A1 n1 c1 o base l1) (AF hi lo f now su x2 x3 x4 x5 x6 x7 x8 xA m xc ats A1 n1 c1 o base l1) i w v w' := ⟨hb.mono hbase, h, fun _ _ h => h.below hb, fun _ _ _ _ h => h.below hb⟩
end

end Go.Proofs.Ytmldelgbmadegaa
