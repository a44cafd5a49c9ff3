/- Chapter 6's example. -/
import Derived.Test.YtbdiamhhlabojaaDoorUl
import Derived.Lib.SlBytesConst
import Derived.Test.YtbdiamhhlabojaaDoorCk
namespace Go.Proofs.YtbdiamhhlabojaaDoor
open Go.RowKit
set_option linter.unusedVariables false
set_option linter.unusedSimpArgs false
set_option maxRecDepth 100000

theorem ok_none (room lf : Int) (fu : Bool) (us : Int) (h1 : 0 ≤ us ∧ us ≤ 4611686018427387904) (h2 : 0 ≤ room ∧ room ≤ 9223372036854775807) (h3 : -9223372036854775807 ≤ lf ∧ lf ≤ 9223372036854775807) : Dg.ok ⟨room, us, [], fu, lf⟩ :=
  ⟨h1, h2, h3, List.Pairwise.nil, by simp, fun x hx => by cases hx⟩
theorem ok_one (room us lf : Int) (fu : Bool) (x : Lg) (h1 : 0 ≤ us ∧ us ≤ 4611686018427387904) (h2 : 0 ≤ room ∧ room ≤ 9223372036854775807) (h3 : -9223372036854775807 ≤ lf ∧ lf ≤ 9223372036854775807) (h4 : x.2.1.length ≤ 2147483648) : Dg.ok ⟨room, us, [x], fu, lf⟩ :=
  ⟨h1, h2, h3, List.pairwise_singleton _ _, by simp, fun y hy => by simp at hy; subst hy; exact h4⟩
/-- Appending bytes that lie in a new block. -/
theorem append_lit (D : Nat) (g : Dg) (S : Nat → Prop) (nm : ByteArray) (b : List UInt8) (m : Nat) (W : World) (fr : Nat × Nat) (h : DvL W D D g S) (hk : g.ok) (hd : g.dead = false) (hnm : (nm.toList == ([] : List UInt8)) = false) (hf : (m : Int) ≤ g.room - g.us) (hm : m = b.length) (hbig : b.length ≤ 2147483647) :
    Calls Tryd.prog 27 #[.pointer (some ⟨D, 0, none⟩), .string nm, .slice (some ⟨W.heap.size, 0, none⟩) m m] (W.alloc (.cells (b.map B8).toArray 5 fr)) (LeftL D D (g.put nm b).burnt S (.int .i64 0) (W.alloc (.cells (b.map B8).toArray 5 fr))) :=
  appendL D D g S nm (some ⟨W.heap.size, 0, none⟩) b m m (W.heap.size + 1) (W.alloc (.cells (b.map B8).toArray 5 fr)) (h.below ((Below.refl _ _).alloc (Nat.le_refl _) _)) hk hd hnm hf hm (by have := Rd.litm W (b.map B8).toArray 5 fr; simpa using this) (by simp) (fun _ a ha hs => by injection ha with ha; subst ha; have := h.lt _ hs; simp at this) hbig
theorem alive6_put : ((Dg.new 9).put ⟨#[97]⟩ [120, 121]).burnt = ⟨9, 2, [(⟨#[97]⟩, [120, 121], 0)], false, 0⟩ := by rfl
end Go.Proofs.YtbdiamhhlabojaaDoor
