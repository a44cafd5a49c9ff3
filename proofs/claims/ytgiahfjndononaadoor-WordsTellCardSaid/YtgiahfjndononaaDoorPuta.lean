/- What the code and the document write of a number, onto a row of one's own; a copy. -/
import Derived.Test.YtgiahfjndononaaDoorRows
import Derived.Test.YtgiahfjndononaaDoorBs
import Derived.Test.YtgiahfjndononaaDoorPl
namespace Go.Proofs.YtgiahfjndononaaDoor
open Go.RowKit
theorem infoB : (Tryd.prog.info? 5).map (fun i => (i.zero, i.size, i.bytes)) = some (some (.int .u8 0), 1, 1) := by kernel_rfl

/-- append of bytes onto a row of one's own. -/
theorem appB {w : World} {ty : TypeId} {base : Nat} {v : Value} {k : List UInt8} (hown : w.ownsRow base 5 1 v k.length (k.map B8)) {B : Nat} {A : Option Addr} {l : List UInt8} {c : Nat} (hr : Rd w B A (l.map B8))
    (hl : k.length + l.length ≤ 4294967296) (hbase : base ≤ w.heap.size) :
    ∃ v' w', (Builtin.append_ #[50, 50] ty #[v, .slice A l.length c]).run Tryd.prog w = .ok v' w' ∧ (w'.ownsRow base 5 1 v' (k ++ l).length ((k ++ l).map B8) ∧ Grew w w' v v') := by
  obtain ⟨i0, hi, hz0, hz1, hz2⟩ := info_parts infoB
  obtain ⟨v', w', h1, h2, h3⟩ := run_append_rd (P := Tryd.prog) w base 50 ty 5 i0 _ 1 1 Tryd.underlying50 hi hz0 hz1 hz2 rfl v k.length (k.map B8) hown B A l.length c (l.map B8) (by simp) hr (by simp [B8, Value.oneCell']) (by unfold maxLen; omega) (by omega) hbase
  exact ⟨v', w', h1, by rw [List.length_append, List.map_append]; exact h2, h3⟩
theorem own_nil (w : World) (base : Nat) : w.ownsRow base 5 1 (.slice none 0 0) ([] : List UInt8).length (([] : List UInt8).map B8) := World.ownsRow_nil _ _ _ _

end Go.Proofs.YtgiahfjndononaaDoor
