/- What the code and the document write of a number, onto a row of one's own; a copy. -/
import Derived.Test.YtlpaaaiobclmoaaRows
import Derived.Test.YtlpaaaiobclmoaaBs
import Derived.Test.YtlpaaaiobclmoaaPl
namespace Go.Proofs.Ytlpaaaiobclmoaa
open Go.RowKit
theorem infoB : (Try.prog.info? 5).map (fun i => (i.zero, i.size, i.bytes)) = some (some (.int .u8 0), 1, 1) := by kernel_rfl

/-- append of bytes onto a row of one's own. -/
theorem appB {w : World} {ty : TypeId} {base : Nat} {v : Value} {k : List UInt8} (hown : w.ownsRow base 5 1 v k.length (k.map B8)) {B : Nat} {A : Option Addr} {l : List UInt8} {c : Nat} (hr : Rd w B A (l.map B8))
    (hl : k.length + l.length ≤ 4294967296) (hbase : base ≤ w.heap.size) :
    ∃ v' w', (Builtin.append_ #[29, 29] ty #[v, .slice A l.length c]).run Try.prog w = .ok v' w' ∧ (w'.ownsRow base 5 1 v' (k ++ l).length ((k ++ l).map B8) ∧ Grew w w' v v') := by
  obtain ⟨i0, hi, hz0, hz1, hz2⟩ := info_parts infoB
  obtain ⟨v', w', h1, h2, h3⟩ := run_append_rd (P := Try.prog) w base 29 ty 5 i0 _ 1 1 Try.underlying29 hi hz0 hz1 hz2 rfl v k.length (k.map B8) hown B A l.length c (l.map B8) (by simp) hr (by simp [B8, Value.oneCell']) (by unfold maxLen; omega) (by omega) hbase
  exact ⟨v', w', h1, by rw [List.length_append, List.map_append]; exact h2, h3⟩
theorem own_nil (w : World) (base : Nat) : w.ownsRow base 5 1 (.slice none 0 0) ([] : List UInt8).length (([] : List UInt8).map B8) := World.ownsRow_nil _ _ _ _

set_option maxHeartbeats 1000000 in
theorem clone_calls (A : Option Addr) (l : List UInt8) (c B : Nat) (w : World) (hb : Rd w B A (l.map B8)) (hB : B ≤ w.heap.size) (hl : l.length ≤ 4294967296) :
    Calls Try.prog 44 #[.slice A l.length c] w fun e w' => ∃ v', e = .returned v' ∧ w'.ownsRow w.heap.size 5 1 v' l.length (l.map B8) ∧ Grew w w' (.slice none 0 0) v' := by
  obtain ⟨i0, hi, hz0, hz1, hz2⟩ := info_parts infoB
  have heq := fun (W : World) (A' : Option Addr) (n' c' : Nat) => Lib.run_eql_slice_nil (P := Try.prog) W 29 5 A' n' c' 0 0 Try.underlying29
  rcases A with _ | a
  · have hn : l = [] := by
      rcases l with _ | ⟨x, r⟩
      · rfl
      · obtain ⟨a, h, _⟩ := hb (by simp); cases h
    subst hn
    go_enter Try.func44, Try.ntmps44
    go_wp2
    go_ret
    exact ⟨_, rfl, World.ownsRow_nil _ _ _ _, Grew.refl _ _⟩
  · have HB := Lib.hid hb
    clear hb
    go_enter Try.func44, Try.ntmps44
    go_wp2_with (at_builtin; refine wpList_app rfl (.tmp 5) (.tmp 6) _ _ rfl rfl rfl (run_append_rd _ w.heap.size _ _ 5 i0 _ 1 1 Try.underlying29 hi hz0 hz1 hz2 rfl (.slice (some ⟨w.heap.size, 0, none⟩) 0 0) 0 [] (World.ownsRow_lit w #[] 0 (Nat.le_refl _) (by unfold maxLen; omega) rfl) B (some a) l.length c (l.map B8) (by simp) (HB.out.alloc hB _) (by simp [B8, Value.oneCell']) (by unfold maxLen; omega) (by omega) (by simp)) ?_; rintro v1 w1 ⟨ho1, hg1⟩)
    go_ret
    refine ⟨v1, rfl, by simpa using ho1, ?_⟩
    have hg2 := hg1.alloc
    refine ⟨⟨hg2.grown.os, hg2.grown.tape, hg2.grown.output, hg2.grown.size, fun i hi _ => hg2.grown.block i hi ?_⟩, ?_⟩
    · simp [Value.ownBlock]; omega
    · rcases hg2.blk with e | ⟨g, e, hg⟩
      · exact .inr ⟨_, e, Nat.le_refl _⟩
      · exact .inr ⟨g, e, hg⟩

end Go.Proofs.Ytlpaaaiobclmoaa
