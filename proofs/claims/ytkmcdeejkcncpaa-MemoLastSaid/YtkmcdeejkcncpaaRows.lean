/-
  No cell of these rows narrows 'for every input' (looked for: loops, veiled, ifaces, maps, wideKeys, modest, calm, conditions, laid).
  DERIVED. THE GIVEN ROWS OF THIS SEAT. 3 by the template 'for every input the law returns true; each argument reads behind the call as it read before'; 0 by the template 'total and deterministic' (their statements: YtkmcdeejkcncpaaTotals.lean).
  GIVEN WITH THE SEED: the statements are not yours to turn. If you find one false, say at which input.
  Laid BY PROGRAM, IN A SANDBOX (cutbox-rows.mjs): the forced cells as the released guide's own fill.sh prints them over the translation cc4ce91d8450793e… (all of the seat's roots in one cut). By AI agents, Wed Nov 11 2026. No macro, syntax, notation, axiom, sorry.
-/
import Derived.Test.YtkmcdeejkcncpaaChecked
import GoSem.Claim
import GoSem.ClaimJoined
import GoSem.ClaimMapViews
import Derived.JoinedTies
import Derived.KernelRfl
namespace Go.Proofs.Ytkmcdeejkcncpaa
/- THE CELL 'sum', in the pinned program and in every row, IS THE sha256 OF THE DUMP (.gsa) THAT YtkmcdeejkcncpaaProg.lean LOADS. Nothing in Lean hashes anything: it is a label: what it is worth is what the hold of that sum in a sandbox is worth. -/
noncomputable def Try.pinned : Pinned := { name := "ytkmcdeejkcncpaa", sum := "cc4ce91d8450793edb44eb93feeb8bb230de9bc523e134dcd5c6b908cfeec2f5", checked := Try.checked }
namespace Rows
def none {H : Type} : Left H := { results := [], args := [] }

/-- 'gleaninglaw17.MemoLast': WHATEVER THE INPUT: true; the input reads as it did. -/
def memoLastSpec : ChangeSpec := { name := "memoLast", fn := fun _ => fun
  | [d1, d2, d3] => { results := [.lit (.bool true)], args := [d1, d2, d3] }
  | _ => none }
def memoLastRow : OpenClaim := { program := "ytkmcdeejkcncpaa", sum := "cc4ce91d8450793edb44eb93feeb8bb230de9bc523e134dcd5c6b908cfeec2f5", func := "gleaning/gleaninglaw17.MemoLast", spec := "memoLast", apart := false }
def MemoLastSaid : Prop := memoLastRow.holds Try.pinned (OpenSpec.ofChange memoLastSpec)

/-- ITS FALSE NEIGHBOUR: 'it returns false'. Refute it at one input. -/
def memoLastWrong : ChangeSpec := { name := "memoLast", fn := fun _ => fun
  | [d1, d2, d3] => { results := [.lit (.bool false)], args := [d1, d2, d3] }
  | _ => none }
def MemoLastWrongFalsely : Prop := memoLastRow.holds Try.pinned (OpenSpec.ofChange memoLastWrong)

/-- 'gleaninglaw15.EpisodeOnce': WHATEVER THE INPUT: true; the input reads as it did. -/
def episodeOnceSpec : ChangeSpec := { name := "episodeOnce", fn := fun _ => fun
  | [d1, d2, d3] => { results := [.lit (.bool true)], args := [d1, d2, d3] }
  | _ => none }
def episodeOnceRow : OpenClaim := { program := "ytkmcdeejkcncpaa", sum := "cc4ce91d8450793edb44eb93feeb8bb230de9bc523e134dcd5c6b908cfeec2f5", func := "gleaning/gleaninglaw15.EpisodeOnce", spec := "episodeOnce", apart := false }
def EpisodeOnceSaid : Prop := episodeOnceRow.holds Try.pinned (OpenSpec.ofChange episodeOnceSpec)

/-- ITS FALSE NEIGHBOUR: 'it returns false'. Refute it at one input. -/
def episodeOnceWrong : ChangeSpec := { name := "episodeOnce", fn := fun _ => fun
  | [d1, d2, d3] => { results := [.lit (.bool false)], args := [d1, d2, d3] }
  | _ => none }
def EpisodeOnceWrongFalsely : Prop := episodeOnceRow.holds Try.pinned (OpenSpec.ofChange episodeOnceWrong)

/-- 'gleaninglaw15.EpisodeJoins': WHATEVER THE INPUT: true; the input reads as it did. -/
def episodeJoinsSpec : ChangeSpec := { name := "episodeJoins", fn := fun _ => fun
  | [d1, d2, d3] => { results := [.lit (.bool true)], args := [d1, d2, d3] }
  | _ => none }
def episodeJoinsRow : OpenClaim := { program := "ytkmcdeejkcncpaa", sum := "cc4ce91d8450793edb44eb93feeb8bb230de9bc523e134dcd5c6b908cfeec2f5", func := "gleaning/gleaninglaw15.EpisodeJoins", spec := "episodeJoins", apart := false }
def EpisodeJoinsSaid : Prop := episodeJoinsRow.holds Try.pinned (OpenSpec.ofChange episodeJoinsSpec)

/-- ITS FALSE NEIGHBOUR: 'it returns false'. Refute it at one input. -/
def episodeJoinsWrong : ChangeSpec := { name := "episodeJoins", fn := fun _ => fun
  | [d1, d2, d3] => { results := [.lit (.bool false)], args := [d1, d2, d3] }
  | _ => none }
def EpisodeJoinsWrongFalsely : Prop := episodeJoinsRow.holds Try.pinned (OpenSpec.ofChange episodeJoinsWrong)

/- THE SECOND FORM. 'bulk': how many values and letters a reading holds, each counted each time it is reached (what is shared counts as often as it is met; a slice's spare places count too). A statement '..UptoSaid' is the law's where the arguments, and the package variables that the reading takes, are together of bulk at most 1048576: NARROWER than '..Said'. Prove '..Said' where nothing that the law and all that it calls make is longer than what came in: it says more and counts as full. Else prove '..UptoSaid'. A law counts once. -/
mutual
def uptoBulk {H : Type} : DataW H → Nat
  | .lit (.string bytes) => bytes.length + 1
  | .lit _ => 1
  | .nil => 1
  | .ptr d => uptoBulk d + 1
  | .slice elems spare => uptoBulkAll elems + uptoBulkAll spare + 1
  | .agg parts => uptoBulkAll parts + 1
  | .iface _ d => uptoBulk d + 1
  | .map entries => uptoBulkEntries entries + 1
  | .held _ => 1
def uptoBulkAll {H : Type} : List (DataW H) → Nat
  | [] => 0
  | d :: r => uptoBulk d + uptoBulkAll r
def uptoBulkEntries {H : Type} : List (Lit × DataW H) → Nat
  | [] => 0
  | x :: r => uptoBulkEntry x + uptoBulkEntries r
def uptoBulkEntry {H : Type} : Lit × DataW H → Nat
  | (.string bytes, d) => bytes.length + uptoBulk d + 1
  | (_, d) => uptoBulk d + 1
 end
def uptoSmall : (H : Type) → List (DataW H) → Bool := fun _ ds => decide (uptoBulkAll ds ≤ 1048576)
def OpenSpec.upto (s : _root_.Go.ChangeSpec) : _root_.Go.OpenSpec := { _root_.Go.OpenSpec.ofChange s with cond := some uptoSmall }

/-- 'gleaninglaw17.MemoLast', WHERE WHAT IT READS IS OF BULK AT MOST 1048576: true; the input reads as it did. -/
def memoLastUptoRow : OpenClaim := { program := "ytkmcdeejkcncpaa", sum := "cc4ce91d8450793edb44eb93feeb8bb230de9bc523e134dcd5c6b908cfeec2f5", func := "gleaning/gleaninglaw17.MemoLast", spec := "memoLast", apart := false, narrowed := true }
def MemoLastUptoSaid : Prop := memoLastUptoRow.holds Try.pinned (OpenSpec.upto memoLastSpec)

/-- 'gleaninglaw15.EpisodeOnce', WHERE WHAT IT READS IS OF BULK AT MOST 1048576: true; the input reads as it did. -/
def episodeOnceUptoRow : OpenClaim := { program := "ytkmcdeejkcncpaa", sum := "cc4ce91d8450793edb44eb93feeb8bb230de9bc523e134dcd5c6b908cfeec2f5", func := "gleaning/gleaninglaw15.EpisodeOnce", spec := "episodeOnce", apart := false, narrowed := true }
def EpisodeOnceUptoSaid : Prop := episodeOnceUptoRow.holds Try.pinned (OpenSpec.upto episodeOnceSpec)

/-- 'gleaninglaw15.EpisodeJoins', WHERE WHAT IT READS IS OF BULK AT MOST 1048576: true; the input reads as it did. -/
def episodeJoinsUptoRow : OpenClaim := { program := "ytkmcdeejkcncpaa", sum := "cc4ce91d8450793edb44eb93feeb8bb230de9bc523e134dcd5c6b908cfeec2f5", func := "gleaning/gleaninglaw15.EpisodeJoins", spec := "episodeJoins", apart := false, narrowed := true }
def EpisodeJoinsUptoSaid : Prop := episodeJoinsUptoRow.holds Try.pinned (OpenSpec.upto episodeJoinsSpec)

end Rows
end Go.Proofs.Ytkmcdeejkcncpaa
