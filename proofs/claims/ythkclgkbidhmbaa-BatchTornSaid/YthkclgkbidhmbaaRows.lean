/-
  No cell of these rows narrows 'for every input' (looked for: loops, veiled, ifaces, maps, wideKeys, modest, calm, conditions, laid).
  DERIVED. THE GIVEN ROWS OF THIS SEAT. 12 by the template 'for every input the law returns true; each argument reads behind the call as it read before'; 0 by the template 'total and deterministic' (their statements: YthkclgkbidhmbaaTotals.lean).
  GIVEN WITH THE SEED: the statements are not yours to turn. If you find one false, say at which input.
  Laid BY PROGRAM, IN A SANDBOX (cutbox-rows.mjs): the forced cells as the released guide's own fill.sh prints them over the translation 9fd841be7c87a700… (all of the seat's roots in one cut). By AI agents, Wed Nov 11 2026. No macro, syntax, notation, axiom, sorry.
-/
import Derived.Test.YthkclgkbidhmbaaChecked
import GoSem.Claim
import GoSem.ClaimJoined
import GoSem.ClaimMapViews
import Derived.JoinedTies
import Derived.KernelRfl
namespace Go.Proofs.Ythkclgkbidhmbaa
/- THE CELL 'sum', in the pinned program and in every row, IS THE sha256 OF THE DUMP (.gsa) THAT YthkclgkbidhmbaaProg.lean LOADS. Nothing in Lean hashes anything: it is a label: what it is worth is what the hold of that sum in a sandbox is worth. -/
noncomputable def Try.pinned : Pinned := { name := "ythkclgkbidhmbaa", sum := "9fd841be7c87a70030a1ad4a7127c8df7040088d6fb9ab0c9b62525bd565d5d0", checked := Try.checked }
namespace Rows
def none {H : Type} : Left H := { results := [], args := [] }

/-- 'gleaninglaw1.IntsTell': WHATEVER THE INPUT: true; the input reads as it did. -/
def intsTellSpec : ChangeSpec := { name := "intsTell", fn := fun _ => fun
  | [d1, d2, d3] => { results := [.lit (.bool true)], args := [d1, d2, d3] }
  | _ => none }
def intsTellRow : OpenClaim := { program := "ythkclgkbidhmbaa", sum := "9fd841be7c87a70030a1ad4a7127c8df7040088d6fb9ab0c9b62525bd565d5d0", func := "gleaning/gleaninglaw1.IntsTell", spec := "intsTell", apart := false }
def IntsTellSaid : Prop := intsTellRow.holds Try.pinned (OpenSpec.ofChange intsTellSpec)

/-- ITS FALSE NEIGHBOUR: 'it returns false'. Refute it at one input. -/
def intsTellWrong : ChangeSpec := { name := "intsTell", fn := fun _ => fun
  | [d1, d2, d3] => { results := [.lit (.bool false)], args := [d1, d2, d3] }
  | _ => none }
def IntsTellWrongFalsely : Prop := intsTellRow.holds Try.pinned (OpenSpec.ofChange intsTellWrong)

/-- 'gleaninglaw3.SpanTells': WHATEVER THE INPUT: true; the input reads as it did. -/
def spanTellsSpec : ChangeSpec := { name := "spanTells", fn := fun _ => fun
  | [d1, d2, d3] => { results := [.lit (.bool true)], args := [d1, d2, d3] }
  | _ => none }
def spanTellsRow : OpenClaim := { program := "ythkclgkbidhmbaa", sum := "9fd841be7c87a70030a1ad4a7127c8df7040088d6fb9ab0c9b62525bd565d5d0", func := "gleaning/gleaninglaw3.SpanTells", spec := "spanTells", apart := false }
def SpanTellsSaid : Prop := spanTellsRow.holds Try.pinned (OpenSpec.ofChange spanTellsSpec)

/-- ITS FALSE NEIGHBOUR: 'it returns false'. Refute it at one input. -/
def spanTellsWrong : ChangeSpec := { name := "spanTells", fn := fun _ => fun
  | [d1, d2, d3] => { results := [.lit (.bool false)], args := [d1, d2, d3] }
  | _ => none }
def SpanTellsWrongFalsely : Prop := spanTellsRow.holds Try.pinned (OpenSpec.ofChange spanTellsWrong)

/-- 'gleaninglaw3.SpanBack': WHATEVER THE INPUT: true; the input reads as it did. -/
def spanBackSpec : ChangeSpec := { name := "spanBack", fn := fun _ => fun
  | [d1, d2, d3] => { results := [.lit (.bool true)], args := [d1, d2, d3] }
  | _ => none }
def spanBackRow : OpenClaim := { program := "ythkclgkbidhmbaa", sum := "9fd841be7c87a70030a1ad4a7127c8df7040088d6fb9ab0c9b62525bd565d5d0", func := "gleaning/gleaninglaw3.SpanBack", spec := "spanBack", apart := false }
def SpanBackSaid : Prop := spanBackRow.holds Try.pinned (OpenSpec.ofChange spanBackSpec)

/-- ITS FALSE NEIGHBOUR: 'it returns false'. Refute it at one input. -/
def spanBackWrong : ChangeSpec := { name := "spanBack", fn := fun _ => fun
  | [d1, d2, d3] => { results := [.lit (.bool false)], args := [d1, d2, d3] }
  | _ => none }
def SpanBackWrongFalsely : Prop := spanBackRow.holds Try.pinned (OpenSpec.ofChange spanBackWrong)

/-- 'gleaninglaw3.SpanLimits': WHATEVER THE INPUT: true; the input reads as it did. -/
def spanLimitsSpec : ChangeSpec := { name := "spanLimits", fn := fun _ => fun
  | [d1, d2] => { results := [.lit (.bool true)], args := [d1, d2] }
  | _ => none }
def spanLimitsRow : OpenClaim := { program := "ythkclgkbidhmbaa", sum := "9fd841be7c87a70030a1ad4a7127c8df7040088d6fb9ab0c9b62525bd565d5d0", func := "gleaning/gleaninglaw3.SpanLimits", spec := "spanLimits", apart := false }
def SpanLimitsSaid : Prop := spanLimitsRow.holds Try.pinned (OpenSpec.ofChange spanLimitsSpec)

/-- ITS FALSE NEIGHBOUR: 'it returns false'. Refute it at one input. -/
def spanLimitsWrong : ChangeSpec := { name := "spanLimits", fn := fun _ => fun
  | [d1, d2] => { results := [.lit (.bool false)], args := [d1, d2] }
  | _ => none }
def SpanLimitsWrongFalsely : Prop := spanLimitsRow.holds Try.pinned (OpenSpec.ofChange spanLimitsWrong)

/-- 'gleaninglaw3.SpanApart': WHATEVER THE INPUT: true; the input reads as it did. -/
def spanApartSpec : ChangeSpec := { name := "spanApart", fn := fun _ => fun
  | [d1, d2] => { results := [.lit (.bool true)], args := [d1, d2] }
  | _ => none }
def spanApartRow : OpenClaim := { program := "ythkclgkbidhmbaa", sum := "9fd841be7c87a70030a1ad4a7127c8df7040088d6fb9ab0c9b62525bd565d5d0", func := "gleaning/gleaninglaw3.SpanApart", spec := "spanApart", apart := false }
def SpanApartSaid : Prop := spanApartRow.holds Try.pinned (OpenSpec.ofChange spanApartSpec)

/-- ITS FALSE NEIGHBOUR: 'it returns false'. Refute it at one input. -/
def spanApartWrong : ChangeSpec := { name := "spanApart", fn := fun _ => fun
  | [d1, d2] => { results := [.lit (.bool false)], args := [d1, d2] }
  | _ => none }
def SpanApartWrongFalsely : Prop := spanApartRow.holds Try.pinned (OpenSpec.ofChange spanApartWrong)

/-- 'gleaninglaw14.JudgeHash': WHATEVER THE INPUT: true; the input reads as it did. -/
def judgeHashSpec : ChangeSpec := { name := "judgeHash", fn := fun _ => fun
  | [d1, d2, d3, d4] => { results := [.lit (.bool true)], args := [d1, d2, d3, d4] }
  | _ => none }
def judgeHashRow : OpenClaim := { program := "ythkclgkbidhmbaa", sum := "9fd841be7c87a70030a1ad4a7127c8df7040088d6fb9ab0c9b62525bd565d5d0", func := "gleaning/gleaninglaw14.JudgeHash", spec := "judgeHash", recurses := true, apart := false }
def JudgeHashSaid : Prop := judgeHashRow.holds Try.pinned (OpenSpec.ofChange judgeHashSpec)

/-- ITS FALSE NEIGHBOUR: 'it returns false'. Refute it at one input. -/
def judgeHashWrong : ChangeSpec := { name := "judgeHash", fn := fun _ => fun
  | [d1, d2, d3, d4] => { results := [.lit (.bool false)], args := [d1, d2, d3, d4] }
  | _ => none }
def JudgeHashWrongFalsely : Prop := judgeHashRow.holds Try.pinned (OpenSpec.ofChange judgeHashWrong)

/-- 'gleaninglaw15.EpisodeOnce': WHATEVER THE INPUT: true; the input reads as it did. -/
def episodeOnceSpec : ChangeSpec := { name := "episodeOnce", fn := fun _ => fun
  | [d1, d2, d3] => { results := [.lit (.bool true)], args := [d1, d2, d3] }
  | _ => none }
def episodeOnceRow : OpenClaim := { program := "ythkclgkbidhmbaa", sum := "9fd841be7c87a70030a1ad4a7127c8df7040088d6fb9ab0c9b62525bd565d5d0", func := "gleaning/gleaninglaw15.EpisodeOnce", spec := "episodeOnce", apart := false }
def EpisodeOnceSaid : Prop := episodeOnceRow.holds Try.pinned (OpenSpec.ofChange episodeOnceSpec)

/-- ITS FALSE NEIGHBOUR: 'it returns false'. Refute it at one input. -/
def episodeOnceWrong : ChangeSpec := { name := "episodeOnce", fn := fun _ => fun
  | [d1, d2, d3] => { results := [.lit (.bool false)], args := [d1, d2, d3] }
  | _ => none }
def EpisodeOnceWrongFalsely : Prop := episodeOnceRow.holds Try.pinned (OpenSpec.ofChange episodeOnceWrong)

/-- 'gleaninglaw15.EpisodeJoins': WHATEVER THE INPUT: true; the input reads as it did. -/
def episodeJoinsSpec : ChangeSpec := { name := "episodeJoins", fn := fun _ => fun
  | [d1, d2, d3] => { results := [.lit (.bool true)], args := [d1, d2, d3] }
  | _ => none }
def episodeJoinsRow : OpenClaim := { program := "ythkclgkbidhmbaa", sum := "9fd841be7c87a70030a1ad4a7127c8df7040088d6fb9ab0c9b62525bd565d5d0", func := "gleaning/gleaninglaw15.EpisodeJoins", spec := "episodeJoins", apart := false }
def EpisodeJoinsSaid : Prop := episodeJoinsRow.holds Try.pinned (OpenSpec.ofChange episodeJoinsSpec)

/-- ITS FALSE NEIGHBOUR: 'it returns false'. Refute it at one input. -/
def episodeJoinsWrong : ChangeSpec := { name := "episodeJoins", fn := fun _ => fun
  | [d1, d2, d3] => { results := [.lit (.bool false)], args := [d1, d2, d3] }
  | _ => none }
def EpisodeJoinsWrongFalsely : Prop := episodeJoinsRow.holds Try.pinned (OpenSpec.ofChange episodeJoinsWrong)

/-- 'gleaninglaw16.BufferOnce': WHATEVER THE INPUT: true; the input reads as it did. -/
def bufferOnceSpec : ChangeSpec := { name := "bufferOnce", fn := fun _ => fun
  | [d1, d2] => { results := [.lit (.bool true)], args := [d1, d2] }
  | _ => none }
def bufferOnceRow : OpenClaim := { program := "ythkclgkbidhmbaa", sum := "9fd841be7c87a70030a1ad4a7127c8df7040088d6fb9ab0c9b62525bd565d5d0", func := "gleaning/gleaninglaw16.BufferOnce", spec := "bufferOnce", apart := false }
def BufferOnceSaid : Prop := bufferOnceRow.holds Try.pinned (OpenSpec.ofChange bufferOnceSpec)

/-- ITS FALSE NEIGHBOUR: 'it returns false'. Refute it at one input. -/
def bufferOnceWrong : ChangeSpec := { name := "bufferOnce", fn := fun _ => fun
  | [d1, d2] => { results := [.lit (.bool false)], args := [d1, d2] }
  | _ => none }
def BufferOnceWrongFalsely : Prop := bufferOnceRow.holds Try.pinned (OpenSpec.ofChange bufferOnceWrong)

/-- 'gleaninglaw4.BatchTells': WHATEVER THE INPUT: true; the input reads as it did. -/
def batchTellsSpec : ChangeSpec := { name := "batchTells", fn := fun _ => fun
  | [d1, d2] => { results := [.lit (.bool true)], args := [d1, d2] }
  | _ => none }
def batchTellsRow : OpenClaim := { program := "ythkclgkbidhmbaa", sum := "9fd841be7c87a70030a1ad4a7127c8df7040088d6fb9ab0c9b62525bd565d5d0", func := "gleaning/gleaninglaw4.BatchTells", spec := "batchTells", apart := false }
def BatchTellsSaid : Prop := batchTellsRow.holds Try.pinned (OpenSpec.ofChange batchTellsSpec)

/-- ITS FALSE NEIGHBOUR: 'it returns false'. Refute it at one input. -/
def batchTellsWrong : ChangeSpec := { name := "batchTells", fn := fun _ => fun
  | [d1, d2] => { results := [.lit (.bool false)], args := [d1, d2] }
  | _ => none }
def BatchTellsWrongFalsely : Prop := batchTellsRow.holds Try.pinned (OpenSpec.ofChange batchTellsWrong)

/-- 'gleaninglaw4.BatchTorn': WHATEVER THE INPUT: true; the input reads as it did. -/
def batchTornSpec : ChangeSpec := { name := "batchTorn", fn := fun _ => fun
  | [d1, d2, d3] => { results := [.lit (.bool true)], args := [d1, d2, d3] }
  | _ => none }
def batchTornRow : OpenClaim := { program := "ythkclgkbidhmbaa", sum := "9fd841be7c87a70030a1ad4a7127c8df7040088d6fb9ab0c9b62525bd565d5d0", func := "gleaning/gleaninglaw4.BatchTorn", spec := "batchTorn", apart := false }
def BatchTornSaid : Prop := batchTornRow.holds Try.pinned (OpenSpec.ofChange batchTornSpec)

/-- ITS FALSE NEIGHBOUR: 'it returns false'. Refute it at one input. -/
def batchTornWrong : ChangeSpec := { name := "batchTorn", fn := fun _ => fun
  | [d1, d2, d3] => { results := [.lit (.bool false)], args := [d1, d2, d3] }
  | _ => none }
def BatchTornWrongFalsely : Prop := batchTornRow.holds Try.pinned (OpenSpec.ofChange batchTornWrong)

/-- 'gleaninglaw4.BatchLimits': WHATEVER THE INPUT: true; the input reads as it did. -/
def batchLimitsSpec : ChangeSpec := { name := "batchLimits", fn := fun _ => fun
  | [d1, d2, d3] => { results := [.lit (.bool true)], args := [d1, d2, d3] }
  | _ => none }
def batchLimitsRow : OpenClaim := { program := "ythkclgkbidhmbaa", sum := "9fd841be7c87a70030a1ad4a7127c8df7040088d6fb9ab0c9b62525bd565d5d0", func := "gleaning/gleaninglaw4.BatchLimits", spec := "batchLimits", apart := false }
def BatchLimitsSaid : Prop := batchLimitsRow.holds Try.pinned (OpenSpec.ofChange batchLimitsSpec)

/-- ITS FALSE NEIGHBOUR: 'it returns false'. Refute it at one input. -/
def batchLimitsWrong : ChangeSpec := { name := "batchLimits", fn := fun _ => fun
  | [d1, d2, d3] => { results := [.lit (.bool false)], args := [d1, d2, d3] }
  | _ => none }
def BatchLimitsWrongFalsely : Prop := batchLimitsRow.holds Try.pinned (OpenSpec.ofChange batchLimitsWrong)

/- THE SECOND FORM. 'bulk': how many values and letters a reading holds, each counted each time it is reached (what is shared counts as often as it is met; a slice's spare places count too). A statement '..UptoSaid' is the law's where the arguments, and the package variables that the reading takes, are together of bulk at most 1048576: NARROWER than '..Said'. Prove '..Said' where nothing that the law and all that it calls make is longer than what came in: it says more and counts as full. Else prove '..UptoSaid'. A law counts once. -/
mutual
def uptoBulk {H : Type} : DataW H → Nat
  | .lit (.string bytes) => bytes.length + 1
  | .lit _ => 1
  | .nil => 1
  | .ptr d => uptoBulk d + 1
  | .slice elems spare => uptoBulkAll elems + uptoBulkAll spare + 1
  | .agg parts => uptoBulkAll parts + 1
  | .iface _ d => uptoBulk d + 1
  | .map entries => uptoBulkEntries entries + 1
  | .held _ => 1
def uptoBulkAll {H : Type} : List (DataW H) → Nat
  | [] => 0
  | d :: r => uptoBulk d + uptoBulkAll r
def uptoBulkEntries {H : Type} : List (Lit × DataW H) → Nat
  | [] => 0
  | x :: r => uptoBulkEntry x + uptoBulkEntries r
def uptoBulkEntry {H : Type} : Lit × DataW H → Nat
  | (.string bytes, d) => bytes.length + uptoBulk d + 1
  | (_, d) => uptoBulk d + 1
 end
def uptoSmall : (H : Type) → List (DataW H) → Bool := fun _ ds => decide (uptoBulkAll ds ≤ 1048576)
def OpenSpec.upto (s : _root_.Go.ChangeSpec) : _root_.Go.OpenSpec := { _root_.Go.OpenSpec.ofChange s with cond := some uptoSmall }

/-- 'gleaninglaw1.IntsTell', WHERE WHAT IT READS IS OF BULK AT MOST 1048576: true; the input reads as it did. -/
def intsTellUptoRow : OpenClaim := { program := "ythkclgkbidhmbaa", sum := "9fd841be7c87a70030a1ad4a7127c8df7040088d6fb9ab0c9b62525bd565d5d0", func := "gleaning/gleaninglaw1.IntsTell", spec := "intsTell", apart := false, narrowed := true }
def IntsTellUptoSaid : Prop := intsTellUptoRow.holds Try.pinned (OpenSpec.upto intsTellSpec)

/-- 'gleaninglaw3.SpanTells', WHERE WHAT IT READS IS OF BULK AT MOST 1048576: true; the input reads as it did. -/
def spanTellsUptoRow : OpenClaim := { program := "ythkclgkbidhmbaa", sum := "9fd841be7c87a70030a1ad4a7127c8df7040088d6fb9ab0c9b62525bd565d5d0", func := "gleaning/gleaninglaw3.SpanTells", spec := "spanTells", apart := false, narrowed := true }
def SpanTellsUptoSaid : Prop := spanTellsUptoRow.holds Try.pinned (OpenSpec.upto spanTellsSpec)

/-- 'gleaninglaw3.SpanBack', WHERE WHAT IT READS IS OF BULK AT MOST 1048576: true; the input reads as it did. -/
def spanBackUptoRow : OpenClaim := { program := "ythkclgkbidhmbaa", sum := "9fd841be7c87a70030a1ad4a7127c8df7040088d6fb9ab0c9b62525bd565d5d0", func := "gleaning/gleaninglaw3.SpanBack", spec := "spanBack", apart := false, narrowed := true }
def SpanBackUptoSaid : Prop := spanBackUptoRow.holds Try.pinned (OpenSpec.upto spanBackSpec)

/-- 'gleaninglaw3.SpanLimits', WHERE WHAT IT READS IS OF BULK AT MOST 1048576: true; the input reads as it did. -/
def spanLimitsUptoRow : OpenClaim := { program := "ythkclgkbidhmbaa", sum := "9fd841be7c87a70030a1ad4a7127c8df7040088d6fb9ab0c9b62525bd565d5d0", func := "gleaning/gleaninglaw3.SpanLimits", spec := "spanLimits", apart := false, narrowed := true }
def SpanLimitsUptoSaid : Prop := spanLimitsUptoRow.holds Try.pinned (OpenSpec.upto spanLimitsSpec)

/-- 'gleaninglaw3.SpanApart', WHERE WHAT IT READS IS OF BULK AT MOST 1048576: true; the input reads as it did. -/
def spanApartUptoRow : OpenClaim := { program := "ythkclgkbidhmbaa", sum := "9fd841be7c87a70030a1ad4a7127c8df7040088d6fb9ab0c9b62525bd565d5d0", func := "gleaning/gleaninglaw3.SpanApart", spec := "spanApart", apart := false, narrowed := true }
def SpanApartUptoSaid : Prop := spanApartUptoRow.holds Try.pinned (OpenSpec.upto spanApartSpec)

/-- 'gleaninglaw14.JudgeHash', WHERE WHAT IT READS IS OF BULK AT MOST 1048576: true; the input reads as it did. -/
def judgeHashUptoRow : OpenClaim := { program := "ythkclgkbidhmbaa", sum := "9fd841be7c87a70030a1ad4a7127c8df7040088d6fb9ab0c9b62525bd565d5d0", func := "gleaning/gleaninglaw14.JudgeHash", spec := "judgeHash", recurses := true, apart := false, narrowed := true }
def JudgeHashUptoSaid : Prop := judgeHashUptoRow.holds Try.pinned (OpenSpec.upto judgeHashSpec)

/-- 'gleaninglaw15.EpisodeOnce', WHERE WHAT IT READS IS OF BULK AT MOST 1048576: true; the input reads as it did. -/
def episodeOnceUptoRow : OpenClaim := { program := "ythkclgkbidhmbaa", sum := "9fd841be7c87a70030a1ad4a7127c8df7040088d6fb9ab0c9b62525bd565d5d0", func := "gleaning/gleaninglaw15.EpisodeOnce", spec := "episodeOnce", apart := false, narrowed := true }
def EpisodeOnceUptoSaid : Prop := episodeOnceUptoRow.holds Try.pinned (OpenSpec.upto episodeOnceSpec)

/-- 'gleaninglaw15.EpisodeJoins', WHERE WHAT IT READS IS OF BULK AT MOST 1048576: true; the input reads as it did. -/
def episodeJoinsUptoRow : OpenClaim := { program := "ythkclgkbidhmbaa", sum := "9fd841be7c87a70030a1ad4a7127c8df7040088d6fb9ab0c9b62525bd565d5d0", func := "gleaning/gleaninglaw15.EpisodeJoins", spec := "episodeJoins", apart := false, narrowed := true }
def EpisodeJoinsUptoSaid : Prop := episodeJoinsUptoRow.holds Try.pinned (OpenSpec.upto episodeJoinsSpec)

/-- 'gleaninglaw16.BufferOnce', WHERE WHAT IT READS IS OF BULK AT MOST 1048576: true; the input reads as it did. -/
def bufferOnceUptoRow : OpenClaim := { program := "ythkclgkbidhmbaa", sum := "9fd841be7c87a70030a1ad4a7127c8df7040088d6fb9ab0c9b62525bd565d5d0", func := "gleaning/gleaninglaw16.BufferOnce", spec := "bufferOnce", apart := false, narrowed := true }
def BufferOnceUptoSaid : Prop := bufferOnceUptoRow.holds Try.pinned (OpenSpec.upto bufferOnceSpec)

/-- 'gleaninglaw4.BatchTells', WHERE WHAT IT READS IS OF BULK AT MOST 1048576: true; the input reads as it did. -/
def batchTellsUptoRow : OpenClaim := { program := "ythkclgkbidhmbaa", sum := "9fd841be7c87a70030a1ad4a7127c8df7040088d6fb9ab0c9b62525bd565d5d0", func := "gleaning/gleaninglaw4.BatchTells", spec := "batchTells", apart := false, narrowed := true }
def BatchTellsUptoSaid : Prop := batchTellsUptoRow.holds Try.pinned (OpenSpec.upto batchTellsSpec)

/-- 'gleaninglaw4.BatchTorn', WHERE WHAT IT READS IS OF BULK AT MOST 1048576: true; the input reads as it did. -/
def batchTornUptoRow : OpenClaim := { program := "ythkclgkbidhmbaa", sum := "9fd841be7c87a70030a1ad4a7127c8df7040088d6fb9ab0c9b62525bd565d5d0", func := "gleaning/gleaninglaw4.BatchTorn", spec := "batchTorn", apart := false, narrowed := true }
def BatchTornUptoSaid : Prop := batchTornUptoRow.holds Try.pinned (OpenSpec.upto batchTornSpec)

/-- 'gleaninglaw4.BatchLimits', WHERE WHAT IT READS IS OF BULK AT MOST 1048576: true; the input reads as it did. -/
def batchLimitsUptoRow : OpenClaim := { program := "ythkclgkbidhmbaa", sum := "9fd841be7c87a70030a1ad4a7127c8df7040088d6fb9ab0c9b62525bd565d5d0", func := "gleaning/gleaninglaw4.BatchLimits", spec := "batchLimits", apart := false, narrowed := true }
def BatchLimitsUptoSaid : Prop := batchLimitsUptoRow.holds Try.pinned (OpenSpec.upto batchLimitsSpec)

end Rows
end Go.Proofs.Ythkclgkbidhmbaa
