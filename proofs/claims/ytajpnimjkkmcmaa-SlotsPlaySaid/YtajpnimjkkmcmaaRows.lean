/-
  NARROWER THAN 'FOR EVERY INPUT', by the rows' own cells (each row's printed sentence says how): RuleTells: loops · RuleTorn: loops.
  DERIVED. THE GIVEN ROWS OF THIS SEAT. 9 by the template 'for every input the law returns true; each argument reads behind the call as it read before'; 0 by the template 'total and deterministic' (their statements: YtajpnimjkkmcmaaTotals.lean).
  GIVEN WITH THE SEED: the statements are not yours to turn. If you find one false, say at which input.
  Laid BY PROGRAM, IN A SANDBOX (cutbox-rows.mjs): the forced cells as the released guide's own fill.sh prints them over the translation 481f81ca8d4d27d3… (all of the seat's roots in one cut). By AI agents, Wed Nov 11 2026. No macro, syntax, notation, axiom, sorry.
-/
import Derived.Test.YtajpnimjkkmcmaaChecked
import GoSem.Claim
import GoSem.ClaimJoined
import GoSem.ClaimMapViews
import Derived.JoinedTies
import Derived.KernelRfl
namespace Go.Proofs.Ytajpnimjkkmcmaa
/- THE CELL 'sum', in the pinned program and in every row, IS THE sha256 OF THE DUMP (.gsa) THAT YtajpnimjkkmcmaaProg.lean LOADS. Nothing in Lean hashes anything: it is a label: what it is worth is what the hold of that sum in a sandbox is worth. -/
noncomputable def Try.pinned : Pinned := { name := "ytajpnimjkkmcmaa", sum := "481f81ca8d4d27d3265af4c66f4de1d82e511800bff7a748e72b204109fc1e9a", checked := Try.checked }
namespace Rows
def none {H : Type} : Left H := { results := [], args := [] }

/-- 'gleaninglaw12.SlotsPlay': WHATEVER THE INPUT: true; the input reads as it did. -/
def slotsPlaySpec : ChangeSpec := { name := "slotsPlay", fn := fun _ => fun
  | [d1, d2, d3] => { results := [.lit (.bool true)], args := [d1, d2, d3] }
  | _ => none }
def slotsPlayRow : OpenClaim := { program := "ytajpnimjkkmcmaa", sum := "481f81ca8d4d27d3265af4c66f4de1d82e511800bff7a748e72b204109fc1e9a", func := "gleaning/gleaninglaw12.SlotsPlay", spec := "slotsPlay", inPlace := ["internal/bytealg.abigen_runtime_cmpstring", "slices.overlaps[gleaning/api.Exemplar]"], plainKeys := false, apart := false }
def SlotsPlaySaid : Prop := slotsPlayRow.holds Try.pinned (OpenSpec.ofChange slotsPlaySpec)

/-- ITS FALSE NEIGHBOUR: 'it returns false'. Refute it at one input. -/
def slotsPlayWrong : ChangeSpec := { name := "slotsPlay", fn := fun _ => fun
  | [d1, d2, d3] => { results := [.lit (.bool false)], args := [d1, d2, d3] }
  | _ => none }
def SlotsPlayWrongFalsely : Prop := slotsPlayRow.holds Try.pinned (OpenSpec.ofChange slotsPlayWrong)

/-- 'gleaninglaw12.SlotsNew': WHATEVER THE INPUT: true; the input reads as it did. -/
def slotsNewSpec : ChangeSpec := { name := "slotsNew", fn := fun _ => fun
  | [d1, d2] => { results := [.lit (.bool true)], args := [d1, d2] }
  | _ => none }
def slotsNewRow : OpenClaim := { program := "ytajpnimjkkmcmaa", sum := "481f81ca8d4d27d3265af4c66f4de1d82e511800bff7a748e72b204109fc1e9a", func := "gleaning/gleaninglaw12.SlotsNew", spec := "slotsNew", inPlace := ["internal/bytealg.abigen_runtime_cmpstring", "slices.overlaps[gleaning/api.Exemplar]"], plainKeys := false, apart := false }
def SlotsNewSaid : Prop := slotsNewRow.holds Try.pinned (OpenSpec.ofChange slotsNewSpec)

/-- ITS FALSE NEIGHBOUR: 'it returns false'. Refute it at one input. -/
def slotsNewWrong : ChangeSpec := { name := "slotsNew", fn := fun _ => fun
  | [d1, d2] => { results := [.lit (.bool false)], args := [d1, d2] }
  | _ => none }
def SlotsNewWrongFalsely : Prop := slotsNewRow.holds Try.pinned (OpenSpec.ofChange slotsNewWrong)

/-- 'gleaninglaw12.SlotsGone': WHATEVER THE INPUT: true; the input reads as it did. -/
def slotsGoneSpec : ChangeSpec := { name := "slotsGone", fn := fun _ => fun
  | [d1, d2, d3] => { results := [.lit (.bool true)], args := [d1, d2, d3] }
  | _ => none }
def slotsGoneRow : OpenClaim := { program := "ytajpnimjkkmcmaa", sum := "481f81ca8d4d27d3265af4c66f4de1d82e511800bff7a748e72b204109fc1e9a", func := "gleaning/gleaninglaw12.SlotsGone", spec := "slotsGone", inPlace := ["internal/bytealg.abigen_runtime_cmpstring", "slices.overlaps[gleaning/api.Exemplar]"], plainKeys := false, apart := false }
def SlotsGoneSaid : Prop := slotsGoneRow.holds Try.pinned (OpenSpec.ofChange slotsGoneSpec)

/-- ITS FALSE NEIGHBOUR: 'it returns false'. Refute it at one input. -/
def slotsGoneWrong : ChangeSpec := { name := "slotsGone", fn := fun _ => fun
  | [d1, d2, d3] => { results := [.lit (.bool false)], args := [d1, d2, d3] }
  | _ => none }
def SlotsGoneWrongFalsely : Prop := slotsGoneRow.holds Try.pinned (OpenSpec.ofChange slotsGoneWrong)

/-- 'gleaninglaw13.RuleTells': WHATEVER THE INPUT: true; the input reads as it did. -/
def ruleTellsSpec : ChangeSpec := { name := "ruleTells", fn := fun _ => fun
  | [d1, d2, d3] => { results := [.lit (.bool true)], args := [d1, d2, d3] }
  | _ => none }
def ruleTellsRow : OpenClaim := { program := "ytajpnimjkkmcmaa", sum := "481f81ca8d4d27d3265af4c66f4de1d82e511800bff7a748e72b204109fc1e9a", func := "gleaning/gleaninglaw13.RuleTells", spec := "ruleTells", recurses := true, loops := true, plainKeys := false, apart := false }
def RuleTellsSaid : Prop := ruleTellsRow.holds Try.pinned (OpenSpec.ofChange ruleTellsSpec)

/-- ITS FALSE NEIGHBOUR: 'it returns false'. Refute it at one input. -/
def ruleTellsWrong : ChangeSpec := { name := "ruleTells", fn := fun _ => fun
  | [d1, d2, d3] => { results := [.lit (.bool false)], args := [d1, d2, d3] }
  | _ => none }
def RuleTellsWrongFalsely : Prop := ruleTellsRow.holds Try.pinned (OpenSpec.ofChange ruleTellsWrong)

/-- 'gleaninglaw13.RuleTorn': WHATEVER THE INPUT: true; the input reads as it did. -/
def ruleTornSpec : ChangeSpec := { name := "ruleTorn", fn := fun _ => fun
  | [d1, d2] => { results := [.lit (.bool true)], args := [d1, d2] }
  | _ => none }
def ruleTornRow : OpenClaim := { program := "ytajpnimjkkmcmaa", sum := "481f81ca8d4d27d3265af4c66f4de1d82e511800bff7a748e72b204109fc1e9a", func := "gleaning/gleaninglaw13.RuleTorn", spec := "ruleTorn", recurses := true, loops := true, plainKeys := false, apart := false }
def RuleTornSaid : Prop := ruleTornRow.holds Try.pinned (OpenSpec.ofChange ruleTornSpec)

/-- ITS FALSE NEIGHBOUR: 'it returns false'. Refute it at one input. -/
def ruleTornWrong : ChangeSpec := { name := "ruleTorn", fn := fun _ => fun
  | [d1, d2] => { results := [.lit (.bool false)], args := [d1, d2] }
  | _ => none }
def RuleTornWrongFalsely : Prop := ruleTornRow.holds Try.pinned (OpenSpec.ofChange ruleTornWrong)

/-- 'gleaninglaw13.RuleLimits': WHATEVER THE INPUT: true; the input reads as it did. -/
def ruleLimitsSpec : ChangeSpec := { name := "ruleLimits", fn := fun _ => fun
  | [d1, d2] => { results := [.lit (.bool true)], args := [d1, d2] }
  | _ => none }
def ruleLimitsRow : OpenClaim := { program := "ytajpnimjkkmcmaa", sum := "481f81ca8d4d27d3265af4c66f4de1d82e511800bff7a748e72b204109fc1e9a", func := "gleaning/gleaninglaw13.RuleLimits", spec := "ruleLimits", recurses := true, plainKeys := false, apart := false }
def RuleLimitsSaid : Prop := ruleLimitsRow.holds Try.pinned (OpenSpec.ofChange ruleLimitsSpec)

/-- ITS FALSE NEIGHBOUR: 'it returns false'. Refute it at one input. -/
def ruleLimitsWrong : ChangeSpec := { name := "ruleLimits", fn := fun _ => fun
  | [d1, d2] => { results := [.lit (.bool false)], args := [d1, d2] }
  | _ => none }
def RuleLimitsWrongFalsely : Prop := ruleLimitsRow.holds Try.pinned (OpenSpec.ofChange ruleLimitsWrong)

/-- 'gleaninglaw13.RuleKinds': WHATEVER THE INPUT: true; the input reads as it did. -/
def ruleKindsSpec : ChangeSpec := { name := "ruleKinds", fn := fun _ => fun
  | [d] => { results := [.lit (.bool true)], args := [d] }
  | _ => none }
def ruleKindsRow : OpenClaim := { program := "ytajpnimjkkmcmaa", sum := "481f81ca8d4d27d3265af4c66f4de1d82e511800bff7a748e72b204109fc1e9a", func := "gleaning/gleaninglaw13.RuleKinds", spec := "ruleKinds", recurses := true, plainKeys := false, apart := false }
def RuleKindsSaid : Prop := ruleKindsRow.holds Try.pinned (OpenSpec.ofChange ruleKindsSpec)

/-- ITS FALSE NEIGHBOUR: 'it returns false'. Refute it at one input. -/
def ruleKindsWrong : ChangeSpec := { name := "ruleKinds", fn := fun _ => fun
  | [d] => { results := [.lit (.bool false)], args := [d] }
  | _ => none }
def RuleKindsWrongFalsely : Prop := ruleKindsRow.holds Try.pinned (OpenSpec.ofChange ruleKindsWrong)

/-- 'gleaninglaw29.TreeChain': WHATEVER THE INPUT: true; the input reads as it did. -/
def treeChainSpec : ChangeSpec := { name := "treeChain", fn := fun _ => fun
  | [d1, d2] => { results := [.lit (.bool true)], args := [d1, d2] }
  | _ => none }
def treeChainRow : OpenClaim := { program := "ytajpnimjkkmcmaa", sum := "481f81ca8d4d27d3265af4c66f4de1d82e511800bff7a748e72b204109fc1e9a", func := "gleaning/gleaninglaw29.TreeChain", spec := "treeChain", unfollowed := true, recurses := true, plainKeys := false, apart := false }
def TreeChainSaid : Prop := treeChainRow.holds Try.pinned (OpenSpec.ofChange treeChainSpec)

/-- ITS FALSE NEIGHBOUR: 'it returns false'. Refute it at one input. -/
def treeChainWrong : ChangeSpec := { name := "treeChain", fn := fun _ => fun
  | [d1, d2] => { results := [.lit (.bool false)], args := [d1, d2] }
  | _ => none }
def TreeChainWrongFalsely : Prop := treeChainRow.holds Try.pinned (OpenSpec.ofChange treeChainWrong)

/-- 'gleaninglaw29.TreeRing': WHATEVER THE INPUT: true; the input reads as it did. -/
def treeRingSpec : ChangeSpec := { name := "treeRing", fn := fun _ => fun
  | [d1, d2] => { results := [.lit (.bool true)], args := [d1, d2] }
  | _ => none }
def treeRingRow : OpenClaim := { program := "ytajpnimjkkmcmaa", sum := "481f81ca8d4d27d3265af4c66f4de1d82e511800bff7a748e72b204109fc1e9a", func := "gleaning/gleaninglaw29.TreeRing", spec := "treeRing", unfollowed := true, recurses := true, plainKeys := false, apart := false }
def TreeRingSaid : Prop := treeRingRow.holds Try.pinned (OpenSpec.ofChange treeRingSpec)

/-- ITS FALSE NEIGHBOUR: 'it returns false'. Refute it at one input. -/
def treeRingWrong : ChangeSpec := { name := "treeRing", fn := fun _ => fun
  | [d1, d2] => { results := [.lit (.bool false)], args := [d1, d2] }
  | _ => none }
def TreeRingWrongFalsely : Prop := treeRingRow.holds Try.pinned (OpenSpec.ofChange treeRingWrong)

/- THE SECOND FORM. 'bulk': how many values and letters a reading holds, each counted each time it is reached (what is shared counts as often as it is met; a slice's spare places count too). A statement '..UptoSaid' is the law's where the arguments, and the package variables that the reading takes, are together of bulk at most 1048576: NARROWER than '..Said'. Prove '..Said' where nothing that the law and all that it calls make is longer than what came in: it says more and counts as full. Else prove '..UptoSaid'. A law counts once. -/
mutual
def uptoBulk {H : Type} : DataW H → Nat
  | .lit (.string bytes) => bytes.length + 1
  | .lit _ => 1
  | .nil => 1
  | .ptr d => uptoBulk d + 1
  | .slice elems spare => uptoBulkAll elems + uptoBulkAll spare + 1
  | .agg parts => uptoBulkAll parts + 1
  | .iface _ d => uptoBulk d + 1
  | .map entries => uptoBulkEntries entries + 1
  | .held _ => 1
def uptoBulkAll {H : Type} : List (DataW H) → Nat
  | [] => 0
  | d :: r => uptoBulk d + uptoBulkAll r
def uptoBulkEntries {H : Type} : List (Lit × DataW H) → Nat
  | [] => 0
  | x :: r => uptoBulkEntry x + uptoBulkEntries r
def uptoBulkEntry {H : Type} : Lit × DataW H → Nat
  | (.string bytes, d) => bytes.length + uptoBulk d + 1
  | (_, d) => uptoBulk d + 1
 end
def uptoSmall : (H : Type) → List (DataW H) → Bool := fun _ ds => decide (uptoBulkAll ds ≤ 1048576)
def OpenSpec.upto (s : _root_.Go.ChangeSpec) : _root_.Go.OpenSpec := { _root_.Go.OpenSpec.ofChange s with cond := some uptoSmall }

/-- 'gleaninglaw12.SlotsPlay', WHERE WHAT IT READS IS OF BULK AT MOST 1048576: true; the input reads as it did. -/
def slotsPlayUptoRow : OpenClaim := { program := "ytajpnimjkkmcmaa", sum := "481f81ca8d4d27d3265af4c66f4de1d82e511800bff7a748e72b204109fc1e9a", func := "gleaning/gleaninglaw12.SlotsPlay", spec := "slotsPlay", inPlace := ["internal/bytealg.abigen_runtime_cmpstring", "slices.overlaps[gleaning/api.Exemplar]"], plainKeys := false, apart := false, narrowed := true }
def SlotsPlayUptoSaid : Prop := slotsPlayUptoRow.holds Try.pinned (OpenSpec.upto slotsPlaySpec)

/-- 'gleaninglaw12.SlotsNew', WHERE WHAT IT READS IS OF BULK AT MOST 1048576: true; the input reads as it did. -/
def slotsNewUptoRow : OpenClaim := { program := "ytajpnimjkkmcmaa", sum := "481f81ca8d4d27d3265af4c66f4de1d82e511800bff7a748e72b204109fc1e9a", func := "gleaning/gleaninglaw12.SlotsNew", spec := "slotsNew", inPlace := ["internal/bytealg.abigen_runtime_cmpstring", "slices.overlaps[gleaning/api.Exemplar]"], plainKeys := false, apart := false, narrowed := true }
def SlotsNewUptoSaid : Prop := slotsNewUptoRow.holds Try.pinned (OpenSpec.upto slotsNewSpec)

/-- 'gleaninglaw12.SlotsGone', WHERE WHAT IT READS IS OF BULK AT MOST 1048576: true; the input reads as it did. -/
def slotsGoneUptoRow : OpenClaim := { program := "ytajpnimjkkmcmaa", sum := "481f81ca8d4d27d3265af4c66f4de1d82e511800bff7a748e72b204109fc1e9a", func := "gleaning/gleaninglaw12.SlotsGone", spec := "slotsGone", inPlace := ["internal/bytealg.abigen_runtime_cmpstring", "slices.overlaps[gleaning/api.Exemplar]"], plainKeys := false, apart := false, narrowed := true }
def SlotsGoneUptoSaid : Prop := slotsGoneUptoRow.holds Try.pinned (OpenSpec.upto slotsGoneSpec)

/-- 'gleaninglaw13.RuleTells', WHERE WHAT IT READS IS OF BULK AT MOST 1048576: true; the input reads as it did. -/
def ruleTellsUptoRow : OpenClaim := { program := "ytajpnimjkkmcmaa", sum := "481f81ca8d4d27d3265af4c66f4de1d82e511800bff7a748e72b204109fc1e9a", func := "gleaning/gleaninglaw13.RuleTells", spec := "ruleTells", recurses := true, loops := true, plainKeys := false, apart := false, narrowed := true }
def RuleTellsUptoSaid : Prop := ruleTellsUptoRow.holds Try.pinned (OpenSpec.upto ruleTellsSpec)

/-- 'gleaninglaw13.RuleTorn', WHERE WHAT IT READS IS OF BULK AT MOST 1048576: true; the input reads as it did. -/
def ruleTornUptoRow : OpenClaim := { program := "ytajpnimjkkmcmaa", sum := "481f81ca8d4d27d3265af4c66f4de1d82e511800bff7a748e72b204109fc1e9a", func := "gleaning/gleaninglaw13.RuleTorn", spec := "ruleTorn", recurses := true, loops := true, plainKeys := false, apart := false, narrowed := true }
def RuleTornUptoSaid : Prop := ruleTornUptoRow.holds Try.pinned (OpenSpec.upto ruleTornSpec)

/-- 'gleaninglaw13.RuleLimits', WHERE WHAT IT READS IS OF BULK AT MOST 1048576: true; the input reads as it did. -/
def ruleLimitsUptoRow : OpenClaim := { program := "ytajpnimjkkmcmaa", sum := "481f81ca8d4d27d3265af4c66f4de1d82e511800bff7a748e72b204109fc1e9a", func := "gleaning/gleaninglaw13.RuleLimits", spec := "ruleLimits", recurses := true, plainKeys := false, apart := false, narrowed := true }
def RuleLimitsUptoSaid : Prop := ruleLimitsUptoRow.holds Try.pinned (OpenSpec.upto ruleLimitsSpec)

/-- 'gleaninglaw13.RuleKinds', WHERE WHAT IT READS IS OF BULK AT MOST 1048576: true; the input reads as it did. -/
def ruleKindsUptoRow : OpenClaim := { program := "ytajpnimjkkmcmaa", sum := "481f81ca8d4d27d3265af4c66f4de1d82e511800bff7a748e72b204109fc1e9a", func := "gleaning/gleaninglaw13.RuleKinds", spec := "ruleKinds", recurses := true, plainKeys := false, apart := false, narrowed := true }
def RuleKindsUptoSaid : Prop := ruleKindsUptoRow.holds Try.pinned (OpenSpec.upto ruleKindsSpec)

/-- 'gleaninglaw29.TreeChain', WHERE WHAT IT READS IS OF BULK AT MOST 1048576: true; the input reads as it did. -/
def treeChainUptoRow : OpenClaim := { program := "ytajpnimjkkmcmaa", sum := "481f81ca8d4d27d3265af4c66f4de1d82e511800bff7a748e72b204109fc1e9a", func := "gleaning/gleaninglaw29.TreeChain", spec := "treeChain", unfollowed := true, recurses := true, plainKeys := false, apart := false, narrowed := true }
def TreeChainUptoSaid : Prop := treeChainUptoRow.holds Try.pinned (OpenSpec.upto treeChainSpec)

/-- 'gleaninglaw29.TreeRing', WHERE WHAT IT READS IS OF BULK AT MOST 1048576: true; the input reads as it did. -/
def treeRingUptoRow : OpenClaim := { program := "ytajpnimjkkmcmaa", sum := "481f81ca8d4d27d3265af4c66f4de1d82e511800bff7a748e72b204109fc1e9a", func := "gleaning/gleaninglaw29.TreeRing", spec := "treeRing", unfollowed := true, recurses := true, plainKeys := false, apart := false, narrowed := true }
def TreeRingUptoSaid : Prop := treeRingUptoRow.holds Try.pinned (OpenSpec.upto treeRingSpec)

end Rows
end Go.Proofs.Ytajpnimjkkmcmaa
