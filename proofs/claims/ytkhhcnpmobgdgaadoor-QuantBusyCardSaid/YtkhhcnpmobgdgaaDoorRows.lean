/-
  NARROWER THAN 'FOR EVERY INPUT', by the rows' own cells (each row's printed sentence says how): RollupTells: laid · RollupAny: laid · RollupSums: laid · RollupCounts: laid · RollupExpires: laid · QuantBusy: laid · QuantFirst: laid.
  DERIVED. THE GIVEN ROWS OF THIS SEAT. 7 by the template 'for every input the law returns true; each argument reads behind the call as it read before'; 0 by the template 'total and deterministic' (their statements: YtkhhcnpmobgdgaaDoorTotals.lean).
  GIVEN WITH THE SEED: the statements are not yours to turn. If you find one false, say at which input.
  Laid BY PROGRAM, IN A SANDBOX (cutbox-rows.mjs): the forced cells as the released guide's own fill.sh prints them over the translation 183f74d9319e5a37… (all of the seat's roots in one cut). By AI agents, Wed Nov 11 2026. No macro, syntax, notation, axiom, sorry.
-/
import Derived.Test.YtkhhcnpmobgdgaaDoorChecked
import GoSem.Claim
import GoSem.ClaimJoined
import GoSem.ClaimMapViews
import Derived.JoinedTies
import Derived.KernelRfl
namespace Go.Proofs.YtkhhcnpmobgdgaaDoor
/- THE CELL 'sum', in the pinned program and in every row, IS THE sha256 OF THE DUMP (.gsa) THAT YtkhhcnpmobgdgaaDoorProg.lean LOADS. Nothing in Lean hashes anything: it is a label: what it is worth is what the hold of that sum in a sandbox is worth. -/
noncomputable def Tryd.pinned : Pinned := { name := "ytkhhcnpmobgdgaadoor", sum := "183f74d9319e5a37d8b9260a3812c96d35acc48479c9c5a4538c9af4fa6a318b", checked := Tryd.checked }
namespace Rows
def none {H : Type} : Left H := { results := [], args := [] }

/- WHAT THE LISTED PACKAGE-LEVEL VARIABLES READ AS WHEN THE CALL BEGINS. Each datum BY PROGRAM (the guide's laid-datum.mjs) off the statement by which the dump's own 'gosem.cut.vars' lays the variable. In a bare row this is a premise. The card (YtkhhcnpmobgdgaaDoorCards.lean) ties it to the program's text. -/
def laid_gleaning_window_lengths {H : Type} : DataW H := .agg [.lit (.int .i64 60), .lit (.int .i64 3600), .lit (.int .i64 86400)]
def laid_gleaning_bucket_bounds {H : Type} : DataW H := .agg [.lit (.int .i64 1), .lit (.int .i64 5), .lit (.int .i64 10), .lit (.int .i64 50), .lit (.int .i64 100), .lit (.int .i64 500), .lit (.int .i64 1000)]
def laid_gleaning_quant_lowest {H : Type} : DataW H := .agg [.lit (.int .i64 0), .lit (.int .i64 1), .lit (.int .i64 5), .lit (.int .i64 10), .lit (.int .i64 50), .lit (.int .i64 100), .lit (.int .i64 500), .lit (.int .i64 1000)]

/-- 'gleaninglaw10.RollupTells': WHATEVER THE INPUT: true; the input reads as it did. -/
def rollupTellsSpec : ChangeSpec := { name := "rollupTells", fn := fun _ => fun
  | [d1, d2, d3, d4, d5, d6, d7, d8] => { results := [.lit (.bool true)], args := [d1, d2, d3, d4, d5, d6, d7, d8] }
  | _ => none }
def rollupTellsRow : OpenClaim := { program := "ytkhhcnpmobgdgaadoor", sum := "183f74d9319e5a37d8b9260a3812c96d35acc48479c9c5a4538c9af4fa6a318b", func := "gleaning/gleaninglaw10.RollupTells", spec := "rollupTells", inPlace := ["internal/bytealg.abigen_runtime_cmpstring", "sync/atomic.AddInt64", "slices.overlaps[gleaning/api.Row]", "sync/atomic.LoadInt64"], unfollowed := true, recurses := true, named := ["gleaning/bucket.bounds", "gleaning/window.lengths"], plainKeys := false, apart := false, laid := [("gleaning/window.lengths", laid_gleaning_window_lengths), ("gleaning/bucket.bounds", laid_gleaning_bucket_bounds)] }
def RollupTellsSaid : Prop := rollupTellsRow.holds Tryd.pinned (OpenSpec.ofChange rollupTellsSpec)

/-- ITS FALSE NEIGHBOUR: 'it returns false'. Refute it at one input. -/
def rollupTellsWrong : ChangeSpec := { name := "rollupTells", fn := fun _ => fun
  | [d1, d2, d3, d4, d5, d6, d7, d8] => { results := [.lit (.bool false)], args := [d1, d2, d3, d4, d5, d6, d7, d8] }
  | _ => none }
def RollupTellsWrongFalsely : Prop := rollupTellsRow.holds Tryd.pinned (OpenSpec.ofChange rollupTellsWrong)

/-- 'gleaninglaw10.RollupAny': WHATEVER THE INPUT: true; the input reads as it did. -/
def rollupAnySpec : ChangeSpec := { name := "rollupAny", fn := fun _ => fun
  | [d1, d2, d3] => { results := [.lit (.bool true)], args := [d1, d2, d3] }
  | _ => none }
def rollupAnyRow : OpenClaim := { program := "ytkhhcnpmobgdgaadoor", sum := "183f74d9319e5a37d8b9260a3812c96d35acc48479c9c5a4538c9af4fa6a318b", func := "gleaning/gleaninglaw10.RollupAny", spec := "rollupAny", inPlace := ["internal/bytealg.abigen_runtime_cmpstring", "sync/atomic.AddInt64", "slices.overlaps[gleaning/api.Row]", "sync/atomic.LoadInt64"], unfollowed := true, recurses := true, named := ["gleaning/bucket.bounds", "gleaning/window.lengths"], plainKeys := false, apart := false, laid := [("gleaning/window.lengths", laid_gleaning_window_lengths), ("gleaning/bucket.bounds", laid_gleaning_bucket_bounds)] }
def RollupAnySaid : Prop := rollupAnyRow.holds Tryd.pinned (OpenSpec.ofChange rollupAnySpec)

/-- ITS FALSE NEIGHBOUR: 'it returns false'. Refute it at one input. -/
def rollupAnyWrong : ChangeSpec := { name := "rollupAny", fn := fun _ => fun
  | [d1, d2, d3] => { results := [.lit (.bool false)], args := [d1, d2, d3] }
  | _ => none }
def RollupAnyWrongFalsely : Prop := rollupAnyRow.holds Tryd.pinned (OpenSpec.ofChange rollupAnyWrong)

/-- 'gleaninglaw10.RollupSums': WHATEVER THE INPUT: true; the input reads as it did. -/
def rollupSumsSpec : ChangeSpec := { name := "rollupSums", fn := fun _ => fun
  | [d1, d2] => { results := [.lit (.bool true)], args := [d1, d2] }
  | _ => none }
def rollupSumsRow : OpenClaim := { program := "ytkhhcnpmobgdgaadoor", sum := "183f74d9319e5a37d8b9260a3812c96d35acc48479c9c5a4538c9af4fa6a318b", func := "gleaning/gleaninglaw10.RollupSums", spec := "rollupSums", inPlace := ["internal/bytealg.abigen_runtime_cmpstring", "sync/atomic.AddInt64", "slices.overlaps[gleaning/api.Row]", "sync/atomic.LoadInt64"], unfollowed := true, recurses := true, named := ["gleaning/bucket.bounds", "gleaning/window.lengths"], plainKeys := false, apart := false, laid := [("gleaning/window.lengths", laid_gleaning_window_lengths), ("gleaning/bucket.bounds", laid_gleaning_bucket_bounds)] }
def RollupSumsSaid : Prop := rollupSumsRow.holds Tryd.pinned (OpenSpec.ofChange rollupSumsSpec)

/-- ITS FALSE NEIGHBOUR: 'it returns false'. Refute it at one input. -/
def rollupSumsWrong : ChangeSpec := { name := "rollupSums", fn := fun _ => fun
  | [d1, d2] => { results := [.lit (.bool false)], args := [d1, d2] }
  | _ => none }
def RollupSumsWrongFalsely : Prop := rollupSumsRow.holds Tryd.pinned (OpenSpec.ofChange rollupSumsWrong)

/-- 'gleaninglaw10.RollupCounts': WHATEVER THE INPUT: true; the input reads as it did. -/
def rollupCountsSpec : ChangeSpec := { name := "rollupCounts", fn := fun _ => fun
  | [d1, d2] => { results := [.lit (.bool true)], args := [d1, d2] }
  | _ => none }
def rollupCountsRow : OpenClaim := { program := "ytkhhcnpmobgdgaadoor", sum := "183f74d9319e5a37d8b9260a3812c96d35acc48479c9c5a4538c9af4fa6a318b", func := "gleaning/gleaninglaw10.RollupCounts", spec := "rollupCounts", inPlace := ["internal/bytealg.abigen_runtime_cmpstring", "sync/atomic.AddInt64", "slices.overlaps[gleaning/api.Row]", "sync/atomic.LoadInt64"], unfollowed := true, recurses := true, named := ["gleaning/bucket.bounds", "gleaning/window.lengths"], plainKeys := false, apart := false, laid := [("gleaning/window.lengths", laid_gleaning_window_lengths), ("gleaning/bucket.bounds", laid_gleaning_bucket_bounds)] }
def RollupCountsSaid : Prop := rollupCountsRow.holds Tryd.pinned (OpenSpec.ofChange rollupCountsSpec)

/-- ITS FALSE NEIGHBOUR: 'it returns false'. Refute it at one input. -/
def rollupCountsWrong : ChangeSpec := { name := "rollupCounts", fn := fun _ => fun
  | [d1, d2] => { results := [.lit (.bool false)], args := [d1, d2] }
  | _ => none }
def RollupCountsWrongFalsely : Prop := rollupCountsRow.holds Tryd.pinned (OpenSpec.ofChange rollupCountsWrong)

/-- 'gleaninglaw10.RollupExpires': WHATEVER THE INPUT: true; the input reads as it did. -/
def rollupExpiresSpec : ChangeSpec := { name := "rollupExpires", fn := fun _ => fun
  | [d1, d2, d3, d4] => { results := [.lit (.bool true)], args := [d1, d2, d3, d4] }
  | _ => none }
def rollupExpiresRow : OpenClaim := { program := "ytkhhcnpmobgdgaadoor", sum := "183f74d9319e5a37d8b9260a3812c96d35acc48479c9c5a4538c9af4fa6a318b", func := "gleaning/gleaninglaw10.RollupExpires", spec := "rollupExpires", inPlace := ["internal/bytealg.abigen_runtime_cmpstring", "sync/atomic.AddInt64", "slices.overlaps[gleaning/api.Row]", "sync/atomic.LoadInt64"], unfollowed := true, recurses := true, named := ["gleaning/bucket.bounds", "gleaning/window.lengths"], plainKeys := false, apart := false, laid := [("gleaning/window.lengths", laid_gleaning_window_lengths), ("gleaning/bucket.bounds", laid_gleaning_bucket_bounds)] }
def RollupExpiresSaid : Prop := rollupExpiresRow.holds Tryd.pinned (OpenSpec.ofChange rollupExpiresSpec)

/-- ITS FALSE NEIGHBOUR: 'it returns false'. Refute it at one input. -/
def rollupExpiresWrong : ChangeSpec := { name := "rollupExpires", fn := fun _ => fun
  | [d1, d2, d3, d4] => { results := [.lit (.bool false)], args := [d1, d2, d3, d4] }
  | _ => none }
def RollupExpiresWrongFalsely : Prop := rollupExpiresRow.holds Tryd.pinned (OpenSpec.ofChange rollupExpiresWrong)

/-- 'gleaninglaw31.QuantBusy': WHATEVER THE INPUT: true; the input reads as it did. -/
def quantBusySpec : ChangeSpec := { name := "quantBusy", fn := fun _ => fun
  | [d1, d2, d3] => { results := [.lit (.bool true)], args := [d1, d2, d3] }
  | _ => none }
def quantBusyRow : OpenClaim := { program := "ytkhhcnpmobgdgaadoor", sum := "183f74d9319e5a37d8b9260a3812c96d35acc48479c9c5a4538c9af4fa6a318b", func := "gleaning/gleaninglaw31.QuantBusy", spec := "quantBusy", inPlace := ["internal/bytealg.abigen_runtime_cmpstring"], unfollowed := true, recurses := true, named := ["gleaning/quant.lowest", "math/bits.divideError", "math/bits.overflowError"], plainKeys := false, apart := false, laid := [("gleaning/quant.lowest", laid_gleaning_quant_lowest)] }
def QuantBusySaid : Prop := quantBusyRow.holds Tryd.pinned (OpenSpec.ofChange quantBusySpec)

/-- ITS FALSE NEIGHBOUR: 'it returns false'. Refute it at one input. -/
def quantBusyWrong : ChangeSpec := { name := "quantBusy", fn := fun _ => fun
  | [d1, d2, d3] => { results := [.lit (.bool false)], args := [d1, d2, d3] }
  | _ => none }
def QuantBusyWrongFalsely : Prop := quantBusyRow.holds Tryd.pinned (OpenSpec.ofChange quantBusyWrong)

/-- 'gleaninglaw31.QuantFirst': WHATEVER THE INPUT: true; the input reads as it did. -/
def quantFirstSpec : ChangeSpec := { name := "quantFirst", fn := fun _ => fun
  | [d1, d2, d3, d4] => { results := [.lit (.bool true)], args := [d1, d2, d3, d4] }
  | _ => none }
def quantFirstRow : OpenClaim := { program := "ytkhhcnpmobgdgaadoor", sum := "183f74d9319e5a37d8b9260a3812c96d35acc48479c9c5a4538c9af4fa6a318b", func := "gleaning/gleaninglaw31.QuantFirst", spec := "quantFirst", inPlace := ["internal/bytealg.abigen_runtime_cmpstring"], unfollowed := true, recurses := true, named := ["gleaning/quant.lowest", "math/bits.divideError", "math/bits.overflowError"], plainKeys := false, apart := false, laid := [("gleaning/quant.lowest", laid_gleaning_quant_lowest)] }
def QuantFirstSaid : Prop := quantFirstRow.holds Tryd.pinned (OpenSpec.ofChange quantFirstSpec)

/-- ITS FALSE NEIGHBOUR: 'it returns false'. Refute it at one input. -/
def quantFirstWrong : ChangeSpec := { name := "quantFirst", fn := fun _ => fun
  | [d1, d2, d3, d4] => { results := [.lit (.bool false)], args := [d1, d2, d3, d4] }
  | _ => none }
def QuantFirstWrongFalsely : Prop := quantFirstRow.holds Tryd.pinned (OpenSpec.ofChange quantFirstWrong)

/- THE SECOND FORM. 'bulk': how many values and letters a reading holds, each counted each time it is reached (what is shared counts as often as it is met; a slice's spare places count too). A statement '..UptoSaid' is the law's where the arguments, and the package variables that the reading takes, are together of bulk at most 1048576: NARROWER than '..Said'. Prove '..Said' where nothing that the law and all that it calls make is longer than what came in: it says more and counts as full. Else prove '..UptoSaid'. A law counts once. -/
mutual
def uptoBulk {H : Type} : DataW H → Nat
  | .lit (.string bytes) => bytes.length + 1
  | .lit _ => 1
  | .nil => 1
  | .ptr d => uptoBulk d + 1
  | .slice elems spare => uptoBulkAll elems + uptoBulkAll spare + 1
  | .agg parts => uptoBulkAll parts + 1
  | .iface _ d => uptoBulk d + 1
  | .map entries => uptoBulkEntries entries + 1
  | .held _ => 1
def uptoBulkAll {H : Type} : List (DataW H) → Nat
  | [] => 0
  | d :: r => uptoBulk d + uptoBulkAll r
def uptoBulkEntries {H : Type} : List (Lit × DataW H) → Nat
  | [] => 0
  | x :: r => uptoBulkEntry x + uptoBulkEntries r
def uptoBulkEntry {H : Type} : Lit × DataW H → Nat
  | (.string bytes, d) => bytes.length + uptoBulk d + 1
  | (_, d) => uptoBulk d + 1
 end
def uptoSmall : (H : Type) → List (DataW H) → Bool := fun _ ds => decide (uptoBulkAll ds ≤ 1048576)
def OpenSpec.upto (s : _root_.Go.ChangeSpec) : _root_.Go.OpenSpec := { _root_.Go.OpenSpec.ofChange s with cond := some uptoSmall }

/-- 'gleaninglaw10.RollupTells', WHERE WHAT IT READS IS OF BULK AT MOST 1048576: true; the input reads as it did. -/
def rollupTellsUptoRow : OpenClaim := { program := "ytkhhcnpmobgdgaadoor", sum := "183f74d9319e5a37d8b9260a3812c96d35acc48479c9c5a4538c9af4fa6a318b", func := "gleaning/gleaninglaw10.RollupTells", spec := "rollupTells", inPlace := ["internal/bytealg.abigen_runtime_cmpstring", "sync/atomic.AddInt64", "slices.overlaps[gleaning/api.Row]", "sync/atomic.LoadInt64"], unfollowed := true, recurses := true, named := ["gleaning/bucket.bounds", "gleaning/window.lengths"], plainKeys := false, apart := false, laid := [("gleaning/window.lengths", laid_gleaning_window_lengths), ("gleaning/bucket.bounds", laid_gleaning_bucket_bounds)], narrowed := true }
def RollupTellsUptoSaid : Prop := rollupTellsUptoRow.holds Tryd.pinned (OpenSpec.upto rollupTellsSpec)

/-- 'gleaninglaw10.RollupAny', WHERE WHAT IT READS IS OF BULK AT MOST 1048576: true; the input reads as it did. -/
def rollupAnyUptoRow : OpenClaim := { program := "ytkhhcnpmobgdgaadoor", sum := "183f74d9319e5a37d8b9260a3812c96d35acc48479c9c5a4538c9af4fa6a318b", func := "gleaning/gleaninglaw10.RollupAny", spec := "rollupAny", inPlace := ["internal/bytealg.abigen_runtime_cmpstring", "sync/atomic.AddInt64", "slices.overlaps[gleaning/api.Row]", "sync/atomic.LoadInt64"], unfollowed := true, recurses := true, named := ["gleaning/bucket.bounds", "gleaning/window.lengths"], plainKeys := false, apart := false, laid := [("gleaning/window.lengths", laid_gleaning_window_lengths), ("gleaning/bucket.bounds", laid_gleaning_bucket_bounds)], narrowed := true }
def RollupAnyUptoSaid : Prop := rollupAnyUptoRow.holds Tryd.pinned (OpenSpec.upto rollupAnySpec)

/-- 'gleaninglaw10.RollupSums', WHERE WHAT IT READS IS OF BULK AT MOST 1048576: true; the input reads as it did. -/
def rollupSumsUptoRow : OpenClaim := { program := "ytkhhcnpmobgdgaadoor", sum := "183f74d9319e5a37d8b9260a3812c96d35acc48479c9c5a4538c9af4fa6a318b", func := "gleaning/gleaninglaw10.RollupSums", spec := "rollupSums", inPlace := ["internal/bytealg.abigen_runtime_cmpstring", "sync/atomic.AddInt64", "slices.overlaps[gleaning/api.Row]", "sync/atomic.LoadInt64"], unfollowed := true, recurses := true, named := ["gleaning/bucket.bounds", "gleaning/window.lengths"], plainKeys := false, apart := false, laid := [("gleaning/window.lengths", laid_gleaning_window_lengths), ("gleaning/bucket.bounds", laid_gleaning_bucket_bounds)], narrowed := true }
def RollupSumsUptoSaid : Prop := rollupSumsUptoRow.holds Tryd.pinned (OpenSpec.upto rollupSumsSpec)

/-- 'gleaninglaw10.RollupCounts', WHERE WHAT IT READS IS OF BULK AT MOST 1048576: true; the input reads as it did. -/
def rollupCountsUptoRow : OpenClaim := { program := "ytkhhcnpmobgdgaadoor", sum := "183f74d9319e5a37d8b9260a3812c96d35acc48479c9c5a4538c9af4fa6a318b", func := "gleaning/gleaninglaw10.RollupCounts", spec := "rollupCounts", inPlace := ["internal/bytealg.abigen_runtime_cmpstring", "sync/atomic.AddInt64", "slices.overlaps[gleaning/api.Row]", "sync/atomic.LoadInt64"], unfollowed := true, recurses := true, named := ["gleaning/bucket.bounds", "gleaning/window.lengths"], plainKeys := false, apart := false, laid := [("gleaning/window.lengths", laid_gleaning_window_lengths), ("gleaning/bucket.bounds", laid_gleaning_bucket_bounds)], narrowed := true }
def RollupCountsUptoSaid : Prop := rollupCountsUptoRow.holds Tryd.pinned (OpenSpec.upto rollupCountsSpec)

/-- 'gleaninglaw10.RollupExpires', WHERE WHAT IT READS IS OF BULK AT MOST 1048576: true; the input reads as it did. -/
def rollupExpiresUptoRow : OpenClaim := { program := "ytkhhcnpmobgdgaadoor", sum := "183f74d9319e5a37d8b9260a3812c96d35acc48479c9c5a4538c9af4fa6a318b", func := "gleaning/gleaninglaw10.RollupExpires", spec := "rollupExpires", inPlace := ["internal/bytealg.abigen_runtime_cmpstring", "sync/atomic.AddInt64", "slices.overlaps[gleaning/api.Row]", "sync/atomic.LoadInt64"], unfollowed := true, recurses := true, named := ["gleaning/bucket.bounds", "gleaning/window.lengths"], plainKeys := false, apart := false, laid := [("gleaning/window.lengths", laid_gleaning_window_lengths), ("gleaning/bucket.bounds", laid_gleaning_bucket_bounds)], narrowed := true }
def RollupExpiresUptoSaid : Prop := rollupExpiresUptoRow.holds Tryd.pinned (OpenSpec.upto rollupExpiresSpec)

/-- 'gleaninglaw31.QuantBusy', WHERE WHAT IT READS IS OF BULK AT MOST 1048576: true; the input reads as it did. -/
def quantBusyUptoRow : OpenClaim := { program := "ytkhhcnpmobgdgaadoor", sum := "183f74d9319e5a37d8b9260a3812c96d35acc48479c9c5a4538c9af4fa6a318b", func := "gleaning/gleaninglaw31.QuantBusy", spec := "quantBusy", inPlace := ["internal/bytealg.abigen_runtime_cmpstring"], unfollowed := true, recurses := true, named := ["gleaning/quant.lowest", "math/bits.divideError", "math/bits.overflowError"], plainKeys := false, apart := false, laid := [("gleaning/quant.lowest", laid_gleaning_quant_lowest)], narrowed := true }
def QuantBusyUptoSaid : Prop := quantBusyUptoRow.holds Tryd.pinned (OpenSpec.upto quantBusySpec)

/-- 'gleaninglaw31.QuantFirst', WHERE WHAT IT READS IS OF BULK AT MOST 1048576: true; the input reads as it did. -/
def quantFirstUptoRow : OpenClaim := { program := "ytkhhcnpmobgdgaadoor", sum := "183f74d9319e5a37d8b9260a3812c96d35acc48479c9c5a4538c9af4fa6a318b", func := "gleaning/gleaninglaw31.QuantFirst", spec := "quantFirst", inPlace := ["internal/bytealg.abigen_runtime_cmpstring"], unfollowed := true, recurses := true, named := ["gleaning/quant.lowest", "math/bits.divideError", "math/bits.overflowError"], plainKeys := false, apart := false, laid := [("gleaning/quant.lowest", laid_gleaning_quant_lowest)], narrowed := true }
def QuantFirstUptoSaid : Prop := quantFirstUptoRow.holds Tryd.pinned (OpenSpec.upto quantFirstSpec)

end Rows
end Go.Proofs.YtkhhcnpmobgdgaaDoor
