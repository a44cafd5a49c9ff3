/-
  NARROWER THAN 'FOR EVERY INPUT', by the rows' own cells (each row's printed sentence says how): BucketTells: laid · BucketCounts: laid · BucketJoins: laid · QuantOrder: laid · QuantSorts: laid · QuantTells: laid.
  DERIVED. THE GIVEN ROWS OF THIS SEAT. 6 by the template 'for every input the law returns true; each argument reads behind the call as it read before'; 0 by the template 'total and deterministic' (their statements: YtkmcdeejkcncpaaDoorTotals.lean).
  GIVEN WITH THE SEED: the statements are not yours to turn. If you find one false, say at which input.
  Laid BY PROGRAM, IN A SANDBOX (cutbox-rows.mjs): the forced cells as the released guide's own fill.sh prints them over the translation 5c199bb24039f540… (all of the seat's roots in one cut). By AI agents, Wed Nov 11 2026. No macro, syntax, notation, axiom, sorry.
-/
import Derived.Test.YtkmcdeejkcncpaaDoorChecked
import GoSem.Claim
import GoSem.ClaimJoined
import GoSem.ClaimMapViews
import Derived.JoinedTies
import Derived.KernelRfl
namespace Go.Proofs.YtkmcdeejkcncpaaDoor
/- THE CELL 'sum', in the pinned program and in every row, IS THE sha256 OF THE DUMP (.gsa) THAT YtkmcdeejkcncpaaDoorProg.lean LOADS. Nothing in Lean hashes anything: it is a label: what it is worth is what the hold of that sum in a sandbox is worth. -/
noncomputable def Tryd.pinned : Pinned := { name := "ytkmcdeejkcncpaadoor", sum := "5c199bb24039f540a12befd0559330b469326761a5293343294982e370d29add", checked := Tryd.checked }
namespace Rows
def none {H : Type} : Left H := { results := [], args := [] }

/- WHAT THE LISTED PACKAGE-LEVEL VARIABLES READ AS WHEN THE CALL BEGINS. Each datum BY PROGRAM (the guide's laid-datum.mjs) off the statement by which the dump's own 'gosem.cut.vars' lays the variable. In a bare row this is a premise. The card (YtkmcdeejkcncpaaDoorCards.lean) ties it to the program's text. -/
def laid_gleaning_bucket_bounds {H : Type} : DataW H := .agg [.lit (.int .i64 1), .lit (.int .i64 5), .lit (.int .i64 10), .lit (.int .i64 50), .lit (.int .i64 100), .lit (.int .i64 500), .lit (.int .i64 1000)]
def laid_gleaning_quant_lowest {H : Type} : DataW H := .agg [.lit (.int .i64 0), .lit (.int .i64 1), .lit (.int .i64 5), .lit (.int .i64 10), .lit (.int .i64 50), .lit (.int .i64 100), .lit (.int .i64 500), .lit (.int .i64 1000)]

/-- 'gleaninglaw8.BucketTells': WHATEVER THE INPUT: true; the input reads as it did. -/
def bucketTellsSpec : ChangeSpec := { name := "bucketTells", fn := fun _ => fun
  | [d1, d2, d3, d4, d5] => { results := [.lit (.bool true)], args := [d1, d2, d3, d4, d5] }
  | _ => none }
def bucketTellsRow : OpenClaim := { program := "ytkmcdeejkcncpaadoor", sum := "5c199bb24039f540a12befd0559330b469326761a5293343294982e370d29add", func := "gleaning/gleaninglaw8.BucketTells", spec := "bucketTells", named := ["gleaning/bucket.bounds"], apart := false, laid := [("gleaning/bucket.bounds", laid_gleaning_bucket_bounds)] }
def BucketTellsSaid : Prop := bucketTellsRow.holds Tryd.pinned (OpenSpec.ofChange bucketTellsSpec)

/-- ITS FALSE NEIGHBOUR: 'it returns false'. Refute it at one input. -/
def bucketTellsWrong : ChangeSpec := { name := "bucketTells", fn := fun _ => fun
  | [d1, d2, d3, d4, d5] => { results := [.lit (.bool false)], args := [d1, d2, d3, d4, d5] }
  | _ => none }
def BucketTellsWrongFalsely : Prop := bucketTellsRow.holds Tryd.pinned (OpenSpec.ofChange bucketTellsWrong)

/-- 'gleaninglaw8.BucketCounts': WHATEVER THE INPUT: true; the input reads as it did. -/
def bucketCountsSpec : ChangeSpec := { name := "bucketCounts", fn := fun _ => fun
  | [d1, d2, d3] => { results := [.lit (.bool true)], args := [d1, d2, d3] }
  | _ => none }
def bucketCountsRow : OpenClaim := { program := "ytkmcdeejkcncpaadoor", sum := "5c199bb24039f540a12befd0559330b469326761a5293343294982e370d29add", func := "gleaning/gleaninglaw8.BucketCounts", spec := "bucketCounts", named := ["gleaning/bucket.bounds"], apart := false, laid := [("gleaning/bucket.bounds", laid_gleaning_bucket_bounds)] }
def BucketCountsSaid : Prop := bucketCountsRow.holds Tryd.pinned (OpenSpec.ofChange bucketCountsSpec)

/-- ITS FALSE NEIGHBOUR: 'it returns false'. Refute it at one input. -/
def bucketCountsWrong : ChangeSpec := { name := "bucketCounts", fn := fun _ => fun
  | [d1, d2, d3] => { results := [.lit (.bool false)], args := [d1, d2, d3] }
  | _ => none }
def BucketCountsWrongFalsely : Prop := bucketCountsRow.holds Tryd.pinned (OpenSpec.ofChange bucketCountsWrong)

/-- 'gleaninglaw8.BucketJoins': WHATEVER THE INPUT: true; the input reads as it did. -/
def bucketJoinsSpec : ChangeSpec := { name := "bucketJoins", fn := fun _ => fun
  | [d1, d2, d3, d4] => { results := [.lit (.bool true)], args := [d1, d2, d3, d4] }
  | _ => none }
def bucketJoinsRow : OpenClaim := { program := "ytkmcdeejkcncpaadoor", sum := "5c199bb24039f540a12befd0559330b469326761a5293343294982e370d29add", func := "gleaning/gleaninglaw8.BucketJoins", spec := "bucketJoins", named := ["gleaning/bucket.bounds"], apart := false, laid := [("gleaning/bucket.bounds", laid_gleaning_bucket_bounds)] }
def BucketJoinsSaid : Prop := bucketJoinsRow.holds Tryd.pinned (OpenSpec.ofChange bucketJoinsSpec)

/-- ITS FALSE NEIGHBOUR: 'it returns false'. Refute it at one input. -/
def bucketJoinsWrong : ChangeSpec := { name := "bucketJoins", fn := fun _ => fun
  | [d1, d2, d3, d4] => { results := [.lit (.bool false)], args := [d1, d2, d3, d4] }
  | _ => none }
def BucketJoinsWrongFalsely : Prop := bucketJoinsRow.holds Tryd.pinned (OpenSpec.ofChange bucketJoinsWrong)

/-- 'gleaninglaw31.QuantOrder': WHATEVER THE INPUT: true; the input reads as it did. -/
def quantOrderSpec : ChangeSpec := { name := "quantOrder", fn := fun _ => fun
  | [d1, d2, d3] => { results := [.lit (.bool true)], args := [d1, d2, d3] }
  | _ => none }
def quantOrderRow : OpenClaim := { program := "ytkmcdeejkcncpaadoor", sum := "5c199bb24039f540a12befd0559330b469326761a5293343294982e370d29add", func := "gleaning/gleaninglaw31.QuantOrder", spec := "quantOrder", named := ["gleaning/quant.lowest", "math/bits.divideError", "math/bits.overflowError"], apart := false, laid := [("gleaning/quant.lowest", laid_gleaning_quant_lowest)] }
def QuantOrderSaid : Prop := quantOrderRow.holds Tryd.pinned (OpenSpec.ofChange quantOrderSpec)

/-- ITS FALSE NEIGHBOUR: 'it returns false'. Refute it at one input. -/
def quantOrderWrong : ChangeSpec := { name := "quantOrder", fn := fun _ => fun
  | [d1, d2, d3] => { results := [.lit (.bool false)], args := [d1, d2, d3] }
  | _ => none }
def QuantOrderWrongFalsely : Prop := quantOrderRow.holds Tryd.pinned (OpenSpec.ofChange quantOrderWrong)

/-- 'gleaninglaw31.QuantSorts': WHATEVER THE INPUT: true; the input reads as it did. -/
def quantSortsSpec : ChangeSpec := { name := "quantSorts", fn := fun _ => fun
  | [d1, d2] => { results := [.lit (.bool true)], args := [d1, d2] }
  | _ => none }
def quantSortsRow : OpenClaim := { program := "ytkmcdeejkcncpaadoor", sum := "5c199bb24039f540a12befd0559330b469326761a5293343294982e370d29add", func := "gleaning/gleaninglaw31.QuantSorts", spec := "quantSorts", named := ["gleaning/quant.lowest", "math/bits.divideError", "math/bits.overflowError"], apart := false, laid := [("gleaning/quant.lowest", laid_gleaning_quant_lowest)] }
def QuantSortsSaid : Prop := quantSortsRow.holds Tryd.pinned (OpenSpec.ofChange quantSortsSpec)

/-- ITS FALSE NEIGHBOUR: 'it returns false'. Refute it at one input. -/
def quantSortsWrong : ChangeSpec := { name := "quantSorts", fn := fun _ => fun
  | [d1, d2] => { results := [.lit (.bool false)], args := [d1, d2] }
  | _ => none }
def QuantSortsWrongFalsely : Prop := quantSortsRow.holds Tryd.pinned (OpenSpec.ofChange quantSortsWrong)

/-- 'gleaninglaw31.QuantTells': WHATEVER THE INPUT: true; the input reads as it did. -/
def quantTellsSpec : ChangeSpec := { name := "quantTells", fn := fun _ => fun
  | [d1, d2] => { results := [.lit (.bool true)], args := [d1, d2] }
  | _ => none }
def quantTellsRow : OpenClaim := { program := "ytkmcdeejkcncpaadoor", sum := "5c199bb24039f540a12befd0559330b469326761a5293343294982e370d29add", func := "gleaning/gleaninglaw31.QuantTells", spec := "quantTells", named := ["gleaning/quant.lowest", "math/bits.divideError", "math/bits.overflowError"], apart := false, laid := [("gleaning/quant.lowest", laid_gleaning_quant_lowest)] }
def QuantTellsSaid : Prop := quantTellsRow.holds Tryd.pinned (OpenSpec.ofChange quantTellsSpec)

/-- ITS FALSE NEIGHBOUR: 'it returns false'. Refute it at one input. -/
def quantTellsWrong : ChangeSpec := { name := "quantTells", fn := fun _ => fun
  | [d1, d2] => { results := [.lit (.bool false)], args := [d1, d2] }
  | _ => none }
def QuantTellsWrongFalsely : Prop := quantTellsRow.holds Tryd.pinned (OpenSpec.ofChange quantTellsWrong)

/- THE SECOND FORM. 'bulk': how many values and letters a reading holds, each counted each time it is reached (what is shared counts as often as it is met; a slice's spare places count too). A statement '..UptoSaid' is the law's where the arguments, and the package variables that the reading takes, are together of bulk at most 1048576: NARROWER than '..Said'. Prove '..Said' where nothing that the law and all that it calls make is longer than what came in: it says more and counts as full. Else prove '..UptoSaid'. A law counts once. -/
mutual
def uptoBulk {H : Type} : DataW H → Nat
  | .lit (.string bytes) => bytes.length + 1
  | .lit _ => 1
  | .nil => 1
  | .ptr d => uptoBulk d + 1
  | .slice elems spare => uptoBulkAll elems + uptoBulkAll spare + 1
  | .agg parts => uptoBulkAll parts + 1
  | .iface _ d => uptoBulk d + 1
  | .map entries => uptoBulkEntries entries + 1
  | .held _ => 1
def uptoBulkAll {H : Type} : List (DataW H) → Nat
  | [] => 0
  | d :: r => uptoBulk d + uptoBulkAll r
def uptoBulkEntries {H : Type} : List (Lit × DataW H) → Nat
  | [] => 0
  | x :: r => uptoBulkEntry x + uptoBulkEntries r
def uptoBulkEntry {H : Type} : Lit × DataW H → Nat
  | (.string bytes, d) => bytes.length + uptoBulk d + 1
  | (_, d) => uptoBulk d + 1
 end
def uptoSmall : (H : Type) → List (DataW H) → Bool := fun _ ds => decide (uptoBulkAll ds ≤ 1048576)
def OpenSpec.upto (s : _root_.Go.ChangeSpec) : _root_.Go.OpenSpec := { _root_.Go.OpenSpec.ofChange s with cond := some uptoSmall }

/-- 'gleaninglaw8.BucketTells', WHERE WHAT IT READS IS OF BULK AT MOST 1048576: true; the input reads as it did. -/
def bucketTellsUptoRow : OpenClaim := { program := "ytkmcdeejkcncpaadoor", sum := "5c199bb24039f540a12befd0559330b469326761a5293343294982e370d29add", func := "gleaning/gleaninglaw8.BucketTells", spec := "bucketTells", named := ["gleaning/bucket.bounds"], apart := false, laid := [("gleaning/bucket.bounds", laid_gleaning_bucket_bounds)], narrowed := true }
def BucketTellsUptoSaid : Prop := bucketTellsUptoRow.holds Tryd.pinned (OpenSpec.upto bucketTellsSpec)

/-- 'gleaninglaw8.BucketCounts', WHERE WHAT IT READS IS OF BULK AT MOST 1048576: true; the input reads as it did. -/
def bucketCountsUptoRow : OpenClaim := { program := "ytkmcdeejkcncpaadoor", sum := "5c199bb24039f540a12befd0559330b469326761a5293343294982e370d29add", func := "gleaning/gleaninglaw8.BucketCounts", spec := "bucketCounts", named := ["gleaning/bucket.bounds"], apart := false, laid := [("gleaning/bucket.bounds", laid_gleaning_bucket_bounds)], narrowed := true }
def BucketCountsUptoSaid : Prop := bucketCountsUptoRow.holds Tryd.pinned (OpenSpec.upto bucketCountsSpec)

/-- 'gleaninglaw8.BucketJoins', WHERE WHAT IT READS IS OF BULK AT MOST 1048576: true; the input reads as it did. -/
def bucketJoinsUptoRow : OpenClaim := { program := "ytkmcdeejkcncpaadoor", sum := "5c199bb24039f540a12befd0559330b469326761a5293343294982e370d29add", func := "gleaning/gleaninglaw8.BucketJoins", spec := "bucketJoins", named := ["gleaning/bucket.bounds"], apart := false, laid := [("gleaning/bucket.bounds", laid_gleaning_bucket_bounds)], narrowed := true }
def BucketJoinsUptoSaid : Prop := bucketJoinsUptoRow.holds Tryd.pinned (OpenSpec.upto bucketJoinsSpec)

/-- 'gleaninglaw31.QuantOrder', WHERE WHAT IT READS IS OF BULK AT MOST 1048576: true; the input reads as it did. -/
def quantOrderUptoRow : OpenClaim := { program := "ytkmcdeejkcncpaadoor", sum := "5c199bb24039f540a12befd0559330b469326761a5293343294982e370d29add", func := "gleaning/gleaninglaw31.QuantOrder", spec := "quantOrder", named := ["gleaning/quant.lowest", "math/bits.divideError", "math/bits.overflowError"], apart := false, laid := [("gleaning/quant.lowest", laid_gleaning_quant_lowest)], narrowed := true }
def QuantOrderUptoSaid : Prop := quantOrderUptoRow.holds Tryd.pinned (OpenSpec.upto quantOrderSpec)

/-- 'gleaninglaw31.QuantSorts', WHERE WHAT IT READS IS OF BULK AT MOST 1048576: true; the input reads as it did. -/
def quantSortsUptoRow : OpenClaim := { program := "ytkmcdeejkcncpaadoor", sum := "5c199bb24039f540a12befd0559330b469326761a5293343294982e370d29add", func := "gleaning/gleaninglaw31.QuantSorts", spec := "quantSorts", named := ["gleaning/quant.lowest", "math/bits.divideError", "math/bits.overflowError"], apart := false, laid := [("gleaning/quant.lowest", laid_gleaning_quant_lowest)], narrowed := true }
def QuantSortsUptoSaid : Prop := quantSortsUptoRow.holds Tryd.pinned (OpenSpec.upto quantSortsSpec)

/-- 'gleaninglaw31.QuantTells', WHERE WHAT IT READS IS OF BULK AT MOST 1048576: true; the input reads as it did. -/
def quantTellsUptoRow : OpenClaim := { program := "ytkmcdeejkcncpaadoor", sum := "5c199bb24039f540a12befd0559330b469326761a5293343294982e370d29add", func := "gleaning/gleaninglaw31.QuantTells", spec := "quantTells", named := ["gleaning/quant.lowest", "math/bits.divideError", "math/bits.overflowError"], apart := false, laid := [("gleaning/quant.lowest", laid_gleaning_quant_lowest)], narrowed := true }
def QuantTellsUptoSaid : Prop := quantTellsUptoRow.holds Tryd.pinned (OpenSpec.upto quantTellsSpec)

end Rows
end Go.Proofs.YtkmcdeejkcncpaaDoor
