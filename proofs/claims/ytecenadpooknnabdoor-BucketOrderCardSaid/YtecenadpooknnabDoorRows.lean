/-
  NARROWER THAN 'FOR EVERY INPUT', by the rows' own cells (each row's printed sentence says how): BucketOrder: laid · WindowTells: laid · WindowHolds: laid · WindowNest: laid · RollupTells: laid · RollupAny: laid · RollupSums: laid · RollupCounts: laid · RollupExpires: laid.
  DERIVED. THE GIVEN ROWS OF THIS SEAT. 9 by the template 'for every input the law returns true; each argument reads behind the call as it read before'; 0 by the template 'total and deterministic' (their statements: YtecenadpooknnabDoorTotals.lean).
  GIVEN WITH THE SEED: the statements are not yours to turn. If you find one false, say at which input.
  Laid BY PROGRAM, IN A SANDBOX (cutbox-rows.mjs): the forced cells as the released guide's own fill.sh prints them over the translation 3d3767414fdc9686… (all of the seat's roots in one cut). By AI agents, Wed Nov 11 2026. No macro, syntax, notation, axiom, sorry.
-/
import Derived.Test.YtecenadpooknnabDoorChecked
import GoSem.Claim
import GoSem.ClaimJoined
import GoSem.ClaimMapViews
import Derived.JoinedTies
import Derived.KernelRfl
namespace Go.Proofs.YtecenadpooknnabDoor
/- THE CELL 'sum', in the pinned program and in every row, IS THE sha256 OF THE DUMP (.gsa) THAT YtecenadpooknnabDoorProg.lean LOADS. Nothing in Lean hashes anything: it is a label: what it is worth is what the hold of that sum in a sandbox is worth. -/
noncomputable def Tryd.pinned : Pinned := { name := "ytecenadpooknnabdoor", sum := "3d3767414fdc968679a2200f30cf9b51baf61c91ec0260673adf6714b3288166", checked := Tryd.checked }
namespace Rows
def none {H : Type} : Left H := { results := [], args := [] }

/- WHAT THE LISTED PACKAGE-LEVEL VARIABLES READ AS WHEN THE CALL BEGINS. Each datum BY PROGRAM (the guide's laid-datum.mjs) off the statement by which the dump's own 'gosem.cut.vars' lays the variable. In a bare row this is a premise. The card (YtecenadpooknnabDoorCards.lean) ties it to the program's text. -/
def laid_gleaning_bucket_bounds {H : Type} : DataW H := .agg [.lit (.int .i64 1), .lit (.int .i64 5), .lit (.int .i64 10), .lit (.int .i64 50), .lit (.int .i64 100), .lit (.int .i64 500), .lit (.int .i64 1000)]
def laid_gleaning_window_lengths {H : Type} : DataW H := .agg [.lit (.int .i64 60), .lit (.int .i64 3600), .lit (.int .i64 86400)]

/-- 'gleaninglaw8.BucketOrder': WHATEVER THE INPUT: true; the input reads as it did. -/
def bucketOrderSpec : ChangeSpec := { name := "bucketOrder", fn := fun _ => fun
  | [d1, d2] => { results := [.lit (.bool true)], args := [d1, d2] }
  | _ => none }
def bucketOrderRow : OpenClaim := { program := "ytecenadpooknnabdoor", sum := "3d3767414fdc968679a2200f30cf9b51baf61c91ec0260673adf6714b3288166", func := "gleaning/gleaninglaw8.BucketOrder", spec := "bucketOrder", named := ["gleaning/bucket.bounds"], apart := false, laid := [("gleaning/bucket.bounds", laid_gleaning_bucket_bounds)] }
def BucketOrderSaid : Prop := bucketOrderRow.holds Tryd.pinned (OpenSpec.ofChange bucketOrderSpec)

/-- ITS FALSE NEIGHBOUR: 'it returns false'. Refute it at one input. -/
def bucketOrderWrong : ChangeSpec := { name := "bucketOrder", fn := fun _ => fun
  | [d1, d2] => { results := [.lit (.bool false)], args := [d1, d2] }
  | _ => none }
def BucketOrderWrongFalsely : Prop := bucketOrderRow.holds Tryd.pinned (OpenSpec.ofChange bucketOrderWrong)

/-- 'gleaninglaw9.WindowTells': WHATEVER THE INPUT: true; the input reads as it did. -/
def windowTellsSpec : ChangeSpec := { name := "windowTells", fn := fun _ => fun
  | [d1, d2, d3] => { results := [.lit (.bool true)], args := [d1, d2, d3] }
  | _ => none }
def windowTellsRow : OpenClaim := { program := "ytecenadpooknnabdoor", sum := "3d3767414fdc968679a2200f30cf9b51baf61c91ec0260673adf6714b3288166", func := "gleaning/gleaninglaw9.WindowTells", spec := "windowTells", named := ["gleaning/window.lengths"], apart := false, laid := [("gleaning/window.lengths", laid_gleaning_window_lengths)] }
def WindowTellsSaid : Prop := windowTellsRow.holds Tryd.pinned (OpenSpec.ofChange windowTellsSpec)

/-- ITS FALSE NEIGHBOUR: 'it returns false'. Refute it at one input. -/
def windowTellsWrong : ChangeSpec := { name := "windowTells", fn := fun _ => fun
  | [d1, d2, d3] => { results := [.lit (.bool false)], args := [d1, d2, d3] }
  | _ => none }
def WindowTellsWrongFalsely : Prop := windowTellsRow.holds Tryd.pinned (OpenSpec.ofChange windowTellsWrong)

/-- 'gleaninglaw9.WindowHolds': WHATEVER THE INPUT: true; the input reads as it did. -/
def windowHoldsSpec : ChangeSpec := { name := "windowHolds", fn := fun _ => fun
  | [d1, d2] => { results := [.lit (.bool true)], args := [d1, d2] }
  | _ => none }
def windowHoldsRow : OpenClaim := { program := "ytecenadpooknnabdoor", sum := "3d3767414fdc968679a2200f30cf9b51baf61c91ec0260673adf6714b3288166", func := "gleaning/gleaninglaw9.WindowHolds", spec := "windowHolds", named := ["gleaning/window.lengths"], apart := false, laid := [("gleaning/window.lengths", laid_gleaning_window_lengths)] }
def WindowHoldsSaid : Prop := windowHoldsRow.holds Tryd.pinned (OpenSpec.ofChange windowHoldsSpec)

/-- ITS FALSE NEIGHBOUR: 'it returns false'. Refute it at one input. -/
def windowHoldsWrong : ChangeSpec := { name := "windowHolds", fn := fun _ => fun
  | [d1, d2] => { results := [.lit (.bool false)], args := [d1, d2] }
  | _ => none }
def WindowHoldsWrongFalsely : Prop := windowHoldsRow.holds Tryd.pinned (OpenSpec.ofChange windowHoldsWrong)

/-- 'gleaninglaw9.WindowNest': WHATEVER THE INPUT: true; the input reads as it did. -/
def windowNestSpec : ChangeSpec := { name := "windowNest", fn := fun _ => fun
  | [d1, d2] => { results := [.lit (.bool true)], args := [d1, d2] }
  | _ => none }
def windowNestRow : OpenClaim := { program := "ytecenadpooknnabdoor", sum := "3d3767414fdc968679a2200f30cf9b51baf61c91ec0260673adf6714b3288166", func := "gleaning/gleaninglaw9.WindowNest", spec := "windowNest", named := ["gleaning/window.lengths"], apart := false, laid := [("gleaning/window.lengths", laid_gleaning_window_lengths)] }
def WindowNestSaid : Prop := windowNestRow.holds Tryd.pinned (OpenSpec.ofChange windowNestSpec)

/-- ITS FALSE NEIGHBOUR: 'it returns false'. Refute it at one input. -/
def windowNestWrong : ChangeSpec := { name := "windowNest", fn := fun _ => fun
  | [d1, d2] => { results := [.lit (.bool false)], args := [d1, d2] }
  | _ => none }
def WindowNestWrongFalsely : Prop := windowNestRow.holds Tryd.pinned (OpenSpec.ofChange windowNestWrong)

/-- 'gleaninglaw10.RollupTells': WHATEVER THE INPUT: true; the input reads as it did. -/
def rollupTellsSpec : ChangeSpec := { name := "rollupTells", fn := fun _ => fun
  | [d1, d2, d3, d4, d5, d6, d7, d8] => { results := [.lit (.bool true)], args := [d1, d2, d3, d4, d5, d6, d7, d8] }
  | _ => none }
def rollupTellsRow : OpenClaim := { program := "ytecenadpooknnabdoor", sum := "3d3767414fdc968679a2200f30cf9b51baf61c91ec0260673adf6714b3288166", func := "gleaning/gleaninglaw10.RollupTells", spec := "rollupTells", inPlace := ["internal/bytealg.abigen_runtime_cmpstring", "sync/atomic.AddInt64", "slices.overlaps[gleaning/api.Row]", "sync/atomic.LoadInt64"], unfollowed := true, recurses := true, named := ["gleaning/bucket.bounds", "gleaning/window.lengths"], apart := false, laid := [("gleaning/window.lengths", laid_gleaning_window_lengths), ("gleaning/bucket.bounds", laid_gleaning_bucket_bounds)] }
def RollupTellsSaid : Prop := rollupTellsRow.holds Tryd.pinned (OpenSpec.ofChange rollupTellsSpec)

/-- ITS FALSE NEIGHBOUR: 'it returns false'. Refute it at one input. -/
def rollupTellsWrong : ChangeSpec := { name := "rollupTells", fn := fun _ => fun
  | [d1, d2, d3, d4, d5, d6, d7, d8] => { results := [.lit (.bool false)], args := [d1, d2, d3, d4, d5, d6, d7, d8] }
  | _ => none }
def RollupTellsWrongFalsely : Prop := rollupTellsRow.holds Tryd.pinned (OpenSpec.ofChange rollupTellsWrong)

/-- 'gleaninglaw10.RollupAny': WHATEVER THE INPUT: true; the input reads as it did. -/
def rollupAnySpec : ChangeSpec := { name := "rollupAny", fn := fun _ => fun
  | [d1, d2, d3] => { results := [.lit (.bool true)], args := [d1, d2, d3] }
  | _ => none }
def rollupAnyRow : OpenClaim := { program := "ytecenadpooknnabdoor", sum := "3d3767414fdc968679a2200f30cf9b51baf61c91ec0260673adf6714b3288166", func := "gleaning/gleaninglaw10.RollupAny", spec := "rollupAny", inPlace := ["internal/bytealg.abigen_runtime_cmpstring", "sync/atomic.AddInt64", "slices.overlaps[gleaning/api.Row]", "sync/atomic.LoadInt64"], unfollowed := true, recurses := true, named := ["gleaning/bucket.bounds", "gleaning/window.lengths"], apart := false, laid := [("gleaning/window.lengths", laid_gleaning_window_lengths), ("gleaning/bucket.bounds", laid_gleaning_bucket_bounds)] }
def RollupAnySaid : Prop := rollupAnyRow.holds Tryd.pinned (OpenSpec.ofChange rollupAnySpec)

/-- ITS FALSE NEIGHBOUR: 'it returns false'. Refute it at one input. -/
def rollupAnyWrong : ChangeSpec := { name := "rollupAny", fn := fun _ => fun
  | [d1, d2, d3] => { results := [.lit (.bool false)], args := [d1, d2, d3] }
  | _ => none }
def RollupAnyWrongFalsely : Prop := rollupAnyRow.holds Tryd.pinned (OpenSpec.ofChange rollupAnyWrong)

/-- 'gleaninglaw10.RollupSums': WHATEVER THE INPUT: true; the input reads as it did. -/
def rollupSumsSpec : ChangeSpec := { name := "rollupSums", fn := fun _ => fun
  | [d1, d2] => { results := [.lit (.bool true)], args := [d1, d2] }
  | _ => none }
def rollupSumsRow : OpenClaim := { program := "ytecenadpooknnabdoor", sum := "3d3767414fdc968679a2200f30cf9b51baf61c91ec0260673adf6714b3288166", func := "gleaning/gleaninglaw10.RollupSums", spec := "rollupSums", inPlace := ["internal/bytealg.abigen_runtime_cmpstring", "sync/atomic.AddInt64", "slices.overlaps[gleaning/api.Row]", "sync/atomic.LoadInt64"], unfollowed := true, recurses := true, named := ["gleaning/bucket.bounds", "gleaning/window.lengths"], apart := false, laid := [("gleaning/window.lengths", laid_gleaning_window_lengths), ("gleaning/bucket.bounds", laid_gleaning_bucket_bounds)] }
def RollupSumsSaid : Prop := rollupSumsRow.holds Tryd.pinned (OpenSpec.ofChange rollupSumsSpec)

/-- ITS FALSE NEIGHBOUR: 'it returns false'. Refute it at one input. -/
def rollupSumsWrong : ChangeSpec := { name := "rollupSums", fn := fun _ => fun
  | [d1, d2] => { results := [.lit (.bool false)], args := [d1, d2] }
  | _ => none }
def RollupSumsWrongFalsely : Prop := rollupSumsRow.holds Tryd.pinned (OpenSpec.ofChange rollupSumsWrong)

/-- 'gleaninglaw10.RollupCounts': WHATEVER THE INPUT: true; the input reads as it did. -/
def rollupCountsSpec : ChangeSpec := { name := "rollupCounts", fn := fun _ => fun
  | [d1, d2] => { results := [.lit (.bool true)], args := [d1, d2] }
  | _ => none }
def rollupCountsRow : OpenClaim := { program := "ytecenadpooknnabdoor", sum := "3d3767414fdc968679a2200f30cf9b51baf61c91ec0260673adf6714b3288166", func := "gleaning/gleaninglaw10.RollupCounts", spec := "rollupCounts", inPlace := ["internal/bytealg.abigen_runtime_cmpstring", "sync/atomic.AddInt64", "slices.overlaps[gleaning/api.Row]", "sync/atomic.LoadInt64"], unfollowed := true, recurses := true, named := ["gleaning/bucket.bounds", "gleaning/window.lengths"], apart := false, laid := [("gleaning/window.lengths", laid_gleaning_window_lengths), ("gleaning/bucket.bounds", laid_gleaning_bucket_bounds)] }
def RollupCountsSaid : Prop := rollupCountsRow.holds Tryd.pinned (OpenSpec.ofChange rollupCountsSpec)

/-- ITS FALSE NEIGHBOUR: 'it returns false'. Refute it at one input. -/
def rollupCountsWrong : ChangeSpec := { name := "rollupCounts", fn := fun _ => fun
  | [d1, d2] => { results := [.lit (.bool false)], args := [d1, d2] }
  | _ => none }
def RollupCountsWrongFalsely : Prop := rollupCountsRow.holds Tryd.pinned (OpenSpec.ofChange rollupCountsWrong)

/-- 'gleaninglaw10.RollupExpires': WHATEVER THE INPUT: true; the input reads as it did. -/
def rollupExpiresSpec : ChangeSpec := { name := "rollupExpires", fn := fun _ => fun
  | [d1, d2, d3, d4] => { results := [.lit (.bool true)], args := [d1, d2, d3, d4] }
  | _ => none }
def rollupExpiresRow : OpenClaim := { program := "ytecenadpooknnabdoor", sum := "3d3767414fdc968679a2200f30cf9b51baf61c91ec0260673adf6714b3288166", func := "gleaning/gleaninglaw10.RollupExpires", spec := "rollupExpires", inPlace := ["internal/bytealg.abigen_runtime_cmpstring", "sync/atomic.AddInt64", "slices.overlaps[gleaning/api.Row]", "sync/atomic.LoadInt64"], unfollowed := true, recurses := true, named := ["gleaning/bucket.bounds", "gleaning/window.lengths"], apart := false, laid := [("gleaning/window.lengths", laid_gleaning_window_lengths), ("gleaning/bucket.bounds", laid_gleaning_bucket_bounds)] }
def RollupExpiresSaid : Prop := rollupExpiresRow.holds Tryd.pinned (OpenSpec.ofChange rollupExpiresSpec)

/-- ITS FALSE NEIGHBOUR: 'it returns false'. Refute it at one input. -/
def rollupExpiresWrong : ChangeSpec := { name := "rollupExpires", fn := fun _ => fun
  | [d1, d2, d3, d4] => { results := [.lit (.bool false)], args := [d1, d2, d3, d4] }
  | _ => none }
def RollupExpiresWrongFalsely : Prop := rollupExpiresRow.holds Tryd.pinned (OpenSpec.ofChange rollupExpiresWrong)

/- THE SECOND FORM. 'bulk': how many values and letters a reading holds, each counted each time it is reached (what is shared counts as often as it is met; a slice's spare places count too). A statement '..UptoSaid' is the law's where the arguments, and the package variables that the reading takes, are together of bulk at most 1048576: NARROWER than '..Said'. Prove '..Said' where nothing that the law and all that it calls make is longer than what came in: it says more and counts as full. Else prove '..UptoSaid'. A law counts once. -/
mutual
def uptoBulk {H : Type} : DataW H → Nat
  | .lit (.string bytes) => bytes.length + 1
  | .lit _ => 1
  | .nil => 1
  | .ptr d => uptoBulk d + 1
  | .slice elems spare => uptoBulkAll elems + uptoBulkAll spare + 1
  | .agg parts => uptoBulkAll parts + 1
  | .iface _ d => uptoBulk d + 1
  | .map entries => uptoBulkEntries entries + 1
  | .held _ => 1
def uptoBulkAll {H : Type} : List (DataW H) → Nat
  | [] => 0
  | d :: r => uptoBulk d + uptoBulkAll r
def uptoBulkEntries {H : Type} : List (Lit × DataW H) → Nat
  | [] => 0
  | x :: r => uptoBulkEntry x + uptoBulkEntries r
def uptoBulkEntry {H : Type} : Lit × DataW H → Nat
  | (.string bytes, d) => bytes.length + uptoBulk d + 1
  | (_, d) => uptoBulk d + 1
 end
def uptoSmall : (H : Type) → List (DataW H) → Bool := fun _ ds => decide (uptoBulkAll ds ≤ 1048576)
def OpenSpec.upto (s : _root_.Go.ChangeSpec) : _root_.Go.OpenSpec := { _root_.Go.OpenSpec.ofChange s with cond := some uptoSmall }

/-- 'gleaninglaw8.BucketOrder', WHERE WHAT IT READS IS OF BULK AT MOST 1048576: true; the input reads as it did. -/
def bucketOrderUptoRow : OpenClaim := { program := "ytecenadpooknnabdoor", sum := "3d3767414fdc968679a2200f30cf9b51baf61c91ec0260673adf6714b3288166", func := "gleaning/gleaninglaw8.BucketOrder", spec := "bucketOrder", named := ["gleaning/bucket.bounds"], apart := false, laid := [("gleaning/bucket.bounds", laid_gleaning_bucket_bounds)], narrowed := true }
def BucketOrderUptoSaid : Prop := bucketOrderUptoRow.holds Tryd.pinned (OpenSpec.upto bucketOrderSpec)

/-- 'gleaninglaw9.WindowTells', WHERE WHAT IT READS IS OF BULK AT MOST 1048576: true; the input reads as it did. -/
def windowTellsUptoRow : OpenClaim := { program := "ytecenadpooknnabdoor", sum := "3d3767414fdc968679a2200f30cf9b51baf61c91ec0260673adf6714b3288166", func := "gleaning/gleaninglaw9.WindowTells", spec := "windowTells", named := ["gleaning/window.lengths"], apart := false, laid := [("gleaning/window.lengths", laid_gleaning_window_lengths)], narrowed := true }
def WindowTellsUptoSaid : Prop := windowTellsUptoRow.holds Tryd.pinned (OpenSpec.upto windowTellsSpec)

/-- 'gleaninglaw9.WindowHolds', WHERE WHAT IT READS IS OF BULK AT MOST 1048576: true; the input reads as it did. -/
def windowHoldsUptoRow : OpenClaim := { program := "ytecenadpooknnabdoor", sum := "3d3767414fdc968679a2200f30cf9b51baf61c91ec0260673adf6714b3288166", func := "gleaning/gleaninglaw9.WindowHolds", spec := "windowHolds", named := ["gleaning/window.lengths"], apart := false, laid := [("gleaning/window.lengths", laid_gleaning_window_lengths)], narrowed := true }
def WindowHoldsUptoSaid : Prop := windowHoldsUptoRow.holds Tryd.pinned (OpenSpec.upto windowHoldsSpec)

/-- 'gleaninglaw9.WindowNest', WHERE WHAT IT READS IS OF BULK AT MOST 1048576: true; the input reads as it did. -/
def windowNestUptoRow : OpenClaim := { program := "ytecenadpooknnabdoor", sum := "3d3767414fdc968679a2200f30cf9b51baf61c91ec0260673adf6714b3288166", func := "gleaning/gleaninglaw9.WindowNest", spec := "windowNest", named := ["gleaning/window.lengths"], apart := false, laid := [("gleaning/window.lengths", laid_gleaning_window_lengths)], narrowed := true }
def WindowNestUptoSaid : Prop := windowNestUptoRow.holds Tryd.pinned (OpenSpec.upto windowNestSpec)

/-- 'gleaninglaw10.RollupTells', WHERE WHAT IT READS IS OF BULK AT MOST 1048576: true; the input reads as it did. -/
def rollupTellsUptoRow : OpenClaim := { program := "ytecenadpooknnabdoor", sum := "3d3767414fdc968679a2200f30cf9b51baf61c91ec0260673adf6714b3288166", func := "gleaning/gleaninglaw10.RollupTells", spec := "rollupTells", inPlace := ["internal/bytealg.abigen_runtime_cmpstring", "sync/atomic.AddInt64", "slices.overlaps[gleaning/api.Row]", "sync/atomic.LoadInt64"], unfollowed := true, recurses := true, named := ["gleaning/bucket.bounds", "gleaning/window.lengths"], apart := false, laid := [("gleaning/window.lengths", laid_gleaning_window_lengths), ("gleaning/bucket.bounds", laid_gleaning_bucket_bounds)], narrowed := true }
def RollupTellsUptoSaid : Prop := rollupTellsUptoRow.holds Tryd.pinned (OpenSpec.upto rollupTellsSpec)

/-- 'gleaninglaw10.RollupAny', WHERE WHAT IT READS IS OF BULK AT MOST 1048576: true; the input reads as it did. -/
def rollupAnyUptoRow : OpenClaim := { program := "ytecenadpooknnabdoor", sum := "3d3767414fdc968679a2200f30cf9b51baf61c91ec0260673adf6714b3288166", func := "gleaning/gleaninglaw10.RollupAny", spec := "rollupAny", inPlace := ["internal/bytealg.abigen_runtime_cmpstring", "sync/atomic.AddInt64", "slices.overlaps[gleaning/api.Row]", "sync/atomic.LoadInt64"], unfollowed := true, recurses := true, named := ["gleaning/bucket.bounds", "gleaning/window.lengths"], apart := false, laid := [("gleaning/window.lengths", laid_gleaning_window_lengths), ("gleaning/bucket.bounds", laid_gleaning_bucket_bounds)], narrowed := true }
def RollupAnyUptoSaid : Prop := rollupAnyUptoRow.holds Tryd.pinned (OpenSpec.upto rollupAnySpec)

/-- 'gleaninglaw10.RollupSums', WHERE WHAT IT READS IS OF BULK AT MOST 1048576: true; the input reads as it did. -/
def rollupSumsUptoRow : OpenClaim := { program := "ytecenadpooknnabdoor", sum := "3d3767414fdc968679a2200f30cf9b51baf61c91ec0260673adf6714b3288166", func := "gleaning/gleaninglaw10.RollupSums", spec := "rollupSums", inPlace := ["internal/bytealg.abigen_runtime_cmpstring", "sync/atomic.AddInt64", "slices.overlaps[gleaning/api.Row]", "sync/atomic.LoadInt64"], unfollowed := true, recurses := true, named := ["gleaning/bucket.bounds", "gleaning/window.lengths"], apart := false, laid := [("gleaning/window.lengths", laid_gleaning_window_lengths), ("gleaning/bucket.bounds", laid_gleaning_bucket_bounds)], narrowed := true }
def RollupSumsUptoSaid : Prop := rollupSumsUptoRow.holds Tryd.pinned (OpenSpec.upto rollupSumsSpec)

/-- 'gleaninglaw10.RollupCounts', WHERE WHAT IT READS IS OF BULK AT MOST 1048576: true; the input reads as it did. -/
def rollupCountsUptoRow : OpenClaim := { program := "ytecenadpooknnabdoor", sum := "3d3767414fdc968679a2200f30cf9b51baf61c91ec0260673adf6714b3288166", func := "gleaning/gleaninglaw10.RollupCounts", spec := "rollupCounts", inPlace := ["internal/bytealg.abigen_runtime_cmpstring", "sync/atomic.AddInt64", "slices.overlaps[gleaning/api.Row]", "sync/atomic.LoadInt64"], unfollowed := true, recurses := true, named := ["gleaning/bucket.bounds", "gleaning/window.lengths"], apart := false, laid := [("gleaning/window.lengths", laid_gleaning_window_lengths), ("gleaning/bucket.bounds", laid_gleaning_bucket_bounds)], narrowed := true }
def RollupCountsUptoSaid : Prop := rollupCountsUptoRow.holds Tryd.pinned (OpenSpec.upto rollupCountsSpec)

/-- 'gleaninglaw10.RollupExpires', WHERE WHAT IT READS IS OF BULK AT MOST 1048576: true; the input reads as it did. -/
def rollupExpiresUptoRow : OpenClaim := { program := "ytecenadpooknnabdoor", sum := "3d3767414fdc968679a2200f30cf9b51baf61c91ec0260673adf6714b3288166", func := "gleaning/gleaninglaw10.RollupExpires", spec := "rollupExpires", inPlace := ["internal/bytealg.abigen_runtime_cmpstring", "sync/atomic.AddInt64", "slices.overlaps[gleaning/api.Row]", "sync/atomic.LoadInt64"], unfollowed := true, recurses := true, named := ["gleaning/bucket.bounds", "gleaning/window.lengths"], apart := false, laid := [("gleaning/window.lengths", laid_gleaning_window_lengths), ("gleaning/bucket.bounds", laid_gleaning_bucket_bounds)], narrowed := true }
def RollupExpiresUptoSaid : Prop := rollupExpiresUptoRow.holds Tryd.pinned (OpenSpec.upto rollupExpiresSpec)

end Rows
end Go.Proofs.YtecenadpooknnabDoor
