/-
  No cell of these rows narrows 'for every input' (looked for: loops, veiled, ifaces, maps, wideKeys, modest, calm, conditions, laid).
  DERIVED. THE GIVEN ROWS OF THIS SEAT. 5 by the template 'for every input the law returns true; each argument reads behind the call as it read before'; 0 by the template 'total and deterministic' (their statements: YtlpaaaiobclmoaaTotals.lean).
  GIVEN WITH THE SEED: the statements are not yours to turn. If you find one false, say at which input.
  Laid BY PROGRAM, IN A SANDBOX (cutbox-rows.mjs): the forced cells as the released guide's own fill.sh prints them over the translation bf9dc75089722a27… (all of the seat's roots in one cut). By AI agents, Wed Nov 11 2026. No macro, syntax, notation, axiom, sorry.
-/
import Derived.Test.YtlpaaaiobclmoaaChecked
import GoSem.Claim
import GoSem.ClaimJoined
import GoSem.ClaimMapViews
import Derived.JoinedTies
import Derived.KernelRfl
namespace Go.Proofs.Ytlpaaaiobclmoaa
/- THE CELL 'sum', in the pinned program and in every row, IS THE sha256 OF THE DUMP (.gsa) THAT YtlpaaaiobclmoaaProg.lean LOADS. Nothing in Lean hashes anything: it is a label: what it is worth is what the hold of that sum in a sandbox is worth. -/
noncomputable def Try.pinned : Pinned := { name := "ytlpaaaiobclmoaa", sum := "bf9dc75089722a27be1a3387ccfa690482bcd6284ddec6fa7bdb4140e62c0a72", checked := Try.checked }
namespace Rows
def none {H : Type} : Left H := { results := [], args := [] }

/-- 'gleaninglaw6.DevicePlays': WHATEVER THE INPUT: true; the input reads as it did. -/
def devicePlaysSpec : ChangeSpec := { name := "devicePlays", fn := fun _ => fun
  | [d1, d2] => { results := [.lit (.bool true)], args := [d1, d2] }
  | _ => none }
def devicePlaysRow : OpenClaim := { program := "ytlpaaaiobclmoaa", sum := "bf9dc75089722a27be1a3387ccfa690482bcd6284ddec6fa7bdb4140e62c0a72", func := "gleaning/gleaninglaw6.DevicePlays", spec := "devicePlays", inPlace := ["sync/atomic.LoadInt64", "internal/bytealg.abigen_runtime_cmpstring", "slices.overlaps[gleaning/api.File]", "sync/atomic.AddInt64"], unfollowed := true, recurses := true, apart := false }
def DevicePlaysSaid : Prop := devicePlaysRow.holds Try.pinned (OpenSpec.ofChange devicePlaysSpec)

/-- ITS FALSE NEIGHBOUR: 'it returns false'. Refute it at one input. -/
def devicePlaysWrong : ChangeSpec := { name := "devicePlays", fn := fun _ => fun
  | [d1, d2] => { results := [.lit (.bool false)], args := [d1, d2] }
  | _ => none }
def DevicePlaysWrongFalsely : Prop := devicePlaysRow.holds Try.pinned (OpenSpec.ofChange devicePlaysWrong)

/-- 'gleaninglaw6.DeviceSure': WHATEVER THE INPUT: true; the input reads as it did. -/
def deviceSureSpec : ChangeSpec := { name := "deviceSure", fn := fun _ => fun
  | [d1, d2, d3] => { results := [.lit (.bool true)], args := [d1, d2, d3] }
  | _ => none }
def deviceSureRow : OpenClaim := { program := "ytlpaaaiobclmoaa", sum := "bf9dc75089722a27be1a3387ccfa690482bcd6284ddec6fa7bdb4140e62c0a72", func := "gleaning/gleaninglaw6.DeviceSure", spec := "deviceSure", inPlace := ["sync/atomic.LoadInt64", "internal/bytealg.abigen_runtime_cmpstring", "slices.overlaps[gleaning/api.File]", "sync/atomic.AddInt64"], unfollowed := true, recurses := true, apart := false }
def DeviceSureSaid : Prop := deviceSureRow.holds Try.pinned (OpenSpec.ofChange deviceSureSpec)

/-- ITS FALSE NEIGHBOUR: 'it returns false'. Refute it at one input. -/
def deviceSureWrong : ChangeSpec := { name := "deviceSure", fn := fun _ => fun
  | [d1, d2, d3] => { results := [.lit (.bool false)], args := [d1, d2, d3] }
  | _ => none }
def DeviceSureWrongFalsely : Prop := deviceSureRow.holds Try.pinned (OpenSpec.ofChange deviceSureWrong)

/-- 'gleaninglaw6.DeviceFuse': WHATEVER THE INPUT: true; the input reads as it did. -/
def deviceFuseSpec : ChangeSpec := { name := "deviceFuse", fn := fun _ => fun
  | [d1, d2] => { results := [.lit (.bool true)], args := [d1, d2] }
  | _ => none }
def deviceFuseRow : OpenClaim := { program := "ytlpaaaiobclmoaa", sum := "bf9dc75089722a27be1a3387ccfa690482bcd6284ddec6fa7bdb4140e62c0a72", func := "gleaning/gleaninglaw6.DeviceFuse", spec := "deviceFuse", inPlace := ["sync/atomic.LoadInt64", "internal/bytealg.abigen_runtime_cmpstring", "slices.overlaps[gleaning/api.File]", "sync/atomic.AddInt64"], unfollowed := true, recurses := true, apart := false }
def DeviceFuseSaid : Prop := deviceFuseRow.holds Try.pinned (OpenSpec.ofChange deviceFuseSpec)

/-- ITS FALSE NEIGHBOUR: 'it returns false'. Refute it at one input. -/
def deviceFuseWrong : ChangeSpec := { name := "deviceFuse", fn := fun _ => fun
  | [d1, d2] => { results := [.lit (.bool false)], args := [d1, d2] }
  | _ => none }
def DeviceFuseWrongFalsely : Prop := deviceFuseRow.holds Try.pinned (OpenSpec.ofChange deviceFuseWrong)

/-- 'gleaninglaw6.DeviceNames': WHATEVER THE INPUT: true; the input reads as it did. -/
def deviceNamesSpec : ChangeSpec := { name := "deviceNames", fn := fun _ => fun
  | [d1, d2, d3, d4] => { results := [.lit (.bool true)], args := [d1, d2, d3, d4] }
  | _ => none }
def deviceNamesRow : OpenClaim := { program := "ytlpaaaiobclmoaa", sum := "bf9dc75089722a27be1a3387ccfa690482bcd6284ddec6fa7bdb4140e62c0a72", func := "gleaning/gleaninglaw6.DeviceNames", spec := "deviceNames", inPlace := ["sync/atomic.LoadInt64", "internal/bytealg.abigen_runtime_cmpstring", "slices.overlaps[gleaning/api.File]", "sync/atomic.AddInt64"], unfollowed := true, recurses := true, apart := false }
def DeviceNamesSaid : Prop := deviceNamesRow.holds Try.pinned (OpenSpec.ofChange deviceNamesSpec)

/-- ITS FALSE NEIGHBOUR: 'it returns false'. Refute it at one input. -/
def deviceNamesWrong : ChangeSpec := { name := "deviceNames", fn := fun _ => fun
  | [d1, d2, d3, d4] => { results := [.lit (.bool false)], args := [d1, d2, d3, d4] }
  | _ => none }
def DeviceNamesWrongFalsely : Prop := deviceNamesRow.holds Try.pinned (OpenSpec.ofChange deviceNamesWrong)

/-- 'gleaninglaw6.DeviceRoom': WHATEVER THE INPUT: true; the input reads as it did. -/
def deviceRoomSpec : ChangeSpec := { name := "deviceRoom", fn := fun _ => fun
  | [d1, d2] => { results := [.lit (.bool true)], args := [d1, d2] }
  | _ => none }
def deviceRoomRow : OpenClaim := { program := "ytlpaaaiobclmoaa", sum := "bf9dc75089722a27be1a3387ccfa690482bcd6284ddec6fa7bdb4140e62c0a72", func := "gleaning/gleaninglaw6.DeviceRoom", spec := "deviceRoom", inPlace := ["sync/atomic.LoadInt64", "internal/bytealg.abigen_runtime_cmpstring", "slices.overlaps[gleaning/api.File]", "sync/atomic.AddInt64"], unfollowed := true, recurses := true, apart := false }
def DeviceRoomSaid : Prop := deviceRoomRow.holds Try.pinned (OpenSpec.ofChange deviceRoomSpec)

/-- ITS FALSE NEIGHBOUR: 'it returns false'. Refute it at one input. -/
def deviceRoomWrong : ChangeSpec := { name := "deviceRoom", fn := fun _ => fun
  | [d1, d2] => { results := [.lit (.bool false)], args := [d1, d2] }
  | _ => none }
def DeviceRoomWrongFalsely : Prop := deviceRoomRow.holds Try.pinned (OpenSpec.ofChange deviceRoomWrong)

/- THE SECOND FORM. 'bulk': how many values and letters a reading holds, each counted each time it is reached (what is shared counts as often as it is met; a slice's spare places count too). A statement '..UptoSaid' is the law's where the arguments, and the package variables that the reading takes, are together of bulk at most 1048576: NARROWER than '..Said'. Prove '..Said' where nothing that the law and all that it calls make is longer than what came in: it says more and counts as full. Else prove '..UptoSaid'. A law counts once. -/
mutual
def uptoBulk {H : Type} : DataW H → Nat
  | .lit (.string bytes) => bytes.length + 1
  | .lit _ => 1
  | .nil => 1
  | .ptr d => uptoBulk d + 1
  | .slice elems spare => uptoBulkAll elems + uptoBulkAll spare + 1
  | .agg parts => uptoBulkAll parts + 1
  | .iface _ d => uptoBulk d + 1
  | .map entries => uptoBulkEntries entries + 1
  | .held _ => 1
def uptoBulkAll {H : Type} : List (DataW H) → Nat
  | [] => 0
  | d :: r => uptoBulk d + uptoBulkAll r
def uptoBulkEntries {H : Type} : List (Lit × DataW H) → Nat
  | [] => 0
  | x :: r => uptoBulkEntry x + uptoBulkEntries r
def uptoBulkEntry {H : Type} : Lit × DataW H → Nat
  | (.string bytes, d) => bytes.length + uptoBulk d + 1
  | (_, d) => uptoBulk d + 1
 end
def uptoSmall : (H : Type) → List (DataW H) → Bool := fun _ ds => decide (uptoBulkAll ds ≤ 1048576)
def OpenSpec.upto (s : _root_.Go.ChangeSpec) : _root_.Go.OpenSpec := { _root_.Go.OpenSpec.ofChange s with cond := some uptoSmall }

/-- 'gleaninglaw6.DevicePlays', WHERE WHAT IT READS IS OF BULK AT MOST 1048576: true; the input reads as it did. -/
def devicePlaysUptoRow : OpenClaim := { program := "ytlpaaaiobclmoaa", sum := "bf9dc75089722a27be1a3387ccfa690482bcd6284ddec6fa7bdb4140e62c0a72", func := "gleaning/gleaninglaw6.DevicePlays", spec := "devicePlays", inPlace := ["sync/atomic.LoadInt64", "internal/bytealg.abigen_runtime_cmpstring", "slices.overlaps[gleaning/api.File]", "sync/atomic.AddInt64"], unfollowed := true, recurses := true, apart := false, narrowed := true }
def DevicePlaysUptoSaid : Prop := devicePlaysUptoRow.holds Try.pinned (OpenSpec.upto devicePlaysSpec)

/-- 'gleaninglaw6.DeviceSure', WHERE WHAT IT READS IS OF BULK AT MOST 1048576: true; the input reads as it did. -/
def deviceSureUptoRow : OpenClaim := { program := "ytlpaaaiobclmoaa", sum := "bf9dc75089722a27be1a3387ccfa690482bcd6284ddec6fa7bdb4140e62c0a72", func := "gleaning/gleaninglaw6.DeviceSure", spec := "deviceSure", inPlace := ["sync/atomic.LoadInt64", "internal/bytealg.abigen_runtime_cmpstring", "slices.overlaps[gleaning/api.File]", "sync/atomic.AddInt64"], unfollowed := true, recurses := true, apart := false, narrowed := true }
def DeviceSureUptoSaid : Prop := deviceSureUptoRow.holds Try.pinned (OpenSpec.upto deviceSureSpec)

/-- 'gleaninglaw6.DeviceFuse', WHERE WHAT IT READS IS OF BULK AT MOST 1048576: true; the input reads as it did. -/
def deviceFuseUptoRow : OpenClaim := { program := "ytlpaaaiobclmoaa", sum := "bf9dc75089722a27be1a3387ccfa690482bcd6284ddec6fa7bdb4140e62c0a72", func := "gleaning/gleaninglaw6.DeviceFuse", spec := "deviceFuse", inPlace := ["sync/atomic.LoadInt64", "internal/bytealg.abigen_runtime_cmpstring", "slices.overlaps[gleaning/api.File]", "sync/atomic.AddInt64"], unfollowed := true, recurses := true, apart := false, narrowed := true }
def DeviceFuseUptoSaid : Prop := deviceFuseUptoRow.holds Try.pinned (OpenSpec.upto deviceFuseSpec)

/-- 'gleaninglaw6.DeviceNames', WHERE WHAT IT READS IS OF BULK AT MOST 1048576: true; the input reads as it did. -/
def deviceNamesUptoRow : OpenClaim := { program := "ytlpaaaiobclmoaa", sum := "bf9dc75089722a27be1a3387ccfa690482bcd6284ddec6fa7bdb4140e62c0a72", func := "gleaning/gleaninglaw6.DeviceNames", spec := "deviceNames", inPlace := ["sync/atomic.LoadInt64", "internal/bytealg.abigen_runtime_cmpstring", "slices.overlaps[gleaning/api.File]", "sync/atomic.AddInt64"], unfollowed := true, recurses := true, apart := false, narrowed := true }
def DeviceNamesUptoSaid : Prop := deviceNamesUptoRow.holds Try.pinned (OpenSpec.upto deviceNamesSpec)

/-- 'gleaninglaw6.DeviceRoom', WHERE WHAT IT READS IS OF BULK AT MOST 1048576: true; the input reads as it did. -/
def deviceRoomUptoRow : OpenClaim := { program := "ytlpaaaiobclmoaa", sum := "bf9dc75089722a27be1a3387ccfa690482bcd6284ddec6fa7bdb4140e62c0a72", func := "gleaning/gleaninglaw6.DeviceRoom", spec := "deviceRoom", inPlace := ["sync/atomic.LoadInt64", "internal/bytealg.abigen_runtime_cmpstring", "slices.overlaps[gleaning/api.File]", "sync/atomic.AddInt64"], unfollowed := true, recurses := true, apart := false, narrowed := true }
def DeviceRoomUptoSaid : Prop := deviceRoomUptoRow.holds Try.pinned (OpenSpec.upto deviceRoomSpec)

end Rows
end Go.Proofs.Ytlpaaaiobclmoaa
