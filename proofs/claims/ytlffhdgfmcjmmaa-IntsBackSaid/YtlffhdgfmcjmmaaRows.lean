/-
  No cell of these rows narrows 'for every input' (looked for: loops, veiled, ifaces, maps, wideKeys, modest, calm, conditions, laid).
  DERIVED. THE GIVEN ROWS OF THIS SEAT. 4 by the template 'for every input the law returns true; each argument reads behind the call as it read before'; 0 by the template 'total and deterministic' (their statements: YtlffhdgfmcjmmaaTotals.lean).
  GIVEN WITH THE SEED: the statements are not yours to turn. If you find one false, say at which input.
  Laid BY PROGRAM, IN A SANDBOX (cutbox-rows.mjs): the forced cells as the released guide's own fill.sh prints them over the translation b5e74a5fa790787e… (all of the seat's roots in one cut). By AI agents, Wed Nov 11 2026. No macro, syntax, notation, axiom, sorry.
-/
import Derived.Test.YtlffhdgfmcjmmaaChecked
import GoSem.Claim
import GoSem.ClaimJoined
import GoSem.ClaimMapViews
import Derived.JoinedTies
import Derived.KernelRfl
namespace Go.Proofs.Ytlffhdgfmcjmmaa
/- THE CELL 'sum', in the pinned program and in every row, IS THE sha256 OF THE DUMP (.gsa) THAT YtlffhdgfmcjmmaaProg.lean LOADS. Nothing in Lean hashes anything: it is a label: what it is worth is what the hold of that sum in a sandbox is worth. -/
noncomputable def Try.pinned : Pinned := { name := "ytlffhdgfmcjmmaa", sum := "b5e74a5fa790787ee721afdf200ac20f38a25bb13f220ecb1b4d528b76ae92eb", checked := Try.checked }
namespace Rows
def none {H : Type} : Left H := { results := [], args := [] }

/-- 'gleaninglaw1.IntsTell': WHATEVER THE INPUT: true; the input reads as it did. -/
def intsTellSpec : ChangeSpec := { name := "intsTell", fn := fun _ => fun
  | [d1, d2, d3] => { results := [.lit (.bool true)], args := [d1, d2, d3] }
  | _ => none }
def intsTellRow : OpenClaim := { program := "ytlffhdgfmcjmmaa", sum := "b5e74a5fa790787ee721afdf200ac20f38a25bb13f220ecb1b4d528b76ae92eb", func := "gleaning/gleaninglaw1.IntsTell", spec := "intsTell", apart := false }
def IntsTellSaid : Prop := intsTellRow.holds Try.pinned (OpenSpec.ofChange intsTellSpec)

/-- ITS FALSE NEIGHBOUR: 'it returns false'. Refute it at one input. -/
def intsTellWrong : ChangeSpec := { name := "intsTell", fn := fun _ => fun
  | [d1, d2, d3] => { results := [.lit (.bool false)], args := [d1, d2, d3] }
  | _ => none }
def IntsTellWrongFalsely : Prop := intsTellRow.holds Try.pinned (OpenSpec.ofChange intsTellWrong)

/-- 'gleaninglaw1.IntsBack': WHATEVER THE INPUT: true; the input reads as it did. -/
def intsBackSpec : ChangeSpec := { name := "intsBack", fn := fun _ => fun
  | [d1, d2, d3, d4] => { results := [.lit (.bool true)], args := [d1, d2, d3, d4] }
  | _ => none }
def intsBackRow : OpenClaim := { program := "ytlffhdgfmcjmmaa", sum := "b5e74a5fa790787ee721afdf200ac20f38a25bb13f220ecb1b4d528b76ae92eb", func := "gleaning/gleaninglaw1.IntsBack", spec := "intsBack", apart := false }
def IntsBackSaid : Prop := intsBackRow.holds Try.pinned (OpenSpec.ofChange intsBackSpec)

/-- ITS FALSE NEIGHBOUR: 'it returns false'. Refute it at one input. -/
def intsBackWrong : ChangeSpec := { name := "intsBack", fn := fun _ => fun
  | [d1, d2, d3, d4] => { results := [.lit (.bool false)], args := [d1, d2, d3, d4] }
  | _ => none }
def IntsBackWrongFalsely : Prop := intsBackRow.holds Try.pinned (OpenSpec.ofChange intsBackWrong)

/-- 'gleaninglaw1.IntsShort': WHATEVER THE INPUT: true; the input reads as it did. -/
def intsShortSpec : ChangeSpec := { name := "intsShort", fn := fun _ => fun
  | [d1, d2] => { results := [.lit (.bool true)], args := [d1, d2] }
  | _ => none }
def intsShortRow : OpenClaim := { program := "ytlffhdgfmcjmmaa", sum := "b5e74a5fa790787ee721afdf200ac20f38a25bb13f220ecb1b4d528b76ae92eb", func := "gleaning/gleaninglaw1.IntsShort", spec := "intsShort", apart := false }
def IntsShortSaid : Prop := intsShortRow.holds Try.pinned (OpenSpec.ofChange intsShortSpec)

/-- ITS FALSE NEIGHBOUR: 'it returns false'. Refute it at one input. -/
def intsShortWrong : ChangeSpec := { name := "intsShort", fn := fun _ => fun
  | [d1, d2] => { results := [.lit (.bool false)], args := [d1, d2] }
  | _ => none }
def IntsShortWrongFalsely : Prop := intsShortRow.holds Try.pinned (OpenSpec.ofChange intsShortWrong)

/-- 'gleaninglaw1.IntsRow': WHATEVER THE INPUT: true; the input reads as it did. -/
def intsRowSpec : ChangeSpec := { name := "intsRow", fn := fun _ => fun
  | [d1, d2] => { results := [.lit (.bool true)], args := [d1, d2] }
  | _ => none }
def intsRowRow : OpenClaim := { program := "ytlffhdgfmcjmmaa", sum := "b5e74a5fa790787ee721afdf200ac20f38a25bb13f220ecb1b4d528b76ae92eb", func := "gleaning/gleaninglaw1.IntsRow", spec := "intsRow", apart := false }
def IntsRowSaid : Prop := intsRowRow.holds Try.pinned (OpenSpec.ofChange intsRowSpec)

/-- ITS FALSE NEIGHBOUR: 'it returns false'. Refute it at one input. -/
def intsRowWrong : ChangeSpec := { name := "intsRow", fn := fun _ => fun
  | [d1, d2] => { results := [.lit (.bool false)], args := [d1, d2] }
  | _ => none }
def IntsRowWrongFalsely : Prop := intsRowRow.holds Try.pinned (OpenSpec.ofChange intsRowWrong)

/- THE SECOND FORM. 'bulk': how many values and letters a reading holds, each counted each time it is reached (what is shared counts as often as it is met; a slice's spare places count too). A statement '..UptoSaid' is the law's where the arguments, and the package variables that the reading takes, are together of bulk at most 1048576: NARROWER than '..Said'. Prove '..Said' where nothing that the law and all that it calls make is longer than what came in: it says more and counts as full. Else prove '..UptoSaid'. A law counts once. -/
mutual
def uptoBulk {H : Type} : DataW H → Nat
  | .lit (.string bytes) => bytes.length + 1
  | .lit _ => 1
  | .nil => 1
  | .ptr d => uptoBulk d + 1
  | .slice elems spare => uptoBulkAll elems + uptoBulkAll spare + 1
  | .agg parts => uptoBulkAll parts + 1
  | .iface _ d => uptoBulk d + 1
  | .map entries => uptoBulkEntries entries + 1
  | .held _ => 1
def uptoBulkAll {H : Type} : List (DataW H) → Nat
  | [] => 0
  | d :: r => uptoBulk d + uptoBulkAll r
def uptoBulkEntries {H : Type} : List (Lit × DataW H) → Nat
  | [] => 0
  | x :: r => uptoBulkEntry x + uptoBulkEntries r
def uptoBulkEntry {H : Type} : Lit × DataW H → Nat
  | (.string bytes, d) => bytes.length + uptoBulk d + 1
  | (_, d) => uptoBulk d + 1
 end
def uptoSmall : (H : Type) → List (DataW H) → Bool := fun _ ds => decide (uptoBulkAll ds ≤ 1048576)
def OpenSpec.upto (s : _root_.Go.ChangeSpec) : _root_.Go.OpenSpec := { _root_.Go.OpenSpec.ofChange s with cond := some uptoSmall }

/-- 'gleaninglaw1.IntsTell', WHERE WHAT IT READS IS OF BULK AT MOST 1048576: true; the input reads as it did. -/
def intsTellUptoRow : OpenClaim := { program := "ytlffhdgfmcjmmaa", sum := "b5e74a5fa790787ee721afdf200ac20f38a25bb13f220ecb1b4d528b76ae92eb", func := "gleaning/gleaninglaw1.IntsTell", spec := "intsTell", apart := false, narrowed := true }
def IntsTellUptoSaid : Prop := intsTellUptoRow.holds Try.pinned (OpenSpec.upto intsTellSpec)

/-- 'gleaninglaw1.IntsBack', WHERE WHAT IT READS IS OF BULK AT MOST 1048576: true; the input reads as it did. -/
def intsBackUptoRow : OpenClaim := { program := "ytlffhdgfmcjmmaa", sum := "b5e74a5fa790787ee721afdf200ac20f38a25bb13f220ecb1b4d528b76ae92eb", func := "gleaning/gleaninglaw1.IntsBack", spec := "intsBack", apart := false, narrowed := true }
def IntsBackUptoSaid : Prop := intsBackUptoRow.holds Try.pinned (OpenSpec.upto intsBackSpec)

/-- 'gleaninglaw1.IntsShort', WHERE WHAT IT READS IS OF BULK AT MOST 1048576: true; the input reads as it did. -/
def intsShortUptoRow : OpenClaim := { program := "ytlffhdgfmcjmmaa", sum := "b5e74a5fa790787ee721afdf200ac20f38a25bb13f220ecb1b4d528b76ae92eb", func := "gleaning/gleaninglaw1.IntsShort", spec := "intsShort", apart := false, narrowed := true }
def IntsShortUptoSaid : Prop := intsShortUptoRow.holds Try.pinned (OpenSpec.upto intsShortSpec)

/-- 'gleaninglaw1.IntsRow', WHERE WHAT IT READS IS OF BULK AT MOST 1048576: true; the input reads as it did. -/
def intsRowUptoRow : OpenClaim := { program := "ytlffhdgfmcjmmaa", sum := "b5e74a5fa790787ee721afdf200ac20f38a25bb13f220ecb1b4d528b76ae92eb", func := "gleaning/gleaninglaw1.IntsRow", spec := "intsRow", apart := false, narrowed := true }
def IntsRowUptoSaid : Prop := intsRowUptoRow.holds Try.pinned (OpenSpec.upto intsRowSpec)

end Rows
end Go.Proofs.Ytlffhdgfmcjmmaa
