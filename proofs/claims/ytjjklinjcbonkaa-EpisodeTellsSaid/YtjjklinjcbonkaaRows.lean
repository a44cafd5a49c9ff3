/-
  No cell of these rows narrows 'for every input' (looked for: loops, veiled, ifaces, maps, wideKeys, modest, calm, conditions, laid).
  DERIVED. THE GIVEN ROWS OF THIS SEAT. 4 by the template 'for every input the law returns true; each argument reads behind the call as it read before'; 0 by the template 'total and deterministic' (their statements: YtjjklinjcbonkaaTotals.lean).
  GIVEN WITH THE SEED: the statements are not yours to turn. If you find one false, say at which input.
  Laid BY PROGRAM, IN A SANDBOX (cutbox-rows.mjs): the forced cells as the released guide's own fill.sh prints them over the translation e4883de13e55eeb9… (all of the seat's roots in one cut). By AI agents, Wed Nov 11 2026. No macro, syntax, notation, axiom, sorry.
-/
import Derived.Test.YtjjklinjcbonkaaChecked
import GoSem.Claim
import GoSem.ClaimJoined
import GoSem.ClaimMapViews
import Derived.JoinedTies
import Derived.KernelRfl
namespace Go.Proofs.Ytjjklinjcbonkaa
/- THE CELL 'sum', in the pinned program and in every row, IS THE sha256 OF THE DUMP (.gsa) THAT YtjjklinjcbonkaaProg.lean LOADS. Nothing in Lean hashes anything: it is a label: what it is worth is what the hold of that sum in a sandbox is worth. -/
noncomputable def Try.pinned : Pinned := { name := "ytjjklinjcbonkaa", sum := "e4883de13e55eeb9a94edb5d7adaed826fa8ca69c4bbd736134b2409abf70bd9", checked := Try.checked }
namespace Rows
def none {H : Type} : Left H := { results := [], args := [] }

/-- 'gleaninglaw15.EpisodeTells': WHATEVER THE INPUT: true; the input reads as it did. -/
def episodeTellsSpec : ChangeSpec := { name := "episodeTells", fn := fun _ => fun
  | [d1, d2, d3, d4] => { results := [.lit (.bool true)], args := [d1, d2, d3, d4] }
  | _ => none }
def episodeTellsRow : OpenClaim := { program := "ytjjklinjcbonkaa", sum := "e4883de13e55eeb9a94edb5d7adaed826fa8ca69c4bbd736134b2409abf70bd9", func := "gleaning/gleaninglaw15.EpisodeTells", spec := "episodeTells", apart := false }
def EpisodeTellsSaid : Prop := episodeTellsRow.holds Try.pinned (OpenSpec.ofChange episodeTellsSpec)

/-- ITS FALSE NEIGHBOUR: 'it returns false'. Refute it at one input. -/
def episodeTellsWrong : ChangeSpec := { name := "episodeTells", fn := fun _ => fun
  | [d1, d2, d3, d4] => { results := [.lit (.bool false)], args := [d1, d2, d3, d4] }
  | _ => none }
def EpisodeTellsWrongFalsely : Prop := episodeTellsRow.holds Try.pinned (OpenSpec.ofChange episodeTellsWrong)

/-- 'gleaninglaw16.BufferTells': WHATEVER THE INPUT: true; the input reads as it did. -/
def bufferTellsSpec : ChangeSpec := { name := "bufferTells", fn := fun _ => fun
  | [d1, d2, d3, d4, d5, d6] => { results := [.lit (.bool true)], args := [d1, d2, d3, d4, d5, d6] }
  | _ => none }
def bufferTellsRow : OpenClaim := { program := "ytjjklinjcbonkaa", sum := "e4883de13e55eeb9a94edb5d7adaed826fa8ca69c4bbd736134b2409abf70bd9", func := "gleaning/gleaninglaw16.BufferTells", spec := "bufferTells", apart := false }
def BufferTellsSaid : Prop := bufferTellsRow.holds Try.pinned (OpenSpec.ofChange bufferTellsSpec)

/-- ITS FALSE NEIGHBOUR: 'it returns false'. Refute it at one input. -/
def bufferTellsWrong : ChangeSpec := { name := "bufferTells", fn := fun _ => fun
  | [d1, d2, d3, d4, d5, d6] => { results := [.lit (.bool false)], args := [d1, d2, d3, d4, d5, d6] }
  | _ => none }
def BufferTellsWrongFalsely : Prop := bufferTellsRow.holds Try.pinned (OpenSpec.ofChange bufferTellsWrong)

/-- 'gleaninglaw16.BufferClose': WHATEVER THE INPUT: true; the input reads as it did. -/
def bufferCloseSpec : ChangeSpec := { name := "bufferClose", fn := fun _ => fun
  | [d1, d2, d3, d4] => { results := [.lit (.bool true)], args := [d1, d2, d3, d4] }
  | _ => none }
def bufferCloseRow : OpenClaim := { program := "ytjjklinjcbonkaa", sum := "e4883de13e55eeb9a94edb5d7adaed826fa8ca69c4bbd736134b2409abf70bd9", func := "gleaning/gleaninglaw16.BufferClose", spec := "bufferClose", apart := false }
def BufferCloseSaid : Prop := bufferCloseRow.holds Try.pinned (OpenSpec.ofChange bufferCloseSpec)

/-- ITS FALSE NEIGHBOUR: 'it returns false'. Refute it at one input. -/
def bufferCloseWrong : ChangeSpec := { name := "bufferClose", fn := fun _ => fun
  | [d1, d2, d3, d4] => { results := [.lit (.bool false)], args := [d1, d2, d3, d4] }
  | _ => none }
def BufferCloseWrongFalsely : Prop := bufferCloseRow.holds Try.pinned (OpenSpec.ofChange bufferCloseWrong)

/-- 'gleaninglaw16.BufferOldest': WHATEVER THE INPUT: true; the input reads as it did. -/
def bufferOldestSpec : ChangeSpec := { name := "bufferOldest", fn := fun _ => fun
  | [d] => { results := [.lit (.bool true)], args := [d] }
  | _ => none }
def bufferOldestRow : OpenClaim := { program := "ytjjklinjcbonkaa", sum := "e4883de13e55eeb9a94edb5d7adaed826fa8ca69c4bbd736134b2409abf70bd9", func := "gleaning/gleaninglaw16.BufferOldest", spec := "bufferOldest", apart := false }
def BufferOldestSaid : Prop := bufferOldestRow.holds Try.pinned (OpenSpec.ofChange bufferOldestSpec)

/-- ITS FALSE NEIGHBOUR: 'it returns false'. Refute it at one input. -/
def bufferOldestWrong : ChangeSpec := { name := "bufferOldest", fn := fun _ => fun
  | [d] => { results := [.lit (.bool false)], args := [d] }
  | _ => none }
def BufferOldestWrongFalsely : Prop := bufferOldestRow.holds Try.pinned (OpenSpec.ofChange bufferOldestWrong)

/- THE SECOND FORM. 'bulk': how many values and letters a reading holds, each counted each time it is reached (what is shared counts as often as it is met; a slice's spare places count too). A statement '..UptoSaid' is the law's where the arguments, and the package variables that the reading takes, are together of bulk at most 1048576: NARROWER than '..Said'. Prove '..Said' where nothing that the law and all that it calls make is longer than what came in: it says more and counts as full. Else prove '..UptoSaid'. A law counts once. -/
mutual
def uptoBulk {H : Type} : DataW H → Nat
  | .lit (.string bytes) => bytes.length + 1
  | .lit _ => 1
  | .nil => 1
  | .ptr d => uptoBulk d + 1
  | .slice elems spare => uptoBulkAll elems + uptoBulkAll spare + 1
  | .agg parts => uptoBulkAll parts + 1
  | .iface _ d => uptoBulk d + 1
  | .map entries => uptoBulkEntries entries + 1
  | .held _ => 1
def uptoBulkAll {H : Type} : List (DataW H) → Nat
  | [] => 0
  | d :: r => uptoBulk d + uptoBulkAll r
def uptoBulkEntries {H : Type} : List (Lit × DataW H) → Nat
  | [] => 0
  | x :: r => uptoBulkEntry x + uptoBulkEntries r
def uptoBulkEntry {H : Type} : Lit × DataW H → Nat
  | (.string bytes, d) => bytes.length + uptoBulk d + 1
  | (_, d) => uptoBulk d + 1
 end
def uptoSmall : (H : Type) → List (DataW H) → Bool := fun _ ds => decide (uptoBulkAll ds ≤ 1048576)
def OpenSpec.upto (s : _root_.Go.ChangeSpec) : _root_.Go.OpenSpec := { _root_.Go.OpenSpec.ofChange s with cond := some uptoSmall }

/-- 'gleaninglaw15.EpisodeTells', WHERE WHAT IT READS IS OF BULK AT MOST 1048576: true; the input reads as it did. -/
def episodeTellsUptoRow : OpenClaim := { program := "ytjjklinjcbonkaa", sum := "e4883de13e55eeb9a94edb5d7adaed826fa8ca69c4bbd736134b2409abf70bd9", func := "gleaning/gleaninglaw15.EpisodeTells", spec := "episodeTells", apart := false, narrowed := true }
def EpisodeTellsUptoSaid : Prop := episodeTellsUptoRow.holds Try.pinned (OpenSpec.upto episodeTellsSpec)

/-- 'gleaninglaw16.BufferTells', WHERE WHAT IT READS IS OF BULK AT MOST 1048576: true; the input reads as it did. -/
def bufferTellsUptoRow : OpenClaim := { program := "ytjjklinjcbonkaa", sum := "e4883de13e55eeb9a94edb5d7adaed826fa8ca69c4bbd736134b2409abf70bd9", func := "gleaning/gleaninglaw16.BufferTells", spec := "bufferTells", apart := false, narrowed := true }
def BufferTellsUptoSaid : Prop := bufferTellsUptoRow.holds Try.pinned (OpenSpec.upto bufferTellsSpec)

/-- 'gleaninglaw16.BufferClose', WHERE WHAT IT READS IS OF BULK AT MOST 1048576: true; the input reads as it did. -/
def bufferCloseUptoRow : OpenClaim := { program := "ytjjklinjcbonkaa", sum := "e4883de13e55eeb9a94edb5d7adaed826fa8ca69c4bbd736134b2409abf70bd9", func := "gleaning/gleaninglaw16.BufferClose", spec := "bufferClose", apart := false, narrowed := true }
def BufferCloseUptoSaid : Prop := bufferCloseUptoRow.holds Try.pinned (OpenSpec.upto bufferCloseSpec)

/-- 'gleaninglaw16.BufferOldest', WHERE WHAT IT READS IS OF BULK AT MOST 1048576: true; the input reads as it did. -/
def bufferOldestUptoRow : OpenClaim := { program := "ytjjklinjcbonkaa", sum := "e4883de13e55eeb9a94edb5d7adaed826fa8ca69c4bbd736134b2409abf70bd9", func := "gleaning/gleaninglaw16.BufferOldest", spec := "bufferOldest", apart := false, narrowed := true }
def BufferOldestUptoSaid : Prop := bufferOldestUptoRow.holds Try.pinned (OpenSpec.upto bufferOldestSpec)

end Rows
end Go.Proofs.Ytjjklinjcbonkaa
