/-
  DERIVED. GIVEN WITH THE SEED: THE CARDS: each row of YtgiahfjndononaaDoorRows.lean that lists a variable, with what it lists TIED to the program's text (the seventh form; the later family's looks); each row that meets fmt, with fmt's text TOLD by the authors' own Lean function (tested against real Go, not proved from fmt's source: count such statements apart). THE CARD IS WHAT COUNTS. Prove the row's statement (the work); the ties are given (YtgiahfjndononaaDoorTie.lean); close each card by the builder's one call (the guide's Derived/Test/ToyasCard.lean, 'card_holds'). Laid BY PROGRAM, IN A SANDBOX (cutbox-door.mjs). By AI agents, Wed Nov 11 2026. No macro, syntax, notation, axiom, sorry.
-/
import Derived.Test.YtgiahfjndononaaDoorRows
import GoSem.ClaimSeven
namespace Go.Proofs.YtgiahfjndononaaDoor
namespace Rows

/-- THE TIED CARD OF 'gleaninglaw28.WordsTell'. -/
def wordsTellCard : Claim7 := { stood := { row := wordsTellRow, standIns := [], harness := (true, "4d83e615efe3f4256301a12a8193b7f2236d5624b7476f70d6d2b5b94ec5e0e7"), looks := false }, kinds := [], alts := [], laidByText := true, laidKinds := [.data, .data, .data], laidTests := true, laidLooks := .later }
def WordsTellCardSaid : Prop := Claim7.holds Tryd.pinned (.plain (OpenSpec.ofChange wordsTellSpec)) wordsTellCard

/-- THE TIED CARD OF 'gleaninglaw28.WordsBack'. -/
def wordsBackCard : Claim7 := { stood := { row := wordsBackRow, standIns := [], harness := (true, "4d83e615efe3f4256301a12a8193b7f2236d5624b7476f70d6d2b5b94ec5e0e7"), looks := false }, kinds := [], alts := [], laidByText := true, laidKinds := [.data, .data, .data], laidTests := true, laidLooks := .later }
def WordsBackCardSaid : Prop := Claim7.holds Tryd.pinned (.plain (OpenSpec.ofChange wordsBackSpec)) wordsBackCard

/-- THE TIED CARD OF 'gleaninglaw28.WordsWrong'. -/
def wordsWrongCard : Claim7 := { stood := { row := wordsWrongRow, standIns := [], harness := (true, "4d83e615efe3f4256301a12a8193b7f2236d5624b7476f70d6d2b5b94ec5e0e7"), looks := false }, kinds := [], alts := [], laidByText := true, laidKinds := [.data, .data, .data], laidTests := true, laidLooks := .later }
def WordsWrongCardSaid : Prop := Claim7.holds Tryd.pinned (.plain (OpenSpec.ofChange wordsWrongSpec)) wordsWrongCard

/-- THE TIED CARD OF 'gleaninglaw28.WordsBlank'. -/
def wordsBlankCard : Claim7 := { stood := { row := wordsBlankRow, standIns := [], harness := (true, "4d83e615efe3f4256301a12a8193b7f2236d5624b7476f70d6d2b5b94ec5e0e7"), looks := false }, kinds := [], alts := [], laidByText := true, laidKinds := [.data, .data, .data], laidTests := true, laidLooks := .later }
def WordsBlankCardSaid : Prop := Claim7.holds Tryd.pinned (.plain (OpenSpec.ofChange wordsBlankSpec)) wordsBlankCard

/-- THE SECOND FORM's CARD OF 'gleaninglaw28.WordsTell'. -/
def wordsTellUptoCard : Claim7 := { stood := { row := wordsTellUptoRow, standIns := [], harness := (true, "4d83e615efe3f4256301a12a8193b7f2236d5624b7476f70d6d2b5b94ec5e0e7"), looks := false }, kinds := [], alts := [], laidByText := true, laidKinds := [.data, .data, .data], laidTests := true, laidLooks := .later }
def WordsTellUptoCardSaid : Prop := Claim7.holds Tryd.pinned (.plain (OpenSpec.upto wordsTellSpec)) wordsTellUptoCard

/-- THE SECOND FORM's CARD OF 'gleaninglaw28.WordsBack'. -/
def wordsBackUptoCard : Claim7 := { stood := { row := wordsBackUptoRow, standIns := [], harness := (true, "4d83e615efe3f4256301a12a8193b7f2236d5624b7476f70d6d2b5b94ec5e0e7"), looks := false }, kinds := [], alts := [], laidByText := true, laidKinds := [.data, .data, .data], laidTests := true, laidLooks := .later }
def WordsBackUptoCardSaid : Prop := Claim7.holds Tryd.pinned (.plain (OpenSpec.upto wordsBackSpec)) wordsBackUptoCard

/-- THE SECOND FORM's CARD OF 'gleaninglaw28.WordsWrong'. -/
def wordsWrongUptoCard : Claim7 := { stood := { row := wordsWrongUptoRow, standIns := [], harness := (true, "4d83e615efe3f4256301a12a8193b7f2236d5624b7476f70d6d2b5b94ec5e0e7"), looks := false }, kinds := [], alts := [], laidByText := true, laidKinds := [.data, .data, .data], laidTests := true, laidLooks := .later }
def WordsWrongUptoCardSaid : Prop := Claim7.holds Tryd.pinned (.plain (OpenSpec.upto wordsWrongSpec)) wordsWrongUptoCard

/-- THE SECOND FORM's CARD OF 'gleaninglaw28.WordsBlank'. -/
def wordsBlankUptoCard : Claim7 := { stood := { row := wordsBlankUptoRow, standIns := [], harness := (true, "4d83e615efe3f4256301a12a8193b7f2236d5624b7476f70d6d2b5b94ec5e0e7"), looks := false }, kinds := [], alts := [], laidByText := true, laidKinds := [.data, .data, .data], laidTests := true, laidLooks := .later }
def WordsBlankUptoCardSaid : Prop := Claim7.holds Tryd.pinned (.plain (OpenSpec.upto wordsBlankSpec)) wordsBlankUptoCard
end Rows
end Go.Proofs.YtgiahfjndononaaDoor
