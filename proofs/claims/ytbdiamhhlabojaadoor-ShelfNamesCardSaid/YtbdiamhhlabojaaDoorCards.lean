/-
  DERIVED. GIVEN WITH THE SEED: THE CARDS: each row of YtbdiamhhlabojaaDoorRows.lean that lists a variable, with what it lists TIED to the program's text (the seventh form; the later family's looks); each row that meets fmt, with fmt's text TOLD by the authors' own Lean function (tested against real Go, not proved from fmt's source: count such statements apart). THE CARD IS WHAT COUNTS. Prove the row's statement (the work); the ties are given (YtbdiamhhlabojaaDoorTie.lean); close each card by the builder's one call (the guide's Derived/Test/ToyasCard.lean, 'card_holds'). Laid BY PROGRAM, IN A SANDBOX (cutbox-door.mjs). By AI agents, Wed Nov 11 2026. No macro, syntax, notation, axiom, sorry.
-/
import Derived.Test.YtbdiamhhlabojaaDoorRows
import GoSem.ClaimSeven
namespace Go.Proofs.YtbdiamhhlabojaaDoor
namespace Rows

/-- THE TIED CARD OF 'gleaninglaw7.JournalKeeps'. -/
def journalKeepsCard : Claim7 := { stood := { row := journalKeepsRow, standIns := [], harness := (true, "b7c138953d540e8fa0c250c1d0d5aac929535413e37d71ba9ca3590c86cde5d3"), looks := false }, kinds := [], alts := [], laidByText := true, laidKinds := [.data, .data, .data], laidTests := true, laidLooks := .later }
def JournalKeepsCardSaid : Prop := Claim7.holds Tryd.pinned (.plain (OpenSpec.ofChange journalKeepsSpec)) journalKeepsCard

/-- THE TIED CARD OF 'gleaninglaw7.JournalLong'. -/
def journalLongCard : Claim7 := { stood := { row := journalLongRow, standIns := [], harness := (true, "b7c138953d540e8fa0c250c1d0d5aac929535413e37d71ba9ca3590c86cde5d3"), looks := false }, kinds := [], alts := [], laidByText := true, laidKinds := [.data, .data, .data], laidTests := true, laidLooks := .later }
def JournalLongCardSaid : Prop := Claim7.holds Tryd.pinned (.plain (OpenSpec.ofChange journalLongSpec)) journalLongCard

/-- THE TIED CARD OF 'gleaninglaw7.JournalDrops'. -/
def journalDropsCard : Claim7 := { stood := { row := journalDropsRow, standIns := [], harness := (true, "b7c138953d540e8fa0c250c1d0d5aac929535413e37d71ba9ca3590c86cde5d3"), looks := false }, kinds := [], alts := [], laidByText := true, laidKinds := [.data, .data, .data], laidTests := true, laidLooks := .later }
def JournalDropsCardSaid : Prop := Claim7.holds Tryd.pinned (.plain (OpenSpec.ofChange journalDropsSpec)) journalDropsCard

/-- THE TIED CARD OF 'gleaninglaw24.ShelfPlays'. -/
def shelfPlaysCard : Claim7 := { stood := { row := shelfPlaysRow, standIns := [], harness := (true, "b7c138953d540e8fa0c250c1d0d5aac929535413e37d71ba9ca3590c86cde5d3"), looks := false }, kinds := [], alts := [], laidByText := true, laidKinds := [.data, .data, .data], laidTests := true, laidLooks := .later }
def ShelfPlaysCardSaid : Prop := Claim7.holds Tryd.pinned (.plain (OpenSpec.ofChange shelfPlaysSpec)) shelfPlaysCard

/-- THE TIED CARD OF 'gleaninglaw24.ShelfWhole'. -/
def shelfWholeCard : Claim7 := { stood := { row := shelfWholeRow, standIns := [], harness := (true, "b7c138953d540e8fa0c250c1d0d5aac929535413e37d71ba9ca3590c86cde5d3"), looks := false }, kinds := [], alts := [], laidByText := true, laidKinds := [.data, .data, .data], laidTests := true, laidLooks := .later }
def ShelfWholeCardSaid : Prop := Claim7.holds Tryd.pinned (.plain (OpenSpec.ofChange shelfWholeSpec)) shelfWholeCard

/-- THE TIED CARD OF 'gleaninglaw24.ShelfNames'. -/
def shelfNamesCard : Claim7 := { stood := { row := shelfNamesRow, standIns := [], harness := (true, "b7c138953d540e8fa0c250c1d0d5aac929535413e37d71ba9ca3590c86cde5d3"), looks := false }, kinds := [], alts := [], laidByText := true, laidKinds := [.data, .data, .data], laidTests := true, laidLooks := .later }
def ShelfNamesCardSaid : Prop := Claim7.holds Tryd.pinned (.plain (OpenSpec.ofChange shelfNamesSpec)) shelfNamesCard

/-- THE SECOND FORM's CARD OF 'gleaninglaw7.JournalKeeps'. -/
def journalKeepsUptoCard : Claim7 := { stood := { row := journalKeepsUptoRow, standIns := [], harness := (true, "b7c138953d540e8fa0c250c1d0d5aac929535413e37d71ba9ca3590c86cde5d3"), looks := false }, kinds := [], alts := [], laidByText := true, laidKinds := [.data, .data, .data], laidTests := true, laidLooks := .later }
def JournalKeepsUptoCardSaid : Prop := Claim7.holds Tryd.pinned (.plain (OpenSpec.upto journalKeepsSpec)) journalKeepsUptoCard

/-- THE SECOND FORM's CARD OF 'gleaninglaw7.JournalLong'. -/
def journalLongUptoCard : Claim7 := { stood := { row := journalLongUptoRow, standIns := [], harness := (true, "b7c138953d540e8fa0c250c1d0d5aac929535413e37d71ba9ca3590c86cde5d3"), looks := false }, kinds := [], alts := [], laidByText := true, laidKinds := [.data, .data, .data], laidTests := true, laidLooks := .later }
def JournalLongUptoCardSaid : Prop := Claim7.holds Tryd.pinned (.plain (OpenSpec.upto journalLongSpec)) journalLongUptoCard

/-- THE SECOND FORM's CARD OF 'gleaninglaw7.JournalDrops'. -/
def journalDropsUptoCard : Claim7 := { stood := { row := journalDropsUptoRow, standIns := [], harness := (true, "b7c138953d540e8fa0c250c1d0d5aac929535413e37d71ba9ca3590c86cde5d3"), looks := false }, kinds := [], alts := [], laidByText := true, laidKinds := [.data, .data, .data], laidTests := true, laidLooks := .later }
def JournalDropsUptoCardSaid : Prop := Claim7.holds Tryd.pinned (.plain (OpenSpec.upto journalDropsSpec)) journalDropsUptoCard

/-- THE SECOND FORM's CARD OF 'gleaninglaw24.ShelfPlays'. -/
def shelfPlaysUptoCard : Claim7 := { stood := { row := shelfPlaysUptoRow, standIns := [], harness := (true, "b7c138953d540e8fa0c250c1d0d5aac929535413e37d71ba9ca3590c86cde5d3"), looks := false }, kinds := [], alts := [], laidByText := true, laidKinds := [.data, .data, .data], laidTests := true, laidLooks := .later }
def ShelfPlaysUptoCardSaid : Prop := Claim7.holds Tryd.pinned (.plain (OpenSpec.upto shelfPlaysSpec)) shelfPlaysUptoCard

/-- THE SECOND FORM's CARD OF 'gleaninglaw24.ShelfWhole'. -/
def shelfWholeUptoCard : Claim7 := { stood := { row := shelfWholeUptoRow, standIns := [], harness := (true, "b7c138953d540e8fa0c250c1d0d5aac929535413e37d71ba9ca3590c86cde5d3"), looks := false }, kinds := [], alts := [], laidByText := true, laidKinds := [.data, .data, .data], laidTests := true, laidLooks := .later }
def ShelfWholeUptoCardSaid : Prop := Claim7.holds Tryd.pinned (.plain (OpenSpec.upto shelfWholeSpec)) shelfWholeUptoCard

/-- THE SECOND FORM's CARD OF 'gleaninglaw24.ShelfNames'. -/
def shelfNamesUptoCard : Claim7 := { stood := { row := shelfNamesUptoRow, standIns := [], harness := (true, "b7c138953d540e8fa0c250c1d0d5aac929535413e37d71ba9ca3590c86cde5d3"), looks := false }, kinds := [], alts := [], laidByText := true, laidKinds := [.data, .data, .data], laidTests := true, laidLooks := .later }
def ShelfNamesUptoCardSaid : Prop := Claim7.holds Tryd.pinned (.plain (OpenSpec.upto shelfNamesSpec)) shelfNamesUptoCard
end Rows
end Go.Proofs.YtbdiamhhlabojaaDoor
