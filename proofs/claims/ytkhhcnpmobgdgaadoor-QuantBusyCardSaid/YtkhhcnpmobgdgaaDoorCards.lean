/-
  DERIVED. GIVEN WITH THE SEED: THE CARDS: each row of YtkhhcnpmobgdgaaDoorRows.lean that lists a variable, with what it lists TIED to the program's text (the seventh form; the later family's looks); each row that meets fmt, with fmt's text TOLD by the authors' own Lean function (tested against real Go, not proved from fmt's source: count such statements apart). THE CARD IS WHAT COUNTS. Prove the row's statement (the work); the ties are given (YtkhhcnpmobgdgaaDoorTie.lean); close each card by the builder's one call (the guide's Derived/Test/ToyasCard.lean, 'card_holds'). Laid BY PROGRAM, IN A SANDBOX (cutbox-door.mjs). By AI agents, Wed Nov 11 2026. No macro, syntax, notation, axiom, sorry.
-/
import Derived.Test.YtkhhcnpmobgdgaaDoorRows
import GoSem.ClaimSeven
namespace Go.Proofs.YtkhhcnpmobgdgaaDoor
namespace Rows

/-- THE TIED CARD OF 'gleaninglaw10.RollupTells'. -/
def rollupTellsCard : Claim7 := { stood := { row := rollupTellsRow, standIns := [], harness := (true, "bd73cb07b362087918cb361d65d66c46e0cdcefa8be69ea7913c0814f997c7a7"), looks := false }, kinds := [], alts := [], laidByText := true, laidKinds := [.data, .data], laidTests := true, laidLooks := .later }
def RollupTellsCardSaid : Prop := Claim7.holds Tryd.pinned (.plain (OpenSpec.ofChange rollupTellsSpec)) rollupTellsCard

/-- THE TIED CARD OF 'gleaninglaw10.RollupAny'. -/
def rollupAnyCard : Claim7 := { stood := { row := rollupAnyRow, standIns := [], harness := (true, "bd73cb07b362087918cb361d65d66c46e0cdcefa8be69ea7913c0814f997c7a7"), looks := false }, kinds := [], alts := [], laidByText := true, laidKinds := [.data, .data], laidTests := true, laidLooks := .later }
def RollupAnyCardSaid : Prop := Claim7.holds Tryd.pinned (.plain (OpenSpec.ofChange rollupAnySpec)) rollupAnyCard

/-- THE TIED CARD OF 'gleaninglaw10.RollupSums'. -/
def rollupSumsCard : Claim7 := { stood := { row := rollupSumsRow, standIns := [], harness := (true, "bd73cb07b362087918cb361d65d66c46e0cdcefa8be69ea7913c0814f997c7a7"), looks := false }, kinds := [], alts := [], laidByText := true, laidKinds := [.data, .data], laidTests := true, laidLooks := .later }
def RollupSumsCardSaid : Prop := Claim7.holds Tryd.pinned (.plain (OpenSpec.ofChange rollupSumsSpec)) rollupSumsCard

/-- THE TIED CARD OF 'gleaninglaw10.RollupCounts'. -/
def rollupCountsCard : Claim7 := { stood := { row := rollupCountsRow, standIns := [], harness := (true, "bd73cb07b362087918cb361d65d66c46e0cdcefa8be69ea7913c0814f997c7a7"), looks := false }, kinds := [], alts := [], laidByText := true, laidKinds := [.data, .data], laidTests := true, laidLooks := .later }
def RollupCountsCardSaid : Prop := Claim7.holds Tryd.pinned (.plain (OpenSpec.ofChange rollupCountsSpec)) rollupCountsCard

/-- THE TIED CARD OF 'gleaninglaw10.RollupExpires'. -/
def rollupExpiresCard : Claim7 := { stood := { row := rollupExpiresRow, standIns := [], harness := (true, "bd73cb07b362087918cb361d65d66c46e0cdcefa8be69ea7913c0814f997c7a7"), looks := false }, kinds := [], alts := [], laidByText := true, laidKinds := [.data, .data], laidTests := true, laidLooks := .later }
def RollupExpiresCardSaid : Prop := Claim7.holds Tryd.pinned (.plain (OpenSpec.ofChange rollupExpiresSpec)) rollupExpiresCard

/-- THE TIED CARD OF 'gleaninglaw31.QuantBusy'. -/
def quantBusyCard : Claim7 := { stood := { row := quantBusyRow, standIns := [], harness := (true, "bd73cb07b362087918cb361d65d66c46e0cdcefa8be69ea7913c0814f997c7a7"), looks := false }, kinds := [], alts := [], laidByText := true, laidKinds := [.data], laidTests := true, laidLooks := .later }
def QuantBusyCardSaid : Prop := Claim7.holds Tryd.pinned (.plain (OpenSpec.ofChange quantBusySpec)) quantBusyCard

/-- THE TIED CARD OF 'gleaninglaw31.QuantFirst'. -/
def quantFirstCard : Claim7 := { stood := { row := quantFirstRow, standIns := [], harness := (true, "bd73cb07b362087918cb361d65d66c46e0cdcefa8be69ea7913c0814f997c7a7"), looks := false }, kinds := [], alts := [], laidByText := true, laidKinds := [.data], laidTests := true, laidLooks := .later }
def QuantFirstCardSaid : Prop := Claim7.holds Tryd.pinned (.plain (OpenSpec.ofChange quantFirstSpec)) quantFirstCard

/-- THE SECOND FORM's CARD OF 'gleaninglaw10.RollupTells'. -/
def rollupTellsUptoCard : Claim7 := { stood := { row := rollupTellsUptoRow, standIns := [], harness := (true, "bd73cb07b362087918cb361d65d66c46e0cdcefa8be69ea7913c0814f997c7a7"), looks := false }, kinds := [], alts := [], laidByText := true, laidKinds := [.data, .data], laidTests := true, laidLooks := .later }
def RollupTellsUptoCardSaid : Prop := Claim7.holds Tryd.pinned (.plain (OpenSpec.upto rollupTellsSpec)) rollupTellsUptoCard

/-- THE SECOND FORM's CARD OF 'gleaninglaw10.RollupAny'. -/
def rollupAnyUptoCard : Claim7 := { stood := { row := rollupAnyUptoRow, standIns := [], harness := (true, "bd73cb07b362087918cb361d65d66c46e0cdcefa8be69ea7913c0814f997c7a7"), looks := false }, kinds := [], alts := [], laidByText := true, laidKinds := [.data, .data], laidTests := true, laidLooks := .later }
def RollupAnyUptoCardSaid : Prop := Claim7.holds Tryd.pinned (.plain (OpenSpec.upto rollupAnySpec)) rollupAnyUptoCard

/-- THE SECOND FORM's CARD OF 'gleaninglaw10.RollupSums'. -/
def rollupSumsUptoCard : Claim7 := { stood := { row := rollupSumsUptoRow, standIns := [], harness := (true, "bd73cb07b362087918cb361d65d66c46e0cdcefa8be69ea7913c0814f997c7a7"), looks := false }, kinds := [], alts := [], laidByText := true, laidKinds := [.data, .data], laidTests := true, laidLooks := .later }
def RollupSumsUptoCardSaid : Prop := Claim7.holds Tryd.pinned (.plain (OpenSpec.upto rollupSumsSpec)) rollupSumsUptoCard

/-- THE SECOND FORM's CARD OF 'gleaninglaw10.RollupCounts'. -/
def rollupCountsUptoCard : Claim7 := { stood := { row := rollupCountsUptoRow, standIns := [], harness := (true, "bd73cb07b362087918cb361d65d66c46e0cdcefa8be69ea7913c0814f997c7a7"), looks := false }, kinds := [], alts := [], laidByText := true, laidKinds := [.data, .data], laidTests := true, laidLooks := .later }
def RollupCountsUptoCardSaid : Prop := Claim7.holds Tryd.pinned (.plain (OpenSpec.upto rollupCountsSpec)) rollupCountsUptoCard

/-- THE SECOND FORM's CARD OF 'gleaninglaw10.RollupExpires'. -/
def rollupExpiresUptoCard : Claim7 := { stood := { row := rollupExpiresUptoRow, standIns := [], harness := (true, "bd73cb07b362087918cb361d65d66c46e0cdcefa8be69ea7913c0814f997c7a7"), looks := false }, kinds := [], alts := [], laidByText := true, laidKinds := [.data, .data], laidTests := true, laidLooks := .later }
def RollupExpiresUptoCardSaid : Prop := Claim7.holds Tryd.pinned (.plain (OpenSpec.upto rollupExpiresSpec)) rollupExpiresUptoCard

/-- THE SECOND FORM's CARD OF 'gleaninglaw31.QuantBusy'. -/
def quantBusyUptoCard : Claim7 := { stood := { row := quantBusyUptoRow, standIns := [], harness := (true, "bd73cb07b362087918cb361d65d66c46e0cdcefa8be69ea7913c0814f997c7a7"), looks := false }, kinds := [], alts := [], laidByText := true, laidKinds := [.data], laidTests := true, laidLooks := .later }
def QuantBusyUptoCardSaid : Prop := Claim7.holds Tryd.pinned (.plain (OpenSpec.upto quantBusySpec)) quantBusyUptoCard

/-- THE SECOND FORM's CARD OF 'gleaninglaw31.QuantFirst'. -/
def quantFirstUptoCard : Claim7 := { stood := { row := quantFirstUptoRow, standIns := [], harness := (true, "bd73cb07b362087918cb361d65d66c46e0cdcefa8be69ea7913c0814f997c7a7"), looks := false }, kinds := [], alts := [], laidByText := true, laidKinds := [.data], laidTests := true, laidLooks := .later }
def QuantFirstUptoCardSaid : Prop := Claim7.holds Tryd.pinned (.plain (OpenSpec.upto quantFirstSpec)) quantFirstUptoCard
end Rows
end Go.Proofs.YtkhhcnpmobgdgaaDoor
