/-
  DERIVED. GIVEN WITH THE SEED: THE CARDS: each row of YtecenadpooknnabDoorRows.lean that lists a variable, with what it lists TIED to the program's text (the seventh form; the later family's looks); each row that meets fmt, with fmt's text TOLD by the authors' own Lean function (tested against real Go, not proved from fmt's source: count such statements apart). THE CARD IS WHAT COUNTS. Prove the row's statement (the work); the ties are given (YtecenadpooknnabDoorTie.lean); close each card by the builder's one call (the guide's Derived/Test/ToyasCard.lean, 'card_holds'). Laid BY PROGRAM, IN A SANDBOX (cutbox-door.mjs). By AI agents, Wed Nov 11 2026. No macro, syntax, notation, axiom, sorry.
-/
import Derived.Test.YtecenadpooknnabDoorRows
import GoSem.ClaimSeven
namespace Go.Proofs.YtecenadpooknnabDoor
namespace Rows

/-- THE TIED CARD OF 'gleaninglaw8.BucketOrder'. -/
def bucketOrderCard : Claim7 := { stood := { row := bucketOrderRow, standIns := [], harness := (true, "e6cd6715925b51d61eb000e19467a057396bba21ee525a48eb9fbfdb710d5164"), looks := false }, kinds := [], alts := [], laidByText := true, laidKinds := [.data], laidTests := true, laidLooks := .later }
def BucketOrderCardSaid : Prop := Claim7.holds Tryd.pinned (.plain (OpenSpec.ofChange bucketOrderSpec)) bucketOrderCard

/-- THE TIED CARD OF 'gleaninglaw9.WindowTells'. -/
def windowTellsCard : Claim7 := { stood := { row := windowTellsRow, standIns := [], harness := (true, "e6cd6715925b51d61eb000e19467a057396bba21ee525a48eb9fbfdb710d5164"), looks := false }, kinds := [], alts := [], laidByText := true, laidKinds := [.data], laidTests := true, laidLooks := .later }
def WindowTellsCardSaid : Prop := Claim7.holds Tryd.pinned (.plain (OpenSpec.ofChange windowTellsSpec)) windowTellsCard

/-- THE TIED CARD OF 'gleaninglaw9.WindowHolds'. -/
def windowHoldsCard : Claim7 := { stood := { row := windowHoldsRow, standIns := [], harness := (true, "e6cd6715925b51d61eb000e19467a057396bba21ee525a48eb9fbfdb710d5164"), looks := false }, kinds := [], alts := [], laidByText := true, laidKinds := [.data], laidTests := true, laidLooks := .later }
def WindowHoldsCardSaid : Prop := Claim7.holds Tryd.pinned (.plain (OpenSpec.ofChange windowHoldsSpec)) windowHoldsCard

/-- THE TIED CARD OF 'gleaninglaw9.WindowNest'. -/
def windowNestCard : Claim7 := { stood := { row := windowNestRow, standIns := [], harness := (true, "e6cd6715925b51d61eb000e19467a057396bba21ee525a48eb9fbfdb710d5164"), looks := false }, kinds := [], alts := [], laidByText := true, laidKinds := [.data], laidTests := true, laidLooks := .later }
def WindowNestCardSaid : Prop := Claim7.holds Tryd.pinned (.plain (OpenSpec.ofChange windowNestSpec)) windowNestCard

/-- THE TIED CARD OF 'gleaninglaw10.RollupTells'. -/
def rollupTellsCard : Claim7 := { stood := { row := rollupTellsRow, standIns := [], harness := (true, "e6cd6715925b51d61eb000e19467a057396bba21ee525a48eb9fbfdb710d5164"), looks := false }, kinds := [], alts := [], laidByText := true, laidKinds := [.data, .data], laidTests := true, laidLooks := .later }
def RollupTellsCardSaid : Prop := Claim7.holds Tryd.pinned (.plain (OpenSpec.ofChange rollupTellsSpec)) rollupTellsCard

/-- THE TIED CARD OF 'gleaninglaw10.RollupAny'. -/
def rollupAnyCard : Claim7 := { stood := { row := rollupAnyRow, standIns := [], harness := (true, "e6cd6715925b51d61eb000e19467a057396bba21ee525a48eb9fbfdb710d5164"), looks := false }, kinds := [], alts := [], laidByText := true, laidKinds := [.data, .data], laidTests := true, laidLooks := .later }
def RollupAnyCardSaid : Prop := Claim7.holds Tryd.pinned (.plain (OpenSpec.ofChange rollupAnySpec)) rollupAnyCard

/-- THE TIED CARD OF 'gleaninglaw10.RollupSums'. -/
def rollupSumsCard : Claim7 := { stood := { row := rollupSumsRow, standIns := [], harness := (true, "e6cd6715925b51d61eb000e19467a057396bba21ee525a48eb9fbfdb710d5164"), looks := false }, kinds := [], alts := [], laidByText := true, laidKinds := [.data, .data], laidTests := true, laidLooks := .later }
def RollupSumsCardSaid : Prop := Claim7.holds Tryd.pinned (.plain (OpenSpec.ofChange rollupSumsSpec)) rollupSumsCard

/-- THE TIED CARD OF 'gleaninglaw10.RollupCounts'. -/
def rollupCountsCard : Claim7 := { stood := { row := rollupCountsRow, standIns := [], harness := (true, "e6cd6715925b51d61eb000e19467a057396bba21ee525a48eb9fbfdb710d5164"), looks := false }, kinds := [], alts := [], laidByText := true, laidKinds := [.data, .data], laidTests := true, laidLooks := .later }
def RollupCountsCardSaid : Prop := Claim7.holds Tryd.pinned (.plain (OpenSpec.ofChange rollupCountsSpec)) rollupCountsCard

/-- THE TIED CARD OF 'gleaninglaw10.RollupExpires'. -/
def rollupExpiresCard : Claim7 := { stood := { row := rollupExpiresRow, standIns := [], harness := (true, "e6cd6715925b51d61eb000e19467a057396bba21ee525a48eb9fbfdb710d5164"), looks := false }, kinds := [], alts := [], laidByText := true, laidKinds := [.data, .data], laidTests := true, laidLooks := .later }
def RollupExpiresCardSaid : Prop := Claim7.holds Tryd.pinned (.plain (OpenSpec.ofChange rollupExpiresSpec)) rollupExpiresCard

/-- THE SECOND FORM's CARD OF 'gleaninglaw8.BucketOrder'. -/
def bucketOrderUptoCard : Claim7 := { stood := { row := bucketOrderUptoRow, standIns := [], harness := (true, "e6cd6715925b51d61eb000e19467a057396bba21ee525a48eb9fbfdb710d5164"), looks := false }, kinds := [], alts := [], laidByText := true, laidKinds := [.data], laidTests := true, laidLooks := .later }
def BucketOrderUptoCardSaid : Prop := Claim7.holds Tryd.pinned (.plain (OpenSpec.upto bucketOrderSpec)) bucketOrderUptoCard

/-- THE SECOND FORM's CARD OF 'gleaninglaw9.WindowTells'. -/
def windowTellsUptoCard : Claim7 := { stood := { row := windowTellsUptoRow, standIns := [], harness := (true, "e6cd6715925b51d61eb000e19467a057396bba21ee525a48eb9fbfdb710d5164"), looks := false }, kinds := [], alts := [], laidByText := true, laidKinds := [.data], laidTests := true, laidLooks := .later }
def WindowTellsUptoCardSaid : Prop := Claim7.holds Tryd.pinned (.plain (OpenSpec.upto windowTellsSpec)) windowTellsUptoCard

/-- THE SECOND FORM's CARD OF 'gleaninglaw9.WindowHolds'. -/
def windowHoldsUptoCard : Claim7 := { stood := { row := windowHoldsUptoRow, standIns := [], harness := (true, "e6cd6715925b51d61eb000e19467a057396bba21ee525a48eb9fbfdb710d5164"), looks := false }, kinds := [], alts := [], laidByText := true, laidKinds := [.data], laidTests := true, laidLooks := .later }
def WindowHoldsUptoCardSaid : Prop := Claim7.holds Tryd.pinned (.plain (OpenSpec.upto windowHoldsSpec)) windowHoldsUptoCard

/-- THE SECOND FORM's CARD OF 'gleaninglaw9.WindowNest'. -/
def windowNestUptoCard : Claim7 := { stood := { row := windowNestUptoRow, standIns := [], harness := (true, "e6cd6715925b51d61eb000e19467a057396bba21ee525a48eb9fbfdb710d5164"), looks := false }, kinds := [], alts := [], laidByText := true, laidKinds := [.data], laidTests := true, laidLooks := .later }
def WindowNestUptoCardSaid : Prop := Claim7.holds Tryd.pinned (.plain (OpenSpec.upto windowNestSpec)) windowNestUptoCard

/-- THE SECOND FORM's CARD OF 'gleaninglaw10.RollupTells'. -/
def rollupTellsUptoCard : Claim7 := { stood := { row := rollupTellsUptoRow, standIns := [], harness := (true, "e6cd6715925b51d61eb000e19467a057396bba21ee525a48eb9fbfdb710d5164"), looks := false }, kinds := [], alts := [], laidByText := true, laidKinds := [.data, .data], laidTests := true, laidLooks := .later }
def RollupTellsUptoCardSaid : Prop := Claim7.holds Tryd.pinned (.plain (OpenSpec.upto rollupTellsSpec)) rollupTellsUptoCard

/-- THE SECOND FORM's CARD OF 'gleaninglaw10.RollupAny'. -/
def rollupAnyUptoCard : Claim7 := { stood := { row := rollupAnyUptoRow, standIns := [], harness := (true, "e6cd6715925b51d61eb000e19467a057396bba21ee525a48eb9fbfdb710d5164"), looks := false }, kinds := [], alts := [], laidByText := true, laidKinds := [.data, .data], laidTests := true, laidLooks := .later }
def RollupAnyUptoCardSaid : Prop := Claim7.holds Tryd.pinned (.plain (OpenSpec.upto rollupAnySpec)) rollupAnyUptoCard

/-- THE SECOND FORM's CARD OF 'gleaninglaw10.RollupSums'. -/
def rollupSumsUptoCard : Claim7 := { stood := { row := rollupSumsUptoRow, standIns := [], harness := (true, "e6cd6715925b51d61eb000e19467a057396bba21ee525a48eb9fbfdb710d5164"), looks := false }, kinds := [], alts := [], laidByText := true, laidKinds := [.data, .data], laidTests := true, laidLooks := .later }
def RollupSumsUptoCardSaid : Prop := Claim7.holds Tryd.pinned (.plain (OpenSpec.upto rollupSumsSpec)) rollupSumsUptoCard

/-- THE SECOND FORM's CARD OF 'gleaninglaw10.RollupCounts'. -/
def rollupCountsUptoCard : Claim7 := { stood := { row := rollupCountsUptoRow, standIns := [], harness := (true, "e6cd6715925b51d61eb000e19467a057396bba21ee525a48eb9fbfdb710d5164"), looks := false }, kinds := [], alts := [], laidByText := true, laidKinds := [.data, .data], laidTests := true, laidLooks := .later }
def RollupCountsUptoCardSaid : Prop := Claim7.holds Tryd.pinned (.plain (OpenSpec.upto rollupCountsSpec)) rollupCountsUptoCard

/-- THE SECOND FORM's CARD OF 'gleaninglaw10.RollupExpires'. -/
def rollupExpiresUptoCard : Claim7 := { stood := { row := rollupExpiresUptoRow, standIns := [], harness := (true, "e6cd6715925b51d61eb000e19467a057396bba21ee525a48eb9fbfdb710d5164"), looks := false }, kinds := [], alts := [], laidByText := true, laidKinds := [.data, .data], laidTests := true, laidLooks := .later }
def RollupExpiresUptoCardSaid : Prop := Claim7.holds Tryd.pinned (.plain (OpenSpec.upto rollupExpiresSpec)) rollupExpiresUptoCard
end Rows
end Go.Proofs.YtecenadpooknnabDoor
