/-
  DERIVED. GIVEN WITH THE SEED: THE CARDS: each row of YtkmcdeejkcncpaaDoorRows.lean that lists a variable, with what it lists TIED to the program's text (the seventh form; the later family's looks); each row that meets fmt, with fmt's text TOLD by the authors' own Lean function (tested against real Go, not proved from fmt's source: count such statements apart). THE CARD IS WHAT COUNTS. Prove the row's statement (the work); the ties are given (YtkmcdeejkcncpaaDoorTie.lean); close each card by the builder's one call (the guide's Derived/Test/ToyasCard.lean, 'card_holds'). Laid BY PROGRAM, IN A SANDBOX (cutbox-door.mjs). By AI agents, Wed Nov 11 2026. No macro, syntax, notation, axiom, sorry.
-/
import Derived.Test.YtkmcdeejkcncpaaDoorRows
import GoSem.ClaimSeven
namespace Go.Proofs.YtkmcdeejkcncpaaDoor
namespace Rows

/-- THE TIED CARD OF 'gleaninglaw8.BucketTells'. -/
def bucketTellsCard : Claim7 := { stood := { row := bucketTellsRow, standIns := [], harness := (true, "8d624beba97fbe3487f8dfb942fb15874bfdf76f5ace0dfccabcda866fd120a9"), looks := false }, kinds := [], alts := [], laidByText := true, laidKinds := [.data], laidTests := true, laidLooks := .later }
def BucketTellsCardSaid : Prop := Claim7.holds Tryd.pinned (.plain (OpenSpec.ofChange bucketTellsSpec)) bucketTellsCard

/-- THE TIED CARD OF 'gleaninglaw8.BucketCounts'. -/
def bucketCountsCard : Claim7 := { stood := { row := bucketCountsRow, standIns := [], harness := (true, "8d624beba97fbe3487f8dfb942fb15874bfdf76f5ace0dfccabcda866fd120a9"), looks := false }, kinds := [], alts := [], laidByText := true, laidKinds := [.data], laidTests := true, laidLooks := .later }
def BucketCountsCardSaid : Prop := Claim7.holds Tryd.pinned (.plain (OpenSpec.ofChange bucketCountsSpec)) bucketCountsCard

/-- THE TIED CARD OF 'gleaninglaw8.BucketJoins'. -/
def bucketJoinsCard : Claim7 := { stood := { row := bucketJoinsRow, standIns := [], harness := (true, "8d624beba97fbe3487f8dfb942fb15874bfdf76f5ace0dfccabcda866fd120a9"), looks := false }, kinds := [], alts := [], laidByText := true, laidKinds := [.data], laidTests := true, laidLooks := .later }
def BucketJoinsCardSaid : Prop := Claim7.holds Tryd.pinned (.plain (OpenSpec.ofChange bucketJoinsSpec)) bucketJoinsCard

/-- THE TIED CARD OF 'gleaninglaw31.QuantOrder'. -/
def quantOrderCard : Claim7 := { stood := { row := quantOrderRow, standIns := [], harness := (true, "8d624beba97fbe3487f8dfb942fb15874bfdf76f5ace0dfccabcda866fd120a9"), looks := false }, kinds := [], alts := [], laidByText := true, laidKinds := [.data], laidTests := true, laidLooks := .later }
def QuantOrderCardSaid : Prop := Claim7.holds Tryd.pinned (.plain (OpenSpec.ofChange quantOrderSpec)) quantOrderCard

/-- THE TIED CARD OF 'gleaninglaw31.QuantSorts'. -/
def quantSortsCard : Claim7 := { stood := { row := quantSortsRow, standIns := [], harness := (true, "8d624beba97fbe3487f8dfb942fb15874bfdf76f5ace0dfccabcda866fd120a9"), looks := false }, kinds := [], alts := [], laidByText := true, laidKinds := [.data], laidTests := true, laidLooks := .later }
def QuantSortsCardSaid : Prop := Claim7.holds Tryd.pinned (.plain (OpenSpec.ofChange quantSortsSpec)) quantSortsCard

/-- THE TIED CARD OF 'gleaninglaw31.QuantTells'. -/
def quantTellsCard : Claim7 := { stood := { row := quantTellsRow, standIns := [], harness := (true, "8d624beba97fbe3487f8dfb942fb15874bfdf76f5ace0dfccabcda866fd120a9"), looks := false }, kinds := [], alts := [], laidByText := true, laidKinds := [.data], laidTests := true, laidLooks := .later }
def QuantTellsCardSaid : Prop := Claim7.holds Tryd.pinned (.plain (OpenSpec.ofChange quantTellsSpec)) quantTellsCard

/-- THE SECOND FORM's CARD OF 'gleaninglaw8.BucketTells'. -/
def bucketTellsUptoCard : Claim7 := { stood := { row := bucketTellsUptoRow, standIns := [], harness := (true, "8d624beba97fbe3487f8dfb942fb15874bfdf76f5ace0dfccabcda866fd120a9"), looks := false }, kinds := [], alts := [], laidByText := true, laidKinds := [.data], laidTests := true, laidLooks := .later }
def BucketTellsUptoCardSaid : Prop := Claim7.holds Tryd.pinned (.plain (OpenSpec.upto bucketTellsSpec)) bucketTellsUptoCard

/-- THE SECOND FORM's CARD OF 'gleaninglaw8.BucketCounts'. -/
def bucketCountsUptoCard : Claim7 := { stood := { row := bucketCountsUptoRow, standIns := [], harness := (true, "8d624beba97fbe3487f8dfb942fb15874bfdf76f5ace0dfccabcda866fd120a9"), looks := false }, kinds := [], alts := [], laidByText := true, laidKinds := [.data], laidTests := true, laidLooks := .later }
def BucketCountsUptoCardSaid : Prop := Claim7.holds Tryd.pinned (.plain (OpenSpec.upto bucketCountsSpec)) bucketCountsUptoCard

/-- THE SECOND FORM's CARD OF 'gleaninglaw8.BucketJoins'. -/
def bucketJoinsUptoCard : Claim7 := { stood := { row := bucketJoinsUptoRow, standIns := [], harness := (true, "8d624beba97fbe3487f8dfb942fb15874bfdf76f5ace0dfccabcda866fd120a9"), looks := false }, kinds := [], alts := [], laidByText := true, laidKinds := [.data], laidTests := true, laidLooks := .later }
def BucketJoinsUptoCardSaid : Prop := Claim7.holds Tryd.pinned (.plain (OpenSpec.upto bucketJoinsSpec)) bucketJoinsUptoCard

/-- THE SECOND FORM's CARD OF 'gleaninglaw31.QuantOrder'. -/
def quantOrderUptoCard : Claim7 := { stood := { row := quantOrderUptoRow, standIns := [], harness := (true, "8d624beba97fbe3487f8dfb942fb15874bfdf76f5ace0dfccabcda866fd120a9"), looks := false }, kinds := [], alts := [], laidByText := true, laidKinds := [.data], laidTests := true, laidLooks := .later }
def QuantOrderUptoCardSaid : Prop := Claim7.holds Tryd.pinned (.plain (OpenSpec.upto quantOrderSpec)) quantOrderUptoCard

/-- THE SECOND FORM's CARD OF 'gleaninglaw31.QuantSorts'. -/
def quantSortsUptoCard : Claim7 := { stood := { row := quantSortsUptoRow, standIns := [], harness := (true, "8d624beba97fbe3487f8dfb942fb15874bfdf76f5ace0dfccabcda866fd120a9"), looks := false }, kinds := [], alts := [], laidByText := true, laidKinds := [.data], laidTests := true, laidLooks := .later }
def QuantSortsUptoCardSaid : Prop := Claim7.holds Tryd.pinned (.plain (OpenSpec.upto quantSortsSpec)) quantSortsUptoCard

/-- THE SECOND FORM's CARD OF 'gleaninglaw31.QuantTells'. -/
def quantTellsUptoCard : Claim7 := { stood := { row := quantTellsUptoRow, standIns := [], harness := (true, "8d624beba97fbe3487f8dfb942fb15874bfdf76f5ace0dfccabcda866fd120a9"), looks := false }, kinds := [], alts := [], laidByText := true, laidKinds := [.data], laidTests := true, laidLooks := .later }
def QuantTellsUptoCardSaid : Prop := Claim7.holds Tryd.pinned (.plain (OpenSpec.upto quantTellsSpec)) quantTellsUptoCard
end Rows
end Go.Proofs.YtkmcdeejkcncpaaDoor
