/-
  DERIVED. GIVEN WITH THE SEED: THE CARDS: each row of YtdfplenniamnoaaGreatDoorRows.lean that lists a variable, with what it lists TIED to the program's text (the seventh form; the later family's looks); each row that meets fmt, with fmt's text TOLD by the authors' own Lean function (tested against real Go, not proved from fmt's source: count such statements apart). THE CARD IS WHAT COUNTS. Prove the row's statement (the work); the ties are given (YtdfplenniamnoaaGreatDoorTie.lean); close each card by the builder's one call (the guide's Derived/Test/ToyasCard.lean, 'card_holds'). Laid BY PROGRAM, IN A SANDBOX (cutbox-door.mjs). By AI agents, Wed Nov 11 2026. No macro, syntax, notation, axiom, sorry.
-/
import Derived.Test.YtdfplenniamnoaaGreatDoorRows
import GoSem.ClaimSeven
namespace Go.Proofs.YtdfplenniamnoaaGreatDoor
namespace Rows

/-- THE TIED CARD OF 'gossamerlaw12.CoinsCopies'. -/
def coinsCopiesCard : Claim7 := { stood := { row := coinsCopiesRow, standIns := [], harness := (true, "2bf65058edffe8468e669963c97ab555337c2b72c3a1976cbd106c3cfa4b68da"), looks := true }, kinds := [], alts := [], laidByText := true, laidKinds := [.data, .data, .data], laidTests := true, laidLooks := .later }
def CoinsCopiesCardSaid : Prop := Claim7.holds Tryz.pinned (.plain (OpenSpec.ofChange coinsCopiesSpec)) coinsCopiesCard

/-- THE TIED CARD OF 'gossamerlaw13.ChainPlays'. -/
def chainPlaysCard : Claim7 := { stood := { row := chainPlaysRow, standIns := [], harness := (true, "2bf65058edffe8468e669963c97ab555337c2b72c3a1976cbd106c3cfa4b68da"), looks := true }, kinds := [], alts := [], laidByText := true, laidKinds := [.data, .data, .data], laidTests := true, laidLooks := .later }
def ChainPlaysCardSaid : Prop := Claim7.holds Tryz.pinned (.plain (OpenSpec.ofChange chainPlaysSpec)) chainPlaysCard

/-- THE TIED CARD OF 'gossamerlaw13.ChainBlocks'. -/
def chainBlocksCard : Claim7 := { stood := { row := chainBlocksRow, standIns := [], harness := (true, "2bf65058edffe8468e669963c97ab555337c2b72c3a1976cbd106c3cfa4b68da"), looks := true }, kinds := [], alts := [], laidByText := true, laidKinds := [.data, .data, .data], laidTests := true, laidLooks := .later }
def ChainBlocksCardSaid : Prop := Claim7.holds Tryz.pinned (.plain (OpenSpec.ofChange chainBlocksSpec)) chainBlocksCard

/-- THE TIED CARD OF 'gossamerlaw13.ChainBack'. -/
def chainBackCard : Claim7 := { stood := { row := chainBackRow, standIns := [], harness := (true, "2bf65058edffe8468e669963c97ab555337c2b72c3a1976cbd106c3cfa4b68da"), looks := true }, kinds := [], alts := [], laidByText := true, laidKinds := [.data, .data], laidTests := true, laidLooks := .later }
def ChainBackCardSaid : Prop := Claim7.holds Tryz.pinned (.plain (OpenSpec.ofChange chainBackSpec)) chainBackCard

/-- THE TIED CARD OF 'gossamerlaw13.ChainCopies'. -/
def chainCopiesCard : Claim7 := { stood := { row := chainCopiesRow, standIns := [], harness := (true, "2bf65058edffe8468e669963c97ab555337c2b72c3a1976cbd106c3cfa4b68da"), looks := true }, kinds := [], alts := [], laidByText := true, laidKinds := [.data, .data, .data], laidTests := true, laidLooks := .later }
def ChainCopiesCardSaid : Prop := Claim7.holds Tryz.pinned (.plain (OpenSpec.ofChange chainCopiesSpec)) chainCopiesCard

/-- THE SECOND FORM's CARD OF 'gossamerlaw12.CoinsCopies'. -/
def coinsCopiesUptoCard : Claim7 := { stood := { row := coinsCopiesUptoRow, standIns := [], harness := (true, "2bf65058edffe8468e669963c97ab555337c2b72c3a1976cbd106c3cfa4b68da"), looks := true }, kinds := [], alts := [], laidByText := true, laidKinds := [.data, .data, .data], laidTests := true, laidLooks := .later }
def CoinsCopiesUptoCardSaid : Prop := Claim7.holds Tryz.pinned (.plain (OpenSpec.upto coinsCopiesSpec)) coinsCopiesUptoCard

/-- THE SECOND FORM's CARD OF 'gossamerlaw13.ChainPlays'. -/
def chainPlaysUptoCard : Claim7 := { stood := { row := chainPlaysUptoRow, standIns := [], harness := (true, "2bf65058edffe8468e669963c97ab555337c2b72c3a1976cbd106c3cfa4b68da"), looks := true }, kinds := [], alts := [], laidByText := true, laidKinds := [.data, .data, .data], laidTests := true, laidLooks := .later }
def ChainPlaysUptoCardSaid : Prop := Claim7.holds Tryz.pinned (.plain (OpenSpec.upto chainPlaysSpec)) chainPlaysUptoCard

/-- THE SECOND FORM's CARD OF 'gossamerlaw13.ChainBlocks'. -/
def chainBlocksUptoCard : Claim7 := { stood := { row := chainBlocksUptoRow, standIns := [], harness := (true, "2bf65058edffe8468e669963c97ab555337c2b72c3a1976cbd106c3cfa4b68da"), looks := true }, kinds := [], alts := [], laidByText := true, laidKinds := [.data, .data, .data], laidTests := true, laidLooks := .later }
def ChainBlocksUptoCardSaid : Prop := Claim7.holds Tryz.pinned (.plain (OpenSpec.upto chainBlocksSpec)) chainBlocksUptoCard

/-- THE SECOND FORM's CARD OF 'gossamerlaw13.ChainBack'. -/
def chainBackUptoCard : Claim7 := { stood := { row := chainBackUptoRow, standIns := [], harness := (true, "2bf65058edffe8468e669963c97ab555337c2b72c3a1976cbd106c3cfa4b68da"), looks := true }, kinds := [], alts := [], laidByText := true, laidKinds := [.data, .data], laidTests := true, laidLooks := .later }
def ChainBackUptoCardSaid : Prop := Claim7.holds Tryz.pinned (.plain (OpenSpec.upto chainBackSpec)) chainBackUptoCard

/-- THE SECOND FORM's CARD OF 'gossamerlaw13.ChainCopies'. -/
def chainCopiesUptoCard : Claim7 := { stood := { row := chainCopiesUptoRow, standIns := [], harness := (true, "2bf65058edffe8468e669963c97ab555337c2b72c3a1976cbd106c3cfa4b68da"), looks := true }, kinds := [], alts := [], laidByText := true, laidKinds := [.data, .data, .data], laidTests := true, laidLooks := .later }
def ChainCopiesUptoCardSaid : Prop := Claim7.holds Tryz.pinned (.plain (OpenSpec.upto chainCopiesSpec)) chainCopiesUptoCard
end Rows
end Go.Proofs.YtdfplenniamnoaaGreatDoor
