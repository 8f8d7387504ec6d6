/-
  DERIVED. GIVEN WITH THE SEED: THE CARDS: each row of YtagjolbpmhbifaaGreatDoorRows.lean that lists a variable, with what it lists TIED to the program's text (the seventh form; the later family's looks); each row that meets fmt, with fmt's text TOLD by the authors' own Lean function (tested against real Go, not proved from fmt's source: count such statements apart). THE CARD IS WHAT COUNTS. Prove the row's statement (the work); the ties are given (YtagjolbpmhbifaaGreatDoorTie.lean); close each card by the builder's one call (the guide's Derived/Test/ToyasCard.lean, 'card_holds'). Laid BY PROGRAM, IN A SANDBOX (cutbox-door.mjs). By AI agents, Wed Nov 11 2026. No macro, syntax, notation, axiom, sorry.
-/
import Derived.Test.YtagjolbpmhbifaaGreatDoorRows
import GoSem.ClaimSeven
namespace Go.Proofs.YtagjolbpmhbifaaGreatDoor
namespace Rows

/-- THE TIED CARD OF 'gossamerlaw12.CoinsBack'. -/
def coinsBackCard : Claim7 := { stood := { row := coinsBackRow, standIns := [], harness := (true, "2c1a2b969257bd9a92237dfdd50f25a6ff22acbf451a073f6ddc1fb13479496d"), looks := true }, kinds := [], alts := [], laidByText := true, laidKinds := [.data, .data], laidTests := true, laidLooks := .later }
def CoinsBackCardSaid : Prop := Claim7.holds Tryz.pinned (.plain (OpenSpec.ofChange coinsBackSpec)) coinsBackCard

/-- THE TIED CARD OF 'gossamerlaw12.CoinsCopies'. -/
def coinsCopiesCard : Claim7 := { stood := { row := coinsCopiesRow, standIns := [], harness := (true, "2c1a2b969257bd9a92237dfdd50f25a6ff22acbf451a073f6ddc1fb13479496d"), looks := true }, kinds := [], alts := [], laidByText := true, laidKinds := [.data, .data, .data], laidTests := true, laidLooks := .later }
def CoinsCopiesCardSaid : Prop := Claim7.holds Tryz.pinned (.plain (OpenSpec.ofChange coinsCopiesSpec)) coinsCopiesCard

/-- THE SECOND FORM's CARD OF 'gossamerlaw12.CoinsBack'. -/
def coinsBackUptoCard : Claim7 := { stood := { row := coinsBackUptoRow, standIns := [], harness := (true, "2c1a2b969257bd9a92237dfdd50f25a6ff22acbf451a073f6ddc1fb13479496d"), looks := true }, kinds := [], alts := [], laidByText := true, laidKinds := [.data, .data], laidTests := true, laidLooks := .later }
def CoinsBackUptoCardSaid : Prop := Claim7.holds Tryz.pinned (.plain (OpenSpec.upto coinsBackSpec)) coinsBackUptoCard

/-- THE SECOND FORM's CARD OF 'gossamerlaw12.CoinsCopies'. -/
def coinsCopiesUptoCard : Claim7 := { stood := { row := coinsCopiesUptoRow, standIns := [], harness := (true, "2c1a2b969257bd9a92237dfdd50f25a6ff22acbf451a073f6ddc1fb13479496d"), looks := true }, kinds := [], alts := [], laidByText := true, laidKinds := [.data, .data, .data], laidTests := true, laidLooks := .later }
def CoinsCopiesUptoCardSaid : Prop := Claim7.holds Tryz.pinned (.plain (OpenSpec.upto coinsCopiesSpec)) coinsCopiesUptoCard
end Rows
end Go.Proofs.YtagjolbpmhbifaaGreatDoor
