/-
  DERIVED. GIVEN WITH THE SEED: THE CARDS: each row of YtijemcfnlbapjaaGreatDoorRows.lean that lists a variable, with what it lists TIED to the program's text (the seventh form; the later family's looks); each row that meets fmt, with fmt's text TOLD by the authors' own Lean function (tested against real Go, not proved from fmt's source: count such statements apart). THE CARD IS WHAT COUNTS. Prove the row's statement (the work); the ties are given (YtijemcfnlbapjaaGreatDoorTie.lean); close each card by the builder's one call (the guide's Derived/Test/ToyasCard.lean, 'card_holds'). Laid BY PROGRAM, IN A SANDBOX (cutbox-door.mjs). By AI agents, Wed Nov 11 2026. No macro, syntax, notation, axiom, sorry.
-/
import Derived.Test.YtijemcfnlbapjaaGreatDoorRows
import GoSem.ClaimSeven
namespace Go.Proofs.YtijemcfnlbapjaaGreatDoor
namespace Rows

/-- THE TIED CARD OF 'gossamerlaw14.GraphPlays'. -/
def graphPlaysCard : Claim7 := { stood := { row := graphPlaysRow, standIns := [], harness := (true, "90a0166ca504974fd60349511d3c34d0b482a6ec7c3cb4d2b658d6a45d3077dd"), looks := true }, kinds := [], alts := [], laidByText := true, laidKinds := [.data, .data, .data], laidTests := true, laidLooks := .later }
def GraphPlaysCardSaid : Prop := Claim7.holds Tryz.pinned (.plain (OpenSpec.ofChange graphPlaysSpec)) graphPlaysCard

/-- THE TIED CARD OF 'gossamerlaw14.GraphAsks'. -/
def graphAsksCard : Claim7 := { stood := { row := graphAsksRow, standIns := [], harness := (true, "90a0166ca504974fd60349511d3c34d0b482a6ec7c3cb4d2b658d6a45d3077dd"), looks := true }, kinds := [], alts := [], laidByText := true, laidKinds := [.data, .data, .data], laidTests := true, laidLooks := .later }
def GraphAsksCardSaid : Prop := Claim7.holds Tryz.pinned (.plain (OpenSpec.ofChange graphAsksSpec)) graphAsksCard

/-- THE TIED CARD OF 'gossamerlaw14.GraphFamilies'. -/
def graphFamiliesCard : Claim7 := { stood := { row := graphFamiliesRow, standIns := [], harness := (true, "90a0166ca504974fd60349511d3c34d0b482a6ec7c3cb4d2b658d6a45d3077dd"), looks := true }, kinds := [], alts := [], laidByText := true, laidKinds := [.data, .data, .data], laidTests := true, laidLooks := .later }
def GraphFamiliesCardSaid : Prop := Claim7.holds Tryz.pinned (.plain (OpenSpec.ofChange graphFamiliesSpec)) graphFamiliesCard

/-- THE TIED CARD OF 'gossamerlaw14.GraphCopies'. -/
def graphCopiesCard : Claim7 := { stood := { row := graphCopiesRow, standIns := [], harness := (true, "90a0166ca504974fd60349511d3c34d0b482a6ec7c3cb4d2b658d6a45d3077dd"), looks := true }, kinds := [], alts := [], laidByText := true, laidKinds := [.data, .data, .data], laidTests := true, laidLooks := .later }
def GraphCopiesCardSaid : Prop := Claim7.holds Tryz.pinned (.plain (OpenSpec.ofChange graphCopiesSpec)) graphCopiesCard

/-- THE SECOND FORM's CARD OF 'gossamerlaw14.GraphPlays'. -/
def graphPlaysUptoCard : Claim7 := { stood := { row := graphPlaysUptoRow, standIns := [], harness := (true, "90a0166ca504974fd60349511d3c34d0b482a6ec7c3cb4d2b658d6a45d3077dd"), looks := true }, kinds := [], alts := [], laidByText := true, laidKinds := [.data, .data, .data], laidTests := true, laidLooks := .later }
def GraphPlaysUptoCardSaid : Prop := Claim7.holds Tryz.pinned (.plain (OpenSpec.upto graphPlaysSpec)) graphPlaysUptoCard

/-- THE SECOND FORM's CARD OF 'gossamerlaw14.GraphAsks'. -/
def graphAsksUptoCard : Claim7 := { stood := { row := graphAsksUptoRow, standIns := [], harness := (true, "90a0166ca504974fd60349511d3c34d0b482a6ec7c3cb4d2b658d6a45d3077dd"), looks := true }, kinds := [], alts := [], laidByText := true, laidKinds := [.data, .data, .data], laidTests := true, laidLooks := .later }
def GraphAsksUptoCardSaid : Prop := Claim7.holds Tryz.pinned (.plain (OpenSpec.upto graphAsksSpec)) graphAsksUptoCard

/-- THE SECOND FORM's CARD OF 'gossamerlaw14.GraphFamilies'. -/
def graphFamiliesUptoCard : Claim7 := { stood := { row := graphFamiliesUptoRow, standIns := [], harness := (true, "90a0166ca504974fd60349511d3c34d0b482a6ec7c3cb4d2b658d6a45d3077dd"), looks := true }, kinds := [], alts := [], laidByText := true, laidKinds := [.data, .data, .data], laidTests := true, laidLooks := .later }
def GraphFamiliesUptoCardSaid : Prop := Claim7.holds Tryz.pinned (.plain (OpenSpec.upto graphFamiliesSpec)) graphFamiliesUptoCard

/-- THE SECOND FORM's CARD OF 'gossamerlaw14.GraphCopies'. -/
def graphCopiesUptoCard : Claim7 := { stood := { row := graphCopiesUptoRow, standIns := [], harness := (true, "90a0166ca504974fd60349511d3c34d0b482a6ec7c3cb4d2b658d6a45d3077dd"), looks := true }, kinds := [], alts := [], laidByText := true, laidKinds := [.data, .data, .data], laidTests := true, laidLooks := .later }
def GraphCopiesUptoCardSaid : Prop := Claim7.holds Tryz.pinned (.plain (OpenSpec.upto graphCopiesSpec)) graphCopiesUptoCard
end Rows
end Go.Proofs.YtijemcfnlbapjaaGreatDoor
