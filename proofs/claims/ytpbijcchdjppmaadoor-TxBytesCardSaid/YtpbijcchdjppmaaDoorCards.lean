/-
  DERIVED. GIVEN WITH THE SEED: THE CARDS: each row of YtpbijcchdjppmaaDoorRows.lean that lists a variable, with what it lists TIED to the program's text (the seventh form; the later family's looks); each row that meets fmt, with fmt's text TOLD by the authors' own Lean function (tested against real Go, not proved from fmt's source: count such statements apart). THE CARD IS WHAT COUNTS. Prove the row's statement (the work); the ties are given (YtpbijcchdjppmaaDoorTie.lean); close each card by the builder's one call (the guide's Derived/Test/ToyasCard.lean, 'card_holds'). Laid BY PROGRAM, IN A SANDBOX (cutbox-door.mjs). By AI agents, Wed Nov 11 2026. No macro, syntax, notation, axiom, sorry.
-/
import Derived.Test.YtpbijcchdjppmaaDoorRows
import GoSem.ClaimSeven
namespace Go.Proofs.YtpbijcchdjppmaaDoor
namespace Rows

/-- THE TIED CARD OF 'gossamerlaw10.TxBytes'. -/
def txBytesCard : Claim7 := { stood := { row := txBytesRow, standIns := [], harness := (true, "512030263e8afec84bd540b21967eda4dcdd0a99137ba0db1ba83eeebc1d37c8"), looks := false }, kinds := [], alts := [], laidByText := true, laidKinds := [.data, .data, .data], laidTests := true, laidLooks := .later }
def TxBytesCardSaid : Prop := Claim7.holds Tryd.pinned (.plain (OpenSpec.ofChange txBytesSpec)) txBytesCard

/-- THE TIED CARD OF 'gossamerlaw10.TxWitness'. -/
def txWitnessCard : Claim7 := { stood := { row := txWitnessRow, standIns := [], harness := (true, "512030263e8afec84bd540b21967eda4dcdd0a99137ba0db1ba83eeebc1d37c8"), looks := false }, kinds := [], alts := [], laidByText := true, laidKinds := [.data, .data], laidTests := true, laidLooks := .later }
def TxWitnessCardSaid : Prop := Claim7.holds Tryd.pinned (.plain (OpenSpec.ofChange txWitnessSpec)) txWitnessCard

/-- THE SECOND FORM's CARD OF 'gossamerlaw10.TxBytes'. -/
def txBytesUptoCard : Claim7 := { stood := { row := txBytesUptoRow, standIns := [], harness := (true, "512030263e8afec84bd540b21967eda4dcdd0a99137ba0db1ba83eeebc1d37c8"), looks := false }, kinds := [], alts := [], laidByText := true, laidKinds := [.data, .data, .data], laidTests := true, laidLooks := .later }
def TxBytesUptoCardSaid : Prop := Claim7.holds Tryd.pinned (.plain (OpenSpec.upto txBytesSpec)) txBytesUptoCard

/-- THE SECOND FORM's CARD OF 'gossamerlaw10.TxWitness'. -/
def txWitnessUptoCard : Claim7 := { stood := { row := txWitnessUptoRow, standIns := [], harness := (true, "512030263e8afec84bd540b21967eda4dcdd0a99137ba0db1ba83eeebc1d37c8"), looks := false }, kinds := [], alts := [], laidByText := true, laidKinds := [.data, .data], laidTests := true, laidLooks := .later }
def TxWitnessUptoCardSaid : Prop := Claim7.holds Tryd.pinned (.plain (OpenSpec.upto txWitnessSpec)) txWitnessUptoCard
end Rows
end Go.Proofs.YtpbijcchdjppmaaDoor
