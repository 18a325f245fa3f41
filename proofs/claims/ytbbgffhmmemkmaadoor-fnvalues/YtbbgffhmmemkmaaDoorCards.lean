/-
  DERIVED. GIVEN WITH THE SEED: THE CARDS: each row of YtbbgffhmmemkmaaDoorRows.lean that lists a variable, with what it lists TIED to the program's text (the seventh form; the later family's looks); each row that meets fmt, with fmt's text TOLD by the authors' own Lean function (tested against real Go, not proved from fmt's source: count such statements apart). THE CARD IS WHAT COUNTS. Prove the row's statement (the work); the ties are given (YtbbgffhmmemkmaaDoorTie.lean); close each card by the builder's one call (the guide's Derived/Test/ToyasCard.lean, 'card_holds'). Laid BY PROGRAM, IN A SANDBOX (cutbox-door.mjs). By AI agents, Wed Nov 11 2026. No macro, syntax, notation, axiom, sorry.
-/
import Derived.Test.YtbbgffhmmemkmaaDoorRows
import GoSem.ClaimSeven
namespace Go.Proofs.YtbbgffhmmemkmaaDoor
namespace Rows

/-- THE TIED CARD OF 'laws.FnValues'. -/
def fnValuesCard : Claim7 := { stood := { row := fnValuesRow, standIns := [], harness := (true, "b9d10c7401eb6a0fa535da65fb86b58d6e15bfb87de730975b2c8fe920fa121d"), looks := true }, kinds := [], alts := [], laidByText := true, laidKinds := [.data, .data, .data, .sentinel, .sentinel], laidTests := true, laidLooks := .later }
def FnValuesCardSaid : Prop := Claim7.holds Tryd.pinned (.plain (OpenSpec.ofChange fnValuesSpec)) fnValuesCard

/-- THE TIED CARD OF 'laws.FnExactTextValue'. -/
def fnExactTextValueCard : Claim7 := { stood := { row := fnExactTextValueRow, standIns := [], harness := (true, "b9d10c7401eb6a0fa535da65fb86b58d6e15bfb87de730975b2c8fe920fa121d"), looks := true }, kinds := [], alts := [], laidByText := true, laidKinds := [.data, .data, .data, .sentinel, .sentinel], laidTests := true, laidLooks := .later }
def FnExactTextValueCardSaid : Prop := Claim7.holds Tryd.pinned (.plain (OpenSpec.ofChange fnExactTextValueSpec)) fnExactTextValueCard

/-- THE SECOND FORM's CARD OF 'laws.FnValues'. -/
def fnValuesUptoCard : Claim7 := { stood := { row := fnValuesUptoRow, standIns := [], harness := (true, "b9d10c7401eb6a0fa535da65fb86b58d6e15bfb87de730975b2c8fe920fa121d"), looks := true }, kinds := [], alts := [], laidByText := true, laidKinds := [.data, .data, .data, .sentinel, .sentinel], laidTests := true, laidLooks := .later }
def FnValuesUptoCardSaid : Prop := Claim7.holds Tryd.pinned (.plain (OpenSpec.upto fnValuesSpec)) fnValuesUptoCard

/-- THE SECOND FORM's CARD OF 'laws.FnExactTextValue'. -/
def fnExactTextValueUptoCard : Claim7 := { stood := { row := fnExactTextValueUptoRow, standIns := [], harness := (true, "b9d10c7401eb6a0fa535da65fb86b58d6e15bfb87de730975b2c8fe920fa121d"), looks := true }, kinds := [], alts := [], laidByText := true, laidKinds := [.data, .data, .data, .sentinel, .sentinel], laidTests := true, laidLooks := .later }
def FnExactTextValueUptoCardSaid : Prop := Claim7.holds Tryd.pinned (.plain (OpenSpec.upto fnExactTextValueSpec)) fnExactTextValueUptoCard
end Rows
end Go.Proofs.YtbbgffhmmemkmaaDoor
