/-
  DERIVED. GIVEN WITH THE SEED: THE CARDS: each row of YtdnbhgkbfbgnaaaGreatDoorRows.lean that lists a variable, with what it lists TIED to the program's text (the seventh form; the later family's looks); each row that meets fmt, with fmt's text TOLD by the authors' own Lean function (tested against real Go, not proved from fmt's source: count such statements apart). THE CARD IS WHAT COUNTS. Prove the row's statement (the work); the ties are given (YtdnbhgkbfbgnaaaGreatDoorTie.lean); close each card by the builder's one call (the guide's Derived/Test/ToyasCard.lean, 'card_holds'). Laid BY PROGRAM, IN A SANDBOX (cutbox-door.mjs). By AI agents, Wed Nov 11 2026. No macro, syntax, notation, axiom, sorry.
-/
import Derived.Test.YtdnbhgkbfbgnaaaGreatDoorRows
import GoSem.ClaimSeven
namespace Go.Proofs.YtdnbhgkbfbgnaaaGreatDoor
namespace Rows

/-- THE TIED CARD OF 'yardsticklaw04.RationalMatchesReference'. -/
def rationalMatchesReferenceCard : Claim7 := { stood := { row := rationalMatchesReferenceRow, standIns := [], harness := (true, "e2835ffc71ff08099c9672a750d253544077f53956bb0399c7bd631683d1f899"), looks := true }, kinds := [], alts := [], laidByText := true, laidKinds := [.data, .data, .data, .data, .pinned], laidTests := true, laidLooks := .later }
def RationalMatchesReferenceCardSaid : Prop := Claim7.holds Tryz.pinned (.plain (OpenSpec.ofChange rationalMatchesReferenceSpec)) rationalMatchesReferenceCard

/-- THE TIED CARD OF 'yardsticklaw04.RationalTextMatchesReference'. -/
def rationalTextMatchesReferenceCard : Claim7 := { stood := { row := rationalTextMatchesReferenceRow, standIns := [], harness := (true, "e2835ffc71ff08099c9672a750d253544077f53956bb0399c7bd631683d1f899"), looks := true }, kinds := [], alts := [], laidByText := true, laidKinds := [.data, .data, .data, .data, .pinned], laidTests := true, laidLooks := .later }
def RationalTextMatchesReferenceCardSaid : Prop := Claim7.holds Tryz.pinned (.plain (OpenSpec.ofChange rationalTextMatchesReferenceSpec)) rationalTextMatchesReferenceCard

/-- THE TIED CARD OF 'yardsticklaw04.RationalField'. -/
def rationalFieldCard : Claim7 := { stood := { row := rationalFieldRow, standIns := [], harness := (true, "e2835ffc71ff08099c9672a750d253544077f53956bb0399c7bd631683d1f899"), looks := true }, kinds := [], alts := [], laidByText := true, laidKinds := [.data, .data, .data, .data, .pinned], laidTests := true, laidLooks := .later }
def RationalFieldCardSaid : Prop := Claim7.holds Tryz.pinned (.plain (OpenSpec.ofChange rationalFieldSpec)) rationalFieldCard

/-- THE TIED CARD OF 'yardsticklaw05.EnclosureContains'. -/
def enclosureContainsCard : Claim7 := { stood := { row := enclosureContainsRow, standIns := [], harness := (true, "e2835ffc71ff08099c9672a750d253544077f53956bb0399c7bd631683d1f899"), looks := true }, kinds := [], alts := [], laidByText := true, laidKinds := [.data, .sentinel, .pinned], laidTests := true, laidLooks := .later }
def EnclosureContainsCardSaid : Prop := Claim7.holds Tryz.pinned (.plain (OpenSpec.ofChange enclosureContainsSpec)) enclosureContainsCard

/-- THE TIED CARD OF 'yardsticklaw05.EnclosureTight'. -/
def enclosureTightCard : Claim7 := { stood := { row := enclosureTightRow, standIns := [], harness := (true, "e2835ffc71ff08099c9672a750d253544077f53956bb0399c7bd631683d1f899"), looks := true }, kinds := [], alts := [], laidByText := true, laidKinds := [.data, .sentinel, .pinned], laidTests := true, laidLooks := .later }
def EnclosureTightCardSaid : Prop := Claim7.holds Tryz.pinned (.plain (OpenSpec.ofChange enclosureTightSpec)) enclosureTightCard

/-- THE TIED CARD OF 'yardsticklaw05.EnclosureNarrower'. -/
def enclosureNarrowerCard : Claim7 := { stood := { row := enclosureNarrowerRow, standIns := [], harness := (true, "e2835ffc71ff08099c9672a750d253544077f53956bb0399c7bd631683d1f899"), looks := true }, kinds := [], alts := [], laidByText := true, laidKinds := [.data, .sentinel, .pinned], laidTests := true, laidLooks := .later }
def EnclosureNarrowerCardSaid : Prop := Claim7.holds Tryz.pinned (.plain (OpenSpec.ofChange enclosureNarrowerSpec)) enclosureNarrowerCard

/-- THE TIED CARD OF 'yardsticklaw05.EnclosureRoots'. -/
def enclosureRootsCard : Claim7 := { stood := { row := enclosureRootsRow, standIns := [], harness := (true, "e2835ffc71ff08099c9672a750d253544077f53956bb0399c7bd631683d1f899"), looks := true }, kinds := [], alts := [], laidByText := true, laidKinds := [.data, .sentinel, .pinned], laidTests := true, laidLooks := .later }
def EnclosureRootsCardSaid : Prop := Claim7.holds Tryz.pinned (.plain (OpenSpec.ofChange enclosureRootsSpec)) enclosureRootsCard

/-- THE TIED CARD OF 'yardsticklaw05.EnclosureMeets'. -/
def enclosureMeetsCard : Claim7 := { stood := { row := enclosureMeetsRow, standIns := [], harness := (true, "e2835ffc71ff08099c9672a750d253544077f53956bb0399c7bd631683d1f899"), looks := true }, kinds := [], alts := [], laidByText := true, laidKinds := [.data, .sentinel, .pinned], laidTests := true, laidLooks := .later }
def EnclosureMeetsCardSaid : Prop := Claim7.holds Tryz.pinned (.plain (OpenSpec.ofChange enclosureMeetsSpec)) enclosureMeetsCard

/-- THE TIED CARD OF 'yardsticklaw05.EnclosureRounds'. -/
def enclosureRoundsCard : Claim7 := { stood := { row := enclosureRoundsRow, standIns := [], harness := (true, "e2835ffc71ff08099c9672a750d253544077f53956bb0399c7bd631683d1f899"), looks := true }, kinds := [], alts := [], laidByText := true, laidKinds := [.data, .sentinel, .pinned], laidTests := true, laidLooks := .later }
def EnclosureRoundsCardSaid : Prop := Claim7.holds Tryz.pinned (.plain (OpenSpec.ofChange enclosureRoundsSpec)) enclosureRoundsCard

/-- THE SECOND FORM's CARD OF 'yardsticklaw04.RationalMatchesReference'. -/
def rationalMatchesReferenceUptoCard : Claim7 := { stood := { row := rationalMatchesReferenceUptoRow, standIns := [], harness := (true, "e2835ffc71ff08099c9672a750d253544077f53956bb0399c7bd631683d1f899"), looks := true }, kinds := [], alts := [], laidByText := true, laidKinds := [.data, .data, .data, .data, .pinned], laidTests := true, laidLooks := .later }
def RationalMatchesReferenceUptoCardSaid : Prop := Claim7.holds Tryz.pinned (.plain (OpenSpec.upto rationalMatchesReferenceSpec)) rationalMatchesReferenceUptoCard

/-- THE SECOND FORM's CARD OF 'yardsticklaw04.RationalTextMatchesReference'. -/
def rationalTextMatchesReferenceUptoCard : Claim7 := { stood := { row := rationalTextMatchesReferenceUptoRow, standIns := [], harness := (true, "e2835ffc71ff08099c9672a750d253544077f53956bb0399c7bd631683d1f899"), looks := true }, kinds := [], alts := [], laidByText := true, laidKinds := [.data, .data, .data, .data, .pinned], laidTests := true, laidLooks := .later }
def RationalTextMatchesReferenceUptoCardSaid : Prop := Claim7.holds Tryz.pinned (.plain (OpenSpec.upto rationalTextMatchesReferenceSpec)) rationalTextMatchesReferenceUptoCard

/-- THE SECOND FORM's CARD OF 'yardsticklaw04.RationalField'. -/
def rationalFieldUptoCard : Claim7 := { stood := { row := rationalFieldUptoRow, standIns := [], harness := (true, "e2835ffc71ff08099c9672a750d253544077f53956bb0399c7bd631683d1f899"), looks := true }, kinds := [], alts := [], laidByText := true, laidKinds := [.data, .data, .data, .data, .pinned], laidTests := true, laidLooks := .later }
def RationalFieldUptoCardSaid : Prop := Claim7.holds Tryz.pinned (.plain (OpenSpec.upto rationalFieldSpec)) rationalFieldUptoCard

/-- THE SECOND FORM's CARD OF 'yardsticklaw05.EnclosureContains'. -/
def enclosureContainsUptoCard : Claim7 := { stood := { row := enclosureContainsUptoRow, standIns := [], harness := (true, "e2835ffc71ff08099c9672a750d253544077f53956bb0399c7bd631683d1f899"), looks := true }, kinds := [], alts := [], laidByText := true, laidKinds := [.data, .sentinel, .pinned], laidTests := true, laidLooks := .later }
def EnclosureContainsUptoCardSaid : Prop := Claim7.holds Tryz.pinned (.plain (OpenSpec.upto enclosureContainsSpec)) enclosureContainsUptoCard

/-- THE SECOND FORM's CARD OF 'yardsticklaw05.EnclosureTight'. -/
def enclosureTightUptoCard : Claim7 := { stood := { row := enclosureTightUptoRow, standIns := [], harness := (true, "e2835ffc71ff08099c9672a750d253544077f53956bb0399c7bd631683d1f899"), looks := true }, kinds := [], alts := [], laidByText := true, laidKinds := [.data, .sentinel, .pinned], laidTests := true, laidLooks := .later }
def EnclosureTightUptoCardSaid : Prop := Claim7.holds Tryz.pinned (.plain (OpenSpec.upto enclosureTightSpec)) enclosureTightUptoCard

/-- THE SECOND FORM's CARD OF 'yardsticklaw05.EnclosureNarrower'. -/
def enclosureNarrowerUptoCard : Claim7 := { stood := { row := enclosureNarrowerUptoRow, standIns := [], harness := (true, "e2835ffc71ff08099c9672a750d253544077f53956bb0399c7bd631683d1f899"), looks := true }, kinds := [], alts := [], laidByText := true, laidKinds := [.data, .sentinel, .pinned], laidTests := true, laidLooks := .later }
def EnclosureNarrowerUptoCardSaid : Prop := Claim7.holds Tryz.pinned (.plain (OpenSpec.upto enclosureNarrowerSpec)) enclosureNarrowerUptoCard

/-- THE SECOND FORM's CARD OF 'yardsticklaw05.EnclosureRoots'. -/
def enclosureRootsUptoCard : Claim7 := { stood := { row := enclosureRootsUptoRow, standIns := [], harness := (true, "e2835ffc71ff08099c9672a750d253544077f53956bb0399c7bd631683d1f899"), looks := true }, kinds := [], alts := [], laidByText := true, laidKinds := [.data, .sentinel, .pinned], laidTests := true, laidLooks := .later }
def EnclosureRootsUptoCardSaid : Prop := Claim7.holds Tryz.pinned (.plain (OpenSpec.upto enclosureRootsSpec)) enclosureRootsUptoCard

/-- THE SECOND FORM's CARD OF 'yardsticklaw05.EnclosureMeets'. -/
def enclosureMeetsUptoCard : Claim7 := { stood := { row := enclosureMeetsUptoRow, standIns := [], harness := (true, "e2835ffc71ff08099c9672a750d253544077f53956bb0399c7bd631683d1f899"), looks := true }, kinds := [], alts := [], laidByText := true, laidKinds := [.data, .sentinel, .pinned], laidTests := true, laidLooks := .later }
def EnclosureMeetsUptoCardSaid : Prop := Claim7.holds Tryz.pinned (.plain (OpenSpec.upto enclosureMeetsSpec)) enclosureMeetsUptoCard

/-- THE SECOND FORM's CARD OF 'yardsticklaw05.EnclosureRounds'. -/
def enclosureRoundsUptoCard : Claim7 := { stood := { row := enclosureRoundsUptoRow, standIns := [], harness := (true, "e2835ffc71ff08099c9672a750d253544077f53956bb0399c7bd631683d1f899"), looks := true }, kinds := [], alts := [], laidByText := true, laidKinds := [.data, .sentinel, .pinned], laidTests := true, laidLooks := .later }
def EnclosureRoundsUptoCardSaid : Prop := Claim7.holds Tryz.pinned (.plain (OpenSpec.upto enclosureRoundsSpec)) enclosureRoundsUptoCard
end Rows
end Go.Proofs.YtdnbhgkbfbgnaaaGreatDoor
