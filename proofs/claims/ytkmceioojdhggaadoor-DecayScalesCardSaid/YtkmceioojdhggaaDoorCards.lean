/-
  DERIVED. GIVEN WITH THE SEED: THE CARDS: each row of YtkmceioojdhggaaDoorRows.lean that lists a variable, with what it lists TIED to the program's text (the seventh form; the later family's looks); each row that meets fmt, with fmt's text TOLD by the authors' own Lean function (tested against real Go, not proved from fmt's source: count such statements apart). THE CARD IS WHAT COUNTS. Prove the row's statement (the work); the ties are given (YtkmceioojdhggaaDoorTie.lean); close each card by the builder's one call (the guide's Derived/Test/ToyasCard.lean, 'card_holds'). Laid BY PROGRAM, IN A SANDBOX (cutbox-door.mjs). By AI agents, Wed Nov 11 2026. No macro, syntax, notation, axiom, sorry.
-/
import Derived.Test.YtkmceioojdhggaaDoorRows
import GoSem.ClaimSeven
namespace Go.Proofs.YtkmceioojdhggaaDoor
namespace Rows

/-- THE TIED CARD OF 'tithebarnlaw02.DecayFactors'. -/
def decayFactorsCard : Claim7 := { stood := { row := decayFactorsRow, standIns := [], harness := (true, "63cd9561278a0aebc3e9847cc4120c388a8a376cae5cb5fa008ad89d184152a0"), looks := false }, kinds := [], alts := [], laidByText := true, laidKinds := [.data], laidTests := true, laidLooks := .later }
def DecayFactorsCardSaid : Prop := Claim7.holds Tryd.pinned (.plain (OpenSpec.ofChange decayFactorsSpec)) decayFactorsCard

/-- THE TIED CARD OF 'tithebarnlaw02.DecayApplies'. -/
def decayAppliesCard : Claim7 := { stood := { row := decayAppliesRow, standIns := [], harness := (true, "63cd9561278a0aebc3e9847cc4120c388a8a376cae5cb5fa008ad89d184152a0"), looks := false }, kinds := [], alts := [], laidByText := true, laidKinds := [.data], laidTests := true, laidLooks := .later }
def DecayAppliesCardSaid : Prop := Claim7.holds Tryd.pinned (.plain (OpenSpec.ofChange decayAppliesSpec)) decayAppliesCard

/-- THE TIED CARD OF 'tithebarnlaw02.DecayTable'. -/
def decayTableCard : Claim7 := { stood := { row := decayTableRow, standIns := [], harness := (true, "63cd9561278a0aebc3e9847cc4120c388a8a376cae5cb5fa008ad89d184152a0"), looks := false }, kinds := [], alts := [], laidByText := true, laidKinds := [.data], laidTests := true, laidLooks := .later }
def DecayTableCardSaid : Prop := Claim7.holds Tryd.pinned (.plain (OpenSpec.ofChange decayTableSpec)) decayTableCard

/-- THE TIED CARD OF 'tithebarnlaw02.DecayHalves'. -/
def decayHalvesCard : Claim7 := { stood := { row := decayHalvesRow, standIns := [], harness := (true, "63cd9561278a0aebc3e9847cc4120c388a8a376cae5cb5fa008ad89d184152a0"), looks := false }, kinds := [], alts := [], laidByText := true, laidKinds := [.data], laidTests := true, laidLooks := .later }
def DecayHalvesCardSaid : Prop := Claim7.holds Tryd.pinned (.plain (OpenSpec.ofChange decayHalvesSpec)) decayHalvesCard

/-- THE TIED CARD OF 'tithebarnlaw02.DecayScales'. -/
def decayScalesCard : Claim7 := { stood := { row := decayScalesRow, standIns := [], harness := (true, "63cd9561278a0aebc3e9847cc4120c388a8a376cae5cb5fa008ad89d184152a0"), looks := false }, kinds := [], alts := [], laidByText := true, laidKinds := [.data], laidTests := true, laidLooks := .later }
def DecayScalesCardSaid : Prop := Claim7.holds Tryd.pinned (.plain (OpenSpec.ofChange decayScalesSpec)) decayScalesCard

/-- THE SECOND FORM's CARD OF 'tithebarnlaw02.DecayFactors'. -/
def decayFactorsUptoCard : Claim7 := { stood := { row := decayFactorsUptoRow, standIns := [], harness := (true, "63cd9561278a0aebc3e9847cc4120c388a8a376cae5cb5fa008ad89d184152a0"), looks := false }, kinds := [], alts := [], laidByText := true, laidKinds := [.data], laidTests := true, laidLooks := .later }
def DecayFactorsUptoCardSaid : Prop := Claim7.holds Tryd.pinned (.plain (OpenSpec.upto decayFactorsSpec)) decayFactorsUptoCard

/-- THE SECOND FORM's CARD OF 'tithebarnlaw02.DecayApplies'. -/
def decayAppliesUptoCard : Claim7 := { stood := { row := decayAppliesUptoRow, standIns := [], harness := (true, "63cd9561278a0aebc3e9847cc4120c388a8a376cae5cb5fa008ad89d184152a0"), looks := false }, kinds := [], alts := [], laidByText := true, laidKinds := [.data], laidTests := true, laidLooks := .later }
def DecayAppliesUptoCardSaid : Prop := Claim7.holds Tryd.pinned (.plain (OpenSpec.upto decayAppliesSpec)) decayAppliesUptoCard

/-- THE SECOND FORM's CARD OF 'tithebarnlaw02.DecayTable'. -/
def decayTableUptoCard : Claim7 := { stood := { row := decayTableUptoRow, standIns := [], harness := (true, "63cd9561278a0aebc3e9847cc4120c388a8a376cae5cb5fa008ad89d184152a0"), looks := false }, kinds := [], alts := [], laidByText := true, laidKinds := [.data], laidTests := true, laidLooks := .later }
def DecayTableUptoCardSaid : Prop := Claim7.holds Tryd.pinned (.plain (OpenSpec.upto decayTableSpec)) decayTableUptoCard

/-- THE SECOND FORM's CARD OF 'tithebarnlaw02.DecayHalves'. -/
def decayHalvesUptoCard : Claim7 := { stood := { row := decayHalvesUptoRow, standIns := [], harness := (true, "63cd9561278a0aebc3e9847cc4120c388a8a376cae5cb5fa008ad89d184152a0"), looks := false }, kinds := [], alts := [], laidByText := true, laidKinds := [.data], laidTests := true, laidLooks := .later }
def DecayHalvesUptoCardSaid : Prop := Claim7.holds Tryd.pinned (.plain (OpenSpec.upto decayHalvesSpec)) decayHalvesUptoCard

/-- THE SECOND FORM's CARD OF 'tithebarnlaw02.DecayScales'. -/
def decayScalesUptoCard : Claim7 := { stood := { row := decayScalesUptoRow, standIns := [], harness := (true, "63cd9561278a0aebc3e9847cc4120c388a8a376cae5cb5fa008ad89d184152a0"), looks := false }, kinds := [], alts := [], laidByText := true, laidKinds := [.data], laidTests := true, laidLooks := .later }
def DecayScalesUptoCardSaid : Prop := Claim7.holds Tryd.pinned (.plain (OpenSpec.upto decayScalesSpec)) decayScalesUptoCard
end Rows
end Go.Proofs.YtkmceioojdhggaaDoor
