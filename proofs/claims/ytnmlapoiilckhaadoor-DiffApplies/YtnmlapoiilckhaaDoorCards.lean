/-
  DERIVED. GIVEN WITH THE SEED: THE CARDS: each row of YtnmlapoiilckhaaDoorRows.lean that lists a variable, with what it lists TIED to the program's text (the seventh form; the later family's looks); each row that meets fmt, with fmt's text TOLD by the authors' own Lean function (tested against real Go, not proved from fmt's source: count such statements apart). THE CARD IS WHAT COUNTS. Prove the row's statement (the work); the ties are given (YtnmlapoiilckhaaDoorTie.lean); close each card by the builder's one call (the guide's Derived/Test/ToyasCard.lean, 'card_holds'). Laid BY PROGRAM, IN A SANDBOX (cutbox-door.mjs). By AI agents, Wed Nov 11 2026. No macro, syntax, notation, axiom, sorry.
-/
import Derived.Test.YtnmlapoiilckhaaDoorRows
import GoSem.ClaimSeven
namespace Go.Proofs.YtnmlapoiilckhaaDoor
namespace Rows

/-- THE TIED CARD OF 'vivariumlaw.DiffBetweens'. -/
def diffBetweensCard : Claim7 := { stood := { row := diffBetweensRow, standIns := [], harness := (true, "5744bf50b583b4f895a874b1d353a44e716c7019805afb55676c9ca9fd18b970"), looks := true }, kinds := [], alts := [], laidByText := true, laidKinds := [.data], laidTests := true, laidLooks := .later }
def DiffBetweensCardSaid : Prop := Claim7.holds Tryd.pinned (.plain (OpenSpec.ofChange diffBetweensSpec)) diffBetweensCard

/-- THE TIED CARD OF 'vivariumlaw.DiffApplies'. -/
def diffAppliesCard : Claim7 := { stood := { row := diffAppliesRow, standIns := [], harness := (true, "5744bf50b583b4f895a874b1d353a44e716c7019805afb55676c9ca9fd18b970"), looks := true }, kinds := [], alts := [], laidByText := true, laidKinds := [.data], laidTests := true, laidLooks := .later }
def DiffAppliesCardSaid : Prop := Claim7.holds Tryd.pinned (.plain (OpenSpec.ofChange diffAppliesSpec)) diffAppliesCard

/-- THE TIED CARD OF 'vivariumlaw.DiffInverts'. -/
def diffInvertsCard : Claim7 := { stood := { row := diffInvertsRow, standIns := [], harness := (true, "5744bf50b583b4f895a874b1d353a44e716c7019805afb55676c9ca9fd18b970"), looks := true }, kinds := [], alts := [], laidByText := true, laidKinds := [.data], laidTests := true, laidLooks := .later }
def DiffInvertsCardSaid : Prop := Claim7.holds Tryd.pinned (.plain (OpenSpec.ofChange diffInvertsSpec)) diffInvertsCard

/-- THE TIED CARD OF 'vivariumkeep.DiffBack'. -/
def diffBackCard : Claim7 := { stood := { row := diffBackRow, standIns := [], harness := (true, "5744bf50b583b4f895a874b1d353a44e716c7019805afb55676c9ca9fd18b970"), looks := true }, kinds := [], alts := [], laidByText := true, laidKinds := [.data], laidTests := true, laidLooks := .later }
def DiffBackCardSaid : Prop := Claim7.holds Tryd.pinned (.plain (OpenSpec.ofChange diffBackSpec)) diffBackCard

/-- THE TIED CARD OF 'vivariumkeep.DiffNone'. -/
def diffNoneCard : Claim7 := { stood := { row := diffNoneRow, standIns := [], harness := (true, "5744bf50b583b4f895a874b1d353a44e716c7019805afb55676c9ca9fd18b970"), looks := true }, kinds := [], alts := [], laidByText := true, laidKinds := [.data], laidTests := true, laidLooks := .later }
def DiffNoneCardSaid : Prop := Claim7.holds Tryd.pinned (.plain (OpenSpec.ofChange diffNoneSpec)) diffNoneCard

/-- THE TIED CARD OF 'vivariumkeep.DiffLeast'. -/
def diffLeastCard : Claim7 := { stood := { row := diffLeastRow, standIns := [], harness := (true, "5744bf50b583b4f895a874b1d353a44e716c7019805afb55676c9ca9fd18b970"), looks := true }, kinds := [], alts := [], laidByText := true, laidKinds := [.data], laidTests := true, laidLooks := .later }
def DiffLeastCardSaid : Prop := Claim7.holds Tryd.pinned (.plain (OpenSpec.ofChange diffLeastSpec)) diffLeastCard

/-- THE SECOND FORM's CARD OF 'vivariumlaw.DiffBetweens'. -/
def diffBetweensUptoCard : Claim7 := { stood := { row := diffBetweensUptoRow, standIns := [], harness := (true, "5744bf50b583b4f895a874b1d353a44e716c7019805afb55676c9ca9fd18b970"), looks := true }, kinds := [], alts := [], laidByText := true, laidKinds := [.data], laidTests := true, laidLooks := .later }
def DiffBetweensUptoCardSaid : Prop := Claim7.holds Tryd.pinned (.plain (OpenSpec.upto diffBetweensSpec)) diffBetweensUptoCard

/-- THE SECOND FORM's CARD OF 'vivariumlaw.DiffApplies'. -/
def diffAppliesUptoCard : Claim7 := { stood := { row := diffAppliesUptoRow, standIns := [], harness := (true, "5744bf50b583b4f895a874b1d353a44e716c7019805afb55676c9ca9fd18b970"), looks := true }, kinds := [], alts := [], laidByText := true, laidKinds := [.data], laidTests := true, laidLooks := .later }
def DiffAppliesUptoCardSaid : Prop := Claim7.holds Tryd.pinned (.plain (OpenSpec.upto diffAppliesSpec)) diffAppliesUptoCard

/-- THE SECOND FORM's CARD OF 'vivariumlaw.DiffInverts'. -/
def diffInvertsUptoCard : Claim7 := { stood := { row := diffInvertsUptoRow, standIns := [], harness := (true, "5744bf50b583b4f895a874b1d353a44e716c7019805afb55676c9ca9fd18b970"), looks := true }, kinds := [], alts := [], laidByText := true, laidKinds := [.data], laidTests := true, laidLooks := .later }
def DiffInvertsUptoCardSaid : Prop := Claim7.holds Tryd.pinned (.plain (OpenSpec.upto diffInvertsSpec)) diffInvertsUptoCard

/-- THE SECOND FORM's CARD OF 'vivariumkeep.DiffBack'. -/
def diffBackUptoCard : Claim7 := { stood := { row := diffBackUptoRow, standIns := [], harness := (true, "5744bf50b583b4f895a874b1d353a44e716c7019805afb55676c9ca9fd18b970"), looks := true }, kinds := [], alts := [], laidByText := true, laidKinds := [.data], laidTests := true, laidLooks := .later }
def DiffBackUptoCardSaid : Prop := Claim7.holds Tryd.pinned (.plain (OpenSpec.upto diffBackSpec)) diffBackUptoCard

/-- THE SECOND FORM's CARD OF 'vivariumkeep.DiffNone'. -/
def diffNoneUptoCard : Claim7 := { stood := { row := diffNoneUptoRow, standIns := [], harness := (true, "5744bf50b583b4f895a874b1d353a44e716c7019805afb55676c9ca9fd18b970"), looks := true }, kinds := [], alts := [], laidByText := true, laidKinds := [.data], laidTests := true, laidLooks := .later }
def DiffNoneUptoCardSaid : Prop := Claim7.holds Tryd.pinned (.plain (OpenSpec.upto diffNoneSpec)) diffNoneUptoCard

/-- THE SECOND FORM's CARD OF 'vivariumkeep.DiffLeast'. -/
def diffLeastUptoCard : Claim7 := { stood := { row := diffLeastUptoRow, standIns := [], harness := (true, "5744bf50b583b4f895a874b1d353a44e716c7019805afb55676c9ca9fd18b970"), looks := true }, kinds := [], alts := [], laidByText := true, laidKinds := [.data], laidTests := true, laidLooks := .later }
def DiffLeastUptoCardSaid : Prop := Claim7.holds Tryd.pinned (.plain (OpenSpec.upto diffLeastSpec)) diffLeastUptoCard
end Rows
end Go.Proofs.YtnmlapoiilckhaaDoor
