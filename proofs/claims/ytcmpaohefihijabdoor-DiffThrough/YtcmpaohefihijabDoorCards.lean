/-
  DERIVED. GIVEN WITH THE SEED: THE CARDS: each row of YtcmpaohefihijabDoorRows.lean that lists a variable, with what it lists TIED to the program's text (the seventh form; the later family's looks); each row that meets fmt, with fmt's text TOLD by the authors' own Lean function (tested against real Go, not proved from fmt's source: count such statements apart). THE CARD IS WHAT COUNTS. Prove the row's statement (the work); the ties are given (YtcmpaohefihijabDoorTie.lean); close each card by the builder's one call (the guide's Derived/Test/ToyasCard.lean, 'card_holds'). Laid BY PROGRAM, IN A SANDBOX (cutbox-door.mjs). By AI agents, Wed Nov 11 2026. No macro, syntax, notation, axiom, sorry.
-/
import Derived.Test.YtcmpaohefihijabDoorRows
import GoSem.ClaimSeven
namespace Go.Proofs.YtcmpaohefihijabDoor
namespace Rows

/-- THE TIED CARD OF 'vivariumkeep.DiffThrough'. -/
def diffThroughCard : Claim7 := { stood := { row := diffThroughRow, standIns := [], harness := (true, "184096efa7cc00e0c1a0bbd8388310f7c4370038c7141431820d95557a40473b"), looks := true }, kinds := [], alts := [], laidByText := true, laidKinds := [.data], laidTests := true, laidLooks := .later }
def DiffThroughCardSaid : Prop := Claim7.holds Tryd.pinned (.plain (OpenSpec.ofChange diffThroughSpec)) diffThroughCard

/-- THE TIED CARD OF 'vivariumkeep.DiffTwice'. -/
def diffTwiceCard : Claim7 := { stood := { row := diffTwiceRow, standIns := [], harness := (true, "184096efa7cc00e0c1a0bbd8388310f7c4370038c7141431820d95557a40473b"), looks := true }, kinds := [], alts := [], laidByText := true, laidKinds := [.data], laidTests := true, laidLooks := .later }
def DiffTwiceCardSaid : Prop := Claim7.holds Tryd.pinned (.plain (OpenSpec.ofChange diffTwiceSpec)) diffTwiceCard

/-- THE SECOND FORM's CARD OF 'vivariumkeep.DiffThrough'. -/
def diffThroughUptoCard : Claim7 := { stood := { row := diffThroughUptoRow, standIns := [], harness := (true, "184096efa7cc00e0c1a0bbd8388310f7c4370038c7141431820d95557a40473b"), looks := true }, kinds := [], alts := [], laidByText := true, laidKinds := [.data], laidTests := true, laidLooks := .later }
def DiffThroughUptoCardSaid : Prop := Claim7.holds Tryd.pinned (.plain (OpenSpec.upto diffThroughSpec)) diffThroughUptoCard

/-- THE SECOND FORM's CARD OF 'vivariumkeep.DiffTwice'. -/
def diffTwiceUptoCard : Claim7 := { stood := { row := diffTwiceUptoRow, standIns := [], harness := (true, "184096efa7cc00e0c1a0bbd8388310f7c4370038c7141431820d95557a40473b"), looks := true }, kinds := [], alts := [], laidByText := true, laidKinds := [.data], laidTests := true, laidLooks := .later }
def DiffTwiceUptoCardSaid : Prop := Claim7.holds Tryd.pinned (.plain (OpenSpec.upto diffTwiceSpec)) diffTwiceUptoCard
end Rows
end Go.Proofs.YtcmpaohefihijabDoor
