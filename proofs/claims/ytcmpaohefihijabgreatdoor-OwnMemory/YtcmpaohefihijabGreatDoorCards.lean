/-
  DERIVED. GIVEN WITH THE SEED: THE CARDS: each row of YtcmpaohefihijabGreatDoorRows.lean that lists a variable, with what it lists TIED to the program's text (the seventh form; the later family's looks); each row that meets fmt, with fmt's text TOLD by the authors' own Lean function (tested against real Go, not proved from fmt's source: count such statements apart). THE CARD IS WHAT COUNTS. Prove the row's statement (the work); the ties are given (YtcmpaohefihijabGreatDoorTie.lean); close each card by the builder's one call (the guide's Derived/Test/ToyasCard.lean, 'card_holds'). Laid BY PROGRAM, IN A SANDBOX (cutbox-door.mjs). By AI agents, Wed Nov 11 2026. No macro, syntax, notation, axiom, sorry.
-/
import Derived.Test.YtcmpaohefihijabGreatDoorRows
import GoSem.ClaimSeven
namespace Go.Proofs.YtcmpaohefihijabGreatDoor
namespace Rows

/-- THE TIED CARD OF 'vivariumkeep.OwnMemory'. -/
def ownMemoryCard : Claim7 := { stood := { row := ownMemoryRow, standIns := [], harness := (true, "0a9178a54ef9666b324d742a46167eba4fa9ab885cc22989cea6b2217eec928b"), looks := true }, kinds := [], alts := [], laidByText := true, laidKinds := [.data], laidTests := true, laidLooks := .later }
def OwnMemoryCardSaid : Prop := Claim7.holds Tryz.pinned (.plain (OpenSpec.ofChange ownMemorySpec)) ownMemoryCard

/-- THE SECOND FORM's CARD OF 'vivariumkeep.OwnMemory'. -/
def ownMemoryUptoCard : Claim7 := { stood := { row := ownMemoryUptoRow, standIns := [], harness := (true, "0a9178a54ef9666b324d742a46167eba4fa9ab885cc22989cea6b2217eec928b"), looks := true }, kinds := [], alts := [], laidByText := true, laidKinds := [.data], laidTests := true, laidLooks := .later }
def OwnMemoryUptoCardSaid : Prop := Claim7.holds Tryz.pinned (.plain (OpenSpec.upto ownMemorySpec)) ownMemoryUptoCard
end Rows
end Go.Proofs.YtcmpaohefihijabGreatDoor
