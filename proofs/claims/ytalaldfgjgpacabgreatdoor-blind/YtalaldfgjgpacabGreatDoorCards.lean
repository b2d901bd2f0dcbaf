/-
  DERIVED. GIVEN WITH THE SEED: THE CARDS: each row of YtalaldfgjgpacabGreatDoorRows.lean that lists a variable, with what it lists TIED to the program's text (the seventh form; the later family's looks); each row that meets fmt, with fmt's text TOLD by the authors' own Lean function (tested against real Go, not proved from fmt's source: count such statements apart). THE CARD IS WHAT COUNTS. Prove the row's statement (the work); the ties are given (YtalaldfgjgpacabGreatDoorTie.lean); close each card by the builder's one call (the guide's Derived/Test/ToyasCard.lean, 'card_holds'). Laid BY PROGRAM, IN A SANDBOX (cutbox-door.mjs). By AI agents, Wed Nov 11 2026. No macro, syntax, notation, axiom, sorry.
-/
import Derived.Test.YtalaldfgjgpacabGreatDoorRows
import GoSem.ClaimSeven
namespace Go.Proofs.YtalaldfgjgpacabGreatDoor
namespace Rows

/-- THE TIED CARD OF 'cartslaw.Sees'. -/
def seesCard : Claim7 := { stood := { row := seesRow, standIns := [], harness := (true, "b715664a7db0c325a78f558dc1ceec26f2b94f3b1ce4f52d1bd6ad0feeb47cf7"), looks := false }, kinds := [], alts := [], laidByText := true, laidKinds := [.data, .data, .data], laidTests := true, laidLooks := .later }
def SeesCardSaid : Prop := Claim7.holds Tryz.pinned (.plain (OpenSpec.ofChange seesSpec)) seesCard

/-- THE TIED CARD OF 'cartslaw.Meets'. -/
def meetsCard : Claim7 := { stood := { row := meetsRow, standIns := [], harness := (true, "b715664a7db0c325a78f558dc1ceec26f2b94f3b1ce4f52d1bd6ad0feeb47cf7"), looks := false }, kinds := [], alts := [], laidByText := true, laidKinds := [.data, .data, .data], laidTests := true, laidLooks := .later }
def MeetsCardSaid : Prop := Claim7.holds Tryz.pinned (.plain (OpenSpec.ofChange meetsSpec)) meetsCard

/-- THE TIED CARD OF 'cartslaw.Chains'. -/
def chainsCard : Claim7 := { stood := { row := chainsRow, standIns := [], harness := (true, "b715664a7db0c325a78f558dc1ceec26f2b94f3b1ce4f52d1bd6ad0feeb47cf7"), looks := false }, kinds := [], alts := [], laidByText := true, laidKinds := [.data, .data, .data], laidTests := true, laidLooks := .later }
def ChainsCardSaid : Prop := Claim7.holds Tryz.pinned (.plain (OpenSpec.ofChange chainsSpec)) chainsCard

/-- THE TIED CARD OF 'cartslaw.Blind'. -/
def blindCard : Claim7 := { stood := { row := blindRow, standIns := [], harness := (true, "b715664a7db0c325a78f558dc1ceec26f2b94f3b1ce4f52d1bd6ad0feeb47cf7"), looks := false }, kinds := [], alts := [], laidByText := true, laidKinds := [.data, .data, .data], laidTests := true, laidLooks := .later }
def BlindCardSaid : Prop := Claim7.holds Tryz.pinned (.plain (OpenSpec.ofChange blindSpec)) blindCard

/-- THE TIED CARD OF 'cartslaw.Spreads'. -/
def spreadsCard : Claim7 := { stood := { row := spreadsRow, standIns := [], harness := (true, "b715664a7db0c325a78f558dc1ceec26f2b94f3b1ce4f52d1bd6ad0feeb47cf7"), looks := false }, kinds := [], alts := [], laidByText := true, laidKinds := [.data, .data, .data], laidTests := true, laidLooks := .later }
def SpreadsCardSaid : Prop := Claim7.holds Tryz.pinned (.plain (OpenSpec.ofChange spreadsSpec)) spreadsCard

/-- THE TIED CARD OF 'cartslaw.Swaps'. -/
def swapsCard : Claim7 := { stood := { row := swapsRow, standIns := [], harness := (true, "b715664a7db0c325a78f558dc1ceec26f2b94f3b1ce4f52d1bd6ad0feeb47cf7"), looks := false }, kinds := [], alts := [], laidByText := true, laidKinds := [.data, .data, .data], laidTests := true, laidLooks := .later }
def SwapsCardSaid : Prop := Claim7.holds Tryz.pinned (.plain (OpenSpec.ofChange swapsSpec)) swapsCard

/-- THE SECOND FORM's CARD OF 'cartslaw.Sees'. -/
def seesUptoCard : Claim7 := { stood := { row := seesUptoRow, standIns := [], harness := (true, "b715664a7db0c325a78f558dc1ceec26f2b94f3b1ce4f52d1bd6ad0feeb47cf7"), looks := false }, kinds := [], alts := [], laidByText := true, laidKinds := [.data, .data, .data], laidTests := true, laidLooks := .later }
def SeesUptoCardSaid : Prop := Claim7.holds Tryz.pinned (.plain (OpenSpec.upto seesSpec)) seesUptoCard

/-- THE SECOND FORM's CARD OF 'cartslaw.Meets'. -/
def meetsUptoCard : Claim7 := { stood := { row := meetsUptoRow, standIns := [], harness := (true, "b715664a7db0c325a78f558dc1ceec26f2b94f3b1ce4f52d1bd6ad0feeb47cf7"), looks := false }, kinds := [], alts := [], laidByText := true, laidKinds := [.data, .data, .data], laidTests := true, laidLooks := .later }
def MeetsUptoCardSaid : Prop := Claim7.holds Tryz.pinned (.plain (OpenSpec.upto meetsSpec)) meetsUptoCard

/-- THE SECOND FORM's CARD OF 'cartslaw.Chains'. -/
def chainsUptoCard : Claim7 := { stood := { row := chainsUptoRow, standIns := [], harness := (true, "b715664a7db0c325a78f558dc1ceec26f2b94f3b1ce4f52d1bd6ad0feeb47cf7"), looks := false }, kinds := [], alts := [], laidByText := true, laidKinds := [.data, .data, .data], laidTests := true, laidLooks := .later }
def ChainsUptoCardSaid : Prop := Claim7.holds Tryz.pinned (.plain (OpenSpec.upto chainsSpec)) chainsUptoCard

/-- THE SECOND FORM's CARD OF 'cartslaw.Blind'. -/
def blindUptoCard : Claim7 := { stood := { row := blindUptoRow, standIns := [], harness := (true, "b715664a7db0c325a78f558dc1ceec26f2b94f3b1ce4f52d1bd6ad0feeb47cf7"), looks := false }, kinds := [], alts := [], laidByText := true, laidKinds := [.data, .data, .data], laidTests := true, laidLooks := .later }
def BlindUptoCardSaid : Prop := Claim7.holds Tryz.pinned (.plain (OpenSpec.upto blindSpec)) blindUptoCard

/-- THE SECOND FORM's CARD OF 'cartslaw.Spreads'. -/
def spreadsUptoCard : Claim7 := { stood := { row := spreadsUptoRow, standIns := [], harness := (true, "b715664a7db0c325a78f558dc1ceec26f2b94f3b1ce4f52d1bd6ad0feeb47cf7"), looks := false }, kinds := [], alts := [], laidByText := true, laidKinds := [.data, .data, .data], laidTests := true, laidLooks := .later }
def SpreadsUptoCardSaid : Prop := Claim7.holds Tryz.pinned (.plain (OpenSpec.upto spreadsSpec)) spreadsUptoCard

/-- THE SECOND FORM's CARD OF 'cartslaw.Swaps'. -/
def swapsUptoCard : Claim7 := { stood := { row := swapsUptoRow, standIns := [], harness := (true, "b715664a7db0c325a78f558dc1ceec26f2b94f3b1ce4f52d1bd6ad0feeb47cf7"), looks := false }, kinds := [], alts := [], laidByText := true, laidKinds := [.data, .data, .data], laidTests := true, laidLooks := .later }
def SwapsUptoCardSaid : Prop := Claim7.holds Tryz.pinned (.plain (OpenSpec.upto swapsSpec)) swapsUptoCard
end Rows
end Go.Proofs.YtalaldfgjgpacabGreatDoor
