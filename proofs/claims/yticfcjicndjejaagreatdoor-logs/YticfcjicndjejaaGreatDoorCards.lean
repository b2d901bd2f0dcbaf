/-
  DERIVED. GIVEN WITH THE SEED: THE CARDS: each row of YticfcjicndjejaaGreatDoorRows.lean that lists a variable, with what it lists TIED to the program's text (the seventh form; the later family's looks); each row that meets fmt, with fmt's text TOLD by the authors' own Lean function (tested against real Go, not proved from fmt's source: count such statements apart). THE CARD IS WHAT COUNTS. Prove the row's statement (the work); the ties are given (YticfcjicndjejaaGreatDoorTie.lean); close each card by the builder's one call (the guide's Derived/Test/ToyasCard.lean, 'card_holds'). Laid BY PROGRAM, IN A SANDBOX (cutbox-door.mjs). By AI agents, Wed Nov 11 2026. No macro, syntax, notation, axiom, sorry.
-/
import Derived.Test.YticfcjicndjejaaGreatDoorRows
import GoSem.ClaimSeven
namespace Go.Proofs.YticfcjicndjejaaGreatDoor
namespace Rows

/-- THE TIED CARD OF 'cartslaw.Events'. -/
def eventsCard : Claim7 := { stood := { row := eventsRow, standIns := [], harness := (true, "f871dab9b35140bcb719da71aebe1e10ca00f43ebc908c8c95de94a05a4d3201"), looks := false }, kinds := [], alts := [], laidByText := true, laidKinds := [.data, .data, .data], laidTests := true, laidLooks := .later }
def EventsCardSaid : Prop := Claim7.holds Tryz.pinned (.plain (OpenSpec.ofChange eventsSpec)) eventsCard

/-- THE TIED CARD OF 'cartslaw.Reads'. -/
def readsCard : Claim7 := { stood := { row := readsRow, standIns := [], harness := (true, "f871dab9b35140bcb719da71aebe1e10ca00f43ebc908c8c95de94a05a4d3201"), looks := false }, kinds := [], alts := [], laidByText := true, laidKinds := [.data, .data, .data], laidTests := true, laidLooks := .later }
def ReadsCardSaid : Prop := Claim7.holds Tryz.pinned (.plain (OpenSpec.ofChange readsSpec)) readsCard

/-- THE TIED CARD OF 'cartslaw.Logs'. -/
def logsCard : Claim7 := { stood := { row := logsRow, standIns := [], harness := (true, "f871dab9b35140bcb719da71aebe1e10ca00f43ebc908c8c95de94a05a4d3201"), looks := false }, kinds := [], alts := [], laidByText := true, laidKinds := [.data, .data, .data], laidTests := true, laidLooks := .later }
def LogsCardSaid : Prop := Claim7.holds Tryz.pinned (.plain (OpenSpec.ofChange logsSpec)) logsCard

/-- THE TIED CARD OF 'cartslaw.Opens'. -/
def opensCard : Claim7 := { stood := { row := opensRow, standIns := [], harness := (true, "f871dab9b35140bcb719da71aebe1e10ca00f43ebc908c8c95de94a05a4d3201"), looks := false }, kinds := [], alts := [], laidByText := true, laidKinds := [.data, .data, .data], laidTests := true, laidLooks := .later }
def OpensCardSaid : Prop := Claim7.holds Tryz.pinned (.plain (OpenSpec.ofChange opensSpec)) opensCard

/-- THE TIED CARD OF 'cartslaw.Takes'. -/
def takesCard : Claim7 := { stood := { row := takesRow, standIns := [], harness := (true, "f871dab9b35140bcb719da71aebe1e10ca00f43ebc908c8c95de94a05a4d3201"), looks := false }, kinds := [], alts := [], laidByText := true, laidKinds := [.data, .data, .data], laidTests := true, laidLooks := .later }
def TakesCardSaid : Prop := Claim7.holds Tryz.pinned (.plain (OpenSpec.ofChange takesSpec)) takesCard

/-- THE TIED CARD OF 'cartslaw.All'. -/
def allCard : Claim7 := { stood := { row := allRow, standIns := [], harness := (true, "f871dab9b35140bcb719da71aebe1e10ca00f43ebc908c8c95de94a05a4d3201"), looks := false }, kinds := [], alts := [], laidByText := true, laidKinds := [.data, .data, .data], laidTests := true, laidLooks := .later }
def AllCardSaid : Prop := Claim7.holds Tryz.pinned (.plain (OpenSpec.ofChange allSpec)) allCard

/-- THE TIED CARD OF 'cartslaw.Lasts'. -/
def lastsCard : Claim7 := { stood := { row := lastsRow, standIns := [], harness := (true, "f871dab9b35140bcb719da71aebe1e10ca00f43ebc908c8c95de94a05a4d3201"), looks := false }, kinds := [], alts := [], laidByText := true, laidKinds := [.data, .data, .data], laidTests := true, laidLooks := .later }
def LastsCardSaid : Prop := Claim7.holds Tryz.pinned (.plain (OpenSpec.ofChange lastsSpec)) lastsCard

/-- THE TIED CARD OF 'cartslaw.Told'. -/
def toldCard : Claim7 := { stood := { row := toldRow, standIns := [], harness := (true, "f871dab9b35140bcb719da71aebe1e10ca00f43ebc908c8c95de94a05a4d3201"), looks := false }, kinds := [], alts := [], laidByText := true, laidKinds := [.data, .data, .data], laidTests := true, laidLooks := .later }
def ToldCardSaid : Prop := Claim7.holds Tryz.pinned (.plain (OpenSpec.ofChange toldSpec)) toldCard

/-- THE SECOND FORM's CARD OF 'cartslaw.Events'. -/
def eventsUptoCard : Claim7 := { stood := { row := eventsUptoRow, standIns := [], harness := (true, "f871dab9b35140bcb719da71aebe1e10ca00f43ebc908c8c95de94a05a4d3201"), looks := false }, kinds := [], alts := [], laidByText := true, laidKinds := [.data, .data, .data], laidTests := true, laidLooks := .later }
def EventsUptoCardSaid : Prop := Claim7.holds Tryz.pinned (.plain (OpenSpec.upto eventsSpec)) eventsUptoCard

/-- THE SECOND FORM's CARD OF 'cartslaw.Reads'. -/
def readsUptoCard : Claim7 := { stood := { row := readsUptoRow, standIns := [], harness := (true, "f871dab9b35140bcb719da71aebe1e10ca00f43ebc908c8c95de94a05a4d3201"), looks := false }, kinds := [], alts := [], laidByText := true, laidKinds := [.data, .data, .data], laidTests := true, laidLooks := .later }
def ReadsUptoCardSaid : Prop := Claim7.holds Tryz.pinned (.plain (OpenSpec.upto readsSpec)) readsUptoCard

/-- THE SECOND FORM's CARD OF 'cartslaw.Logs'. -/
def logsUptoCard : Claim7 := { stood := { row := logsUptoRow, standIns := [], harness := (true, "f871dab9b35140bcb719da71aebe1e10ca00f43ebc908c8c95de94a05a4d3201"), looks := false }, kinds := [], alts := [], laidByText := true, laidKinds := [.data, .data, .data], laidTests := true, laidLooks := .later }
def LogsUptoCardSaid : Prop := Claim7.holds Tryz.pinned (.plain (OpenSpec.upto logsSpec)) logsUptoCard

/-- THE SECOND FORM's CARD OF 'cartslaw.Opens'. -/
def opensUptoCard : Claim7 := { stood := { row := opensUptoRow, standIns := [], harness := (true, "f871dab9b35140bcb719da71aebe1e10ca00f43ebc908c8c95de94a05a4d3201"), looks := false }, kinds := [], alts := [], laidByText := true, laidKinds := [.data, .data, .data], laidTests := true, laidLooks := .later }
def OpensUptoCardSaid : Prop := Claim7.holds Tryz.pinned (.plain (OpenSpec.upto opensSpec)) opensUptoCard

/-- THE SECOND FORM's CARD OF 'cartslaw.Takes'. -/
def takesUptoCard : Claim7 := { stood := { row := takesUptoRow, standIns := [], harness := (true, "f871dab9b35140bcb719da71aebe1e10ca00f43ebc908c8c95de94a05a4d3201"), looks := false }, kinds := [], alts := [], laidByText := true, laidKinds := [.data, .data, .data], laidTests := true, laidLooks := .later }
def TakesUptoCardSaid : Prop := Claim7.holds Tryz.pinned (.plain (OpenSpec.upto takesSpec)) takesUptoCard

/-- THE SECOND FORM's CARD OF 'cartslaw.All'. -/
def allUptoCard : Claim7 := { stood := { row := allUptoRow, standIns := [], harness := (true, "f871dab9b35140bcb719da71aebe1e10ca00f43ebc908c8c95de94a05a4d3201"), looks := false }, kinds := [], alts := [], laidByText := true, laidKinds := [.data, .data, .data], laidTests := true, laidLooks := .later }
def AllUptoCardSaid : Prop := Claim7.holds Tryz.pinned (.plain (OpenSpec.upto allSpec)) allUptoCard

/-- THE SECOND FORM's CARD OF 'cartslaw.Lasts'. -/
def lastsUptoCard : Claim7 := { stood := { row := lastsUptoRow, standIns := [], harness := (true, "f871dab9b35140bcb719da71aebe1e10ca00f43ebc908c8c95de94a05a4d3201"), looks := false }, kinds := [], alts := [], laidByText := true, laidKinds := [.data, .data, .data], laidTests := true, laidLooks := .later }
def LastsUptoCardSaid : Prop := Claim7.holds Tryz.pinned (.plain (OpenSpec.upto lastsSpec)) lastsUptoCard

/-- THE SECOND FORM's CARD OF 'cartslaw.Told'. -/
def toldUptoCard : Claim7 := { stood := { row := toldUptoRow, standIns := [], harness := (true, "f871dab9b35140bcb719da71aebe1e10ca00f43ebc908c8c95de94a05a4d3201"), looks := false }, kinds := [], alts := [], laidByText := true, laidKinds := [.data, .data, .data], laidTests := true, laidLooks := .later }
def ToldUptoCardSaid : Prop := Claim7.holds Tryz.pinned (.plain (OpenSpec.upto toldSpec)) toldUptoCard
end Rows
end Go.Proofs.YticfcjicndjejaaGreatDoor
