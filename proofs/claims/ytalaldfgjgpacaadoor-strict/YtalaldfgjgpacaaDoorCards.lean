/-
  DERIVED. GIVEN WITH THE SEED: THE CARDS: each row of YtalaldfgjgpacaaDoorRows.lean that lists a variable, with what it lists TIED to the program's text (the seventh form; the later family's looks); each row that meets fmt, with fmt's text TOLD by the authors' own Lean function (tested against real Go, not proved from fmt's source: count such statements apart). THE CARD IS WHAT COUNTS. Prove the row's statement (the work); the ties are given (YtalaldfgjgpacaaDoorTie.lean); close each card by the builder's one call (the guide's Derived/Test/ToyasCard.lean, 'card_holds'). Laid BY PROGRAM, IN A SANDBOX (cutbox-door.mjs). By AI agents, Wed Nov 11 2026. No macro, syntax, notation, axiom, sorry.
-/
import Derived.Test.YtalaldfgjgpacaaDoorRows
import GoSem.ClaimSeven
namespace Go.Proofs.YtalaldfgjgpacaaDoor
namespace Rows

/-- THE TIED CARD OF 'cartslaw.Alone'. -/
def aloneCard : Claim7 := { stood := { row := aloneRow, standIns := [], harness := (true, "4460c553a5a0c9157b712abb5bc349466c12c8acefe5742fec04a9ad9cc1af71"), looks := false }, kinds := [], alts := [], laidByText := true, laidKinds := [.data, .data, .data], laidTests := true, laidLooks := .later }
def AloneCardSaid : Prop := Claim7.holds Tryd.pinned (.plain (OpenSpec.ofChange aloneSpec)) aloneCard

/-- THE TIED CARD OF 'cartslaw.Strict'. -/
def strictCard : Claim7 := { stood := { row := strictRow, standIns := [], harness := (true, "4460c553a5a0c9157b712abb5bc349466c12c8acefe5742fec04a9ad9cc1af71"), looks := false }, kinds := [], alts := [], laidByText := true, laidKinds := [.data, .data, .data], laidTests := true, laidLooks := .later }
def StrictCardSaid : Prop := Claim7.holds Tryd.pinned (.plain (OpenSpec.ofChange strictSpec)) strictCard

/-- THE SECOND FORM's CARD OF 'cartslaw.Alone'. -/
def aloneUptoCard : Claim7 := { stood := { row := aloneUptoRow, standIns := [], harness := (true, "4460c553a5a0c9157b712abb5bc349466c12c8acefe5742fec04a9ad9cc1af71"), looks := false }, kinds := [], alts := [], laidByText := true, laidKinds := [.data, .data, .data], laidTests := true, laidLooks := .later }
def AloneUptoCardSaid : Prop := Claim7.holds Tryd.pinned (.plain (OpenSpec.upto aloneSpec)) aloneUptoCard

/-- THE SECOND FORM's CARD OF 'cartslaw.Strict'. -/
def strictUptoCard : Claim7 := { stood := { row := strictUptoRow, standIns := [], harness := (true, "4460c553a5a0c9157b712abb5bc349466c12c8acefe5742fec04a9ad9cc1af71"), looks := false }, kinds := [], alts := [], laidByText := true, laidKinds := [.data, .data, .data], laidTests := true, laidLooks := .later }
def StrictUptoCardSaid : Prop := Claim7.holds Tryd.pinned (.plain (OpenSpec.upto strictSpec)) strictUptoCard
end Rows
end Go.Proofs.YtalaldfgjgpacaaDoor
