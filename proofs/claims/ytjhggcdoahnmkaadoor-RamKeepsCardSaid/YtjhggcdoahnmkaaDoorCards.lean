/-
  DERIVED. GIVEN WITH THE SEED: THE CARDS: each row of YtjhggcdoahnmkaaDoorRows.lean that lists a variable, with what it lists TIED to the program's text (the seventh form; the later family's looks); each row that meets fmt, with fmt's text TOLD by the authors' own Lean function (tested against real Go, not proved from fmt's source: count such statements apart). THE CARD IS WHAT COUNTS. Prove the row's statement (the work); the ties are given (YtjhggcdoahnmkaaDoorTie.lean); close each card by the builder's one call (the guide's Derived/Test/ToyasCard.lean, 'card_holds'). Laid BY PROGRAM, IN A SANDBOX (cutbox-door.mjs). By AI agents, Wed Nov 11 2026. No macro, syntax, notation, axiom, sorry.
-/
import Derived.Test.YtjhggcdoahnmkaaDoorRows
import GoSem.ClaimSeven
namespace Go.Proofs.YtjhggcdoahnmkaaDoor
namespace Rows

/-- THE TIED CARD OF 'icehouselaw13.RamDoes'. -/
def ramDoesCard : Claim7 := { stood := { row := ramDoesRow, standIns := [], harness := (true, "4d2e57a6c343399aa1d8284677501620ad9e82e78a6677a9c0f581246f7b9649"), looks := false }, kinds := [], alts := [], laidByText := true, laidKinds := [.data], laidTests := true, laidLooks := .later }
def RamDoesCardSaid : Prop := Claim7.holds Tryd.pinned (.plain (OpenSpec.ofChange ramDoesSpec)) ramDoesCard

/-- THE TIED CARD OF 'icehouselaw13.RamNone'. -/
def ramNoneCard : Claim7 := { stood := { row := ramNoneRow, standIns := [], harness := (true, "4d2e57a6c343399aa1d8284677501620ad9e82e78a6677a9c0f581246f7b9649"), looks := false }, kinds := [], alts := [], laidByText := true, laidKinds := [.data], laidTests := true, laidLooks := .later }
def RamNoneCardSaid : Prop := Claim7.holds Tryd.pinned (.plain (OpenSpec.ofChange ramNoneSpec)) ramNoneCard

/-- THE TIED CARD OF 'icehouselaw13.RamKeeps'. -/
def ramKeepsCard : Claim7 := { stood := { row := ramKeepsRow, standIns := [], harness := (true, "4d2e57a6c343399aa1d8284677501620ad9e82e78a6677a9c0f581246f7b9649"), looks := false }, kinds := [], alts := [], laidByText := true, laidKinds := [.data], laidTests := true, laidLooks := .later }
def RamKeepsCardSaid : Prop := Claim7.holds Tryd.pinned (.plain (OpenSpec.ofChange ramKeepsSpec)) ramKeepsCard

/-- THE TIED CARD OF 'icehouselaw13.RamOldest'. -/
def ramOldestCard : Claim7 := { stood := { row := ramOldestRow, standIns := [], harness := (true, "4d2e57a6c343399aa1d8284677501620ad9e82e78a6677a9c0f581246f7b9649"), looks := false }, kinds := [], alts := [], laidByText := true, laidKinds := [.data], laidTests := true, laidLooks := .later }
def RamOldestCardSaid : Prop := Claim7.holds Tryd.pinned (.plain (OpenSpec.ofChange ramOldestSpec)) ramOldestCard

/-- THE SECOND FORM's CARD OF 'icehouselaw13.RamDoes'. -/
def ramDoesUptoCard : Claim7 := { stood := { row := ramDoesUptoRow, standIns := [], harness := (true, "4d2e57a6c343399aa1d8284677501620ad9e82e78a6677a9c0f581246f7b9649"), looks := false }, kinds := [], alts := [], laidByText := true, laidKinds := [.data], laidTests := true, laidLooks := .later }
def RamDoesUptoCardSaid : Prop := Claim7.holds Tryd.pinned (.plain (OpenSpec.upto ramDoesSpec)) ramDoesUptoCard

/-- THE SECOND FORM's CARD OF 'icehouselaw13.RamNone'. -/
def ramNoneUptoCard : Claim7 := { stood := { row := ramNoneUptoRow, standIns := [], harness := (true, "4d2e57a6c343399aa1d8284677501620ad9e82e78a6677a9c0f581246f7b9649"), looks := false }, kinds := [], alts := [], laidByText := true, laidKinds := [.data], laidTests := true, laidLooks := .later }
def RamNoneUptoCardSaid : Prop := Claim7.holds Tryd.pinned (.plain (OpenSpec.upto ramNoneSpec)) ramNoneUptoCard

/-- THE SECOND FORM's CARD OF 'icehouselaw13.RamKeeps'. -/
def ramKeepsUptoCard : Claim7 := { stood := { row := ramKeepsUptoRow, standIns := [], harness := (true, "4d2e57a6c343399aa1d8284677501620ad9e82e78a6677a9c0f581246f7b9649"), looks := false }, kinds := [], alts := [], laidByText := true, laidKinds := [.data], laidTests := true, laidLooks := .later }
def RamKeepsUptoCardSaid : Prop := Claim7.holds Tryd.pinned (.plain (OpenSpec.upto ramKeepsSpec)) ramKeepsUptoCard

/-- THE SECOND FORM's CARD OF 'icehouselaw13.RamOldest'. -/
def ramOldestUptoCard : Claim7 := { stood := { row := ramOldestUptoRow, standIns := [], harness := (true, "4d2e57a6c343399aa1d8284677501620ad9e82e78a6677a9c0f581246f7b9649"), looks := false }, kinds := [], alts := [], laidByText := true, laidKinds := [.data], laidTests := true, laidLooks := .later }
def RamOldestUptoCardSaid : Prop := Claim7.holds Tryd.pinned (.plain (OpenSpec.upto ramOldestSpec)) ramOldestUptoCard
end Rows
end Go.Proofs.YtjhggcdoahnmkaaDoor
