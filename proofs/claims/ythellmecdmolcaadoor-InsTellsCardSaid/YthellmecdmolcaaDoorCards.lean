/-
  DERIVED. GIVEN WITH THE SEED: THE CARDS: each row of YthellmecdmolcaaDoorRows.lean that lists a variable, with what it lists TIED to the program's text (the seventh form; the later family's looks); each row that meets fmt, with fmt's text TOLD by the authors' own Lean function (tested against real Go, not proved from fmt's source: count such statements apart). THE CARD IS WHAT COUNTS. Prove the row's statement (the work); the ties are given (YthellmecdmolcaaDoorTie.lean); close each card by the builder's one call (the guide's Derived/Test/ToyasCard.lean, 'card_holds'). Laid BY PROGRAM, IN A SANDBOX (cutbox-door.mjs). By AI agents, Wed Nov 11 2026. No macro, syntax, notation, axiom, sorry.
-/
import Derived.Test.YthellmecdmolcaaDoorRows
import GoSem.ClaimSeven
namespace Go.Proofs.YthellmecdmolcaaDoor
namespace Rows

/-- THE TIED CARD OF 'tollbarlaw10.InsTells'. -/
def insTellsCard : Claim7 := { stood := { row := insTellsRow, standIns := [], harness := (true, "7f15a940c0f36ed899e6ed19ab75964e68dadb3ff5d05120d86ebe95923ae711"), looks := true }, kinds := [], alts := [], laidByText := true, laidKinds := [.data, .data, .data, .sentinel, .sentinel], laidTests := true, laidLooks := .later }
def InsTellsCardSaid : Prop := Claim7.holds Tryd.pinned (.plain (OpenSpec.ofChange insTellsSpec)) insTellsCard

/-- THE TIED CARD OF 'tollbarlaw10.InsBack'. -/
def insBackCard : Claim7 := { stood := { row := insBackRow, standIns := [], harness := (true, "7f15a940c0f36ed899e6ed19ab75964e68dadb3ff5d05120d86ebe95923ae711"), looks := true }, kinds := [], alts := [], laidByText := true, laidKinds := [.data, .data, .data, .sentinel, .sentinel], laidTests := true, laidLooks := .later }
def InsBackCardSaid : Prop := Claim7.holds Tryd.pinned (.plain (OpenSpec.ofChange insBackSpec)) insBackCard

/-- THE TIED CARD OF 'tollbarlaw10.InsGrows'. -/
def insGrowsCard : Claim7 := { stood := { row := insGrowsRow, standIns := [], harness := (true, "7f15a940c0f36ed899e6ed19ab75964e68dadb3ff5d05120d86ebe95923ae711"), looks := true }, kinds := [], alts := [], laidByText := true, laidKinds := [.data, .data, .data, .sentinel, .sentinel], laidTests := true, laidLooks := .later }
def InsGrowsCardSaid : Prop := Claim7.holds Tryd.pinned (.plain (OpenSpec.ofChange insGrowsSpec)) insGrowsCard

/-- THE SECOND FORM's CARD OF 'tollbarlaw10.InsTells'. -/
def insTellsUptoCard : Claim7 := { stood := { row := insTellsUptoRow, standIns := [], harness := (true, "7f15a940c0f36ed899e6ed19ab75964e68dadb3ff5d05120d86ebe95923ae711"), looks := true }, kinds := [], alts := [], laidByText := true, laidKinds := [.data, .data, .data, .sentinel, .sentinel], laidTests := true, laidLooks := .later }
def InsTellsUptoCardSaid : Prop := Claim7.holds Tryd.pinned (.plain (OpenSpec.upto insTellsSpec)) insTellsUptoCard

/-- THE SECOND FORM's CARD OF 'tollbarlaw10.InsBack'. -/
def insBackUptoCard : Claim7 := { stood := { row := insBackUptoRow, standIns := [], harness := (true, "7f15a940c0f36ed899e6ed19ab75964e68dadb3ff5d05120d86ebe95923ae711"), looks := true }, kinds := [], alts := [], laidByText := true, laidKinds := [.data, .data, .data, .sentinel, .sentinel], laidTests := true, laidLooks := .later }
def InsBackUptoCardSaid : Prop := Claim7.holds Tryd.pinned (.plain (OpenSpec.upto insBackSpec)) insBackUptoCard

/-- THE SECOND FORM's CARD OF 'tollbarlaw10.InsGrows'. -/
def insGrowsUptoCard : Claim7 := { stood := { row := insGrowsUptoRow, standIns := [], harness := (true, "7f15a940c0f36ed899e6ed19ab75964e68dadb3ff5d05120d86ebe95923ae711"), looks := true }, kinds := [], alts := [], laidByText := true, laidKinds := [.data, .data, .data, .sentinel, .sentinel], laidTests := true, laidLooks := .later }
def InsGrowsUptoCardSaid : Prop := Claim7.holds Tryd.pinned (.plain (OpenSpec.upto insGrowsSpec)) insGrowsUptoCard
end Rows
end Go.Proofs.YthellmecdmolcaaDoor
