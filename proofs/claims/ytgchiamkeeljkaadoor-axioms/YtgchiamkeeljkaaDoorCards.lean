/-
  DERIVED. GIVEN WITH THE SEED: THE CARDS: each row of YtgchiamkeeljkaaDoorRows.lean that lists a variable, with what it lists TIED to the program's text (the seventh form; the later family's looks); each row that meets fmt, with fmt's text TOLD by the authors' own Lean function (tested against real Go, not proved from fmt's source: count such statements apart). THE CARD IS WHAT COUNTS. Prove the row's statement (the work); the ties are given (YtgchiamkeeljkaaDoorTie.lean); close each card by the builder's one call (the guide's Derived/Test/ToyasCard.lean, 'card_holds'). Laid BY PROGRAM, IN A SANDBOX (cutbox-door.mjs). By AI agents, Wed Nov 11 2026. No macro, syntax, notation, axiom, sorry.
-/
import Derived.Test.YtgchiamkeeljkaaDoorRows
import GoSem.ClaimSeven
namespace Go.Proofs.YtgchiamkeeljkaaDoor
namespace Rows

/-- THE TIED CARD OF 'weavekeep.Axioms'. -/
def axiomsCard : Claim7 := { stood := { row := axiomsRow, standIns := [], harness := (true, "6da5d384547a09f074f830f6b804dc49c9c7934f44882155a9c108daf21760d5"), looks := false }, kinds := [], alts := [], laidByText := true, laidKinds := [.data, .data, .data, .data], laidTests := true, laidLooks := .later }
def AxiomsCardSaid : Prop := Claim7.holds Tryd.pinned (.plain (OpenSpec.ofChange axiomsSpec)) axiomsCard

/-- THE TIED CARD OF 'weavekeep.Linear'. -/
def linearCard : Claim7 := { stood := { row := linearRow, standIns := [], harness := (true, "6da5d384547a09f074f830f6b804dc49c9c7934f44882155a9c108daf21760d5"), looks := false }, kinds := [], alts := [], goes := true, laidByText := true, laidKinds := [.data, .data, .data, .data], laidTests := true, laidLooks := .later }
def LinearCardSaid : Prop := Claim7.holds Tryd.pinned (.plain (OpenSpec.ofChange linearSpec)) linearCard

/-- THE TIED CARD OF 'weavekeep.Rebuilt'. -/
def rebuiltCard : Claim7 := { stood := { row := rebuiltRow, standIns := [], harness := (true, "6da5d384547a09f074f830f6b804dc49c9c7934f44882155a9c108daf21760d5"), looks := false }, kinds := [], alts := [], goes := true, laidByText := true, laidKinds := [.data, .data, .data, .data], laidTests := true, laidLooks := .later }
def RebuiltCardSaid : Prop := Claim7.holds Tryd.pinned (.plain (OpenSpec.ofChange rebuiltSpec)) rebuiltCard

/-- THE SECOND FORM's CARD OF 'weavekeep.Axioms'. -/
def axiomsUptoCard : Claim7 := { stood := { row := axiomsUptoRow, standIns := [], harness := (true, "6da5d384547a09f074f830f6b804dc49c9c7934f44882155a9c108daf21760d5"), looks := false }, kinds := [], alts := [], laidByText := true, laidKinds := [.data, .data, .data, .data], laidTests := true, laidLooks := .later }
def AxiomsUptoCardSaid : Prop := Claim7.holds Tryd.pinned (.plain (OpenSpec.upto axiomsSpec)) axiomsUptoCard

/-- THE SECOND FORM's CARD OF 'weavekeep.Linear'. -/
def linearUptoCard : Claim7 := { stood := { row := linearUptoRow, standIns := [], harness := (true, "6da5d384547a09f074f830f6b804dc49c9c7934f44882155a9c108daf21760d5"), looks := false }, kinds := [], alts := [], goes := true, laidByText := true, laidKinds := [.data, .data, .data, .data], laidTests := true, laidLooks := .later }
def LinearUptoCardSaid : Prop := Claim7.holds Tryd.pinned (.plain (OpenSpec.upto linearSpec)) linearUptoCard

/-- THE SECOND FORM's CARD OF 'weavekeep.Rebuilt'. -/
def rebuiltUptoCard : Claim7 := { stood := { row := rebuiltUptoRow, standIns := [], harness := (true, "6da5d384547a09f074f830f6b804dc49c9c7934f44882155a9c108daf21760d5"), looks := false }, kinds := [], alts := [], goes := true, laidByText := true, laidKinds := [.data, .data, .data, .data], laidTests := true, laidLooks := .later }
def RebuiltUptoCardSaid : Prop := Claim7.holds Tryd.pinned (.plain (OpenSpec.upto rebuiltSpec)) rebuiltUptoCard
end Rows
end Go.Proofs.YtgchiamkeeljkaaDoor
