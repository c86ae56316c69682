/-
  DERIVED. GIVEN WITH THE SEED: THE CARDS: each row of YtljomejbpkdegaaDoorRows.lean that lists a variable, with what it lists TIED to the program's text (the seventh form; the later family's looks); each row that meets fmt, with fmt's text TOLD by the authors' own Lean function (tested against real Go, not proved from fmt's source: count such statements apart). THE CARD IS WHAT COUNTS. Prove the row's statement (the work); the ties are given (YtljomejbpkdegaaDoorTie.lean); close each card by the builder's one call (the guide's Derived/Test/ToyasCard.lean, 'card_holds'). Laid BY PROGRAM, IN A SANDBOX (cutbox-door.mjs). By AI agents, Wed Nov 11 2026. No macro, syntax, notation, axiom, sorry.
-/
import Derived.Test.YtljomejbpkdegaaDoorRows
import GoSem.ClaimSeven
namespace Go.Proofs.YtljomejbpkdegaaDoor
namespace Rows

/-- THE TIED CARD OF 'weavelaw.Fields'. -/
def fieldsCard : Claim7 := { stood := { row := fieldsRow, standIns := [], harness := (true, "ab1172c0e9106bdd5afbab53e40a71e26461bca3783a8ed7b25e8a301323793a"), looks := false }, kinds := [], alts := [], laidByText := true, laidKinds := [.data, .data, .data, .data], laidTests := true, laidLooks := .later }
def FieldsCardSaid : Prop := Claim7.holds Tryd.pinned (.plain (OpenSpec.ofChange fieldsSpec)) fieldsCard

/-- THE TIED CARD OF 'weavekeep.Axioms'. -/
def axiomsCard : Claim7 := { stood := { row := axiomsRow, standIns := [], harness := (true, "ab1172c0e9106bdd5afbab53e40a71e26461bca3783a8ed7b25e8a301323793a"), looks := false }, kinds := [], alts := [], laidByText := true, laidKinds := [.data, .data, .data, .data], laidTests := true, laidLooks := .later }
def AxiomsCardSaid : Prop := Claim7.holds Tryd.pinned (.plain (OpenSpec.ofChange axiomsSpec)) axiomsCard

/-- THE SECOND FORM's CARD OF 'weavelaw.Fields'. -/
def fieldsUptoCard : Claim7 := { stood := { row := fieldsUptoRow, standIns := [], harness := (true, "ab1172c0e9106bdd5afbab53e40a71e26461bca3783a8ed7b25e8a301323793a"), looks := false }, kinds := [], alts := [], laidByText := true, laidKinds := [.data, .data, .data, .data], laidTests := true, laidLooks := .later }
def FieldsUptoCardSaid : Prop := Claim7.holds Tryd.pinned (.plain (OpenSpec.upto fieldsSpec)) fieldsUptoCard

/-- THE SECOND FORM's CARD OF 'weavekeep.Axioms'. -/
def axiomsUptoCard : Claim7 := { stood := { row := axiomsUptoRow, standIns := [], harness := (true, "ab1172c0e9106bdd5afbab53e40a71e26461bca3783a8ed7b25e8a301323793a"), looks := false }, kinds := [], alts := [], laidByText := true, laidKinds := [.data, .data, .data, .data], laidTests := true, laidLooks := .later }
def AxiomsUptoCardSaid : Prop := Claim7.holds Tryd.pinned (.plain (OpenSpec.upto axiomsSpec)) axiomsUptoCard
end Rows
end Go.Proofs.YtljomejbpkdegaaDoor
