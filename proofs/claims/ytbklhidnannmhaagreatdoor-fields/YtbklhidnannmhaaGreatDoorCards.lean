/-
  DERIVED. GIVEN WITH THE SEED: THE CARDS: each row of YtbklhidnannmhaaGreatDoorRows.lean that lists a variable, with what it lists TIED to the program's text (the seventh form; the later family's looks); each row that meets fmt, with fmt's text TOLD by the authors' own Lean function (tested against real Go, not proved from fmt's source: count such statements apart). THE CARD IS WHAT COUNTS. Prove the row's statement (the work); the ties are given (YtbklhidnannmhaaGreatDoorTie.lean); close each card by the builder's one call (the guide's Derived/Test/ToyasCard.lean, 'card_holds'). Laid BY PROGRAM, IN A SANDBOX (cutbox-door.mjs). By AI agents, Wed Nov 11 2026. No macro, syntax, notation, axiom, sorry.
-/
import Derived.Test.YtbklhidnannmhaaGreatDoorRows
import GoSem.ClaimSeven
namespace Go.Proofs.YtbklhidnannmhaaGreatDoor
namespace Rows

/-- THE TIED CARD OF 'weavelaw.Fields'. -/
def fieldsCard : Claim7 := { stood := { row := fieldsRow, standIns := [], harness := (true, "dcbc432cf27b10d0a752a851cb117fc06621a83d4dc22b3e0f6ba0b4c5705954"), looks := false }, kinds := [], alts := [], goes := true, laidByText := true, laidKinds := [.data, .data, .data, .data], laidTests := true, laidLooks := .later }
def FieldsCardSaid : Prop := Claim7.holds Tryz.pinned (.plain (OpenSpec.ofChange fieldsSpec)) fieldsCard

/-- THE TIED CARD OF 'weavelaw.Codecs'. -/
def codecsCard : Claim7 := { stood := { row := codecsRow, standIns := [], harness := (true, "dcbc432cf27b10d0a752a851cb117fc06621a83d4dc22b3e0f6ba0b4c5705954"), looks := false }, kinds := [], alts := [], goes := true, laidByText := true, laidKinds := [.data, .data, .data, .data], laidTests := true, laidLooks := .later }
def CodecsCardSaid : Prop := Claim7.holds Tryz.pinned (.plain (OpenSpec.ofChange codecsSpec)) codecsCard

/-- THE SECOND FORM's CARD OF 'weavelaw.Fields'. -/
def fieldsUptoCard : Claim7 := { stood := { row := fieldsUptoRow, standIns := [], harness := (true, "dcbc432cf27b10d0a752a851cb117fc06621a83d4dc22b3e0f6ba0b4c5705954"), looks := false }, kinds := [], alts := [], goes := true, laidByText := true, laidKinds := [.data, .data, .data, .data], laidTests := true, laidLooks := .later }
def FieldsUptoCardSaid : Prop := Claim7.holds Tryz.pinned (.plain (OpenSpec.upto fieldsSpec)) fieldsUptoCard

/-- THE SECOND FORM's CARD OF 'weavelaw.Codecs'. -/
def codecsUptoCard : Claim7 := { stood := { row := codecsUptoRow, standIns := [], harness := (true, "dcbc432cf27b10d0a752a851cb117fc06621a83d4dc22b3e0f6ba0b4c5705954"), looks := false }, kinds := [], alts := [], goes := true, laidByText := true, laidKinds := [.data, .data, .data, .data], laidTests := true, laidLooks := .later }
def CodecsUptoCardSaid : Prop := Claim7.holds Tryz.pinned (.plain (OpenSpec.upto codecsSpec)) codecsUptoCard
end Rows
end Go.Proofs.YtbklhidnannmhaaGreatDoor
