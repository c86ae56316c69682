/-
  DERIVED. GIVEN WITH THE SEED: THE CARDS: each row of YtgchiamkeeljkaaGreatDoorRows.lean that lists a variable, with what it lists TIED to the program's text (the seventh form; the later family's looks); each row that meets fmt, with fmt's text TOLD by the authors' own Lean function (tested against real Go, not proved from fmt's source: count such statements apart). THE CARD IS WHAT COUNTS. Prove the row's statement (the work); the ties are given (YtgchiamkeeljkaaGreatDoorTie.lean); close each card by the builder's one call (the guide's Derived/Test/ToyasCard.lean, 'card_holds'). Laid BY PROGRAM, IN A SANDBOX (cutbox-door.mjs). By AI agents, Wed Nov 11 2026. No macro, syntax, notation, axiom, sorry.
-/
import Derived.Test.YtgchiamkeeljkaaGreatDoorRows
import GoSem.ClaimSeven
namespace Go.Proofs.YtgchiamkeeljkaaGreatDoor
namespace Rows

/-- THE TIED CARD OF 'weavelaw.Fields'. -/
def fieldsCard : Claim7 := { stood := { row := fieldsRow, standIns := [], harness := (true, "66337c2a4a90041eca9ab1451a9b444a1a5bd03704858f6657a11e49ce26086f"), looks := false }, kinds := [], alts := [], goes := true, laidByText := true, laidKinds := [.data, .data, .data, .data], laidTests := true, laidLooks := .later }
def FieldsCardSaid : Prop := Claim7.holds Tryz.pinned (.plain (OpenSpec.ofChange fieldsSpec)) fieldsCard

/-- THE TIED CARD OF 'weavelaw.Codecs'. -/
def codecsCard : Claim7 := { stood := { row := codecsRow, standIns := [], harness := (true, "66337c2a4a90041eca9ab1451a9b444a1a5bd03704858f6657a11e49ce26086f"), looks := false }, kinds := [], alts := [], goes := true, laidByText := true, laidKinds := [.data, .data, .data, .data], laidTests := true, laidLooks := .later }
def CodecsCardSaid : Prop := Claim7.holds Tryz.pinned (.plain (OpenSpec.ofChange codecsSpec)) codecsCard

/-- THE TIED CARD OF 'weavelaw.Datagrams'. -/
def datagramsCard : Claim7 := { stood := { row := datagramsRow, standIns := [], harness := (true, "66337c2a4a90041eca9ab1451a9b444a1a5bd03704858f6657a11e49ce26086f"), looks := false }, kinds := [], alts := [], goes := true, laidByText := true, laidKinds := [.data, .data, .data, .data], laidTests := true, laidLooks := .later }
def DatagramsCardSaid : Prop := Claim7.holds Tryz.pinned (.plain (OpenSpec.ofChange datagramsSpec)) datagramsCard

/-- THE TIED CARD OF 'weavelaw.Senders'. -/
def sendersCard : Claim7 := { stood := { row := sendersRow, standIns := [], harness := (true, "66337c2a4a90041eca9ab1451a9b444a1a5bd03704858f6657a11e49ce26086f"), looks := false }, kinds := [], alts := [], goes := true, laidByText := true, laidKinds := [.data, .data, .data, .data], laidTests := true, laidLooks := .later }
def SendersCardSaid : Prop := Claim7.holds Tryz.pinned (.plain (OpenSpec.ofChange sendersSpec)) sendersCard

/-- THE TIED CARD OF 'weavelaw.Receivers'. -/
def receiversCard : Claim7 := { stood := { row := receiversRow, standIns := [], harness := (true, "66337c2a4a90041eca9ab1451a9b444a1a5bd03704858f6657a11e49ce26086f"), looks := false }, kinds := [], alts := [], goes := true, laidByText := true, laidKinds := [.data, .data, .data, .data], laidTests := true, laidLooks := .later }
def ReceiversCardSaid : Prop := Claim7.holds Tryz.pinned (.plain (OpenSpec.ofChange receiversSpec)) receiversCard

/-- THE TIED CARD OF 'weavekeep.Delivered'. -/
def deliveredCard : Claim7 := { stood := { row := deliveredRow, standIns := [], harness := (true, "66337c2a4a90041eca9ab1451a9b444a1a5bd03704858f6657a11e49ce26086f"), looks := false }, kinds := [], alts := [], goes := true, laidByText := true, laidKinds := [.data, .data, .data, .data], laidTests := true, laidLooks := .later }
def DeliveredCardSaid : Prop := Claim7.holds Tryz.pinned (.plain (OpenSpec.ofChange deliveredSpec)) deliveredCard

/-- THE TIED CARD OF 'weavekeep.Strict'. -/
def strictCard : Claim7 := { stood := { row := strictRow, standIns := [], harness := (true, "66337c2a4a90041eca9ab1451a9b444a1a5bd03704858f6657a11e49ce26086f"), looks := false }, kinds := [], alts := [], goes := true, laidByText := true, laidKinds := [.data, .data, .data, .data], laidTests := true, laidLooks := .later }
def StrictCardSaid : Prop := Claim7.holds Tryz.pinned (.plain (OpenSpec.ofChange strictSpec)) strictCard

/-- THE TIED CARD OF 'weavekeep.Passed'. -/
def passedCard : Claim7 := { stood := { row := passedRow, standIns := [], harness := (true, "66337c2a4a90041eca9ab1451a9b444a1a5bd03704858f6657a11e49ce26086f"), looks := false }, kinds := [], alts := [], goes := true, laidByText := true, laidKinds := [.data, .data, .data, .data], laidTests := true, laidLooks := .later }
def PassedCardSaid : Prop := Claim7.holds Tryz.pinned (.plain (OpenSpec.ofChange passedSpec)) passedCard

/-- THE SECOND FORM's CARD OF 'weavelaw.Fields'. -/
def fieldsUptoCard : Claim7 := { stood := { row := fieldsUptoRow, standIns := [], harness := (true, "66337c2a4a90041eca9ab1451a9b444a1a5bd03704858f6657a11e49ce26086f"), looks := false }, kinds := [], alts := [], goes := true, laidByText := true, laidKinds := [.data, .data, .data, .data], laidTests := true, laidLooks := .later }
def FieldsUptoCardSaid : Prop := Claim7.holds Tryz.pinned (.plain (OpenSpec.upto fieldsSpec)) fieldsUptoCard

/-- THE SECOND FORM's CARD OF 'weavelaw.Codecs'. -/
def codecsUptoCard : Claim7 := { stood := { row := codecsUptoRow, standIns := [], harness := (true, "66337c2a4a90041eca9ab1451a9b444a1a5bd03704858f6657a11e49ce26086f"), looks := false }, kinds := [], alts := [], goes := true, laidByText := true, laidKinds := [.data, .data, .data, .data], laidTests := true, laidLooks := .later }
def CodecsUptoCardSaid : Prop := Claim7.holds Tryz.pinned (.plain (OpenSpec.upto codecsSpec)) codecsUptoCard

/-- THE SECOND FORM's CARD OF 'weavelaw.Datagrams'. -/
def datagramsUptoCard : Claim7 := { stood := { row := datagramsUptoRow, standIns := [], harness := (true, "66337c2a4a90041eca9ab1451a9b444a1a5bd03704858f6657a11e49ce26086f"), looks := false }, kinds := [], alts := [], goes := true, laidByText := true, laidKinds := [.data, .data, .data, .data], laidTests := true, laidLooks := .later }
def DatagramsUptoCardSaid : Prop := Claim7.holds Tryz.pinned (.plain (OpenSpec.upto datagramsSpec)) datagramsUptoCard

/-- THE SECOND FORM's CARD OF 'weavelaw.Senders'. -/
def sendersUptoCard : Claim7 := { stood := { row := sendersUptoRow, standIns := [], harness := (true, "66337c2a4a90041eca9ab1451a9b444a1a5bd03704858f6657a11e49ce26086f"), looks := false }, kinds := [], alts := [], goes := true, laidByText := true, laidKinds := [.data, .data, .data, .data], laidTests := true, laidLooks := .later }
def SendersUptoCardSaid : Prop := Claim7.holds Tryz.pinned (.plain (OpenSpec.upto sendersSpec)) sendersUptoCard

/-- THE SECOND FORM's CARD OF 'weavelaw.Receivers'. -/
def receiversUptoCard : Claim7 := { stood := { row := receiversUptoRow, standIns := [], harness := (true, "66337c2a4a90041eca9ab1451a9b444a1a5bd03704858f6657a11e49ce26086f"), looks := false }, kinds := [], alts := [], goes := true, laidByText := true, laidKinds := [.data, .data, .data, .data], laidTests := true, laidLooks := .later }
def ReceiversUptoCardSaid : Prop := Claim7.holds Tryz.pinned (.plain (OpenSpec.upto receiversSpec)) receiversUptoCard

/-- THE SECOND FORM's CARD OF 'weavekeep.Delivered'. -/
def deliveredUptoCard : Claim7 := { stood := { row := deliveredUptoRow, standIns := [], harness := (true, "66337c2a4a90041eca9ab1451a9b444a1a5bd03704858f6657a11e49ce26086f"), looks := false }, kinds := [], alts := [], goes := true, laidByText := true, laidKinds := [.data, .data, .data, .data], laidTests := true, laidLooks := .later }
def DeliveredUptoCardSaid : Prop := Claim7.holds Tryz.pinned (.plain (OpenSpec.upto deliveredSpec)) deliveredUptoCard

/-- THE SECOND FORM's CARD OF 'weavekeep.Strict'. -/
def strictUptoCard : Claim7 := { stood := { row := strictUptoRow, standIns := [], harness := (true, "66337c2a4a90041eca9ab1451a9b444a1a5bd03704858f6657a11e49ce26086f"), looks := false }, kinds := [], alts := [], goes := true, laidByText := true, laidKinds := [.data, .data, .data, .data], laidTests := true, laidLooks := .later }
def StrictUptoCardSaid : Prop := Claim7.holds Tryz.pinned (.plain (OpenSpec.upto strictSpec)) strictUptoCard

/-- THE SECOND FORM's CARD OF 'weavekeep.Passed'. -/
def passedUptoCard : Claim7 := { stood := { row := passedUptoRow, standIns := [], harness := (true, "66337c2a4a90041eca9ab1451a9b444a1a5bd03704858f6657a11e49ce26086f"), looks := false }, kinds := [], alts := [], goes := true, laidByText := true, laidKinds := [.data, .data, .data, .data], laidTests := true, laidLooks := .later }
def PassedUptoCardSaid : Prop := Claim7.holds Tryz.pinned (.plain (OpenSpec.upto passedSpec)) passedUptoCard
end Rows
end Go.Proofs.YtgchiamkeeljkaaGreatDoor
