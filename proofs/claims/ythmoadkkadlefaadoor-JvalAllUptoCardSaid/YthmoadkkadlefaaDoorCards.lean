/-
  DERIVED. GIVEN WITH THE SEED: THE CARDS: each row of YthmoadkkadlefaaDoorRows.lean that lists a variable, with what it lists TIED to the program's text (the seventh form; the later family's looks); each row that meets fmt, with fmt's text TOLD by the authors' own Lean function (tested against real Go, not proved from fmt's source: count such statements apart). THE CARD IS WHAT COUNTS. Prove the row's statement (the work); the ties are given (YthmoadkkadlefaaDoorTie.lean); close each card by the builder's one call (the guide's Derived/Test/ToyasCard.lean, 'card_holds'). Laid BY PROGRAM, IN A SANDBOX (cutbox-door.mjs). By AI agents, Wed Nov 11 2026. No macro, syntax, notation, axiom, sorry.
-/
import Derived.Test.YthmoadkkadlefaaDoorRows
import GoSem.ClaimSeven
namespace Go.Proofs.YthmoadkkadlefaaDoor
namespace Rows

/-- THE TIED CARD OF 'refectorylaw02.JvalAll'. -/
def jvalAllCard : Claim7 := { stood := { row := jvalAllRow, standIns := [], harness := (true, "eff740a7ec55b4ef9300f69077390e8620ad2389d67bf6b31f9e1013cc55df30"), looks := false }, kinds := [], alts := [], laidByText := true, laidKinds := [.data, .pinned], laidTests := true, laidLooks := .later }
def JvalAllCardSaid : Prop := Claim7.holds Tryd.pinned (.plain (OpenSpec.ofChange jvalAllSpec)) jvalAllCard

/-- THE TIED CARD OF 'refectorylaw02.JvalNumbers'. -/
def jvalNumbersCard : Claim7 := { stood := { row := jvalNumbersRow, standIns := [], harness := (true, "eff740a7ec55b4ef9300f69077390e8620ad2389d67bf6b31f9e1013cc55df30"), looks := false }, kinds := [], alts := [], laidByText := true, laidKinds := [.data, .pinned], laidTests := true, laidLooks := .later }
def JvalNumbersCardSaid : Prop := Claim7.holds Tryd.pinned (.plain (OpenSpec.ofChange jvalNumbersSpec)) jvalNumbersCard

/-- THE TIED CARD OF 'refectorylaw02.JvalWrong'. -/
def jvalWrongCard : Claim7 := { stood := { row := jvalWrongRow, standIns := [], harness := (true, "eff740a7ec55b4ef9300f69077390e8620ad2389d67bf6b31f9e1013cc55df30"), looks := false }, kinds := [], alts := [], laidByText := true, laidKinds := [.data, .pinned], laidTests := true, laidLooks := .later }
def JvalWrongCardSaid : Prop := Claim7.holds Tryd.pinned (.plain (OpenSpec.ofChange jvalWrongSpec)) jvalWrongCard

/-- THE TIED CARD OF 'refectorylaw02.JvalForms'. -/
def jvalFormsCard : Claim7 := { stood := { row := jvalFormsRow, standIns := [], harness := (true, "eff740a7ec55b4ef9300f69077390e8620ad2389d67bf6b31f9e1013cc55df30"), looks := false }, kinds := [], alts := [], laidByText := true, laidKinds := [.data, .pinned], laidTests := true, laidLooks := .later }
def JvalFormsCardSaid : Prop := Claim7.holds Tryd.pinned (.plain (OpenSpec.ofChange jvalFormsSpec)) jvalFormsCard

/-- THE SECOND FORM's CARD OF 'refectorylaw02.JvalAll'. -/
def jvalAllUptoCard : Claim7 := { stood := { row := jvalAllUptoRow, standIns := [], harness := (true, "eff740a7ec55b4ef9300f69077390e8620ad2389d67bf6b31f9e1013cc55df30"), looks := false }, kinds := [], alts := [], laidByText := true, laidKinds := [.data, .pinned], laidTests := true, laidLooks := .later }
def JvalAllUptoCardSaid : Prop := Claim7.holds Tryd.pinned (.plain (OpenSpec.upto jvalAllSpec)) jvalAllUptoCard

/-- THE SECOND FORM's CARD OF 'refectorylaw02.JvalNumbers'. -/
def jvalNumbersUptoCard : Claim7 := { stood := { row := jvalNumbersUptoRow, standIns := [], harness := (true, "eff740a7ec55b4ef9300f69077390e8620ad2389d67bf6b31f9e1013cc55df30"), looks := false }, kinds := [], alts := [], laidByText := true, laidKinds := [.data, .pinned], laidTests := true, laidLooks := .later }
def JvalNumbersUptoCardSaid : Prop := Claim7.holds Tryd.pinned (.plain (OpenSpec.upto jvalNumbersSpec)) jvalNumbersUptoCard

/-- THE SECOND FORM's CARD OF 'refectorylaw02.JvalWrong'. -/
def jvalWrongUptoCard : Claim7 := { stood := { row := jvalWrongUptoRow, standIns := [], harness := (true, "eff740a7ec55b4ef9300f69077390e8620ad2389d67bf6b31f9e1013cc55df30"), looks := false }, kinds := [], alts := [], laidByText := true, laidKinds := [.data, .pinned], laidTests := true, laidLooks := .later }
def JvalWrongUptoCardSaid : Prop := Claim7.holds Tryd.pinned (.plain (OpenSpec.upto jvalWrongSpec)) jvalWrongUptoCard

/-- THE SECOND FORM's CARD OF 'refectorylaw02.JvalForms'. -/
def jvalFormsUptoCard : Claim7 := { stood := { row := jvalFormsUptoRow, standIns := [], harness := (true, "eff740a7ec55b4ef9300f69077390e8620ad2389d67bf6b31f9e1013cc55df30"), looks := false }, kinds := [], alts := [], laidByText := true, laidKinds := [.data, .pinned], laidTests := true, laidLooks := .later }
def JvalFormsUptoCardSaid : Prop := Claim7.holds Tryd.pinned (.plain (OpenSpec.upto jvalFormsSpec)) jvalFormsUptoCard
end Rows
end Go.Proofs.YthmoadkkadlefaaDoor
