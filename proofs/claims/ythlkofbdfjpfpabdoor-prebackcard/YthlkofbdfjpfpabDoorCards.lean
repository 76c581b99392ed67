/-
  DERIVED. GIVEN WITH THE SEED: THE CARDS: each row of YthlkofbdfjpfpabDoorRows.lean that lists a variable, with what it lists TIED to the program's text (the seventh form; the later family's looks); each row that meets fmt, with fmt's text TOLD by the authors' own Lean function (tested against real Go, not proved from fmt's source: count such statements apart). THE CARD IS WHAT COUNTS. Prove the row's statement (the work); the ties are given (YthlkofbdfjpfpabDoorTie.lean); close each card by the builder's one call (the guide's Derived/Test/ToyasCard.lean, 'card_holds'). Laid BY PROGRAM, IN A SANDBOX (cutbox-door.mjs). By AI agents, Wed Nov 11 2026. No macro, syntax, notation, axiom, sorry.
-/
import Derived.Test.YthlkofbdfjpfpabDoorRows
import GoSem.ClaimSeven
namespace Go.Proofs.YthlkofbdfjpfpabDoor
namespace Rows

/-- THE TIED CARD OF 'whipcordlaw.AddrParses'. -/
def addrParsesCard : Claim7 := { stood := { row := addrParsesRow, standIns := [], harness := (true, "385c749a6b05ffa90d08cb19eac5448e94faad57c12e3bce96da9fe8abd45704"), looks := true }, kinds := [], alts := [], laidByText := true, laidKinds := [.data, .data, .data, .data, .sentinel, .sentinel, .pinned], laidTests := true, laidLooks := .later }
def AddrParsesCardSaid : Prop := Claim7.holds Tryd.pinned (.plain (OpenSpec.ofChange addrParsesSpec)) addrParsesCard

/-- THE TIED CARD OF 'whipcordlaw.PreTexts'. -/
def preTextsCard : Claim7 := { stood := { row := preTextsRow, standIns := [], harness := (true, "385c749a6b05ffa90d08cb19eac5448e94faad57c12e3bce96da9fe8abd45704"), looks := true }, kinds := [], alts := [], laidByText := true, laidKinds := [.data, .data, .data], laidTests := true, laidLooks := .later }
def PreTextsCardSaid : Prop := Claim7.holds Tryd.pinned (.plain (OpenSpec.ofChange preTextsSpec)) preTextsCard

/-- THE TIED CARD OF 'whipcordlaw.PreParses'. -/
def preParsesCard : Claim7 := { stood := { row := preParsesRow, standIns := [], harness := (true, "385c749a6b05ffa90d08cb19eac5448e94faad57c12e3bce96da9fe8abd45704"), looks := true }, kinds := [], alts := [], laidByText := true, laidKinds := [.data, .data, .data, .data, .sentinel, .sentinel, .pinned], laidTests := true, laidLooks := .later }
def PreParsesCardSaid : Prop := Claim7.holds Tryd.pinned (.plain (OpenSpec.ofChange preParsesSpec)) preParsesCard

/-- THE TIED CARD OF 'whipcordkeep.PreBack'. -/
def preBackCard : Claim7 := { stood := { row := preBackRow, standIns := [], harness := (true, "385c749a6b05ffa90d08cb19eac5448e94faad57c12e3bce96da9fe8abd45704"), looks := true }, kinds := [], alts := [], laidByText := true, laidKinds := [.data, .data, .data, .data, .sentinel, .sentinel, .pinned], laidTests := true, laidLooks := .later }
def PreBackCardSaid : Prop := Claim7.holds Tryd.pinned (.plain (OpenSpec.ofChange preBackSpec)) preBackCard

/-- THE SECOND FORM's CARD OF 'whipcordlaw.AddrParses'. -/
def addrParsesUptoCard : Claim7 := { stood := { row := addrParsesUptoRow, standIns := [], harness := (true, "385c749a6b05ffa90d08cb19eac5448e94faad57c12e3bce96da9fe8abd45704"), looks := true }, kinds := [], alts := [], laidByText := true, laidKinds := [.data, .data, .data, .data, .sentinel, .sentinel, .pinned], laidTests := true, laidLooks := .later }
def AddrParsesUptoCardSaid : Prop := Claim7.holds Tryd.pinned (.plain (OpenSpec.upto addrParsesSpec)) addrParsesUptoCard

/-- THE SECOND FORM's CARD OF 'whipcordlaw.PreTexts'. -/
def preTextsUptoCard : Claim7 := { stood := { row := preTextsUptoRow, standIns := [], harness := (true, "385c749a6b05ffa90d08cb19eac5448e94faad57c12e3bce96da9fe8abd45704"), looks := true }, kinds := [], alts := [], laidByText := true, laidKinds := [.data, .data, .data], laidTests := true, laidLooks := .later }
def PreTextsUptoCardSaid : Prop := Claim7.holds Tryd.pinned (.plain (OpenSpec.upto preTextsSpec)) preTextsUptoCard

/-- THE SECOND FORM's CARD OF 'whipcordlaw.PreParses'. -/
def preParsesUptoCard : Claim7 := { stood := { row := preParsesUptoRow, standIns := [], harness := (true, "385c749a6b05ffa90d08cb19eac5448e94faad57c12e3bce96da9fe8abd45704"), looks := true }, kinds := [], alts := [], laidByText := true, laidKinds := [.data, .data, .data, .data, .sentinel, .sentinel, .pinned], laidTests := true, laidLooks := .later }
def PreParsesUptoCardSaid : Prop := Claim7.holds Tryd.pinned (.plain (OpenSpec.upto preParsesSpec)) preParsesUptoCard

/-- THE SECOND FORM's CARD OF 'whipcordkeep.PreBack'. -/
def preBackUptoCard : Claim7 := { stood := { row := preBackUptoRow, standIns := [], harness := (true, "385c749a6b05ffa90d08cb19eac5448e94faad57c12e3bce96da9fe8abd45704"), looks := true }, kinds := [], alts := [], laidByText := true, laidKinds := [.data, .data, .data, .data, .sentinel, .sentinel, .pinned], laidTests := true, laidLooks := .later }
def PreBackUptoCardSaid : Prop := Claim7.holds Tryd.pinned (.plain (OpenSpec.upto preBackSpec)) preBackUptoCard
end Rows
end Go.Proofs.YthlkofbdfjpfpabDoor
