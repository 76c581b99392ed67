/-
  DERIVED. GIVEN WITH THE SEED: THE CARDS: each row of YtifhakoeinalaaaDoorRows.lean that lists a variable, with what it lists TIED to the program's text (the seventh form; the later family's looks); each row that meets fmt, with fmt's text TOLD by the authors' own Lean function (tested against real Go, not proved from fmt's source: count such statements apart). THE CARD IS WHAT COUNTS. Prove the row's statement (the work); the ties are given (YtifhakoeinalaaaDoorTie.lean); close each card by the builder's one call (the guide's Derived/Test/ToyasCard.lean, 'card_holds'). Laid BY PROGRAM, IN A SANDBOX (cutbox-door.mjs). By AI agents, Wed Nov 11 2026. No macro, syntax, notation, axiom, sorry.
-/
import Derived.Test.YtifhakoeinalaaaDoorRows
import GoSem.ClaimSeven
namespace Go.Proofs.YtifhakoeinalaaaDoor
namespace Rows

/-- THE TIED CARD OF 'whipcordtop.TopHas'. -/
def topHasCard : Claim7 := { stood := { row := topHasRow, standIns := [], harness := (true, "e2db1f20d4ad8cfbfa1f9881bdf62e01ce52030dc7436ff7ed40f39a1c781537"), looks := false }, kinds := [], alts := [], laidByText := true, laidKinds := [.data], laidTests := true, laidLooks := .later }
def TopHasCardSaid : Prop := Claim7.holds Tryd.pinned (.plain (OpenSpec.ofChange topHasSpec)) topHasCard

/-- THE TIED CARD OF 'whipcordtop.TopRange'. -/
def topRangeCard : Claim7 := { stood := { row := topRangeRow, standIns := [], harness := (true, "e2db1f20d4ad8cfbfa1f9881bdf62e01ce52030dc7436ff7ed40f39a1c781537"), looks := false }, kinds := [], alts := [], laidByText := true, laidKinds := [.data], laidTests := true, laidLooks := .later }
def TopRangeCardSaid : Prop := Claim7.holds Tryd.pinned (.plain (OpenSpec.ofChange topRangeSpec)) topRangeCard

/-- THE SECOND FORM's CARD OF 'whipcordtop.TopHas'. -/
def topHasUptoCard : Claim7 := { stood := { row := topHasUptoRow, standIns := [], harness := (true, "e2db1f20d4ad8cfbfa1f9881bdf62e01ce52030dc7436ff7ed40f39a1c781537"), looks := false }, kinds := [], alts := [], laidByText := true, laidKinds := [.data], laidTests := true, laidLooks := .later }
def TopHasUptoCardSaid : Prop := Claim7.holds Tryd.pinned (.plain (OpenSpec.upto topHasSpec)) topHasUptoCard

/-- THE SECOND FORM's CARD OF 'whipcordtop.TopRange'. -/
def topRangeUptoCard : Claim7 := { stood := { row := topRangeUptoRow, standIns := [], harness := (true, "e2db1f20d4ad8cfbfa1f9881bdf62e01ce52030dc7436ff7ed40f39a1c781537"), looks := false }, kinds := [], alts := [], laidByText := true, laidKinds := [.data], laidTests := true, laidLooks := .later }
def TopRangeUptoCardSaid : Prop := Claim7.holds Tryd.pinned (.plain (OpenSpec.upto topRangeSpec)) topRangeUptoCard
end Rows
end Go.Proofs.YtifhakoeinalaaaDoor
