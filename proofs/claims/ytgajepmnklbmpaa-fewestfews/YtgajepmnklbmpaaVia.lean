/-
  The worlds between two calls.
-/
import Derived.Test.YtgajepmnklbmpaaG2
namespace Go.Proofs.Ytgajepmnklbmpaa
open Go.RowKit
theorem PreAt.via {w W w' : World} {b : Nat} {s : Bool} {h l n : Int} (a : PreAt w b s h l n) (hb : Below w.heap.size w W) (hc : Below W.heap.size W w') : PreAt w' b s h l n := (a.keep hb).keep hc
theorem AddrAt.via {w W w' : World} {b : Nat} {s : Bool} {h l : Int} (a : AddrAt w b s h l) (hb : Below w.heap.size w W) (hc : Below W.heap.size W w') : AddrAt w' b s h l := (a.keep hb).keep hc
end Go.Proofs.Ytgajepmnklbmpaa
