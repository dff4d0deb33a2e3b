/-
  The program's ring: a link cut out, hung, moved, looked for.
-/
import Derived.Test.YtloalakpkjbeaaaRing
import Derived.Test.YtloalakpkjbeaaaOrd
import Derived.Deep.LoopGhost
import Derived.BigRegion
namespace Go.Proofs.Ytloalakpkjbeaaa
open Go.RowKit

section
variable {K : Nat → Prop} {w : World} {r rt : Nat} {ns : List Nod}
end

/-- The same memory; what is drawn may differ. -/
def AsIs (w1 w' : World) : Prop := w'.heap = w1.heap ∧ w'.os = w1.os ∧ w'.tape = w1.tape ∧ w'.output = w1.output

end Go.Proofs.Ytloalakpkjbeaaa
