/-
  A code as an argument; what ScaleCounts is asked of.
-/
import Derived.Test.YtloalakpkjbeaaaRead4
import Derived.Test.YtloalakpkjbeaaaOpenB
import Derived.Deep.Slices
namespace Go.Proofs.Ytloalakpkjbeaaa
open Go.RowKit
open Go.ChangeShapes Go.WideShapes Go.ChangeAt Go.Deep
end Go.Proofs.Ytloalakpkjbeaaa
