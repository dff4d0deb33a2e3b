/-
  The program's ring: listed, made of a list; a key found in it, an item put into it.
-/
import Derived.Test.YtfocobgceelnoaaRing4
namespace Go.Proofs.Ytfocobgceelnoaa
open Go.RowKit

section
variable {K : Nat → Prop} {w w' : World} {r rt : Nat} {ns : List Nod}

theorem its_app (a b : List Nod) : its (a ++ b) = its a ++ its b := by simp
theorem its_len (a : List Nod) : (its a).length = a.length := by simp

end
end Go.Proofs.Ytfocobgceelnoaa
