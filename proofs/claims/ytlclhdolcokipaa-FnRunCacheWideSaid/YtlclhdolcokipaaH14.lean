/-
  RdI, LwI.
-/
import Derived.Deep.Slices
import Derived.Test.YtlclhdolcokipaaH8
import Derived.Test.YtlclhdolcokipaaH11
import Derived.Test.YtlclhdolcokipaaH13
import Derived.Test.YtlclhdolcokipaaH16
/-
  What is drawn: items with a key, two lists of items.
-/
namespace Go.Proofs.Ytlclhdolcokipaa
open Go.RowKit
open Go.ChangeShapes Go.WideShapes Go.ChangeAt Go.Deep

/-- A list and a text drawn. -/
def DrawIS (r P : Nat) (w : World) (e : Ending) (w' : World) : Prop :=
  ∃ v xs s, e = .returned (.tuple #[v, .string s]) ∧ (xs.length ≤ 9 ∧ s.size ≤ 9223372036854775807) ∧ OwnI 43 w' w.heap.size v xs ∧ Reader w' r P ∧ Keeps (RK r w) w w'
/-- Two lists drawn. -/
def DrawII (r P : Nat) (w : World) (e : Ending) (w' : World) : Prop :=
  ∃ v xs u ys, e = .returned (.tuple #[v, u]) ∧ (xs.length ≤ 9 ∧ ys.length ≤ 9) ∧ OwnI 43 w' w.heap.size v xs ∧ OwnI 43 w' w.heap.size u ys ∧ Reader w' r P ∧ Keeps (RK r w) w w'

end Go.Proofs.Ytlclhdolcokipaa
/-
  What drawn laws over items draw.
-/
namespace Go.Proofs.Ytlclhdolcokipaa
open Go.RowKit
open Go.ChangeShapes Go.WideShapes Go.ChangeAt Go.Deep

theorem draw_below {w w1 w2 : World} {r : Nat} (hb : Below w.heap.size w w1) (hr : w.heap.size ≤ r) (hk : Keeps (RK r w1) w1 w2) : Below w.heap.size w w2 :=
  hb.trans (Keeps.below hk (fun k hk => ⟨Nat.lt_of_lt_of_le hk hb.size, by omega⟩))

end Go.Proofs.Ytlclhdolcokipaa
