/-
  The program's valid items.
-/
import Derived.Test.YtcipkdegcplmcaaValid
namespace Go.Proofs.Ytcipkdegcplmcaa
open Go.RowKit

theorem zeroB (w : World) : (zeroValue 4).run Try.prog w = .ok (.bool false) w := by kernel_rfl

theorem isNumber_v {n : Int} {b : Bool} (w : World) (h : numB n = b) : Calls Try.prog 86 #[.int .i64 n] w fun e w' => e = .returned (.bool b) ∧ w = w' :=
  (isNumber_any n w).mono fun _ _ ⟨he, hw⟩ => ⟨h ▸ he, hw⟩

theorem long_bad {xs : List Itm} (h : 8 < xs.length) : false = validI xs := by
  unfold validI
  rw [decide_eq_false (by omega), Bool.and_false]

end Go.Proofs.Ytcipkdegcplmcaa
