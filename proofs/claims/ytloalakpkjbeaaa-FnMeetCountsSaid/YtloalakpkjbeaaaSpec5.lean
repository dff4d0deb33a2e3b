/-
  The model's functions, further: within and the same.
-/
import Derived.Test.YtloalakpkjbeaaaSpec4
import Derived.Test.YtloalakpkjbeaaaSpecR
namespace Go.Proofs.Ytloalakpkjbeaaa
open Go.RowKit

theorem all_step {l : List Itm} {p : Itm → Bool} {k : Nat} (h : k < l.length) (hk : (l.take k).all p = true) (hp : p l[k] = true) : (l.take (k + 1)).all p = true := by
  rw [List.take_succ_eq_append_getElem h, List.all_append, hk]
  simp [hp]
theorem all_bad {l : List Itm} {p : Itm → Bool} {k : Nat} (h : k < l.length) (hp : p l[k] = false) : l.all p = false := by
  cases ha : l.all p
  · rfl
  · rw [List.all_eq_true] at ha
    rw [ha _ (List.getElem_mem h)] at hp
    cases hp

end Go.Proofs.Ytloalakpkjbeaaa
