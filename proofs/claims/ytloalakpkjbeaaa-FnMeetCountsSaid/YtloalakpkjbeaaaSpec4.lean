/-
  The model's functions, further: without zeros, times a number, within, the same, the total.
-/
import Derived.Test.YtloalakpkjbeaaaPure2
import Derived.Test.YtloalakpkjbeaaaImpl2
import Derived.Test.YtloalakpkjbeaaaObjs
namespace Go.Proofs.Ytloalakpkjbeaaa
open Go.RowKit

theorem nzI_yes {l : List Itm} {k : Nat} (h : k < l.length) (hq : ¬ l[k].2 = 0) : nzI (l.take (k + 1)) = nzI (l.take k) ++ [l[k]] := by
  unfold nzI; rw [List.take_succ_eq_append_getElem h, List.filter_append]; simp [hq]
theorem nzI_no {l : List Itm} {k : Nat} (h : k < l.length) (hq : l[k].2 = 0) : nzI (l.take (k + 1)) = nzI (l.take k) := by
  unfold nzI; rw [List.take_succ_eq_append_getElem h, List.filter_append]; simp [hq]

/-! ### times a number -/
def mapTo (f : Itm → Int) (l : List Itm) (k : Nat) : List Itm := (l.take k).map (fun x => (x.1, f x)) ++ l.drop k
theorem mapTo_length (f : Itm → Int) (l : List Itm) (k : Nat) : (mapTo f l k).length = l.length := by simp [mapTo]; omega
theorem mapTo_get {f : Itm → Int} {l : List Itm} {k : Nat} (h : k < l.length) : (mapTo f l k)[k]'(by rw [mapTo_length]; exact h) = l[k] := by
  unfold mapTo
  rw [List.getElem_append_right (by simp; omega)]
  simp [Nat.min_eq_left (Nat.le_of_lt h)]
theorem mapTo_step {f : Itm → Int} {l : List Itm} {k : Nat} (h : k < l.length) : (mapTo f l k).set k (l[k].1, f l[k]) = mapTo f l (k + 1) := by
  unfold mapTo
  rw [List.set_append_right _ _ (by simp; omega), List.take_succ_eq_append_getElem h, List.drop_eq_getElem_cons h, List.length_map, List.length_take, Nat.min_eq_left (Nat.le_of_lt h), Nat.sub_self, List.map_append, List.append_assoc]
  rfl
theorem mapTo_all (f : Itm → Int) (l : List Itm) : mapTo f l l.length = l.map fun x => (x.1, f x) := by simp [mapTo]

end Go.Proofs.Ytloalakpkjbeaaa
