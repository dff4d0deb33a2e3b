/-
  The program's functions over items in order: put, dropped, moved, popped, renamed, laid over.
-/
import Derived.Test.YtfocobgceelnoaaRing6
import Derived.Test.YtfocobgceelnoaaNew
namespace Go.Proofs.Ytfocobgceelnoaa
open Go.RowKit

theorem drpL_no {xs : List Itm} {s : ByteArray} (h : okG xs s = false) : drpL xs s = [] := by unfold drpL; rw [h]; rfl
theorem drpL_yes {xs : List Itm} {s : ByteArray} (h : okG xs s = true) : drpL xs s = delI xs s := by unfold drpL; rw [h]; rfl
theorem movL_no {xs : List Itm} {s : ByteArray} {l : Bool} (h : okG xs s = false) : movL xs s l = [] := by unfold movL; rw [h]; rfl
theorem movL_yes {xs : List Itm} {s : ByteArray} {l : Bool} (h : okG xs s = true) : movL xs s l = movI xs s l := by unfold movL; rw [h]; rfl
theorem okG_yes {xs : List Itm} {s : ByteArray} (h : okG xs s = true) : validI xs = true ∧ hasI xs s = true := by unfold okG at h; simpa using h
theorem ring_len {p q : List Nod} {a : Nat} {x : Itm} {xs : List Itm} (h : its (p ++ (a, x) :: q) = xs) (hv : validI xs = true) : (p ++ (a, x) :: q).length ≤ 8 := by
  have := valid_len hv
  rw [← h, its_len] at this
  exact this

theorem okI_pair {s : ByteArray} {n : Int} (hs : s.size ≤ 9223372036854775807) (hn : -9223372036854775808 ≤ n ∧ n ≤ 9223372036854775807) : okI [(s, n)] := fun x hx => by
  rw [List.mem_singleton.1 hx]
  exact ⟨hs, hn.1, hn.2⟩

end Go.Proofs.Ytfocobgceelnoaa
