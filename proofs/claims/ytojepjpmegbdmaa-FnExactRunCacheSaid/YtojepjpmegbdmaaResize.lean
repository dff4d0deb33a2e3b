/-
  A cache with another limit, by the program.
-/
import Derived.Test.YtojepjpmegbdmaaLook
import Derived.Test.YtojepjpmegbdmaaTrim
namespace Go.Proofs.Ytojepjpmegbdmaa
open Go.RowKit

theorem ret_cb {a b : Value} {m m' g g' s s' : Int} {c c' : Bool} (h : a = b) (h1 : m = m') (h2 : g = g') (h3 : s = s') (h5 : c = c') :
    Ending.returned (.tuple #[.agg #[a, .int .i64 m, .int .i64 g, .int .i64 s], .bool c]) = .returned (.tuple #[.agg #[b, .int .i64 m', .int .i64 g', .int .i64 s'], .bool c']) := by rw [h, h1, h2, h3, h5]
def rzB (xs : List Itm) (m g s n : Int) : Bool := vcB xs m g s && rgB n 1 8
def rzL (xs : List Itm) (m g s n : Int) : List Itm := if rzB xs m g s n = true then xs.drop (xs.length - n.toNat) else []
def rzM (xs : List Itm) (m g s n : Int) : Int := if rzB xs m g s n = true then n else 0
def rzG (xs : List Itm) (m g s n : Int) : Int := if rzB xs m g s n = true then g else 0
def rzS (xs : List Itm) (m g s n : Int) : Int := if rzB xs m g s n = true then s else 0
theorem rz_no {xs : List Itm} {m g s n : Int} (h : (vcB xs m g s && rgB n 1 8) = false) : rzL xs m g s n = [] ∧ rzM xs m g s n = 0 ∧ rzG xs m g s n = 0 ∧ rzS xs m g s n = 0 ∧ rzB xs m g s n = false := by
  have e : rzB xs m g s n = false := h
  unfold rzL rzM rzG rzS
  rw [e]
  exact ⟨rfl, rfl, rfl, rfl, rfl⟩
theorem rz_yes {xs : List Itm} {m g s n : Int} (h : (vcB xs m g s && rgB n 1 8) = true) : rzL xs m g s n = xs.drop (xs.length - n.toNat) ∧ rzM xs m g s n = n ∧ rzG xs m g s n = g ∧ rzS xs m g s n = s ∧ rzB xs m g s n = true := by
  have e : rzB xs m g s n = true := h
  unfold rzL rzM rzG rzS
  rw [e]
  exact ⟨rfl, rfl, rfl, rfl, rfl⟩
theorem rg_yes {n lo hi : Int} (h : rgB n lo hi = true) : lo ≤ n ∧ n ≤ hi := by
  unfold rgB at h
  simpa using h
theorem rz_le (xs : List Itm) (m g s n : Int) : (rzL xs m g s n).length ≤ 10000000 := if_len fun h => by
  unfold rzB at h
  simp only [Bool.and_eq_true] at h
  have := valid_len (vc_yes h.1).1
  simp
  omega
theorem ShelfAt.set1 {w : World} {sb r : Nat} {m g s : Int} (h : ShelfAt w sb r m g s) (n : Int) : ShelfAt (w.setCell ⟨sb, 1, none⟩ (.int .i64 n)) sb r n g s := by
  unfold ShelfAt at h ⊢; rw [heap_setCell_same w sb 1 _ _ _ h]; rfl

end Go.Proofs.Ytojepjpmegbdmaa
