/-
  A key looked up in a cache, by the model and by the program.
-/
import Derived.Test.YtojepjpmegbdmaaShelf2
import Derived.Test.YtojepjpmegbdmaaSOrd2
namespace Go.Proofs.Ytojepjpmegbdmaa
open Go.RowKit

def lookV (v : Value) (m g s n : Int) (b : Bool) : Value := .tuple #[.agg #[v, .int .i64 m, .int .i64 g, .int .i64 s], .int .i64 n, .bool b]
theorem ret_cib {a b : Value} {m m' g g' s s' n n' : Int} {c c' : Bool} (h : a = b) (h1 : m = m') (h2 : g = g') (h3 : s = s') (h4 : n = n') (h5 : c = c') :
    Ending.returned (.tuple #[.agg #[a, .int .i64 m, .int .i64 g, .int .i64 s], .int .i64 n, .bool c]) = .returned (.tuple #[.agg #[b, .int .i64 m', .int .i64 g', .int .i64 s'], .int .i64 n', .bool c']) := by rw [h, h1, h2, h3, h4, h5]
def luL (xs : List Itm) (m g s : Int) (k : ByteArray) : List Itm := if vcB xs m g s = true then lkI xs k else []
def luM (xs : List Itm) (m g s : Int) : Int := if vcB xs m g s = true then m else 0
def luG (xs : List Itm) (m g s : Int) (k : ByteArray) : Int := if vcB xs m g s = true then lkG xs k g else 0
def luS (xs : List Itm) (m g s : Int) (k : ByteArray) : Int := if vcB xs m g s = true then lkS xs k s else 0
def luN (xs : List Itm) (m g s : Int) (k : ByteArray) : Int := if vcB xs m g s = true then lkN xs k else 0
def luB (xs : List Itm) (m g s : Int) (k : ByteArray) : Bool := vcB xs m g s && hasI xs k
theorem lu_no {xs : List Itm} {m g s : Int} {k : ByteArray} (h : vcB xs m g s = false) : luL xs m g s k = [] ∧ luM xs m g s = 0 ∧ luG xs m g s k = 0 ∧ luS xs m g s k = 0 ∧ luN xs m g s k = 0 ∧ luB xs m g s k = false := by
  unfold luL luM luG luS luN luB
  rw [h]
  exact ⟨rfl, rfl, rfl, rfl, rfl, rfl⟩
theorem lu_yes {xs : List Itm} {m g s : Int} {k : ByteArray} (h : vcB xs m g s = true) : luL xs m g s k = lkI xs k ∧ luM xs m g s = m ∧ luG xs m g s k = lkG xs k g ∧ luS xs m g s k = lkS xs k s ∧ luN xs m g s k = lkN xs k ∧ luB xs m g s k = hasI xs k := by
  unfold luL luM luG luS luN luB
  rw [h]
  exact ⟨rfl, rfl, rfl, rfl, rfl, rfl⟩
theorem vc_yes {xs : List Itm} {m g s : Int} (h : vcB xs m g s = true) : validI xs = true ∧ (1 ≤ m ∧ m ≤ 8) ∧ (xs.length : Int) ≤ m ∧ (0 ≤ g ∧ g ≤ 9999) ∧ (0 ≤ s ∧ s ≤ 9999) := by
  unfold vcB rgB at h
  simp only [Bool.and_eq_true, decide_eq_true_eq] at h
  obtain ⟨⟨⟨⟨h1, h2⟩, h3⟩, h4⟩, h5⟩ := h
  exact ⟨h1, h2, h3, h4, h5⟩
theorem lk_len (xs : List Itm) (k : ByteArray) : (lkI xs k).length = xs.length := by
  unfold lkI
  cases h : hasI xs k
  · simp
  · rw [if_pos rfl]
    unfold movI
    have := delI_length (l := xs) k
    rw [h, if_pos rfl] at this
    simp
    omega
theorem lu_le (xs : List Itm) (m g s : Int) (k : ByteArray) : (luL xs m g s k).length ≤ 10000000 := if_len fun h => by
  have := valid_len (vc_yes h).1
  rw [lk_len]
  omega
theorem OwnI.mid {E B : Nat} {w w' : World} {v : Value} {xs : List Itm} (h : OwnI E w B v xs) (hk : Keeps (fun k => B ≤ k ∧ k < w.heap.size) w w') : OwnI E w' B v xs := ⟨hk.own h.1 (fun _ hg => own_range h.1 hg), h.2⟩

end Go.Proofs.Ytojepjpmegbdmaa
