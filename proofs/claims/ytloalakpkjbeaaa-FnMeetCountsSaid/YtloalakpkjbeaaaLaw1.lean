/-
  The statements' own helpers over items: how much they hold, a copy, equality.
-/
import Derived.Test.YtloalakpkjbeaaaBase
import Derived.StillTailTactics
namespace Go.Proofs.Ytloalakpkjbeaaa
open Go.RowKit

def SzPost (left : Int) (xs : List Itm) (w : World) (e : Ending) (w' : World) : Prop :=
  ∃ r : Int, e = .returned (.int .i64 r) ∧ -1 ≤ r ∧ r ≤ left ∧ (0 ≤ r → (xs.length : Int) ≤ left ∧ ∀ x ∈ xs, (x.1.size : Int) ≤ left) ∧ Below w.heap.size w w'

theorem take_sizes {xs : List Itm} {k : Nat} {left : Int} (hlt : k < xs.length) (h : ∀ x ∈ xs.take k, (x.1.size : Int) ≤ left) (hk : (xs[k].1.size : Int) ≤ left) : ∀ x ∈ xs.take (k + 1), (x.1.size : Int) ≤ left := by
  intro x hx
  rw [List.take_succ_eq_append_getElem hlt] at hx
  rcases List.mem_append.1 hx with hx | hx
  · exact h x hx
  · rw [List.mem_singleton.1 hx]; exact hk

/-! ### a copy -/
theorem Try.infoI : (Try.prog.info? 39).map (fun i => (i.zero, i.size, i.bytes)) = some (some (.agg #[.string ⟨#[]⟩, .int .i64 0]), 2, 24) := by kernel_rfl

theorem cellsI_snoc (xs : List Itm) (x : Itm) : cellsI (xs ++ [x]) = cellsI xs ++ [.string x.1, .int .i64 x.2] := by simp [cellsI]

/-- Two cells more. -/
theorem copy_step {w : World} {B E g n : Nat} {xs : List Itm} {k : Nat} {zs : List Value} (hlt : k < xs.length) (hn : n = xs.length) (hz : zs.length = (n - k) * 2)
    (hown : w.ownsRow B E 2 (.slice (some ⟨g, 0, none⟩) n n) n (cellsI (xs.take k) ++ zs)) :
    ∃ zs', zs'.length = (n - (k + 1)) * 2 ∧
      ((w.setCell ⟨g, k * 2, none⟩ (.string xs[k].1)).setCell ⟨g, k * 2 + 1, none⟩ (.int .i64 xs[k].2)).ownsRow B E 2 (.slice (some ⟨g, 0, none⟩) n n) n (cellsI (xs.take (k + 1)) ++ zs') := by
  have h1 := (hown.stored (k * 2) (.string xs[k].1)).1
  have h2 := (h1.stored (k * 2 + 1) (.int .i64 xs[k].2)).1
  refine ⟨zs.drop 2, by simp [hz]; omega, ?_⟩
  have hlen : (cellsI (xs.take k)).length = k * 2 := by rw [cellsI_length]; simp; omega
  match zs, hz with
  | [], hz => simp at hz; omega
  | [_], hz => simp at hz; omega
  | z0 :: z1 :: r, hz =>
    have e : ((cellsI (xs.take k) ++ z0 :: z1 :: r).set (k * 2) (.string xs[k].1)).set (k * 2 + 1) (.int .i64 xs[k].2) = cellsI (xs.take (k + 1)) ++ r := by
      rw [List.set_append_right _ _ (by omega), List.set_append_right _ _ (by omega), hlen, Nat.sub_self, show k * 2 + 1 - k * 2 = 1 from by omega, List.take_succ_eq_append_getElem hlt, cellsI_snoc]
      simp
    rw [e] at h2
    exact h2

theorem row_cell {w : World} {B E S g n c m : Nat} {xs : List Value} (h : w.ownsRow B E S (.slice (some ⟨g, 0, none⟩) n c) m xs) {j : Nat} (hj : j < m * S) : ∃ u, w.cell? ⟨g, j, none⟩ = some u := by
  rcases h.2 with ⟨h', _⟩ | ⟨g', cap', cur, h', hb, hg, hnc, hcm, hcs, htake⟩
  · simp at h'
  · simp only [Value.slice.injEq, Option.some.injEq, Addr.mk.injEq, and_true] at h'
    obtain ⟨rfl, rfl, rfl⟩ := h'
    have hj' : j < cur.size := by rw [hcs]; exact Nat.lt_of_lt_of_le hj (Nat.mul_le_mul_right _ hnc)
    exact ⟨cur[j], by rw [cell_of_row w g j cur E (0, 0) hg]; simp [hj']⟩

def FreshI (xs : List Itm) (w : World) (e : Ending) (w' : World) : Prop :=
  ∃ v, e = .returned v ∧ OwnI 39 w' w.heap.size v xs ∧ Below w.heap.size w w'

/-! ### equality -/
theorem eqLen_lit {a b : Nat} (h : a = b) : ((a : Int) != (b : Int)) = false := by simp [h]

def eqFrom (k : Nat) (xs ys : List Itm) : Bool := decide (xs.drop k = ys.drop k)
def eqIB (x y : Itm) : Bool := decide (x = y)
theorem eqFrom_step {k : Nat} {xs ys : List Itm} (h1 : k < xs.length) (h2 : k < ys.length) : eqFrom k xs ys = (eqIB xs[k] ys[k] && eqFrom (k + 1) xs ys) := by
  unfold eqFrom eqIB
  have e1 := List.drop_eq_getElem_cons h1
  have e2 := List.drop_eq_getElem_cons h2
  rw [e1, e2, Bool.eq_iff_iff, Bool.and_eq_true, decide_eq_true_eq, decide_eq_true_eq, decide_eq_true_eq, List.cons.injEq]

end Go.Proofs.Ytloalakpkjbeaaa
