/-
  Numbers and deques among what a statement carries; what an operation on them returns.
-/
import Derived.Test.YtcipkdegcplmcaaNum
namespace Go.Proofs.Ytcipkdegcplmcaa
open Go.RowKit

def RetN (v : Value) (w : World) (e : Ending) (w' : World) : Prop := e = .returned v ∧ Below w.heap.size w w'
def numT (lo hi : Nat) (v : Value) (xs : List Int) : Thing := ⟨lo, hi, fun w => OwnN lo hi w v xs, fun _ _ hk h => h.keeps hk⟩
theorem Things.nums {W w : World} {L : List Thing} (H : Things W w L) (i : Nat) {lo hi : Nat} {v : Value} {xs : List Int} (h : L[i]? = some (numT lo hi v xs)) : Nums w v xs :=
  OwnN.nums (show OwnN lo hi w v xs from (H.has i _ h).2.2)
theorem Things.argN {W w : World} {L : List Thing} (H : Things W w L) {v : Value} {xs : List Int} (h : Nums W v xs) : Nums w v xs := h.mono H.below (Nat.le_refl _)
theorem Things.newN {W w w' : World} {L : List Thing} {v : Value} {xs : List Int} (H : Things W w L) (ho : OwnN w.heap.size w'.heap.size w' v xs) (hb : Below w.heap.size w w') : Things W w' (numT w.heap.size w'.heap.size v xs :: L) :=
  H.new (Nat.le_refl _) (Nat.le_refl _) ho hb

def MarkedN (W : World) (L : List Thing) (i : Nat) (t : Nat → Thing) (k q : Nat) (e : Ending) (w' : World) : Prop :=
  ∃ m : Nat, e = .returned (.int .i64 (m : Int)) ∧ ¬ ((m : Int) < 0) ∧ Hid (m = k + q) ∧ Things W w' (L.set i (t k))
theorem Things.boxedAt {W w : World} {L : List Thing} (H : Things W w L) (n : Nat) (hn : n = w.heap.size) (T : Nat) (cs : List Value) : Things W (w.alloc (.cells cs.toArray T)) (boxT n T cs :: L) := by rw [hn]; exact H.boxed T cs
/-! ### deques -/
theorem two_below {w w' : World} {t T B : Nat} {a b : Value} (h : w.heap[t]? = some (.cells #[a, b] T (0, 0))) (hb : Below B w w') (hB : t < B) : w'.heap[t]? = some (.cells #[a, b] T (0, 0)) := (hb.block t hB).trans h
theorem heap_new (w : World) (o : Go.Obj) : (w.alloc o).heap[w.heap.size]? = some o := by
  show (w.heap.push o)[w.heap.size]? = some o
  simp
theorem heap_at (w : World) (o : Go.Obj) {n : Nat} (h : n = w.heap.size) : (w.alloc o).heap[n]? = some o := by rw [h]; exact heap_new w o
theorem heap_old {w : World} {t : Nat} {c : Go.Obj} (h : w.heap[t]? = some c) (o : Go.Obj) : (w.alloc o).heap[t]? = some c := by
  rw [Below.heap_alloc _ _ _ (lt_of_block h), h]

/-! ### what an operation returns -/
def NewN (f : Value → Value) (xs : List Int) (w : World) (e : Ending) (w' : World) : Prop :=
  ∃ v, e = .returned (f v) ∧ OwnN w.heap.size w'.heap.size w' v xs ∧ Below w.heap.size w w'
end Go.Proofs.Ytcipkdegcplmcaa
