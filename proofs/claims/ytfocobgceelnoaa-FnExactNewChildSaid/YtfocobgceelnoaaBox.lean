/-
  A struct that lies in a variable, as one of the statement's objects.
-/
import Derived.Test.YtfocobgceelnoaaNew
import Derived.Test.YtfocobgceelnoaaSpec
namespace Go.Proofs.Ytfocobgceelnoaa
open Go.RowKit

def boxO (b T : Nat) (cs : List Value) : Obj := ⟨.slice (some ⟨b, 0, none⟩) 1 1, T, cs.length, 1, cs, True⟩
theorem Objs.boxed {W w : World} {L : List Obj} (H : Objs W w L) (T : Nat) (cs : List Value) : Objs W (w.alloc (.cells cs.toArray T)) (boxO w.heap.size T cs :: L) := by
  refine H.new ⟨⟨fun _ => ?_, fun h0 => by simp [boxO] at h0⟩, trivial⟩ ((Below.refl _ _).alloc (Nat.le_refl _) _)
  have := World.ownsRow_lit (base := w.heap.size) (e := T) (size := cs.length) w cs.toArray 1 (Nat.le_refl _) (by unfold maxLen; omega) (by simp)
  simpa [boxO] using this
theorem Objs.boxcell {W w : World} {L : List Obj} (H : Objs W w L) (i : Nat) {b T : Nat} {cs : List Value} (h : L[i]? = some (boxO b T cs)) (j : Nat) {u : Value} (hj : cs[j]? = some u) : w.cell? ⟨b, j, none⟩ = some u := by
  have ho := (H.own i _ h).1.1 (by simp [boxO])
  exact row_cell_at (S := cs.length) (B := W.heap.size) (E := T) (n := 1) (c := 1) (m := 1) (xs := cs) ho hj
theorem Objs.box2 {W w : World} {L : List Obj} (H : Objs W w L) (i : Nat) {b T : Nat} {u0 u1 : Value} (h : L[i]? = some (boxO b T [u0, u1])) : w.cell? ⟨b, 0, none⟩ = some u0 ∧ w.cell? ⟨b, 1, none⟩ = some u1 :=
  ⟨H.boxcell i h 0 rfl, H.boxcell i h 1 rfl⟩
theorem Objs.box4 {W w : World} {L : List Obj} (H : Objs W w L) (i : Nat) {b T : Nat} {u0 u1 u2 u3 : Value} (h : L[i]? = some (boxO b T [u0, u1, u2, u3])) : w.cell? ⟨b, 0, none⟩ = some u0 ∧ w.cell? ⟨b, 1, none⟩ = some u1 ∧ w.cell? ⟨b, 2, none⟩ = some u2 ∧ w.cell? ⟨b, 3, none⟩ = some u3 :=
  ⟨H.boxcell i h 0 rfl, H.boxcell i h 1 rfl, H.boxcell i h 2 rfl, H.boxcell i h 3 rfl⟩

theorem OwnI.past {E B : Nat} {w w' : World} {v : Value} {xs : List Itm} (h : OwnI E w B v xs) (hk : Keeps (fun k => B ≤ k) w w') : OwnI E w' B v xs := ⟨hk.own h.1 (fun _ hg => (own_range h.1 hg).1), h.2⟩
theorem Keeps.past {B : Nat} {w w' : World} (h : Keeps (fun k => B ≤ k) w w') {a : Addr} (ha : a.block < B) (u : Value) : Keeps (fun k => B ≤ k) w (w'.setCell a u) := h.setCell (by omega) u

/-- A result whose row may be a part of a row of its own. -/
def NewW (f : Value → Value) (l : List Itm) (w : World) (e : Ending) (w' : World) : Prop :=
  ∃ v V ys, e = .returned (f v) ∧ OwnI 66 w' w.heap.size V ys ∧ Hid (∀ w, Items w V ys → Items w v l) ∧ Below w.heap.size w w'
theorem NewL.weak {f : Value → Value} {l : List Itm} {w w' : World} {e : Ending} (h : NewL f l w e w') : NewW f l w e w' := by
  obtain ⟨v, rfl, ho, hb⟩ := h
  exact ⟨v, v, l, rfl, ho, Lib.hid fun _ h => h, hb⟩
/-- A block of four cells. -/
def Four (w : World) (b T : Nat) (u0 u1 u2 u3 : Value) : Prop := w.heap[b]? = some (.cells #[u0, u1, u2, u3] T (0, 0))
theorem Four.cells {w : World} {b T : Nat} {u0 u1 u2 u3 : Value} (h : Four w b T u0 u1 u2 u3) : w.cell? ⟨b, 0, none⟩ = some u0 ∧ w.cell? ⟨b, 1, none⟩ = some u1 ∧ w.cell? ⟨b, 2, none⟩ = some u2 ∧ w.cell? ⟨b, 3, none⟩ = some u3 := by
  unfold Four at h
  simp [World.cell?, h]
theorem Four.free {w : World} {b T : Nat} {u0 u1 u2 u3 : Value} (h : Four w b T u0 u1 u2 u3) : w.frozen? ⟨b, 0, none⟩ = false ∧ w.frozen? ⟨b, 1, none⟩ = false ∧ w.frozen? ⟨b, 2, none⟩ = false ∧ w.frozen? ⟨b, 3, none⟩ = false := by
  unfold Four at h
  simp [World.frozen?, h]
theorem Four.lt {w : World} {b T : Nat} {u0 u1 u2 u3 : Value} (h : Four w b T u0 u1 u2 u3) : b < w.heap.size := by
  unfold Four at h
  exact (Array.getElem?_eq_some_iff.1 h).1
theorem Four.below {w w' : World} {b T B : Nat} {u0 u1 u2 u3 : Value} (h : Four w b T u0 u1 u2 u3) (hb : Below B w w') (hB : b < B) : Four w' b T u0 u1 u2 u3 := by
  unfold Four at h ⊢
  rw [hb.block b hB, h]
theorem Four.keeps {K : Nat → Prop} {w w' : World} {b T : Nat} {u0 u1 u2 u3 : Value} (h : Four w b T u0 u1 u2 u3) (hk : Keeps K w w') (hB : K b) : Four w' b T u0 u1 u2 u3 := by
  unfold Four at h ⊢
  rw [hk.block b hB, h]
theorem Four.new (w : World) (T : Nat) (u0 u1 u2 u3 : Value) : Four (w.alloc (.cells #[u0, u1, u2, u3] T)) w.heap.size T u0 u1 u2 u3 := by
  unfold Four
  rw [heap_alloc_new]
end Go.Proofs.Ytfocobgceelnoaa
