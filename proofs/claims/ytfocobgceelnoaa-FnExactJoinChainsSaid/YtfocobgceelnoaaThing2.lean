/-
  Things in another order; a struct stored into its variable.
-/
import Derived.Test.YtfocobgceelnoaaThing
namespace Go.Proofs.Ytfocobgceelnoaa
open Go.RowKit

theorem swap_get {α : Type} (P R : List α) (a b : α) : (P ++ b :: a :: R)[P.length]? = some b ∧ (P ++ b :: a :: R)[P.length + 1]? = some a ∧ ∀ i, i ≠ P.length → i ≠ P.length + 1 → (P ++ b :: a :: R)[i]? = (P ++ a :: b :: R)[i]? := by
  refine ⟨by simp, by rw [List.getElem?_append_right (by omega)]; simp, fun i h1 h2 => ?_⟩
  by_cases h : i < P.length
  · rw [List.getElem?_append_left h, List.getElem?_append_left h]
  · rw [List.getElem?_append_right (by omega), List.getElem?_append_right (by omega)]
    obtain ⟨k, hk⟩ : ∃ k, i - P.length = k + 2 := ⟨i - P.length - 2, by omega⟩
    rw [hk]
    simp
theorem Things.swap {W w : World} {R : List Thing} {a b : Thing} (P : List Thing) (H : Things W w (P ++ a :: b :: R)) : Things W w (P ++ b :: a :: R) := by
  have g := swap_get P R a b
  have g' := swap_get P R b a
  let f : Nat → Nat := fun i => if i = P.length then P.length + 1 else if i = P.length + 1 then P.length else i
  have old : ∀ i t, (P ++ b :: a :: R)[i]? = some t → (P ++ a :: b :: R)[f i]? = some t := by
    intro i t h
    by_cases h1 : i = P.length
    · subst h1
      rw [g.1] at h
      show (P ++ a :: b :: R)[if P.length = P.length then P.length + 1 else _]? = _
      rw [if_pos rfl, g'.2.1, h]
    · by_cases h2 : i = P.length + 1
      · subst h2
        rw [g.2.1] at h
        show (P ++ a :: b :: R)[if P.length + 1 = P.length then _ else if P.length + 1 = P.length + 1 then P.length else _]? = _
        rw [if_neg h1, if_pos rfl, g'.1, h]
      · rw [g.2.2 i h1 h2] at h
        show (P ++ a :: b :: R)[if i = P.length then _ else if i = P.length + 1 then _ else i]? = _
        rw [if_neg h1, if_neg h2]
        exact h
  have inj : ∀ i j, i ≠ j → f i ≠ f j := by
    intro i j h e
    simp only [f] at e
    split at e <;> split at e <;> (try split at e) <;> (try split at e) <;> omega
  exact ⟨H.below, fun i t h => H.has (f i) t (old i t h), fun i j t u hij ht hu => H.apart (f i) (f j) t u (inj i j hij) (old i t ht) (old j u hu)⟩
theorem Things.store2 {W w : World} {L : List Thing} {z T : Nat} {u0 u1 : Value} (H : Things W w (boxT z T [u0, u1] :: L)) (a b : Value) :
    Things W ((w.setCell ⟨z, 0, none⟩ a).setCell ⟨z, 1, none⟩ b) (boxT z T [a, b] :: L) := by
  have h0 : w.heap[z]? = some (.cells #[u0, u1] T (0, 0)) := (H.has 0 _ rfl).2.2
  have hlt : z < w.heap.size := (Array.getElem?_eq_some_iff.1 h0).1
  refine H.set 0 (t := boxT z T [u0, u1]) (t' := boxT z T [a, b]) rfl rfl rfl ?_ ?_
  · show ((w.setCell ⟨z, 0, none⟩ a).setCell ⟨z, 1, none⟩ b).heap[z]? = some (.cells #[a, b] T (0, 0))
    have h1 := heap_setCell_same w z 0 _ _ a h0
    have h2 := heap_setCell_same (w.setCell ⟨z, 0, none⟩ a) z 1 _ _ b h1
    rw [h2]
    rfl
  · exact ((Keeps.refl _ w).setCell (fun h => h.2 ⟨Nat.le_refl _, Nat.lt_succ_self _⟩) _).setCell (fun h => h.2 ⟨Nat.le_refl _, Nat.lt_succ_self _⟩) _
theorem Things.store1 {W w : World} {L : List Thing} {z T : Nat} {u0 : Value} (H : Things W w (boxT z T [u0] :: L)) (a : Value) :
    Things W (w.setCell ⟨z, 0, none⟩ a) (boxT z T [a] :: L) := by
  have h0 : w.heap[z]? = some (.cells #[u0] T (0, 0)) := (H.has 0 _ rfl).2.2
  have hlt : z < w.heap.size := (Array.getElem?_eq_some_iff.1 h0).1
  refine H.set 0 (t := boxT z T [u0]) (t' := boxT z T [a]) rfl rfl rfl ?_ ?_
  · show (w.setCell ⟨z, 0, none⟩ a).heap[z]? = some (.cells #[a] T (0, 0))
    have h1 := heap_setCell_same w z 0 _ _ a h0
    rw [h1]
    rfl
  · exact (Keeps.refl _ w).setCell (fun h => h.2 ⟨Nat.le_refl _, Nat.lt_succ_self _⟩) _
theorem Things.boxedAs {W w : World} {L : List Thing} (H : Things W w L) (n : Nat) (hn : n = w.heap.size) (T : Nat) (cs : List Value) : Things W (w.alloc (.cells cs.toArray T)) (boxT n T cs :: L) := by rw [hn]; exact H.boxed T cs
end Go.Proofs.Ytfocobgceelnoaa
