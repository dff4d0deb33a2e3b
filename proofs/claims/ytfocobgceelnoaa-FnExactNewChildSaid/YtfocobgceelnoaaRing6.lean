/-
  The program's ring: a key found in it, an item put into it.
-/
import Derived.Test.YtfocobgceelnoaaRing5
namespace Go.Proofs.Ytfocobgceelnoaa
open Go.RowKit

section
variable {K : Nat → Prop} {w w' : World} {r rt : Nat} {ns : List Nod}

theorem find_no {l : List Nod} {s : ByteArray} (h : hasI (its l) s = false) : findI l s = none := by
  induction l with
  | nil => rfl
  | cons n l ih =>
    simp only [List.map_cons, hasI, Bool.or_eq_false_iff, decide_eq_false_iff_not] at h
    unfold findI
    rw [if_neg h.1]
    exact ih h.2
theorem find_yes {l : List Nod} {s : ByteArray} (h : hasI (its l) s = true) : ∃ p a x q, l = p ++ (a, x) :: q ∧ x.1 = s ∧ hasI (its p) s = false ∧ findI l s = some ⟨a, 0, none⟩ := by
  induction l with
  | nil => simp [hasI] at h
  | cons n l ih =>
    by_cases e : n.2.1 = s
    · exact ⟨[], n.1, n.2, l, rfl, e, rfl, by unfold findI; rw [if_pos e]⟩
    · simp only [List.map_cons, hasI, e, decide_false, Bool.false_or] at h
      obtain ⟨p, a, x, q, rfl, h1, h2, h3⟩ := ih h
      exact ⟨n :: p, a, x, q, rfl, h1, by simp only [List.map_cons, hasI, e, decide_false, Bool.false_or]; exact h2, by unfold findI; rw [if_neg e]; exact h3⟩

def NotFoundPost (w : World) (e : Ending) (w' : World) : Prop :=
  ∃ v, e = .returned (.tuple #[v, .pointer none]) ∧ Below w.heap.size w w'

end
end Go.Proofs.Ytfocobgceelnoaa
