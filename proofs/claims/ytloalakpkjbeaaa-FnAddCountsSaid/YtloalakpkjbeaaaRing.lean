/-
  A ring of links: blocks that point to each other; what a cut and a hanging leave.
-/
import Derived.Test.YtloalakpkjbeaaaKeep
namespace Go.Proofs.Ytloalakpkjbeaaa
open Go.RowKit

abbrev Nod := Nat × Itm
abbrev blk (l : List Nod) : List Nat := l.map (·.1)
abbrev its (l : List Nod) : List Itm := l.map (·.2)

def fstOr : List Nod → Nat → Nat
  | [], d => d
  | n :: _, _ => n.1
def lstOr : Nat → List Nod → Nat
  | d, [] => d
  | _, n :: r => lstOr n.1 r

theorem fstOr_app (l r : List Nod) (s : Nat) : fstOr (l ++ r) s = fstOr l (fstOr r s) := by cases l <;> rfl
theorem lstOr_app (l : List Nod) : ∀ (p : Nat) (r : List Nod), lstOr p (l ++ r) = lstOr (lstOr p l) r := by
  induction l with
  | nil => intro p r; rfl
  | cons n l ih => intro p r; exact ih n.1 r
theorem lst_mem (l : List Nod) : ∀ p, lstOr p l = p ∨ lstOr p l ∈ blk l := by
  induction l with
  | nil => intro p; exact .inl rfl
  | cons n l ih =>
    intro p
    rcases ih n.1 with h | h
    · exact .inr (by simp [lstOr, h])
    · exact .inr (by simp only [lstOr, List.map_cons, List.mem_cons]; exact .inr h)
theorem fst_mem (l : List Nod) (s : Nat) : fstOr l s = s ∨ fstOr l s ∈ blk l := by
  cases l with
  | nil => exact .inl rfl
  | cons n l => exact .inr (by simp [fstOr])

theorem nodup_mid {rt a : Nat} {x : Itm} {l r : List Nod} (hn : (rt :: blk (l ++ (a, x) :: r)).Nodup) :
    (rt :: blk l).Nodup ∧ (blk r).Nodup ∧ a ∉ rt :: blk l ∧ a ∉ blk r ∧ (∀ b ∈ rt :: blk l, b ∉ blk r) ∧ (rt :: blk (l ++ r)).Nodup := by
  simp only [List.map_append, List.map_cons, List.nodup_cons, List.nodup_append, List.mem_append, List.mem_cons, not_or] at hn ⊢
  obtain ⟨⟨h1, h2, h3⟩, h4, ⟨h5, h6⟩, h7⟩ := hn
  refine ⟨⟨h1, h4⟩, h6, ⟨fun e => h2 e.symm, fun h => h7 a h a (.inl rfl) rfl⟩, h5, ?_, ⟨h1, h3⟩, h4, h6, fun b hb c hc => h7 b hb c (.inr hc)⟩
  rintro b (rfl | hb) hr
  · exact h3 hr
  · exact h7 b hb b (.inr hr) rfl

theorem lst_in {rt : Nat} {l : List Nod} : lstOr rt l ∈ rt :: blk l := by
  rcases lst_mem l rt with h | h
  · simp [h]
  · exact List.mem_cons_of_mem _ h

end Go.Proofs.Ytloalakpkjbeaaa
