/-
  Heap.
-/
import Derived.Lib.Hide
import Derived.Test.YtoglgeinnocfjaaRows
import Derived.WalkKit
import Derived.WalkSpells
import Derived.Test.YtoglgeinnocfjaaP0
/-
  What slices of items hold, told of a world; no program.
-/
namespace Go.Proofs.Ytoglgeinnocfjaa
open Go.RowKit



/-- A key's length and a number that Go can hold. -/
def okI (xs : List Itm) : Prop := ∀ x ∈ xs, x.1.size ≤ 9223372036854775807 ∧ -9223372036854775808 ≤ x.2 ∧ x.2 ≤ 9223372036854775807

def cellsI (xs : List Itm) : List Value := xs.flatMap fun x => [.string x.1, .int .i64 x.2]

/-- The slice v reads as the items xs. -/
def Items (w : World) (v : Value) (xs : List Itm) : Prop :=
  ∃ ao cap, v = .slice ao xs.length cap ∧ xs.length ≤ cap ∧ cap ≤ 9223372036854775807 ∧ okI xs ∧
    ∀ k (_ : k < xs.length), ∃ b o, ao = some ⟨b, o, none⟩ ∧ b < w.heap.size ∧ w.cell? ⟨b, o + k * 2, none⟩ = some (.string xs[k].1) ∧ w.cell? ⟨b, o + k * 2 + 1, none⟩ = some (.int .i64 xs[k].2)

theorem Items.mono {w w' : World} {v : Value} {xs : List Itm} (h : Items w v xs) {B : Nat} (hb : Below B w w') (hB : w.heap.size ≤ B) : Items w' v xs := by
  obtain ⟨ao, cap, hv, hl, hc, hok, hk⟩ := h
  refine ⟨ao, cap, hv, hl, hc, hok, fun k hlt => ?_⟩
  obtain ⟨b, o, ha, hs, h1, h2⟩ := hk k hlt
  exact ⟨b, o, ha, Nat.lt_of_lt_of_le hs hb.size, (hb.cell (p := ⟨b, _, none⟩) (Nat.lt_of_lt_of_le hs hB)).trans h1, (hb.cell (p := ⟨b, _, none⟩) (Nat.lt_of_lt_of_le hs hB)).trans h2⟩

theorem cellsI_length (xs : List Itm) : (cellsI xs).length = xs.length * 2 := by
  induction xs with
  | nil => rfl
  | cons x r ih =>
    simp only [cellsI, List.flatMap_cons, List.length_append, List.length_cons, List.length_nil] at ih ⊢
    omega

theorem cellsI_fst (xs : List Itm) : ∀ (k : Nat) (h : k < xs.length), (cellsI xs)[k * 2]? = some (.string xs[k].1) ∧ (cellsI xs)[k * 2 + 1]? = some (.int .i64 xs[k].2) := by
  induction xs with
  | nil => intro k h; simp at h
  | cons x r ih =>
    intro k h
    cases k with
    | zero => exact ⟨rfl, rfl⟩
    | succ k =>
      have := ih k (by simpa using h)
      have e : (k + 1) * 2 = k * 2 + 1 + 1 := by omega
      rw [e]
      simpa [cellsI] using this

/-- The slice v owns a row, made from block B on, that holds the items xs. -/
def OwnI (E : Nat) (w : World) (B : Nat) (v : Value) (xs : List Itm) : Prop := w.ownsRow B E 2 v xs.length (cellsI xs) ∧ okI xs

theorem OwnI.items {E : Nat} {w : World} {B : Nat} {v : Value} {xs : List Itm} (h : OwnI E w B v xs) : Items w v xs := by
  obtain ⟨⟨_, h2⟩, hok⟩ := h
  rcases h2 with ⟨rfl, h0⟩ | ⟨g, cap, cur, rfl, hb, hg, hnc, hcm, hcs, htake⟩
  · exact ⟨none, 0, by rw [h0], by omega, by omega, hok, fun k hk => by omega⟩
  · refine ⟨_, cap, rfl, hnc, hcm, hok, fun k hk => ⟨g, 0, rfl, (Array.getElem?_eq_some_iff.1 hg).1, ?_⟩⟩
    have hc := cellsI_fst xs k hk
    have hat : ∀ j, j < xs.length * 2 → w.cell? ⟨g, j, none⟩ = (cellsI xs)[j]? := fun j hj => by
      rw [cell_of_row w g j cur E (0, 0) hg, ← htake, List.getElem?_take, if_pos hj]
      simp
    rw [Nat.zero_add]
    exact ⟨(hat _ (by omega)).trans hc.1, (hat _ (by omega)).trans hc.2⟩

theorem ownsRow_below {w w' : World} {B E n m : Nat} {v : Value} {xs : List Value} (h : w.ownsRow B E m v n xs) {C : Nat} (hb : Below C w w') (hC : w.heap.size ≤ C) : w'.ownsRow B E m v n xs := by
  refine ⟨h.1, ?_⟩
  rcases h.2 with h2 | ⟨g, cap, cur, hv, hg, hh, r⟩
  · exact .inl h2
  · exact .inr ⟨g, cap, cur, hv, hg, (hb.block g (Nat.lt_of_lt_of_le (Array.getElem?_eq_some_iff.1 hh).1 hC)).trans hh, r⟩

theorem OwnI.below {E : Nat} {w w' : World} {B : Nat} {v : Value} {xs : List Itm} (h : OwnI E w B v xs) {C : Nat} (hb : Below C w w') (hC : w.heap.size ≤ C) : OwnI E w' B v xs := ⟨ownsRow_below h.1 hb hC, h.2⟩

end Go.Proofs.Ytoglgeinnocfjaa
