/-
  An argument that is a chain.
-/
import Derived.Test.YtfocobgceelnoaaOpenC
import Derived.Test.YtfocobgceelnoaaChn
import Derived.ChangeSame
namespace Go.Proofs.Ytfocobgceelnoaa
open Go.RowKit
open Go.ChangeShapes Go.WideShapes Go.ChangeAt Go.Deep

section
variable {H : Type} {enc : TypeId × Value → H}
set_option maxRecDepth 100000 in
theorem maps_trod {W : World} {fuel : Nat} {v : Value} {x : DataW H × List MemPlace} (hf : DataW.trod enc Try.prog W 0 (fun _ => true) true fuel 22 [v] = some x) : ∃ ls, Maps W v ls := by
  rcases open_slice1 Try.underlying22 (by kernel_rfl) hf with ⟨hcs, _⟩ | ⟨a, len, cap, m, n, V, D, Pl, hcs, _, hl, hm, hmm, hx, hi⟩
  · simp at hcs
    subst hcs
    exact ⟨[], Maps.nil _⟩
  · simp at hcs
    subst hcs
    have hlm : len ≤ m := by rw [hmm]; split <;> omega
    have each : ∀ i, i < len → ∃ l : List Itm, W.cell? (a.add i) = some (V i) ∧ Items W (V i) l := by
      intro i hi'
      obtain ⟨c0, t0⟩ := hi i (by omega)
      obtain ⟨l, hl⟩ := items_trod t0
      exact ⟨l, c0, hl⟩
    obtain ⟨q, hq⟩ := choose_lt each
    refine ⟨(List.range len).map q, (List.range len).map V, by simp, ⟨some a, cap, by simp, by simpa using hl, by unfold maxLen at hm; exact hm, ?_⟩, ?_⟩
    · intro k u hu
      have hk' : k < len := by
        have := (List.getElem?_eq_some_iff.1 hu).1
        simpa using this
      have hu' : u = V k := by
        simp [hk'] at hu
        exact hu.symm
      subst hu'
      obtain ⟨b, off, spot⟩ := a
      have hspot : spot = none := by simpa [Addr.add] using World.cell?_spot (hq 0 (by omega)).1
      subst hspot
      have e1 := (hq k hk').1
      rw [Addr.add_lit] at e1
      exact ⟨b, off, rfl, World.block_lt_of_cell? _ _ e1, trivial, by simpa using e1⟩
    · intro k u l hu hl
      have hk' : k < len := by
        have := (List.getElem?_eq_some_iff.1 hu).1
        simpa using this
      have hu' : u = V k := by
        simp [hk'] at hu
        exact hu.symm
      have hl' : l = q k := by
        simp [hk'] at hl
        exact hl.symm
      subst hu' hl'
      exact ⟨(hq k hk').2, fun _ _ _ _ _ => trivial⟩

set_option maxRecDepth 100000 in
theorem open_chain {W : World} {base : Nat} {v : Value} {d : DataW H} {p : List MemPlace} (hv : Value.okWide Try.prog W .any base 24 v) (h : DataW.Trod enc Try.prog W 0 (fun _ => true) true 24 v d p) :
    ∃ u ls, v = .agg #[u] ∧ Maps W u ls := by
  obtain ⟨cs, rfl, hsz⟩ := okWide_struct Try.underlying24 hv
  have hC : Try.prog.cellsOf 24 = 1 := by kernel_rfl
  rw [hC] at hsz
  obtain ⟨c0, rfl⟩ : ∃ c0, cs = #[c0] := by
    obtain ⟨l⟩ := cs
    match l, hsz with
    | [c0], _ => exact ⟨c0, rfl⟩
  obtain ⟨fuel, hf⟩ := h
  obtain ⟨y0, n, _, _, h0⟩ := trod_struct1 Try.underlying24 hf
  have h1 : DataW.trod enc Try.prog W 0 (fun _ => true) true n 22 [c0] = some y0 := by
    have hc1 : Try.prog.cellsOf 22 = 1 := by kernel_rfl
    have h0' := h0
    simp only [Value.cells] at h0'
    rw [hc1] at h0'
    simpa using h0'
  obtain ⟨ls, hls⟩ := maps_trod h1
  exact ⟨c0, ls, rfl, hls⟩
end
end Go.Proofs.Ytfocobgceelnoaa
