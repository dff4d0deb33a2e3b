/-
  An argument that is a cache.
-/
import Derived.Test.YtfocobgceelnoaaOpen
import Derived.Lib.SmallJoins
namespace Go.Proofs.Ytfocobgceelnoaa
open Go.RowKit
open Go.ChangeShapes Go.WideShapes Go.ChangeAt Go.Deep

section
variable {H : Type} {enc : TypeId × Value → H}
set_option maxRecDepth 100000 in
theorem items_trod {W : World} {fuel : Nat} {v : Value} {x : DataW H × List MemPlace} (hf : DataW.trod enc Try.prog W 0 (fun _ => true) true fuel 25 [v] = some x) : ∃ xs, Items W v xs := by
  rcases open_slice_pairs Try.underlying25 Try.underlying63 (by kernel_rfl) rfl rfl (by kernel_rfl) (by kernel_rfl) hf with ⟨hcs, _⟩ | ⟨a, len, cap, m, n, V0, V1, D0, D1, P0, P1, hcs, _, hl, hm, hmm, hx, hi⟩
  · simp at hcs
    subst hcs
    exact ⟨[], none, 0, rfl, Nat.le_refl _, by omega, fun x hx => by simp at hx, fun k hk => by simp at hk⟩
  · simp at hcs
    subst hcs
    have hlm : len ≤ m := by rw [hmm]; split <;> omega
    have each : ∀ i, i < len → ∃ x : Itm, (W.cell? (a.add (i * 2)) = some (.string x.1) ∧ W.cell? (a.add (i * 2 + 1)) = some (.int .i64 x.2)) ∧ x.1.size ≤ 9223372036854775807 ∧ -9223372036854775808 ≤ x.2 ∧ x.2 ≤ 9223372036854775807 := by
      intro i hi'
      obtain ⟨c0, c1, t0, t1⟩ := hi i (by omega)
      obtain ⟨s, e0, _, hs⟩ := DataW.trod_string Try.underlying9 t0
      obtain ⟨q, e1, _, hq⟩ := DataW.trod_int Try.underlying3 t1
      simp at e0 e1
      have hq' := wf_i64_bd hq
      exact ⟨(s, q), ⟨by rw [c0, e0], by rw [c1, e1]⟩, by unfold maxLen at hs; exact hs, hq'.1, hq'.2⟩
    obtain ⟨q, hq⟩ := choose_lt each
    refine ⟨(List.range len).map q, some a, cap, by simp, by simpa using hl, by unfold maxLen at hm; exact hm, ?_, ?_⟩
    · intro x hx
      obtain ⟨i, hi1, rfl⟩ := List.mem_map.1 hx
      exact (hq i (List.mem_range.1 hi1)).2
    · intro k hk
      have hk' : k < len := by simpa using hk
      have h0 : 0 < len := by omega
      obtain ⟨b, off, spot⟩ := a
      have hspot : spot = none := by simpa [Addr.add] using World.cell?_spot (hq 0 h0).1.1
      subst hspot
      have e1 := (hq k hk').1.1
      have e2 := (hq k hk').1.2
      rw [Addr.add_lit] at e1 e2
      refine ⟨b, off, rfl, World.block_lt_of_cell? _ _ e1, ?_, ?_⟩
      · simpa using e1
      · simpa [Nat.add_assoc] using e2

theorem int_trod {W : World} {fuel : Nat} {v : Value} {x : DataW H × List MemPlace} (hf : DataW.trod enc Try.prog W 0 (fun _ => true) true fuel 3 [v] = some x) : ∃ n : Int, v = .int .i64 n ∧ -9223372036854775808 ≤ n ∧ n ≤ 9223372036854775807 := by
  obtain ⟨q, e1, _, hq⟩ := DataW.trod_int Try.underlying3 hf
  simp at e1
  exact ⟨q, e1, wf_i64_bd hq⟩

end
end Go.Proofs.Ytfocobgceelnoaa
