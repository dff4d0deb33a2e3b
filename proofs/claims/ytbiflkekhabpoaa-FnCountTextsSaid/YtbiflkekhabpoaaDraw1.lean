/-
  A code as an argument; what ScaleCounts is asked of.
-/
import Derived.Test.YtbiflkekhabpoaaRead4
import Derived.Test.YtbiflkekhabpoaaOpen
import Derived.Deep.Slices
namespace Go.Proofs.Ytbiflkekhabpoaa
open Go.RowKit
open Go.ChangeShapes Go.WideShapes Go.ChangeAt Go.Deep

section
variable {H : Type} {enc : TypeId × Value → H}
theorem open_bytes {W : World} {base : Nat} {v : Value} {d : DataW H} {p : List MemPlace} (hv : Value.okWide Try.prog W .any base 48 v) (h : DataW.Trod enc Try.prog W 0 (fun _ => true) true 48 v d p) : ∃ xs, Bytes W v xs := by
  obtain ⟨a0, len, cap, rfl⟩ := okWide_slice Try.underlying48 hv
  obtain ⟨fuel, hf⟩ := h
  rcases open_slice1 Try.underlying48 (by kernel_rfl) hf with ⟨hcs, _⟩ | ⟨a, len', cap', m, n, V, D, Pl, hcs, _, hl, hm, hmm, hx, hi⟩
  · simp [Value.cells] at hcs
    obtain ⟨rfl, rfl, rfl⟩ := hcs
    exact ⟨[], none, 0, rfl, Nat.le_refl _, by omega, fun x hx => by simp at hx, fun k hk => by simp at hk⟩
  · simp [Value.cells] at hcs
    obtain ⟨rfl, rfl, rfl⟩ := hcs
    have hlm : len ≤ m := by rw [hmm]; split <;> omega
    have each : ∀ i, i < len → ∃ s : Int, W.cell? (a.add i) = some (.int .u8 s) ∧ 0 ≤ s ∧ s ≤ 255 := by
      intro i hi'
      obtain ⟨c0, t0⟩ := hi i (by omega)
      obtain ⟨q, e0, _, hq⟩ := DataW.trod_int Try.underlying5 t0
      simp at e0
      have hb : 0 ≤ q ∧ q ≤ 255 := by simpa [Lit.wf, IntKind.min, IntKind.max, IntKind.signed, IntKind.bits] using hq
      exact ⟨q, by rw [c0, e0], hb.1, hb.2⟩
    obtain ⟨q, hq⟩ := choose_lt each
    refine ⟨(List.range len).map q, some a, cap, by simp, by simpa using hl, by unfold maxLen at hm; exact hm, ?_, ?_⟩
    · intro x hx
      obtain ⟨i, hi1, rfl⟩ := List.mem_map.1 hx
      exact (hq i (List.mem_range.1 hi1)).2
    · intro k hk
      have hk' : k < len := by simpa using hk
      obtain ⟨b, off, spot⟩ := a
      have hspot : spot = none := by simpa [Addr.add] using World.cell?_spot (hq 0 (by omega)).1
      subst hspot
      have e1 := (hq k hk').1
      rw [Addr.add_lit] at e1
      exact ⟨b, off, rfl, World.block_lt_of_cell? _ _ e1, by simpa using e1⟩
end

set_option maxHeartbeats 800000 in
theorem DrawScaleCounts_any (v : Value) (bs : List Int) (w : World) (h : Bytes w v bs) :
    Calls Try.prog 72 #[v] w fun e w' => ∃ v' xs n, e = .returned (.tuple #[v', .int .i64 n]) ∧ (-10000 ≤ n ∧ n ≤ 10000) ∧ OwnI 54 w' w.heap.size v' xs ∧ xs.length ≤ 9 ∧ Below w.heap.size w w' := by
  go_enter Try.func72, Try.ntmps72
  go_wp2_with fail
  refine (newReader_any v bs w h).mono ?_
  rintro e w1 ⟨r, rfl, hr, hR1, hb1⟩
  go_wp2_with fail
  refine (someItems_any r 0 w1 hR1 (by omega)).mono ?_
  rintro e w2 ⟨v2, xs, rfl, hl, hown, hR2, hk2⟩
  go_wp2_with fail
  refine (one_lit r _ [2, 3, 0, 1, -1, 9999, 10000, -10000] w2 hR2 (by omega) (by decide) (by decide) rfl rfl).mono ?_
  rintro e w3 ⟨n, hn, rfl, hR3, hk3⟩
  have hn2 := near_mem (by rfl) hn
  have hown3 := hown.keeps hR1.lt hk3
  have hk13 := RK.trans hk2 hk3
  clear hn
  have hB : Below w.heap.size w w3 := hb1.trans (Keeps.below hk13 (fun k hk => ⟨Nat.lt_of_lt_of_le hk hb1.size, by omega⟩))
  go_wp2
  go_ret2
  exact ⟨v2, xs, n, rfl, hn2, hown3.base hb1.size, hl, hB⟩

theorem eqI_parts (x y : Itm) : decide (x = y) = ((x.1.toList == y.1.toList) && (x.2 == y.2)) := by
  rw [beq_keys, Bool.eq_iff_iff, Bool.and_eq_true, decide_eq_true_eq, decide_eq_true_eq, beq_iff_eq, Prod.ext_iff]

end Go.Proofs.Ytbiflkekhabpoaa
