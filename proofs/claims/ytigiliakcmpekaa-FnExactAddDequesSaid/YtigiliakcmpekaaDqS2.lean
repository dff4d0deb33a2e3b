/-
  The model's small functions over numbers, second part: the first ones, turned.
-/
import Derived.Test.YtigiliakcmpekaaRowP
namespace Go.Proofs.Ytigiliakcmpekaa
open Go.RowKit Go.Deep
theorem Nums_one (w : World) (x : Int) (E : TypeId) (hx : -9223372036854775808 ≤ x ∧ x ≤ 9223372036854775807) : Nums (w.alloc (.cells #[.int .i64 x] E)) (.slice (some ⟨w.heap.size, 0, none⟩) 1 1) [x] := by
  refine ⟨_, 1, rfl, Nat.le_refl _, by omega, fun y hy => ?_, fun k hk => ?_⟩
  · rw [List.mem_singleton.1 hy]; exact hx
  · obtain rfl : k = 0 := by simpa using hk
    exact ⟨w.heap.size, 0, rfl, by simp, by simp⟩

end Go.Proofs.Ytigiliakcmpekaa
