/-
  The library's sorts over few items.
-/
import Derived.Test.YtigiliakcmpekaaSrtN
import Derived.Test.YtigiliakcmpekaaTurn
namespace Go.Proofs.Ytigiliakcmpekaa
open Go.RowKit

set_option maxRecDepth 100000 in
theorem len64_any (n : Nat) (w : World) (hn : n ≤ 8) : Calls Try.prog 218 #[.int .u64 n] w fun e w' => ∃ r : Int, e = .returned (.int .i64 r) ∧ w = w' := by
  have h : n = 0 ∨ n = 1 ∨ n = 2 ∨ n = 3 ∨ n = 4 ∨ n = 5 ∨ n = 6 ∨ n = 7 ∨ n = 8 := by omega
  clear hn
  go_enter Try.func218, Try.ntmps218
  rcases h with rfl | rfl | rfl | rfl | rfl | rfl | rfl | rfl | rfl
  all_goals go_wp2
  all_goals go_ret
  all_goals exact ⟨_, rfl, rfl⟩
theorem len_any (n : Nat) (w : World) (hn : n ≤ 8) : Calls Try.prog 198 #[.int .u64 n] w fun e w' => ∃ r : Int, e = .returned (.int .i64 r) ∧ w = w' := by
  go_enter Try.func198, Try.ntmps198
  go_wp2_with fail
  refine (len64_any n w hn).mono ?_
  rintro e w1 ⟨r, rfl, rfl⟩
  go_wp2
  go_ret
  exact ⟨_, rfl, rfl⟩
end Go.Proofs.Ytigiliakcmpekaa
