/-
  Base.
-/
import Derived.BigQuiet
import Derived.Deep.QuietTactic
import Derived.Test.YtlclhdolcokipaaH2
/-
  Small functions: of plain values, of one item, of one key.
-/
namespace Go.Proofs.Ytlclhdolcokipaa
open Go.RowKit

theorem ret_bool {a b : Bool} (h : a = b) : Ending.returned (.bool a) = .returned (.bool b) := by rw [h]
theorem ret_int {k : IntKind} {a b : Int} (h : a = b) : Ending.returned (.int k a) = .returned (.int k b) := by rw [h]

theorem beq_keys (a b : ByteArray) : (a.toList == b.toList) = decide (a = b) := by
  rw [ByteArray.toList_eq, ByteArray.toList_eq, Bool.eq_iff_iff]
  simp only [beq_iff_eq, decide_eq_true_eq]
  constructor
  · intro h
    cases a with
    | mk a => cases b with
      | mk b => simp only [ByteArray.mk.injEq]; exact Array.toList_inj.1 h
  · rintro rfl; rfl

theorem inRange_any (n lo hi : Int) (w : World) :
    Calls Try.prog 81 #[.int .i64 n, .int .i64 lo, .int .i64 hi] w fun e w' => e = .returned (.bool (decide (lo ≤ n) && decide (n ≤ hi))) ∧ w = w' := by
  go_enter Try.func81, Try.ntmps81
  go_wp2
  all_goals go_ret
  all_goals refine ⟨ret_bool ?_, rfl⟩
  all_goals simp [*]
  all_goals omega

theorem isNumber_any (n : Int) (w : World) :
    Calls Try.prog 75 #[.int .i64 n] w fun e w' => e = .returned (.bool (numB n)) ∧ w = w' := by
  go_enter Try.func75, Try.ntmps75
  go_wp2
  all_goals go_ret
  all_goals refine ⟨ret_bool ?_, rfl⟩
  all_goals simp [numB, *]
  all_goals omega

theorem szItem_any (s : ByteArray) (n left : Int) (w : World) (hs : s.size ≤ maxLen) (hl : 0 ≤ left) (hu : left ≤ 1048576) :
    Calls Try.prog 139 #[.agg #[.string s, .int .i64 n], .int .i64 left] w fun e w' =>
      e = .returned (.int .i64 (if left - s.size < 0 then -1 else left - s.size)) ∧ Below w.heap.size w w' := by
  unfold maxLen at hs
  go_enter Try.func139, Try.ntmps139
  go_wp2
  all_goals go_ret
  all_goals exact ⟨rfl, (Below.refl _ _).alloc (Nat.le_refl _) _⟩

theorem eqItem_any (s t : ByteArray) (n m : Int) (w : World) :
    Calls Try.prog 93 #[.agg #[.string s, .int .i64 n], .agg #[.string t, .int .i64 m]] w fun e w' =>
      e = .returned (.bool (decide (s = t) && decide (n = m))) ∧ Below w.heap.size w w' := by
  go_enter Try.func93, Try.ntmps93
  go_wp2
  all_goals go_ret
  all_goals refine ⟨ret_bool ?_, ((Below.refl _ _).alloc (Nat.le_refl _) _).alloc (by simp) _⟩
  all_goals simp_all [beq_keys]

theorem toItem_any (s : ByteArray) (n : Int) (w : World) :
    Calls Try.prog 141 #[.agg #[.string s, .int .i64 n]] w fun e w' =>
      e = .returned (.agg #[.string s, .int .i64 n]) ∧ Below w.heap.size w w' := by
  go_enter Try.func141, Try.ntmps141
  go_wp2
  exact bodyPost_ret (v := .agg #[.string s, .int .i64 n]) (by simp [results, Try.results141, go_sem]) rfl ⟨rfl, by repeat (first | exact Below.refl _ _ | (refine Below.alloc ?_ (by simp <;> omega) _) | (refine Below.setCell ?_ (by simp) _))⟩
end Go.Proofs.Ytlclhdolcokipaa
