/-
  Items compared by the language's own '!='.
-/
import Derived.Test.YtloalakpkjbeaaaLaw1
import Derived.StillTailTactics
namespace Go.Proofs.Ytloalakpkjbeaaa
open Go.RowKit

theorem beq_bytes (a b : ByteArray) : (a == b) = (a.toList == b.toList) := by
  rw [ByteArray.toList_eq, ByteArray.toList_eq]
  obtain ⟨⟨x⟩⟩ := a
  obtain ⟨⟨y⟩⟩ := b
  show ((⟨x⟩ : Array UInt8) == ⟨y⟩) = (x == y)
  simp
theorem eqI_parts (x y : Itm) : decide (x = y) = ((x.1.toList == y.1.toList) && (x.2 == y.2)) := by
  rw [beq_keys, Bool.eq_iff_iff, Bool.and_eq_true, decide_eq_true_eq, decide_eq_true_eq, beq_iff_eq, Prod.ext_iff]
theorem item_equalIn (d : Nat) (a b : ByteArray) (m n : Int) (w : World) :
    (Op.equalIn (d + 1 + 1) 39 (.agg #[.string a, .int .i64 m]) (.agg #[.string b, .int .i64 n])).run Try.prog w = .ok ((a.toList == b.toList) && (m == n)) w := by
  have hp : Try.prog.stoodInHeld 39 = false := by kernel_rfl
  have hs : ∀ x y : ByteArray, (Op.equalIn (d + 1) 9 (.string x) (.string y)).run Try.prog w = .ok (x.toList == y.toList) w := fun x y => by
    simp [Op.equalIn, run_underlying Try.underlying9, beq_bytes]
  have hn : ∀ x y : Int, (Op.equalIn (d + 1) 3 (.int .i64 x) (.int .i64 y)).run Try.prog w = .ok (x == y) w := fun x y => by
    simp [Op.equalIn, run_underlying Try.underlying3]
  rw [Op.equalIn]
  simp only [Sem.run_bind, run_underlying Try.underlying39, Result.andThen_ok, run_program, hp, Bool.false_eq_true, if_false]
  have p1 : ∀ (x : ByteArray) (y : Int), (part 9 #[Value.string x, Value.int .i64 y] 0).run Try.prog w = .ok (.string x) w := fun x y => by simp [part]
  have p2 : ∀ (x : ByteArray) (y : Int), (part 3 #[Value.string x, Value.int .i64 y] 1).run Try.prog w = .ok (.int .i64 y) w := fun x y => by simp [part]
  rw [← Array.forIn_toList]
  cases h1 : (a.toList == b.toList) <;> cases h2 : (m == n) <;> simp [List.forIn_cons, Sem.run_bind, p1, p2, hs, hn, h1, h2, Result.andThen]
theorem item_neq (a b : ByteArray) (m n : Int) (w : World) :
    (binOp .neq 39 (.agg #[.string a, .int .i64 m]) (.agg #[.string b, .int .i64 n])).run Try.prog w = .ok (.bool (!((a.toList == b.toList) && (m == n)))) w := by
  have h := item_equalIn 9998 a b m n w
  simp only [binOp]
  simp only [Op.equal, Op.maxDepth, Sem.run_bind]
  rw [show (10000 : Nat) = 9998 + 1 + 1 from rfl, h]
  rfl
theorem item_guard (x y : Operand) (xs ys : Array Value) (w : World) : (eqGuard .neq 39 x y (.agg xs) (.agg ys)).run Try.prog w = .ok () w := by
  have hm : Try.prog.eqGuardType Try.prog.depth 39 = false := by kernel_rfl
  simp [eqGuard, run_program, hm]

end Go.Proofs.Ytloalakpkjbeaaa
