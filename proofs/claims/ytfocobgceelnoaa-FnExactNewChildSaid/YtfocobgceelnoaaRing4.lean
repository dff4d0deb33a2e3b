/-
  The program's ring: pushed, moved, looked for, listed, made of a list.
-/
import Derived.Test.YtfocobgceelnoaaRing3
import Derived.LaidEqlPtr
import Derived.Lib.Builder
namespace Go.Proofs.Ytfocobgceelnoaa
open Go.RowKit

section
variable {K : Nat → Prop} {w w' : World} {r rt : Nat} {ns : List Nod}
/-! ### looked for -/
theorem hasKey_any (s : ByteArray) (w : World) : Calls Try.prog 84 #[.string s] w fun e w' => e = .returned (.func (.func 99) #[] #[.pointer (some ⟨w.heap.size, 0, none⟩)]) ∧ w' = w.alloc (.cells #[.string s] 9) := by
  have hmf : ∀ (fn : Fn) (first cap : Array Value) (w : World), (Instr.makeFunc fn first cap).run Try.prog w = .ok (.func fn first cap) w := fun _ _ _ _ => rfl
  go_enter Try.func84, Try.ntmps84
  go_wp2
  go_ret
  exact ⟨rfl, rfl⟩
theorem hasKey1_any (x : Itm) (s : ByteArray) (kb : Nat) (w : World) (hk : w.heap[kb]? = some (.cells #[.string s] 9 (0, 0))) :
    Calls Try.prog 99 #[.agg #[.string x.1, .int .i64 x.2], .pointer (some ⟨kb, 0, none⟩)] w fun e w' => e = .returned (.bool (decide (x.1 = s))) ∧ Below w.heap.size w w' := by
  have c0 := cell_of_one hk
  have hlt := lt_of_block hk
  clear hk
  go_enter Try.func99, Try.ntmps99
  go_wp2
  go_ret
  exact ⟨ret_bool (beq_keys _ _), (Below.refl _ _).alloc (Nat.le_refl _) _⟩

theorem ret_ptr {a b : Option Addr} (h : a = b) : Ending.returned (.pointer a) = .returned (.pointer b) := by rw [h]
def findI : List Nod → ByteArray → Option Addr
  | [], _ => none
  | n :: r, k => if n.2.1 = k then some ⟨n.1, 0, none⟩ else findI r k
theorem hasKey1_v {x : Itm} {s : ByteArray} {kb : Nat} {b : Bool} (w : World) (hk : w.heap[kb]? = some (.cells #[.string s] 9 (0, 0))) (hb : decide (x.1 = s) = b) :
    Calls Try.prog 99 #[.agg #[.string x.1, .int .i64 x.2], .pointer (some ⟨kb, 0, none⟩)] w fun e w' => e = .returned (.bool b) ∧ Below w.heap.size w w' :=
  (hasKey1_any x s kb w hk).mono fun _ _ ⟨he, hw⟩ => ⟨hb ▸ he, hw⟩

theorem run_neq_ptr_other {P : Program} (w : World) {tp te : TypeId} {j : TypeInfo} {a b : Addr} {ca cb : Array Value} {ta tb : TypeId} (hp : P.underlying tp = some (.pointer te)) (hte : P.info? te = some j) (hsz : j.size ≠ 0)
    (hne : a ≠ b) (ha : w.heap[a.block]? = some (.cells ca ta (0, 0))) (hb : w.heap[b.block]? = some (.cells cb tb (0, 0))) :
    (binOp .neq tp (.pointer (some a)) (.pointer (some b))).run P w = .ok (.bool true) w := by
  have h : ∀ d : Nat, (Op.equalIn (d + 1) tp (.pointer (some a)) (.pointer (some b))).run P w = .ok false w := fun d => by
    simp [Op.equalIn, run_underlying hp, sizeOf, typeInfo, hte, hsz, run_sameAddr_other w hne ha hb]
  simp only [binOp]
  simp [Op.equal, Op.maxDepth, h 9999]
end
end Go.Proofs.Ytfocobgceelnoaa
