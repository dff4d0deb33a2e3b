/-
  Ring4, Ring5, Ring6.
-/
import Derived.LaidEqlPtr
import Derived.Lib.Builder
import Derived.Test.YtloalakpkjbeaaaP13
/-
  The program's ring: pushed, moved, looked for, listed, made of a list.
-/
namespace Go.Proofs.Ytloalakpkjbeaaa
open Go.RowKit

section
variable {K : Nat → Prop} {w w' : World} {r rt : Nat} {ns : List Nod}
/-! ### looked for -/
theorem hasKey_any (s : ByteArray) (w : World) : Calls Try.prog 91 #[.string s] w fun e w' => e = .returned (.func (.func 98) #[] #[.pointer (some ⟨w.heap.size, 0, none⟩)]) ∧ w' = w.alloc (.cells #[.string s] 9) := by
  have hmf : ∀ (fn : Fn) (first cap : Array Value) (w : World), (Instr.makeFunc fn first cap).run Try.prog w = .ok (.func fn first cap) w := fun _ _ _ _ => rfl
  go_enter Try.func91, Try.ntmps91
  go_wp2
  go_ret
  exact ⟨rfl, rfl⟩
theorem hasKey1_any (x : Itm) (s : ByteArray) (kb : Nat) (w : World) (hk : w.heap[kb]? = some (.cells #[.string s] 9 (0, 0))) :
    Calls Try.prog 98 #[.agg #[.string x.1, .int .i64 x.2], .pointer (some ⟨kb, 0, none⟩)] w fun e w' => e = .returned (.bool (decide (x.1 = s))) ∧ Below w.heap.size w w' := by
  have c0 := cell_of_one hk
  have hlt := lt_of_block hk
  clear hk
  go_enter Try.func98, Try.ntmps98
  go_wp2
  go_ret
  exact ⟨ret_bool (beq_keys _ _), (Below.refl _ _).alloc (Nat.le_refl _) _⟩

theorem ret_ptr {a b : Option Addr} (h : a = b) : Ending.returned (.pointer a) = .returned (.pointer b) := by rw [h]
def findI : List Nod → ByteArray → Option Addr
  | [], _ => none
  | n :: r, k => if n.2.1 = k then some ⟨n.1, 0, none⟩ else findI r k
theorem hasKey1_v {x : Itm} {s : ByteArray} {kb : Nat} {b : Bool} (w : World) (hk : w.heap[kb]? = some (.cells #[.string s] 9 (0, 0))) (hb : decide (x.1 = s) = b) :
    Calls Try.prog 98 #[.agg #[.string x.1, .int .i64 x.2], .pointer (some ⟨kb, 0, none⟩)] w fun e w' => e = .returned (.bool b) ∧ Below w.heap.size w w' :=
  (hasKey1_any x s kb w hk).mono fun _ _ ⟨he, hw⟩ => ⟨hb ▸ he, hw⟩

theorem run_neq_ptr_other {P : Program} (w : World) {tp te : TypeId} {j : TypeInfo} {a b : Addr} {ca cb : Array Value} {ta tb : TypeId} (hp : P.underlying tp = some (.pointer te)) (hte : P.info? te = some j) (hsz : j.size ≠ 0)
    (hne : a ≠ b) (ha : w.heap[a.block]? = some (.cells ca ta (0, 0))) (hb : w.heap[b.block]? = some (.cells cb tb (0, 0))) :
    (binOp .neq tp (.pointer (some a)) (.pointer (some b))).run P w = .ok (.bool true) w := by
  have h : ∀ d : Nat, (Op.equalIn (d + 1) tp (.pointer (some a)) (.pointer (some b))).run P w = .ok false w := fun d => by
    simp [Op.equalIn, run_underlying hp, sizeOf, typeInfo, hte, hsz, run_sameAddr_other w hne ha hb]
  simp only [binOp]
  simp [Op.equal, Op.maxDepth, h 9999]
end
end Go.Proofs.Ytloalakpkjbeaaa
/-
  The program's ring: listed, made of a list; a key found in it, an item put into it.
-/
namespace Go.Proofs.Ytloalakpkjbeaaa
open Go.RowKit

section
variable {K : Nat → Prop} {w w' : World} {r rt : Nat} {ns : List Nod}

theorem its_app (a b : List Nod) : its (a ++ b) = its a ++ its b := by simp
theorem its_len (a : List Nod) : (its a).length = a.length := by simp

end
end Go.Proofs.Ytloalakpkjbeaaa
/-
  The program's ring: a key found in it, an item put into it.
-/
namespace Go.Proofs.Ytloalakpkjbeaaa
open Go.RowKit

section
variable {K : Nat → Prop} {w w' : World} {r rt : Nat} {ns : List Nod}

theorem find_no {l : List Nod} {s : ByteArray} (h : hasI (its l) s = false) : findI l s = none := by
  induction l with
  | nil => rfl
  | cons n l ih =>
    simp only [List.map_cons, hasI, Bool.or_eq_false_iff, decide_eq_false_iff_not] at h
    unfold findI
    rw [if_neg h.1]
    exact ih h.2
theorem find_yes {l : List Nod} {s : ByteArray} (h : hasI (its l) s = true) : ∃ p a x q, l = p ++ (a, x) :: q ∧ x.1 = s ∧ hasI (its p) s = false ∧ findI l s = some ⟨a, 0, none⟩ := by
  induction l with
  | nil => simp [hasI] at h
  | cons n l ih =>
    by_cases e : n.2.1 = s
    · exact ⟨[], n.1, n.2, l, rfl, e, rfl, by unfold findI; rw [if_pos e]⟩
    · simp only [List.map_cons, hasI, e, decide_false, Bool.false_or] at h
      obtain ⟨p, a, x, q, rfl, h1, h2, h3⟩ := ih h
      exact ⟨n :: p, a, x, q, rfl, h1, by simp only [List.map_cons, hasI, e, decide_false, Bool.false_or]; exact h2, by unfold findI; rw [if_neg e]; exact h3⟩

def NotFoundPost (w : World) (e : Ending) (w' : World) : Prop :=
  ∃ v, e = .returned (.tuple #[v, .pointer none]) ∧ Below w.heap.size w w'

end
end Go.Proofs.Ytloalakpkjbeaaa
